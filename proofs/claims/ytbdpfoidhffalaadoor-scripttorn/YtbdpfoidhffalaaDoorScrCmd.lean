/-
  What script's commandFits, isElsif, checkCommand, checkCommands do: the walks.
-/
import Derived.Test.YtbdpfoidhffalaaDoorScrCheck
namespace Go.Proofs.YtbdpfoidhffalaaDoor
open Go.RowKit Go.Proofs

theorem cmd_form {Q : Nat → Prop} {n : Nat} {w : World} {c : Cmd} {cs : List Value} (h : CmdM Q n w c cs) : ∃ ax cx an cn ak ck at' ct aa ca ae ce m, n = m + 1 ∧
    cs = [.int .i64 c.kind, .slice ax c.texts.length cx, .int .i64 c.test.kind, .int .i64 c.test.mat, .int .i64 c.test.part, .slice an c.test.names.length cn, .slice ak c.test.keys.length ck, .bool c.test.over, .int .i64 c.test.limit, .slice at' c.test.tests.length ct, .slice aa c.thn.length ca, .slice ae c.els.length ce] ∧
    TxtsM Q w (.slice ax c.texts.length cx) c.texts ∧ TstM Q m w c.test [.int .i64 c.test.kind, .int .i64 c.test.mat, .int .i64 c.test.part, .slice an c.test.names.length cn, .slice ak c.test.keys.length ck, .bool c.test.over, .int .i64 c.test.limit, .slice at' c.test.tests.length ct] ∧ CmdsM Q m w (.slice aa c.thn.length ca) c.thn ∧ CmdsM Q m w (.slice ae c.els.length ce) c.els := by
  cases n with
  | zero => exact h.elim
  | succ m =>
    obtain ⟨vx, vn, vk, vt, va, ve, h0, h1, h2, h3, h4⟩ := h
    obtain ⟨ax, cx, rfl⟩ := h1.slice
    obtain ⟨aa, ca, rfl⟩ := h3.slice
    obtain ⟨ae, ce, rfl⟩ := h4.slice
    obtain ⟨an, cn, ak, ck, at', ct, k, _, he, _⟩ := tst_form h2
    simp only [List.cons.injEq, true_and, and_true] at he
    obtain ⟨rfl, rfl, rfl⟩ := he
    exact ⟨ax, cx, an, cn, ak, ck, at', ct, aa, ca, ae, ce, m, rfl, h0, h1, h2, h3, h4⟩
theorem cmd_at {Q : Nat → Prop} {n : Nat} {w : World} {a : Option Addr} {c : Nat} {l : List Cmd} (h : CmdsM Q n w (.slice a l.length c) l) {i : Nat} {x : Cmd} (hx : l[i]? = some x) :
    ∃ b o ax cx an cn ak ck at' ct aa ca ae ce, a = some ⟨b, o, none⟩ ∧ b < w.heap.size ∧
      w.cell? ⟨b, o + i * 12, none⟩ = some (.int .i64 x.kind) ∧
      w.cell? ⟨b, o + i * 12 + 1, none⟩ = some (.slice ax x.texts.length cx) ∧
      w.cell? ⟨b, o + i * 12 + 2, none⟩ = some (.int .i64 x.test.kind) ∧
      w.cell? ⟨b, o + i * 12 + 3, none⟩ = some (.int .i64 x.test.mat) ∧
      w.cell? ⟨b, o + i * 12 + 4, none⟩ = some (.int .i64 x.test.part) ∧
      w.cell? ⟨b, o + i * 12 + 5, none⟩ = some (.slice an x.test.names.length cn) ∧
      w.cell? ⟨b, o + i * 12 + 6, none⟩ = some (.slice ak x.test.keys.length ck) ∧
      w.cell? ⟨b, o + i * 12 + 7, none⟩ = some (.bool x.test.over) ∧
      w.cell? ⟨b, o + i * 12 + 8, none⟩ = some (.int .i64 x.test.limit) ∧
      w.cell? ⟨b, o + i * 12 + 9, none⟩ = some (.slice at' x.test.tests.length ct) ∧
      w.cell? ⟨b, o + i * 12 + 10, none⟩ = some (.slice aa x.thn.length ca) ∧
      w.cell? ⟨b, o + i * 12 + 11, none⟩ = some (.slice ae x.els.length ce) ∧
      CmdM Q n w x [.int .i64 x.kind, .slice ax x.texts.length cx, .int .i64 x.test.kind, .int .i64 x.test.mat, .int .i64 x.test.part, .slice an x.test.names.length cn, .slice ak x.test.keys.length ck, .bool x.test.over, .int .i64 x.test.limit, .slice at' x.test.tests.length ct, .slice aa x.thn.length ca, .slice ae x.els.length ce] := by
  obtain ⟨a', c', hv, _, hr⟩ := h
  simp only [Value.slice.injEq, true_and] at hv
  obtain ⟨rfl, rfl⟩ := hv
  obtain ⟨b, o, cs, ha, hb, _, _, hc, hP⟩ := hr i x hx
  obtain ⟨ax, cx, an, cn, ak, ck, at', ct, aa, ca, ae, ce, m, _, rfl, _⟩ := cmd_form hP
  exact ⟨b, o, ax, cx, an, cn, ak, ck, at', ct, aa, ca, ae, ce, ha, hb, hc 0 _ rfl, hc 1 _ rfl, hc 2 _ rfl, hc 3 _ rfl, hc 4 _ rfl, hc 5 _ rfl, hc 6 _ rfl, hc 7 _ rfl, hc 8 _ rfl, hc 9 _ rfl, hc 10 _ rfl, hc 11 _ rfl, hP⟩

theorem no_noB (t : Tst) : noTst t = noB t.kind t.mat t.part t.names.length t.keys.length t.over t.limit t.tests.length := rfl

set_option maxHeartbeats 8000000 in
theorem commandFits_any (c : Cmd) (ax an ak at' aa ae : Option Addr) (cx cn ck ct ca ce : Nat) (w : World) :
    Calls Tryd.prog 60 #[.agg #[.int .i64 c.kind, .slice ax c.texts.length cx, .int .i64 c.test.kind, .int .i64 c.test.mat, .int .i64 c.test.part, .slice an c.test.names.length cn, .slice ak c.test.keys.length ck, .bool c.test.over, .int .i64 c.test.limit, .slice at' c.test.tests.length ct, .slice aa c.thn.length ca, .slice ae c.els.length ce]] w fun e w' => e = .returned (.bool (fitsC c)) ∧ Below w.heap.size w w' := by
  by_cases h2 : c.kind = 2
  · have HR : Hid (fitsC c = decide (c.texts.length = 0)) := by unfold Hid fitsC; simp [h2]
    go_enter Tryd.func60, Tryd.ntmps60
    go_wp2_with fail
    go_ret
    exact ⟨ret_bool (by rw [HR.out]; rw [Bool.eq_iff_iff]; simp <;> omega), (Below.refl _ _).alloc (Nat.le_refl _) _⟩
  · obtain ⟨y, hy⟩ : ∃ y : Bool, y = decide (0 < c.thn.length ∨ 0 < c.els.length ∨ noTst c.test = false) := ⟨_, rfl⟩
    have HR : Hid (fitsC c = if y = true then false else if c.kind = 1 ∨ c.kind = 8 ∨ c.kind = 9 then decide (0 < c.texts.length) else if c.kind = 5 ∨ c.kind = 6 ∨ c.kind = 7 then decide (c.texts.length = 1) else decide (c.texts.length = 0)) := by
      unfold Hid fitsC; rw [hy]; simp [h2]
    have HY : Hid (y = decide (0 < c.thn.length ∨ 0 < c.els.length ∨ noB c.test.kind c.test.mat c.test.part c.test.names.length c.test.keys.length c.test.over c.test.limit c.test.tests.length = false)) := hy
    clear hy
    generalize c.thn.length = l1 at *
    generalize c.els.length = l2 at *
    have hq2 : (c.kind != 2) = true := by simpa using h2
    rcases Nat.eq_zero_or_pos l1 with rfl | hl1
    · rcases Nat.eq_zero_or_pos l2 with rfl | hl2
      · go_enter Tryd.func60, Tryd.ntmps60
        go_wp2_with fail
        refine (isNo_any _ _ _ _ _ _ _ _ _ _ _ _ _ _ _).mono ?_
        rintro e u ⟨rfl, hb⟩
        have hB : u.heap[w.heap.size]? = some (.cells #[.int .i64 c.kind, .slice ax c.texts.length cx, .int .i64 c.test.kind, .int .i64 c.test.mat, .int .i64 c.test.part, .slice an c.test.names.length cn, .slice ak c.test.keys.length ck, .bool c.test.over, .int .i64 c.test.limit, .slice at' c.test.tests.length ct, .slice aa 0 ca, .slice ae 0 ce] 47) := (hb.block _ (by simp)).trans (heap_alloc_new w _)
        have g0 : u.cell? ⟨w.heap.size, 0, none⟩ = some (.int .i64 c.kind) := by simp [World.cell?, hB]
        have g1 : u.cell? ⟨w.heap.size, 1, none⟩ = some (.slice ax c.texts.length cx) := by simp [World.cell?, hB]
        have HB : Hid (Below w.heap.size w u) := ((Below.refl _ _).alloc (Nat.le_refl _) _).trans (hb.mono (by simp))
        obtain ⟨q, hq⟩ : ∃ q, q = noB c.test.kind c.test.mat c.test.part c.test.names.length c.test.keys.length c.test.over c.test.limit c.test.tests.length := ⟨_, rfl⟩
        rw [← hq]
        have HY2 : Hid (y = !q) := by unfold Hid; rw [HY.out, ← hq]; cases q <;> simp
        clear hq HY hB hb
        cases q with
        | false =>
          go_wp2
          go_ret
          exact ⟨ret_bool (by rw [HR.out, HY2.out]; rfl), HB.out⟩
        | true =>
          have HR2 : Hid (fitsC c = if c.kind = 1 ∨ c.kind = 8 ∨ c.kind = 9 then decide (0 < c.texts.length) else if c.kind = 5 ∨ c.kind = 6 ∨ c.kind = 7 then decide (c.texts.length = 1) else decide (c.texts.length = 0)) := by unfold Hid; rw [HR.out, HY2.out]; rfl
          clear HR HY2
          generalize c.texts.length = l3 at *
          generalize c.kind = kk at *
          go_wp2
          all_goals go_ret
          all_goals refine ⟨ret_bool ?_, HB.out⟩
          all_goals rw [HR2.out, Bool.eq_iff_iff]
          all_goals simp only [beq_iff_eq, beq_eq_false_iff_ne, ne_eq] at *
          all_goals (repeat' split) <;> simp <;> omega
      · have HR2 : Hid (fitsC c = false) := by unfold Hid; rw [HR.out, HY.out]; simp [hl2]
        have hl2' : (0 : Int) < (l2 : Int) := by omega
        go_enter Tryd.func60, Tryd.ntmps60
        go_wp2_with fail
        go_ret
        exact ⟨ret_bool (by rw [HR2.out]), (Below.refl _ _).alloc (Nat.le_refl _) _⟩
    · have HR2 : Hid (fitsC c = false) := by unfold Hid; rw [HR.out, HY.out]; simp [hl1]
      have hl1' : (0 : Int) < (l1 : Int) := by omega
      go_enter Tryd.func60, Tryd.ntmps60
      go_wp2_with fail
      go_ret
      exact ⟨ret_bool (by rw [HR2.out]), (Below.refl _ _).alloc (Nat.le_refl _) _⟩

theorem elsif_len {l : List Cmd} (h : l.length ≠ 1) : elsifP l = none := by
  match l with
  | [] => rfl
  | [c] => simp at h
  | a :: b :: r => rfl
set_option maxHeartbeats 4000000 in
theorem isElsif_any (n : Nat) (l : List Cmd) (a : Option Addr) (c : Nat) (w : World) (h : CmdsM anyB n w (.slice a l.length c) l) :
    Calls Tryd.prog 62 #[.slice a l.length c] w fun e w' => e = .returned (.bool (elsifP l).isSome) ∧ w' = w := by
  by_cases h1 : l.length = 1
  · obtain ⟨x, rfl⟩ : ∃ x, l = [x] := List.length_eq_one_iff.1 h1
    obtain ⟨b, o, ax, cx, an, cn, ak, ck, at', ct, aa, ca, ae, ce, rfl, hbl, e0, _⟩ := cmd_at h (i := 0) (x := x) rfl
    rw [Nat.zero_mul, Nat.add_zero] at e0
    clear h
    have HR : Hid ((elsifP [x]).isSome = decide (x.kind = 2)) := by unfold Hid elsifP; by_cases h : x.kind = 2 <;> simp [h]
    go_enter Tryd.func62, Tryd.ntmps62
    go_wp2
    go_ret
    exact ⟨ret_bool (by rw [HR.out, Bool.eq_iff_iff]; simp), rfl⟩
  · have HR : Hid ((elsifP l).isSome = false) := by unfold Hid; rw [elsif_len h1]; rfl
    have h1' : ((l.length : Int) == 1) = false := by rw [beq_eq_false_iff_ne]; omega
    go_enter Tryd.func62, Tryd.ntmps62
    go_wp2
    go_ret
    exact ⟨ret_bool (by rw [HR.out]), rfl⟩
end Go.Proofs.YtbdpfoidhffalaaDoor
