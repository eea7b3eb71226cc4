/-
  Scripts that are refused, scripts that stop: plain facts; what judge.Judge does with a script that is refused: the walk.
-/
import Derived.Test.YtlcnfpeabnnjoaaGreatDoorJudScr
import Derived.Test.YtlcnfpeabnnjoaaGreatDoorAppCmd
namespace Go.Proofs.YtlcnfpeabnnjoaaGreatDoor
open Go.RowKit Go.Proofs

set_option maxHeartbeats 1000000 in
set_option maxRecDepth 100000 in
theorem Judge_bad (n : Nat) (l : List Cmd) (a : Option Addr) (k : Nat) (o : Opn) (w : World) (hw : Tabs w) (hk : l.length ≤ k) (hn : l = [] → a = none ∧ k = 0) (hs : ∀ x ∈ l, ShortC (n + 1) x) (hC : CmdsM anyB (n + 1) w (.slice a l.length k) l) (z : Int) (hr : ruleM (n + 1) l = z) (hz : z ≠ 0) :
    Calls Tryz.prog 15 #[.slice a l.length k, .agg #[.string (S o.fl), .string (S o.fd), .string (S o.tl), .string (S o.td), .string (S o.tx)]] w fun e w' => e = .returned (.tuple #[.agg #[.slice none 0 0, .int .i64 0, .bool false, .int .i64 0], .int .i64 z]) ∧ Below w.heap.size w w' := by
  have hzb : (z == 0) = false := by simpa using hz
  obtain ⟨W0, hW0⟩ : ∃ W0, W0 = (w.alloc (.cells #[.string (S o.fl), .string (S o.fd), .string (S o.tl), .string (S o.td), .string (S o.tx)] 33)).alloc (.cells #[.slice none 0 0, .int .i64 0, .bool false, .int .i64 0] 53) := ⟨_, rfl⟩
  have HWE := hid hW0
  have HB0 := hid (show Below w.heap.size w W0 by rw [hW0]; exact ((Below.refl _ _).alloc (Nat.le_refl _) _).alloc (by simp) _)
  have HR0 := hid (show W0.heap[w.heap.size + 1]? = some (.cells #[.slice none 0 0, .int .i64 0, .bool false, .int .i64 0] 53) by rw [hW0]; exact tl_at _ (by simp))
  have HCH := hid (show Calls Tryz.prog 32 #[.slice a l.length k] W0 fun e w' => e = .returned (.int .i64 z) ∧ Below W0.heap.size W0 w' by
    have := rcheck_any n l a k W0 (hw.next HB0.out) hk hn hs (CmdsM.next hC HB0.out)
    rw [hr] at this
    exact this)
  have hlm := hC.small
  clear hw hk hn hs hC hr hW0 hz
  go_enter Tryz.func15, Tryz.ntmps15
  go_wp2_with fail
  rw [← HWE.out]
  refine HCH.out.mono ?_
  rintro e w1 ⟨rfl, hb1⟩
  simp only
  have HB1 := hid (HB0.out.trans (hb1.mono HB0.out.size))
  have hR1 := tl_low hb1 HR0.out
  have r0 := tl_cell (j := 0) hR1 rfl
  have r1 := tl_cell (j := 1) hR1 rfl
  have r2 := tl_cell (j := 2) hR1 rfl
  have r3 := tl_cell (j := 3) hR1 rfl
  have fr : ∀ j, w1.frozen? ⟨w.heap.size + 1, j, none⟩ = false := fun j => by simp only [World.frozen?, hR1]; simp
  have g0 := fr 0
  have g1 := fr 1
  have g2 := fr 2
  have g3 := fr 3
  clear hb1 hR1 HWE HCH fr
  go_wp2
  refine bodyPost_ret (v := .tuple #[.agg #[.slice none 0 0, .int .i64 0, .bool false, .int .i64 0], .int .i64 z]) (by simp [results, Tryz.results15, go_sem, *]) rfl ?_
  exact ⟨rfl, (((HB1.out.setCell (by simp) _).setCell (by simp) _).setCell (by simp) _).setCell (by simp) _⟩

theorem mem_at {A : Type} {l : List A} {x : A} (h : x ∈ l) : ∃ i : Nat, l[i]? = some x := by
  obtain ⟨i, hi, e⟩ := List.getElem_of_mem h
  exact ⟨i, by rw [List.getElem?_eq_getElem hi, e]⟩
theorem tst_fault {Q : Nat → Prop} {w : World} : ∀ (m n d : Nat) (t : Tst) (cs : List Value), TstM Q m w t cs → FitT n t → d + m ≤ 7 → faultTst n d t = 0 := by
  intro m
  induction m with
  | zero => intro n d t cs h; exact h.elim
  | succ m ih =>
    intro n d t cs h hF hd
    cases n with
    | zero => rfl
    | succ n =>
      obtain ⟨h1, h2⟩ := hF
      unfold fitH at h1
      simp only [Bool.and_eq_true, decide_eq_true_eq] at h1
      obtain ⟨⟨⟨⟨⟨k1, k2⟩, hf⟩, _⟩, _⟩, _⟩ := h1
      have hn : isNumP 1 t.kind = true := by rw [isNum_tst]; simp; omega
      obtain ⟨_, _, vt, _, _, _, hr⟩ := h
      obtain ⟨_, _, _, _, hrr⟩ := hr
      unfold faultTst
      have e : oneP (isNumP 1 t.kind) d (fitsT t) = 0 := by unfold oneP; rw [hn, hf, if_neg (by simp), if_neg (by omega), if_neg (by simp)]
      rw [if_pos e]
      refine firstP_zero fun x hx => ?_
      obtain ⟨i, hi⟩ := mem_at hx
      obtain ⟨_, _, cs', _, _, _, _, _, hP⟩ := hrr i x hi
      exact ih n (d + 1) x cs' hP (h2 x hx) (by omega)
theorem cmd_fault {Q : Nat → Prop} {w : World} : ∀ (m n d : Nat) (c : Cmd) (cs : List Value), CmdM Q m w c cs → FitC n c → d + m ≤ 7 → faultCmd n d c = 0 := by
  intro m
  induction m with
  | zero => intro n d t cs h; exact h.elim
  | succ m ih =>
    intro n d c cs h hF hd
    cases n with
    | zero => rfl
    | succ n =>
      obtain ⟨h1, h2, h3, h4⟩ := hF
      unfold fitHC at h1
      simp only [Bool.and_eq_true, decide_eq_true_eq] at h1
      obtain ⟨⟨⟨⟨⟨k1, k2⟩, hf⟩, _⟩, _⟩, _⟩ := h1
      have hn : isNumP 0 c.kind = true := by rw [isNum_cmd]; simp; omega
      obtain ⟨_, _, _, _, _, _, _, _, hT, hA, hE⟩ := h
      obtain ⟨_, _, _, _, hAr⟩ := hA
      obtain ⟨_, _, _, _, hEr⟩ := hE
      have e : oneP (isNumP 0 c.kind) d (fitsC c) = 0 := by unfold oneP; rw [hn, hf, if_neg (by simp), if_neg (by omega), if_neg (by simp)]
      rw [faultCmd_step, if_neg (by rw [e]; simp)]
      by_cases hk : c.kind = 2
      · rw [if_neg (by simpa using hk), if_neg (by rw [tst_fault m n 1 c.test _ hT (h2 hk) (by omega)]; simp)]
        have hthn : firstP (faultCmd n (d + 1)) c.thn = 0 := firstP_zero fun x hx => by
          obtain ⟨i, hi⟩ := mem_at hx
          obtain ⟨_, _, cs', _, _, _, _, _, hP⟩ := hAr i x hi
          exact ih n (d + 1) x cs' hP (h3 x hx) (by omega)
        rw [if_neg (by rw [hthn]; simp)]
        have hel : ∀ (d' : Nat), d' ≤ d + 1 → ∀ x ∈ c.els, faultCmd n d' x = 0 := fun d' hd' x hx => by
          obtain ⟨i, hi⟩ := mem_at hx
          obtain ⟨_, _, cs', _, _, _, _, _, hP⟩ := hEr i x hi
          exact ih n d' x cs' hP (h4 x hx) (by omega)
        split
        · rename_i x hx
          have hm : x ∈ c.els := by
            unfold elsifP at hx
            split at hx
            · split at hx
              · cases hx; simp_all
              · cases hx
            · cases hx
          exact hel d (by omega) x hm
        · exact firstP_zero fun x hx => hel (d + 1) (Nat.le_refl _) x hx
      · rw [if_pos hk]
theorem fault_row {Q : Nat → Prop} {w : World} {m n : Nat} {v : Value} {l : List Cmd} (h : CmdsM Q m w v l) (hN : ∀ x ∈ l, NC x) (hm : m ≤ 7) : ∀ x ∈ l, faultCmd n 0 x = 0 := by
  intro x hx
  obtain ⟨_, _, _, _, hr⟩ := h
  obtain ⟨i, hi⟩ := mem_at hx
  obtain ⟨_, _, cs', _, _, _, _, _, hP⟩ := hr i x hi
  exact cmd_fault m n 0 x cs' hP (hN x hx n).2 (by omega)
/-- A script of the laws is allowed, or too long. -/
theorem rule_nice {n : Nat} {r : List Cmd} (hN : ∀ x ∈ r, NC x) (hf : ∀ x ∈ r, faultCmd (n + 1) 0 x = 0) : ruleM (n + 1) (reqC :: r) = 0 ∨ ruleM (n + 1) (reqC :: r) = 5 := by
  rcases checkM_or (n := n + 1) (l := reqC :: r) (fun x hx => by
    rcases List.mem_cons.1 hx with e | e
    · rw [e]; exact fault_req _
    · exact hf x e) with h | h
  · exact .inl (rule_allowed h fun x hx => (hN x hx _).1)
  · right
    unfold ruleM
    rw [if_pos (by rw [h]; simp), h]

/- Stop. -/
def stopC : Cmd := ⟨10, [], noneT, [], []⟩
theorem stop_nc : NC stopC := NC.mk (by decide) (fun h => by cases h) (fun h => by rcases h with h | h <;> cases h) (fun h => by cases h) NT.none (fun u hu => by cases hu) (fun u hu => by cases hu) rfl (fun h => by cases h)
theorem fault_stop (n : Nat) : faultCmd n 0 stopC = 0 := by cases n <;> rfl
theorem stop_cmd (Q : Nat → Prop) (w : World) : CmdM Q 5 w stopC [.int .i64 10, .slice none 0 0, .int .i64 0, .int .i64 0, .int .i64 0, .slice none 0 0, .slice none 0 0, .bool false, .int .i64 0, .slice none 0 0, .slice none 0 0, .slice none 0 0] :=
  ⟨_, _, _, _, _, _, rfl, rowM_nil _ _ _ _ _ _, none_tst _ _ _, rowM_nil _ _ _ _ _ _, rowM_nil _ _ _ _ _ _⟩
theorem follow_app (o : Opn) (n : Nat) (l m : List Cmd) (s : Crs × Bool) : followP o (n + 1) (l ++ m) s = followP o (n + 1) m (followP o (n + 1) l s) := by
  show (l ++ m).foldl _ s = m.foldl _ (l.foldl _ s)
  rw [List.foldl_append]
theorem follow_stop (o : Opn) (n : Nat) (s : Crs × Bool) : followP o (n + 1) [stopC] s = (s.1, true) := by
  show stepP _ _ s stopC = _
  unfold stepP
  by_cases h : s.2 = true
  · rw [if_pos h, ← h]
  · rw [if_neg h, if_pos (by decide)]
    rfl
theorem judge_stop (o : Opn) (n : Nat) (l : List Cmd) : judgeP o (n + 1) (l ++ [stopC]) = judgeP o (n + 1) l := by
  unfold judgeP
  rw [follow_app, follow_stop]
theorem judge_more (o : Opn) (n : Nat) (l m : List Cmd) : judgeP o (n + 1) (l ++ [stopC] ++ m) = judgeP o (n + 1) l := by
  unfold judgeP
  rw [follow_app, follow_app, follow_stop]
  have h : followP o (n + 1) m ((followP o (n + 1) l (newC, false)).1, true) = ((followP o (n + 1) l (newC, false)).1, true) := fold_over m _ rfl
  rw [h]
theorem end_some (c : Crs) : 0 < (endP c).length ∨ c.asked = true := by
  unfold endP
  split
  · left; simp
  · split
    · left; simp
    · rename_i h
      right
      simpa using h
end Go.Proofs.YtlcnfpeabnnjoaaGreatDoor
