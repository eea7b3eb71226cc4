/-
  Check of any batch, and Decode of any bytes: the walks.
-/
import Derived.Test.YtkkkbggbeihbnaaDoorBkFm
import Derived.Test.YtkkkbggbeihbnaaDoorBkInv
import Derived.Test.YtkkkbggbeihbnaaDoorBkAz
namespace Go.Proofs.YtkkkbggbeihbnaaDoor
open Go.RowKit Go.Proofs

/-- The first entries have their form. -/
def formT (l : List Ent) (k : Nat) : Prop := ∀ y ∈ l.take k, Formed y
theorem formT_step {l : List Ent} {k : Nat} {x : Ent} (h : l[k]? = some x) (hx : Formed x) (hk : formT l k) : formT l (k + 1) := by
  have hlt : k < l.length := (List.getElem?_eq_some_iff.1 h).1
  intro y hy
  rw [List.take_succ_eq_append_getElem hlt, (List.getElem?_eq_some_iff.1 h).2, List.mem_append, List.mem_singleton] at hy
  rcases hy with hy | rfl
  · exact hk y hy
  · exact hx
/-- What Check answers of any batch. -/
def CkA (w : World) (b : Bat) (e : Ending) (w' : World) : Prop := (∃ er, e = .returned (.int .i64 er) ∧ (er = 0 → BatOk b)) ∧ Below w.heap.size w w'
set_option maxHeartbeats 1000000 in
set_option maxRecDepth 100000 in
theorem bcheck_any (b : Bat) (a : Option Addr) (c : Nat) (Q : Nat → Prop) (w : World) (hx : ∀ x ∈ b.ents, x.goal.length ≤ 1000000 ∧ x.text.length ≤ 1000000) (hE : EntsM Q w (.slice a b.ents.length c) b.ents) :
    Calls Tryd.prog 18 #[.agg #[.int .i64 b.user, .slice a b.ents.length c]] w (CkA w b) := by
  have hm := RowM.small hE
  unfold maxLen at hm
  obtain ⟨W1, hW1⟩ : ∃ W1, W1 = w.alloc (.cells #[.int .i64 b.user, .slice a b.ents.length c] 34) := ⟨_, rfl⟩
  have HWE := hid hW1
  have HB1 := hid (show Below w.heap.size w W1 by rw [hW1]; exact (Below.refl _ _).alloc (Nat.le_refl _) _)
  have hp : W1.heap[w.heap.size]? = some (.cells #[.int .i64 b.user, .slice a b.ents.length c] 34) := by rw [hW1]; exact heap_alloc_new w _
  obtain ⟨x0, x1, _, _⟩ := bk_box2 hp
  have HE := hid (hE.next HB1.out)
  have HXX := hid hx
  have HBAD := hid (show ∀ (er : Int) (w' : World), ¬ er = 0 → Below w.heap.size w w' → CkA w b (.returned (.int .i64 er)) w' from fun er w' h hb => ⟨⟨er, rfl, fun h0 => absurd h0 h⟩, hb⟩)
  have HGOOD := hid (show ∀ (w' : World), (0 ≤ b.user ∧ b.user < 3) → (1 ≤ b.ents.length ∧ b.ents.length ≤ 10) → formT b.ents b.ents.length → Below w.heap.size w w' → CkA w b (.returned (.int .i64 0)) w' from fun w' h1 h2 h3 hb => ⟨⟨0, rfl, fun _ => ⟨h1, h2, fun x hx => h3 x (by rw [List.take_of_length_le (Nat.le_refl _)]; exact hx)⟩⟩, hb⟩)
  obtain ⟨user, ents⟩ := b
  simp only at HWE HB1 x0 x1 HE HXX HBAD HGOOD hm ⊢
  clear hE hW1 hp hx
  by_cases hu : 0 ≤ user ∧ user < 3
  · have hU : (decide (0 ≤ user) && decide (user < 3)) = true := by simp [hu.1, hu.2]
    by_cases hn : 1 ≤ ents.length ∧ ents.length ≤ 10
    · have hn0 : ¬ (ents.length : Int) = 0 := by omega
      have hn1 : ¬ (10 : Int) < (ents.length : Int) := by omega
      have hnb : ((ents.length : Int) == 0) = false := by rw [beq_eq_false_iff_ne]; exact hn0
      have HUU := hid hu
      have HNN := hid hn
      clear hu
      go_enter Tryd.func18, Tryd.ntmps18
      go_wp2_with fail
      rw [← HWE.out]
      refine (isUser_any user W1).mono ?_
      rintro e u ⟨rfl, hu⟩
      have hu' := hu.symm
      subst hu'
      rw [hU]
      clear hu
      go_wp2
      go_loopw [25] (fun v wr => ∃ k : Nat, k ≤ ents.length ∧ v = .int .i64 k ∧ Hid (formT ents k) ∧ Hid (Below W1.heap.size W1 wr)) (fun v _ => ents.length - (intOf v).toNat)
      case atStart => exact ⟨0, Nat.zero_le _, rfl, fun y hy => by simp at hy, Below.refl _ _⟩
      case round =>
        obtain ⟨k, hk, rfl, HFT, HB⟩ := hrel
        by_cases hlt : k < ents.length
        · have k1 : (k : Int) < (ents.length : Int) := by omega
          have k0 : (0 : Int) ≤ (k : Int) := by omega
          obtain ⟨x, hx⟩ : ∃ x, ents[k]? = some x := ⟨_, List.getElem?_eq_getElem hlt⟩
          obtain ⟨b, o, rfl, _, e0, e1, e2, e3, e4, e5⟩ := (HE.out.next HB.out).at hx
          have hxl := HXX.out x (List.mem_of_getElem? hx)
          have HFS := hid (fun h : Formed x => formT_step hx h HFT.out)
          obtain ⟨W2, hW2⟩ : ∃ W2, W2 = wr.alloc (.cells #[.int .i64 x.kind, .string (S x.box), .int .i64 x.uid, .int .i64 x.flags, .string (S x.goal), .string (S x.text)] 70) := ⟨_, rfl⟩
          have HWE2 := hid hW2
          have hB2 : Below wr.heap.size wr W2 := by rw [hW2]; exact (Below.refl _ _).alloc (Nat.le_refl _) _
          have HB2 := hid (HB.out.trans (hB2.mono HB.out.size))
          have hX2 : W2.heap[wr.heap.size]? = some (.cells #[.int .i64 x.kind, .string (S x.box), .int .i64 x.uid, .int .i64 x.flags, .string (S x.goal), .string (S x.text)] 70) := by rw [hW2]; exact heap_alloc_new wr _
          obtain ⟨y0, y1, y2, y3, y4, y5⟩ := box6' hX2
          have HFO := hid (form_any x W2 hxl.1 hxl.2)
          clear hW2 hB2 hX2 hx hxl
          go_upto_region 8 with fail
          rw [← HWE2.out]
          go_wp2_with fail
          refine HFO.out.mono ?_
          rintro e w3 ⟨⟨er, rfl, he⟩, hb3⟩
          have HB3 := hid (HB2.out.trans (hb3.mono HB2.out.size))
          by_cases h0 : er = 0
          · have HF3 := hid (HFS.out (he h0))
            subst h0
            clear hb3 he
            go_wp2
            go_roundw
            case rel => first | exact ⟨k + 1, by omega, by go_num, HF3, HB3⟩ | ((repeat apply Exists.intro); exact ⟨⟨k + 1, by omega, by go_num, HF3, HB3⟩, rfl⟩)
            case measure => simp [intOf]; omega
          · have h0' : (er == 0) = false := by rw [beq_eq_false_iff_ne]; exact h0
            have HR := hid (HBAD.out er w3 h0 (HB1.out.trans (HB3.out.mono HB1.out.size)))
            clear hb3 he
            go_wp2
            go_ret
            exact HR.out
        · have k1 : ¬ (k : Int) < (ents.length : Int) := by omega
          have HR := hid (HGOOD.out wr HUU.out HNN.out (by have h := HFT.out; rw [show k = ents.length by omega] at h; exact h) (HB1.out.trans (HB.out.mono HB1.out.size)))
          go_wp2
          go_ret
          exact HR.out
    · by_cases hz : ents.length = 0
      · have hnb : ((ents.length : Int) == 0) = true := by rw [beq_iff_eq]; omega
        have HR := hid (HBAD.out 1 W1 (by decide) HB1.out)
        clear hn hz
        go_enter Tryd.func18, Tryd.ntmps18
        go_wp2_with fail
        rw [← HWE.out]
        refine (isUser_any user W1).mono ?_
        rintro e u ⟨rfl, hu⟩
        have hu' := hu.symm
        subst hu'
        rw [hU]
        clear hu
        go_wp2
        go_ret
        exact HR.out
      · have hn0 : ¬ (ents.length : Int) = 0 := by omega
        have hn1 : (10 : Int) < (ents.length : Int) := by omega
        have hnb : ((ents.length : Int) == 0) = false := by rw [beq_eq_false_iff_ne]; exact hn0
        have HR := hid (HBAD.out 1 W1 (by decide) HB1.out)
        clear hn hz
        go_enter Tryd.func18, Tryd.ntmps18
        go_wp2_with fail
        rw [← HWE.out]
        refine (isUser_any user W1).mono ?_
        rintro e u ⟨rfl, hu⟩
        have hu' := hu.symm
        subst hu'
        rw [hU]
        clear hu
        go_wp2
        go_ret
        exact HR.out
  · have hU : (decide (0 ≤ user) && decide (user < 3)) = false := by
      by_cases h : 0 ≤ user
      · have : ¬ user < 3 := fun h2 => hu ⟨h, h2⟩
        simp [this]
      · simp [h]
    have HR := hid (HBAD.out 6 W1 (by decide) HB1.out)
    go_enter Tryd.func18, Tryd.ntmps18
    go_wp2_with fail
    rw [← HWE.out]
    refine (isUser_any user W1).mono ?_
    rintro e u ⟨rfl, hu⟩
    have hu' := hu.symm
    subst hu'
    rw [hU]
    clear hu
    go_wp2
    go_ret
    exact HR.out
theorem ents_mem_len : ∀ {l : List Ent} {x : Ent}, x ∈ l → (entB x).length ≤ (entsB l).length := by
  intro l
  induction l with
  | nil => intro x h; cases h
  | cons y l ih =>
    intro x h
    simp only [entsB, List.length_append]
    rcases List.mem_cons.1 h with rfl | h
    · omega
    · have := ih h; omega
/-- What Decode answers of bytes that are read whole. -/
def DcA (w : World) (b : Bat) (e : Ending) (w' : World) : Prop := (DcP w b 0 e w' ∧ BatOk b) ∨ ∃ er, ¬ er = 0 ∧ DcP w ⟨0, []⟩ er e w'
set_option maxHeartbeats 1000000 in
set_option maxRecDepth 100000 in
theorem dec_chk (a : Option Addr) (c : Nat) (l : List UInt8) (Q : Nat → Prop) (w : World) (h : BysM Q w (.slice a l.length c) l) (hl : l.length ≤ 100000) (hs : (batR (l, false)).2 = ([], false)) :
    Calls Tryd.prog 16 #[.slice a l.length c] w (DcA w (batR (l, false)).1) := by
  obtain ⟨y, hy⟩ : ∃ y, y = batR (l, false) := ⟨_, rfl⟩
  have hinv := batR_inv hs
  rw [← hy] at hs hinv ⊢
  obtain ⟨W2, hW2⟩ : ∃ W2, W2 = (w.alloc (.cells #[.int .i64 0, .slice none 0 0] 34)).alloc (.cells #[.slice a l.length c, .bool false] 79) := ⟨_, rfl⟩
  have HWE := hid hW2
  have hB2 : Below w.heap.size w W2 := by rw [hW2]; exact tp_low2 _ _ _
  have hp : W2.heap[w.heap.size]? = some (.cells #[.int .i64 0, .slice none 0 0] 34) := by rw [hW2]; exact (tp_new2 w _ _).1
  have hr : W2.heap[w.heap.size + 1]? = some (.cells #[.slice a l.length c, .bool false] 79) := by rw [hW2]; exact (tp_new2 w _ _).2
  have HP := hid hp
  have HB2 := hid hB2
  have HZ := hid (show W2.heap.size = w.heap.size + 2 by rw [hW2]; simp)
  have HR2 := hid (show RdB W2 (w.heap.size + 1) (l, false) from ⟨_, hr, (bys_low h).imp (fun k hk => (by omega : k < w.heap.size + 1)) fun b hb _ => hB2.block b hb⟩)
  have HRB := hid (rbat_any (w.heap.size + 1) (l, false) W2 HR2.out)
  rw [← hy] at HRB
  have hl1 : ¬ (100000 : Int) < ((l.length : Nat) : Int) := by omega
  have HXX := hid (show ∀ x ∈ y.1.ents, x.goal.length ≤ 1000000 ∧ x.text.length ≤ 1000000 from fun x hx => by
    have h1 := ents_mem_len hx
    have h2 := batB_len y.1
    rw [← hinv] at h2
    rw [entB_len] at h1
    omega)
  clear hinv
  clear h hW2 hB2 hp hr hy
  go_enter Tryd.func16, Tryd.ntmps16
  go_upto_region 4 with fail
  rw [← HWE.out]
  go_wp2_with fail
  refine HRB.out.mono ?_
  rintro e w3 ⟨a3, c3, rfl, hE3, ⟨v3, hr3, hv3⟩, hu3⟩
  obtain ⟨a4, c4, rfl, hc4, hm4⟩ := hv3.slice
  obtain ⟨W4, hW4⟩ : ∃ W4, W4 = w3.alloc (.cells #[.int .i64 y.1.user, .slice a3 y.1.ents.length c3] 34) := ⟨_, rfl⟩
  have HWE4 := hid hW4
  have hB4 : Below w3.heap.size w3 W4 := by rw [hW4]; exact (Below.refl _ _).alloc (Nat.le_refl _) _
  have ho4 : W4.heap[w3.heap.size]? = some (.cells #[.int .i64 y.1.user, .slice a3 y.1.ents.length c3] 34) := by rw [hW4]; exact heap_alloc_new w3 _
  have hp4 := bk_low hB4 (hu3.obj HP.out (by omega))
  have hr4 := bk_low hB4 hr3
  have HP4 := hid hp4
  have HE4 := hid (hE3.next hB4)
  have HB4 := hid (show Below w.heap.size w W4 from HB2.out.trans ((hu3.below (by omega) (by have := HZ.out; omega)).trans (hB4.mono (Nat.le_trans HB2.out.size hu3.size))))
  have HLT := hid (show w.heap.size < w3.heap.size from Nat.lt_of_lt_of_le (by have := HZ.out; omega) hu3.size)
  obtain ⟨x0, x1, f0, f1⟩ := bk_box2 hp4
  obtain ⟨y0, y1, _, _⟩ := bk_box2 hr4
  obtain ⟨o0, o1, _, _⟩ := bk_box2 ho4
  clear hE3 hr3 hv3 hu3 hW4 hB4 hp4 hr4 ho4
  go_upto_region 5 with fail
  rw [← HWE4.out]
  have hs1 : y.2.1 = [] := by rw [hs]
  have hs2 : y.2.2 = false := by rw [hs]
  rw [hs2] at y1
  rw [hs1] at y0
  have HC := hid (bcheck_any y.1 a3 c3 _ W4 HXX.out HE4.out)
  clear hs1 hs2 hs
  go_wp2_with fail
  refine HC.out.mono ?_
  rintro e w5 ⟨⟨er, rfl, he⟩, hb5⟩
  have hp5 := bk_low hb5 HP4.out
  obtain ⟨i0, i1, g0, g1⟩ := bk_box2 hp5
  have j0 := wcell_next o0 hb5
  have j1 := wcell_next o1 hb5
  by_cases h0 : er = 0
  · have hbo := he h0
    subst h0
    obtain ⟨z0, z1, _, _⟩ := bk_box2 (bk_put (u0 := .int .i64 y.1.user) (u1 := .slice a3 y.1.ents.length c3) hp5)
    have HE := hid (show DcA w y.1 (.returned (.tuple #[.agg #[.int .i64 y.1.user, .slice a3 y.1.ents.length c3], .int .i64 0])) ((w5.setCell ⟨w.heap.size, 0, none⟩ (.int .i64 y.1.user)).setCell ⟨w.heap.size, 1, none⟩ (.slice a3 y.1.ents.length c3)) by
      refine .inl ⟨⟨a3, c3, rfl, ?_, ((HB4.out.trans (hb5.mono HB4.out.size)).setCell (Nat.le_refl _) _).setCell (Nat.le_refl _) _⟩, hbo⟩
      have hz := HZ.out
      exact (HE4.out.next hb5).imp (fun k (hk : W2.heap.size ≤ k) => (by omega : w.heap.size ≤ k)) ⟨by simp [World.setCell], fun k _ hk => (bk_other (by omega)).trans (bk_other (by omega))⟩)
    clear hp5 hb5 he hbo
    go_wp2
    refine bodyPost_ret (v := .tuple #[.agg #[.int .i64 y.1.user, .slice a3 y.1.ents.length c3], .int .i64 0]) (by simp [results, Tryd.results16, go_sem, *]) rfl ?_
    exact HE.out
  · have h0' : (er == 0) = false := by rw [beq_eq_false_iff_ne]; exact h0
    obtain ⟨z0, z1, _, _⟩ := bk_box2 (bk_put (u0 := .int .i64 0) (u1 := .slice none 0 0) hp5)
    have HE := hid (show DcA w y.1 (.returned (.tuple #[.agg #[.int .i64 0, .slice none 0 0], .int .i64 er])) ((w5.setCell ⟨w.heap.size, 0, none⟩ (.int .i64 0)).setCell ⟨w.heap.size, 1, none⟩ (.slice none 0 0)) from .inr ⟨er, h0, none, 0, rfl, rowM_nil _ _ _ _ _ _, ((HB4.out.trans (hb5.mono HB4.out.size)).setCell (Nat.le_refl _) _).setCell (Nat.le_refl _) _⟩)
    clear hp5 hb5 he
    go_wp2
    refine bodyPost_ret (v := .tuple #[.agg #[.int .i64 0, .slice none 0 0], .int .i64 er]) (by simp [results, Tryd.results16, go_sem, *]) rfl ?_
    exact HE.out
set_option maxHeartbeats 1000000 in
set_option maxRecDepth 100000 in
theorem dec_long (a : Option Addr) (c n : Nat) (w : World) (hl : 100000 < n) (hm : n ≤ 9223372036854775807) : Calls Tryd.prog 16 #[.slice a n c] w (DcP w ⟨0, []⟩ 1) := by
  have hl1 : (100000 : Int) < (n : Int) := by omega
  have HE := hid (show ∀ o : Obj, DcP w ⟨0, []⟩ 1 (.returned (.tuple #[.agg #[.int .i64 0, .slice none 0 0], .int .i64 1])) (w.alloc o) from fun o => ⟨none, 0, rfl, rowM_nil _ _ _ _ _ _, (Below.refl _ _).alloc (Nat.le_refl _) _⟩)
  go_enter Tryd.func16, Tryd.ntmps16
  go_wp2
  refine bodyPost_ret (v := .tuple #[.agg #[.int .i64 0, .slice none 0 0], .int .i64 1]) (by simp [results, Tryd.results16, go_sem, *]) rfl ?_
  exact HE.out _
end Go.Proofs.YtkkkbggbeihbnaaDoor
