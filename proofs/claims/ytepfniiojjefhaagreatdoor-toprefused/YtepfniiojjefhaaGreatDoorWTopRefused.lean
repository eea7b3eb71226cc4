/-
  Users that there can't be, and scripts that are not allowed, are refused: walked.
-/
import Derived.Test.YtepfniiojjefhaaGreatDoorQBoxKp5
import Derived.Test.YtepfniiojjefhaaGreatDoorQScrCard10
import Derived.Test.YtepfniiojjefhaaGreatDoorQPoAk2
namespace Go.Proofs.YtepfniiojjefhaaGreatDoor
open Go.RowKit Go.Proofs

/-- open refuses these users, whatever lies beside them. -/
def OpnX (r : Int) (a1 a2 b1 b2 c1 c2 : List UInt8) : Prop := ∀ (v : World) (p : Nat), TabsM v → v.heap[p]? = some (.cells #[.string (S a1), .string (S a2), .string (S b1), .string (S b2), .string (S c1), .string (S c2)] 28) → Calls Tryz.prog 9 #[.slice (some ⟨p, 0, none⟩) 3 3] v (OpE v r)
theorem chkA : checkA nmA [120] = 0 := by kernel_rfl
theorem chkB : checkA nmB [120] = 0 := by kernel_rfl
theorem opn_of {f : Nat} {r : Int} {w w' : World} {L : List (List UInt8)} {Cs : List (List Cmd)} {e : Ending} (hf : f < 3) (h : OpnQ w f r L Cs e w') : OpE w r e w' := by
  unfold OpnQ at h
  rw [if_pos hf] at h
  exact h
theorem adq_of {f : Nat} {r : Int} {W1 : World} {B b : Nat} {v5 v6 v36 : Value} {L : List (List UInt8)} {Cs : List (List Cmd)} {k : Nat} {v v' : World} {e : Ending} (hk : k < f) (h : e = .returned (.int .i64 0) ∧ RoI W1 B b v5 v6 v36 (L.take (k + 1)) (Cs.take (k + 1)) v') : AdQ f r W1 B b v5 v6 v36 L Cs k v e v' := by
  unfold AdQ
  rw [if_pos hk]
  exact h
theorem adq_no {f : Nat} {r : Int} {W1 : World} {B b : Nat} {v5 v6 v36 : Value} {L : List (List UInt8)} {Cs : List (List Cmd)} {k : Nat} {v v' : World} {e : Ending} (hk : ¬ k < f) (h : AdE v r e v') : AdQ f r W1 B b v5 v6 v36 L Cs k v e v' := by
  unfold AdQ
  rw [if_neg hk]
  exact h
theorem opn_F : OpnX 8 nmA scrF nmB scrB nmC scrC := fun v p hm hp => (open_any p _ _ _ _ _ _ [] 0 (by omega) 8 (by decide) v hp fun k u W1 b v5 v6 v36 hk hkf hu hb hI => by
  obtain rfl : k = 0 := by omega
  exact (hI.err (by decide) nmA scrF chkA (by decide) rfl 8 (by decide) fun x hx => read_F x ((hm.next hu).next hx)).mono fun e w' h => adq_no (by omega) h).mono fun _ _ h => opn_of (by omega) h
theorem opn_K : OpnX 4 nmA scrK nmB scrB nmC scrC := fun v p hm hp => (open_any p _ _ _ _ _ _ [] 0 (by omega) 4 (by decide) v hp fun k u W1 b v5 v6 v36 hk hkf hu hb hI => by
  obtain rfl : k = 0 := by omega
  exact (hI.err (by decide) nmA scrK chkA (by decide) rfl 4 (by decide) fun x hx => read_K x ((hm.next hu).next hx)).mono fun e w' h => adq_no (by omega) h).mono fun _ _ h => opn_of (by omega) h
theorem opn_2 : OpnX 10 nmA [] nmA scrB nmC scrC := fun v p hm hp => (open_any p _ _ _ _ _ _ [[]] 1 (by omega) 10 (by decide) v hp fun k u W1 b v5 v6 v36 hk hkf hu hb hI => by
  obtain rfl | rfl : k = 0 ∨ k = 1 := by omega
  · exact (hI.take hb (by decide) (by decide) nmA [] [] chkA (by decide) rfl fun x hx => read_0 x ((hm.next hu).next hx)).mono fun e w' h => adq_of (by omega) h
  · exact (hI.twice (by decide) nmA scrB chkA (by decide) rfl).mono fun e w' h => adq_no (by omega) h).mono fun _ _ h => opn_of (by omega) h
theorem opn_3 : OpnX 3 nmA [] nmB scrB [97, 32, 98] scrC := fun v p hm hp => (open_any p _ _ _ _ _ _ [[], cmdB] 2 (by omega) 3 (by decide) v hp fun k u W1 b v5 v6 v36 hk hkf hu hb hI => by
  obtain rfl | rfl | rfl : k = 0 ∨ k = 1 ∨ k = 2 := by omega
  · exact (hI.take hb (by decide) (by decide) nmA [] [] chkA (by decide) rfl fun x hx => read_0 x ((hm.next hu).next hx)).mono fun e w' h => adq_of (by omega) h
  · exact (hI.take hb (by decide) (by decide) nmB scrB cmdB chkB (by decide) rfl fun x hx => read_B x ((hm.next hu).next hx)).mono fun e w' h => adq_of (by omega) h
  · exact (adu_form b [97, 32, 98] scrC u (show checkA [97, 32, 98] [120] ≠ 0 from by rw [show checkA [97, 32, 98] [120] = 3 from by kernel_rfl]; decide) (by decide)).mono fun e w' h => adq_no (by omega) h).mono fun _ _ h => opn_of (by omega) h
theorem infoUs : (Tryz.prog.info? 28).map (fun i => (i.zero, i.size, i.bytes)) = some (some (.agg #[.string ByteArray.empty, .string ByteArray.empty]), 2, 32) := by kernel_rfl
set_option maxHeartbeats 4000000 in
set_option maxRecDepth 100000 in
theorem topRefused_walk (w : World) (hm : TabsM w) (a : Option Addr) (c : Nat) (l : List Gea) (hL : GesM (fun _ => True) w (.slice a l.length c) l) (hW : ∀ x ∈ l, geaW x) (n : Int) (hn : (Lit.int .i64 n).wf = true) :
    Calls Tryz.prog 3 #[.slice a l.length c, .int .i64 n] w fun e w' => e = .returned (.bool true) ∧ Below w.heap.size w w' := by
  have HM := hid hm
  have HL := hid hL
  have HW := hid hW
  have HPK := hid (fun u => Picked_any n 6 u hn (by decide) (by decide))
  have h6 := pickN_lt n 6 (by decide)
  obtain ⟨i0, hi, hz0, hz1, hz2⟩ := info_parts infoUs
  generalize pickN n 6 = k at *
  clear hm hL hW hn
  go_enter Tryz.func3, Tryz.ntmps3
  go_wp2_with fail
  refine (users_any w).mono ?_
  rintro e w1 ⟨rfl, rfl⟩
  unfold usrRow
  go_wp2_with fail
  refine (HPK.out _).mono ?_
  rintro e u ⟨rfl, hu⟩
  have hu' := hu.symm
  subst hu'
  clear hu HPK
  have hrow : ∀ (x0 x1 x2 x3 x4 x5 : Value), (w.alloc (.cells #[x0, x1, x2, x3, x4, x5] 28)).heap[w.heap.size]? = some (.cells #[x0, x1, x2, x3, x4, x5] 28) := fun _ _ _ _ _ _ => heap_alloc_new w _
  have HROW := hid hrow
  clear hrow
  have HB := hid (show ∀ o, Below w.heap.size w (w.alloc o) from fun o => (Below.refl _ _).alloc (Nat.le_refl _) o)
  obtain rfl | rfl | rfl | rfl | rfl | rfl : k = 0 ∨ k = 1 ∨ k = 2 ∨ k = 3 ∨ k = 4 ∨ k = 5 := by omega
  · go_wp2_with fail
    refine (acts_any l a c 10 _ (fun _ => True) (HL.out.next (HB.out _)) HW.out (by omega)).mono ?_
    rintro e w2 ⟨a2, c2, rfl, _, hb2, _⟩
    have HB2 := hid hb2
    have HBW := hid (show Below w.heap.size w w2 from (HB.out _).trans (hb2.mono (HB.out _).size))
    clear hb2
    go_wp2_with fail
    refine (run_ref _ _ 1 (by decide) w2 (fun v hv => open_none _ _ _)).mono ?_
    rintro e w3 ⟨rfl, hb3⟩
    have HB3 := hid (HBW.out.trans (hb3.mono HBW.out.size))
    clear hb3
    go_wp2
    go_ret
    exact ⟨rfl, HB3.out.alloc HB3.out.size _⟩
  · go_wp2_with (first
      | (at_builtin; refine wpList_append_lies _ rfl _ _ 23 rfl w.heap.size 28 i0 _ 2 32 Tryz.underlying23 hi hz0 hz1 hz2 rfl (by decide) (.slice (some ⟨w.heap.size, 0, none⟩) 3 3) 3 [.string (S nmA), .string (S []), .string (S nmB), .string (S scrB), .string (S nmC), .string (S scrC)] rfl ?o1 ⟨w.heap.size + 1, 0, none⟩ 1 1 [.string ⟨#[100, 97, 110]⟩, .string ⟨#[]⟩] rfl rfl ?o2 (by simp [Value.oneCell']) (by decide) (by unfold maxLen; omega) (by decide) (by simp; omega) _ rfl ?_)
      | fail)
    case o1 => exact ⟨rfl, .inr ⟨w.heap.size, 3, #[.string (S nmA), .string (S []), .string (S nmB), .string (S scrB), .string (S nmC), .string (S scrC)], rfl, Nat.le_refl _, (((Below.refl _ _).alloc (Nat.le_refl _) _).block w.heap.size (by simp)).trans (HROW.out _ _ _ _ _ _), by decide, by unfold maxLen; decide, rfl, rfl⟩⟩
    case o2 =>
      have h := acu_cells (w.alloc (.cells #[.string (S nmA), .string (S []), .string (S nmB), .string (S scrB), .string (S nmC), .string (S scrC)] 28)) [.string ⟨#[100, 97, 110]⟩, .string ⟨#[]⟩] 28
      simpa using h
    intro g cap w1 hown hgrow hat hlt
    have HB1 := hid (show Below w.heap.size w w1 from ((HB.out _).alloc (by simp) _).grown hgrow (by simp; omega) (fun j hj => by have : w.heap.size = j := Option.some.inj hj; omega))
    clear hown hgrow hat
    go_wp2_with fail
    refine (acts_any l a c 10 _ (fun _ => True) (HL.out.next (HB1.out)) HW.out (by omega)).mono ?_
    rintro e w2 ⟨a2, c2, rfl, _, hb2, _⟩
    have HB2 := hid hb2
    have HBW := hid (show Below w.heap.size w w2 from (HB1.out).trans (hb2.mono (HB1.out).size))
    clear hb2
    go_wp2_with fail
    refine (run_ref _ _ 1 (by decide) w2 (fun v hv => open_many _ _ _)).mono ?_
    rintro e w3 ⟨rfl, hb3⟩
    have HB3 := hid (HBW.out.trans (hb3.mono HBW.out.size))
    clear hb3
    go_wp2
    go_ret
    exact ⟨rfl, HB3.out.alloc HB3.out.size _⟩
  · go_wp2_with fail
    refine (acts_any l a c 10 _ (fun _ => True) (HL.out.next (HB.out _)) HW.out (by omega)).mono ?_
    rintro e w2 ⟨a2, c2, rfl, _, hb2, _⟩
    have HB2 := hid hb2
    have HBW := hid (show Below w.heap.size w w2 from (HB.out _).trans (hb2.mono (HB.out _).size))
    clear hb2
    go_wp2_with fail
    refine (run_ref _ _ 10 (by decide) w2 (fun v hv => opn_2 v w.heap.size ((HM.out.next HBW.out).next hv) ((hv.block _ (by have := HB2.out.size; simp at this; omega)).trans ((HB2.out.block _ (by simp)).trans (HROW.out _ _ _ _ _ _))))).mono ?_
    rintro e w3 ⟨rfl, hb3⟩
    have HB3 := hid (HBW.out.trans (hb3.mono HBW.out.size))
    clear hb3
    go_wp2
    go_ret
    exact ⟨rfl, HB3.out.alloc HB3.out.size _⟩
  · go_wp2_with fail
    refine (acts_any l a c 10 _ (fun _ => True) (HL.out.next (HB.out _)) HW.out (by omega)).mono ?_
    rintro e w2 ⟨a2, c2, rfl, _, hb2, _⟩
    have HB2 := hid hb2
    have HBW := hid (show Below w.heap.size w w2 from (HB.out _).trans (hb2.mono (HB.out _).size))
    clear hb2
    go_wp2_with fail
    refine (run_ref _ _ 3 (by decide) w2 (fun v hv => opn_3 v w.heap.size ((HM.out.next HBW.out).next hv) ((hv.block _ (by have := HB2.out.size; simp at this; omega)).trans ((HB2.out.block _ (by simp)).trans (HROW.out _ _ _ _ _ _))))).mono ?_
    rintro e w3 ⟨rfl, hb3⟩
    have HB3 := hid (HBW.out.trans (hb3.mono HBW.out.size))
    clear hb3
    go_wp2
    go_ret
    exact ⟨rfl, HB3.out.alloc HB3.out.size _⟩
  · go_wp2_with fail
    refine (acts_any l a c 10 _ (fun _ => True) (HL.out.next (HB.out _)) HW.out (by omega)).mono ?_
    rintro e w2 ⟨a2, c2, rfl, _, hb2, _⟩
    have HB2 := hid hb2
    have HBW := hid (show Below w.heap.size w w2 from (HB.out _).trans (hb2.mono (HB.out _).size))
    clear hb2
    go_wp2_with fail
    refine (run_ref _ _ 8 (by decide) w2 (fun v hv => opn_F v w.heap.size ((HM.out.next HBW.out).next hv) ((hv.block _ (by have := HB2.out.size; simp at this; omega)).trans ((HB2.out.block _ (by simp)).trans (HROW.out _ _ _ _ _ _))))).mono ?_
    rintro e w3 ⟨rfl, hb3⟩
    have HB3 := hid (HBW.out.trans (hb3.mono HBW.out.size))
    clear hb3
    go_wp2
    go_ret
    exact ⟨rfl, HB3.out.alloc HB3.out.size _⟩
  · go_wp2_with fail
    refine (acts_any l a c 10 _ (fun _ => True) (HL.out.next (HB.out _)) HW.out (by omega)).mono ?_
    rintro e w2 ⟨a2, c2, rfl, _, hb2, _⟩
    have HB2 := hid hb2
    have HBW := hid (show Below w.heap.size w w2 from (HB.out _).trans (hb2.mono (HB.out _).size))
    clear hb2
    go_wp2_with fail
    refine (run_ref _ _ 4 (by decide) w2 (fun v hv => opn_K v w.heap.size ((HM.out.next HBW.out).next hv) ((hv.block _ (by have := HB2.out.size; simp at this; omega)).trans ((HB2.out.block _ (by simp)).trans (HROW.out _ _ _ _ _ _))))).mono ?_
    rintro e w3 ⟨rfl, hb3⟩
    have HB3 := hid (HBW.out.trans (hb3.mono HBW.out.size))
    clear hb3
    go_wp2
    go_ret
    exact ⟨rfl, HB3.out.alloc HB3.out.size _⟩
end Go.Proofs.YtepfniiojjefhaaGreatDoor
