/-
  What is torn is no batch: walked.
-/
import Derived.Test.YtkkkbggbeihbnaaDoorBkLz
namespace Go.Proofs.YtkkkbggbeihbnaaDoor
open Go.RowKit Go.Proofs

set_option maxHeartbeats 2000000 in
set_option maxRecDepth 100000 in
theorem batchTorn_walk (w : World) (_hm : maxLenCell w) (a : Option Addr) (c : Nat) (ls : List Chr) (hF : ChsM (fun _ => True) w (.slice a ls.length c) ls) (hB : ∀ x ∈ ls, chrW x) (at' : Int) (hat : (Lit.int .i64 at').wf = true) :
    Calls Tryd.prog 6 #[.slice a ls.length c, .int .i64 at'] w fun e w' => e = .returned (.bool true) ∧ Below w.heap.size w w' := by
  have HBO := hid (batchOf_any ls a c 0 w _ hF hB (by decide))
  have HOK := hid (batP_ok ls 0)
  generalize batP ls 0 = b at *
  obtain ⟨X, hX⟩ : ∃ X, X = batB b := ⟨_, rfl⟩
  have HX := hid hX
  have hXl : X.length ≤ 21232 := by rw [hX]; exact HOK.out.len
  have hX2 : 2 ≤ X.length := by rw [hX, batB_len]; omega
  have hmx : max ((X.length : Nat) : Int) 1 = ((X.length : Nat) : Int) := by omega
  have HPK := hid (fun v => picked_any at' X.length v hat (by omega) (by omega))
  have hpl := pickN_lt at' X.length (by omega)
  generalize pickN at' X.length = pk at *
  clear hF hB hX hat
  go_enter Tryd.func6, Tryd.ntmps6
  go_wp2_with fail
  refine HBO.out.mono ?_
  rintro e w1 ⟨a1, c1, rfl, hE1, hb1⟩
  have HB1 := hid hb1
  have HEN := hid (encode_ok b a1 c1 _ w1 HOK.out hE1)
  rw [← HX.out] at HEN
  clear hE1 hb1 HBO
  go_wp2_with fail
  refine HEN.out.mono ?_
  rintro e w2 ⟨a2, c2, rfl, hO2, hb2⟩
  have HB2 := hid (HB1.out.trans (hb2.mono HB1.out.size))
  have HX2 := hid (show BysM (fun _ => True) w2 (.slice a2 X.length c2) X from own_by hO2 rfl (by unfold maxLen; omega) fun _ _ => trivial)
  have hcap : X.length ≤ c2 := by
    obtain ⟨a', c', e, h2, _⟩ := HX2.out.slice
    simp only [Value.slice.injEq] at e
    omega
  have p0 : (0 : Int) ≤ (pk : Int) := by omega
  have p1 : (pk : Int) ≤ (c2 : Int) := by omega
  have HDC := hid (show Calls Tryd.prog 16 #[.slice a2 pk c2] w2 (DcP w2 ⟨0, []⟩ 4) by
    have h := HX2.out.take (k := pk) (by omega)
    have el : pk = (X.take pk).length := by rw [List.length_take]; omega
    have hd := dec_short a2 c2 (X.take pk) _ w2 (by rw [← el]; exact h) (by rw [← el]; omega) (by rw [HX.out]; exact batR_torn HOK.out.fit (by rw [← HX.out]; exact hpl) false)
    rw [← el] at hd
    exact hd)
  clear hO2 hb2 HEN
  go_wp2_with fail
  refine (HPK.out _).mono ?_
  rintro e v ⟨rfl, hv⟩
  have hv' := hv.symm
  subst hv'
  clear hv
  go_wp2_with fail
  refine HDC.out.mono ?_
  rintro e w3 ⟨a3, c3, rfl, _, hb3⟩
  have HE := hid (show ∀ o, Below w.heap.size w (w3.alloc o) from fun o => (HB2.out.trans (hb3.mono HB2.out.size)).alloc (Nat.le_trans HB2.out.size hb3.size) o)
  simp only [List.length_nil]
  clear hb3
  go_wp2
  go_ret
  exact ⟨by first | rfl | simp, HE.out _⟩
end Go.Proofs.YtkkkbggbeihbnaaDoor
