/-
  token.Join answers what the document's P4.7 says: walked.
-/
import Derived.Test.YtfdkeodfkapncaaDoorRefJoin2
namespace Go.Proofs.YtfdkeodfkapncaaDoor
open Go.RowKit Go.Proofs

set_option maxHeartbeats 8000000 in
set_option maxRecDepth 100000 in
theorem tokenJoins_walk (w : World) (hE : Env w) (a : Option Addr) (c : Nat) (ts : List Tok) (hF : ToksAt w a ts) (hB : ts.length ≤ 1048576 ∧ ∀ t ∈ ts, t.text.length ≤ 1048576) :
    Calls Tryd.prog 3 #[.slice a ts.length c] w fun e w' => e = .returned (.bool true) ∧ Below w.heap.size w w' := by
  have HE : Hid (Env w) := hE
  have HF : Hid (ToksAt w a ts) := hF
  have HL : Hid _ := hB.1
  have HX : Hid _ := hB.2
  have HXM : Hid (∀ t ∈ ts, t.text.length ≤ maxLen) := fun t ht => by have := hB.2 t ht; unfold maxLen; omega
  obtain ⟨r, hr⟩ : ∃ r, r = joinM ts := ⟨_, rfl⟩
  have HR : Hid (joinV (joinM ts) = .tuple #[.string (S r.1), .int .i64 r.2]) := by unfold Hid joinV; rw [hr]
  clear hE hF hB hr
  go_enter Tryd.func3, Tryd.ntmps3
  go_wp2_with fail
  refine (copyL_any a c ts _ HF.out HL.out).mono ?_
  rintro e w1 ⟨a1, c1, rfl, hA1, hb1⟩
  have HB1 : Hid (Below w.heap.size w w1) := hb1
  have HA1 : Hid (ToksAt w1 a1 ts) := hA1
  have HF1 : Hid (ToksAt w1 a ts) := HF.out.below hb1
  have HE1 : Hid (Env w1) := HE.out.below hb1
  clear hA1 hb1
  go_wp2_with fail
  refine (tjoin_any a1 c1 ts _ HE1.out HA1.out HXM.out).mono ?_
  rintro e w2 ⟨rfl, hb2⟩
  rw [HR.out]
  have HB2 : Hid (Below w.heap.size w w2) := HB1.out.trans (hb2.mono HB1.out.size)
  have HA2 : Hid (ToksAt w2 a1 ts) := HA1.out.below hb2
  have HF2 : Hid (ToksAt w2 a ts) := HF1.out.below hb2
  clear hb2
  go_wp2_with fail
  refine (rjoin_any a c ts _ HF2.out HX.out).mono ?_
  rintro e w3 ⟨rfl, hb3⟩
  rw [HR.out]
  have HB3 : Hid (Below w.heap.size w w3) := HB2.out.trans (hb3.mono HB2.out.size)
  have HA3 : Hid (ToksAt w3 a1 ts) := HA2.out.below hb3
  have HF3 : Hid (ToksAt w3 a ts) := HF2.out.below hb3
  clear hb3
  go_wp2_with fail
  refine (sameL_any a1 a c1 c ts _ HA3.out HF3.out HL.out).mono ?_
  rintro e w4 ⟨rfl, hb4⟩
  go_wp2
  go_ret
  exact ⟨ret_bool (by first | rfl | simp), HB3.out.trans (hb4.mono HB3.out.size)⟩
end Go.Proofs.YtfdkeodfkapncaaDoor
