/-
  How an argument that is a person of the laws is read: three texts.
-/
import Derived.Test.YtmcpipgjckgjgaaDoorRows
import Derived.Test.YtmcpipgjckgjgaaDoorPure
import Derived.Lib.SmallJoins
import Derived.ProofKit
import Derived.OpenShut
import Derived.ChangeOld
import Derived.Below
import Derived.Carry
namespace Go.Proofs.YtmcpipgjckgjgaaDoor
open Go.RowKit Go.Joins Go.ChangeShapes Go.WideShapes

set_option maxRecDepth 100000 in
theorem open_person {H : Type} {enc : TypeId × Value → H} {w : World} {base b0 : Nat} {spare : Nat → Bool} {held : Bool} {v : Value} {d : DataW H} {p : List MemPlace}
    (hv : Value.okWide Tryd.prog w .any b0 29 v) (h : DataW.Trod enc Tryd.prog w base spare held 29 v d p) :
    ∃ l e g : ByteArray, v = .agg #[.string l, .string e, .string g] ∧ l.size ≤ maxLen ∧ e.size ≤ maxLen ∧ g.size ≤ maxLen := by
  obtain ⟨v0, v1, v2, y0, y1, y2, m, rfl, rfl, rfl, h0, h1, h2⟩ := open_agg3 Tryd.underlying29 (by kernel_rfl) (by kernel_rfl) hv h
  obtain ⟨s, e0, g0, k0⟩ := DataW.trod_string Tryd.underlying9 h0
  obtain ⟨s', e1, g1, k1⟩ := DataW.trod_string Tryd.underlying9 h1
  obtain ⟨s2, e2, g2, k2⟩ := DataW.trod_string Tryd.underlying9 h2
  simp only [List.cons.injEq, and_true] at e0 e1 e2
  subst e0
  subst e1
  subst e2
  exact ⟨s, s', s2, rfl, k0, k1, k2⟩
end Go.Proofs.YtmcpipgjckgjgaaDoor
