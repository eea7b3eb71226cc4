/-
  How an argument that is an address is read, and how great its parts can be.
-/
import Derived.Test.YtmcpipgjckgjgaaRows
import Derived.Test.YtmcpipgjckgjgaaPure
import Derived.Lib.SmallJoins
import Derived.ProofKit
import Derived.OpenShut
import Derived.ChangeOld
import Derived.SizedLaws
import Derived.Below
import Derived.Carry
namespace Go.Proofs.Ytmcpipgjckgjgaa
open Go.RowKit Go.Joins Go.ChangeShapes Go.WideShapes

theorem laidOut : laidOutB Try.prog = true := by kernel_rfl

theorem open_address {H : Type} {enc : TypeId × Value → H} {w : World} {base b0 : Nat} {spare : Nat → Bool} {held : Bool} {v : Value} {d : DataW H} {p : List MemPlace}
    (hv : Value.okWide Try.prog w .any b0 23 v) (h : DataW.Trod enc Try.prog w base spare held 23 v d p) :
    ∃ l e : ByteArray, v = .agg #[.string l, .string e] ∧ d = .agg [.lit (.string l.data.toList), .lit (.string e.data.toList)] ∧ l.size ≤ maxLen ∧ e.size ≤ maxLen := by
  obtain ⟨v0, v1, y0, y1, m, rfl, rfl, rfl, h0, h1⟩ := open_agg2 Try.underlying23 (by kernel_rfl) (by kernel_rfl) hv h
  obtain ⟨s, e0, g0, k0⟩ := DataW.trod_string Try.underlying9 h0
  obtain ⟨s', e1, g1, k1⟩ := DataW.trod_string Try.underlying9 h1
  simp only [List.cons.injEq, and_true] at e0 e1
  subst e0
  subst e1
  exact ⟨s, s', rfl, by rw [g0, g1], k0, k1⟩

theorem sized_address {H : Type} {ts : List TypeId} {ds : List (DataW H)} (h : (DataW.weightsEach Try.prog ts ds).all (· ≤ reachBytes) = true) {j : Nat} {l e : ByteArray} (ht : ts[j]? = some 23)
    (hd : ds[j]? = some (.agg [.lit (.string l.data.toList), .lit (.string e.data.toList)])) : l.size ≤ 140737488355328 ∧ e.size ≤ 140737488355328 := by
  have hlt := reachBytes_lt
  have h1 := List.all_eq_true.1 h _ (DataW.weights_mem_each ht hd l.size (by simp [DataW.weights, DataW.weightsEach, Try.underlying23]))
  have h2 := List.all_eq_true.1 h _ (DataW.weights_mem_each ht hd e.size (by simp [DataW.weights, DataW.weightsEach, Try.underlying23]))
  simp only [decide_eq_true_eq] at h1 h2
  omega
end Go.Proofs.Ytmcpipgjckgjgaa
