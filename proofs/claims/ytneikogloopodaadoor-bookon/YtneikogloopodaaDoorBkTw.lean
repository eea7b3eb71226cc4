/-
  A tape in a law's variable.
-/
import Derived.Test.YtneikogloopodaaDoorBkLz
namespace Go.Proofs.YtneikogloopodaaDoor
open Go.RowKit Go.Proofs

/-- The tape so far, in the law's variable. -/
def TwI (q : Nat) (s : Int) (wr : World) (l : List UInt8) : Prop := ∃ a c, wr.heap[q]? = some (.cells #[.slice a l.length c, .int .i64 s] 40) ∧ BysM (fun k => q < k) wr (.slice a l.length c) l
theorem TwI.same {q : Nat} {s : Int} {wr wx : World} {l : List UInt8} (h : TwI q s wr l) (hb : Below wr.heap.size wr wx) : TwI q s wx l := by
  obtain ⟨a, c, h1, h2⟩ := h
  exact ⟨a, c, bk_low hb h1, h2.next hb⟩
theorem TwI.put {q : Nat} {s s' : Int} {wr wx : World} {l l' : List UInt8} {a : Option Addr} {c : Nat} (h : TwI q s wr l) (hb : Below wr.heap.size wr wx) (hv : BysM (fun k => wr.heap.size ≤ k) wx (.slice a l'.length c) l') : TwI q s' ((wx.setCell ⟨q, 0, none⟩ (.slice a l'.length c)).setCell ⟨q, 1, none⟩ (.int .i64 s')) l' := by
  obtain ⟨_, _, h1, _⟩ := h
  have hq : q < wr.heap.size := (Array.getElem?_eq_some_iff.1 h1).1
  exact ⟨a, c, bk_put (bk_low hb h1), hv.imp (fun k (hk : wr.heap.size ≤ k) => (by omega : q < k)) fun k _ hk => (bk_other (by omega)).trans (bk_other (by omega))⟩
end Go.Proofs.YtneikogloopodaaDoor
