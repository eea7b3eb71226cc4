/-
  One command done, and its course in a box: plain facts.
-/
import Derived.Test.YtiefkkmkhhannaaGreatDoorMkC2
import Derived.Test.YtiefkkmkhhannaaGreatDoorJudIf
import Derived.Test.YtiefkkmkhhannaaGreatDoorJudSame
import Derived.Test.YtiefkkmkhhannaaGreatDoorJudOne
import Derived.Test.YtiefkkmkhhannaaGreatDoorJudFop
import Derived.Test.YtiefkkmkhhannaaGreatDoorCrsBx
import Derived.Test.YtiefkkmkhhannaaGreatDoorRulTabs
namespace Go.Proofs.YtiefkkmkhhannaaGreatDoor
open Go.RowKit Go.Proofs

theorem may_fit {x : Cmd} (hN : NiceC 1 x) (hF : fitHC x = true) (hk : x.kind ≠ 2) : MayDo x := by
  obtain ⟨k1, k2, k3, k4, k5, k6, k7⟩ := hN
  unfold fitHC at hF
  simp only [Bool.and_eq_true, decide_eq_true_eq] at hF
  obtain ⟨⟨⟨⟨⟨g2, g10⟩, gf⟩, _⟩, _⟩, _⟩ := hF
  refine ⟨by omega, fun h5 => ?_, fun h6 => k4 h6⟩
  intro e
  unfold fitsC at gf
  split at gf
  · cases gf
  · split at gf
    · rename_i h; omega
    · rw [e] at gf
      simp at gf
theorem one_do {x : Cmd} (h : NC2 x) : MayDo x ∧ ShortC 2 x ∧ ruleM 2 [reqC, x] = 0 := ⟨may_fit (h.1 1).1 (h.1 1).2.1 h.2, short_of (fun n => (h.1 n).1) 2, rule_one (h.1 2).1 (h.1 1).2.1 h.2⟩
theorem one_kinds {x : Cmd} (h : NC2 x) : x.kind = 7 ∨ (x.kind = 3 ∨ x.kind = 4 ∨ x.kind = 5 ∨ x.kind = 6 ∨ x.kind = 8 ∨ x.kind = 9 ∨ x.kind = 10) := by
  have h1 := (one_do h).1.1
  have h2 : x.kind ≠ 1 := (h.1 1).1.1
  omega
theorem goes_ok {c : Crs} (h : crsOk c) (x : Cmd) : crsOk (goesP c x).1 := by
  unfold goesP
  split
  · exact h
  · exact do_ok h x
def DoB (W : World) (r : Crs × Bool) (p o e : Value) (wx : World) : Prop := ∃ (P : Nat) (a : Option Addr) (k : Nat), p = .pointer (some ⟨P, 0, none⟩) ∧ o = .bool (!r.2) ∧ e = .int .i64 0 ∧ W.heap.size ≤ P ∧ wx.heap[P]? = some (.cells #[.slice a r.1.acts.length k, .int .i64 r.1.flags, .bool r.1.asked, .int .i64 r.1.fault] 49) ∧ AtnsM anyB wx (.slice a r.1.acts.length k) r.1.acts ∧ (a = none → r.1.acts = [] ∧ k = 0) ∧ Below W.heap.size W wx
theorem DoB.old {W w3 : World} {r : Crs × Bool} {P : Nat} {a : Option Addr} {k : Nat} (hP : W.heap.size ≤ P) (hb : w3.heap[P]? = some (.cells #[.slice none 0 0, .int .i64 0, .bool false, .int .i64 0] 49)) (hA : AtnsM anyB w3 (.slice a r.1.acts.length k) r.1.acts) (hn : a = none → r.1.acts = [] ∧ k = 0) (hB : Below W.heap.size W w3) :
    DoB W r (.pointer (some ⟨P, 0, none⟩)) (.bool (!r.2)) (.int .i64 0) ((((w3.setCell ⟨P, 0, none⟩ (.slice a r.1.acts.length k)).setCell ⟨P, 1, none⟩ (.int .i64 r.1.flags)).setCell ⟨P, 2, none⟩ (.bool r.1.asked)).setCell ⟨P, 3, none⟩ (.int .i64 r.1.fault)) :=
  ⟨P, a, k, rfl, rfl, rfl, hP, fset4 hb, facts_set (facts_apart hb hA), hn, (((hB.setCell hP _).setCell hP _).setCell hP _).setCell hP _⟩
theorem DoB.new {W w3 : World} {r : Crs × Bool} {a : Option Addr} {k : Nat} (hA : AtnsM anyB w3 (.slice a r.1.acts.length k) r.1.acts) (hn : a = none → r.1.acts = [] ∧ k = 0) (hB : Below W.heap.size W w3) :
    DoB W r (.pointer (some ⟨w3.heap.size, 0, none⟩)) (.bool (!r.2)) (.int .i64 0) (w3.alloc (.cells #[.slice a r.1.acts.length k, .int .i64 r.1.flags, .bool r.1.asked, .int .i64 r.1.fault] 49)) :=
  ⟨w3.heap.size, a, k, rfl, rfl, rfl, hB.size, tl_at _ rfl, AtnsM.next hA ((Below.refl _ _).alloc (Nat.le_refl _) _), hn, hB.alloc hB.size _⟩
/-- Four cells set in a box that was: what else there is. -/
theorem put4 {w : World} {b : Nat} (u0 u1 u2 u3 : Value) {k : Nat} (h : k ≠ b) : ((((w.setCell ⟨b, 0, none⟩ u0).setCell ⟨b, 1, none⟩ u1).setCell ⟨b, 2, none⟩ u2).setCell ⟨b, 3, none⟩ u3).heap[k]? = w.heap[k]? :=
  (Below.heap_setCell _ _ _ _ h).trans ((Below.heap_setCell _ _ _ _ h).trans ((Below.heap_setCell _ _ _ _ h).trans (Below.heap_setCell _ _ _ _ h)))
theorem keeps4 {w : World} {b : Nat} (u0 u1 u2 u3 : Value) : Keeps (fun p => p ≠ b) w ((((w.setCell ⟨b, 0, none⟩ u0).setCell ⟨b, 1, none⟩ u1).setCell ⟨b, 2, none⟩ u2).setCell ⟨b, 3, none⟩ u3) :=
  (((Keeps.set (p := ⟨b, 0, none⟩) w u0 (fun _ h => h)).trans (Keeps.set (p := ⟨b, 1, none⟩) _ u1 (fun _ h => h))).trans (Keeps.set (p := ⟨b, 2, none⟩) _ u2 (fun _ h => h))).trans (Keeps.set (p := ⟨b, 3, none⟩) _ u3 (fun _ h => h))
theorem cmds_keep {Q : Nat → Prop} {n : Nat} {w w' : World} {v : Value} {l : List Cmd} (h : CmdsM Q n w v l) (hk : Keeps Q w w') : CmdsM Q n w' v l := RowM.imp h (fun _ h => h) hk fun _ _ h => CmdM.imp (fun _ h => h) hk _ _ _ h
/-- The course so far, in its box, and what is to be done. -/
def OnceI (w : World) (CB : Nat) (st : Obj) (vL : Value) (L : List Cmd) (v : Value) (wr : World) : Prop := ∃ (i : Nat) (c : Crs) (a : Option Addr) (k : Nat), i ≤ L.length ∧ v = .int .i64 i ∧ wr.heap[CB]? = some (.cells #[.slice a c.acts.length k, .int .i64 c.flags, .bool c.asked, .int .i64 c.fault] 49) ∧ AtnsM anyB wr (.slice a c.acts.length k) c.acts ∧ (a = none → c.acts = [] ∧ k = 0) ∧ crsOk c ∧ CmdsM (fun b => b ≠ CB) 2 wr vL L ∧ Below w.heap.size w wr ∧ wr.heap[w.heap.size]? = some st
end Go.Proofs.YtiefkkmkhhannaaGreatDoor
