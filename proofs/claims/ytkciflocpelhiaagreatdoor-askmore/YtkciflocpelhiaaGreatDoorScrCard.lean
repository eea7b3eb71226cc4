/-
  What the laws of the layer of scripts want besides their walks: what the table of words holds.
-/
import Derived.Test.YtkciflocpelhiaaGreatDoorCards
import Derived.Test.YtkciflocpelhiaaGreatDoorTie
import Derived.Test.YtkciflocpelhiaaGreatDoorScrCk
import Derived.WalkKit
import Derived.ProofKit
import Derived.OpenShut
import Derived.ChangeOld
import Derived.Below
import Derived.Deep.DeepHandedRow
import Derived.Lib.LaidTab
import Derived.LaidSub
namespace Go.Proofs.YtkciflocpelhiaaGreatDoor
open Go.ChangeShapes Go.WideShapes Go.ChangeAt Go.RowKit

theorem own : ownKnob Tryz.prog.godebug = none := by kernel_rfl
theorem laidOut : laidOutB Tryz.prog = true := by kernel_rfl
def layCells (cs : Array Value) : Obj → Obj
  | .cells _ t frozen => .cells cs t frozen
  | o => o
def wordCells : Array Value := (wTabs.flatMap fun r => r.map fun s => Value.string (S s)).toArray
def wordsD : DataW Unit := .agg (wTabs.map fun r => .agg (r.map fun s => .lit (.string s)))
theorem laid_words : (Rows.laid_postroom_script_words : DataW Unit) = wordsD := by kernel_rfl
theorem words_of (W : World) (h : laidMetH Tryz.prog [("postroom/script.words", Rows.laid_postroom_script_words)] W) : WordsAt W := by
  have h1 : laidMet Tryz.prog [("postroom/script.words", Rows.laid_postroom_script_words)] W := h
  rw [laid_words] at h1
  obtain ⟨ps, ⟨g', t', cs, fuel, p, q, hg', ht', hvar, hd, _, _⟩, _⟩ := h1
  have hg : Tryz.prog.globalNamed "postroom/script.words" = some 2 := by kernel_rfl
  have hty : (Tryz.prog.globals[2]?).map (·.type) = some 148 := by kernel_rfl
  obtain rfl := Option.some.inj (hg.symm.trans hg')
  obtain rfl := Option.some.inj (hty.symm.trans ht')
  have c11 : Tryz.prog.cellsOf 121 = 11 := by kernel_rfl
  have c1 : Tryz.prog.cellsOf 9 = 1 := by kernel_rfl
  obtain ⟨xs, m, _, ex, _, hxl, hx⟩ := DataW.trod_array Tryz.underlying148 hd
  have exs : xs.map (·.1) = wTabs.map fun r => (.agg (r.map fun s => .lit (.string s)) : DataW Unit) := by
    have := congrArg Prod.fst ex
    simpa [wordsD] using this.symm
  intro k n hk hn
  have hx' := hx k hk
  rw [c11] at hx'
  obtain ⟨y, hy⟩ : ∃ y, xs[k]? = some y := ⟨_, List.getElem?_eq_getElem (by omega)⟩
  rw [hy] at hx'
  have hwk : wTabs[k]? = some (wTabs.getD k []) := by
    match k, hk with
    | 0, _ | 1, _ | 2, _ | 3, _ => rfl
  have ey : y.1 = .agg ((wTabs.getD k []).map fun s => .lit (.string s)) := by
    have := congrArg (·[k]?) exs
    simp only [List.getElem?_map, hy, hwk, Option.map_some, Option.some.injEq] at this
    exact this
  obtain ⟨ys, m', _, ez, _, hyl, hz⟩ := DataW.trod_array Tryz.underlying121 hx'
  have eys : ys.map (·.1) = (wTabs.getD k []).map fun s => (.lit (.string s) : DataW Unit) := by
    have := congrArg Prod.fst ez
    rw [ey] at this
    simpa using this.symm
  have hz' := hz n hn
  rw [c1] at hz'
  obtain ⟨u, hu⟩ : ∃ u, ys[n]? = some u := ⟨_, List.getElem?_eq_getElem (by omega)⟩
  rw [hu] at hz'
  obtain ⟨s, e1, e2, _⟩ := DataW.trod_string Tryz.underlying9 hz'
  have hwn : (wTabs.getD k [])[n]? = some (wordOf k n) := by
    have hlen := row_len k hk
    rw [List.getElem?_eq_getElem (by omega), row_at k n (by omega)]
  have e3 : u.1 = .lit (.string (wordOf k n)) := by
    have := congrArg (·[n]?) eys
    simp only [List.getElem?_map, hu, hwn, Option.map_some, Option.some.injEq] at this
    exact this
  have e4 : s.data.toList = wordOf k n := by
    rw [e2] at e3
    simpa using e3
  have e5 : cs[k * 11 + n]? = some (.string s) := by
    have := congrArg (·[0]?) e1
    simp only [List.getElem?_take, List.getElem?_drop] at this
    simpa [hn, Nat.add_assoc] using this
  rw [World.var?_cell hg hvar (k * 11 + n)]
  rw [← e4, S_list]
  simpa using e5
end Go.Proofs.YtkciflocpelhiaaGreatDoor
