/-
  What the table of flags holds, from what a row lays.
  What the laws of rules and of courses want besides their walks: what the tables of script and of rule hold.
-/
import Derived.Test.YtkciflocpelhiaaGreatDoorCards
import Derived.Test.YtkciflocpelhiaaGreatDoorRulCs
import Derived.WalkKit
import Derived.ProofKit
import Derived.OpenShut
import Derived.ChangeOld
import Derived.Below
import Derived.Deep.DeepHandedRow
import Derived.Lib.LaidTab
import Derived.LaidSub
import Derived.Test.YtkciflocpelhiaaGreatDoorScrCard
namespace Go.Proofs.YtkciflocpelhiaaGreatDoor
open Go.ChangeShapes Go.WideShapes Go.ChangeAt Go.RowKit

def flagCells : Array Value := (flagTab.flatMap fun x => [Value.string (S x.1), .int .i64 (x.2 : Nat)]).toArray
def flagsD : DataW Unit := .agg (flagTab.map fun x => .agg [.lit (.string x.1), .lit (.int .i64 (x.2 : Nat))])
theorem laid_flags : (Rows.laid_postroom_rule_flagNames : DataW Unit) = flagsD := by kernel_rfl
theorem flags_of (W : World) (h : laidMetH Tryz.prog [("postroom/rule.flagNames", Rows.laid_postroom_rule_flagNames)] W) : FlagsAt W := by
  have h1 : laidMet Tryz.prog [("postroom/rule.flagNames", Rows.laid_postroom_rule_flagNames)] W := h
  rw [laid_flags] at h1
  obtain ⟨ps, ⟨g', t', cs, fuel, p, q, hg', ht', hvar, hd, _, _⟩, _⟩ := h1
  have hg : Tryz.prog.globalNamed "postroom/rule.flagNames" = some 3 := by kernel_rfl
  have hty : (Tryz.prog.globals[3]?).map (·.type) = some 174 := by kernel_rfl
  obtain rfl := Option.some.inj (hg.symm.trans hg')
  obtain rfl := Option.some.inj (hty.symm.trans ht')
  have c2 : Tryz.prog.cellsOf 173 = 2 := by kernel_rfl
  have c1 : Tryz.prog.cellsOf 9 = 1 := by kernel_rfl
  have ci : Tryz.prog.cellsOf 3 = 1 := by kernel_rfl
  obtain ⟨xs, m, _, ex, _, hxl, hx⟩ := DataW.trod_array Tryz.underlying174 hd
  have exs : xs.map (·.1) = flagTab.map fun x => (.agg [.lit (.string x.1), .lit (.int .i64 (x.2 : Nat))] : DataW Unit) := by
    have := congrArg Prod.fst ex
    simpa [flagsD] using this.symm
  intro i hi
  have hx' := hx i hi
  rw [c2] at hx'
  obtain ⟨y, hy⟩ : ∃ y, xs[i]? = some y := ⟨_, List.getElem?_eq_getElem (by omega)⟩
  rw [hy] at hx'
  have hft : flagTab[i]? = some (flagN i, flagV i) := by
    match i, hi with
    | 0, _ | 1, _ | 2, _ | 3, _ | 4, _ => rfl
  have ey : y.1 = .agg [.lit (.string (flagN i)), .lit (.int .i64 (flagV i : Nat))] := by
    have := congrArg (·[i]?) exs
    simp only [List.getElem?_map, hy, hft, Option.map_some, Option.some.injEq] at this
    exact this
  obtain ⟨zs, m', _, ez, _, hzl, hz⟩ := DataW.trod_struct Tryz.underlying173 hx'
  have ezs : zs.map (·.1) = [(.lit (.string (flagN i)) : DataW Unit), .lit (.int .i64 (flagV i : Nat))] := by
    have := congrArg Prod.fst ez
    rw [ey] at this
    simpa using this.symm
  obtain ⟨z0, z1, rfl⟩ : ∃ z0 z1, zs = [z0, z1] := by
    match zs, hzl with
    | [z0, z1], _ => exact ⟨z0, z1, rfl⟩
  have e0 : z0.1 = .lit (.string (flagN i)) := (List.cons.inj ezs).1
  have e1 : z1.1 = .lit (.int .i64 (flagV i : Nat)) := (List.cons.inj (List.cons.inj ezs).2).1
  have h0 := (hz 0 _ rfl).trans (show [z0, z1][0]? = some z0 from rfl)
  have h1' := (hz 1 _ rfl).trans (show [z0, z1][1]? = some z1 from rfl)
  obtain ⟨s, q0, q1, _⟩ := DataW.trod_string Tryz.underlying9 h0
  obtain ⟨v, r0, r1, _⟩ := DataW.trod_int Tryz.underlying3 h1'
  have q0 : List.take (Tryz.prog.cellsOf 9) (List.drop 0 (List.take 2 (List.drop (i * 2) cs.toList))) = [.string s] := q0
  have r0 : List.take (Tryz.prog.cellsOf 3) (List.drop 1 (List.take 2 (List.drop (i * 2) cs.toList))) = [.int .i64 v] := r0
  rw [c1] at q0
  rw [ci] at r0
  have es : s.data.toList = flagN i := by
    rw [q1] at e0
    simpa using e0
  have ev : v = (flagV i : Nat) := by
    rw [r1] at e1
    simpa using e1
  have f0 : cs[i * 2]? = some (.string s) := by
    have := congrArg (·[0]?) q0
    simp only [List.getElem?_take, List.getElem?_drop] at this
    simpa using this
  have f1 : cs[i * 2 + 1]? = some (.int .i64 v) := by
    have := congrArg (·[0]?) r0
    simp only [List.getElem?_take, List.getElem?_drop] at this
    simpa using this
  refine ⟨?_, ?_⟩
  · rw [World.var?_cell hg hvar (i * 2), ← es, S_list]
    simpa using f0
  · rw [World.var?_cell hg hvar (i * 2 + 1), ← ev]
    simpa using f1
end Go.Proofs.YtkciflocpelhiaaGreatDoor

namespace Go.Proofs.YtkciflocpelhiaaGreatDoor
open Go.ChangeShapes Go.WideShapes Go.ChangeAt Go.RowKit

def litC : DataW Unit → List Value
  | .lit (.int k n) => [.int k n]
  | .lit (.string s) => [.string (S s)]
  | _ => []
def litsC : DataW Unit → List Value
  | .agg l => l.flatMap litC
  | d => litC d
def cellsD : DataW Unit → Array Value
  | .agg l => (l.flatMap litsC).toArray
  | _ => #[]
/-- A table of texts that a row lays lies there. -/
theorem strTab_of {W : World} {nm : String} {g n : Nat} {t : TypeId} {l : List (List UInt8)} (hg : Tryz.prog.globalNamed nm = some g) (hty : (Tryz.prog.globals[g]?).map (·.type) = some t) (hu : Tryz.prog.underlying t = some (.array n 9)) (hn : l.length = n)
    (h : laidMet Tryz.prog [(nm, (.agg (l.map fun s => .lit (.string s)) : DataW Unit))] W) : TabAt W g l := by
  obtain ⟨ps, ⟨g', t', cs, fuel, p, q, hg', ht', hvar, hd, _, _⟩, _⟩ := h
  obtain rfl := Option.some.inj (hg.symm.trans hg')
  obtain rfl := Option.some.inj (hty.symm.trans ht')
  have c1 : Tryz.prog.cellsOf 9 = 1 := by kernel_rfl
  obtain ⟨xs, m, _, ex, _, hxl, hx⟩ := DataW.trod_array hu hd
  have exs : xs.map (·.1) = l.map fun s => (.lit (.string s) : DataW Unit) := by
    have := congrArg Prod.fst ex
    simpa using this.symm
  intro i s hs
  have hi : i < l.length := (List.getElem?_eq_some_iff.1 hs).1
  have hx' := hx i (by omega)
  rw [c1] at hx'
  obtain ⟨y, hy⟩ : ∃ y, xs[i]? = some y := ⟨_, List.getElem?_eq_getElem (by omega)⟩
  rw [hy] at hx'
  obtain ⟨b, e1, e2, _⟩ := DataW.trod_string Tryz.underlying9 hx'
  have e3 : y.1 = .lit (.string s) := by
    have := congrArg (·[i]?) exs
    simp only [List.getElem?_map, hy, hs, Option.map_some, Option.some.injEq] at this
    exact this
  have e4 : b.data.toList = s := by
    rw [e2] at e3
    simpa using e3
  have e5 : cs[i]? = some (.string b) := by
    have := congrArg (·[0]?) e1
    simp only [List.getElem?_take, List.getElem?_drop] at this
    simpa using this
  rw [World.var?_cell hg hvar i, ← e4, S_list]
  simpa using e5
def one (nm : String) (L : List (String × DataW Unit)) : List (String × DataW Unit) := L.filter fun x => x.1 == nm
def TabsM (w : World) : Prop := Tabs w ∧ maxLenCell w
theorem TabsM.next {w w' : World} (h : TabsM w) (hb : Below w.heap.size w w') : TabsM w' := ⟨h.1.next hb, maxLenCell_below h.2 hb⟩
theorem tabs_of (W : World) (L : List (String × DataW Unit)) (hsh : W.ShapedOpen Tryz.prog) (hL : laidMet Tryz.prog L W)
    (h1 : one "postroom/script.words" L = [("postroom/script.words", Rows.laid_postroom_script_words)]) (h2 : one "postroom/rule.flagNames" L = [("postroom/rule.flagNames", Rows.laid_postroom_rule_flagNames)])
    (h3 : one "postroom/rule.requirable" L = [("postroom/rule.requirable", .agg (extT.map fun s => .lit (.string s)))])
    (h4 : one "postroom/rule.envelopeParts" L = [("postroom/rule.envelopeParts", .agg (partT.map fun s => .lit (.string s)))])
    (h5 : one "postroom/rule.neededFor" L = [("postroom/rule.neededFor", .agg (needT.map fun s => .lit (.string s)))]) : TabsM W := by
  have f : ∀ nm, laidMet Tryz.prog (one nm L) W := fun nm => laidMet.filter (fun x => x.1 == nm) hL
  refine ⟨⟨words_of W ?_, ?_, ?_, ?_, flags_of W ?_⟩, maxLenCell_shaped W hsh⟩
  · have := f "postroom/script.words"; rw [h1] at this; exact this
  · have := f "postroom/rule.requirable"; rw [h3] at this; exact strTab_of (n := 4) (by kernel_rfl) (by kernel_rfl) Tryz.underlying120 rfl this
  · have := f "postroom/rule.envelopeParts"; rw [h4] at this; exact strTab_of (n := 2) (by kernel_rfl) (by kernel_rfl) Tryz.underlying193 rfl this
  · have := f "postroom/rule.neededFor"; rw [h5] at this; exact strTab_of (n := 11) (by kernel_rfl) (by kernel_rfl) Tryz.underlying121 rfl this
  · have := f "postroom/rule.flagNames"; rw [h2] at this; exact this
end Go.Proofs.YtkciflocpelhiaaGreatDoor
