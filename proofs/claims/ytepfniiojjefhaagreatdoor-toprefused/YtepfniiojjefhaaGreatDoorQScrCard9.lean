/-
  What the laws of the layer of scripts want besides their walks: what the table of words holds.
  What the table of flags holds, from what a row lays.
  What the laws of rules and of courses want besides their walks: what the tables of script and of rule hold.
  What the laws of flags want besides their walks: what the table of flags holds.
  What the laws' picking of a number does: the walk.
  What the laws' maker of words does: the walk.
  What letter.isName does: the walk.
  Rows of fields in memory; what letter.isValue and letter.shownSize do: the walks.
  Rows of fields that a call makes.
  What letter.takeLine and letter.trimValues do: the walks. The fields are a row that the call has made itself; a line that goes on is written into it.
  What letter.trimValues and letter.Parse do: the walks.
  What letter.Parse does: the walk.
  What the laws' makers of plain texts do (value): the walk.
  Drawn regions that read what they build: what is held on the way may be made stronger.
  What the laws of the whole make of raw numbers: the head of a letter. Plain meaning and walk.
-/
import Derived.Test.YtepfniiojjefhaaGreatDoorCards
import Derived.Test.YtepfniiojjefhaaGreatDoorTie
import Derived.Test.YtepfniiojjefhaaGreatDoorScrCk
import Derived.WalkKit
import Derived.ProofKit
import Derived.OpenShut
import Derived.ChangeOld
import Derived.Below
import Derived.Deep.DeepHandedRow
import Derived.Lib.LaidTab
import Derived.LaidSub
import Derived.Test.YtepfniiojjefhaaGreatDoorRulCs
import Derived.Test.YtepfniiojjefhaaGreatDoorRows
import Derived.Test.YtepfniiojjefhaaGreatDoorQPure6
import Derived.Test.YtepfniiojjefhaaGreatDoorShelf
import Derived.Deep.QuietTactic
import Derived.BigQuiet
import Derived.Deep.RegionLaw
import Derived.Deep.AppendLies
import Derived.Deep.RegionHeld3
import Derived.Deep.DeepCutAuto
namespace Go.Proofs.YtepfniiojjefhaaGreatDoor
open Go.ChangeShapes Go.WideShapes Go.ChangeAt Go.RowKit

theorem own : ownKnob Tryz.prog.godebug = none := by kernel_rfl
theorem laidOut : laidOutB Tryz.prog = true := by kernel_rfl
def layCells (cs : Array Value) : Obj → Obj
  | .cells _ t frozen => .cells cs t frozen
  | o => o
def wordCells : Array Value := (wTabs.flatMap fun r => r.map fun s => Value.string (S s)).toArray
def wordsD : DataW Unit := .agg (wTabs.map fun r => .agg (r.map fun s => .lit (.string s)))
theorem laid_words : (Rows.laid_postroom_script_words : DataW Unit) = wordsD := by kernel_rfl
theorem words_of (W : World) (h : laidMetH Tryz.prog [("postroom/script.words", Rows.laid_postroom_script_words)] W) : WordsAt W := by
  have h1 : laidMet Tryz.prog [("postroom/script.words", Rows.laid_postroom_script_words)] W := h
  rw [laid_words] at h1
  obtain ⟨ps, ⟨g', t', cs, fuel, p, q, hg', ht', hvar, hd, _, _⟩, _⟩ := h1
  have hg : Tryz.prog.globalNamed "postroom/script.words" = some 3 := by kernel_rfl
  have hty : (Tryz.prog.globals[3]?).map (·.type) = some 281 := by kernel_rfl
  obtain rfl := Option.some.inj (hg.symm.trans hg')
  obtain rfl := Option.some.inj (hty.symm.trans ht')
  have c11 : Tryz.prog.cellsOf 243 = 11 := by kernel_rfl
  have c1 : Tryz.prog.cellsOf 9 = 1 := by kernel_rfl
  obtain ⟨xs, m, _, ex, _, hxl, hx⟩ := DataW.trod_array Tryz.underlying281 hd
  have exs : xs.map (·.1) = wTabs.map fun r => (.agg (r.map fun s => .lit (.string s)) : DataW Unit) := by
    have := congrArg Prod.fst ex
    simpa [wordsD] using this.symm
  intro k n hk hn
  have hx' := hx k hk
  rw [c11] at hx'
  obtain ⟨y, hy⟩ : ∃ y, xs[k]? = some y := ⟨_, List.getElem?_eq_getElem (by omega)⟩
  rw [hy] at hx'
  have hwk : wTabs[k]? = some (wTabs.getD k []) := by
    match k, hk with
    | 0, _ | 1, _ | 2, _ | 3, _ => rfl
  have ey : y.1 = .agg ((wTabs.getD k []).map fun s => .lit (.string s)) := by
    have := congrArg (·[k]?) exs
    simp only [List.getElem?_map, hy, hwk, Option.map_some, Option.some.injEq] at this
    exact this
  obtain ⟨ys, m', _, ez, _, hyl, hz⟩ := DataW.trod_array Tryz.underlying243 hx'
  have eys : ys.map (·.1) = (wTabs.getD k []).map fun s => (.lit (.string s) : DataW Unit) := by
    have := congrArg Prod.fst ez
    rw [ey] at this
    simpa using this.symm
  have hz' := hz n hn
  rw [c1] at hz'
  obtain ⟨u, hu⟩ : ∃ u, ys[n]? = some u := ⟨_, List.getElem?_eq_getElem (by omega)⟩
  rw [hu] at hz'
  obtain ⟨s, e1, e2, _⟩ := DataW.trod_string Tryz.underlying9 hz'
  have hwn : (wTabs.getD k [])[n]? = some (wordOf k n) := by
    have hlen := row_len k hk
    rw [List.getElem?_eq_getElem (by omega), row_at k n (by omega)]
  have e3 : u.1 = .lit (.string (wordOf k n)) := by
    have := congrArg (·[n]?) eys
    simp only [List.getElem?_map, hu, hwn, Option.map_some, Option.some.injEq] at this
    exact this
  have e4 : s.data.toList = wordOf k n := by
    rw [e2] at e3
    simpa using e3
  have e5 : cs[k * 11 + n]? = some (.string s) := by
    have := congrArg (·[0]?) e1
    simp only [List.getElem?_take, List.getElem?_drop] at this
    simpa [hn, Nat.add_assoc] using this
  rw [World.var?_cell hg hvar (k * 11 + n)]
  rw [← e4, S_list]
  simpa using e5
end Go.Proofs.YtepfniiojjefhaaGreatDoor
namespace Go.Proofs.YtepfniiojjefhaaGreatDoor
open Go.ChangeShapes Go.WideShapes Go.ChangeAt Go.RowKit

def flagCells : Array Value := (flagTab.flatMap fun x => [Value.string (S x.1), .int .i64 (x.2 : Nat)]).toArray
def flagsD : DataW Unit := .agg (flagTab.map fun x => .agg [.lit (.string x.1), .lit (.int .i64 (x.2 : Nat))])
theorem laid_flags : (Rows.laid_postroom_rule_flagNames : DataW Unit) = flagsD := by kernel_rfl
theorem flags_of (W : World) (h : laidMetH Tryz.prog [("postroom/rule.flagNames", Rows.laid_postroom_rule_flagNames)] W) : FlagsAt W := by
  have h1 : laidMet Tryz.prog [("postroom/rule.flagNames", Rows.laid_postroom_rule_flagNames)] W := h
  rw [laid_flags] at h1
  obtain ⟨ps, ⟨g', t', cs, fuel, p, q, hg', ht', hvar, hd, _, _⟩, _⟩ := h1
  have hg : Tryz.prog.globalNamed "postroom/rule.flagNames" = some 4 := by kernel_rfl
  have hty : (Tryz.prog.globals[4]?).map (·.type) = some 309 := by kernel_rfl
  obtain rfl := Option.some.inj (hg.symm.trans hg')
  obtain rfl := Option.some.inj (hty.symm.trans ht')
  have c2 : Tryz.prog.cellsOf 308 = 2 := by kernel_rfl
  have c1 : Tryz.prog.cellsOf 9 = 1 := by kernel_rfl
  have ci : Tryz.prog.cellsOf 3 = 1 := by kernel_rfl
  obtain ⟨xs, m, _, ex, _, hxl, hx⟩ := DataW.trod_array Tryz.underlying309 hd
  have exs : xs.map (·.1) = flagTab.map fun x => (.agg [.lit (.string x.1), .lit (.int .i64 (x.2 : Nat))] : DataW Unit) := by
    have := congrArg Prod.fst ex
    simpa [flagsD] using this.symm
  intro i hi
  have hx' := hx i hi
  rw [c2] at hx'
  obtain ⟨y, hy⟩ : ∃ y, xs[i]? = some y := ⟨_, List.getElem?_eq_getElem (by omega)⟩
  rw [hy] at hx'
  have hft : flagTab[i]? = some (flagN i, flagV i) := by
    match i, hi with
    | 0, _ | 1, _ | 2, _ | 3, _ | 4, _ => rfl
  have ey : y.1 = .agg [.lit (.string (flagN i)), .lit (.int .i64 (flagV i : Nat))] := by
    have := congrArg (·[i]?) exs
    simp only [List.getElem?_map, hy, hft, Option.map_some, Option.some.injEq] at this
    exact this
  obtain ⟨zs, m', _, ez, _, hzl, hz⟩ := DataW.trod_struct Tryz.underlying308 hx'
  have ezs : zs.map (·.1) = [(.lit (.string (flagN i)) : DataW Unit), .lit (.int .i64 (flagV i : Nat))] := by
    have := congrArg Prod.fst ez
    rw [ey] at this
    simpa using this.symm
  obtain ⟨z0, z1, rfl⟩ : ∃ z0 z1, zs = [z0, z1] := by
    match zs, hzl with
    | [z0, z1], _ => exact ⟨z0, z1, rfl⟩
  have e0 : z0.1 = .lit (.string (flagN i)) := (List.cons.inj ezs).1
  have e1 : z1.1 = .lit (.int .i64 (flagV i : Nat)) := (List.cons.inj (List.cons.inj ezs).2).1
  have h0 := (hz 0 _ rfl).trans (show [z0, z1][0]? = some z0 from rfl)
  have h1' := (hz 1 _ rfl).trans (show [z0, z1][1]? = some z1 from rfl)
  obtain ⟨s, q0, q1, _⟩ := DataW.trod_string Tryz.underlying9 h0
  obtain ⟨v, r0, r1, _⟩ := DataW.trod_int Tryz.underlying3 h1'
  have q0 : List.take (Tryz.prog.cellsOf 9) (List.drop 0 (List.take 2 (List.drop (i * 2) cs.toList))) = [.string s] := q0
  have r0 : List.take (Tryz.prog.cellsOf 3) (List.drop 1 (List.take 2 (List.drop (i * 2) cs.toList))) = [.int .i64 v] := r0
  rw [c1] at q0
  rw [ci] at r0
  have es : s.data.toList = flagN i := by
    rw [q1] at e0
    simpa using e0
  have ev : v = (flagV i : Nat) := by
    rw [r1] at e1
    simpa using e1
  have f0 : cs[i * 2]? = some (.string s) := by
    have := congrArg (·[0]?) q0
    simp only [List.getElem?_take, List.getElem?_drop] at this
    simpa using this
  have f1 : cs[i * 2 + 1]? = some (.int .i64 v) := by
    have := congrArg (·[0]?) r0
    simp only [List.getElem?_take, List.getElem?_drop] at this
    simpa using this
  refine ⟨?_, ?_⟩
  · rw [World.var?_cell hg hvar (i * 2), ← es, S_list]
    simpa using f0
  · rw [World.var?_cell hg hvar (i * 2 + 1), ← ev]
    simpa using f1
end Go.Proofs.YtepfniiojjefhaaGreatDoor

namespace Go.Proofs.YtepfniiojjefhaaGreatDoor
open Go.ChangeShapes Go.WideShapes Go.ChangeAt Go.RowKit

def litC : DataW Unit → List Value
  | .lit (.int k n) => [.int k n]
  | .lit (.string s) => [.string (S s)]
  | _ => []
def litsC : DataW Unit → List Value
  | .agg l => l.flatMap litC
  | d => litC d
def cellsD : DataW Unit → Array Value
  | .agg l => (l.flatMap litsC).toArray
  | _ => #[]
/-- A table of texts that a row lays lies there. -/
theorem strTab_of {W : World} {nm : String} {g n : Nat} {t : TypeId} {l : List (List UInt8)} (hg : Tryz.prog.globalNamed nm = some g) (hty : (Tryz.prog.globals[g]?).map (·.type) = some t) (hu : Tryz.prog.underlying t = some (.array n 9)) (hn : l.length = n)
    (h : laidMet Tryz.prog [(nm, (.agg (l.map fun s => .lit (.string s)) : DataW Unit))] W) : TabAt W g l := by
  obtain ⟨ps, ⟨g', t', cs, fuel, p, q, hg', ht', hvar, hd, _, _⟩, _⟩ := h
  obtain rfl := Option.some.inj (hg.symm.trans hg')
  obtain rfl := Option.some.inj (hty.symm.trans ht')
  have c1 : Tryz.prog.cellsOf 9 = 1 := by kernel_rfl
  obtain ⟨xs, m, _, ex, _, hxl, hx⟩ := DataW.trod_array hu hd
  have exs : xs.map (·.1) = l.map fun s => (.lit (.string s) : DataW Unit) := by
    have := congrArg Prod.fst ex
    simpa using this.symm
  intro i s hs
  have hi : i < l.length := (List.getElem?_eq_some_iff.1 hs).1
  have hx' := hx i (by omega)
  rw [c1] at hx'
  obtain ⟨y, hy⟩ : ∃ y, xs[i]? = some y := ⟨_, List.getElem?_eq_getElem (by omega)⟩
  rw [hy] at hx'
  obtain ⟨b, e1, e2, _⟩ := DataW.trod_string Tryz.underlying9 hx'
  have e3 : y.1 = .lit (.string s) := by
    have := congrArg (·[i]?) exs
    simp only [List.getElem?_map, hy, hs, Option.map_some, Option.some.injEq] at this
    exact this
  have e4 : b.data.toList = s := by
    rw [e2] at e3
    simpa using e3
  have e5 : cs[i]? = some (.string b) := by
    have := congrArg (·[0]?) e1
    simp only [List.getElem?_take, List.getElem?_drop] at this
    simpa using this
  rw [World.var?_cell hg hvar i, ← e4, S_list]
  simpa using e5
def one (nm : String) (L : List (String × DataW Unit)) : List (String × DataW Unit) := L.filter fun x => x.1 == nm
def TabsM (w : World) : Prop := Tabs w ∧ maxLenCell w
theorem TabsM.next {w w' : World} (h : TabsM w) (hb : Below w.heap.size w w') : TabsM w' := ⟨h.1.next hb, maxLenCell_below h.2 hb⟩
theorem tabs_of (W : World) (L : List (String × DataW Unit)) (hsh : W.ShapedOpen Tryz.prog) (hL : laidMet Tryz.prog L W)
    (h1 : one "postroom/script.words" L = [("postroom/script.words", Rows.laid_postroom_script_words)]) (h2 : one "postroom/rule.flagNames" L = [("postroom/rule.flagNames", Rows.laid_postroom_rule_flagNames)])
    (h3 : one "postroom/rule.requirable" L = [("postroom/rule.requirable", .agg (extT.map fun s => .lit (.string s)))])
    (h4 : one "postroom/rule.envelopeParts" L = [("postroom/rule.envelopeParts", .agg (partT.map fun s => .lit (.string s)))])
    (h5 : one "postroom/rule.neededFor" L = [("postroom/rule.neededFor", .agg (needT.map fun s => .lit (.string s)))]) : TabsM W := by
  have f : ∀ nm, laidMet Tryz.prog (one nm L) W := fun nm => laidMet.filter (fun x => x.1 == nm) hL
  refine ⟨⟨words_of W ?_, ?_, ?_, ?_, flags_of W ?_⟩, maxLenCell_shaped W hsh⟩
  · have := f "postroom/script.words"; rw [h1] at this; exact this
  · have := f "postroom/rule.requirable"; rw [h3] at this; exact strTab_of (n := 4) (by kernel_rfl) (by kernel_rfl) Tryz.underlying242 rfl this
  · have := f "postroom/rule.envelopeParts"; rw [h4] at this; exact strTab_of (n := 2) (by kernel_rfl) (by kernel_rfl) Tryz.underlying345 rfl this
  · have := f "postroom/rule.neededFor"; rw [h5] at this; exact strTab_of (n := 11) (by kernel_rfl) (by kernel_rfl) Tryz.underlying243 rfl this
  · have := f "postroom/rule.flagNames"; rw [h2] at this; exact this
end Go.Proofs.YtepfniiojjefhaaGreatDoor
namespace Go.Proofs.YtepfniiojjefhaaGreatDoor
open Go.ChangeShapes Go.WideShapes Go.ChangeAt Go.RowKit

end Go.Proofs.YtepfniiojjefhaaGreatDoor
namespace Go.Proofs.YtepfniiojjefhaaGreatDoor
open Go.RowKit

def pickN (n : Int) (m : Nat) : Nat := ((if n < 0 then -(n + 1) else n) % (m : Int)).toNat
theorem pickN_lt (n : Int) (m : Nat) (hm : 0 < m) : pickN n m < m := by
  unfold pickN
  have h1 := Int.emod_nonneg (if n < 0 then -(n + 1) else n) (b := (m : Int)) (by omega)
  have h2 := Int.emod_lt_of_pos (if n < 0 then -(n + 1) else n) (b := (m : Int)) (by omega)
  omega
set_option maxHeartbeats 1000000 in
theorem picked_any (n : Int) (m : Nat) (w : World) (hn : (Lit.int .i64 n).wf = true) (hm : 0 < m) (hm2 : m ≤ 9223372036854775807) :
    Calls Tryz.prog 8 #[.int .i64 n, .int .i64 m] w fun e w' => e = .returned (.int .i64 (pickN n m)) ∧ w' = w := by
  have hb := bounds_i64 hn
  obtain ⟨hb1, hb2⟩ := hb
  clear hn
  have HP : Hid ((pickN n m : Int) = (if n < 0 then -(n + 1) else n) % (m : Int)) := by
    unfold Hid pickN
    have h1 := Int.emod_nonneg (if n < 0 then -(n + 1) else n) (b := (m : Int)) (by omega)
    omega
  have hmz : ((m : Int) == 0) = false := by simp; omega
  by_cases h : n < 0
  · have HQ : Hid ((pickN n m : Int) = (-(n + 1)) % (m : Int)) := by unfold Hid; rw [HP.out, if_pos h]
    clear HP
    go_enter Tryz.func8, Tryz.ntmps8
    go_wp2
    go_ret
    exact ⟨ret_int (by rw [HQ.out, ← Int.neg_tmod]; exact Int.tmod_eq_emod_of_nonneg (by omega)), rfl⟩
  · have HQ : Hid ((pickN n m : Int) = n % (m : Int)) := by unfold Hid; rw [HP.out, if_neg h]
    clear HP
    go_enter Tryz.func8, Tryz.ntmps8
    go_wp2
    go_ret
    exact ⟨ret_int (by rw [HQ.out]), rfl⟩
end Go.Proofs.YtepfniiojjefhaaGreatDoor
namespace Go.Proofs.YtepfniiojjefhaaGreatDoor
open Go.RowKit

theorem infoB8 : (Tryz.prog.info? 5).map (fun i => (i.zero, i.size, i.bytes)) = some (some (.int .u8 0), 1, 1) := by kernel_rfl
def bytesC (l : List UInt8) : List Value := l.map fun c => .int .u8 c.toNat
theorem bytesC_snoc (l : List UInt8) (c : UInt8) (x : Int) (hx : (c.toNat : Int) = x) : bytesC (l ++ [c]) = bytesC l ++ [.int .u8 x] := by
  simp [bytesC, ← hx]
theorem bytesC_back {w : World} {base n : Nat} {v : Value} {l : List UInt8} (h : w.ownsRow base 5 1 v n (bytesC l)) :
    (convert 52 9 v).run Tryz.prog w = .ok (.string (S l)) w := by
  have hl : l.length = n := by have := h.1; simpa [bytesC] using this
  rcases h.2 with ⟨rfl, hn⟩ | ⟨g, cap, cur, rfl, _⟩
  · rw [run_convert_bytes_nil w 52 5 Tryz.underlying52 Tryz.underlying5 0 0 9 Tryz.underlying9]
    have : l = [] := List.length_eq_zero_iff.1 (by omega)
    subst this
    rfl
  · have := run_convert_bytes_back (P := Tryz.prog) w 52 9 5 ⟨g, 0, none⟩ cap l Tryz.underlying52 Tryz.underlying5 Tryz.underlying9 (fun j hj => by
      have e : (⟨g, 0, none⟩ : Addr).add j = ⟨g, j, none⟩ := by simp [Addr.add]; omega
      rw [e, h.cellAt j (by omega)]
      simp [bytesC, hj])
    rw [hl] at this
    exact this

theorem own_form {w : World} {base : Nat} {e : TypeId} {size : Nat} {v : Value} {n : Nat} {xs : List Value} (h : w.ownsRow base e size v n xs) : ∃ a c, v = .slice a n c := by
  rcases h.2 with ⟨hv, rfl⟩ | ⟨g, cap, cur, hv, _⟩
  · exact ⟨_, _, hv⟩
  · exact ⟨_, _, hv⟩
theorem cell_one_fresh (w : World) (x : Value) (t : TypeId) : ∀ (j : Nat) u, [x][j]? = some u → (w.alloc (.cells #[x] t)).cell? ((⟨w.heap.size, 0, none⟩ : Addr).add j) = some u := by
  intro j u hj
  rw [Addr.add_lit, Nat.zero_add]
  match j, hj with
  | 0, hj => simp at hj; subst hj; simp
def wordC (c : UInt8) : UInt8 := UInt8.ofNat (97 + c.toNat % 26)
theorem wordC_nat (c : UInt8) : ((wordC c).toNat : Int) = 97 + (c.toNat : Int) % 26 := by
  unfold wordC
  have h : 97 + c.toNat % 26 < 256 := by omega
  rw [UInt8.toNat_ofNat_of_lt' (by simpa using h)]
  omega
def wordK (l : List UInt8) (k : Nat) : List UInt8 := (l.take k).map wordC
def wordL (l : List UInt8) : List UInt8 := if l = [] then [120] else wordK l 8
theorem wordL_len (l : List UInt8) : (wordL l).length ≤ 8 := by unfold wordL wordK; split <;> simp; omega
theorem word_step (s : ByteArray) (k : Nat) (hk : k < s.size) : bytesC (wordK s.data.toList (k + 1)) = bytesC (wordK s.data.toList k) ++ [.int .u8 (97 + (s[k].toNat : Int) % 26)] := by
  unfold wordK
  rw [take_snoc s k hk, List.map_append]
  exact bytesC_snoc _ _ _ (wordC_nat _)

set_option maxHeartbeats 1000000 in
set_option maxRecDepth 100000 in
theorem word_any (s : ByteArray) (w : World) (hs : s.size ≤ maxLen) :
    Calls Tryz.prog 67 #[.string s] w fun e w' => e = .returned (.string (S (wordL s.data.toList))) ∧ Below w.heap.size w w' := by
  unfold maxLen at hs
  obtain ⟨i0, hi, hz0, hz1, hz2⟩ := info_parts infoB8
  go_enter Tryz.func67, Tryz.ntmps67
  go_wp2
  go_loopw [3, 4] (fun v i wr => ∃ k : Nat, k ≤ s.size ∧ k ≤ 8 ∧ i = .int .i64 k ∧ wr.ownsRow w.heap.size 5 1 v k (bytesC (wordK s.data.toList k)) ∧ Below w.heap.size w wr) (fun _ i _ => 8 - (intOf i).toNat)
  case atStart => exact ⟨0, Nat.zero_le _, Nat.zero_le _, rfl, World.ownsRow_nil _ _ _ _, Below.refl _ _⟩
  case round =>
    obtain ⟨k, hk, hk8, rfl, hown, hB⟩ := hrel
    by_cases hlt : k < s.size ∧ k < 8
    · obtain ⟨hl1, hl2⟩ := hlt
      have hu := s[k].toNat_lt
      have hu0 : (0 : Int) ≤ (s[k].toNat : Int) := by omega
      have hu1 : (s[k].toNat : Int) ≤ 255 := by omega
      have HS : Hid _ := word_step s k hl1
      go_wp2_with (at_builtin; refine wpList_append_own _ rfl _ _ 52 rfl w.heap.size 5 i0 (.int .u8 0) 1 1 Tryz.underlying52 hi hz0 hz1 hz2 rfl (by decide) _ _ _ rfl (hown.alloc _) ⟨wr.heap.size, 0, none⟩ 1 1 [.int .u8 (97 + (s[k].toNat : Int) % 26)] rfl rfl (cell_one_fresh _ _ _) ?c2 ?c3 ?c4 ?c5 ?_)
      case c2 => intro u hu; simp at hu; subst hu; rfl
      case c3 => unfold maxLen; omega
      case c4 => omega
      case c5 => have := hB.size; simp; omega
      intro v' w2 hown' hgrow _
      have hsz := hB.size
      have hB2 : Below w.heap.size w w2 := (hB.alloc hsz _).grown hgrow (by simp; omega) (fun j hj => (hown.lt j hj).1)
      rw [← HS.out] at hown'
      clear hgrow hown
      go_wp2
      go_roundw
      case rel => first | exact ⟨k + 1, by omega, by omega, by go_num, hown', hB2⟩ | ((repeat apply Exists.intro); exact ⟨⟨k + 1, by omega, by omega, by go_num, hown', hB2⟩, rfl⟩) | (refine ⟨trivial, ?_⟩; (repeat apply Exists.intro); exact ⟨⟨k + 1, by omega, by omega, by go_num, hown', hB2⟩, rfl⟩)
      case measure => simp [intOf]; omega
    · by_cases h0 : s.size = 0
      · have hk0 : k = 0 := by omega
        subst hk0
        have HW : Hid (wordL s.data.toList = [120]) := by
          have : s.data.toList = [] := List.length_eq_zero_iff.1 (by rw [size_list]; exact h0)
          unfold Hid wordL; rw [if_pos this]
        obtain ⟨a0, c0, rfl⟩ := own_form hown
        go_wp2
        go_ret
        exact ⟨by rw [HW.out]; rfl, hB⟩
      · have HT : Hid (wordL s.data.toList = wordK s.data.toList k) := by
          have hne : s.data.toList ≠ [] := fun e => by have := size_list s; rw [e] at this; simp at this; omega
          unfold Hid wordL
          rw [if_neg hne]
          by_cases h8 : k = 8
          · rw [h8]
          · unfold wordK
            rw [List.take_of_length_le (by rw [size_list]; omega), List.take_of_length_le (by rw [size_list]; omega)]
        have hkp : (k : Int) ≠ 0 := by omega
        have hkb : ((k : Int) == 0) = false := by simpa using hkp
        have hrun := bytesC_back hown
        obtain ⟨a0, c0, rfl⟩ := own_form hown
        by_cases h8 : k < s.size
        · have hk8' : ¬ k < 8 := fun h => hlt ⟨h8, h⟩
          go_wp2
          go_ret
          exact ⟨by rw [HT.out]; rfl, hB⟩
        · go_wp2
          go_ret
          exact ⟨by rw [HT.out]; rfl, hB⟩

end Go.Proofs.YtepfniiojjefhaaGreatDoor
namespace Go.Proofs.YtepfniiojjefhaaGreatDoor
open Go.RowKit

end Go.Proofs.YtepfniiojjefhaaGreatDoor

namespace Go.Proofs.YtepfniiojjefhaaGreatDoor
open Go.RowKit

/-- The fields lie in memory from a place on, two texts each. -/
def FieldsAt (w : World) (a : Option Addr) (fs : List F) : Prop :=
  ∀ (i : Nat) f, fs[i]? = some f → ∃ b off, a = some ⟨b, off, none⟩ ∧ b < w.heap.size ∧ w.cell? ⟨b, off + i * 2, none⟩ = some (.string (S f.1)) ∧ w.cell? ⟨b, off + i * 2 + 1, none⟩ = some (.string (S f.2))
theorem FieldsAt.below {w w' : World} {a : Option Addr} {fs : List F} (h : FieldsAt w a fs) (hb : Below w.heap.size w w') : FieldsAt w' a fs := by
  intro i f hf
  obtain ⟨b, off, ha, hlt, h1, h2⟩ := h i f hf
  exact ⟨b, off, ha, Nat.lt_of_lt_of_le hlt hb.size, (hb.cell (p := ⟨b, off + i * 2, none⟩) hlt).trans h1, (hb.cell (p := ⟨b, off + i * 2 + 1, none⟩) hlt).trans h2⟩

end Go.Proofs.YtepfniiojjefhaaGreatDoor

namespace Go.Proofs.YtepfniiojjefhaaGreatDoor
open Go.RowKit

/-- The fields' cells. -/
def cellsF (fs : List F) : List Value := fs.flatMap fun f => [.string (S f.1), .string (S f.2)]
theorem cellsF_get {fs : List F} {i : Nat} {f : F} (h : fs[i]? = some f) : (cellsF fs)[i * 2]? = some (.string (S f.1)) ∧ (cellsF fs)[i * 2 + 1]? = some (.string (S f.2)) := by
  induction fs generalizing i with
  | nil => simp at h
  | cons g fs ih =>
    cases i with
    | zero => simp at h; subst h; simp [cellsF]
    | succ i =>
      have := ih (i := i) (by simpa using h)
      have e1 : (i + 1) * 2 = i * 2 + 2 := by omega
      rw [e1]
      simpa [cellsF] using this
/-- A row that the call has made, as fields. -/
theorem fields_own {w : World} {base g cap : Nat} {fs : List F} (h : w.ownsRow base 371 2 (.slice (some ⟨g, 0, none⟩) fs.length cap) fs.length (cellsF fs)) (hg : g < w.heap.size) : FieldsAt w (some ⟨g, 0, none⟩) fs := by
  intro i f hf
  have hi : i < fs.length := by
    rcases Nat.lt_or_ge i fs.length with h | h
    · exact h
    · rw [List.getElem?_eq_none h] at hf; cases hf
  obtain ⟨h1, h2⟩ := cellsF_get hf
  refine ⟨g, 0, rfl, hg, ?_, ?_⟩
  · rw [Nat.zero_add, h.cellAt _ (by omega)]; exact h1
  · rw [Nat.zero_add, h.cellAt _ (by omega)]; exact h2
theorem cell_set_far {w : World} {p a : Addr} {v : Value} (h : p.block ≠ a.block) : (w.setCell p v).cell? a = w.cell? a :=
  World.cell?_of_block (heap_setCell_other w p a.block v (fun e => h e.symm))
theorem FieldsAt.set {w : World} {g : Nat} {fs : List F} (h : FieldsAt w (some ⟨g, 0, none⟩) fs) {p : Addr} (v : Value) (hp : p.block ≠ g) : FieldsAt (w.setCell p v) (some ⟨g, 0, none⟩) fs := by
  intro i f hf
  obtain ⟨b, off, ha, hb, h1, h2⟩ := h i f hf
  simp only [Option.some.injEq, Addr.mk.injEq, and_true] at ha
  obtain ⟨rfl, rfl⟩ := ha
  exact ⟨_, _, rfl, by simpa using hb, (cell_set_far hp).trans h1, (cell_set_far hp).trans h2⟩
theorem fields_nil (w : World) (a : Option Addr) : FieldsAt w a [] := by intro i f hf; simp at hf

end Go.Proofs.YtepfniiojjefhaaGreatDoor

namespace Go.Proofs.YtepfniiojjefhaaGreatDoor
open Go.RowKit

/-- A row of fields that the call has made. -/
def OwnF (w : World) (B : Nat) (v : Value) (fs : List F) : Prop := w.ownsRow B 371 2 v fs.length (cellsF fs)

theorem OwnF.form {w : World} {B : Nat} {v : Value} {fs : List F} (h : OwnF w B v fs) (h0 : fs ≠ []) : ∃ g cap, v = .slice (some ⟨g, 0, none⟩) fs.length cap ∧ B ≤ g ∧ g < w.heap.size :=
  World.ownsRow.form h (List.length_pos_iff.2 h0)
theorem OwnF.any {w : World} {B : Nat} {v : Value} {fs : List F} (h : OwnF w B v fs) : ∃ a cap, v = .slice a fs.length cap := by
  by_cases h0 : fs = []
  · rcases h.2 with ⟨rfl, hn⟩ | ⟨g, cap, cur, rfl, _⟩
    · subst h0; exact ⟨none, 0, rfl⟩
    · exact ⟨_, _, rfl⟩
  · obtain ⟨g, cap, rfl, _⟩ := h.form h0
    exact ⟨_, _, rfl⟩
theorem OwnF.fields {w : World} {B : Nat} {a : Option Addr} {c : Nat} {fs : List F} (h : OwnF w B (.slice a fs.length c) fs) : FieldsAt w a fs := by
  by_cases h0 : fs = []
  · subst h0; exact fields_nil _ _
  · obtain ⟨g, cap, e, hb, hg⟩ := h.form h0
    simp only [Value.slice.injEq, true_and] at e
    obtain ⟨rfl, rfl⟩ := e
    exact fields_own h hg
end Go.Proofs.YtepfniiojjefhaaGreatDoor

namespace Go.Proofs.YtepfniiojjefhaaGreatDoor
open Go.RowKit

theorem own_below {w w' : World} {base : Nat} {e : TypeId} {size : Nat} {v : Value} {n : Nat} {xs : List Value} (h : w.ownsRow base e size v n xs) (hb : Below w.heap.size w w') : w'.ownsRow base e size v n xs := by
  refine ⟨h.1, ?_⟩
  rcases h.2 with h' | ⟨g, cap, cur, h1, h2, hg, r⟩
  · exact .inl h'
  · refine .inr ⟨g, cap, cur, h1, h2, ?_, r⟩
    rw [hb.block g (by
      rcases Nat.lt_or_ge g w.heap.size with h' | h'
      · exact h'
      · rw [Array.getElem?_eq_none h'] at hg; cases hg)]
    exact hg
theorem OwnF.below {w w' : World} {B : Nat} {v : Value} {fs : List F} (h : OwnF w B v fs) (hb : Below w.heap.size w w') : OwnF w' B v fs := own_below h hb
theorem OwnF.far {w : World} {B : Nat} {v : Value} {fs : List F} (h : OwnF w B v fs) {p : Addr} (hp : p.block < B) (u : Value) : OwnF (w.setCell p u) B v fs := ownsRow_setCell_below h hp u
theorem OwnF.nil (w : World) (B : Nat) : OwnF w B (.slice none 0 0) [] := World.ownsRow_nil _ _ _ _

end Go.Proofs.YtepfniiojjefhaaGreatDoor

namespace Go.Proofs.YtepfniiojjefhaaGreatDoor
open Go.RowKit

/-- Where a row lies that is new. -/
def FreshA (n : Nat) (a : Option Addr) : Prop := ∀ b o q, a = some ⟨b, o, q⟩ → n ≤ b
theorem FreshA.nil (n : Nat) : FreshA n none := fun _ _ _ h => by cases h
theorem OwnF.fresh {w : World} {B n : Nat} {a : Option Addr} {c k : Nat} {fs : List F} (h : OwnF w B (.slice a k c) fs) (hn : n ≤ B) : FreshA n a := by
  intro b o q e
  subst e
  rcases h.2 with ⟨h', _⟩ | ⟨g, cap, cur, h', hb, _⟩
  · simp at h'
  · simp only [Value.slice.injEq, Option.some.injEq, Addr.mk.injEq] at h'
    obtain ⟨⟨e, _⟩, _⟩ := h'
    omega

end Go.Proofs.YtepfniiojjefhaaGreatDoor
namespace Go.Proofs.YtepfniiojjefhaaGreatDoor
open Go.RowKit

/- Values. -/
def valC (n i : Nat) (c : UInt8) : UInt8 := if c = 13 ∨ c = 10 ∨ ((c = 32 ∨ c = 9) ∧ (i = 0 ∨ i + 1 = n ∨ i = 39)) then 121 else c
def valK (l : List UInt8) : Nat → List UInt8
  | 0 => []
  | k + 1 => valK l k ++ [valC l.length k (l[k]?.getD 0)]
def valL (l : List UInt8) : List UInt8 := valK l (min l.length 40)
theorem valK_len (l : List UInt8) (k : Nat) : (valK l k).length = k := by
  induction k with
  | zero => rfl
  | succ k ih => simp [valK, ih]
theorem valL_len (l : List UInt8) : (valL l).length ≤ 40 := by unfold valL; rw [valK_len]; omega
theorem byteI (c : UInt8) (n : Nat) (hn : n < 256) : ((c.toNat : Int) == (n : Int)) = decide (c = UInt8.ofNat n) := by
  rw [Bool.eq_iff_iff, beq_iff_eq, decide_eq_true_iff]
  constructor
  · intro h; exact UInt8.toNat_inj.1 (by rw [UInt8.toNat_ofNat_of_lt' (by simpa using hn)]; omega)
  · rintro rfl; rw [UInt8.toNat_ofNat_of_lt' (by simpa using hn)]
theorem valC_cases (c : UInt8) (n k : Nat) :
    (((c.toNat : Int) == 13) = true ∧ Hid (valC n k c = 121)) ∨
    (((c.toNat : Int) == 13) = false ∧ ((c.toNat : Int) == 10) = true ∧ Hid (valC n k c = 121)) ∨
    (((c.toNat : Int) == 13) = false ∧ ((c.toNat : Int) == 10) = false ∧ ((c.toNat : Int) == 32) = false ∧ ((c.toNat : Int) == 9) = false ∧ Hid (valC n k c = c)) ∨
    (((c.toNat : Int) == 13) = false ∧ ((c.toNat : Int) == 10) = false ∧ (((c.toNat : Int) == 32) = true ∨ (((c.toNat : Int) == 32) = false ∧ ((c.toNat : Int) == 9) = true)) ∧
      ((((k : Int) == 0) = true ∧ Hid (valC n k c = 121)) ∨ (((k : Int) == 0) = false ∧ ((k : Int) == (n : Int) - 1) = true ∧ Hid (valC n k c = 121)) ∨
       (((k : Int) == 0) = false ∧ ((k : Int) == (n : Int) - 1) = false ∧ ((k : Int) == 39) = true ∧ Hid (valC n k c = 121)) ∨
       (((k : Int) == 0) = false ∧ ((k : Int) == (n : Int) - 1) = false ∧ ((k : Int) == 39) = false ∧ Hid (valC n k c = c)))) := by
  have b13 := byteI c 13 (by omega)
  have b10 := byteI c 10 (by omega)
  have b32 := byteI c 32 (by omega)
  have b9 := byteI c 9 (by omega)
  simp only [Int.cast_ofNat_Int] at b13 b10 b32 b9
  rw [b13, b10, b32, b9]
  have e0 : ((k : Int) == 0) = decide (k = 0) := by rw [Bool.eq_iff_iff]; simp
  have e1 : ((k : Int) == (n : Int) - 1) = decide (k + 1 = n) := by rw [Bool.eq_iff_iff]; simp; omega
  have e2 : ((k : Int) == 39) = decide (k = 39) := by rw [Bool.eq_iff_iff]; simp; omega
  rw [e0, e1, e2]
  unfold Hid valC
  have f13 : (UInt8.ofNat 13) = 13 := rfl
  have f10 : (UInt8.ofNat 10) = 10 := rfl
  have f32 : (UInt8.ofNat 32) = 32 := rfl
  have f9 : (UInt8.ofNat 9) = 9 := rfl
  rw [f13, f10, f32, f9]
  by_cases g1 : c = 13
  · left; simp [g1]
  · by_cases g2 : c = 10
    · right; left; simp [g2]
    · by_cases g3 : c = 32
      · right; right; right
        by_cases g5 : k = 0
        · simp [g3, g5]
        · by_cases g6 : k + 1 = n
          · simp [g3, g5, g6]
          · by_cases g7 : k = 39
            · simp [g3, g7]; omega
            · simp [g3, g5, g6, g7]
      · by_cases g4 : c = 9
        · right; right; right
          by_cases g5 : k = 0
          · simp [g4, g5]
          · by_cases g6 : k + 1 = n
            · simp [g4, g5, g6]
            · by_cases g7 : k = 39
              · simp [g4, g7]; omega
              · simp [g4, g5, g6, g7]
        · right; right; left; simp [g1, g2, g3, g4]
theorem val_step (s : ByteArray) (k : Nat) (hk : k < s.size) (x : Int) (hx : ((valC s.size k s[k]).toNat : Int) = x) : bytesC (valK s.data.toList (k + 1)) = bytesC (valK s.data.toList k) ++ [.int .u8 x] := by
  have e : valK s.data.toList (k + 1) = valK s.data.toList k ++ [valC s.size k s[k]] := by
    show _ ++ [valC _ k (s.data.toList[k]?.getD 0)] = _
    rw [get_list s k hk, size_list]; rfl
  rw [e]
  exact bytesC_snoc _ _ _ hx

set_option maxHeartbeats 4000000 in
set_option maxRecDepth 100000 in
theorem value_any (s : ByteArray) (w : World) (hs : s.size ≤ maxLen) :
    Calls Tryz.prog 68 #[.string s] w fun e w' => e = .returned (.string (S (valL s.data.toList))) ∧ Below w.heap.size w w' := by
  unfold maxLen at hs
  obtain ⟨i0, hi, hz0, hz1, hz2⟩ := info_parts infoB8
  go_enter Tryz.func68, Tryz.ntmps68
  go_wp2
  go_loopw [3, 4] (fun v i wr => ∃ k : Nat, k ≤ s.size ∧ k ≤ 40 ∧ i = .int .i64 k ∧ wr.ownsRow w.heap.size 5 1 v k (bytesC (valK s.data.toList k)) ∧ Below w.heap.size w wr) (fun _ i _ => 40 - (intOf i).toNat)
  case atStart => exact ⟨0, Nat.zero_le _, Nat.zero_le _, rfl, World.ownsRow_nil _ _ _ _, Below.refl _ _⟩
  case round =>
    obtain ⟨k, hk, hk8, rfl, hown, hB⟩ := hrel
    by_cases hlt : k < s.size ∧ k < 40
    · obtain ⟨hl1, hl2⟩ := hlt
      have hcs := valC_cases s[k] s.size k
      rcases hcs with ⟨h1, HV⟩ | ⟨h1, h2, HV⟩ | ⟨h1, h2, h3, h4, HV⟩ | ⟨h1, h2, h3 | ⟨h3, h3'⟩, ⟨h4, HV⟩ | ⟨h4, h5, HV⟩ | ⟨h4, h5, h6, HV⟩ | ⟨h4, h5, h6, HV⟩⟩
      all_goals
        first
          | (have HS : Hid _ := val_step s k hl1 121 (by rw [HV.out]; rfl)
             go_wp2_with (at_builtin; refine wpList_append_own _ rfl _ _ 52 rfl w.heap.size 5 i0 (.int .u8 0) 1 1 Tryz.underlying52 hi hz0 hz1 hz2 rfl (by decide) _ _ _ rfl (hown.alloc _) ⟨wr.heap.size, 0, none⟩ 1 1 [.int .u8 121] rfl rfl (cell_one_fresh _ _ _) ?c2 ?c3 ?c4 ?c5 ?_)
             case c2 => intro u hu; simp at hu; subst hu; rfl
             case c3 => unfold maxLen; omega
             case c4 => omega
             case c5 => have := hB.size; simp; omega
             intro v' w2 hown' hgrow _
             have hsz := hB.size
             have hB2 : Below w.heap.size w w2 := (hB.alloc hsz _).grown hgrow (by simp; omega) (fun j hj => (hown.lt j hj).1)
             rw [← HS.out] at hown'
             clear hgrow hown
             go_wp2
             go_roundw
             case rel => first | exact ⟨k + 1, by omega, by omega, by go_num, hown', hB2⟩ | ((repeat apply Exists.intro); exact ⟨⟨k + 1, by omega, by omega, by go_num, hown', hB2⟩, rfl⟩) | (refine ⟨trivial, ?_⟩; (repeat apply Exists.intro); exact ⟨⟨k + 1, by omega, by omega, by go_num, hown', hB2⟩, rfl⟩)
             case measure => simp [intOf]; omega)
          | (have HS : Hid _ := val_step s k hl1 (s[k].toNat : Int) (by rw [HV.out])
             go_wp2_with (at_builtin; refine wpList_append_own _ rfl _ _ 52 rfl w.heap.size 5 i0 (.int .u8 0) 1 1 Tryz.underlying52 hi hz0 hz1 hz2 rfl (by decide) _ _ _ rfl (hown.alloc _) ⟨wr.heap.size, 0, none⟩ 1 1 [.int .u8 (s[k].toNat : Int)] rfl rfl (cell_one_fresh _ _ _) ?c2 ?c3 ?c4 ?c5 ?_)
             case c2 => intro u hu; simp at hu; subst hu; rfl
             case c3 => unfold maxLen; omega
             case c4 => omega
             case c5 => have := hB.size; simp; omega
             intro v' w2 hown' hgrow _
             have hsz := hB.size
             have hB2 : Below w.heap.size w w2 := (hB.alloc hsz _).grown hgrow (by simp; omega) (fun j hj => (hown.lt j hj).1)
             rw [← HS.out] at hown'
             clear hgrow hown
             go_wp2
             go_roundw
             case rel => first | exact ⟨k + 1, by omega, by omega, by go_num, hown', hB2⟩ | ((repeat apply Exists.intro); exact ⟨⟨k + 1, by omega, by omega, by go_num, hown', hB2⟩, rfl⟩) | (refine ⟨trivial, ?_⟩; (repeat apply Exists.intro); exact ⟨⟨k + 1, by omega, by omega, by go_num, hown', hB2⟩, rfl⟩)
             case measure => simp [intOf]; omega)
    · have HT : Hid (valL s.data.toList = valK s.data.toList k) := by
        unfold Hid valL; rw [size_list]; congr 1; omega
      have hrun := bytesC_back hown
      obtain ⟨a0, c0, rfl⟩ := own_form hown
      by_cases h8 : k < s.size
      · have hk8' : ¬ k < 40 := fun h => hlt ⟨h8, h⟩
        go_wp2
        go_ret
        exact ⟨by rw [HT.out]; rfl, hB⟩
      · go_wp2
        go_ret
        exact ⟨by rw [HT.out]; rfl, hB⟩
end Go.Proofs.YtepfniiojjefhaaGreatDoor
namespace Go.Proofs.YtepfniiojjefhaaGreatDoor
open Go.Proofs

theorem wpAnyH_mon {P : Program} {md : Region.Mode} {ops : Array Oper} {Q : Exit → Act → World → Prop} {S S' : World → Prop} (h : ∀ w, S' w → S w) : ∀ (fuel : Nat) (listed : Array Bool) (a : Act) (w : World), wpAnyH P md ops Q S' fuel listed a w → wpAnyH P md ops Q S fuel listed a w := by
  intro fuel
  induction fuel with
  | zero => intro listed a w hw; exact hw
  | succ fuel ih =>
    intro listed a w hw
    exact ⟨hw.1, fun i hi => wpOp_mono (fun a' w' hh => ⟨h _ hh.1, ih _ _ _ hh.2⟩) (hw.2 i hi)⟩
theorem wpAnyH_swt {P : Program} {md : Region.Mode} {ops : Array Oper} {Q : Exit → Act → World → Prop} {S E : World → Prop} {fuel : Nat} {listed : Array Bool} {a : Act} {w : World} (hS : S w) (hE : E w) (k : S w ∧ E w → wpAnyH P md ops Q (fun w => S w ∧ E w) fuel listed a w) : wpAnyH P md ops Q S fuel listed a w :=
  wpAnyH_mon (fun _ h => h.1) _ _ _ _ (k ⟨hS, hE⟩)
theorem drw_cell {w : World} {p : Addr} {v : Option Value} (h : w.cell? p = v) : w.drew.cell? p = v := h
end Go.Proofs.YtepfniiojjefhaaGreatDoor
namespace Go.Proofs.YtepfniiojjefhaaGreatDoor
open Go.RowKit Go.Proofs

theorem S_app (a b : List UInt8) : S a ++ S b = S (a ++ b) := by
  apply ByteArray.ext
  simp [S]
/-- An act in raw numbers. -/
structure Gea where
  kind : Int
  conn : Int
  user : Int
  a : Int
  b : Int
  text : ByteArray
def geaW (g : Gea) : Prop := (Lit.int .i64 g.kind).wf = true ∧ (Lit.int .i64 g.conn).wf = true ∧ (Lit.int .i64 g.user).wf = true ∧ (Lit.int .i64 g.a).wf = true ∧ (Lit.int .i64 g.b).wf = true ∧ g.text.size ≤ maxLen
def geaV (g : Gea) : Value := .agg #[.int .i64 g.kind, .int .i64 g.conn, .int .i64 g.user, .int .i64 g.a, .int .i64 g.b, .string g.text]
def gWd (g : Gea) : List UInt8 := wordL g.text.data.toList
def kinds3 (k : Nat) : List UInt8 := match k with | 0 => [119, 111, 114, 107] | 1 => [102, 117, 110] | _ => [112, 108, 97, 121]
def subjL : List UInt8 := [83, 117, 98, 106, 101, 99, 116, 58, 32]
def listL : List UInt8 := [76, 105, 115, 116, 58, 32, 97, 108, 108, 13, 10]
def xL : List UInt8 := [88, 58, 32, 48, 49, 50, 51, 52, 53, 54, 55, 56, 57, 48, 49, 50, 51, 52, 53, 54, 55, 56, 57, 48, 49, 50, 51, 52, 53, 54, 55, 56, 57, 48, 49, 50, 51, 52, 53, 54, 55, 56, 57, 48, 49, 50, 51, 52, 53, 54, 55, 56, 57, 48, 49, 50, 51, 52, 53, 54, 55, 56, 57, 48, 49, 50, 51, 52, 53, 54, 55, 56, 57, 48, 49, 50, 51, 52, 53, 54, 55, 56, 57, 48, 49, 50, 51, 52, 53, 54, 55, 56, 57, 48, 49, 50, 51, 52, 53, 54, 55, 56, 57, 13, 10]
def headL1 (g : Gea) : List UInt8 := subjL ++ kinds3 (pickN g.b 3) ++ [32] ++ gWd g ++ [13, 10]
def headL2 (g : Gea) : List UInt8 := headL1 g ++ if pickN g.b 4 = 1 then listL else []
def xLs : Nat → List UInt8
  | 0 => []
  | n + 1 => xLs n ++ xL
/-- The head of a letter. -/
def headM (g : Gea) : List UInt8 := headL2 g ++ xLs (pickN g.b 5)
theorem xLs_len (n : Nat) : (xLs n).length = 105 * n := by
  induction n with
  | zero => rfl
  | succ n ih => rw [xLs, List.length_append, ih]; show _ + 105 = _; omega
theorem Picked_any (n : Int) (m : Nat) (w : World) (hn : (Lit.int .i64 n).wf = true) (hm : 0 < m) (hm2 : m ≤ 9223372036854775807) :
    Calls Tryz.prog 5 #[.int .i64 n, .int .i64 m] w fun e w' => e = .returned (.int .i64 (pickN n m)) ∧ w' = w := by
  have HP := hid (picked_any n m w hn hm hm2)
  clear hn hm hm2
  go_enter Tryz.func5, Tryz.ntmps5
  go_wp2_with fail
  refine HP.out.mono ?_
  rintro e u ⟨rfl, hu⟩
  subst hu
  go_wp2
  go_ret
  exact ⟨rfl, rfl⟩
theorem Word_any (s : ByteArray) (w : World) (hs : s.size ≤ maxLen) :
    Calls Tryz.prog 41 #[.string s] w fun e w' => e = .returned (.string (S (wordL s.data.toList))) ∧ Below w.heap.size w w' := by
  have HP := hid (word_any s w hs)
  clear hs
  go_enter Tryz.func41, Tryz.ntmps41
  go_wp2_with fail
  refine HP.out.mono ?_
  rintro e u ⟨rfl, hu⟩
  have HU := hid hu
  clear hu
  go_wp2
  go_ret
  exact ⟨rfl, HU.out⟩
theorem Value_any (s : ByteArray) (w : World) (hs : s.size ≤ maxLen) :
    Calls Tryz.prog 42 #[.string s] w fun e w' => e = .returned (.string (S (valL s.data.toList))) ∧ Below w.heap.size w w' := by
  have HP := hid (value_any s w hs)
  clear hs
  go_enter Tryz.func42, Tryz.ntmps42
  go_wp2_with fail
  refine HP.out.mono ?_
  rintro e u ⟨rfl, hu⟩
  have HU := hid hu
  clear hu
  go_wp2
  go_ret
  exact ⟨rfl, HU.out⟩
theorem k3_at {k : Nat} (h : k < 3) : ∀ h, ([.string { data := #[119, 111, 114, 107] }, .string { data := #[102, 117, 110] }, .string { data := #[112, 108, 97, 121] }] : List Value)[k]'h = .string (S (kinds3 k)) := by
  match k, h with
  | 0, _ | 1, _ | 2, _ => intro _; rfl
theorem k3_cell {k : Nat} (h : k < 3) (w : World) (t : TypeId) : (w.alloc (.cells #[.string { data := #[119, 111, 114, 107] }, .string { data := #[102, 117, 110] }, .string { data := #[112, 108, 97, 121] }] t)).cell? ⟨w.heap.size, k, none⟩ = some (.string (S (kinds3 k))) := by
  have hh := heap_alloc_new w (.cells #[.string { data := #[119, 111, 114, 107] }, .string { data := #[102, 117, 110] }, .string { data := #[112, 108, 97, 121] }] t)
  simp only [World.cell?, hh]
  match k, h with
  | 0, _ | 1, _ | 2, _ => rfl
theorem k3_size (k : Nat) : (S (kinds3 k)).size ≤ 4 := by
  rw [size_S]
  unfold kinds3
  split <;> decide
set_option maxHeartbeats 1000000 in
set_option maxRecDepth 100000 in
theorem head_any (g : Gea) (w : World) (hw : geaW g) :
    Calls Tryz.prog 40 #[geaV g] w fun e w' => e = .returned (.string (S (headM g))) ∧ Below w.heap.size w w' := by
  have HW := hid hw
  have h3 := pickN_lt g.b 3 (by decide)
  clear hw
  unfold geaV
  go_enter Tryz.func40, Tryz.ntmps40
  go_upto_region 1 with fail
  obtain ⟨W1, hW1⟩ : ∃ W1, W1 = w.alloc (.cells #[.int .i64 g.kind, .int .i64 g.conn, .int .i64 g.user, .int .i64 g.a, .int .i64 g.b, .string g.text] 51) := ⟨_, rfl⟩
  rw [← hW1]
  have hB1 : Below w.heap.size w W1 := by rw [hW1]; exact (Below.refl _ _).alloc (Nat.le_refl _) _
  have HB1 := hid hB1
  have hh : W1.heap[w.heap.size]? = some (.cells #[.int .i64 g.kind, .int .i64 g.conn, .int .i64 g.user, .int .i64 g.a, .int .i64 g.b, .string g.text] 51) := by rw [hW1]; exact heap_alloc_new w _
  have c4 : W1.cell? ⟨w.heap.size, 4, none⟩ = some (.int .i64 g.b) := by simp [World.cell?, hh]
  have c5 : W1.cell? ⟨w.heap.size, 5, none⟩ = some (.string g.text) := by simp [World.cell?, hh]
  have hwl : (S (wordL g.text.data.toList)).size ≤ 8 := by rw [size_S]; exact wordL_len _
  have hlt : w.heap.size < W1.heap.size := by rw [hW1]; simp
  clear hW1 hB1 hh
  have HPK := hid (fun u => Picked_any g.b 3 u HW.out.2.2.2.2.1 (by decide) (by decide))
  have HWD := hid (fun u => Word_any g.text u HW.out.2.2.2.2.2)
  generalize hp : pickN g.b 3 = k at *
  go_cut [3] (fun v wx => v = .string (S (headL1 g)) ∧ Below W1.heap.size W1 wx)
  case first =>
    have hi0 : (0 : Int) ≤ (k : Int) := by omega
    have hi3 : (k : Int) < 3 := by omega
    have hget := k3_at h3
    have hsz := k3_size k
    have z1 : ¬ 9223372036854775807 < 9 + (S (kinds3 k)).size := by omega
    have z2 : ¬ 9223372036854775807 < 9 + (S (kinds3 k)).size + 1 := by omega
    have z3 : ¬ 9223372036854775807 < 9 + (S (kinds3 k)).size + 1 + (S (wordL g.text.data.toList)).size := by omega
    have z4 : ¬ 9223372036854775807 < 9 + (S (kinds3 k)).size + 1 + (S (wordL g.text.data.toList)).size + 2 := by omega
    have HK3 := hid (fun (v : World) (t : TypeId) => k3_cell h3 v t)
    have HE := hid (show headL1 g = subjL ++ kinds3 k ++ [32] ++ gWd g ++ [13, 10] by unfold headL1; rw [hp])
    have HC := hid (show ∀ v, Below W1.heap.size W1 v → v.cell? ⟨w.heap.size, 4, none⟩ = some (.int .i64 g.b) ∧ v.cell? ⟨w.heap.size, 5, none⟩ = some (.string g.text) from fun v hv => ⟨wcell_next c4 hv, wcell_next c5 hv⟩)
    clear hp
    refine wp_region_held_drew (S := fun u => u.cell? ⟨w.heap.size, 4, none⟩ = some (.int .i64 g.b) ∧ u.cell? ⟨w.heap.size, 5, none⟩ = some (.string g.text)) (by kernel_rfl) ?_ (fun hHeld => ?_)
    · exact HC.out _ ((Below.refl _ _).drew)
    refine wpAnyH_take (i := 1) (v := ?v1) rfl (by kernel_rfl) (by kernel_rfl) (by kernel_rfl) (fun _ _ _ h => h) (Or.inl ⟨by rfl, ?hy1⟩) (by assumption) ?_
    case hy1 =>
      intro w hSw
      (try dsimp only at hSw)
      go_simp
      all_goals with_reducible rfl
    change wpAnyH _ _ _ _ _ _ _ (Act.put _ (some 6) _) _
    try simp only [Act.put, List.setIfInBounds_toArray, List.set_cons_zero, List.set_cons_succ]
    refine wpAnyH_take (i := 2) (v := ?v2) rfl (by kernel_rfl) (by kernel_rfl) (by kernel_rfl) (fun _ _ _ h => h) (Or.inl ⟨by rfl, ?hy2⟩) (by assumption) ?_
    case hy2 =>
      intro w hSw
      (try dsimp only at hSw)
      go_simp
      all_goals with_reducible rfl
    change wpAnyH _ _ _ _ _ _ _ (Act.put _ (some 7) _) _
    try simp only [Act.put, List.setIfInBounds_toArray, List.set_cons_zero, List.set_cons_succ]
    refine wpAnyH_take (i := 8) (v := ?v3) rfl (by kernel_rfl) (by kernel_rfl) (by kernel_rfl) (fun _ _ _ h => h) (Or.inl ⟨by rfl, ?hy3⟩) (by assumption) ?_
    case hy3 =>
      intro w hSw
      (try dsimp only at hSw)
      go_simp
      all_goals with_reducible rfl
    change wpAnyH _ _ _ _ _ _ _ (Act.put _ (some 13) _) _
    try simp only [Act.put, List.setIfInBounds_toArray, List.set_cons_zero, List.set_cons_succ]
    refine wpAnyH_take (i := 9) (v := ?v4) rfl (by kernel_rfl) (by kernel_rfl) (by kernel_rfl) (fun _ _ _ h => h) (Or.inl ⟨by rfl, ?hy4⟩) (by assumption) ?_
    case hy4 =>
      intro w hSw
      (try dsimp only at hSw)
      go_simp
      all_goals with_reducible rfl
    change wpAnyH _ _ _ _ _ _ _ (Act.put _ (some 14) _) _
    try simp only [Act.put, List.setIfInBounds_toArray, List.set_cons_zero, List.set_cons_succ]
    refine wpAnyH_ready (rs := [0, 3]) (by kernel_rfl) (by simp) ?_
    refine AllReadyH.cons rfl (fun K hK => ?_) ?_
    · skip
      go_simp
      refine hK.out _ _ ?_ (fun hHeld => ?_)
      · (refine HC.out _ ?_; (repeat (first | with_reducible exact HBU.out | with_reducible exact Below.refl _ _ | with_reducible refine Below.drew ?_ | with_reducible refine Below.alloc ?_ (by first | exact Nat.le_refl _ | exact HBU.out.size | simp) _)))
      clear hK K
      try simp only [Act.put, List.setIfInBounds_toArray, List.set_cons_zero, List.set_cons_succ]
      refine wpAnyH_swt (E := fun u : World => u.cell? ⟨W1.heap.size, k, none⟩ = some (.string (S (kinds3 k)))) hHeld (HK3.out W1 _) (fun hHeld1 => ?_)
      clear hHeld
      refine wpAnyH_ready (rs := [3]) (by kernel_rfl) (by simp) ?_
      refine AllReadyH.cons rfl (fun K hK => ?_) AllReadyH.nil
      go_simp
      refine (HPK.out _).mono ?_
      rintro e u ⟨rfl, hu⟩
      subst hu
      go_wp2_with fail
      refine hK.out _ _ ?_ (fun hHeld => ?_)
      · exact hHeld1
      clear hK K
      try simp only [Act.put, List.setIfInBounds_toArray, List.set_cons_zero, List.set_cons_succ]
      refine wpAnyH_take (i := 4) (v := ?v5) rfl (by kernel_rfl) (by kernel_rfl) (by kernel_rfl) (fun _ _ _ h => h) (Or.inl ⟨by rfl, ?hy5⟩) (by assumption) ?_
      case hy5 =>
        intro w hSw
        (try dsimp only at hSw)
        go_simp
        all_goals with_reducible rfl
      change wpAnyH _ _ _ _ _ _ _ (Act.put _ (some 9) _) _
      try simp only [Act.put, List.setIfInBounds_toArray, List.set_cons_zero, List.set_cons_succ]
      refine wpAnyH_take (i := 5) (v := ?v6) rfl (by kernel_rfl) (by kernel_rfl) (by kernel_rfl) (fun _ _ _ h => h) (Or.inl ⟨by rfl, ?hy6⟩) (by assumption) ?_
      case hy6 =>
        intro w hSw
        (try dsimp only at hSw)
        go_simp
        all_goals with_reducible rfl
      change wpAnyH _ _ _ _ _ _ _ (Act.put _ (some 10) _) _
      try simp only [Act.put, List.setIfInBounds_toArray, List.set_cons_zero, List.set_cons_succ]
      refine wpAnyH_take (i := 6) (v := ?v7) rfl (by kernel_rfl) (by kernel_rfl) (by kernel_rfl) (fun _ _ _ h => h) (Or.inl ⟨by rfl, ?hy7⟩) (by assumption) ?_
      case hy7 =>
        intro w hSw
        (try dsimp only at hSw)
        go_simp
        all_goals with_reducible rfl
      change wpAnyH _ _ _ _ _ _ _ (Act.put _ (some 11) _) _
      try simp only [Act.put, List.setIfInBounds_toArray, List.set_cons_zero, List.set_cons_succ]
      refine wpAnyH_take (i := 7) (v := ?v8) rfl (by kernel_rfl) (by kernel_rfl) (by kernel_rfl) (fun _ _ _ h => h) (Or.inl ⟨by rfl, ?hy8⟩) (by assumption) ?_
      case hy8 =>
        intro w hSw
        (try dsimp only at hSw)
        go_simp
        all_goals with_reducible rfl
      change wpAnyH _ _ _ _ _ _ _ (Act.put _ (some 12) _) _
      try simp only [Act.put, List.setIfInBounds_toArray, List.set_cons_zero, List.set_cons_succ]
      refine wpAnyH_ready (rs := [10]) (by kernel_rfl) (by simp) ?_
      refine AllReadyH.cons rfl (fun K hK => ?_) AllReadyH.nil
      go_simp
      refine (HWD.out _).mono ?_
      rintro e u ⟨rfl, hu⟩
      have HBU := hid (show Below W1.heap.size W1 u from (show Below W1.heap.size W1 _ from by (repeat (first | with_reducible exact Below.refl _ _ | with_reducible refine Below.drew ?_ | with_reducible refine Below.alloc ?_ (by first | exact Nat.le_refl _ | simp) _))).trans (hu.mono (by first | exact Nat.le_refl _ | simp)))
      have hx := wcell_next (drw_cell (HK3.out W1 9)) hu
      clear hu
      go_wp2_with fail
      refine hK.out _ _ ?_ (fun hHeld => ?_)
      · exact ⟨HC.out _ (by (repeat (first | with_reducible exact HBU.out | with_reducible exact Below.refl _ _ | with_reducible refine Below.drew ?_ | with_reducible refine Below.alloc ?_ (by first | exact Nat.le_refl _ | exact HBU.out.size | simp) _))), hx⟩
      clear hK K
      try simp only [Act.put, List.setIfInBounds_toArray, List.set_cons_zero, List.set_cons_succ]
      refine wpAnyH_take (i := 11) (v := ?v9) rfl (by kernel_rfl) (by kernel_rfl) (by kernel_rfl) (fun _ _ _ h => h) (Or.inl ⟨by rfl, ?hy9⟩) (by assumption) ?_
      case hy9 =>
        intro w hSw
        (try dsimp only at hSw)
        go_simp
        all_goals with_reducible rfl
      change wpAnyH _ _ _ _ _ _ _ (Act.put _ (some 16) _) _
      try simp only [Act.put, List.setIfInBounds_toArray, List.set_cons_zero, List.set_cons_succ]
      refine wpAnyH_take (i := 12) (v := ?v10) rfl (by kernel_rfl) (by kernel_rfl) (by kernel_rfl) (fun _ _ _ h => h) (Or.inl ⟨by rfl, ?hy10⟩) (by assumption) ?_
      case hy10 =>
        intro w hSw
        (try dsimp only at hSw)
        go_simp
        all_goals with_reducible rfl
      change wpAnyH _ _ _ _ _ _ _ (Act.put _ (some 17) _) _
      try simp only [Act.put, List.setIfInBounds_toArray, List.set_cons_zero, List.set_cons_succ]
      refine wpAnyH_take (i := 13) (v := ?v11) rfl (by kernel_rfl) (by kernel_rfl) (by kernel_rfl) (fun _ _ _ h => h) (Or.inl ⟨by rfl, ?hy11⟩) (by assumption) ?_
      case hy11 =>
        intro w hSw
        (try dsimp only at hSw)
        go_simp
        all_goals with_reducible rfl
      change wpAnyH _ _ _ _ _ _ _ (Act.put _ (some 3) _) _
      try simp only [Act.put, List.setIfInBounds_toArray, List.set_cons_zero, List.set_cons_succ]
      refine wpAnyH_done (by kernel_rfl) ?_ _
      go_wp2_with fail
      go_meet
      exact ⟨by rw [HE.out]; rfl, by (repeat (first | with_reducible exact HBU.out | with_reducible exact Below.refl _ _ | with_reducible refine Below.drew ?_ | with_reducible refine Below.alloc ?_ (by first | exact Nat.le_refl _ | exact HBU.out.size | simp) _))⟩
    refine AllReadyH.cons rfl (fun K hK => ?_) AllReadyH.nil
    go_simp
    refine (HPK.out _).mono ?_
    rintro e u ⟨rfl, hu⟩
    subst hu
    go_wp2_with fail
    refine hK.out _ _ ?_ (fun hHeld => ?_)
    · (refine HC.out _ ?_; (repeat (first | with_reducible exact HBU.out | with_reducible exact Below.refl _ _ | with_reducible refine Below.drew ?_ | with_reducible refine Below.alloc ?_ (by first | exact Nat.le_refl _ | exact HBU.out.size | simp) _)))
    clear hK K
    try simp only [Act.put, List.setIfInBounds_toArray, List.set_cons_zero, List.set_cons_succ]
    refine wpAnyH_ready (rs := [0, 10]) (by kernel_rfl) (by simp) ?_
    refine AllReadyH.cons rfl (fun K hK => ?_) ?_
    · skip
      go_simp
      refine hK.out _ _ ?_ (fun hHeld => ?_)
      · (refine HC.out _ ?_; (repeat (first | with_reducible exact HBU.out | with_reducible exact Below.refl _ _ | with_reducible refine Below.drew ?_ | with_reducible refine Below.alloc ?_ (by first | exact Nat.le_refl _ | exact HBU.out.size | simp) _)))
      clear hK K
      try simp only [Act.put, List.setIfInBounds_toArray, List.set_cons_zero, List.set_cons_succ]
      refine wpAnyH_swt (E := fun u : World => u.cell? ⟨W1.heap.size, k, none⟩ = some (.string (S (kinds3 k)))) hHeld (HK3.out W1 _) (fun hHeld1 => ?_)
      clear hHeld
      refine wpAnyH_take (i := 4) (v := ?v12) rfl (by kernel_rfl) (by kernel_rfl) (by kernel_rfl) (fun _ _ _ h => h) (Or.inl ⟨by rfl, ?hy12⟩) (by assumption) ?_
      case hy12 =>
        intro w hSw
        (try dsimp only at hSw)
        go_simp
        all_goals with_reducible rfl
      change wpAnyH _ _ _ _ _ _ _ (Act.put _ (some 9) _) _
      try simp only [Act.put, List.setIfInBounds_toArray, List.set_cons_zero, List.set_cons_succ]
      refine wpAnyH_take (i := 5) (v := ?v13) rfl (by kernel_rfl) (by kernel_rfl) (by kernel_rfl) (fun _ _ _ h => h) (Or.inl ⟨by rfl, ?hy13⟩) (by assumption) ?_
      case hy13 =>
        intro w hSw
        (try dsimp only at hSw)
        go_simp
        all_goals with_reducible rfl
      change wpAnyH _ _ _ _ _ _ _ (Act.put _ (some 10) _) _
      try simp only [Act.put, List.setIfInBounds_toArray, List.set_cons_zero, List.set_cons_succ]
      refine wpAnyH_take (i := 6) (v := ?v14) rfl (by kernel_rfl) (by kernel_rfl) (by kernel_rfl) (fun _ _ _ h => h) (Or.inl ⟨by rfl, ?hy14⟩) (by assumption) ?_
      case hy14 =>
        intro w hSw
        (try dsimp only at hSw)
        go_simp
        all_goals with_reducible rfl
      change wpAnyH _ _ _ _ _ _ _ (Act.put _ (some 11) _) _
      try simp only [Act.put, List.setIfInBounds_toArray, List.set_cons_zero, List.set_cons_succ]
      refine wpAnyH_take (i := 7) (v := ?v15) rfl (by kernel_rfl) (by kernel_rfl) (by kernel_rfl) (fun _ _ _ h => h) (Or.inl ⟨by rfl, ?hy15⟩) (by assumption) ?_
      case hy15 =>
        intro w hSw
        (try dsimp only at hSw)
        go_simp
        all_goals with_reducible rfl
      change wpAnyH _ _ _ _ _ _ _ (Act.put _ (some 12) _) _
      try simp only [Act.put, List.setIfInBounds_toArray, List.set_cons_zero, List.set_cons_succ]
      refine wpAnyH_ready (rs := [10]) (by kernel_rfl) (by simp) ?_
      refine AllReadyH.cons rfl (fun K hK => ?_) AllReadyH.nil
      go_simp
      refine (HWD.out _).mono ?_
      rintro e u ⟨rfl, hu⟩
      have HBU := hid (show Below W1.heap.size W1 u from (show Below W1.heap.size W1 _ from by (repeat (first | with_reducible exact Below.refl _ _ | with_reducible refine Below.drew ?_ | with_reducible refine Below.alloc ?_ (by first | exact Nat.le_refl _ | simp) _))).trans (hu.mono (by first | exact Nat.le_refl _ | simp)))
      have hx := wcell_next (drw_cell (HK3.out W1 9)) hu
      clear hu
      go_wp2_with fail
      refine hK.out _ _ ?_ (fun hHeld => ?_)
      · exact ⟨HC.out _ (by (repeat (first | with_reducible exact HBU.out | with_reducible exact Below.refl _ _ | with_reducible refine Below.drew ?_ | with_reducible refine Below.alloc ?_ (by first | exact Nat.le_refl _ | exact HBU.out.size | simp) _))), hx⟩
      clear hK K
      try simp only [Act.put, List.setIfInBounds_toArray, List.set_cons_zero, List.set_cons_succ]
      refine wpAnyH_take (i := 11) (v := ?v16) rfl (by kernel_rfl) (by kernel_rfl) (by kernel_rfl) (fun _ _ _ h => h) (Or.inl ⟨by rfl, ?hy16⟩) (by assumption) ?_
      case hy16 =>
        intro w hSw
        (try dsimp only at hSw)
        go_simp
        all_goals with_reducible rfl
      change wpAnyH _ _ _ _ _ _ _ (Act.put _ (some 16) _) _
      try simp only [Act.put, List.setIfInBounds_toArray, List.set_cons_zero, List.set_cons_succ]
      refine wpAnyH_take (i := 12) (v := ?v17) rfl (by kernel_rfl) (by kernel_rfl) (by kernel_rfl) (fun _ _ _ h => h) (Or.inl ⟨by rfl, ?hy17⟩) (by assumption) ?_
      case hy17 =>
        intro w hSw
        (try dsimp only at hSw)
        go_simp
        all_goals with_reducible rfl
      change wpAnyH _ _ _ _ _ _ _ (Act.put _ (some 17) _) _
      try simp only [Act.put, List.setIfInBounds_toArray, List.set_cons_zero, List.set_cons_succ]
      refine wpAnyH_take (i := 13) (v := ?v18) rfl (by kernel_rfl) (by kernel_rfl) (by kernel_rfl) (fun _ _ _ h => h) (Or.inl ⟨by rfl, ?hy18⟩) (by assumption) ?_
      case hy18 =>
        intro w hSw
        (try dsimp only at hSw)
        go_simp
        all_goals with_reducible rfl
      change wpAnyH _ _ _ _ _ _ _ (Act.put _ (some 3) _) _
      try simp only [Act.put, List.setIfInBounds_toArray, List.set_cons_zero, List.set_cons_succ]
      refine wpAnyH_done (by kernel_rfl) ?_ _
      go_wp2_with fail
      go_meet
      exact ⟨by rw [HE.out]; rfl, by (repeat (first | with_reducible exact HBU.out | with_reducible exact Below.refl _ _ | with_reducible refine Below.drew ?_ | with_reducible refine Below.alloc ?_ (by first | exact Nat.le_refl _ | exact HBU.out.size | simp) _))⟩
    refine AllReadyH.cons rfl (fun K hK => ?_) AllReadyH.nil
    go_simp
    refine (HWD.out _).mono ?_
    rintro e u ⟨rfl, hu⟩
    have HBU := hid (show Below W1.heap.size W1 u from (show Below W1.heap.size W1 _ from by (repeat (first | with_reducible exact Below.refl _ _ | with_reducible refine Below.drew ?_ | with_reducible refine Below.alloc ?_ (by first | exact Nat.le_refl _ | simp) _))).trans (hu.mono (by first | exact Nat.le_refl _ | simp)))
    clear hu
    go_wp2_with fail
    refine hK.out _ _ ?_ (fun hHeld => ?_)
    · (refine HC.out _ ?_; (repeat (first | with_reducible exact HBU.out | with_reducible exact Below.refl _ _ | with_reducible refine Below.drew ?_ | with_reducible refine Below.alloc ?_ (by first | exact Nat.le_refl _ | exact HBU.out.size | simp) _)))
    clear hK K
    try simp only [Act.put, List.setIfInBounds_toArray, List.set_cons_zero, List.set_cons_succ]
    refine wpAnyH_ready (rs := [0]) (by kernel_rfl) (by simp) ?_
    refine AllReadyH.cons rfl (fun K hK => ?_) AllReadyH.nil
    go_simp
    refine hK.out _ _ ?_ (fun hHeld => ?_)
    · (refine HC.out _ ?_; (repeat (first | with_reducible exact HBU.out | with_reducible exact Below.refl _ _ | with_reducible refine Below.drew ?_ | with_reducible refine Below.alloc ?_ (by first | exact Nat.le_refl _ | exact HBU.out.size | simp) _)))
    clear hK K
    try simp only [Act.put, List.setIfInBounds_toArray, List.set_cons_zero, List.set_cons_succ]
    refine wpAnyH_swt (E := fun v : World => v.cell? ⟨u.heap.size, k, none⟩ = some (.string (S (kinds3 k)))) hHeld (HK3.out u _) (fun hHeld1 => ?_)
    clear hHeld
    refine wpAnyH_take (i := 4) (v := ?v19) rfl (by kernel_rfl) (by kernel_rfl) (by kernel_rfl) (fun _ _ _ h => h) (Or.inl ⟨by rfl, ?hy19⟩) (by assumption) ?_
    case hy19 =>
      intro w hSw
      (try dsimp only at hSw)
      go_simp
      all_goals with_reducible rfl
    change wpAnyH _ _ _ _ _ _ _ (Act.put _ (some 9) _) _
    try simp only [Act.put, List.setIfInBounds_toArray, List.set_cons_zero, List.set_cons_succ]
    refine wpAnyH_take (i := 5) (v := ?v20) rfl (by kernel_rfl) (by kernel_rfl) (by kernel_rfl) (fun _ _ _ h => h) (Or.inl ⟨by rfl, ?hy20⟩) (by assumption) ?_
    case hy20 =>
      intro w hSw
      (try dsimp only at hSw)
      go_simp
      all_goals with_reducible rfl
    change wpAnyH _ _ _ _ _ _ _ (Act.put _ (some 10) _) _
    try simp only [Act.put, List.setIfInBounds_toArray, List.set_cons_zero, List.set_cons_succ]
    refine wpAnyH_take (i := 6) (v := ?v21) rfl (by kernel_rfl) (by kernel_rfl) (by kernel_rfl) (fun _ _ _ h => h) (Or.inl ⟨by rfl, ?hy21⟩) (by assumption) ?_
    case hy21 =>
      intro w hSw
      (try dsimp only at hSw)
      go_simp
      all_goals with_reducible rfl
    change wpAnyH _ _ _ _ _ _ _ (Act.put _ (some 11) _) _
    try simp only [Act.put, List.setIfInBounds_toArray, List.set_cons_zero, List.set_cons_succ]
    refine wpAnyH_take (i := 7) (v := ?v22) rfl (by kernel_rfl) (by kernel_rfl) (by kernel_rfl) (fun _ _ _ h => h) (Or.inl ⟨by rfl, ?hy22⟩) (by assumption) ?_
    case hy22 =>
      intro w hSw
      (try dsimp only at hSw)
      go_simp
      all_goals with_reducible rfl
    change wpAnyH _ _ _ _ _ _ _ (Act.put _ (some 12) _) _
    try simp only [Act.put, List.setIfInBounds_toArray, List.set_cons_zero, List.set_cons_succ]
    refine wpAnyH_take (i := 11) (v := ?v23) rfl (by kernel_rfl) (by kernel_rfl) (by kernel_rfl) (fun _ _ _ h => h) (Or.inl ⟨by rfl, ?hy23⟩) (by assumption) ?_
    case hy23 =>
      intro w hSw
      (try dsimp only at hSw)
      go_simp
      all_goals with_reducible rfl
    change wpAnyH _ _ _ _ _ _ _ (Act.put _ (some 16) _) _
    try simp only [Act.put, List.setIfInBounds_toArray, List.set_cons_zero, List.set_cons_succ]
    refine wpAnyH_take (i := 12) (v := ?v24) rfl (by kernel_rfl) (by kernel_rfl) (by kernel_rfl) (fun _ _ _ h => h) (Or.inl ⟨by rfl, ?hy24⟩) (by assumption) ?_
    case hy24 =>
      intro w hSw
      (try dsimp only at hSw)
      go_simp
      all_goals with_reducible rfl
    change wpAnyH _ _ _ _ _ _ _ (Act.put _ (some 17) _) _
    try simp only [Act.put, List.setIfInBounds_toArray, List.set_cons_zero, List.set_cons_succ]
    refine wpAnyH_take (i := 13) (v := ?v25) rfl (by kernel_rfl) (by kernel_rfl) (by kernel_rfl) (fun _ _ _ h => h) (Or.inl ⟨by rfl, ?hy25⟩) (by assumption) ?_
    case hy25 =>
      intro w hSw
      (try dsimp only at hSw)
      go_simp
      all_goals with_reducible rfl
    change wpAnyH _ _ _ _ _ _ _ (Act.put _ (some 3) _) _
    try simp only [Act.put, List.setIfInBounds_toArray, List.set_cons_zero, List.set_cons_succ]
    refine wpAnyH_done (by kernel_rfl) ?_ _
    go_wp2_with fail
    go_meet
    exact ⟨by rw [HE.out]; rfl, by (repeat (first | with_reducible exact HBU.out | with_reducible exact Below.refl _ _ | with_reducible refine Below.drew ?_ | with_reducible refine Below.alloc ?_ (by first | exact Nat.le_refl _ | exact HBU.out.size | simp) _))⟩
  case rest =>
    obtain ⟨hv, hBx⟩ := hcut
    subst hv
    obtain ⟨W2, rfl⟩ : ∃ W, W = wc := ⟨_, rfl⟩
    have HB2 := hid (show Below w.heap.size w W2 from HB1.out.trans (hBx.mono HB1.out.size))
    have c4 := wcell_next c4 hBx
    have hp4 := pickN_lt g.b 4 (by decide)
    have hp5 := pickN_lt g.b 5 (by decide)
    have HP4 := hid (fun u => Picked_any g.b 4 u HW.out.2.2.2.2.1 (by decide) (by decide))
    have HP5 := hid (fun u => Picked_any g.b 5 u HW.out.2.2.2.2.1 (by decide) (by decide))
    have hl1 : (S (headL1 g)).size ≤ 30 := by
      rw [size_S]
      unfold headL1 gWd
      have := wordL_len g.text.data.toList
      have := k3_size (pickN g.b 3)
      rw [size_S] at this
      simp [subjL]
      omega
    have HL2 := hid (show headL2 g = headL1 g ++ if pickN g.b 4 = 1 then listL else [] from rfl)
    have HHM := hid (show headM g = headL2 g ++ xLs (pickN g.b 5) from rfl)
    clear hBx HPK HWD hp h3 hwl c5
    have HSZ := hid (show (headL2 g).length ≤ 41 by
      rw [HL2.out, List.length_append]
      rw [size_S] at hl1
      split
      · simp [listL]; omega
      · simp; omega)
    go_wp2_with fail
    refine (HP4.out _).mono ?_
    rintro e u ⟨rfl, hu⟩
    have hu' := hu.symm
    subst hu'
    clear hu
    obtain ⟨q, hq⟩ : ∃ q, q = pickN g.b 4 := ⟨_, rfl⟩
    rw [← hq] at HL2 ⊢
    clear HP4 hp4 hq
    by_cases h1 : q = 1
    · have HS2 := hid (show headL2 g ++ xLs 0 = headL1 g ++ listL by rw [HL2.out, if_pos h1]; exact List.append_nil _)
      subst h1
      go_wp2_with fail
      rw [show S (headL1 g) ++ ⟨#[76, 105, 115, 116, 58, 32, 97, 108, 108, 13, 10]⟩ = S (headL1 g ++ listL) from S_app _ listL]
      go_loopw [3, 4] (fun s i wr => ∃ k : Nat, k ≤ pickN g.b 5 ∧ s = .string (S (headL2 g ++ xLs k)) ∧ i = .int .i64 k ∧ Hid (wr = W2)) (fun _ i _ => pickN g.b 5 - (intOf i).toNat)
      case atStart => exact ⟨0, Nat.zero_le _, by rw [HS2.out], rfl, hid rfl⟩
      case round =>
        obtain ⟨k, hk, rfl, rfl, HWR⟩ := hrel
        obtain rfl := HWR.out.symm
        go_wp2_with fail
        refine (HP5.out _).mono ?_
        rintro e u ⟨rfl, hu⟩
        have hu' := hu.symm
        subst hu'
        clear hu
        have hxs : (S (headL2 g ++ xLs k)).size ≤ 1000 := by
          rw [size_S, List.length_append, xLs_len]
          have := HSZ.out
          omega
        by_cases hlt : k < pickN g.b 5
        · have i1 : (k : Int) < (pickN g.b 5 : Int) := by omega
          go_wp2
          go_roundw
          case rel => exact ⟨k + 1, by omega, by rw [show headL2 g ++ xLs (k + 1) = (headL2 g ++ xLs k) ++ xL by rw [xLs, List.append_assoc], ← S_app]; rfl, by go_num, by first | exact hid rfl | exact hid trivial⟩
          case measure => simp [intOf]; omega
        · have i1 : ¬ (k : Int) < (pickN g.b 5 : Int) := by omega
          obtain rfl : k = pickN g.b 5 := by omega
          go_wp2
          go_ret
          exact ⟨by rw [HHM.out]; rfl, HB2.out⟩
    · have HS2 := hid (show headL2 g ++ xLs 0 = headL1 g by rw [HL2.out, if_neg h1]; simp [xLs])
      have h1' : ((q : Int) == 1) = false := by simp; omega
      go_wp2_with fail
      go_loopw [3, 4] (fun s i wr => ∃ k : Nat, k ≤ pickN g.b 5 ∧ s = .string (S (headL2 g ++ xLs k)) ∧ i = .int .i64 k ∧ Hid (wr = W2)) (fun _ i _ => pickN g.b 5 - (intOf i).toNat)
      case atStart => exact ⟨0, Nat.zero_le _, by rw [HS2.out], rfl, hid rfl⟩
      case round =>
        obtain ⟨k, hk, rfl, rfl, HWR⟩ := hrel
        obtain rfl := HWR.out.symm
        go_wp2_with fail
        refine (HP5.out _).mono ?_
        rintro e u ⟨rfl, hu⟩
        have hu' := hu.symm
        subst hu'
        clear hu
        have hxs : (S (headL2 g ++ xLs k)).size ≤ 1000 := by
          rw [size_S, List.length_append, xLs_len]
          have := HSZ.out
          omega
        by_cases hlt : k < pickN g.b 5
        · have i1 : (k : Int) < (pickN g.b 5 : Int) := by omega
          go_wp2
          go_roundw
          case rel => exact ⟨k + 1, by omega, by rw [show headL2 g ++ xLs (k + 1) = (headL2 g ++ xLs k) ++ xL by rw [xLs, List.append_assoc], ← S_app]; rfl, by go_num, by first | exact hid rfl | exact hid trivial⟩
          case measure => simp [intOf]; omega
        · have i1 : ¬ (k : Int) < (pickN g.b 5 : Int) := by omega
          obtain rfl : k = pickN g.b 5 := by omega
          go_wp2
          go_ret
          exact ⟨by rw [HHM.out]; rfl, HB2.out⟩
end Go.Proofs.YtepfniiojjefhaaGreatDoor
