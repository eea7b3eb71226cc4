/-
  What the laws of the layer of scripts want besides their walks: what the table of words holds.
  What the table of flags holds, from what a row lays.
  What the laws of rules and of courses want besides their walks: what the tables of script and of rule hold.
  What rule.Read does: the walk.
  Plain facts on tokens, as the program writes them: digits by the library's Itoa, quotes by two replacements. No program is named here.
  What token.textOf does: the walk.
  What the laws of a script's text want besides their walks: what the tables of script, of rule and of powers of ten hold.
  What a strings.Builder does that the call has made itself: writing a text or a byte, and handing it over: the walks.
  What token.Join does: the walk.
  What script.Show does: the walk.
  The tokens of a script that the laws make have short texts: plainly.
-/
import Derived.Test.YthikilhhmianlaaGreatDoorCards
import Derived.Test.YthikilhhmianlaaGreatDoorTie
import Derived.Test.YthikilhhmianlaaGreatDoorScrCk
import Derived.WalkKit
import Derived.ProofKit
import Derived.OpenShut
import Derived.ChangeOld
import Derived.Below
import Derived.Deep.DeepHandedRow
import Derived.Lib.LaidTab
import Derived.LaidSub
import Derived.Test.YthikilhhmianlaaGreatDoorRulCs
import Derived.Test.YthikilhhmianlaaGreatDoorQTokMark5
import Derived.Test.YthikilhhmianlaaGreatDoorQScrRd133
import Derived.Test.YthikilhhmianlaaGreatDoorQPure4
import Derived.Lib.Replace
import Derived.Lib.ItoaNum
import Derived.Lib.IndexBytes
import Derived.Test.YthikilhhmianlaaGreatDoorQTokLaws8
import Derived.Test.YthikilhhmianlaaGreatDoorQTokSpan6
import Derived.Test.YthikilhhmianlaaGreatDoorShelf
import Derived.Lib.SmallJoins
import Derived.Test.YthikilhhmianlaaGreatDoorRows
import Derived.Lib.OthersKept
import Derived.Lib.FrozenHead2
import Derived.WalkSpells
import Derived.WalkLawsBesides
import Derived.Test.YthikilhhmianlaaGreatDoorQScrRd112
import Derived.Test.YthikilhhmianlaaGreatDoorScrW
namespace Go.Proofs.YthikilhhmianlaaGreatDoor
open Go.ChangeShapes Go.WideShapes Go.ChangeAt Go.RowKit
theorem own : ownKnob Tryz.prog.godebug = none := by kernel_rfl
theorem laidOut : laidOutB Tryz.prog = true := by kernel_rfl
def layCells (cs : Array Value) : Obj → Obj
  | .cells _ t frozen => .cells cs t frozen
  | o => o
def wordCells : Array Value := (wTabs.flatMap fun r => r.map fun s => Value.string (S s)).toArray
def jjW : DataW Unit := .agg (wTabs.map fun r => .agg (r.map fun s => .lit (.string s)))
theorem jgC : (Rows.laid_postroom_script_words : DataW Unit) = jjW := by kernel_rfl
theorem words_of (W : World) (h : laidMetH Tryz.prog [("postroom/script.words", Rows.laid_postroom_script_words)] W) : WordsAt W := by
  have h1 : laidMet Tryz.prog [("postroom/script.words", Rows.laid_postroom_script_words)] W := h; rw [jgC] at h1; obtain ⟨ps, ⟨g', t', cs, fuel, p, q, hg', ht', hvar, hd, _, _⟩, _⟩ := h1; have hg : Tryz.prog.globalNamed "postroom/script.words" = some 0 := by kernel_rfl
  have hty : (Tryz.prog.globals[0]?).map (·.type) = some 99 := by kernel_rfl
  obtain rfl := Option.some.inj (hg.symm.trans hg'); obtain rfl := Option.some.inj (hty.symm.trans ht'); have c11 : Tryz.prog.cellsOf 98 = 11 := by kernel_rfl
  have c1 : Tryz.prog.cellsOf 9 = 1 := by kernel_rfl
  obtain ⟨xs, m, _, ex, _, hxl, hx⟩ := DataW.trod_array Tryz.underlying99 hd; have exs : xs.map (·.1) = wTabs.map fun r => (.agg (r.map fun s => .lit (.string s)) : DataW Unit) := by
    have := congrArg Prod.fst ex
    simpa [jjW] using this.symm
  intro k n hk hn; have hx' := hx k hk; rw [c11] at hx'; obtain ⟨y, hy⟩ : ∃ y, xs[k]? = some y := ⟨_, List.getElem?_eq_getElem (by omega)⟩; rw [hy] at hx'; have hwk : wTabs[k]? = some (wTabs.getD k []) := by
    match k, hk with
    | 0, _ | 1, _ | 2, _ | 3, _ => rfl
  have ey : y.1 = .agg ((wTabs.getD k []).map fun s => .lit (.string s)) := by
    have := congrArg (·[k]?) exs; simp only [List.getElem?_map, hy, hwk, Option.map_some, Option.some.injEq] at this; exact this
  obtain ⟨ys, m', _, ez, _, hyl, hz⟩ := DataW.trod_array Tryz.underlying98 hx'; have eys : ys.map (·.1) = (wTabs.getD k []).map fun s => (.lit (.string s) : DataW Unit) := by
    have := congrArg Prod.fst ez; rw [ey] at this
    simpa using this.symm
  have hz' := hz n hn; rw [c1] at hz'; obtain ⟨u, hu⟩ : ∃ u, ys[n]? = some u := ⟨_, List.getElem?_eq_getElem (by omega)⟩; rw [hu] at hz'; obtain ⟨s, e1, e2, _⟩ := DataW.trod_string Tryz.underlying9 hz'; have hwn : (wTabs.getD k [])[n]? = some (ju k n) := by
    have hlen := jgW k hk; rw [List.getElem?_eq_getElem (by omega), jjN k n (by omega)]
  have e3 : u.1 = .lit (.string (ju k n)) := by
    have := congrArg (·[n]?) eys; simp only [List.getElem?_map, hu, hwn, Option.map_some, Option.some.injEq] at this; exact this
  have e4 : s.data.toList = ju k n := by
    rw [e2] at e3
    simpa using e3
  have e5 : cs[k * 11 + n]? = some (.string s) := by
    have := congrArg (·[0]?) e1; simp only [List.getElem?_take, List.getElem?_drop] at this
    simpa [hn, Nat.add_assoc] using this
  rw [World.var?_cell hg hvar (k * 11 + n)]; rw [← e4, jax]
  simpa using e5
end Go.Proofs.YthikilhhmianlaaGreatDoor
namespace Go.Proofs.YthikilhhmianlaaGreatDoor
open Go.ChangeShapes Go.WideShapes Go.ChangeAt Go.RowKit
def flagCells : Array Value := (flagTab.flatMap fun x => [Value.string (S x.1), .int .i64 (x.2 : Nat)]).toArray
def jjU : DataW Unit := .agg (flagTab.map fun x => .agg [.lit (.string x.1), .lit (.int .i64 (x.2 : Nat))])
theorem jf8 : (Rows.laid_postroom_rule_flagNames : DataW Unit) = jjU := by kernel_rfl
theorem flags_of (W : World) (h : laidMetH Tryz.prog [("postroom/rule.flagNames", Rows.laid_postroom_rule_flagNames)] W) : FlagsAt W := by
  have h1 : laidMet Tryz.prog [("postroom/rule.flagNames", Rows.laid_postroom_rule_flagNames)] W := h; rw [jf8] at h1; obtain ⟨ps, ⟨g', t', cs, fuel, p, q, hg', ht', hvar, hd, _, _⟩, _⟩ := h1; have hg : Tryz.prog.globalNamed "postroom/rule.flagNames" = some 7 := by kernel_rfl
  have hty : (Tryz.prog.globals[7]?).map (·.type) = some 174 := by kernel_rfl
  obtain rfl := Option.some.inj (hg.symm.trans hg'); obtain rfl := Option.some.inj (hty.symm.trans ht'); have c2 : Tryz.prog.cellsOf 173 = 2 := by kernel_rfl
  have c1 : Tryz.prog.cellsOf 9 = 1 := by kernel_rfl
  have ci : Tryz.prog.cellsOf 3 = 1 := by kernel_rfl
  obtain ⟨xs, m, _, ex, _, hxl, hx⟩ := DataW.trod_array Tryz.underlying174 hd; have exs : xs.map (·.1) = flagTab.map fun x => (.agg [.lit (.string x.1), .lit (.int .i64 (x.2 : Nat))] : DataW Unit) := by
    have := congrArg Prod.fst ex
    simpa [jjU] using this.symm
  intro i hi; have hx' := hx i hi; rw [c2] at hx'; obtain ⟨y, hy⟩ : ∃ y, xs[i]? = some y := ⟨_, List.getElem?_eq_getElem (by omega)⟩; rw [hy] at hx'; have hft : flagTab[i]? = some (ja1 i, jaY i) := by
    match i, hi with
    | 0, _ | 1, _ | 2, _ | 3, _ | 4, _ => rfl
  have ey : y.1 = .agg [.lit (.string (ja1 i)), .lit (.int .i64 (jaY i : Nat))] := by
    have := congrArg (·[i]?) exs; simp only [List.getElem?_map, hy, hft, Option.map_some, Option.some.injEq] at this; exact this
  obtain ⟨zs, m', _, ez, _, hzl, hz⟩ := DataW.trod_struct Tryz.underlying173 hx'; have ezs : zs.map (·.1) = [(.lit (.string (ja1 i)) : DataW Unit), .lit (.int .i64 (jaY i : Nat))] := by
    have := congrArg Prod.fst ez; rw [ey] at this
    simpa using this.symm
  obtain ⟨z0, z1, rfl⟩ : ∃ z0 z1, zs = [z0, z1] := by
    match zs, hzl with
    | [z0, z1], _ => exact ⟨z0, z1, rfl⟩
  have e0 : z0.1 = .lit (.string (ja1 i)) := (List.cons.inj ezs).1; have e1 : z1.1 = .lit (.int .i64 (jaY i : Nat)) := (List.cons.inj (List.cons.inj ezs).2).1; have h0 := (hz 0 _ rfl).trans (show [z0, z1][0]? = some z0 from rfl); have h1' := (hz 1 _ rfl).trans (show [z0, z1][1]? = some z1 from rfl); obtain ⟨s, q0, q1, _⟩ := DataW.trod_string Tryz.underlying9 h0; obtain ⟨v, r0, r1, _⟩ := DataW.trod_int Tryz.underlying3 h1'; have q0 : List.take (Tryz.prog.cellsOf 9) (List.drop 0 (List.take 2 (List.drop (i * 2) cs.toList))) = [.string s] := q0; have r0 : List.take (Tryz.prog.cellsOf 3) (List.drop 1 (List.take 2 (List.drop (i * 2) cs.toList))) = [.int .i64 v] := r0; rw [c1] at q0; rw [ci] at r0; have es : s.data.toList = ja1 i := by
    rw [q1] at e0
    simpa using e0
  have ev : v = (jaY i : Nat) := by
    rw [r1] at e1
    simpa using e1
  have f0 : cs[i * 2]? = some (.string s) := by
    have := congrArg (·[0]?) q0; simp only [List.getElem?_take, List.getElem?_drop] at this
    simpa using this
  have f1 : cs[i * 2 + 1]? = some (.int .i64 v) := by
    have := congrArg (·[0]?) r0; simp only [List.getElem?_take, List.getElem?_drop] at this
    simpa using this
  refine ⟨?_, ?_⟩
  · rw [World.var?_cell hg hvar (i * 2), ← es, jax]
    simpa using f0
  · rw [World.var?_cell hg hvar (i * 2 + 1), ← ev]
    simpa using f1
end Go.Proofs.YthikilhhmianlaaGreatDoor
namespace Go.Proofs.YthikilhhmianlaaGreatDoor
open Go.ChangeShapes Go.WideShapes Go.ChangeAt Go.RowKit
def litC : DataW Unit → List Value
  | .lit (.int k n) => [.int k n]
  | .lit (.string s) => [.string (S s)]
  | _ => []
def jkI : DataW Unit → List Value
  | .agg l => l.flatMap litC
  | d => litC d
def cellsD : DataW Unit → Array Value
  | .agg l => (l.flatMap jkI).toArray
  | _ => #[]
theorem jb7 {W : World} {nm : String} {g n : Nat} {t : TypeId} {l : List (List UInt8)} (hg : Tryz.prog.globalNamed nm = some g) (hty : (Tryz.prog.globals[g]?).map (·.type) = some t) (hu : Tryz.prog.underlying t = some (.array n 9)) (hn : l.length = n)
    (h : laidMet Tryz.prog [(nm, (.agg (l.map fun s => .lit (.string s)) : DataW Unit))] W) : TabAt W g l := by
  obtain ⟨ps, ⟨g', t', cs, fuel, p, q, hg', ht', hvar, hd, _, _⟩, _⟩ := h; obtain rfl := Option.some.inj (hg.symm.trans hg'); obtain rfl := Option.some.inj (hty.symm.trans ht'); have c1 : Tryz.prog.cellsOf 9 = 1 := by kernel_rfl
  obtain ⟨xs, m, _, ex, _, hxl, hx⟩ := DataW.trod_array hu hd; have exs : xs.map (·.1) = l.map fun s => (.lit (.string s) : DataW Unit) := by
    have := congrArg Prod.fst ex
    simpa using this.symm
  intro i s hs; have hi : i < l.length := (List.getElem?_eq_some_iff.1 hs).1; have hx' := hx i (by omega); rw [c1] at hx'; obtain ⟨y, hy⟩ : ∃ y, xs[i]? = some y := ⟨_, List.getElem?_eq_getElem (by omega)⟩; rw [hy] at hx'; obtain ⟨b, e1, e2, _⟩ := DataW.trod_string Tryz.underlying9 hx'; have e3 : y.1 = .lit (.string s) := by
    have := congrArg (·[i]?) exs; simp only [List.getElem?_map, hy, hs, Option.map_some, Option.some.injEq] at this; exact this
  have e4 : b.data.toList = s := by
    rw [e2] at e3
    simpa using e3
  have e5 : cs[i]? = some (.string b) := by
    have := congrArg (·[0]?) e1; simp only [List.getElem?_take, List.getElem?_drop] at this
    simpa using this
  rw [World.var?_cell hg hvar i, ← e4, jax]
  simpa using e5
def one (nm : String) (L : List (String × DataW Unit)) : List (String × DataW Unit) := L.filter fun x => x.1 == nm
def TabsM (w : World) : Prop := Tabs w ∧ maxLenCell w
theorem TabsM.next {w w' : World} (h : TabsM w) (hb : Below w.heap.size w w') : TabsM w' := ⟨h.1.next hb, maxLenCell_below h.2 hb⟩
theorem tabs_of (W : World) (L : List (String × DataW Unit)) (hsh : W.ShapedOpen Tryz.prog) (hL : laidMet Tryz.prog L W)
    (h1 : one "postroom/script.words" L = [("postroom/script.words", Rows.laid_postroom_script_words)]) (h2 : one "postroom/rule.flagNames" L = [("postroom/rule.flagNames", Rows.laid_postroom_rule_flagNames)])
    (h3 : one "postroom/rule.requirable" L = [("postroom/rule.requirable", .agg (extT.map fun s => .lit (.string s)))])
    (h4 : one "postroom/rule.envelopeParts" L = [("postroom/rule.envelopeParts", .agg (partT.map fun s => .lit (.string s)))])
    (h5 : one "postroom/rule.neededFor" L = [("postroom/rule.neededFor", .agg (needT.map fun s => .lit (.string s)))]) : TabsM W := by
  have f : ∀ nm, laidMet Tryz.prog (one nm L) W := fun nm => laidMet.filter (fun x => x.1 == nm) hL
  refine ⟨⟨words_of W ?_, ?_, ?_, ?_, flags_of W ?_⟩, maxLenCell_shaped W hsh⟩
  · have := f "postroom/script.words"; rw [h1] at this; exact this
  · have := f "postroom/rule.requirable"; rw [h3] at this; exact jb7 (n := 4) (by kernel_rfl) (by kernel_rfl) Tryz.underlying132 rfl this
  · have := f "postroom/rule.envelopeParts"; rw [h4] at this; exact jb7 (n := 2) (by kernel_rfl) (by kernel_rfl) Tryz.underlying190 rfl this
  · have := f "postroom/rule.neededFor"; rw [h5] at this; exact jb7 (n := 11) (by kernel_rfl) (by kernel_rfl) Tryz.underlying98 rfl this
  · have := f "postroom/rule.flagNames"; rw [h2] at this; exact this
end Go.Proofs.YthikilhhmianlaaGreatDoor
namespace Go.Proofs.YthikilhhmianlaaGreatDoor
open Go.RowKit Go.Proofs
def jbh (n : Nat) (s : List UInt8) : List Cmd × Int :=
  if (cutM s).2.2 ≠ 0 then ([], (cutM s).2.2)
  else if (zp (cutM s).1).2.2 ≠ 0 then ([], (zp (cutM s).1).2.2)
  else if jbw n (zp (cutM s).1).1 ≠ 0 then ([], jbw n (zp (cutM s).1).1)
  else ((zp (cutM s).1).1, 0)
def RdP (w : World) (n : Nat) (r : List Cmd × Int) (e : Ending) (w' : World) : Prop :=
  ∃ a c, e = .returned (.tuple #[.slice a r.1.length c, .int .i64 r.2]) ∧ CmdsM (newB w.heap.size) n w' (.slice a r.1.length c) r.1 ∧ Below w.heap.size w w' ∧ jgx a r.1.length c
theorem jhe {w w' : World} {n : Nat} {r : List Cmd × Int} {x : Int} (h : r = ([], x)) (hb : Below w.heap.size w w') : RdP w n r (.returned (.tuple #[.slice none 0 0, .int .i64 x])) w' := by
  subst h; exact ⟨none, 0, rfl, jg _ _ _ _ _ _, hb, jaV⟩
set_option maxHeartbeats 4000000 in
set_option maxRecDepth 100000 in
theorem jfI (n : Nat) (s : List UInt8) (w : World) (hm : TabsM w) (ht : ∀ t ∈ (cutM s).1, t.kind = 1 ∨ t.kind = 2 → t.text.length ≤ maxLen) (hl : (cutM s).1.length ≤ 400)
    (hs : (zp (cutM s).1).2.2 = 0 → ∀ x ∈ (zp (cutM s).1).1, jat (n + 1) x ∧ DeepC (n + 1) x) :
    Calls Tryz.prog 7 #[.string (S s)] w (RdP w (n + 1) (jbh (n + 1) s)) := by
  have HM := hid hm; obtain ⟨C, hC⟩ : ∃ C, C = cutM s := ⟨_, rfl⟩; have HRD := hid (show jbh (n + 1) s = if C.2.2 ≠ 0 then ([], C.2.2) else if (zp C.1).2.2 ≠ 0 then ([], (zp C.1).2.2) else if jbw (n + 1) (zp C.1).1 ≠ 0 then ([], jbw (n + 1) (zp C.1).1) else ((zp C.1).1, 0) by rw [hC]; rfl); rw [← hC] at ht hl hs; obtain ⟨ts, p, x⟩ := C; simp only at ht hl hs HRD; obtain ⟨P, hP⟩ : ∃ P, P = zp ts := ⟨_, rfl⟩; rw [← hP] at hs HRD; obtain ⟨cs, q, y⟩ := P; simp only at hs HRD; have HC := hid hC; have HP := hid hP; have HT := hid ht; have HS := hid hs; clear hm ht hs hC hP; go_enter Tryz.func7, Tryz.ntmps7; go_wp2_with fail; refine (jiG s w HM.out.2).mono ?_; rw [← HC.out]; rintro e w1 ⟨a1, c1, rfl, hT1, hb1⟩; simp only at hT1 ⊢; have HT1 := hid hT1; have HB1 := hid hb1; clear hT1 hb1
  by_cases hx : x = 0
  · subst hx; go_wp2_with fail; refine (jgw a1 c1 ts w1 HT1.out (by unfold maxLen; omega) HT.out (HM.out.next HB1.out).1.1).mono ?_; rw [← HP.out]; rintro e w2 ⟨a2, c2, rfl, hC2, hb2, hr2⟩; simp only at hC2 hr2 ⊢; have HC2 := hid hC2; have HB2 := hid (HB1.out.trans (hb2.mono HB1.out.size)); have HN2 := hid (show CmdsM (newB w.heap.size) (ts.length + 3) w2 (.slice a2 cs.length c2) cs from RowM.imp hC2 (fun k hk => Nat.le_trans HB1.out.size hk) (Keeps.refl _ _) fun _ _ h => CmdM.imp (fun k hk => Nat.le_trans HB1.out.size hk) (Keeps.refl _ _) _ _ _ h); have HR2 := hid hr2; clear hC2 hb2 hr2
    by_cases hy : y = 0
    · have HS0 := hid (HS.out hy); clear HS; subst hy; obtain ⟨z, hz⟩ : ∃ z, z = jbw (n + 1) cs := ⟨_, rfl⟩; rw [← hz] at HRD; have HZ := hid hz; clear hz; go_wp2_with fail; refine (jgF n cs a2 c2 w2 (HM.out.next HB2.out).1 HR2.out.1 (fun h => HR2.out.2 (by rw [h]; rfl)) (fun x hx => (HS0.out x hx).1) (CmdsM.less (fun x hx => (HS0.out x hx).2) HC2.out.any)).mono ?_; rw [← HZ.out]; rintro e w3 ⟨rfl, hb3⟩; have HB3 := hid (HB2.out.trans (hb3.mono HB2.out.size)); have HN3 := hid (CmdsM.less (fun x hx => (HS0.out x hx).2) (CmdsM.next HN2.out hb3)); clear hb3
      by_cases hz : z = 0
      · have HE := hid (show RdP w (n + 1) (jbh (n + 1) s) (.returned (.tuple #[.slice a2 cs.length c2, .int .i64 0])) w3 by
          rw [HRD.out, if_neg (by simp), if_neg (by simp), if_neg (by simpa using hz)]; exact ⟨a2, c2, rfl, HN3.out, HB3.out, HR2.out⟩)
        subst hz; go_wp2; go_ret2; exact HE.out
      · have HE := hid (show RdP w (n + 1) (jbh (n + 1) s) (.returned (.tuple #[.slice none 0 0, .int .i64 z])) w3 from jhe (by rw [HRD.out, if_neg (by simp), if_neg (by simp), if_pos hz]) HB3.out); go_wp2; go_ret2; exact HE.out
    · have HE := hid (show RdP w (n + 1) (jbh (n + 1) s) (.returned (.tuple #[.slice none 0 0, .int .i64 y])) w2 from jhe (by rw [HRD.out, if_neg (by simp), if_pos hy]) HB2.out); go_wp2; go_ret2; exact HE.out
  · have HE := hid (show RdP w (n + 1) (jbh (n + 1) s) (.returned (.tuple #[.slice none 0 0, .int .i64 x])) w1 from jhe (by rw [HRD.out, if_pos hx]) HB1.out); go_wp2; go_ret2; exact HE.out
end Go.Proofs.YthikilhhmianlaaGreatDoor
namespace Go.Proofs.YthikilhhmianlaaGreatDoor
open Go.RowKit
theorem jjE (n : Nat) : Lib.decDigits n = decL n := rfl
def repL (c : UInt8) (l : List UInt8) : List UInt8 := l.flatMap fun x => if x = c then [92, c] else [x]
theorem jdk {c : UInt8} {a : List UInt8} (h : c ∉ a) : repL c a = a := by
  induction a with
  | nil => rfl
  | cons x a ih =>
    simp only [List.mem_cons, not_or] at h; have : repL c (x :: a) = (if x = c then [92, c] else [x]) ++ repL c a := by simp [repL]
    rw [this, ih h.2, if_neg (fun e => h.1 e.symm)]; rfl
theorem jbM {c : UInt8} {s : List UInt8} {i : Nat} (h : Lib.index s [c] = i) : s = s.take i ++ c :: s.drop (i + 1) ∧ c ∉ s.take i := by
  rw [Lib.index_one] at h; obtain ⟨h1, h2⟩ := Lib.indexByte_some h; obtain ⟨hi, hc⟩ := List.getElem?_eq_some_iff.1 h1; refine ⟨?_, ?_⟩
  · conv => lhs; rw [← List.take_append_drop i s, List.drop_eq_getElem_cons hi, hc]
  · intro hm; obtain ⟨k, hk, e⟩ := List.mem_iff_getElem.1 hm; rw [List.length_take] at hk; refine h2 k (by omega) ?_; rw [List.getElem_take] at e; rw [List.getElem?_eq_getElem (by omega), e]
theorem jd8 (c : UInt8) : ∀ (k : Nat) (s : List UInt8), s.count c ≤ k → Lib.replaceK [c] [92, c] k s = repL c s := by
  intro k
  induction k with
  | zero =>
    intro s h; rw [Lib.replaceK, jdk]; intro hm; have := List.count_pos_iff.2 hm; omega
  | succ k ih =>
    intro s h; have hge := Lib.index_ge s [c]
    by_cases hm : Lib.index s [c] = -1
    · rw [Lib.replaceK, if_pos (by simpa using hm), jdk]; rw [Lib.index_one] at hm; intro hc; obtain ⟨j, hj, e⟩ := List.mem_iff_getElem.1 hc; exact Lib.indexByte_none hm j (by rw [List.getElem?_eq_getElem hj, e])
    · obtain ⟨i, hi⟩ : ∃ i : Nat, Lib.index s [c] = i := ⟨(Lib.index s [c]).toNat, by omega⟩; obtain ⟨hs, hn⟩ := jbM hi; rw [Lib.replaceK_hit _ _ _ _ _ hi]; have hc : (s.drop (i + 1)).count c ≤ k := by
        have e := congrArg (List.count c) hs; rw [List.count_append, List.count_cons_self] at e; omega
      show s.take i ++ [92, c] ++ Lib.replaceK [c] [92, c] k (s.drop (i + 1)) = repL c s
      rw [ih _ hc]
      conv => rhs; rw [hs]
      have e : repL c (s.take i ++ c :: s.drop (i + 1)) = repL c (s.take i) ++ ([92, c] ++ repL c (s.drop (i + 1))) := by simp [repL]
      rw [e, jdk hn, List.append_assoc]
theorem jic (l : List UInt8) : repL 34 (repL 92 l) = zn l := by
  induction l with
  | nil => rfl
  | cons x l ih =>
    have e1 : repL 92 (x :: l) = (if x = 92 then [92, 92] else [x]) ++ repL 92 l := by simp [repL]
    have e2 : zn (x :: l) = (if x = 34 ∨ x = 92 then [92, x] else [x]) ++ zn l := by simp [zn]
    have e3 : ∀ a b, repL 34 (a ++ b) = repL 34 a ++ repL 34 b := fun a b => by simp [repL]
    rw [e1, e2, e3, ih]
    congr 1
    by_cases h1 : x = 92
    · subst h1; decide
    · rw [if_neg h1]
      by_cases h2 : x = 34
      · subst h2; decide
      · rw [if_neg (fun h => h.elim h2 h1)]
        simp [repL, h2]
end Go.Proofs.YthikilhhmianlaaGreatDoor
namespace Go.Proofs.YthikilhhmianlaaGreatDoor
open Go.RowKit Go.Proofs Go.Joins
def Env (w : World) : Prop := maxLenCell w ∧ powTab w
theorem jgY : (Tryz.prog.globalNamed "internal/strconv.uint64pow10").isSome = true := by kernel_rfl
theorem Env.below {w w' : World} (h : Env w) (hb : Below w.heap.size w w') : Env w' := by
  obtain ⟨g, hg⟩ := Option.isSome_iff_exists.1 jgY; exact ⟨maxLenCell_below h.1 hb, tab_stays hg h.2 hb (Nat.le_refl _)⟩
theorem Env.next {w w' : World} {B : Nat} (h : Env w) (hb : Below B w w') (hB : w.heap.size ≤ B) : Env w' := h.below (hb.mono hB)
theorem jf7 (w : World) (k : Nat) (os : Array Obj) : Below w.heap.size w (Go.Sort.grow (w.drewN k) os) :=
  ⟨rfl, rfl, rfl, by show w.heap.size ≤ (w.heap ++ os).size; rw [Array.size_append]; omega, fun _ hj => Go.Sort.heap_grow_old (w.drewN k) os hj⟩
theorem jiN (a b : List UInt8) : S a ++ S b = S (a ++ b) := by
  rw [← jax (S a ++ S b)]
  simp [jW]
theorem jfj (c : UInt8) (l : List UInt8) : (repL c l).length ≤ 2 * l.length := by
  induction l with
  | nil => simp [repL]
  | cons x l ih =>
    have e : repL c (x :: l) = (if x = c then [92, c] else [x]) ++ repL c l := by simp [repL]
    rw [e]; split <;> simp <;> omega
theorem jaw (c : UInt8) (l : List UInt8) : Lib.replaceAll l [c] [92, c] = repL c l := by
  unfold Lib.replaceAll Lib.replace; rw [if_neg (by simp)]; have e : Lib.replaceNum l [c] (-1) = l.count c := by
    unfold Lib.replaceNum; rw [if_pos (Or.inl (by decide)), Lib.count_one]
  rw [e]; exact jd8 c _ l (Nat.le_refl _)
set_option maxHeartbeats 8000000 in
set_option maxRecDepth 100000 in
theorem jgH (t : Tok) (w : World) (hE : Env w) (hf : jO t = 0) (hl : t.text.length ≤ 2000) :
    Calls Tryz.prog 15 #[.agg #[.int .i64 t.kind, .string (S t.text), .int .i64 t.num]] w fun e w' => e = .returned (.string (S (jS t))) ∧ Below w.heap.size w w' := by
  obtain ⟨W0, hW0⟩ : ∃ W0, W0 = w.alloc (.cells #[.int .i64 t.kind, .string (S t.text), .int .i64 t.num] 50) := ⟨_, rfl⟩; have hT : TokB W0 w.heap.size t := by rw [hW0]; exact qB w t
  have HB0 : Hid (Below w.heap.size w W0) := by unfold Hid; rw [hW0]; exact (Below.refl _ _).alloc (Nat.le_refl _) _
  have HE : Hid (Env W0) := hE.below HB0.out; have HW : Hid _ := hW0; have k0 := hT.c0; have k1 := hT.c1; have k2 := hT.c2; have hz : (S t.text).size ≤ 2000 := by rw [jB]; exact hl
  clear hW0 hT hE; have hkc := qC hf
  by_cases h3 : t.kind = 3
  · have hn : 0 ≤ t.num ∧ t.num ≤ 2147483647 := by
      rcases hkc with ⟨k, _⟩ | ⟨k, _⟩ | ⟨_, a, b, _⟩ | ⟨k, _⟩ | ⟨k, _⟩
      · omega
      · omega
      · exact ⟨a, b⟩
      · omega
      · omega
    have HT : Hid (jS t = Lib.itoa t.num) := by
      unfold Hid jS Lib.itoa; rw [if_pos h3, if_neg (by omega), jjE]
    have hq : (t.kind == 3) = true := by simp [h3]
    obtain ⟨n1, n2⟩ := hn; clear hkc hf h3; go_enter Tryz.func15, Tryz.ntmps15; go_wp2_with fail; rw [← HW.out]; refine (itoa_any t.num (by omega) (by omega) _ HE.out.2).mono ?_; rintro e u ⟨rfl, k, os, rfl⟩; go_wp2; go_ret; exact ⟨by rw [HT.out]; rfl, HB0.out.trans ((jf7 W0 k os).mono HB0.out.size)⟩
  have q3 : (t.kind == 3) = false := by simp [h3]
  by_cases h2 : t.kind = 2
  · have HT : Hid (jS t = 58 :: t.text) := by unfold Hid jS; rw [if_neg h3, if_pos h2]
    have q2 : (t.kind == 2) = true := by simp [h2]
    have HC : Hid ((⟨#[58]⟩ : ByteArray) ++ S t.text = S (58 :: t.text)) := jiN [58] t.text; have hadd : ¬ 9223372036854775807 < (⟨#[58]⟩ : ByteArray).size + (S t.text).size := by
      have : (⟨#[58]⟩ : ByteArray).size = 1 := rfl; omega
    clear hkc hf h3 h2; go_enter Tryz.func15, Tryz.ntmps15; go_wp2; go_ret; refine ⟨?_, by first | exact HB0.out | (rw [← HW.out]; exact HB0.out) | exact (Below.refl _ _).alloc (Nat.le_refl _) _⟩; rw [HT.out, ← HC.out]; rfl
  have q2 : (t.kind == 2) = false := by simp [h2]
  by_cases h4 : t.kind = 4
  · have HT : Hid (jS t = 34 :: (zn t.text ++ [34])) := by unfold Hid jS; rw [if_neg h3, if_neg h2, if_pos h4]
    have q4 : (t.kind == 4) = true := by simp [h4]
    have hr1 := jfj 92 t.text; have hr2 := jfj 34 (repL 92 t.text); have HR1 : Hid ((⟨(Lib.replaceAll (S t.text).data.toList (⟨#[92]⟩ : ByteArray).data.toList (⟨#[92, 92]⟩ : ByteArray).data.toList).toArray⟩ : ByteArray) = S (repL 92 t.text)) := by
      unfold Hid; rw [jW]
      show S (Lib.replaceAll t.text [92] [92, 92]) = _
      rw [jaw 92]
    have HR2 : Hid ((⟨(Lib.replaceAll (S (repL 92 t.text)).data.toList (⟨#[34]⟩ : ByteArray).data.toList (⟨#[92, 34]⟩ : ByteArray).data.toList).toArray⟩ : ByteArray) = S (zn t.text)) := by
      unfold Hid; rw [jW]
      show S (Lib.replaceAll (repL 92 t.text) [34] [92, 34]) = _
      rw [jaw 34, jic]
    have HL1 : Hid ((S t.text).size + Lib.countB (S t.text) ⟨#[92]⟩ * (⟨#[92, 92]⟩ : ByteArray).size ≤ 140737488355328) := by
      unfold Hid; have e : Lib.countB (S t.text) ⟨#[92]⟩ = t.text.count 92 := by
        show Lib.count (S t.text).data.toList [92] = _
        rw [jW, Lib.count_one]
      have h2 : (⟨#[92, 92]⟩ : ByteArray).size = 2 := rfl; have := List.count_le_length (a := (92 : UInt8)) (l := t.text); rw [e, h2]; omega
    have HL2 : Hid ((S (repL 92 t.text)).size + Lib.countB (S (repL 92 t.text)) ⟨#[34]⟩ * (⟨#[92, 34]⟩ : ByteArray).size ≤ 140737488355328) := by
      unfold Hid; have e : Lib.countB (S (repL 92 t.text)) ⟨#[34]⟩ = (repL 92 t.text).count 34 := by
        show Lib.count (S (repL 92 t.text)).data.toList [34] = _
        rw [jW, Lib.count_one]
      have h2 : (⟨#[92, 34]⟩ : ByteArray).size = 2 := rfl; have := List.count_le_length (a := (34 : UInt8)) (l := repL 92 t.text); rw [e, h2, jB]; omega
    have HS1 : Hid ((S t.text).size < 4294967281) := by unfold Hid; omega
    have HS2 : Hid ((S (repL 92 t.text)).size < 4294967281) := by unfold Hid; rw [jB]; omega
    have hqz : (S (zn t.text)).size ≤ 4000 := by rw [jB]; have := jcI t.text; omega
    have HC1 : Hid ((⟨#[34]⟩ : ByteArray) ++ S (zn t.text) ++ (⟨#[34]⟩ : ByteArray) = S (34 :: (zn t.text ++ [34]))) := by
      unfold Hid; have e1 : (⟨#[34]⟩ : ByteArray) = S [34] := rfl; rw [e1, jiN, jiN]; rfl
    clear hkc hf h3 h2 h4 hr1 hr2; go_enter Tryz.func15, Tryz.ntmps15; go_wp2_with fail; rw [← HW.out]; refine (replaceAll_any (S t.text) ⟨#[92]⟩ ⟨#[92, 92]⟩ _ HS1.out HE.out.1 (by decide) HL1.out).mono ?_; rintro e u ⟨rfl, hb1⟩; rw [HR1.out]; have HE1 : Hid (Env u) := HE.out.below hb1; have HB1 : Hid (Below w.heap.size w u) := HB0.out.trans (hb1.mono HB0.out.size); clear hb1; go_wp2_with fail; refine (replaceAll_any (S (repL 92 t.text)) ⟨#[34]⟩ ⟨#[92, 34]⟩ _ HS2.out HE1.out.1 (by decide) HL2.out).mono ?_; rintro e u2 ⟨rfl, hb2⟩; rw [HR2.out]; have HB2 : Hid (Below w.heap.size w u2) := HB1.out.trans (hb2.mono HB1.out.size); clear hb2; go_wp2; go_ret; exact ⟨by rw [HT.out, ← HC1.out]; rfl, HB2.out⟩
  have q4 : (t.kind == 4) = false := by simp [h4]
  have HT : Hid (jS t = t.text) := by unfold Hid jS; rw [if_neg h3, if_neg h2, if_neg h4]
  clear hkc hf h3 h2 h4; go_enter Tryz.func15, Tryz.ntmps15; go_wp2; go_ret; exact ⟨by rw [HT.out]; rfl, by first | exact HB0.out | (rw [← HW.out]; exact HB0.out) | exact (Below.refl _ _).alloc (Nat.le_refl _) _⟩
end Go.Proofs.YthikilhhmianlaaGreatDoor
namespace Go.Proofs.YthikilhhmianlaaGreatDoor
open Go.ChangeShapes Go.WideShapes Go.ChangeAt Go.RowKit
def TabsE (w : World) : Prop := TabsM w ∧ Env w
theorem TabsE.next {w w' : World} (h : TabsE w) (hb : Below w.heap.size w w') : TabsE w' := ⟨h.1.next hb, h.2.below hb⟩
theorem tabsE_of (W : World) (L : List (String × DataW Unit)) (hsh : W.ShapedOpen Tryz.prog) (hL : laidMet Tryz.prog L W)
    (h1 : one "postroom/script.words" L = [("postroom/script.words", Rows.laid_postroom_script_words)]) (h2 : one "postroom/rule.flagNames" L = [("postroom/rule.flagNames", Rows.laid_postroom_rule_flagNames)])
    (h3 : one "postroom/rule.requirable" L = [("postroom/rule.requirable", .agg (extT.map fun s => .lit (.string s)))])
    (h4 : one "postroom/rule.envelopeParts" L = [("postroom/rule.envelopeParts", .agg (partT.map fun s => .lit (.string s)))])
    (h5 : one "postroom/rule.neededFor" L = [("postroom/rule.neededFor", .agg (needT.map fun s => .lit (.string s)))])
    (h6 : one "internal/strconv.uint64pow10" L = [("internal/strconv.uint64pow10", Lib.tabData .u64 Lib.pow10Tab)]) : TabsE W := by
  refine ⟨tabs_of W L hsh hL h1 h2 h3 h4 h5, maxLenCell_shaped W hsh, ?_⟩; have h7 := laidMet.filter (fun x => x.1 == "internal/strconv.uint64pow10") hL; rw [show L.filter (fun x => x.1 == "internal/strconv.uint64pow10") = _ from h6] at h7; exact Lib.tabIs_of_head (g := 4) (t := 157) (e := 139) (n := 20) (by kernel_rfl) (by kernel_rfl) Tryz.underlying157 Tryz.underlying139 (by kernel_rfl) (by kernel_rfl) h7
end Go.Proofs.YthikilhhmianlaaGreatDoor
namespace Go.Proofs.YthikilhhmianlaaGreatDoor
open Go.RowKit Go.Proofs Go.Shelf
set_option maxHeartbeats 1000000 in
set_option maxRecDepth 100000 in
theorem jcw (b : Nat) (w : World) (h0 : w.cell? ⟨b, 0, none⟩ = some (.pointer (some ⟨b, 0, none⟩))) :
    Calls Tryz.prog 31 #[.pointer (some ⟨b, 0, none⟩)] w fun e w' => e = .returned (.tuple #[]) ∧ w' = w := by
  obtain ⟨j, hj, _⟩ := Option.map_eq_some_iff.1 Tryz.Builder_Extra_169.sizeBuilder; go_enter Tryz.func31, Tryz.ntmps31; go_wp2; rw [Lib.run_neq_ptr_same w _ Tryz.underlying45 hj]; go_wp2; go_end0; exact ⟨rfl, rfl⟩
set_option maxHeartbeats 1000000 in
set_option maxRecDepth 100000 in
theorem jb8 (b : Nat) (w : World) (h0 : w.cell? ⟨b, 0, none⟩ = some (.pointer none)) (hsh : w.shape? b = some (48, 2)) (hfz : w.frozen? ⟨b, 0, none⟩ = false) :
    Calls Tryz.prog 31 #[.pointer (some ⟨b, 0, none⟩)] w fun e w' => e = .returned (.tuple #[]) ∧ w' = w.setCell ⟨b, 0, none⟩ (.pointer (some ⟨b, 0, none⟩)) := by
  obtain ⟨j, hj, hjs⟩ := Option.map_eq_some_iff.1 Tryz.Builder_Extra_169.sizeBuilder; go_enter Tryz.func31, Tryz.ntmps31; go_wp2; rw [Lib.run_to_unsafe w ⟨b, 0, none⟩ Tryz.underlying45 Tryz.underlying103 hj (by rw [hjs]; decide) hsh (Nat.zero_lt_succ 1)]; simp only [Result.andThen]; rw [Oper.upon_value]; go_wp2; rw [run_callFunc_extern Tryz.func51 (by kernel_rfl) (by kernel_rfl) (by kernel_rfl) (e := Extern.AbiNoEscape.same) (by kernel_rfl)]; rw [Lib.run_noEscape]; simp only [Result.andThen]; rw [Oper.upon_value]; go_wp2; rw [Lib.run_from_unsafe w ⟨b, 0, none⟩ Tryz.underlying103 Tryz.underlying45 hj hsh Tryz.Builder_Extra_169.liesBuilder]; simp only [Result.andThen]; rw [Oper.upon_value]; go_wp2; go_end0; exact ⟨rfl, rfl⟩
theorem jaS (B b : Nat) (bs : List Value) (w : World) (h : Lib.IsBuilderF 48 5 B b bs w) :
    Calls Tryz.prog 31 #[.pointer (some ⟨b, 0, none⟩)] w fun e w' => e = .returned (.tuple #[]) ∧ (Lib.BuilderAtF 48 5 B b (.pointer (some ⟨b, 0, none⟩)) bs w' ∧ Below B w w' ∧ Lib.OthersKept 5 (some b) w w') := by
  rcases h with h | h
  · refine (jb8 b w h.cell0 h.shape h.frozen0).mono ?_; rintro e w' ⟨rfl, rfl⟩; exact ⟨rfl, h.used _, (Below.refl B w).setCell (p := ⟨b, 0, none⟩) h.1 _, (Lib.OthersKept.refl _ _ w).setCell ⟨b, 0, none⟩ rfl _⟩
  · refine (jcw b w h.cell0).mono ?_; rintro e w' ⟨rfl, rfl⟩; exact ⟨rfl, h, Below.refl B _, Lib.OthersKept.refl _ _ _⟩
set_option maxHeartbeats 2000000 in
set_option maxRecDepth 100000 in
theorem jcp (B b : Nat) (bs : List Value) (s : ByteArray) (w : World) (h : Lib.IsBuilderF 48 5 B b bs w) (hlen : bs.length + s.size ≤ 140737488355328) (hBw : B ≤ w.heap.size) :
    Calls Tryz.prog 14 #[.pointer (some ⟨b, 0, none⟩), .string s] w fun e w' => e = .returned (.tuple #[.int .i64 s.size, .nilIface]) ∧ (Lib.IsBuilderF 48 5 B b (bs ++ Lib.strCells s) w' ∧ Below B w w' ∧ Lib.OthersKept 5 (some b) w w') := by
  obtain ⟨i0, hi, hz0, hz1, hz2⟩ := info_parts Tryz.Builder_Extra_169.infoByte; go_enter Tryz.func14, Tryz.ntmps14; go_wp2_with fail; refine (jaS B b bs _ h).mono ?_; rintro e w1 ⟨rfl, h1, hb1, hk1⟩; obtain ⟨hB, v, hbk, hown, hne⟩ := h1; have c0 : w1.cell? ⟨b, 0, none⟩ = some (.pointer (some ⟨b, 0, none⟩)) := by rw [Lib.cell_of_heap hbk]; rfl
  have c1 : w1.cell? ⟨b, 1, none⟩ = some v := by rw [Lib.cell_of_heap hbk]; rfl
  go_wp2_with (at_builtin; refine Lib.wpList_append_own_stringF _ rfl _ _ 46 9 rfl B 5 i0 Tryz.underlying46 Tryz.underlying9 hi hz0 hz1 hz2 _ _ _ rfl hown s rfl ?c3 ?c4 ?c5 ?_)
  case c3 => unfold maxLen; omega
  case c4 => omega
  case c5 => have := hb1.size; omega
  intro v' w2 hown' hgrow _; have hlt : b < w1.heap.size := by
    rcases Nat.lt_or_ge b w1.heap.size with h' | h'
    · exact h'
    · simp [Array.getElem?_eq_none h'] at hbk
  have hb2 : w2.heap[b]? = some (.cells #[.pointer (some ⟨b, 0, none⟩), v] 48 (0, 0)) := by
    rw [hgrow.block b hlt (fun e => hne e.symm)]; exact hbk
  have d0 : w2.cell? ⟨b, 0, none⟩ = some (.pointer (some ⟨b, 0, none⟩)) := by rw [Lib.cell_of_heap hb2]; rfl
  have d1 : w2.cell? ⟨b, 1, none⟩ = some v := by rw [Lib.cell_of_heap hb2]; rfl
  have f1 : w2.frozen? ⟨b, 1, none⟩ = false := Lib.frozen_of_heap hb2 1; obtain ⟨ao, n', cap, rfl⟩ : ∃ ao n' cap, v' = .slice ao n' cap := by
    rcases hown'.2 with ⟨hv, _⟩ | ⟨g, cap, cur, fz, hv, _⟩
    · exact ⟨_, _, _, hv⟩
    · exact ⟨_, _, _, hv⟩
  go_wp2; go_ret2; refine ⟨rfl, .inr ?_, ?_, (hk1.grown hgrow (Lib.ownsRowF_kind hown)).setCell ⟨b, 1, none⟩ rfl _⟩
  · exact Lib.BuilderAtF.put (T := 48) (e := 5) hB hb2 (bs' := bs ++ Lib.strCells s) (by simpa [Lib.strCells_length] using hown') Tryz.Builder_Extra_169.neB5
  · exact (hb1.grown hgrow (by have := hb1.size; omega) (fun k hk => (hown.lt k hk).1)).setCell (p := ⟨b, 1, none⟩) hB _
theorem jed (w : World) (x : Value) (t : TypeId) : ∀ (j : Nat) u, [x][j]? = some u → (w.alloc (.cells #[x] t)).cell? ((⟨w.heap.size, 0, none⟩ : Addr).add j) = some u := by
  intro j u hj; rw [Addr.add_lit, Nat.zero_add]
  match j, hj with
  | 0, hj => simp at hj; subst hj; simp
set_option maxHeartbeats 2000000 in
set_option maxRecDepth 100000 in
theorem jc0 (B b : Nat) (bs : List Value) (c : Int) (w : World) (h : Lib.IsBuilderF 48 5 B b bs w) (hlen : bs.length + 1 ≤ 140737488355328) (hBw : B ≤ w.heap.size) :
    Calls Tryz.prog 16 #[.pointer (some ⟨b, 0, none⟩), .int .u8 c] w fun e w' => e = .returned .nilIface ∧ (Lib.IsBuilderF 48 5 B b (bs ++ [.int .u8 c]) w' ∧ Below B w w' ∧ Lib.OthersKept 5 (some b) w w') := by
  obtain ⟨i0, hi, hz0, hz1, hz2⟩ := info_parts Tryz.Builder_Extra_169.infoByte; go_enter Tryz.func16, Tryz.ntmps16; go_wp2_with fail; refine (jaS B b bs _ h).mono ?_; rintro e w1 ⟨rfl, h1, hb1, hk1⟩; obtain ⟨hB, v, hbk, hown, hne⟩ := h1; have hsz := hb1.size; have hlt : b < w1.heap.size := by
    rcases Nat.lt_or_ge b w1.heap.size with h' | h'
    · exact h'
    · simp [Array.getElem?_eq_none h'] at hbk
  have c0 : w1.cell? ⟨b, 0, none⟩ = some (.pointer (some ⟨b, 0, none⟩)) := by rw [Lib.cell_of_heap hbk]; rfl
  have c1 : w1.cell? ⟨b, 1, none⟩ = some v := by rw [Lib.cell_of_heap hbk]; rfl
  go_wp2_with (at_builtin; refine wpList_append_ownF _ rfl _ _ 46 rfl B 5 i0 (.int .u8 0) 1 1 Tryz.underlying46 hi hz0 hz1 hz2 rfl (by decide) _ _ _ rfl (hown.alloc _) ⟨w1.heap.size, 0, none⟩ 1 1 [.int .u8 c] rfl rfl (jed _ _ _) ?c2 ?c3 ?c4 ?c5 ?_)
  case c2 => intro u hu; simp at hu; subst hu; rfl
  case c3 => unfold maxLen; omega
  case c4 => omega
  case c5 => simp; omega
  intro v' w2 hown' hgrow _; have hb2 : w2.heap[b]? = some (.cells #[.pointer (some ⟨b, 0, none⟩), v] 48 (0, 0)) := by
    rw [hgrow.block b (by simp; omega) (fun e => hne e.symm), Lib.alloc_old w1 _ b hlt]; exact hbk
  have d1 : w2.cell? ⟨b, 1, none⟩ = some v := by rw [Lib.cell_of_heap hb2]; rfl
  have f1 : w2.frozen? ⟨b, 1, none⟩ = false := Lib.frozen_of_heap hb2 1; obtain ⟨ao, n', cap, rfl⟩ : ∃ ao n' cap, v' = .slice ao n' cap := by
    rcases hown'.2 with ⟨hv, _⟩ | ⟨g, cap, cur, fz, hv, _⟩
    · exact ⟨_, _, _, hv⟩
    · exact ⟨_, _, _, hv⟩
  go_wp2; go_ret; refine ⟨rfl, .inr ?_, ?_, ((hk1.alloc _).grown hgrow (Lib.ownsRowF_kind (hown.alloc _))).setCell ⟨b, 1, none⟩ rfl _⟩
  · exact Lib.BuilderAtF.put (T := 48) (e := 5) hB hb2 (bs' := bs ++ [.int .u8 c]) (by simpa using hown') Tryz.Builder_Extra_169.neB5
  · exact ((hb1.alloc (by omega) _).grown hgrow (by simp; omega) (fun k hk => (hown.lt k hk).1)).setCell (p := ⟨b, 1, none⟩) hB _
end Go.Proofs.YthikilhhmianlaaGreatDoor
namespace Go.Proofs.YthikilhhmianlaaGreatDoor
open Go.RowKit Go.Proofs
theorem jdB {T e : TypeId} {B b : Nat} {bs : List Value} {w w' : World} (h : Lib.IsBuilderF T e B b bs w) (hb : Below w.heap.size w w') : Lib.IsBuilderF T e B b bs w' := by
  have key : ∀ {p : Value}, Lib.BuilderAtF T e B b p bs w → Lib.BuilderAtF T e B b p bs w' := by
    intro p k; have hlt := k.lt; obtain ⟨h1, v, h2, h3, h4⟩ := k; refine ⟨h1, v, (hb.block b hlt).trans h2, ?_, h4⟩; exact h3.kept (row := none) ⟨hb.os, hb.tape, hb.output, hb.size, fun k hk _ => hb.block k hk⟩ (Classical.em _)
  rcases h with h | h
  · exact .inl (key h)
  · exact .inr (key h)
theorem jiZ {t : Tok} (h : jO t = 0) : t.text.length ≤ (jS t).length := by
  rcases qC h with ⟨k, _⟩ | ⟨k, _⟩ | ⟨k, _, _, e⟩ | ⟨k, _⟩ | ⟨k, _⟩
  · unfold jS; rw [k]; simp
  · unfold jS; rw [k]; simp
  · rw [e]; simp
  · unfold jS; rw [k]; have : ∀ l : List UInt8, l.length ≤ (zn l).length := by
      intro l
      induction l with
      | nil => simp
      | cons c l ih =>
        have e : zn (c :: l) = (if c = 34 ∨ c = 92 then [92, c] else [c]) ++ zn l := by simp [zn]
        rw [e]; split <;> simp <;> omega
    have := this t.text
    simp; omega
  · unfold jS; rw [k]; simp
theorem jhD {t : Tok} (h : jO t = 0) (hl : t.text.length ≤ 2000) : (jS t).length ≤ 4010 := by
  rcases qC h with ⟨k, _⟩ | ⟨k, _⟩ | ⟨k, a, b, e⟩ | ⟨k, _⟩ | ⟨k, _⟩
  · unfold jS; rw [k]; simp; omega
  · unfold jS; rw [k]; simp; omega
  · unfold jS; rw [k]; simp only [if_true]; have := jja t.num.toNat 9 (by omega); omega
  · unfold jS; rw [k]; have := jcI t.text; simp; omega
  · unfold jS; rw [k]; simp; omega
def jbc (r : List UInt8 × Int) : Value := .tuple #[.string (S r.1), .int .i64 r.2]
set_option maxHeartbeats 8000000 in
set_option maxRecDepth 100000 in
theorem jhx (a : Option Addr) (c : Nat) (ts : List Tok) (w : World) (hE : Env w) (hF : ToksAt w a ts) (hT : ∀ t ∈ ts, t.text.length ≤ maxLen) :
    Calls Tryz.prog 6 #[.slice a ts.length c] w fun e w' => e = .returned (jbc (jaA ts)) ∧ Below w.heap.size w w' := by
  by_cases h4 : 400 < ts.length
  · have HR : Hid (jbc (jaA ts) = .tuple #[.string ⟨#[]⟩, .int .i64 5]) := by unfold Hid jbc jaA; rw [if_pos h4]; rfl
    have hq : (400 : Int) < (ts.length : Int) := by omega
    clear h4 hE hF hT; go_enter Tryz.func6, Tryz.ntmps6; go_wp2; go_ret2; exact ⟨by rw [HR.out]; rfl, Below.refl _ _⟩
  have hq : ¬ (400 : Int) < (ts.length : Int) := by omega
  have HR : Hid (jaA ts = match vJ [] ts with | .ok s => (s, 0) | .error e => ([], e)) := by unfold Hid jaA; rw [if_neg h4]; rfl
  have hn4 : ts.length ≤ 400 := by omega
  have HE : Hid (Env w) := hE; have HF : Hid (ToksAt w a ts) := hF; have HT : Hid _ := hT; clear hE hF hT h4; obtain ⟨W0, hW0⟩ : ∃ W0, W0 = w.alloc (.cells #[.pointer none, .slice none 0 0] 48) := ⟨_, rfl⟩; have HI0 : Hid (Lib.IsBuilderF 48 5 w.heap.size w.heap.size (Lib.byteCells []) W0) := by
    unfold Hid; rw [hW0]; exact Lib.IsBuilderF.of (Lib.fresh_isBuilder 48 5 w)
  have HB0 : Hid (Below w.heap.size w W0) := by unfold Hid; rw [hW0]; exact (Below.refl _ _).alloc (Nat.le_refl _) _
  have HW : Hid _ := hW0; clear hW0; go_enter Tryz.func6, Tryz.ntmps6; go_wp2; rw [← HW.out]
  go_loopw [13] (fun i wr => ∃ (k : Nat) (acc : List UInt8), k ≤ ts.length ∧ i = .int .i64 k ∧ acc.length ≤ 2000 ∧ Hid (Lib.IsBuilderF 48 5 w.heap.size w.heap.size (Lib.byteCells acc) wr) ∧ Hid (vJ [] ts = vJ acc (ts.drop k)) ∧ Hid (Below w.heap.size w wr)) (fun i _ => ts.length - (intOf i).toNat)
  case atStart => exact ⟨0, [], Nat.zero_le _, rfl, by simp, HI0, rfl, HB0⟩
  case round =>
    obtain ⟨k, acc, hk, rfl, hacc, HI, HQ, HB⟩ := hrel
    by_cases hlt : k < ts.length
    · obtain ⟨t, ht⟩ : ∃ t, ts[k]? = some t := ⟨_, List.getElem?_eq_getElem hlt⟩; obtain ⟨b, o, rfl, hbl, c0, c1, c2⟩ := (HF.out.below HB.out) k t ht; have HTL : Hid (t.text.length ≤ maxLen) := HT.out t (List.mem_of_getElem? ht); have hdr : ts.drop k = t :: ts.drop (k + 1) := by
        rw [List.drop_eq_getElem_cons hlt]
        congr 1
        rw [List.getElem?_eq_getElem hlt] at ht; exact Option.some.inj ht
      have HP : Hid (vJ [] ts = if jO t ≠ 0 then .error (jO t) else if 2000 < (acc ++ jS t ++ [32]).length then .error 1 else vJ (acc ++ jS t ++ [32]) (ts.drop (k + 1))) := by
        unfold Hid; rw [HQ.out, hdr, vJ]
      obtain ⟨u0, hu0⟩ : ∃ u0, u0 = wr.alloc (.cells #[.int .i64 t.kind, .string (S t.text), .int .i64 t.num] 50) := ⟨_, rfl⟩; have HTB : Hid (TokB u0 wr.heap.size t) := by unfold Hid; rw [hu0]; exact qB wr t
      have HBu : Hid (Below wr.heap.size wr u0) := by unfold Hid; rw [hu0]; exact (Below.refl _ _).alloc (Nat.le_refl _) _
      have HU : Hid _ := hu0; clear ht hdr hu0; obtain ⟨x, hx⟩ : ∃ x, x = jO t := ⟨_, rfl⟩; have HX : Hid _ := hx; go_wp2_with fail; rw [← HU.out]; refine (jfQ t _ HTL.out).mono ?_; rintro e u1 ⟨rfl, hb1⟩; rw [← HX.out]; have HT1 : Hid (TokB u1 wr.heap.size t) := HTB.out.next hb1; have HB1 : Hid (Below wr.heap.size wr u1) := HBu.out.trans (hb1.mono HBu.out.size); have d0 := HT1.out.c0; have d1 := HT1.out.c1; have d2 := HT1.out.c2; clear hb1
      by_cases hx0 : x = 0
      · by_cases hlong : 2000 < t.text.length
        · have HG : Hid (jbc (jaA ts) = .tuple #[.string ⟨#[]⟩, .int .i64 1]) := by
            unfold Hid jbc; have e1 := jiZ (t := t) (by rw [← hx]; exact hx0); rw [HR.out, HP.out, if_neg (by rw [← hx]; simpa using hx0), if_pos (by simp; omega)]; rfl
          have hlz : (2000 : Int) < ((S t.text).size : Int) := by rw [jB]; omega
          subst hx0; clear hx; go_wp2; go_ret2; exact ⟨by rw [HG.out]; rfl, HB.out.trans (HB1.out.mono HB.out.size)⟩
        · have hf0 : jO t = 0 := by rw [← hx]; exact hx0
          have HF0 : Hid _ := hf0; have HTL2 : Hid (t.text.length ≤ 2000) := by unfold Hid; omega
          have hlz : ¬ (2000 : Int) < ((S t.text).size : Int) := by rw [jB]; omega
          have htm := jhD hf0 (by omega); have HE1 : Hid (Env u1) := (HE.out.below HB.out).below HB1.out; subst hx0; clear hx hf0; go_wp2_with fail; refine (jgH t _ HE1.out HF0.out HTL2.out).mono ?_; rintro e u2 ⟨rfl, hb2⟩; have HB2 : Hid (Below wr.heap.size wr u2) := HB1.out.trans (hb2.mono HB1.out.size); have HI2 : Hid (Lib.IsBuilderF 48 5 w.heap.size w.heap.size (Lib.byteCells acc) u2) := jdB HI.out HB2.out; have HZ2 : Hid (w.heap.size ≤ u2.heap.size) := Nat.le_trans HB.out.size HB2.out.size; clear hb2; go_wp2_with fail; refine (jcp w.heap.size w.heap.size _ (S (jS t)) _ HI2.out ?hl HZ2.out).mono ?_
          case hl => rw [Lib.byteCells_length, jB]; omega
          rintro e u3 ⟨rfl, hI3, hb3, _⟩; rw [Lib.strCells_eq, jW, ← Lib.byteCells_append] at hI3; have HI3 : Hid _ := hI3; have HB3 : Hid (Below w.heap.size w u3) := (HB.out.trans (HB2.out.mono HB.out.size)).trans hb3; clear hI3 hb3; go_wp2_with fail; refine (jc0 w.heap.size w.heap.size _ 32 _ HI3.out ?hl2 HB3.out.size).mono ?_
          case hl2 => rw [Lib.byteCells_length]; simp; omega
          rintro e u4 ⟨rfl, hI4, hb4, _⟩; have hI4' : Lib.IsBuilderF 48 5 w.heap.size w.heap.size (Lib.byteCells (acc ++ jS t ++ [32])) u4 := by
            rw [Lib.byteCells_append]; exact hI4
          have HI4 : Hid (Lib.IsBuilderF 48 5 w.heap.size w.heap.size (Lib.byteCells (acc ++ jS t ++ [32])) u4) := hI4'; have HB4 : Hid (Below w.heap.size w u4) := HB3.out.trans hb4; obtain ⟨m, hm⟩ : ∃ m, m = (acc ++ jS t ++ [32]).length := ⟨_, rfl⟩; have HM : Hid ((Lib.byteCells (acc ++ jS t ++ [32])).length = m) := by unfold Hid; rw [Lib.byteCells_length, hm]
          have HP2 : Hid (vJ [] ts = if 2000 < m then .error 1 else vJ (acc ++ jS t ++ [32]) (ts.drop (k + 1))) := by
            unfold Hid; rw [HP.out, if_neg (by rw [HF0.out]; simp), hm]
          have HMM : Hid _ := hm; clear hI4 hI4' hb4 hm; go_wp2_with fail; refine (builderLen_any w.heap.size w.heap.size _ _ HI4.out).mono ?_; rintro e u5 ⟨rfl, hu5⟩; have hu5' := hu5.symm; subst hu5'; rw [HM.out]
          by_cases hm2 : 2000 < m
          · have HG : Hid (jbc (jaA ts) = .tuple #[.string ⟨#[]⟩, .int .i64 1]) := by
              unfold Hid jbc; rw [HR.out, HP2.out, if_pos hm2]; rfl
            have hmi : (2000 : Int) < (m : Int) := by omega
            go_wp2; go_ret2; exact ⟨by rw [HG.out]; rfl, HB4.out⟩
          · have HQ2 : Hid (vJ [] ts = vJ (acc ++ jS t ++ [32]) (ts.drop (k + 1))) := by unfold Hid; rw [HP2.out, if_neg hm2]
            have hmi : ¬ (2000 : Int) < (m : Int) := by omega
            have hml : (acc ++ jS t ++ [32]).length ≤ 2000 := by rw [← HMM.out]; omega
            go_wp2
            go_roundw
            case rel => exact ⟨k + 1, acc ++ jS t ++ [32], by omega, by go_num, hml, HI4, HQ2, HB4⟩
            case measure => simp [intOf]; omega
      · have HG : Hid (jbc (jaA ts) = .tuple #[.string ⟨#[]⟩, .int .i64 x]) := by
          unfold Hid jbc; rw [HR.out, HP.out, if_pos (by rw [← hx]; exact hx0), hx]; rfl
        clear hx; go_wp2; go_ret2; exact ⟨by rw [HG.out]; rfl, HB.out.trans (HB1.out.mono HB.out.size)⟩
    · have HG : Hid (jbc (jaA ts) = .tuple #[.string (S acc), .int .i64 0]) := by
        unfold Hid jbc; rw [HR.out, HQ.out, List.drop_of_length_le (by omega), vJ]
      go_wp2_with fail; refine (Tryz.Builder_String_any_k w.heap.size w.heap.size acc _ HI.out HB.out.size).mono ?_; rintro e u1 ⟨rfl, _, hb1, _⟩; go_wp2; go_ret2; exact ⟨by rw [HG.out]; rfl, HB.out.trans hb1⟩
end Go.Proofs.YthikilhhmianlaaGreatDoor
namespace Go.Proofs.YthikilhhmianlaaGreatDoor
open Go.RowKit Go.Proofs
def jgk (w : World) (n : Nat) (l : List Cmd) (e : Ending) (w' : World) : Prop :=
  if zb n l = 0 then ∃ a' c', e = .returned (.tuple #[.slice a' (ze n l).length c', .int .i64 0]) ∧ ToksAt w' a' (ze n l) ∧ Below w.heap.size w w'
  else e = .returned (.tuple #[.slice none 0 0, .int .i64 (zb n l)]) ∧ Below w.heap.size w w'
theorem je1 {n : Nat} {l : List Cmd} (h : zb n l = 0) : jU n 0 l = 0 ∧ (ze n l).length ≤ 400 := by
  unfold zb at h
  by_cases h1 : jU n 0 l = 0
  · rw [if_neg (by simpa using h1)] at h; refine ⟨h1, ?_⟩
    rcases Nat.lt_or_ge 400 (ze n l).length with h2 | h2
    · rw [if_pos h2] at h; simp at h
    · exact h2
  · rw [if_pos h1] at h; exact absurd h h1
set_option maxHeartbeats 4000000 in
theorem jhW (n : Nat) (l : List Cmd) (a : Option Addr) (k : Nat) (w : World) (hw : WordsAt w) (h : CmdsM anyB n w (.slice a l.length k) l) :
    Calls Tryz.prog 5 #[.slice a l.length k] w (jgk w n l) := by
  have HT := hid h; have HW := hid hw; clear h hw; go_enter Tryz.func5, Tryz.ntmps5; go_wp2_with fail; refine (vc n l a k w HW.out HT.out).mono ?_; rintro e w1 ⟨rfl, hb1⟩; have HB1 := hid hb1; obtain ⟨x, hx⟩ : ∃ x, x = zb n l := ⟨_, rfl⟩; rw [← hx]; have HX := hid hx; clear hx hb1
  by_cases hx : x = 0
  · have hc0 : zb n l = 0 := by rw [← HX.out, hx]
    have HC0 := hid hc0; obtain ⟨hF, hlen⟩ := je1 hc0; have HF := hid hF; have HTk := hid (show (ze n l).take 401 = ze n l from List.take_of_length_le (by omega)); subst hx; clear hc0 hF; go_wp2_with fail; refine (jbm n l a k w1 (HW.out.next HB1.out) HF.out (HT.out.next HB1.out)).mono ?_; rw [HTk.out]; rintro e w2 ⟨a', c', rfl, ht, hb2⟩; have HE := hid (show jgk w n l (.returned (.tuple #[.slice a' (ze n l).length c', .int .i64 0])) w2 by
      unfold jgk; rw [if_pos HC0.out]; exact ⟨a', c', rfl, ht, HB1.out.trans (hb2.mono HB1.out.size)⟩)
    clear hb2 ht; go_wp2; go_ret2; exact HE.out
  · have HE := hid (show jgk w n l (.returned (.tuple #[.slice none 0 0, .int .i64 x])) w1 by
      unfold jgk; rw [if_neg (by rw [← HX.out]; exact hx), ← HX.out]; exact ⟨rfl, HB1.out⟩)
    go_wp2; go_ret2; exact HE.out
end Go.Proofs.YthikilhhmianlaaGreatDoor
namespace Go.Proofs.YthikilhhmianlaaGreatDoor
open Go.RowKit Go.Proofs
def TB (l : List Tok) : Prop := ∀ t ∈ l, t.text.length ≤ 2000
theorem TB.nil : TB [] := fun t h => by cases h
theorem TB.cons {t : Tok} {l : List Tok} (h : t.text.length ≤ 2000) (k : TB l) : TB (t :: l) := fun x hx => by
  rcases List.mem_cons.1 hx with e | e
  · rw [e]; exact h
  · exact k x e
theorem TB.app {a b : List Tok} (h : TB a) (k : TB b) : TB (a ++ b) := fun x hx => by
  rcases List.mem_append.1 hx with e | e
  · exact h x e
  · exact k x e
theorem TB.flat {A : Type} {g : A → List Tok} {l : List A} (h : ∀ x ∈ l, TB (g x)) : TB (l.flatMap g) := fun t ht => by
  obtain ⟨x, hx, hy⟩ := List.mem_flatMap.1 ht; exact h x hx t hy
theorem TB.sep {A : Type} {g : A → List Tok} {l : List A} (h : ∀ x ∈ l, TB (g x)) : TB (sepT g l) := by
  cases l with
  | nil => exact TB.nil
  | cons x r => exact TB.app (h x (by simp)) (TB.flat fun y hy => TB.cons (by simp [jx]) (h y (by simp [hy])))
theorem qE (c : UInt8) : (jx c).text.length ≤ 2000 := by simp [jx]
theorem jaB {l : List (List UInt8)} (h : ∀ x ∈ l, x.length ≤ 2000) : TB (vg l) := by
  unfold vg; split
  · exact TB.cons (show (_ : List UInt8).length ≤ 2000 from h _ (List.mem_singleton.2 rfl)) TB.nil
  · exact TB.cons (qE _) (TB.app (TB.sep fun x hx => TB.cons (h x hx) TB.nil) (TB.cons (qE _) TB.nil))
theorem jeB (k n : Nat) : (ju k n).length ≤ 16 := by
  have key : ∀ l ∈ wTabs, ∀ x ∈ l, x.length ≤ 16 := by decide
  have gd : ∀ (A : Type) (l : List A) (i : Nat) (d : A), l.getD i d ∈ l ∨ l.getD i d = d := fun A l i d => by
    rw [List.getD_eq_getElem?_getD]; cases h : l[i]? with
    | none => exact .inr rfl
    | some x => exact .inl (List.mem_of_getElem? h)
  unfold ju
  rcases gd _ (wTabs.getD k []) n [] with h | h
  · rcases gd _ wTabs k [] with h2 | h2
    · exact key _ h2 _ h
    · rw [h2] at h; cases h
  · rw [h]; simp
theorem jca {l : List (List UInt8)} (h : zO l = false) : ∀ x ∈ l, x.length ≤ 2000 := fun x hx => by
  unfold zO at h; have := List.any_eq_false.1 h x hx
  simp at this
  omega
theorem jj3 : ∀ (n : Nat) (t : Tst), jeq n t → TB (jZ n t) := by
  intro n
  induction n with
  | zero => intro t _; exact TB.nil
  | succ n ih =>
    intro t h; obtain ⟨h1, h2, _, h3⟩ := h; have w1 : ∀ k j, (ju k j).length ≤ 2000 := fun k j => by have := jeB k j; omega
    unfold jZ; refine TB.cons (w1 _ _) ?_
    repeat' split
    · cases ht : t.tests with
      | nil => exact TB.nil
      | cons x r => exact ih x (h3 x (by rw [ht]; simp))
    · exact TB.cons (qE _) (TB.app (TB.sep fun x hx => ih x (h3 x hx)) (TB.cons (qE _) TB.nil))
    · exact TB.cons (w1 _ _) (TB.app (jaB (jca h1)) (jaB (jca h2)))
    · exact TB.cons (w1 _ _) (TB.cons (w1 _ _) (TB.app (jaB (jca h1)) (jaB (jca h2))))
    · exact jaB (jca h1)
    · exact TB.cons (by decide) (TB.cons (by simp) TB.nil)
    · exact TB.cons (by decide) (TB.cons (by simp) TB.nil)
    · exact TB.nil
theorem jib {x : List UInt8} (h : qk [x] ≠ none) : x.length ≤ 2000 := by
  have key : ∀ t : List (List UInt8 × Nat), (∀ y ∈ t, y.1.length ≤ 2000) → jbN t x ≠ 0 → x.length ≤ 2000 := by
    intro t
    induction t with
    | nil => intro _ h; exact absurd rfl h
    | cons y t ih =>
      intro hy hn; unfold jbN at hn
      by_cases e : y.1 = x
      · rw [← e]; exact hy y (by simp)
      · rw [if_neg e] at hn; exact ih (fun z hz => hy z (by simp [hz])) hn
  refine key flagTab (by decide) fun e => h ?_
  unfold qk jbp; rw [if_pos (show jaW x = 0 from e)]
theorem jit {c : Cmd} {n : Nat} (h : jbz (n + 1) c) (hf : jeo c = true) : ∀ x ∈ c.texts, x.length ≤ 2000 := by
  obtain ⟨h1, h5, h8, h6, _⟩ := h; simp only [jeo, Bool.and_eq_true, decide_eq_true_eq] at hf; obtain ⟨⟨⟨⟨⟨k1, k2⟩, hfit⟩, hl, h7⟩, _⟩, _⟩ := hf; cases hx : c.texts with
  | nil => intro x h; cases h
  | cons y r =>
    rw [hx] at hl h5 h6 h7 h8; have hr : r = [] := by cases r with
      | nil => rfl
      | cons z r => simp at hl
    subst hr; intro x hm; obtain rfl : x = y := by simpa using hm
    simp only [List.getD_cons_zero] at h5 h6 h7; have kc : c.kind = 5 ∨ c.kind = 6 ∨ c.kind = 7 ∨ c.kind = 8 ∨ c.kind = 9 := by
      unfold qa at hfit; rw [hx] at hfit; simp only [List.length_cons, List.length_nil] at hfit; split at hfit
      · simp at hfit
      · split at hfit
        · omega
        · split at hfit
          · omega
          · simp at hfit
    rcases kc with k | k | k | k | k
    · have := h5 k; unfold jas at this
      rcases Nat.lt_or_ge 12 x.length with h | h
      · rw [if_pos (by omega)] at this; cases this
      · omega
    · have := h6 k
      rcases Nat.lt_or_ge 2000 x.length with h | h
      · exfalso
        revert this
        unfold jap vL; rw [if_pos h]
        simp
      · exact h
    · have := h7 k; omega
    · exact jib (h8 (.inl k))
    · exact jib (h8 (.inr k))
theorem jkh : ∀ (n : Nat) (c : Cmd), jbz n c → FitC n c → TB (zC n c) := by
  intro n
  induction n with
  | zero => intro c _ _; exact TB.nil
  | succ n ih =>
    intro c h hf; have hw := jit h hf.1; have hN := h; obtain ⟨_, _, _, _, ht, ha, he⟩ := hN; have w1 : ∀ k j, (ju k j).length ≤ 2000 := fun k j => by have := jeB k j; omega
    have hb : ∀ l : List Cmd, (∀ x ∈ l, jbz n x) → (∀ x ∈ l, FitC n x) → TB (l.flatMap fun x => zz (ju 0 x.kind.toNat) :: zC n x) := fun l h1 h2 => TB.flat fun x hx => TB.cons (w1 _ _) (ih x (h1 x hx) (h2 x hx))
    unfold zC; split
    · refine TB.app (TB.app (jj3 n _ ht) (TB.app (TB.cons (qE _) (hb _ ha hf.2.2.1)) (TB.cons (qE _) TB.nil))) ?_; split
      · rename_i x hx; obtain ⟨e1, _⟩ := zI hx; exact TB.cons (by decide) (ih x (he x (by rw [e1]; simp)) (hf.2.2.2 x (by rw [e1]; simp)))
      · split
        · exact TB.nil
        · exact TB.app (TB.cons (by decide) (TB.cons (qE _) (hb _ he hf.2.2.2))) (TB.cons (qE _) TB.nil)
    · refine TB.app ?_ (TB.cons (qE _) TB.nil); split
      · exact TB.nil
      · exact jaB hw
theorem jin {n : Nat} {r : List Cmd} (h : ∀ x ∈ r, jbz n x ∧ FitC n x) : TB (ze n (reqC :: r)) := by
  have w1 : ∀ k j, (ju k j).length ≤ 2000 := fun k j => by have := jeB k j; omega
  refine TB.flat fun x hx => TB.cons (w1 _ _) ?_
  rcases List.mem_cons.1 hx with e | e
  · rw [e]; cases n with
    | zero => exact TB.nil
    | succ n => exact TB.app (show TB (if reqC.texts.length = 0 then [] else vg reqC.texts) from jaB (l := reqC.texts) (by decide)) (TB.cons (qE _) TB.nil)
  · exact jkh n x (h x e).1 (h x e).2
end Go.Proofs.YthikilhhmianlaaGreatDoor
