/-
  What the laws of the layer of scripts want besides their walks: what the table of words holds.
  What the table of flags holds, from what a row lays.
  What the laws of rules and of courses want besides their walks: what the tables of script and of rule hold.
  Scripts in memory that are not deep: with less fuel.
  What rule.Read does: the walk.
  What is read of the scripts of the laws of the whole: plainly.
  What the laws of flags want besides their walks: what the table of flags holds.
  What the laws' picking of a number does: the walk.
  What letter.isName does: the walk.
  Rows of fields in memory; what letter.isValue and letter.shownSize do: the walks.
  Rows of fields that a call makes.
  What letter.takeLine and letter.trimValues do: the walks. The fields are a row that the call has made itself; a line that goes on is written into it.
  What letter.trimValues and letter.Parse do: the walks.
  What letter.Parse does: the walk.
  What the laws' makers of plain texts do (value): the walk.
  Drawn regions that read what they build: what is held on the way may be made stronger.
  What the laws of the whole make of raw numbers: the head of a letter. Plain meaning and walk.
-/
import Derived.Test.YtlfgemnmfhknfaaGreatDoorCards
import Derived.Test.YtlfgemnmfhknfaaGreatDoorTie
import Derived.Test.YtlfgemnmfhknfaaGreatDoorYScrCk
import Derived.WalkKit
import Derived.ProofKit
import Derived.OpenShut
import Derived.ChangeOld
import Derived.Below
import Derived.Deep.DeepHandedRow
import Derived.Lib.LaidTab
import Derived.LaidSub
import Derived.Test.YtlfgemnmfhknfaaGreatDoorYRulCs
import Derived.Test.YtlfgemnmfhknfaaGreatDoorYQPure5
import Derived.Test.YtlfgemnmfhknfaaGreatDoorYQTokMark6
import Derived.Test.YtlfgemnmfhknfaaGreatDoorYQScrRd135
import Derived.Test.YtlfgemnmfhknfaaGreatDoorRows
import Derived.Test.YtlfgemnmfhknfaaGreatDoorShelf
import Derived.Deep.QuietTactic
import Derived.BigQuiet
import Derived.Deep.RegionLaw
import Derived.Deep.AppendLies
import Derived.Test.YtlfgemnmfhknfaaGreatDoorYQTokNum4
import Derived.Deep.RegionHeld3
import Derived.Deep.DeepCutAuto
namespace Go.Proofs.YtlfgemnmfhknfaaGreatDoor
open Go.ChangeShapes Go.WideShapes Go.ChangeAt Go.RowKit
theorem own : ownKnob Tryz.prog.godebug = none := by kernel_rfl
theorem laidOut : laidOutB Tryz.prog = true := by kernel_rfl
def layCells (cs : Array Value) : Obj → Obj
  | .cells _ t frozen => .cells cs t frozen
  | o => o
def wordCells : Array Value := (wTabs.flatMap fun r => r.map fun s => Value.string (S s)).toArray
def jlf : DataW Unit := .agg (wTabs.map fun r => .agg (r.map fun s => .lit (.string s)))
theorem jha : (Rows.laid_postroom_script_words : DataW Unit) = jlf := by kernel_rfl
theorem words_of (W : World) (h : laidMetH Tryz.prog [("postroom/script.words", Rows.laid_postroom_script_words)] W) : WordsAt W := by
  have h1 : laidMet Tryz.prog [("postroom/script.words", Rows.laid_postroom_script_words)] W := h; rw [jha] at h1; obtain ⟨ps, ⟨g', t', cs, fuel, p, q, hg', ht', hvar, hd, _, _⟩, _⟩ := h1; have hg : Tryz.prog.globalNamed "postroom/script.words" = some 3 := by kernel_rfl
  have hty : (Tryz.prog.globals[3]?).map (·.type) = some 284 := by kernel_rfl
  obtain rfl := Option.some.inj (hg.symm.trans hg'); obtain rfl := Option.some.inj (hty.symm.trans ht'); have c11 : Tryz.prog.cellsOf 246 = 11 := by kernel_rfl
  have c1 : Tryz.prog.cellsOf 9 = 1 := by kernel_rfl
  obtain ⟨xs, m, _, ex, _, hxl, hx⟩ := DataW.trod_array Tryz.underlying284 hd; have exs : xs.map (·.1) = wTabs.map fun r => (.agg (r.map fun s => .lit (.string s)) : DataW Unit) := by
    have := congrArg Prod.fst ex
    simpa [jlf] using this.symm
  intro k n hk hn; have hx' := hx k hk; rw [c11] at hx'; obtain ⟨y, hy⟩ : ∃ y, xs[k]? = some y := ⟨_, List.getElem?_eq_getElem (by omega)⟩; rw [hy] at hx'; have hwk : wTabs[k]? = some (wTabs.getD k []) := by
    match k, hk with
    | 0, _ | 1, _ | 2, _ | 3, _ => rfl
  have ey : y.1 = .agg ((wTabs.getD k []).map fun s => .lit (.string s)) := by
    have := congrArg (·[k]?) exs; simp only [List.getElem?_map, hy, hwk, Option.map_some, Option.some.injEq] at this; exact this
  obtain ⟨ys, m', _, ez, _, hyl, hz⟩ := DataW.trod_array Tryz.underlying246 hx'; have eys : ys.map (·.1) = (wTabs.getD k []).map fun s => (.lit (.string s) : DataW Unit) := by
    have := congrArg Prod.fst ez; rw [ey] at this
    simpa using this.symm
  have hz' := hz n hn; rw [c1] at hz'; obtain ⟨u, hu⟩ : ∃ u, ys[n]? = some u := ⟨_, List.getElem?_eq_getElem (by omega)⟩; rw [hu] at hz'; obtain ⟨s, e1, e2, _⟩ := DataW.trod_string Tryz.underlying9 hz'; have hwn : (wTabs.getD k [])[n]? = some (jM k n) := by
    have hlen := ji6 k hk; rw [List.getElem?_eq_getElem (by omega), jle k n (by omega)]
  have e3 : u.1 = .lit (.string (jM k n)) := by
    have := congrArg (·[n]?) eys; simp only [List.getElem?_map, hu, hwn, Option.map_some, Option.some.injEq] at this; exact this
  have e4 : s.data.toList = jM k n := by
    rw [e2] at e3
    simpa using e3
  have e5 : cs[k * 11 + n]? = some (.string s) := by
    have := congrArg (·[0]?) e1; simp only [List.getElem?_take, List.getElem?_drop] at this
    simpa [hn, Nat.add_assoc] using this
  rw [World.var?_cell hg hvar (k * 11 + n)]; rw [← e4, jdY]
  simpa using e5
end Go.Proofs.YtlfgemnmfhknfaaGreatDoor
namespace Go.Proofs.YtlfgemnmfhknfaaGreatDoor
open Go.ChangeShapes Go.WideShapes Go.ChangeAt Go.RowKit
def flagCells : Array Value := (flagTab.flatMap fun x => [Value.string (S x.1), .int .i64 (x.2 : Nat)]).toArray
def jlo : DataW Unit := .agg (flagTab.map fun x => .agg [.lit (.string x.1), .lit (.int .i64 (x.2 : Nat))])
theorem jgU : (Rows.laid_postroom_rule_flagNames : DataW Unit) = jlo := by kernel_rfl
theorem flags_of (W : World) (h : laidMetH Tryz.prog [("postroom/rule.flagNames", Rows.laid_postroom_rule_flagNames)] W) : FlagsAt W := by
  have h1 : laidMet Tryz.prog [("postroom/rule.flagNames", Rows.laid_postroom_rule_flagNames)] W := h; rw [jgU] at h1; obtain ⟨ps, ⟨g', t', cs, fuel, p, q, hg', ht', hvar, hd, _, _⟩, _⟩ := h1; have hg : Tryz.prog.globalNamed "postroom/rule.flagNames" = some 4 := by kernel_rfl
  have hty : (Tryz.prog.globals[4]?).map (·.type) = some 313 := by kernel_rfl
  obtain rfl := Option.some.inj (hg.symm.trans hg'); obtain rfl := Option.some.inj (hty.symm.trans ht'); have c2 : Tryz.prog.cellsOf 312 = 2 := by kernel_rfl
  have c1 : Tryz.prog.cellsOf 9 = 1 := by kernel_rfl
  have ci : Tryz.prog.cellsOf 3 = 1 := by kernel_rfl
  obtain ⟨xs, m, _, ex, _, hxl, hx⟩ := DataW.trod_array Tryz.underlying313 hd; have exs : xs.map (·.1) = flagTab.map fun x => (.agg [.lit (.string x.1), .lit (.int .i64 (x.2 : Nat))] : DataW Unit) := by
    have := congrArg Prod.fst ex
    simpa [jlo] using this.symm
  intro i hi; have hx' := hx i hi; rw [c2] at hx'; obtain ⟨y, hy⟩ : ∃ y, xs[i]? = some y := ⟨_, List.getElem?_eq_getElem (by omega)⟩; rw [hy] at hx'; have hft : flagTab[i]? = some (jbb i, ja6 i) := by
    match i, hi with
    | 0, _ | 1, _ | 2, _ | 3, _ | 4, _ => rfl
  have ey : y.1 = .agg [.lit (.string (jbb i)), .lit (.int .i64 (ja6 i : Nat))] := by
    have := congrArg (·[i]?) exs; simp only [List.getElem?_map, hy, hft, Option.map_some, Option.some.injEq] at this; exact this
  obtain ⟨zs, m', _, ez, _, hzl, hz⟩ := DataW.trod_struct Tryz.underlying312 hx'; have ezs : zs.map (·.1) = [(.lit (.string (jbb i)) : DataW Unit), .lit (.int .i64 (ja6 i : Nat))] := by
    have := congrArg Prod.fst ez; rw [ey] at this
    simpa using this.symm
  obtain ⟨z0, z1, rfl⟩ : ∃ z0 z1, zs = [z0, z1] := by
    match zs, hzl with
    | [z0, z1], _ => exact ⟨z0, z1, rfl⟩
  have e0 : z0.1 = .lit (.string (jbb i)) := (List.cons.inj ezs).1; have e1 : z1.1 = .lit (.int .i64 (ja6 i : Nat)) := (List.cons.inj (List.cons.inj ezs).2).1; have h0 := (hz 0 _ rfl).trans (show [z0, z1][0]? = some z0 from rfl); have h1' := (hz 1 _ rfl).trans (show [z0, z1][1]? = some z1 from rfl); obtain ⟨s, q0, q1, _⟩ := DataW.trod_string Tryz.underlying9 h0; obtain ⟨v, r0, r1, _⟩ := DataW.trod_int Tryz.underlying3 h1'; have q0 : List.take (Tryz.prog.cellsOf 9) (List.drop 0 (List.take 2 (List.drop (i * 2) cs.toList))) = [.string s] := q0; have r0 : List.take (Tryz.prog.cellsOf 3) (List.drop 1 (List.take 2 (List.drop (i * 2) cs.toList))) = [.int .i64 v] := r0; rw [c1] at q0; rw [ci] at r0; have es : s.data.toList = jbb i := by
    rw [q1] at e0
    simpa using e0
  have ev : v = (ja6 i : Nat) := by
    rw [r1] at e1
    simpa using e1
  have f0 : cs[i * 2]? = some (.string s) := by
    have := congrArg (·[0]?) q0; simp only [List.getElem?_take, List.getElem?_drop] at this
    simpa using this
  have f1 : cs[i * 2 + 1]? = some (.int .i64 v) := by
    have := congrArg (·[0]?) r0; simp only [List.getElem?_take, List.getElem?_drop] at this
    simpa using this
  refine ⟨?_, ?_⟩
  · rw [World.var?_cell hg hvar (i * 2), ← es, jdY]
    simpa using f0
  · rw [World.var?_cell hg hvar (i * 2 + 1), ← ev]
    simpa using f1
end Go.Proofs.YtlfgemnmfhknfaaGreatDoor
namespace Go.Proofs.YtlfgemnmfhknfaaGreatDoor
open Go.ChangeShapes Go.WideShapes Go.ChangeAt Go.RowKit
def litC : DataW Unit → List Value
  | .lit (.int k n) => [.int k n]
  | .lit (.string s) => [.string (S s)]
  | _ => []
def jnc : DataW Unit → List Value
  | .agg l => l.flatMap litC
  | d => litC d
def cellsD : DataW Unit → Array Value
  | .agg l => (l.flatMap jnc).toArray
  | _ => #[]
theorem jbB {W : World} {nm : String} {g n : Nat} {t : TypeId} {l : List (List UInt8)} (hg : Tryz.prog.globalNamed nm = some g) (hty : (Tryz.prog.globals[g]?).map (·.type) = some t) (hu : Tryz.prog.underlying t = some (.array n 9)) (hn : l.length = n)
    (h : laidMet Tryz.prog [(nm, (.agg (l.map fun s => .lit (.string s)) : DataW Unit))] W) : TabAt W g l := by
  obtain ⟨ps, ⟨g', t', cs, fuel, p, q, hg', ht', hvar, hd, _, _⟩, _⟩ := h; obtain rfl := Option.some.inj (hg.symm.trans hg'); obtain rfl := Option.some.inj (hty.symm.trans ht'); have c1 : Tryz.prog.cellsOf 9 = 1 := by kernel_rfl
  obtain ⟨xs, m, _, ex, _, hxl, hx⟩ := DataW.trod_array hu hd; have exs : xs.map (·.1) = l.map fun s => (.lit (.string s) : DataW Unit) := by
    have := congrArg Prod.fst ex
    simpa using this.symm
  intro i s hs; have hi : i < l.length := (List.getElem?_eq_some_iff.1 hs).1; have hx' := hx i (by omega); rw [c1] at hx'; obtain ⟨y, hy⟩ : ∃ y, xs[i]? = some y := ⟨_, List.getElem?_eq_getElem (by omega)⟩; rw [hy] at hx'; obtain ⟨b, e1, e2, _⟩ := DataW.trod_string Tryz.underlying9 hx'; have e3 : y.1 = .lit (.string s) := by
    have := congrArg (·[i]?) exs; simp only [List.getElem?_map, hy, hs, Option.map_some, Option.some.injEq] at this; exact this
  have e4 : b.data.toList = s := by
    rw [e2] at e3
    simpa using e3
  have e5 : cs[i]? = some (.string b) := by
    have := congrArg (·[0]?) e1; simp only [List.getElem?_take, List.getElem?_drop] at this
    simpa using this
  rw [World.var?_cell hg hvar i, ← e4, jdY]
  simpa using e5
def one (nm : String) (L : List (String × DataW Unit)) : List (String × DataW Unit) := L.filter fun x => x.1 == nm
def TabsM (w : World) : Prop := Tabs w ∧ maxLenCell w
theorem TabsM.next {w w' : World} (h : TabsM w) (hb : Below w.heap.size w w') : TabsM w' := ⟨h.1.next hb, maxLenCell_below h.2 hb⟩
theorem tabs_of (W : World) (L : List (String × DataW Unit)) (hsh : W.ShapedOpen Tryz.prog) (hL : laidMet Tryz.prog L W)
    (h1 : one "postroom/script.words" L = [("postroom/script.words", Rows.laid_postroom_script_words)]) (h2 : one "postroom/rule.flagNames" L = [("postroom/rule.flagNames", Rows.laid_postroom_rule_flagNames)])
    (h3 : one "postroom/rule.requirable" L = [("postroom/rule.requirable", .agg (extT.map fun s => .lit (.string s)))])
    (h4 : one "postroom/rule.envelopeParts" L = [("postroom/rule.envelopeParts", .agg (partT.map fun s => .lit (.string s)))])
    (h5 : one "postroom/rule.neededFor" L = [("postroom/rule.neededFor", .agg (needT.map fun s => .lit (.string s)))]) : TabsM W := by
  have f : ∀ nm, laidMet Tryz.prog (one nm L) W := fun nm => laidMet.filter (fun x => x.1 == nm) hL
  refine ⟨⟨words_of W ?_, ?_, ?_, ?_, flags_of W ?_⟩, maxLenCell_shaped W hsh⟩
  · have := f "postroom/script.words"; rw [h1] at this; exact this
  · have := f "postroom/rule.requirable"; rw [h3] at this; exact jbB (n := 4) (by kernel_rfl) (by kernel_rfl) Tryz.underlying245 rfl this
  · have := f "postroom/rule.envelopeParts"; rw [h4] at this; exact jbB (n := 2) (by kernel_rfl) (by kernel_rfl) Tryz.underlying350 rfl this
  · have := f "postroom/rule.neededFor"; rw [h5] at this; exact jbB (n := 11) (by kernel_rfl) (by kernel_rfl) Tryz.underlying246 rfl this
  · have := f "postroom/rule.flagNames"; rw [h2] at this; exact this
end Go.Proofs.YtlfgemnmfhknfaaGreatDoor
namespace Go.Proofs.YtlfgemnmfhknfaaGreatDoor
open Go.RowKit Go.Proofs
def jhx : Nat → Tst → Prop
  | 0, _ => False
  | n + 1, t => ∀ x ∈ t.tests, jhx n x
def jbF : Nat → Cmd → Prop
  | 0, _ => False
  | n + 1, c => jhx n c.test ∧ (∀ x ∈ c.thn, jbF n x) ∧ ∀ x ∈ c.els, jbF n x
theorem RowM.impM {A : Type} {Q : Nat → Prop} {k : Nat} {P P' : A → List Value → Prop} {w : World} {v : Value} {l : List A} (h : RowM Q k P w v l) (hp : ∀ x ∈ l, ∀ cs, P x cs → P' x cs) : RowM Q k P' w v l := by
  obtain ⟨a, c, hv, hm, hx⟩ := h; refine ⟨a, c, hv, hm, fun i x hi => ?_⟩; obtain ⟨b, o, cs, ha, hb, hQ, hl, hc, hP⟩ := hx i x hi; exact ⟨b, o, cs, ha, hb, hQ, hl, hc, hp x (List.mem_of_getElem? hi) cs hP⟩
theorem TstM.less {Q : Nat → Prop} {w : World} : ∀ (n m : Nat) (t : Tst) (cs : List Value), jhx n t → TstM Q m w t cs → TstM Q n w t cs := by
  intro n
  induction n with
  | zero => intro m t cs h; exact h.elim
  | succ n ih =>
    intro m t cs hd h; cases m with
    | zero => exact h.elim
    | succ m =>
      obtain ⟨vn, vk, vt, h0, h1, h2, h3⟩ := h; exact ⟨vn, vk, vt, h0, h1, h2, RowM.impM h3 fun x hx cs hc => ih m x cs (hd x hx) hc⟩
theorem CmdM.less {Q : Nat → Prop} {w : World} : ∀ (n m : Nat) (t : Cmd) (cs : List Value), jbF n t → CmdM Q m w t cs → CmdM Q n w t cs := by
  intro n
  induction n with
  | zero => intro m t cs h; exact h.elim
  | succ n ih =>
    intro m t cs hd h; cases m with
    | zero => exact h.elim
    | succ m =>
      obtain ⟨vx, vn, vk, vt, va, ve, h0, h1, h2, h3, h4⟩ := h; exact ⟨vx, vn, vk, vt, va, ve, h0, h1, TstM.less n m _ _ hd.1 h2, RowM.impM h3 fun x hx cs hc => ih m x cs (hd.2.1 x hx) hc, RowM.impM h4 fun x hx cs hc => ih m x cs (hd.2.2 x hx) hc⟩
theorem CmdsM.less {Q : Nat → Prop} {n m : Nat} {w : World} {v : Value} {l : List Cmd} (hd : ∀ x ∈ l, jbF n x) (h : CmdsM Q m w v l) : CmdsM Q n w v l := RowM.impM h fun x hx cs hc => CmdM.less n m x cs (hd x hx) hc
end Go.Proofs.YtlfgemnmfhknfaaGreatDoor
namespace Go.Proofs.YtlfgemnmfhknfaaGreatDoor
open Go.RowKit Go.Proofs
def rdM (n : Nat) (s : List UInt8) : List Cmd × Int :=
  if (cutM s).2.2 ≠ 0 then ([], (cutM s).2.2)
  else if (j6 (cutM s).1).2.2 ≠ 0 then ([], (j6 (cutM s).1).2.2)
  else if jaW n (j6 (cutM s).1).1 ≠ 0 then ([], jaW n (j6 (cutM s).1).1)
  else ((j6 (cutM s).1).1, 0)
def RdP (w : World) (n : Nat) (r : List Cmd × Int) (e : Ending) (w' : World) : Prop :=
  ∃ a c, e = .returned (.tuple #[.slice a r.1.length c, .int .i64 r.2]) ∧ CmdsM (newB w.heap.size) n w' (.slice a r.1.length c) r.1 ∧ Below w.heap.size w w' ∧ jbG a r.1.length c
theorem jim {w w' : World} {n : Nat} {r : List Cmd × Int} {x : Int} (h : r = ([], x)) (hb : Below w.heap.size w w') : RdP w n r (.returned (.tuple #[.slice none 0 0, .int .i64 x])) w' := by
  subst h; exact ⟨none, 0, rfl, jh _ _ _ _ _ _, hb, jaS⟩
set_option maxHeartbeats 4000000 in
set_option maxRecDepth 100000 in
theorem jay (n : Nat) (s : List UInt8) (w : World) (hm : TabsM w) (ht : ∀ t ∈ (cutM s).1, t.kind = 1 ∨ t.kind = 2 → t.text.length ≤ maxLen) (hl : (cutM s).1.length ≤ 400)
    (hs : (j6 (cutM s).1).2.2 = 0 → ∀ x ∈ (j6 (cutM s).1).1, vj (n + 1) x ∧ jbF (n + 1) x) :
    Calls Tryz.prog 40 #[.string (S s)] w (RdP w (n + 1) (rdM (n + 1) s)) := by
  have HM := hid hm; obtain ⟨C, hC⟩ : ∃ C, C = cutM s := ⟨_, rfl⟩; have HRD := hid (show rdM (n + 1) s = if C.2.2 ≠ 0 then ([], C.2.2) else if (j6 C.1).2.2 ≠ 0 then ([], (j6 C.1).2.2) else if jaW (n + 1) (j6 C.1).1 ≠ 0 then ([], jaW (n + 1) (j6 C.1).1) else ((j6 C.1).1, 0) by rw [hC]; rfl); rw [← hC] at ht hl hs; obtain ⟨ts, p, x⟩ := C; simp only at ht hl hs HRD; obtain ⟨P, hP⟩ : ∃ P, P = j6 ts := ⟨_, rfl⟩; rw [← hP] at hs HRD; obtain ⟨cs, q, y⟩ := P; simp only at hs HRD; have HC := hid hC; have HP := hid hP; have HT := hid ht; have HS := hid hs; clear hm ht hs hC hP; go_enter Tryz.func40, Tryz.ntmps40; go_wp2_with fail; refine (jjQ s w HM.out.2).mono ?_; rw [← HC.out]; rintro e w1 ⟨a1, c1, rfl, hT1, hb1⟩; simp only at hT1 ⊢; have HT1 := hid hT1; have HB1 := hid hb1; clear hT1 hb1
  by_cases hx : x = 0
  · subst hx; go_wp2_with fail; refine (jhr a1 c1 ts w1 HT1.out (by unfold maxLen; omega) HT.out (HM.out.next HB1.out).1.1).mono ?_; rw [← HP.out]; rintro e w2 ⟨a2, c2, rfl, hC2, hb2, hr2⟩; simp only at hC2 hr2 ⊢; have HC2 := hid hC2; have HB2 := hid (HB1.out.trans (hb2.mono HB1.out.size)); have HN2 := hid (show CmdsM (newB w.heap.size) (ts.length + 3) w2 (.slice a2 cs.length c2) cs from RowM.imp hC2 (fun k hk => Nat.le_trans HB1.out.size hk) (Keeps.refl _ _) fun _ _ h => CmdM.imp (fun k hk => Nat.le_trans HB1.out.size hk) (Keeps.refl _ _) _ _ _ h); have HR2 := hid hr2; clear hC2 hb2 hr2
    by_cases hy : y = 0
    · have HS0 := hid (HS.out hy); clear HS; subst hy; obtain ⟨z, hz⟩ : ∃ z, z = jaW (n + 1) cs := ⟨_, rfl⟩; rw [← hz] at HRD; have HZ := hid hz; clear hz; go_wp2_with fail; refine (jgj n cs a2 c2 w2 (HM.out.next HB2.out).1 HR2.out.1 (fun h => HR2.out.2 (by rw [h]; rfl)) (fun x hx => (HS0.out x hx).1) (CmdsM.less (fun x hx => (HS0.out x hx).2) HC2.out.any)).mono ?_; rw [← HZ.out]; rintro e w3 ⟨rfl, hb3⟩; have HB3 := hid (HB2.out.trans (hb3.mono HB2.out.size)); have HN3 := hid (CmdsM.less (fun x hx => (HS0.out x hx).2) (CmdsM.next HN2.out hb3)); clear hb3
      by_cases hz : z = 0
      · have HE := hid (show RdP w (n + 1) (rdM (n + 1) s) (.returned (.tuple #[.slice a2 cs.length c2, .int .i64 0])) w3 by
          rw [HRD.out, if_neg (by simp), if_neg (by simp), if_neg (by simpa using hz)]; exact ⟨a2, c2, rfl, HN3.out, HB3.out, HR2.out⟩)
        subst hz; go_wp2; go_ret2; exact HE.out
      · have HE := hid (show RdP w (n + 1) (rdM (n + 1) s) (.returned (.tuple #[.slice none 0 0, .int .i64 z])) w3 from jim (by rw [HRD.out, if_neg (by simp), if_neg (by simp), if_pos hz]) HB3.out); go_wp2; go_ret2; exact HE.out
    · have HE := hid (show RdP w (n + 1) (rdM (n + 1) s) (.returned (.tuple #[.slice none 0 0, .int .i64 y])) w2 from jim (by rw [HRD.out, if_neg (by simp), if_pos hy]) HB2.out); go_wp2; go_ret2; exact HE.out
  · have HE := hid (show RdP w (n + 1) (rdM (n + 1) s) (.returned (.tuple #[.slice none 0 0, .int .i64 x])) w1 from jim (by rw [HRD.out, if_pos hx]) HB1.out); go_wp2; go_ret2; exact HE.out
end Go.Proofs.YtlfgemnmfhknfaaGreatDoor
namespace Go.Proofs.YtlfgemnmfhknfaaGreatDoor
open Go.RowKit Go.Proofs
def tokB : List Tok := [⟨1, [114, 101, 113, 117, 105, 114, 101], 0⟩, ⟨5, [91], 0⟩, ⟨4, [102, 105, 108, 101, 105, 110, 116, 111], 0⟩, ⟨5, [44], 0⟩, ⟨4, [105, 109, 97, 112, 52, 102, 108, 97, 103, 115], 0⟩, ⟨5, [93], 0⟩, ⟨5, [59], 0⟩, ⟨1, [105, 102], 0⟩, ⟨1, [104, 101, 97, 100, 101, 114], 0⟩, ⟨2, [99, 111, 110, 116, 97, 105, 110, 115], 0⟩, ⟨4, [115, 117, 98, 106, 101, 99, 116], 0⟩, ⟨4, [119, 111, 114, 107], 0⟩, ⟨5, [123], 0⟩, ⟨1, [115, 101, 116, 102, 108, 97, 103], 0⟩, ⟨4, [92, 83, 101, 101, 110], 0⟩, ⟨5, [59], 0⟩, ⟨1, [102, 105, 108, 101, 105, 110, 116, 111], 0⟩, ⟨4, [119, 111, 114, 107], 0⟩, ⟨5, [59], 0⟩, ⟨5, [125], 0⟩, ⟨1, [101, 108, 115, 105, 102], 0⟩, ⟨1, [115, 105, 122, 101], 0⟩, ⟨2, [111, 118, 101, 114], 0⟩, ⟨3, [], 300⟩, ⟨5, [123], 0⟩, ⟨1, [100, 105, 115, 99, 97, 114, 100], 0⟩, ⟨5, [59], 0⟩, ⟨5, [125], 0⟩]
def tokC : List Tok := [⟨1, [114, 101, 113, 117, 105, 114, 101], 0⟩, ⟨5, [91], 0⟩, ⟨4, [114, 101, 106, 101, 99, 116], 0⟩, ⟨5, [44], 0⟩, ⟨4, [101, 110, 118, 101, 108, 111, 112, 101], 0⟩, ⟨5, [93], 0⟩, ⟨5, [59], 0⟩, ⟨1, [105, 102], 0⟩, ⟨1, [101, 110, 118, 101, 108, 111, 112, 101], 0⟩, ⟨2, [108, 111, 99, 97, 108, 112, 97, 114, 116], 0⟩, ⟨4, [102, 114, 111, 109], 0⟩, ⟨4, [115, 112, 97, 109], 0⟩, ⟨5, [123], 0⟩, ⟨1, [114, 101, 106, 101, 99, 116], 0⟩, ⟨4, [110, 111], 0⟩, ⟨5, [59], 0⟩, ⟨5, [125], 0⟩, ⟨1, [101, 108, 115, 105, 102], 0⟩, ⟨1, [101, 120, 105, 115, 116, 115], 0⟩, ⟨4, [108, 105, 115, 116], 0⟩, ⟨5, [123], 0⟩, ⟨1, [114, 101, 100, 105, 114, 101, 99, 116], 0⟩, ⟨4, [97, 110, 110, 64, 120, 46, 121], 0⟩, ⟨5, [59], 0⟩, ⟨1, [107, 101, 101, 112], 0⟩, ⟨5, [59], 0⟩, ⟨5, [125], 0⟩]
def cmdB : List Cmd := [⟨1, [[102, 105, 108, 101, 105, 110, 116, 111], [105, 109, 97, 112, 52, 102, 108, 97, 103, 115]], jE, [], []⟩, ⟨2, [], ⟨6, 2, 0, [[115, 117, 98, 106, 101, 99, 116]], [[119, 111, 114, 107]], false, 0, []⟩, [⟨8, [[92, 83, 101, 101, 110]], jE, [], []⟩, ⟨5, [[119, 111, 114, 107]], jE, [], []⟩], [⟨2, [], ⟨10, 0, 0, [], [], true, 300, []⟩, [⟨4, [], jE, [], []⟩], []⟩]⟩]
def cmdC : List Cmd := [⟨1, [[114, 101, 106, 101, 99, 116], [101, 110, 118, 101, 108, 111, 112, 101]], jE, [], []⟩, ⟨2, [], ⟨8, 1, 2, [[102, 114, 111, 109]], [[115, 112, 97, 109]], false, 0, []⟩, [⟨7, [[110, 111]], jE, [], []⟩], [⟨2, [], ⟨9, 0, 0, [[108, 105, 115, 116]], [], false, 0, []⟩, [⟨6, [[97, 110, 110, 64, 120, 46, 121]], jE, [], []⟩, ⟨3, [], jE, [], []⟩], []⟩]⟩]
def scrF : List UInt8 := [102, 105, 108, 101, 105, 110, 116, 111, 32, 34, 97, 34, 59]
def scrK : List UInt8 := [107, 101, 101, 112]
def tokF : List Tok := [⟨1, [102, 105, 108, 101, 105, 110, 116, 111], 0⟩, ⟨4, [97], 0⟩, ⟨5, [59], 0⟩]
def cmdF : List Cmd := [⟨5, [[97]], jE, [], []⟩]
set_option maxRecDepth 100000 in
theorem jk1 : cutM scrB = (tokB, 0, 0) := by kernel_rfl
set_option maxRecDepth 100000 in
theorem jj2 : cutM scrC = (tokC, 0, 0) := by kernel_rfl
theorem jj4 : cutM scrF = (tokF, 0, 0) := by kernel_rfl
theorem jjD : cutM scrK = ([⟨1, [107, 101, 101, 112], 0⟩], 0, 0) := by kernel_rfl
theorem jkX : cutM [] = ([], 0, 0) := by kernel_rfl
theorem jiR : j6 tokB = (cmdB, 0, 0) := by kernel_rfl
theorem jhQ : j6 tokC = (cmdC, 0, 0) := by kernel_rfl
theorem jiI : j6 tokF = (cmdF, 0, 0) := by kernel_rfl
theorem jji : j6 [⟨1, [107, 101, 101, 112], 0⟩] = ([], 1, 4) := by kernel_rfl
theorem jlE : j6 [] = ([], 0, 0) := by kernel_rfl
theorem jmT : jaW 5 cmdB = 0 := by kernel_rfl
theorem jmw : jaW 5 cmdC = 0 := by kernel_rfl
theorem jm1 : jaW 5 cmdF = 8 := by kernel_rfl
theorem jmC : jaW 5 [] = 0 := by kernel_rfl
theorem jlb : (∀ t ∈ tokB, t.kind = 1 ∨ t.kind = 2 → t.text.length ≤ maxLen) ∧ ∀ x ∈ cmdB, vj 5 x ∧ jbF 5 x := by
  refine ⟨fun t ht _ => ?_, ?_⟩
  · have h : ∀ t ∈ tokB, t.text.length ≤ 20 := by decide
    have := h t ht; unfold maxLen; omega
  · simp [cmdB, vj, jbF, jhx, jE, maxLen]
theorem jla : (∀ t ∈ tokC, t.kind = 1 ∨ t.kind = 2 → t.text.length ≤ maxLen) ∧ ∀ x ∈ cmdC, vj 5 x ∧ jbF 5 x := by
  refine ⟨fun t ht _ => ?_, ?_⟩
  · have h : ∀ t ∈ tokC, t.text.length ≤ 20 := by decide
    have := h t ht; unfold maxLen; omega
  · simp [cmdC, vj, jbF, jhx, jE, maxLen]
theorem jli : (∀ t ∈ tokF, t.kind = 1 ∨ t.kind = 2 → t.text.length ≤ maxLen) ∧ ∀ x ∈ cmdF, vj 5 x ∧ jbF 5 x := by
  refine ⟨fun t ht _ => ?_, ?_⟩
  · have h : ∀ t ∈ tokF, t.text.length ≤ 20 := by decide
    have := h t ht; unfold maxLen; omega
  · simp [cmdF, vj, jbF, jhx, jE, maxLen]
theorem jms (w : World) (hm : TabsM w) : Calls Tryz.prog 40 #[.string (S scrB)] w (RdP w 5 (cmdB, 0)) := by
  have h := jay 4 scrB w hm (by rw [jk1]; exact jlb.1) (by rw [jk1]; decide) (by rw [jk1]; simp only; rw [jiR]; exact fun _ => jlb.2); rw [show rdM (4 + 1) scrB = (cmdB, 0) by unfold rdM; rw [jk1]; simp only; rw [jiR]; simp only; rw [jmT]; simp] at h; exact h
theorem jmP (w : World) (hm : TabsM w) : Calls Tryz.prog 40 #[.string (S scrC)] w (RdP w 5 (cmdC, 0)) := by
  have h := jay 4 scrC w hm (by rw [jj2]; exact jla.1) (by rw [jj2]; decide) (by rw [jj2]; simp only; rw [jhQ]; exact fun _ => jla.2); rw [show rdM (4 + 1) scrC = (cmdC, 0) by unfold rdM; rw [jj2]; simp only; rw [jhQ]; simp only; rw [jmw]; simp] at h; exact h
theorem jni (w : World) (hm : TabsM w) : Calls Tryz.prog 40 #[.string (S scrF)] w (RdP w 5 ([], 8)) := by
  have h := jay 4 scrF w hm (by rw [jj4]; exact jli.1) (by rw [jj4]; decide) (by rw [jj4]; simp only; rw [jiI]; exact fun _ => jli.2); rw [show rdM (4 + 1) scrF = ([], 8) by unfold rdM; rw [jj4]; simp only; rw [jiI]; simp only; rw [jm1]; simp] at h; exact h
theorem jnj (w : World) (hm : TabsM w) : Calls Tryz.prog 40 #[.string (S scrK)] w (RdP w 5 ([], 4)) := by
  have h := jay 4 scrK w hm (by rw [jjD]; intro t ht _; simp at ht; subst ht; simp [maxLen]) (by rw [jjD]; decide) (by rw [jjD]; simp only; rw [jji]; exact fun e => by simp at e); rw [show rdM (4 + 1) scrK = ([], 4) by unfold rdM; rw [jjD]; simp only; rw [jji]; simp] at h; exact h
theorem jmu (w : World) (hm : TabsM w) : Calls Tryz.prog 40 #[.string (S [])] w (RdP w 5 ([], 0)) := by
  have h := jay 4 [] w hm (by rw [jkX]; exact fun t ht => by cases ht) (by rw [jkX]; decide) (by rw [jkX]; exact fun _ x hx => by cases hx); rw [show rdM (4 + 1) [] = ([], 0) by unfold rdM; rw [jkX]; simp only; rw [jlE]; simp only; rw [jmC]; simp] at h; exact h
end Go.Proofs.YtlfgemnmfhknfaaGreatDoor
namespace Go.Proofs.YtlfgemnmfhknfaaGreatDoor
open Go.ChangeShapes Go.WideShapes Go.ChangeAt Go.RowKit
end Go.Proofs.YtlfgemnmfhknfaaGreatDoor
namespace Go.Proofs.YtlfgemnmfhknfaaGreatDoor
open Go.RowKit
def jct (n : Int) (m : Nat) : Nat := ((if n < 0 then -(n + 1) else n) % (m : Int)).toNat
theorem jf7 (n : Int) (m : Nat) (hm : 0 < m) : jct n m < m := by
  unfold jct; have h1 := Int.emod_nonneg (if n < 0 then -(n + 1) else n) (b := (m : Int)) (by omega); have h2 := Int.emod_lt_of_pos (if n < 0 then -(n + 1) else n) (b := (m : Int)) (by omega); omega
set_option maxHeartbeats 1000000 in
theorem jgV (n : Int) (m : Nat) (w : World) (hn : (Lit.int .i64 n).wf = true) (hm : 0 < m) (hm2 : m ≤ 9223372036854775807) :
    Calls Tryz.prog 11 #[.int .i64 n, .int .i64 m] w fun e w' => e = .returned (.int .i64 (jct n m)) ∧ w' = w := by
  have hb := bounds_i64 hn; obtain ⟨hb1, hb2⟩ := hb; clear hn; have HP : Hid ((jct n m : Int) = (if n < 0 then -(n + 1) else n) % (m : Int)) := by
    unfold Hid jct; have h1 := Int.emod_nonneg (if n < 0 then -(n + 1) else n) (b := (m : Int)) (by omega); omega
  have hmz : ((m : Int) == 0) = false := by simp; omega
  by_cases h : n < 0
  · have HQ : Hid ((jct n m : Int) = (-(n + 1)) % (m : Int)) := by unfold Hid; rw [HP.out, if_pos h]
    clear HP; go_enter Tryz.func11, Tryz.ntmps11; go_wp2; go_ret; exact ⟨jd (by rw [HQ.out, ← Int.neg_tmod]; exact Int.tmod_eq_emod_of_nonneg (by omega)), rfl⟩
  · have HQ : Hid ((jct n m : Int) = n % (m : Int)) := by unfold Hid; rw [HP.out, if_neg h]
    clear HP; go_enter Tryz.func11, Tryz.ntmps11; go_wp2; go_ret; exact ⟨jd (by rw [HQ.out]), rfl⟩
end Go.Proofs.YtlfgemnmfhknfaaGreatDoor
namespace Go.Proofs.YtlfgemnmfhknfaaGreatDoor
open Go.RowKit
end Go.Proofs.YtlfgemnmfhknfaaGreatDoor
namespace Go.Proofs.YtlfgemnmfhknfaaGreatDoor
open Go.RowKit
def FieldsAt (w : World) (a : Option Addr) (fs : List F) : Prop :=
  ∀ (i : Nat) f, fs[i]? = some f → ∃ b off, a = some ⟨b, off, none⟩ ∧ b < w.heap.size ∧ w.cell? ⟨b, off + i * 2, none⟩ = some (.string (S f.1)) ∧ w.cell? ⟨b, off + i * 2 + 1, none⟩ = some (.string (S f.2))
theorem FieldsAt.below {w w' : World} {a : Option Addr} {fs : List F} (h : FieldsAt w a fs) (hb : Below w.heap.size w w') : FieldsAt w' a fs := by
  intro i f hf; obtain ⟨b, off, ha, hlt, h1, h2⟩ := h i f hf; exact ⟨b, off, ha, Nat.lt_of_lt_of_le hlt hb.size, (hb.cell (p := ⟨b, off + i * 2, none⟩) hlt).trans h1, (hb.cell (p := ⟨b, off + i * 2 + 1, none⟩) hlt).trans h2⟩
end Go.Proofs.YtlfgemnmfhknfaaGreatDoor
namespace Go.Proofs.YtlfgemnmfhknfaaGreatDoor
open Go.RowKit
def jc6 (fs : List F) : List Value := fs.flatMap fun f => [.string (S f.1), .string (S f.2)]
theorem jhy {fs : List F} {i : Nat} {f : F} (h : fs[i]? = some f) : (jc6 fs)[i * 2]? = some (.string (S f.1)) ∧ (jc6 fs)[i * 2 + 1]? = some (.string (S f.2)) := by
  induction fs generalizing i with
  | nil => simp at h
  | cons g fs ih =>
    cases i with
    | zero => simp at h; subst h; simp [jc6]
    | succ i =>
      have := ih (i := i) (by simpa using h); have e1 : (i + 1) * 2 = i * 2 + 2 := by omega
      rw [e1]
      simpa [jc6] using this
theorem jhz {w : World} {base g cap : Nat} {fs : List F} (h : w.ownsRow base 372 2 (.slice (some ⟨g, 0, none⟩) fs.length cap) fs.length (jc6 fs)) (hg : g < w.heap.size) : FieldsAt w (some ⟨g, 0, none⟩) fs := by
  intro i f hf; have hi : i < fs.length := by
    rcases Nat.lt_or_ge i fs.length with h | h
    · exact h
    · rw [List.getElem?_eq_none h] at hf; cases hf
  obtain ⟨h1, h2⟩ := jhy hf; refine ⟨g, 0, rfl, hg, ?_, ?_⟩
  · rw [Nat.zero_add, h.cellAt _ (by omega)]; exact h1
  · rw [Nat.zero_add, h.cellAt _ (by omega)]; exact h2
theorem jbj {w : World} {p a : Addr} {v : Value} (h : p.block ≠ a.block) : (w.setCell p v).cell? a = w.cell? a :=
  World.cell?_of_block (heap_setCell_other w p a.block v (fun e => h e.symm))
theorem FieldsAt.set {w : World} {g : Nat} {fs : List F} (h : FieldsAt w (some ⟨g, 0, none⟩) fs) {p : Addr} (v : Value) (hp : p.block ≠ g) : FieldsAt (w.setCell p v) (some ⟨g, 0, none⟩) fs := by
  intro i f hf; obtain ⟨b, off, ha, hb, h1, h2⟩ := h i f hf; simp only [Option.some.injEq, Addr.mk.injEq, and_true] at ha; obtain ⟨rfl, rfl⟩ := ha; exact ⟨_, _, rfl, by simpa using hb, (jbj hp).trans h1, (jbj hp).trans h2⟩
theorem jhw (w : World) (a : Option Addr) : FieldsAt w a [] := by intro i f hf; simp at hf
end Go.Proofs.YtlfgemnmfhknfaaGreatDoor
namespace Go.Proofs.YtlfgemnmfhknfaaGreatDoor
open Go.RowKit
def OwnF (w : World) (B : Nat) (v : Value) (fs : List F) : Prop := w.ownsRow B 372 2 v fs.length (jc6 fs)
theorem OwnF.form {w : World} {B : Nat} {v : Value} {fs : List F} (h : OwnF w B v fs) (h0 : fs ≠ []) : ∃ g cap, v = .slice (some ⟨g, 0, none⟩) fs.length cap ∧ B ≤ g ∧ g < w.heap.size :=
  World.ownsRow.form h (List.length_pos_iff.2 h0)
theorem OwnF.any {w : World} {B : Nat} {v : Value} {fs : List F} (h : OwnF w B v fs) : ∃ a cap, v = .slice a fs.length cap := by
  by_cases h0 : fs = []
  · rcases h.2 with ⟨rfl, hn⟩ | ⟨g, cap, cur, rfl, _⟩
    · subst h0; exact ⟨none, 0, rfl⟩
    · exact ⟨_, _, rfl⟩
  · obtain ⟨g, cap, rfl, _⟩ := h.form h0; exact ⟨_, _, rfl⟩
theorem OwnF.fields {w : World} {B : Nat} {a : Option Addr} {c : Nat} {fs : List F} (h : OwnF w B (.slice a fs.length c) fs) : FieldsAt w a fs := by
  by_cases h0 : fs = []
  · subst h0; exact jhw _ _
  · obtain ⟨g, cap, e, hb, hg⟩ := h.form h0; simp only [Value.slice.injEq, true_and] at e; obtain ⟨rfl, rfl⟩ := e; exact jhz h hg
theorem je0 (c : UInt8) : (0 ≤ Lib.indexByte [32, 9] c) ↔ jc2 c = true := by
  unfold jc2 Lib.indexByte Lib.indexByte Lib.indexByte
  by_cases h1 : c = 32
  · subst h1; decide
  · by_cases h2 : c = 9
    · subst h2; decide
    · have e1 : (32 == c) = false := by simpa using fun h => h1 h.symm
      have e2 : (9 == c) = false := by simpa using fun h => h2 h.symm
      simp [e1, e2, h1, h2]
theorem index_none {c : UInt8} (h : jc2 c = false) : Lib.indexByte [32, 9] c = -1 := by
  have h1 : ¬ 0 ≤ Lib.indexByte [32, 9] c := fun h0 => by rw [(je0 c).1 h0] at h; cases h
  unfold jc2 at h; simp only [Bool.or_eq_false_iff, beq_eq_false_iff_ne] at h; have e1 : (32 == c) = false := by simpa using fun e => h.1 e.symm
  have e2 : (9 == c) = false := by simpa using fun e => h.2 e.symm
  simp [Lib.indexByte, e1, e2]
theorem jiF (s : ByteArray) (l a b : List UInt8) (t : Bool) (sep : ByteArray) (hl : sep.data.toList = l) (h : Lib.cut s.data.toList l = (a, b, t)) :
    (⟨(Lib.cut s.data.toList sep.data.toList).1.toArray⟩ : ByteArray) = S a ∧ (⟨(Lib.cut s.data.toList sep.data.toList).2.1.toArray⟩ : ByteArray) = S b ∧ (Lib.cut s.data.toList sep.data.toList).2.2 = t := by
  rw [hl, h]; exact ⟨rfl, rfl, rfl⟩
theorem ji5 (s sep : ByteArray) (l a b : List UInt8) (t : Bool) (hl : sep.data.toList = l) (h : Lib.cut s.data.toList l = (a, b, t)) (w : World) (hs : s.size < 4294967281) (hm : maxLenCell w) :
    Calls Tryz.prog 75 #[.string s, .string sep] w fun e w' => e = .returned (.tuple #[.string (S a), .string (S b), .bool t]) ∧ ∃ n, w' = w.drewN n := by
  have := cutS_any s sep w hs hm; obtain ⟨e1, e2, e3⟩ := jiF s l a b t sep hl h
  rwa [e1, e2, e3] at this
end Go.Proofs.YtlfgemnmfhknfaaGreatDoor
namespace Go.Proofs.YtlfgemnmfhknfaaGreatDoor
open Go.RowKit
theorem jjp {w w' : World} {base : Nat} {e : TypeId} {size : Nat} {v : Value} {n : Nat} {xs : List Value} (h : w.ownsRow base e size v n xs) (hb : Below w.heap.size w w') : w'.ownsRow base e size v n xs := by
  refine ⟨h.1, ?_⟩
  rcases h.2 with h' | ⟨g, cap, cur, h1, h2, hg, r⟩
  · exact .inl h'
  · refine .inr ⟨g, cap, cur, h1, h2, ?_, r⟩; rw [hb.block g (by
      rcases Nat.lt_or_ge g w.heap.size with h' | h'
      · exact h'
      · rw [Array.getElem?_eq_none h'] at hg; cases hg)]
    exact hg
theorem OwnF.below {w w' : World} {B : Nat} {v : Value} {fs : List F} (h : OwnF w B v fs) (hb : Below w.heap.size w w') : OwnF w' B v fs := jjp h hb
theorem OwnF.far {w : World} {B : Nat} {v : Value} {fs : List F} (h : OwnF w B v fs) {p : Addr} (hp : p.block < B) (u : Value) : OwnF (w.setCell p u) B v fs := ownsRow_setCell_below h hp u
theorem OwnF.nil (w : World) (B : Nat) : OwnF w B (.slice none 0 0) [] := World.ownsRow_nil _ _ _ _
end Go.Proofs.YtlfgemnmfhknfaaGreatDoor
namespace Go.Proofs.YtlfgemnmfhknfaaGreatDoor
open Go.RowKit
def FreshA (n : Nat) (a : Option Addr) : Prop := ∀ b o q, a = some ⟨b, o, q⟩ → n ≤ b
theorem FreshA.nil (n : Nat) : FreshA n none := fun _ _ _ h => by cases h
theorem OwnF.fresh {w : World} {B n : Nat} {a : Option Addr} {c k : Nat} {fs : List F} (h : OwnF w B (.slice a k c) fs) (hn : n ≤ B) : FreshA n a := by
  intro b o q e; subst e
  rcases h.2 with ⟨h', _⟩ | ⟨g, cap, cur, h', hb, _⟩
  · simp at h'
  · simp only [Value.slice.injEq, Option.some.injEq, Addr.mk.injEq] at h'; obtain ⟨⟨e, _⟩, _⟩ := h'; omega
end Go.Proofs.YtlfgemnmfhknfaaGreatDoor
namespace Go.Proofs.YtlfgemnmfhknfaaGreatDoor
open Go.RowKit
end Go.Proofs.YtlfgemnmfhknfaaGreatDoor
namespace Go.Proofs.YtlfgemnmfhknfaaGreatDoor
open Go.Proofs
end Go.Proofs.YtlfgemnmfhknfaaGreatDoor
namespace Go.Proofs.YtlfgemnmfhknfaaGreatDoor
open Go.RowKit Go.Proofs
theorem jhs (a b : List UInt8) : S a ++ S b = S (a ++ b) := by
  apply ByteArray.ext
  simp [S]
structure Gea where
  kind : Int
  conn : Int
  user : Int
  a : Int
  b : Int
  text : ByteArray
def geaW (g : Gea) : Prop := (Lit.int .i64 g.kind).wf = true ∧ (Lit.int .i64 g.conn).wf = true ∧ (Lit.int .i64 g.user).wf = true ∧ (Lit.int .i64 g.a).wf = true ∧ (Lit.int .i64 g.b).wf = true ∧ g.text.size ≤ maxLen
theorem jc9 (n : Int) (m : Nat) (w : World) (hn : (Lit.int .i64 n).wf = true) (hm : 0 < m) (hm2 : m ≤ 9223372036854775807) :
    Calls Tryz.prog 6 #[.int .i64 n, .int .i64 m] w fun e w' => e = .returned (.int .i64 (jct n m)) ∧ w' = w := by
  have HP := hid (jgV n m w hn hm hm2); clear hn hm hm2; go_enter Tryz.func6, Tryz.ntmps6; go_wp2_with fail; refine HP.out.mono ?_; rintro e u ⟨rfl, hu⟩; subst hu; go_wp2; go_ret; exact ⟨rfl, rfl⟩
end Go.Proofs.YtlfgemnmfhknfaaGreatDoor
