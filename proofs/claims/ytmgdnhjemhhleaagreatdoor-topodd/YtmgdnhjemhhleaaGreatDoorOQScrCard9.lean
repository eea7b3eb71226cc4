/-
  What the laws of the layer of scripts want besides their walks: what the table of words holds.
-/
import Derived.Test.YtmgdnhjemhhleaaGreatDoorCards
import Derived.Test.YtmgdnhjemhhleaaGreatDoorTie
import Derived.ChangeOld
import Derived.Deep.DeepHandedRow
import Derived.Lib.LaidTab
import Derived.LaidSub
import Derived.Test.YtmgdnhjemhhleaaGreatDoorORulCs
import Derived.Test.YtmgdnhjemhhleaaGreatDoorRows
import Derived.Deep.DeepCutAuto
set_option maxHeartbeats 4000000
set_option maxRecDepth 100000
namespace Go.Proofs.YtmgdnhjemhhleaaGreatDoor
open Go.ChangeShapes Go.WideShapes Go.ChangeAt Go.RowKit
theorem own : ownKnob Tryz.prog.godebug = none := by kernel_rfl
theorem laidOut : laidOutB Tryz.prog = true := by kernel_rfl
def layCells (cs : Array Value) : Obj → Obj
 | .cells _ t frozen => .cells cs t frozen
 | o => o
def wordCells : Array Value := (wTabs.flatMap fun r => r.map fun s => Value.string (S s)).toArray
def jlN : DataW Unit := .agg (wTabs.map fun r => .agg (r.map fun s => .lit (.string s)))
theorem jg6 : (Rows.laid_postroom_script_words : DataW Unit) = jlN := by kernel_rfl
theorem words_of (W : World) (h : laidMetH Tryz.prog [("postroom/script.words", Rows.laid_postroom_script_words)] W) : WordsAt W := by
 have h1 : laidMet Tryz.prog [("postroom/script.words", Rows.laid_postroom_script_words)] W := h; rw [jg6] at h1; obtain ⟨ps, ⟨g', t', cs, fuel, p, q, hg', ht', hvar, hd, _, _⟩, _⟩ := h1; have hg : Tryz.prog.globalNamed "postroom/script.words" = some 3 := by kernel_rfl
 have hty : (Tryz.prog.globals[3]?).map (·.type) = some 278 := by kernel_rfl
 obtain rfl := Option.some.inj (hg.symm.trans hg'); obtain rfl := Option.some.inj (hty.symm.trans ht'); have c11 : Tryz.prog.cellsOf 240 = 11 := by kernel_rfl
 have c1 : Tryz.prog.cellsOf 9 = 1 := by kernel_rfl
 obtain ⟨xs, m, _, ex, _, hxl, hx⟩ := DataW.trod_array Tryz.underlying278 hd; have exs : xs.map (·.1) = wTabs.map fun r => (.agg (r.map fun s => .lit (.string s)) : DataW Unit) := by
  have := congrArg Prod.fst ex
  simpa [jlN] using this.symm
 intro k n hk hn; have hx' := hx k hk; rw [c11] at hx'; obtain ⟨y, hy⟩ : ∃ y, xs[k]? = some y := ⟨_, List.getElem?_eq_getElem (by omega)⟩; rw [hy] at hx'; have hwk : wTabs[k]? = some (wTabs.getD k []) := by
  match k, hk with
  | 0, _ | 1, _ | 2, _ | 3, _ => rfl
 have ey : y.1 = .agg ((wTabs.getD k []).map fun s => .lit (.string s)) := by
  have := congrArg (·[k]?) exs; simp only [List.getElem?_map, hy, hwk, Option.map_some, Option.some.injEq] at this; exact this
 obtain ⟨ys, m', _, ez, _, hyl, hz⟩ := DataW.trod_array Tryz.underlying240 hx'; have eys : ys.map (·.1) = (wTabs.getD k []).map fun s => (.lit (.string s) : DataW Unit) := by
  have := congrArg Prod.fst ez; rw [ey] at this
  simpa using this.symm
 have hz' := hz n hn; rw [c1] at hz'; obtain ⟨u, hu⟩ : ∃ u, ys[n]? = some u := ⟨_, List.getElem?_eq_getElem (by omega)⟩; rw [hu] at hz'; obtain ⟨s, e1, e2, _⟩ := DataW.trod_string Tryz.underlying9 hz'; have hwn : (wTabs.getD k [])[n]? = some (jJ k n) := by
  have hlen := jjh k hk; rw [List.getElem?_eq_getElem (by omega), jlG k n (by omega)]
 have e3 : u.1 = .lit (.string (jJ k n)) := by
  have := congrArg (·[n]?) eys; simp only [List.getElem?_map, hu, hwn, Option.map_some, Option.some.injEq] at this; exact this
 have e4 : s.data.toList = jJ k n := by
  rw [e2] at e3
  simpa using e3
 have e5 : cs[k * 11 + n]? = some (.string s) := by
  have := congrArg (·[0]?) e1; simp only [List.getElem?_take, List.getElem?_drop] at this
  simpa [hn, Nat.add_assoc] using this
 rw [World.var?_cell hg hvar (k * 11 + n)]; rw [← e4, jdY]
 simpa using e5
def flagCells : Array Value := (flagTab.flatMap fun x => [Value.string (S x.1), .int .i64 (x.2 : Nat)]).toArray
def jlx : DataW Unit := .agg (flagTab.map fun x => .agg [.lit (.string x.1), .lit (.int .i64 (x.2 : Nat))])
theorem jg5 : (Rows.laid_postroom_rule_flagNames : DataW Unit) = jlx := by kernel_rfl
theorem flags_of (W : World) (h : laidMetH Tryz.prog [("postroom/rule.flagNames", Rows.laid_postroom_rule_flagNames)] W) : FlagsAt W := by
 have h1 : laidMet Tryz.prog [("postroom/rule.flagNames", Rows.laid_postroom_rule_flagNames)] W := h; rw [jg5] at h1; obtain ⟨ps, ⟨g', t', cs, fuel, p, q, hg', ht', hvar, hd, _, _⟩, _⟩ := h1; have hg : Tryz.prog.globalNamed "postroom/rule.flagNames" = some 4 := by kernel_rfl
 have hty : (Tryz.prog.globals[4]?).map (·.type) = some 308 := by kernel_rfl
 obtain rfl := Option.some.inj (hg.symm.trans hg'); obtain rfl := Option.some.inj (hty.symm.trans ht'); have c2 : Tryz.prog.cellsOf 307 = 2 := by kernel_rfl
 have c1 : Tryz.prog.cellsOf 9 = 1 := by kernel_rfl
 have ci : Tryz.prog.cellsOf 3 = 1 := by kernel_rfl
 obtain ⟨xs, m, _, ex, _, hxl, hx⟩ := DataW.trod_array Tryz.underlying308 hd; have exs : xs.map (·.1) = flagTab.map fun x => (.agg [.lit (.string x.1), .lit (.int .i64 (x.2 : Nat))] : DataW Unit) := by
  have := congrArg Prod.fst ex
  simpa [jlx] using this.symm
 intro i hi; have hx' := hx i hi; rw [c2] at hx'; obtain ⟨y, hy⟩ : ∃ y, xs[i]? = some y := ⟨_, List.getElem?_eq_getElem (by omega)⟩; rw [hy] at hx'; have hft : flagTab[i]? = some (jaZ i, ja0 i) := by
  match i, hi with
  | 0, _ | 1, _ | 2, _ | 3, _ | 4, _ => rfl
 have ey : y.1 = .agg [.lit (.string (jaZ i)), .lit (.int .i64 (ja0 i : Nat))] := by
  have := congrArg (·[i]?) exs; simp only [List.getElem?_map, hy, hft, Option.map_some, Option.some.injEq] at this; exact this
 obtain ⟨zs, m', _, ez, _, hzl, hz⟩ := DataW.trod_struct Tryz.underlying307 hx'; have ezs : zs.map (·.1) = [(.lit (.string (jaZ i)) : DataW Unit), .lit (.int .i64 (ja0 i : Nat))] := by
  have := congrArg Prod.fst ez; rw [ey] at this
  simpa using this.symm
 obtain ⟨z0, z1, rfl⟩ : ∃ z0 z1, zs = [z0, z1] := by
  match zs, hzl with
  | [z0, z1], _ => exact ⟨z0, z1, rfl⟩
 have e0 : z0.1 = .lit (.string (jaZ i)) := (List.cons.inj ezs).1; have e1 : z1.1 = .lit (.int .i64 (ja0 i : Nat)) := (List.cons.inj (List.cons.inj ezs).2).1; have h0 := (hz 0 _ rfl).trans (show [z0, z1][0]? = some z0 from rfl); have h1' := (hz 1 _ rfl).trans (show [z0, z1][1]? = some z1 from rfl); obtain ⟨s, q0, q1, _⟩ := DataW.trod_string Tryz.underlying9 h0; obtain ⟨v, r0, r1, _⟩ := DataW.trod_int Tryz.underlying3 h1'; have q0 : List.take (Tryz.prog.cellsOf 9) (List.drop 0 (List.take 2 (List.drop (i * 2) cs.toList))) = [.string s] := q0; have r0 : List.take (Tryz.prog.cellsOf 3) (List.drop 1 (List.take 2 (List.drop (i * 2) cs.toList))) = [.int .i64 v] := r0; rw [c1] at q0; rw [ci] at r0; have es : s.data.toList = jaZ i := by
  rw [q1] at e0
  simpa using e0
 have ev : v = (ja0 i : Nat) := by
  rw [r1] at e1
  simpa using e1
 have f0 : cs[i * 2]? = some (.string s) := by
  have := congrArg (·[0]?) q0; simp only [List.getElem?_take, List.getElem?_drop] at this
  simpa using this
 have f1 : cs[i * 2 + 1]? = some (.int .i64 v) := by
  have := congrArg (·[0]?) r0; simp only [List.getElem?_take, List.getElem?_drop] at this
  simpa using this
 refine ⟨?_, ?_⟩
 · rw [World.var?_cell hg hvar (i * 2), ← es, jdY]
   simpa using f0
 · rw [World.var?_cell hg hvar (i * 2 + 1), ← ev]
   simpa using f1
def litC : DataW Unit → List Value
 | .lit (.int k n) => [.int k n]
 | .lit (.string s) => [.string (S s)]
 | _ => []
def jnC : DataW Unit → List Value
 | .agg l => l.flatMap litC
 | d => litC d
def cellsD : DataW Unit → Array Value
 | .agg l => (l.flatMap jnC).toArray
 | _ => #[]
theorem jcf {W : World} {nm : String} {g n : Nat} {t : TypeId} {l : List (List UInt8)} (hg : Tryz.prog.globalNamed nm = some g) (hty : (Tryz.prog.globals[g]?).map (·.type) = some t) (hu : Tryz.prog.underlying t = some (.array n 9)) (hn : l.length = n)
 (h : laidMet Tryz.prog [(nm, (.agg (l.map fun s => .lit (.string s)) : DataW Unit))] W) : TabAt W g l := by
 obtain ⟨ps, ⟨g', t', cs, fuel, p, q, hg', ht', hvar, hd, _, _⟩, _⟩ := h; obtain rfl := Option.some.inj (hg.symm.trans hg'); obtain rfl := Option.some.inj (hty.symm.trans ht'); have c1 : Tryz.prog.cellsOf 9 = 1 := by kernel_rfl
 obtain ⟨xs, m, _, ex, _, hxl, hx⟩ := DataW.trod_array hu hd; have exs : xs.map (·.1) = l.map fun s => (.lit (.string s) : DataW Unit) := by
  have := congrArg Prod.fst ex
  simpa using this.symm
 intro i s hs; have hi : i < l.length := (List.getElem?_eq_some_iff.1 hs).1; have hx' := hx i (by omega); rw [c1] at hx'; obtain ⟨y, hy⟩ : ∃ y, xs[i]? = some y := ⟨_, List.getElem?_eq_getElem (by omega)⟩; rw [hy] at hx'; obtain ⟨b, e1, e2, _⟩ := DataW.trod_string Tryz.underlying9 hx'; have e3 : y.1 = .lit (.string s) := by
  have := congrArg (·[i]?) exs; simp only [List.getElem?_map, hy, hs, Option.map_some, Option.some.injEq] at this; exact this
 have e4 : b.data.toList = s := by
  rw [e2] at e3
  simpa using e3
 have e5 : cs[i]? = some (.string b) := by
  have := congrArg (·[0]?) e1; simp only [List.getElem?_take, List.getElem?_drop] at this
  simpa using this
 rw [World.var?_cell hg hvar i, ← e4, jdY]
 simpa using e5
def one (nm : String) (L : List (String × DataW Unit)) : List (String × DataW Unit) := L.filter fun x => x.1 == nm
def TabsM (w : World) : Prop := Tabs w ∧ maxLenCell w
theorem TabsM.next {w w' : World} (h : TabsM w) (hb : Below w.heap.size w w') : TabsM w' := ⟨h.1.next hb, maxLenCell_below h.2 hb⟩
theorem tabs_of (W : World) (L : List (String × DataW Unit)) (hsh : W.ShapedOpen Tryz.prog) (hL : laidMet Tryz.prog L W)
 (h1 : one "postroom/script.words" L = [("postroom/script.words", Rows.laid_postroom_script_words)]) (h2 : one "postroom/rule.flagNames" L = [("postroom/rule.flagNames", Rows.laid_postroom_rule_flagNames)])
 (h3 : one "postroom/rule.requirable" L = [("postroom/rule.requirable", .agg (extT.map fun s => .lit (.string s)))])
 (h4 : one "postroom/rule.envelopeParts" L = [("postroom/rule.envelopeParts", .agg (partT.map fun s => .lit (.string s)))])
 (h5 : one "postroom/rule.neededFor" L = [("postroom/rule.neededFor", .agg (needT.map fun s => .lit (.string s)))]) : TabsM W := by
 have f : ∀ nm, laidMet Tryz.prog (one nm L) W := fun nm => laidMet.filter (fun x => x.1 == nm) hL
 refine ⟨⟨words_of W ?_, ?_, ?_, ?_, flags_of W ?_⟩, maxLenCell_shaped W hsh⟩
 · have := f "postroom/script.words"; rw [h1] at this; exact this
 · have := f "postroom/rule.requirable"; rw [h3] at this; exact jcf (n := 4) (by kernel_rfl) (by kernel_rfl) Tryz.underlying239 rfl this
 · have := f "postroom/rule.envelopeParts"; rw [h4] at this; exact jcf (n := 2) (by kernel_rfl) (by kernel_rfl) Tryz.underlying345 rfl this
 · have := f "postroom/rule.neededFor"; rw [h5] at this; exact jcf (n := 11) (by kernel_rfl) (by kernel_rfl) Tryz.underlying240 rfl this
 · have := f "postroom/rule.flagNames"; rw [h2] at this; exact this
open Go.Proofs
def jgq : Nat → Tst → Prop
 | 0, _ => False
 | n + 1, t => ∀ x ∈ t.tests, jgq n x
def jbG : Nat → Cmd → Prop
 | 0, _ => False
 | n + 1, c => jgq n c.test ∧ (∀ x ∈ c.thn, jbG n x) ∧ ∀ x ∈ c.els, jbG n x
theorem RowM.impM {A : Type} {Q : Nat → Prop} {k : Nat} {P P' : A → List Value → Prop} {w : World} {v : Value} {l : List A} (h : RowM Q k P w v l) (hp : ∀ x ∈ l, ∀ cs, P x cs → P' x cs) : RowM Q k P' w v l := by
 obtain ⟨a, c, hv, hm, hx⟩ := h; refine ⟨a, c, hv, hm, fun i x hi => ?_⟩; obtain ⟨b, o, cs, ha, hb, hQ, hl, hc, hP⟩ := hx i x hi; exact ⟨b, o, cs, ha, hb, hQ, hl, hc, hp x (List.mem_of_getElem? hi) cs hP⟩
theorem TstM.less {Q : Nat → Prop} {w : World} : ∀ (n m : Nat) (t : Tst) (cs : List Value), jgq n t → TstM Q m w t cs → TstM Q n w t cs := by
 intro n
 induction n with
 | zero => intro m t cs h; exact h.elim
 | succ n ih =>
   intro m t cs hd h; cases m with
   | zero => exact h.elim
   | succ m =>
     obtain ⟨vn, vk, vt, h0, h1, h2, h3⟩ := h; exact ⟨vn, vk, vt, h0, h1, h2, RowM.impM h3 fun x hx cs hc => ih m x cs (hd x hx) hc⟩
theorem CmdM.less {Q : Nat → Prop} {w : World} : ∀ (n m : Nat) (t : Cmd) (cs : List Value), jbG n t → CmdM Q m w t cs → CmdM Q n w t cs := by
 intro n
 induction n with
 | zero => intro m t cs h; exact h.elim
 | succ n ih =>
   intro m t cs hd h; cases m with
   | zero => exact h.elim
   | succ m =>
     obtain ⟨vx, vn, vk, vt, va, ve, h0, h1, h2, h3, h4⟩ := h; exact ⟨vx, vn, vk, vt, va, ve, h0, h1, TstM.less n m _ _ hd.1 h2, RowM.impM h3 fun x hx cs hc => ih m x cs (hd.2.1 x hx) hc, RowM.impM h4 fun x hx cs hc => ih m x cs (hd.2.2 x hx) hc⟩
theorem CmdsM.less {Q : Nat → Prop} {n m : Nat} {w : World} {v : Value} {l : List Cmd} (hd : ∀ x ∈ l, jbG n x) (h : CmdsM Q m w v l) : CmdsM Q n w v l := RowM.impM h fun x hx cs hc => CmdM.less n m x cs (hd x hx) hc
def rdM (n : Nat) (s : List UInt8) : List Cmd × Int :=
 if (cutM s).2.2 ≠ 0 then ([], (cutM s).2.2)
 else if (jX (cutM s).1).2.2 ≠ 0 then ([], (jX (cutM s).1).2.2)
 else if vu n (jX (cutM s).1).1 ≠ 0 then ([], vu n (jX (cutM s).1).1)
 else ((jX (cutM s).1).1, 0)
def RdP (w : World) (n : Nat) (r : List Cmd × Int) (e : Ending) (w' : World) : Prop :=
 ∃ a c, e = .returned (.tuple #[.slice a r.1.length c, .int .i64 r.2]) ∧ CmdsM (newB w.heap.size) n w' (.slice a r.1.length c) r.1 ∧ Below w.heap.size w w' ∧ jbl a r.1.length c
theorem jjc {w w' : World} {n : Nat} {r : List Cmd × Int} {x : Int} (h : r = ([], x)) (hb : Below w.heap.size w w') : RdP w n r (.returned (.tuple #[.slice none 0 0, .int .i64 x])) w' := by
 subst h; exact ⟨none, 0, rfl, jg _ _ _ _ _ _, hb, jaK⟩
theorem jaJ (n : Nat) (s : List UInt8) (w : World) (hm : TabsM w) (ht : ∀ t ∈ (cutM s).1, t.kind = 1 ∨ t.kind = 2 → t.text.length ≤ maxLen) (hl : (cutM s).1.length ≤ 400)
 (hs : (jX (cutM s).1).2.2 = 0 → ∀ x ∈ (jX (cutM s).1).1, zP (n + 1) x ∧ jbG (n + 1) x) :
 Calls Tryz.prog 36 #[.string (S s)] w (RdP w (n + 1) (rdM (n + 1) s)) := by
 have HM := hid hm; obtain ⟨C, hC⟩ : ∃ C, C = cutM s := ⟨_, rfl⟩; have HRD := hid (show rdM (n + 1) s = if C.2.2 ≠ 0 then ([], C.2.2) else if (jX C.1).2.2 ≠ 0 then ([], (jX C.1).2.2) else if vu (n + 1) (jX C.1).1 ≠ 0 then ([], vu (n + 1) (jX C.1).1) else ((jX C.1).1, 0) by rw [hC]; rfl); rw [← hC] at ht hl hs; obtain ⟨ts, p, x⟩ := C; simp only at ht hl hs HRD; obtain ⟨P, hP⟩ : ∃ P, P = jX ts := ⟨_, rfl⟩; rw [← hP] at hs HRD; obtain ⟨cs, q, y⟩ := P; simp only at hs HRD; have HC := hid hC; have HP := hid hP; have HT := hid ht; have HS := hid hs; clear hm ht hs hC hP; go_enter Tryz.func36, Tryz.ntmps36; go_wp2_with fail; refine (jk9 s w HM.out.2).mono ?_; rw [← HC.out]; rintro e w1 ⟨a1, c1, rfl, hT1, hb1⟩; simp only at hT1 ⊢; have HT1 := hid hT1; have HB1 := hid hb1; clear hT1 hb1
 by_cases hx : x = 0
 · subst hx; go_wp2_with fail; refine (jhn a1 c1 ts w1 HT1.out (by unfold maxLen; omega) HT.out (HM.out.next HB1.out).1.1).mono ?_; rw [← HP.out]; rintro e w2 ⟨a2, c2, rfl, hC2, hb2, hr2⟩; simp only at hC2 hr2 ⊢; have HC2 := hid hC2; have HB2 := hid (HB1.out.trans (hb2.mono HB1.out.size)); have HN2 := hid (show CmdsM (newB w.heap.size) (ts.length + 3) w2 (.slice a2 cs.length c2) cs from RowM.imp hC2 (fun k hk => Nat.le_trans HB1.out.size hk) (Keeps.refl _ _) fun _ _ h => CmdM.imp (fun k hk => Nat.le_trans HB1.out.size hk) (Keeps.refl _ _) _ _ _ h); have HR2 := hid hr2; clear hC2 hb2 hr2
   by_cases hy : y = 0
   · have HS0 := hid (HS.out hy); clear HS; subst hy; obtain ⟨z, hz⟩ : ∃ z, z = vu (n + 1) cs := ⟨_, rfl⟩; rw [← hz] at HRD; have HZ := hid hz; clear hz; go_wp2_with fail; refine (jc1 n cs a2 c2 w2 (HM.out.next HB2.out).1 HR2.out.1 (fun h => HR2.out.2 (by rw [h]; rfl)) (fun x hx => (HS0.out x hx).1) (CmdsM.less (fun x hx => (HS0.out x hx).2) HC2.out.any)).mono ?_; rw [← HZ.out]; rintro e w3 ⟨rfl, hb3⟩; have HB3 := hid (HB2.out.trans (hb3.mono HB2.out.size)); have HN3 := hid (CmdsM.less (fun x hx => (HS0.out x hx).2) (CmdsM.next HN2.out hb3)); clear hb3
     by_cases hz : z = 0
     · have HE := hid (show RdP w (n + 1) (rdM (n + 1) s) (.returned (.tuple #[.slice a2 cs.length c2, .int .i64 0])) w3 by
         rw [HRD.out, if_neg (by simp), if_neg (by simp), if_neg (by simpa using hz)]; exact ⟨a2, c2, rfl, HN3.out, HB3.out, HR2.out⟩)
       subst hz; go_wp2; go_ret2; exact HE.out
     · have HE := hid (show RdP w (n + 1) (rdM (n + 1) s) (.returned (.tuple #[.slice none 0 0, .int .i64 z])) w3 from jjc (by rw [HRD.out, if_neg (by simp), if_neg (by simp), if_pos hz]) HB3.out); go_wp2; go_ret2; exact HE.out
   · have HE := hid (show RdP w (n + 1) (rdM (n + 1) s) (.returned (.tuple #[.slice none 0 0, .int .i64 y])) w2 from jjc (by rw [HRD.out, if_neg (by simp), if_pos hy]) HB2.out); go_wp2; go_ret2; exact HE.out
 · have HE := hid (show RdP w (n + 1) (rdM (n + 1) s) (.returned (.tuple #[.slice none 0 0, .int .i64 x])) w1 from jjc (by rw [HRD.out, if_pos hx]) HB1.out); go_wp2; go_ret2; exact HE.out
def tokB : List Tok := [⟨1, [114, 101, 113, 117, 105, 114, 101], 0⟩, ⟨5, [91], 0⟩, ⟨4, [102, 105, 108, 101, 105, 110, 116, 111], 0⟩, ⟨5, [44], 0⟩, ⟨4, [105, 109, 97, 112, 52, 102, 108, 97, 103, 115], 0⟩, ⟨5, [93], 0⟩, ⟨5, [59], 0⟩, ⟨1, [105, 102], 0⟩, ⟨1, [104, 101, 97, 100, 101, 114], 0⟩, ⟨2, [99, 111, 110, 116, 97, 105, 110, 115], 0⟩, ⟨4, [115, 117, 98, 106, 101, 99, 116], 0⟩, ⟨4, [119, 111, 114, 107], 0⟩, ⟨5, [123], 0⟩, ⟨1, [115, 101, 116, 102, 108, 97, 103], 0⟩, ⟨4, [92, 83, 101, 101, 110], 0⟩, ⟨5, [59], 0⟩, ⟨1, [102, 105, 108, 101, 105, 110, 116, 111], 0⟩, ⟨4, [119, 111, 114, 107], 0⟩, ⟨5, [59], 0⟩, ⟨5, [125], 0⟩, ⟨1, [101, 108, 115, 105, 102], 0⟩, ⟨1, [115, 105, 122, 101], 0⟩, ⟨2, [111, 118, 101, 114], 0⟩, ⟨3, [], 300⟩, ⟨5, [123], 0⟩, ⟨1, [100, 105, 115, 99, 97, 114, 100], 0⟩, ⟨5, [59], 0⟩, ⟨5, [125], 0⟩]
def tokC : List Tok := [⟨1, [114, 101, 113, 117, 105, 114, 101], 0⟩, ⟨5, [91], 0⟩, ⟨4, [114, 101, 106, 101, 99, 116], 0⟩, ⟨5, [44], 0⟩, ⟨4, [101, 110, 118, 101, 108, 111, 112, 101], 0⟩, ⟨5, [93], 0⟩, ⟨5, [59], 0⟩, ⟨1, [105, 102], 0⟩, ⟨1, [101, 110, 118, 101, 108, 111, 112, 101], 0⟩, ⟨2, [108, 111, 99, 97, 108, 112, 97, 114, 116], 0⟩, ⟨4, [102, 114, 111, 109], 0⟩, ⟨4, [115, 112, 97, 109], 0⟩, ⟨5, [123], 0⟩, ⟨1, [114, 101, 106, 101, 99, 116], 0⟩, ⟨4, [110, 111], 0⟩, ⟨5, [59], 0⟩, ⟨5, [125], 0⟩, ⟨1, [101, 108, 115, 105, 102], 0⟩, ⟨1, [101, 120, 105, 115, 116, 115], 0⟩, ⟨4, [108, 105, 115, 116], 0⟩, ⟨5, [123], 0⟩, ⟨1, [114, 101, 100, 105, 114, 101, 99, 116], 0⟩, ⟨4, [97, 110, 110, 64, 120, 46, 121], 0⟩, ⟨5, [59], 0⟩, ⟨1, [107, 101, 101, 112], 0⟩, ⟨5, [59], 0⟩, ⟨5, [125], 0⟩]
def cmdB : List Cmd := [⟨1, [[102, 105, 108, 101, 105, 110, 116, 111], [105, 109, 97, 112, 52, 102, 108, 97, 103, 115]], jT, [], []⟩, ⟨2, [], ⟨6, 2, 0, [[115, 117, 98, 106, 101, 99, 116]], [[119, 111, 114, 107]], false, 0, []⟩, [⟨8, [[92, 83, 101, 101, 110]], jT, [], []⟩, ⟨5, [[119, 111, 114, 107]], jT, [], []⟩], [⟨2, [], ⟨10, 0, 0, [], [], true, 300, []⟩, [⟨4, [], jT, [], []⟩], []⟩]⟩]
def cmdC : List Cmd := [⟨1, [[114, 101, 106, 101, 99, 116], [101, 110, 118, 101, 108, 111, 112, 101]], jT, [], []⟩, ⟨2, [], ⟨8, 1, 2, [[102, 114, 111, 109]], [[115, 112, 97, 109]], false, 0, []⟩, [⟨7, [[110, 111]], jT, [], []⟩], [⟨2, [], ⟨9, 0, 0, [[108, 105, 115, 116]], [], false, 0, []⟩, [⟨6, [[97, 110, 110, 64, 120, 46, 121]], jT, [], []⟩, ⟨3, [], jT, [], []⟩], []⟩]⟩]
def scrF : List UInt8 := [102, 105, 108, 101, 105, 110, 116, 111, 32, 34, 97, 34, 59]
def scrK : List UInt8 := [107, 101, 101, 112]
def tokF : List Tok := [⟨1, [102, 105, 108, 101, 105, 110, 116, 111], 0⟩, ⟨4, [97], 0⟩, ⟨5, [59], 0⟩]
def cmdF : List Cmd := [⟨5, [[97]], jT, [], []⟩]
theorem jjY : cutM scrB = (tokB, 0, 0) := by kernel_rfl
theorem jjZ : cutM scrC = (tokC, 0, 0) := by kernel_rfl
theorem jj0 : cutM scrF = (tokF, 0, 0) := by kernel_rfl
theorem jj1 : cutM scrK = ([⟨1, [107, 101, 101, 112], 0⟩], 0, 0) := by kernel_rfl
theorem jjX : cutM [] = ([], 0, 0) := by kernel_rfl
theorem ji4 : jX tokB = (cmdB, 0, 0) := by kernel_rfl
theorem ji5 : jX tokC = (cmdC, 0, 0) := by kernel_rfl
theorem ji6 : jX tokF = (cmdF, 0, 0) := by kernel_rfl
theorem ji7 : jX [⟨1, [107, 101, 101, 112], 0⟩] = ([], 1, 4) := by kernel_rfl
theorem jmA : jX [] = ([], 0, 0) := by kernel_rfl
theorem jlH : vu 5 cmdB = 0 := by kernel_rfl
theorem jlI : vu 5 cmdC = 0 := by kernel_rfl
theorem jnt : vu 5 cmdF = 8 := by kernel_rfl
theorem jns : vu 5 [] = 0 := by kernel_rfl
theorem jin : (∀ t ∈ tokB, t.kind = 1 ∨ t.kind = 2 → t.text.length ≤ maxLen) ∧ ∀ x ∈ cmdB, zP 5 x ∧ jbG 5 x := by
 refine ⟨fun t ht _ => ?_, ?_⟩
 · have h : ∀ t ∈ tokB, t.text.length ≤ 20 := by decide
   have := h t ht; unfold maxLen; omega
 · simp [cmdB, zP, jbG, jgq, jT, maxLen]
theorem jio : (∀ t ∈ tokC, t.kind = 1 ∨ t.kind = 2 → t.text.length ≤ maxLen) ∧ ∀ x ∈ cmdC, zP 5 x ∧ jbG 5 x := by
 refine ⟨fun t ht _ => ?_, ?_⟩
 · have h : ∀ t ∈ tokC, t.text.length ≤ 20 := by decide
   have := h t ht; unfold maxLen; omega
 · simp [cmdC, zP, jbG, jgq, jT, maxLen]
theorem jlw : (∀ t ∈ tokF, t.kind = 1 ∨ t.kind = 2 → t.text.length ≤ maxLen) ∧ ∀ x ∈ cmdF, zP 5 x ∧ jbG 5 x := by
 refine ⟨fun t ht _ => ?_, ?_⟩
 · have h : ∀ t ∈ tokF, t.text.length ≤ 20 := by decide
   have := h t ht; unfold maxLen; omega
 · simp [cmdF, zP, jbG, jgq, jT, maxLen]
theorem jno (w : World) (hm : TabsM w) : Calls Tryz.prog 36 #[.string (S scrB)] w (RdP w 5 (cmdB, 0)) := by
 have h := jaJ 4 scrB w hm (by rw [jjY]; exact jin.1) (by rw [jjY]; decide) (by rw [jjY]; simp only; rw [ji4]; exact fun _ => jin.2); rw [show rdM (4 + 1) scrB = (cmdB, 0) by unfold rdM; rw [jjY]; simp only; rw [ji4]; simp only; rw [jlH]; simp] at h; exact h
theorem jnp (w : World) (hm : TabsM w) : Calls Tryz.prog 36 #[.string (S scrC)] w (RdP w 5 (cmdC, 0)) := by
 have h := jaJ 4 scrC w hm (by rw [jjZ]; exact jio.1) (by rw [jjZ]; decide) (by rw [jjZ]; simp only; rw [ji5]; exact fun _ => jio.2); rw [show rdM (4 + 1) scrC = (cmdC, 0) by unfold rdM; rw [jjZ]; simp only; rw [ji5]; simp only; rw [jlI]; simp] at h; exact h
theorem jnF (w : World) (hm : TabsM w) : Calls Tryz.prog 36 #[.string (S scrF)] w (RdP w 5 ([], 8)) := by
 have h := jaJ 4 scrF w hm (by rw [jj0]; exact jlw.1) (by rw [jj0]; decide) (by rw [jj0]; simp only; rw [ji6]; exact fun _ => jlw.2); rw [show rdM (4 + 1) scrF = ([], 8) by unfold rdM; rw [jj0]; simp only; rw [ji6]; simp only; rw [jnt]; simp] at h; exact h
theorem jnG (w : World) (hm : TabsM w) : Calls Tryz.prog 36 #[.string (S scrK)] w (RdP w 5 ([], 4)) := by
 have h := jaJ 4 scrK w hm (by rw [jj1]; intro t ht _; simp at ht; subst ht; simp [maxLen]) (by rw [jj1]; decide) (by rw [jj1]; simp only; rw [ji7]; exact fun e => by simp at e); rw [show rdM (4 + 1) scrK = ([], 4) by unfold rdM; rw [jj1]; simp only; rw [ji7]; simp] at h; exact h
theorem jnn (w : World) (hm : TabsM w) : Calls Tryz.prog 36 #[.string (S [])] w (RdP w 5 ([], 0)) := by
 have h := jaJ 4 [] w hm (by rw [jjX]; exact fun t ht => by cases ht) (by rw [jjX]; decide) (by rw [jjX]; exact fun _ x hx => by cases hx); rw [show rdM (4 + 1) [] = ([], 0) by unfold rdM; rw [jjX]; simp only; rw [jmA]; simp only; rw [jns]; simp] at h; exact h
theorem jfp (c : UInt8) : (ja5 c = true ∧ ¬ (c.toNat : Int) < 33 ∧ ¬ 126 < (c.toNat : Int) ∧ ((c.toNat : Int) == 58) = false) ∨
 (ja5 c = false ∧ ((c.toNat : Int) < 33 ∨ (¬ (c.toNat : Int) < 33 ∧ 126 < (c.toNat : Int)) ∨ (¬ (c.toNat : Int) < 33 ∧ ¬ 126 < (c.toNat : Int) ∧ ((c.toNat : Int) == 58) = true))) := by
 have e : c = 58 ↔ c.toNat = 58 := ⟨fun h => by rw [h]; rfl, fun h => UInt8.toNat_inj.1 (by rw [h]; rfl)⟩
 by_cases h1 : c.toNat < 33
 · right; exact ⟨by simp [ja5]; omega, .inl (by omega)⟩
 · by_cases h2 : 126 < c.toNat
   · right; exact ⟨by simp [ja5]; omega, .inr (.inl ⟨by omega, by omega⟩)⟩
   · by_cases h3 : c = 58
     · right; exact ⟨by simp [ja5, h3], .inr (.inr ⟨by omega, by omega, by subst h3; decide⟩)⟩
     · left; exact ⟨by simp [ja5, h3]; omega, by omega, by omega, by rw [beq_eq_false_iff_ne]; intro h; exact h3 (e.2 (by omega))⟩
theorem jmp {s : ByteArray} {k : Nat} (hk : k < s.size) (h : (s.data.toList.take k).all ja5 = true) (hc : ja5 s[k] = true) : (s.data.toList.take (k + 1)).all ja5 = true := by
 rw [jjx s k hk, List.all_append, h]; simp [hc]
theorem jiV {s : ByteArray} {k : Nat} (hk : k < s.size) (hc : ja5 s[k] = false) : jbs s.data.toList = false := by
 have hm : s[k] ∈ s.data.toList := List.mem_of_getElem? (jbv s k hk); cases h : jbs s.data.toList with
 | false => rfl
 | true => simp only [jbs, Bool.and_eq_true, List.all_eq_true] at h; rw [h.2 _ hm] at hc; cases hc
theorem jkw {s : ByteArray} {k : Nat} (hk : ¬ k < s.size) (h : (s.data.toList.take k).all ja5 = true) : jbs s.data.toList = !s.data.toList.isEmpty := by
 rw [List.take_of_length_le (by rw [size_list]; omega)] at h
 simp [jbs, h]
theorem jg0 (s : ByteArray) (w : World) (hs : s.size ≤ maxLen) :
 Calls Tryz.prog 311 #[.string s] w fun e w' => e = .returned (.bool (jbs s.data.toList)) ∧ w' = w := by
 unfold maxLen at hs; go_enter Tryz.func311, Tryz.ntmps311; go_wp2
 go_loop [6] (fun i => ∃ k : Nat, k ≤ s.size ∧ i = .int .i64 k ∧ Hid ((s.data.toList.take k).all ja5 = true)) (fun i => s.size - (intOf i).toNat)
 case atStart => exact ⟨0, Nat.zero_le _, rfl, by simp [Hid]⟩
 case round =>
  obtain ⟨k, hk, rfl, HA⟩ := hrel
  by_cases hlt : k < s.size
  · rcases jfp s[k] with ⟨hc, h1, h2, h3⟩ | ⟨hc, h | ⟨h, h'⟩ | ⟨h, h', h''⟩⟩
    · have HC : Hid _ := hc; clear hc; go_wp2
      go_round
      case rel => exact ⟨k + 1, by omega, by go_num, jmp hlt HA.out HC.out⟩
      case measure => simp [intOf]; omega
    all_goals
        have HC : Hid _ := hc; clear hc; go_wp2; go_ret; exact ⟨jb (jiV hlt HC.out).symm, rfl⟩
  · go_wp2; go_ret; exact ⟨jb (by rw [jkw hlt HA.out, Lib.toList_data]), rfl⟩
def FieldsAt (w : World) (a : Option Addr) (fs : List F) : Prop :=
 ∀ (i : Nat) f, fs[i]? = some f → ∃ b off, a = some ⟨b, off, none⟩ ∧ b < w.heap.size ∧ w.cell? ⟨b, off + i * 2, none⟩ = some (.string (S f.1)) ∧ w.cell? ⟨b, off + i * 2 + 1, none⟩ = some (.string (S f.2))
theorem FieldsAt.below {w w' : World} {a : Option Addr} {fs : List F} (h : FieldsAt w a fs) (hb : Below w.heap.size w w') : FieldsAt w' a fs := by
 intro i f hf; obtain ⟨b, off, ha, hlt, h1, h2⟩ := h i f hf; exact ⟨b, off, ha, Nat.lt_of_lt_of_le hlt hb.size, (hb.cell (p := ⟨b, off + i * 2, none⟩) hlt).trans h1, (hb.cell (p := ⟨b, off + i * 2 + 1, none⟩) hlt).trans h2⟩
theorem jbm {B : Nat} {a w : World} (h : Below B a w) (n : Nat) : Below B a (w.drewN n) := h.trans ⟨rfl, rfl, rfl, Nat.le_refl _, fun _ _ => rfl⟩
theorem jiA : (Tryz.prog.info? 367).map (fun i => (i.zero, i.size, i.bytes)) = some (some (.agg #[.string ByteArray.empty, .string ByteArray.empty]), 2, 32) := by kernel_rfl
def qu (fs : List F) : List Value := fs.flatMap fun f => [.string (S f.1), .string (S f.2)]
theorem jdi (a b : List F) : qu (a ++ b) = qu a ++ qu b := by simp [qu]
theorem jgC (f : F) : qu [f] = [.string (S f.1), .string (S f.2)] := by simp [qu]
theorem jgB {fs : List F} {i : Nat} {f : F} (h : fs[i]? = some f) : (qu fs)[i * 2]? = some (.string (S f.1)) ∧ (qu fs)[i * 2 + 1]? = some (.string (S f.2)) := by
 induction fs generalizing i with
 | nil => simp at h
 | cons g fs ih =>
   cases i with
   | zero => simp at h; subst h; simp [qu]
   | succ i =>
     have := ih (i := i) (by simpa using h); have e1 : (i + 1) * 2 = i * 2 + 2 := by omega
     rw [e1]
     simpa [qu] using this
theorem jgR {w : World} {base g cap : Nat} {fs : List F} (h : w.ownsRow base 367 2 (.slice (some ⟨g, 0, none⟩) fs.length cap) fs.length (qu fs)) (hg : g < w.heap.size) : FieldsAt w (some ⟨g, 0, none⟩) fs := by
 intro i f hf; have hi : i < fs.length := by
  rcases Nat.lt_or_ge i fs.length with h | h
  · exact h
  · rw [List.getElem?_eq_none h] at hf; cases hf
 obtain ⟨h1, h2⟩ := jgB hf; refine ⟨g, 0, rfl, hg, ?_, ?_⟩
 · rw [Nat.zero_add, h.cellAt _ (by omega)]; exact h1
 · rw [Nat.zero_add, h.cellAt _ (by omega)]; exact h2
theorem jbc {w : World} {p a : Addr} {v : Value} (h : p.block ≠ a.block) : (w.setCell p v).cell? a = w.cell? a :=
 World.cell?_of_block (heap_setCell_other w p a.block v (fun e => h e.symm))
theorem FieldsAt.set {w : World} {g : Nat} {fs : List F} (h : FieldsAt w (some ⟨g, 0, none⟩) fs) {p : Addr} (v : Value) (hp : p.block ≠ g) : FieldsAt (w.setCell p v) (some ⟨g, 0, none⟩) fs := by
 intro i f hf; obtain ⟨b, off, ha, hb, h1, h2⟩ := h i f hf; simp only [Option.some.injEq, Addr.mk.injEq, and_true] at ha; obtain ⟨rfl, rfl⟩ := ha; exact ⟨_, _, rfl, by simpa using hb, (jbc hp).trans h1, (jbc hp).trans h2⟩
theorem jgQ (w : World) (a : Option Addr) : FieldsAt w a [] := by intro i f hf; simp at hf
def OwnF (w : World) (B : Nat) (v : Value) (fs : List F) : Prop := w.ownsRow B 367 2 v fs.length (qu fs)
theorem OwnF.form {w : World} {B : Nat} {v : Value} {fs : List F} (h : OwnF w B v fs) (h0 : fs ≠ []) : ∃ g cap, v = .slice (some ⟨g, 0, none⟩) fs.length cap ∧ B ≤ g ∧ g < w.heap.size :=
 World.ownsRow.form h (List.length_pos_iff.2 h0)
theorem OwnF.any {w : World} {B : Nat} {v : Value} {fs : List F} (h : OwnF w B v fs) : ∃ a cap, v = .slice a fs.length cap := by
 by_cases h0 : fs = []
 · rcases h.2 with ⟨rfl, hn⟩ | ⟨g, cap, cur, rfl, _⟩
   · subst h0; exact ⟨none, 0, rfl⟩
   · exact ⟨_, _, rfl⟩
 · obtain ⟨g, cap, rfl, _⟩ := h.form h0; exact ⟨_, _, rfl⟩
theorem OwnF.fields {w : World} {B : Nat} {a : Option Addr} {c : Nat} {fs : List F} (h : OwnF w B (.slice a fs.length c) fs) : FieldsAt w a fs := by
 by_cases h0 : fs = []
 · subst h0; exact jgQ _ _
 · obtain ⟨g, cap, e, hb, hg⟩ := h.form h0; simp only [Value.slice.injEq, true_and] at e; obtain ⟨rfl, rfl⟩ := e; exact jgR h hg
theorem je1 (c : UInt8) : (0 ≤ Lib.indexByte [32, 9] c) ↔ jbb c = true := by
 unfold jbb Lib.indexByte Lib.indexByte Lib.indexByte
 by_cases h1 : c = 32
 · subst h1; decide
 · by_cases h2 : c = 9
   · subst h2; decide
   · have e1 : (32 == c) = false := by simpa using fun h => h1 h.symm
     have e2 : (9 == c) = false := by simpa using fun h => h2 h.symm
     simp [e1, e2, h1, h2]
theorem jmQ (c : UInt8) : ((c.toNat : Int)).toNat.toUInt8 = c := by simp
theorem index_none {c : UInt8} (h : jbb c = false) : Lib.indexByte [32, 9] c = -1 := by
 have h1 : ¬ 0 ≤ Lib.indexByte [32, 9] c := fun h0 => by rw [(je1 c).1 h0] at h; cases h
 unfold jbb at h; simp only [Bool.or_eq_false_iff, beq_eq_false_iff_ne] at h; have e1 : (32 == c) = false := by simpa using fun e => h.1 e.symm
 have e2 : (9 == c) = false := by simpa using fun e => h.2 e.symm
 simp [Lib.indexByte, e1, e2]
theorem jiW {fs : List F} {line : ByteArray} (hp : 0 < line.size) (h : jcR fs line.data.toList = false) : fs = [] ∨ (0 < fs.length ∧ Hid (Lib.indexByte (⟨#[32, 9]⟩ : ByteArray).data.toList ((line[0].toNat : Int)).toNat.toUInt8 = -1)) := by
 by_cases h0 : fs = []
 · exact .inl h0
 · right
   refine ⟨List.length_pos_iff.2 h0, ?_⟩; have e : line.data.toList.head? = some line[0] := by rw [List.head?_eq_getElem?]; exact jbv line 0 hp
   have hb : jbb line[0] = false := by
    simp only [jcR, e, Option.map_some, Option.getD_some, Bool.and_eq_false_iff] at h
    rcases h with h | h
    · cases fs with
      | nil => exact absurd rfl h0
      | cons a t => simp at h
    · exact h
   unfold Hid; rw [jmQ]; exact index_none hb
theorem jau (w : World) (x y : Value) (t : TypeId) : ∀ (j : Nat) u, [x, y][j]? = some u → (w.alloc (.cells #[x, y] t)).cell? ((⟨w.heap.size, 0, none⟩ : Addr).add j) = some u := by
 intro j u hj; rw [Addr.add_lit, Nat.zero_add]
 match j, hj with
 | 0, hj => simp at hj; subst hj; simp
 | 1, hj => simp at hj; subst hj; simp
theorem jh7 (s : ByteArray) (l a b : List UInt8) (t : Bool) (sep : ByteArray) (hl : sep.data.toList = l) (h : Lib.cut s.data.toList l = (a, b, t)) :
 (⟨(Lib.cut s.data.toList sep.data.toList).1.toArray⟩ : ByteArray) = S a ∧ (⟨(Lib.cut s.data.toList sep.data.toList).2.1.toArray⟩ : ByteArray) = S b ∧ (Lib.cut s.data.toList sep.data.toList).2.2 = t := by
 rw [hl, h]; exact ⟨rfl, rfl, rfl⟩
theorem qD (s sep : ByteArray) (l a b : List UInt8) (t : Bool) (hl : sep.data.toList = l) (h : Lib.cut s.data.toList l = (a, b, t)) (w : World) (hs : s.size < 4294967281) (hm : maxLenCell w) :
 Calls Tryz.prog 71 #[.string s, .string sep] w fun e w' => e = .returned (.tuple #[.string (S a), .string (S b), .bool t]) ∧ ∃ n, w' = w.drewN n := by
 have := cutS_any s sep w hs hm; obtain ⟨e1, e2, e3⟩ := jh7 s l a b t sep hl h
 rwa [e1, e2, e3] at this
theorem jb0 (l : List UInt8) (b : Bool) (h : jbs l = b) (hl : l.length ≤ 5000) (w : World) :
 Calls Tryz.prog 311 #[.string (S l)] w fun e w' => e = .returned (.bool b) ∧ w' = w := by
 have := jg0 (S l) w (by rw [jd]; unfold maxLen; omega)
 rwa [jj, h] at this
theorem jeJ (B : Nat) (v : Value) (fs : List F) (line : ByteArray) (w : World) (hO : OwnF w B v fs) (hm : maxLenCell w) (hp : 0 < line.size) (hl : line.size ≤ 5000) (hn : fs.length ≤ 30) (h : jcR fs line.data.toList = false)
 (a b : List UInt8) (hc : Lib.cut line.data.toList [58] = (a, b, false)) :
 Calls Tryz.prog 291 #[v, .string line] w fun e w' => e = .returned (.tuple #[.slice none 0 0, .int .i64 3]) ∧ Below w.heap.size w w' := by
 obtain ⟨a0, cap, rfl⟩ := hO.any; have HC : Hid _ := hc; clear hc
 rcases jiW hp h with rfl | ⟨h0, HI⟩
 case' inl =>
  clear h hO; go_enter Tryz.func291, Tryz.ntmps291; go_wp2_with fail
 case' inr =>
  clear h hO; go_enter Tryz.func291, Tryz.ntmps291; go_wp2_with fail; refine (indexByte_any _ _ _).mono ?_; rintro e u ⟨rfl, rfl⟩; rw [HI.out]; go_wp2_with fail
 all_goals
  refine (qD line _ [58] a b false rfl HC.out _ (by omega) hm).mono ?_; rintro e u ⟨rfl, q, rfl⟩; go_wp2; go_ret2; exact ⟨rfl, jbm (Below.refl _ _) _⟩
theorem jfL (B : Nat) (v : Value) (fs : List F) (line : ByteArray) (w : World) (hO : OwnF w B v fs) (hm : maxLenCell w) (hp : 0 < line.size) (hl : line.size ≤ 5000) (hn : fs.length ≤ 30) (h : jcR fs line.data.toList = false)
 (a b : List UInt8) (hc : Lib.cut line.data.toList [58] = (a, b, true)) (ha : jbs a = false) (hal : a.length ≤ 5000) :
 Calls Tryz.prog 291 #[v, .string line] w fun e w' => e = .returned (.tuple #[.slice none 0 0, .int .i64 3]) ∧ Below w.heap.size w w' := by
 obtain ⟨a0, cap, rfl⟩ := hO.any; have HC : Hid _ := hc; have HA : Hid _ := ha; clear hc ha
 rcases jiW hp h with rfl | ⟨h0, HI⟩
 case' inl =>
  clear h hO; go_enter Tryz.func291, Tryz.ntmps291; go_wp2_with fail
 case' inr =>
  clear h hO; go_enter Tryz.func291, Tryz.ntmps291; go_wp2_with fail; refine (indexByte_any _ _ _).mono ?_; rintro e u ⟨rfl, rfl⟩; rw [HI.out]; go_wp2_with fail
 all_goals
  refine (qD line _ [58] a b true rfl HC.out _ (by omega) hm).mono ?_; rintro e u ⟨rfl, q, rfl⟩; go_wp2_with fail; refine (jb0 a false HA.out hal _).mono ?_; rintro e u ⟨rfl, rfl⟩; go_wp2; go_ret2; exact ⟨rfl, jbm (Below.refl _ _) _⟩
theorem jk6 (B : Nat) (v : Value) (fs : List F) (line : ByteArray) (w : World) (hO : OwnF w B v fs) (hBw : B ≤ w.heap.size) (hm : maxLenCell w) (hp : 0 < line.size) (hl : line.size ≤ 5000) (hn : fs.length < 30) (h : jcR fs line.data.toList = false)
 (a b : List UInt8) (hc : Lib.cut line.data.toList [58] = (a, b, true)) (ha : jbs a = true) (hal : a.length ≤ 5000) :
 Calls Tryz.prog 291 #[v, .string line] w fun e w' => ∃ v', e = .returned (.tuple #[v', .int .i64 0]) ∧ OwnF w' B v' (fs ++ [(a, b)]) ∧ Below B w w' := by
 obtain ⟨i0, hi, hz0, hz1, hz2⟩ := info_parts jiA; obtain ⟨a0, cap, rfl⟩ := hO.any; have HC : Hid _ := hc; have HA : Hid _ := ha; have hO' : w.ownsRow B 367 2 (.slice a0 fs.length cap) fs.length (qu fs) := hO; clear hc ha
 rcases jiW hp h with h0 | ⟨h0, HI⟩
 · clear h hO; subst h0; have hO2 : w.ownsRow B 367 2 (.slice a0 0 cap) 0 [] := hO'; clear hO'; go_enter Tryz.func291, Tryz.ntmps291; go_wp2_with fail; refine (qD line _ [58] a b true rfl HC.out _ (by omega) hm).mono ?_; rintro e u ⟨rfl, q, rfl⟩; go_wp2_with fail; refine (jb0 a true HA.out hal _).mono ?_; rintro e u ⟨rfl, hu⟩; have hu' := hu.symm; subst hu'
   go_wp2_with (at_builtin; refine wpList_append_own _ rfl _ _ 317 rfl B 367 i0 _ 2 32 Tryz.underlying317 hi hz0 hz1 hz2 rfl (by decide) (.slice a0 0 cap) 0 [] rfl (World.ownsRow.alloc (show World.ownsRow (w.drewN q) _ _ _ _ _ _ from hO2) _) ⟨w.heap.size, 0, none⟩ 1 1 [.string (S a), .string (S b)] rfl rfl (jau _ _ _ _) ?c2 ?c3 ?c4 ?c5 ?_)
   case c2 => intro u hu; simp at hu; rcases hu with rfl | rfl <;> rfl
   case c3 => unfold maxLen; omega
   case c4 => omega
   case c5 => simp; omega
   intro v' w2 hown' hgrow _; have hB2 := ((jbm (Below.refl B w) q).alloc (by simpa using hBw) _).grown hgrow (by simp; omega) (fun j hj => (World.ownsRow.lt hO2 j hj).1); clear hgrow; go_wp2; go_ret2; exact ⟨v', rfl, by unfold OwnF; exact hown', hB2⟩
 · clear h hO; go_enter Tryz.func291, Tryz.ntmps291; go_wp2_with fail; refine (indexByte_any _ _ _).mono ?_; rintro e u ⟨rfl, hu⟩; have hu' := hu.symm; subst hu'; rw [HI.out]; go_wp2_with fail; refine (qD line _ [58] a b true rfl HC.out _ (by omega) hm).mono ?_; rintro e u ⟨rfl, q, rfl⟩; go_wp2_with fail; refine (jb0 a true HA.out hal _).mono ?_; rintro e u ⟨rfl, hu⟩; have hu' := hu.symm; subst hu'
   go_wp2_with (at_builtin; refine wpList_append_own _ rfl _ _ 317 rfl B 367 i0 _ 2 32 Tryz.underlying317 hi hz0 hz1 hz2 rfl (by decide) (.slice a0 fs.length cap) fs.length (qu fs) rfl (World.ownsRow.alloc (show World.ownsRow (w.drewN q) _ _ _ _ _ _ from hO') _) ⟨w.heap.size, 0, none⟩ 1 1 [.string (S a), .string (S b)] rfl rfl (jau _ _ _ _) ?c2 ?c3 ?c4 ?c5 ?_)
   case c2 => intro u hu; simp at hu; rcases hu with rfl | rfl <;> rfl
   case c3 => unfold maxLen; omega
   case c4 => omega
   case c5 => simp; omega
   intro v' w2 hown' hgrow _; have hB2 := ((jbm (Below.refl B w) q).alloc (by simpa using hBw) _).grown hgrow (by simp; omega) (fun j hj => (World.ownsRow.lt hO' j hj).1); clear hgrow; go_wp2; go_ret2; exact ⟨v', rfl, by unfold OwnF; rw [jdi, jgC, List.length_append]; exact hown', hB2⟩
theorem ji1 {w w' : World} {base : Nat} {e : TypeId} {size : Nat} {v : Value} {n : Nat} {xs : List Value} (h : w.ownsRow base e size v n xs) (hb : Below w.heap.size w w') : w'.ownsRow base e size v n xs := by
 refine ⟨h.1, ?_⟩
 rcases h.2 with h' | ⟨g, cap, cur, h1, h2, hg, r⟩
 · exact .inl h'
 · refine .inr ⟨g, cap, cur, h1, h2, ?_, r⟩; rw [hb.block g (by
    rcases Nat.lt_or_ge g w.heap.size with h' | h'
    · exact h'
    · rw [Array.getElem?_eq_none h'] at hg; cases hg)]
   exact hg
theorem OwnF.below {w w' : World} {B : Nat} {v : Value} {fs : List F} (h : OwnF w B v fs) (hb : Below w.heap.size w w') : OwnF w' B v fs := ji1 h hb
theorem OwnF.far {w : World} {B : Nat} {v : Value} {fs : List F} (h : OwnF w B v fs) {p : Addr} (hp : p.block < B) (u : Value) : OwnF (w.setCell p u) B v fs := ownsRow_setCell_below h hp u
theorem OwnF.nil (w : World) (B : Nat) : OwnF w B (.slice none 0 0) [] := World.ownsRow_nil _ _ _ _
theorem jhQ (l : List UInt8) : (S l).toList.isEmpty = l.isEmpty := by rw [Lib.toList_data, jj]
def FreshA (n : Nat) (a : Option Addr) : Prop := ∀ b o q, a = some ⟨b, o, q⟩ → n ≤ b
theorem FreshA.nil (n : Nat) : FreshA n none := fun _ _ _ h => by cases h
theorem OwnF.fresh {w : World} {B n : Nat} {a : Option Addr} {c k : Nat} {fs : List F} (h : OwnF w B (.slice a k c) fs) (hn : n ≤ B) : FreshA n a := by
 intro b o q e; subst e
 rcases h.2 with ⟨h', _⟩ | ⟨g, cap, cur, h', hb, _⟩
 · simp at h'
 · simp only [Value.slice.injEq, Option.some.injEq, Addr.mk.injEq] at h'; obtain ⟨⟨e, _⟩, _⟩ := h'; omega
def oddT (s : List UInt8) : Bool :=
 decide (s.length ≤ 2000) && (!(Lib.cut s [13, 10]).2.2 || (!(Lib.cut s [13, 10]).1.isEmpty && (!(Lib.cut (Lib.cut s [13, 10]).1 [58]).2.2 || !jbs (Lib.cut (Lib.cut s [13, 10]).1 [58]).1 || (Lib.cut s [13, 10]).2.1.isEmpty)))
def OddQ (w : World) (e : Ending) (w' : World) : Prop :=
 ∃ p er : Int, e = .returned (.tuple #[.agg #[.slice none 0 0, .string ⟨#[]⟩], .int .i64 p, .int .i64 er]) ∧ (er = 3 ∨ er = 4) ∧ Below w.heap.size w w'
theorem jlu (s x : List UInt8) : (Lib.cut s x).1.length ≤ s.length := by unfold Lib.cut; split <;> simp <;> omega
theorem ji8 (s : List UInt8) (w : World) (hs : oddT s = true) (hm : maxLenCell w) :
 Calls Tryz.prog 268 #[.string (S s)] w (OddQ w) := by
 unfold oddT at hs; simp only [Bool.and_eq_true, Bool.or_eq_true, decide_eq_true_eq, Bool.not_eq_true'] at hs; obtain ⟨hl, hs⟩ := hs; obtain ⟨a, b, t, hc⟩ : ∃ a b t, Lib.cut s [13, 10] = (a, b, t) := ⟨_, _, _, rfl⟩; have ha := jlu s [13, 10]; rw [hc] at hs ha; simp only at hs ha; obtain ⟨n, m, q, hn⟩ : ∃ n m q, Lib.cut a [58] = (n, m, q) := ⟨_, _, _, rfl⟩; have hnl := jlu a [58]; rw [hn] at hs hnl; simp only at hs hnl; have hz : (S s).size ≤ 2000 := by rw [jd]; exact hl
 have HC := hid (show Lib.cut (S s).data.toList [13, 10] = (a, b, t) by rw [jj]; exact hc); have HN := hid (show Lib.cut (S a).data.toList [58] = (n, m, q) by rw [jj]; exact hn); have HS := hid hs; have HA := hid (show a.length ≤ 2000 ∧ n.length ≤ 2000 ∧ (S a).size = a.length from ⟨by omega, by omega, jd a⟩); have hB0 : Below w.heap.size w (w.alloc (.cells #[.slice none 0 0, .string ⟨#[]⟩] 319)) := nb0 _ _; clear hl hs hc hn ha hnl; go_enter Tryz.func268, Tryz.ntmps268; go_wp2
 go_loopw [0, 5, 6] (fun x v i wr => ((x = .string (S s) ∧ v = .slice none 0 0 ∧ i = .int .i64 0) ∨ (x = .string (S []) ∧ i = .int .i64 1 ∧ ∃ a c n, v = .slice a n c)) ∧ Below (w.heap.size + 1) (w.alloc (.cells #[.slice none 0 0, .string ⟨#[]⟩] 319)) wr) (fun _ _ i _ => 2 - (intOf i).toNat)
 case atStart => exact ⟨.inl ⟨rfl, rfl, rfl⟩, Below.refl _ _⟩
 case round =>
  obtain ⟨hrel, hB⟩ := hrel; have hz1 := hB.size; simp only [World.size_alloc] at hz1; have hB1 : Below w.heap.size w wr := hB0.trans (hB.mono (by omega)); have hmr := maxLenCell_below hm hB1; have q0 : wr.cell? ⟨w.heap.size, 0, none⟩ = some (.slice none 0 0) := (hB.cell (by simp)).trans (by simp); have q1 : wr.cell? ⟨w.heap.size, 1, none⟩ = some (.string ⟨#[]⟩) := (hB.cell (by simp)).trans (by simp); have q2 : wr.frozen? ⟨w.heap.size, 0, none⟩ = false := (hB.frozen (by simp)).trans (by simp); have q3 : wr.frozen? ⟨w.heap.size, 1, none⟩ = false := (hB.frozen (by simp)).trans (by simp)
  rcases hrel with ⟨rfl, rfl, rfl⟩ | ⟨rfl, rfl, v1, v2, v3, rfl⟩
  · cases t with
    | false =>
      go_wp2_with fail; refine (qD (S s) _ [13, 10] _ _ false rfl HC.out _ (by omega) hmr).mono ?_; rintro e u ⟨rfl, r, rfl⟩; go_wp2; exact bodyPost_ret (v := .tuple #[.agg #[.slice none 0 0, .string ⟨#[]⟩], .int .i64 0, .int .i64 4]) (by simp [results, Tryz.results268, go_sem, q0, q1]) rfl ⟨0, 4, rfl, .inr rfl, by first | exact jbm hB1 _ | exact ((jbm hB1 _).setCell (by simp) _).setCell (by simp) _⟩
    | true =>
      obtain ⟨hS0, hS⟩ := HS.out.resolve_left (by simp); have he : (S a).toList.isEmpty = false := by rw [jhQ]; exact hS0
      have hap : 0 < (S a).size := by rw [HA.out.2.2]; cases a with | nil => cases hS0 | cons c t => simp
      have HX := hid hS; have hgo : jcR [] (S a).data.toList = false := rfl; clear hS hS0; have bad : ((q = false ∨ jbs n = false) → ∀ v : World, maxLenCell v → Calls Tryz.prog 291 #[.slice none 0 0, .string (S a)] v fun e w' => e = .returned (.tuple #[.slice none 0 0, .int .i64 3]) ∧ Below v.heap.size v w') := fun h v hv => by
       cases hq : q with
       | false => exact jeJ v.heap.size _ [] (S a) v (OwnF.nil _ _) hv hap (by have := HA.out; omega) (by simp) hgo n m (by rw [HN.out, hq])
       | true => exact jfL v.heap.size _ [] (S a) v (OwnF.nil _ _) hv hap (by have := HA.out; omega) (by simp) hgo n m (by rw [HN.out, hq]) (h.resolve_left (by simp [hq])) (by have := HA.out; omega)
      by_cases hb : q = false ∨ jbs n = false
      · have HBD := hid (bad hb); clear bad hb; go_wp2_with fail; refine (qD (S s) _ [13, 10] a b true rfl HC.out _ (by omega) hmr).mono ?_; rintro e u ⟨rfl, r, rfl⟩; go_wp2_with fail; refine (HBD.out _ (maxLenCell_below hmr (jbm (Below.refl _ _) r))).mono ?_; rintro e u ⟨rfl, hb2⟩; have hB2 := (jbm hB r).trans (hb2.mono (by simpa using hz1)); have r0 : u.cell? ⟨w.heap.size, 0, none⟩ = some (.slice none 0 0) := (hB2.cell (by simp)).trans (by simp); have r1 : u.cell? ⟨w.heap.size, 1, none⟩ = some (.string ⟨#[]⟩) := (hB2.cell (by simp)).trans (by simp); have r2 : u.frozen? ⟨w.heap.size, 0, none⟩ = false := (hB2.frozen (by simp)).trans (by simp); have r3 : u.frozen? ⟨w.heap.size, 1, none⟩ = false := (hB2.frozen (by simp)).trans (by simp); go_wp2; exact bodyPost_ret (v := .tuple #[.agg #[.slice none 0 0, .string ⟨#[]⟩], .int .i64 0, .int .i64 3]) (by simp [results, Tryz.results268, go_sem, r0, r1]) rfl ⟨0, 3, rfl, .inl rfl, by first | exact hB0.trans (hB2.mono (by omega)) | exact ((hB0.trans (hB2.mono (by omega))).setCell (by simp) _).setCell (by simp) _⟩
      · simp only [not_or, Bool.not_eq_false] at hb; obtain ⟨rfl, hnm⟩ := hb; have hbe : b = [] := by
          rcases HX.out with (h | h) | h
          · cases h
          · rw [hnm] at h; cases h
          · exact List.isEmpty_iff.1 h
        subst hbe; have HTN := hid (fun (v : World) (hv : maxLenCell v) => jk6 v.heap.size (.slice none 0 0) [] (S a) v (OwnF.nil _ _) (Nat.le_refl _) hv hap (by have := HA.out; omega) (by simp) hgo n m HN.out hnm (by have := HA.out; omega)); clear bad hnm; go_wp2_with fail; refine (qD (S s) _ [13, 10] a [] true rfl HC.out _ (by omega) hmr).mono ?_; rintro e u ⟨rfl, r, rfl⟩; go_wp2_with fail; refine (HTN.out _ (maxLenCell_below hmr (jbm (Below.refl _ _) r))).mono ?_; rintro e u ⟨v', rfl, hO2, hb2⟩; obtain ⟨v1, v3, rfl⟩ := hO2.any; have hB2 := hid ((jbm hB r).trans (hb2.mono (by simpa using hz1))); clear hb2 hO2; go_wp2
        go_roundw
        case rel => first | exact ⟨.inr ⟨rfl, by go_num, _, _, _, rfl⟩, hB2.out⟩ | ((repeat apply Exists.intro); exact ⟨⟨.inr ⟨rfl, by go_num, _, _, _, rfl⟩, hB2.out⟩, rfl⟩) | (refine ⟨trivial, ?_⟩; (repeat apply Exists.intro); exact ⟨⟨.inr ⟨rfl, by go_num, _, _, _, rfl⟩, hB2.out⟩, rfl⟩)
        case measure => simp [intOf]
  · have HC0 := hid (show Lib.cut (S []).data.toList [13, 10] = ([], [], false) from by kernel_rfl); go_wp2_with fail; refine (qD (S []) _ [13, 10] _ _ false rfl HC0.out _ (by rw [jd]; simp) hmr).mono ?_; rintro e u ⟨rfl, r, rfl⟩; go_wp2; exact bodyPost_ret (v := .tuple #[.agg #[.slice none 0 0, .string ⟨#[]⟩], .int .i64 1, .int .i64 4]) (by simp [results, Tryz.results268, go_sem, q0, q1]) rfl ⟨1, 4, rfl, .inr rfl, by first | exact jbm hB1 _ | exact ((jbm hB1 _).setCell (by simp) _).setCell (by simp) _⟩
theorem jal {w : World} (o : Obj) {b : Nat} {x : Obj} (h : w.heap[b]? = some x) : (w.alloc o).heap[b]? = some x := by
 have hb : b < w.heap.size := (Array.getElem?_eq_some_iff.1 h).1
 show (w.heap.push o)[b]? = _
 rw [Array.getElem?_push_lt hb, ← h, Array.getElem?_eq_getElem hb]
theorem jx {w : World} {p : Nat} {cs : List Value} {t : TypeId} (h : w.heap[p]? = some (.cells cs.toArray t)) {i : Nat} {v : Value} (hi : cs[i]? = some v) : w.cell? ⟨p, i, none⟩ = some v := by simp [World.cell?, h, hi]
theorem jb5 {w : World} {p : Nat} {cs : Array Value} {t : TypeId} (h : w.heap[p]? = some (.cells cs t)) (i : Nat) : w.frozen? ⟨p, i, none⟩ = false := by simp only [World.frozen?, h]; simp
theorem zg {w w' : World} {b : Nat} {x : Obj} (h : w.heap[b]? = some x) (hb : Below w.heap.size w w') : w'.heap[b]? = some x := (hb.block b (Array.getElem?_eq_some_iff.1 h).1).trans h
structure OddL (fl fd tl td tx : List UInt8) : Prop where
 fr : jS fl fd = 0
 tt : jS tl td = 0
 tx : oddT tx = true
 sz : fl.length ≤ 5000 ∧ fd.length ≤ 5000 ∧ tl.length ≤ 5000 ∧ td.length ≤ 5000
def OdC (w : World) (v : Value) (e : Ending) (w' : World) : Prop := ∃ er : Int, e = .returned (.tuple #[v, .int .i64 er]) ∧ (er = 3 ∨ er = 4) ∧ Below w.heap.size w w'
theorem jg3 (fl fd tl td tx : List UInt8) (w : World) (h : OddL fl fd tl td tx) (hm : maxLenCell w) :
 Calls Tryz.prog 261 #[.agg #[.string (S fl), .string (S fd), .string (S tl), .string (S td), .string (S tx)]] w (OdC w (.agg #[.slice none 0 0, .string ⟨#[]⟩])) := by
 obtain ⟨W0, hW0⟩ : ∃ W0, W0 = (w.alloc (.cells #[.string (S fl), .string (S fd), .string (S tl), .string (S td), .string (S tx)] 183)).alloc (.cells #[.slice none 0 0, .string ⟨#[]⟩] 319) := ⟨_, rfl⟩; have HB0 := hid (show Below w.heap.size w W0 by rw [hW0]; exact (nb0 _ _).alloc (by simp) _); have hH : W0.heap[w.heap.size]? = some (.cells #[.string (S fl), .string (S fd), .string (S tl), .string (S td), .string (S tx)] 183) := by rw [hW0]; exact jal _ (heap_alloc_new w _)
 have HR0 := hid (show W0.heap[w.heap.size + 1]? = some (.cells #[.slice none 0 0, .string ⟨#[]⟩] 319) by rw [hW0]; have := heap_alloc_new (w.alloc (.cells #[.string (S fl), .string (S fd), .string (S tl), .string (S td), .string (S tx)] 183)) (.cells #[.slice none 0 0, .string ⟨#[]⟩] 319); simpa using this); have HWE := hid hW0; have g2 := jx (i := 2) hH rfl; have g3 := jx (i := 3) hH rfl; have g4 := jx (i := 4) hH rfl; have HF := hid (show ∀ u, Calls Tryz.prog 34 #[.agg #[.string (S fl), .string (S fd)]] u fun e u' => e = .returned (.int .i64 0) ∧ Below u.heap.size u u' from fun u => by
  have := zR (S fl) (S fd) u (by rw [jd]; have := h.sz; omega) (by rw [jd]; have := h.sz; omega)
  rwa [jj, jj, h.fr] at this)
 have HT := hid (show ∀ u, Calls Tryz.prog 34 #[.agg #[.string (S tl), .string (S td)]] u fun e u' => e = .returned (.int .i64 0) ∧ Below u.heap.size u u' from fun u => by
  have := zR (S tl) (S td) u (by rw [jd]; have := h.sz; omega) (by rw [jd]; have := h.sz; omega)
  rwa [jj, jj, h.tt] at this)
 have HP := hid (fun u (hu : Below w.heap.size w u) => ji8 tx u h.tx (maxLenCell_below hm hu)); clear hH hW0 h; go_enter Tryz.func261, Tryz.ntmps261; go_wp2_with fail; rw [← HWE.out]; refine (HF.out W0).mono ?_; rintro e w1 ⟨rfl, hb1⟩; simp only; have HB1 := hid (HB0.out.trans (hb1.mono HB0.out.size)); have HR1 := hid (zg HR0.out hb1); have k2 := ja g2 hb1; have k3 := ja g3 hb1; have k4 := ja g4 hb1; clear hb1 g2 g3 g4 HWE; go_wp2_with fail; refine (HT.out w1).mono ?_; rintro e w2 ⟨rfl, hb2⟩; simp only; have HB2 := hid (HB1.out.trans (hb2.mono HB1.out.size)); have HR2 := hid (zg HR1.out hb2); have d4 := ja k4 hb2; clear hb2 k2 k3 k4; go_wp2_with fail; refine (HP.out w2 HB2.out).mono ?_; rintro e w3 ⟨p, er, rfl, her, hb3⟩; simp only; have HB3 := hid (HB2.out.trans (hb3.mono HB2.out.size)); have HR4 := hid (jal (.cells #[.slice none 0 0, .string ⟨#[]⟩] 319) (zg HR2.out hb3)); have HA4 := hid (show Below w3.heap.size w3 (w3.alloc (.cells #[.slice none 0 0, .string ⟨#[]⟩] 319)) from nb0 _ _); have r0 := jx (i := 0) (cs := [.slice none 0 0, .string ⟨#[]⟩]) HR4.out rfl; have r1 := jx (i := 1) (cs := [.slice none 0 0, .string ⟨#[]⟩]) HR4.out rfl; have f0 := jb5 HR4.out 0; have f1 := jb5 HR4.out 1; have HE := hid her; clear hb3 her; go_wp2; refine bodyPost_ret (v := .tuple #[.agg #[.slice none 0 0, .string ⟨#[]⟩], .int .i64 er]) (by simp [results, Tryz.results261, go_sem, *]) rfl ?_; exact ⟨er, rfl, HE.out, ((HB3.out.trans (HA4.out.mono HB3.out.size)).setCell (by simp) _).setCell (by simp) _⟩
theorem jkC (fl fd tl td tx : List UInt8) (w : World) (h : OddL fl fd tl td tx) (hm : maxLenCell w) :
 Calls Tryz.prog 242 #[.agg #[.string (S fl), .string (S fd), .string (S tl), .string (S td), .string (S tx)]] w (OdC w (.agg #[.string (S fl), .string (S fd), .string (S tl), .string (S td), .string (S tx), .slice none 0 0, .string ⟨#[]⟩])) := by
 obtain ⟨W0, hW0⟩ : ∃ W0, W0 = (w.alloc (.cells #[.string (S fl), .string (S fd), .string (S tl), .string (S td), .string (S tx)] 183)).alloc (.cells #[.string ⟨#[]⟩, .string ⟨#[]⟩, .string ⟨#[]⟩, .string ⟨#[]⟩, .string ⟨#[]⟩, .slice none 0 0, .string ⟨#[]⟩] 321) := ⟨_, rfl⟩; have HWE := hid hW0; have HB0 := hid (show Below w.heap.size w W0 by rw [hW0]; exact (nb0 _ _).alloc (by simp) _); have HL := hid (show W0.heap[w.heap.size]? = some (.cells #[.string (S fl), .string (S fd), .string (S tl), .string (S td), .string (S tx)] 183) by rw [hW0]; exact jal _ (heap_alloc_new w _)); have HR := hid (show W0.heap[w.heap.size + 1]? = some (.cells #[.string ⟨#[]⟩, .string ⟨#[]⟩, .string ⟨#[]⟩, .string ⟨#[]⟩, .string ⟨#[]⟩, .slice none 0 0, .string ⟨#[]⟩] 321) by rw [hW0]; have := heap_alloc_new (w.alloc (.cells #[.string (S fl), .string (S fd), .string (S tl), .string (S td), .string (S tx)] 183)) (.cells #[.string ⟨#[]⟩, .string ⟨#[]⟩, .string ⟨#[]⟩, .string ⟨#[]⟩, .string ⟨#[]⟩, .slice none 0 0, .string ⟨#[]⟩] 321); simpa using this); have HC := hid (jg3 fl fd tl td tx W0 h (maxLenCell_below hm HB0.out)); clear hm h hW0; go_enter Tryz.func242, Tryz.ntmps242; go_wp2_with fail; rw [← HWE.out]; refine HC.out.mono ?_; rintro e w1 ⟨er, rfl, her, hb1⟩; simp only; have hal : Below w1.heap.size w1 (w1.alloc (.cells #[.slice none 0 0, .string ⟨#[]⟩] 319)) := nb0 _ _; have HB1 := hid (HB0.out.trans ((hb1.trans (hal.mono hb1.size)).mono HB0.out.size)); have hL1 := zg (zg HL.out hb1) hal; have hR1 := zg (zg HR.out hb1) hal; have l0 := jx (i := 0) hL1 rfl; have l1 := jx (i := 1) hL1 rfl; have l2 := jx (i := 2) hL1 rfl; have l3 := jx (i := 3) hL1 rfl; have l4 := jx (i := 4) hL1 rfl; have fr : ∀ j, (w1.alloc (.cells #[.slice none 0 0, .string ⟨#[]⟩] 319)).frozen? ⟨w.heap.size + 1, j, none⟩ = false := jb5 hR1; have r0 := jx (i := 0) hR1 rfl; have r1 := jx (i := 1) hR1 rfl; have r2 := jx (i := 2) hR1 rfl; have r3 := jx (i := 3) hR1 rfl; have r4 := jx (i := 4) hR1 rfl; have r5 := jx (i := 5) hR1 rfl; have r6 := jx (i := 6) hR1 rfl; have f0 := fr 0; have f1 := fr 1; have f2 := fr 2; have f3 := fr 3; have f4 := fr 4; have f5 := fr 5; have f6 := fr 6; have HE := hid her; clear hb1 hal hL1 hR1 HWE HL HR HC HB0 fr her; go_wp2; refine bodyPost_ret (v := .tuple #[.agg #[.string (S fl), .string (S fd), .string (S tl), .string (S td), .string (S tx), .slice none 0 0, .string ⟨#[]⟩], .int .i64 er]) (by simp [results, Tryz.results242, go_sem, *]) rfl ?_; exact ⟨er, rfl, HE.out, ((((((HB1.out.setCell (by simp) _).setCell (by simp) _).setCell (by simp) _).setCell (by simp) _).setCell (by simp) _).setCell (by simp) _).setCell (by simp) _⟩
theorem jhO (n : Nat) (l : List Cmd) (a : Option Addr) (k : Nat) (fl fd tl td tx : List UInt8) (w : World) (hw : Tabs w) (hm : maxLenCell w) (h : OddL fl fd tl td tx) (hk : l.length ≤ k) (hn : l = [] → a = none ∧ k = 0) (hs : ∀ x ∈ l, zP (n + 1) x) (hC : CmdsM anyB (n + 1) w (.slice a l.length k) l) (hr : vu (n + 1) l = 0) :
 Calls Tryz.prog 214 #[.slice a l.length k, .agg #[.string (S fl), .string (S fd), .string (S tl), .string (S td), .string (S tx)]] w (OdC w (.agg #[.slice none 0 0, .int .i64 0, .bool false, .int .i64 0])) := by
 obtain ⟨W0, hW0⟩ : ∃ W0, W0 = (w.alloc (.cells #[.string (S fl), .string (S fd), .string (S tl), .string (S td), .string (S tx)] 183)).alloc (.cells #[.slice none 0 0, .int .i64 0, .bool false, .int .i64 0] 289) := ⟨_, rfl⟩; have HWE := hid hW0; have HB0 := hid (show Below w.heap.size w W0 by rw [hW0]; exact (nb0 _ _).alloc (by simp) _); have HL0 := hid (show W0.heap[w.heap.size]? = some (.cells #[.string (S fl), .string (S fd), .string (S tl), .string (S td), .string (S tx)] 183) by rw [hW0]; exact jal _ (heap_alloc_new w _)); have HR0 := hid (show W0.heap[w.heap.size + 1]? = some (.cells #[.slice none 0 0, .int .i64 0, .bool false, .int .i64 0] 289) by rw [hW0]; have := heap_alloc_new (w.alloc (.cells #[.string (S fl), .string (S fd), .string (S tl), .string (S td), .string (S tx)] 183)) (.cells #[.slice none 0 0, .int .i64 0, .bool false, .int .i64 0] 289); simpa using this); have HCH := hid (show Calls Tryz.prog 67 #[.slice a l.length k] W0 fun e w' => e = .returned (.int .i64 0) ∧ Below W0.heap.size W0 w' by
  have := jc1 n l a k W0 (hw.next HB0.out) hk hn hs (CmdsM.next hC HB0.out); rw [hr] at this; exact this)
 have HOP := hid (fun u (hu : Below w.heap.size w u) => jkC fl fd tl td tx u h (maxLenCell_below hm hu)); have hlm := hC.small; clear hw hk hn hs hC hr hW0 h; go_enter Tryz.func214, Tryz.ntmps214; go_wp2_with fail; rw [← HWE.out]; refine HCH.out.mono ?_; rintro e w1 ⟨rfl, hb1⟩; simp only; have HB1 := hid (HB0.out.trans (hb1.mono HB0.out.size)); have hL1 := zg HL0.out hb1; have HR1 := hid (zg HR0.out hb1); have l0 := jx (i := 0) hL1 rfl; have l1 := jx (i := 1) hL1 rfl; have l2 := jx (i := 2) hL1 rfl; have l3 := jx (i := 3) hL1 rfl; have l4 := jx (i := 4) hL1 rfl; clear hb1 hL1 HWE HCH; go_wp2_with fail; refine (HOP.out w1 HB1.out).mono ?_; rintro e w2 ⟨er, rfl, her, hb2⟩; simp only; have hal : Below w2.heap.size w2 (w2.alloc (.cells #[.string (S fl), .string (S fd), .string (S tl), .string (S td), .string (S tx), .slice none 0 0, .string ⟨#[]⟩] 321)) := nb0 _ _; have HB2 := hid (HB1.out.trans ((hb2.trans (hal.mono hb2.size)).mono HB1.out.size)); have hR2 := zg (zg HR1.out hb2) hal; have r0 := jx (i := 0) hR2 rfl; have r1 := jx (i := 1) hR2 rfl; have r2 := jx (i := 2) hR2 rfl; have r3 := jx (i := 3) hR2 rfl; have g0 := jb5 hR2 0; have g1 := jb5 hR2 1; have g2 := jb5 hR2 2; have g3 := jb5 hR2 3; have heb : (er == 0) = false := by rcases her with rfl | rfl <;> rfl
 have HE := hid her; clear hb2 hR2 hal her HOP l0 l1 l2 l3 l4; go_wp2; refine bodyPost_ret (v := .tuple #[.agg #[.slice none 0 0, .int .i64 0, .bool false, .int .i64 0], .int .i64 er]) (by simp [results, Tryz.results214, go_sem, *]) rfl ?_; exact ⟨er, rfl, HE.out, (((HB2.out.setCell (by simp) _).setCell (by simp) _).setCell (by simp) _).setCell (by simp) _⟩
theorem jdc (n : Nat) (l : List Cmd) (a : Option Addr) (k : Nat) (fl fd tl td tx : List UInt8) (w : World) (hw : Tabs w) (hm : maxLenCell w) (h : OddL fl fd tl td tx) (hk : l.length ≤ k) (hn : l = [] → a = none ∧ k = 0) (hs : ∀ x ∈ l, zP (n + 1) x) (hC : CmdsM anyB (n + 1) w (.slice a l.length k) l) (hr : vu (n + 1) l = 0) :
 Calls Tryz.prog 183 #[.agg #[.string (S fl), .string (S fd), .string (S tl), .string (S td), .string (S tx)], .slice a l.length k] w (OdC w (.slice none 0 0)) := by
 obtain ⟨W1, hW1⟩ : ∃ W1, W1 = w.alloc (.cells #[.string (S fl), .string (S fd), .string (S tl), .string (S td), .string (S tx)] 183) := ⟨_, rfl⟩; have HWE := hid hW1; have hB1 : Below w.heap.size w W1 := by rw [hW1]; exact nb0 _ _
 have HB1 := hid hB1; have hX1 : W1.heap[w.heap.size]? = some (.cells #[.string (S fl), .string (S fd), .string (S tl), .string (S td), .string (S tx)] 183) := by rw [hW1]; exact heap_alloc_new w _
 have l0 := jx (i := 0) hX1 rfl; have l1 := jx (i := 1) hX1 rfl; have l2 := jx (i := 2) hX1 rfl; have l3 := jx (i := 3) hX1 rfl; have l4 := jx (i := 4) hX1 rfl; have HJ := hid (jhO n l a k fl fd tl td tx W1 (hw.next hB1) (maxLenCell_below hm hB1) h hk hn hs (CmdsM.next hC hB1) hr); clear hw hm h hk hn hs hC hr hW1 hB1 hX1; go_enter Tryz.func183, Tryz.ntmps183; go_upto_region 1 with fail
 rw [← HWE.out]; go_wp2_with fail; refine HJ.out.mono ?_; rintro e w2 ⟨er, rfl, her, hb2⟩; simp only; have heb : (er == 0) = false := by rcases her with rfl | rfl <;> rfl
 have HE := hid (show OdC w (.slice none 0 0) (.returned (.tuple #[.slice none 0 0, .int .i64 er])) (w2.alloc (.cells #[.slice none 0 0, .int .i64 0, .bool false, .int .i64 0] 289)) from ⟨er, rfl, her, (HB1.out.trans (hb2.mono HB1.out.size)).alloc (Nat.le_trans HB1.out.size hb2.size) _⟩); clear hb2 her; go_wp2; go_ret2; exact HE.out
end Go.Proofs.YtmgdnhjemhhleaaGreatDoor
