/-
  What the laws of the layer of scripts want besides their walks: what the table of words holds.
-/
import Derived.Test.YtgooljlpffnaeaaGreatDoorCards
import Derived.Test.YtgooljlpffnaeaaGreatDoorTie
import Derived.ChangeOld
import Derived.Deep.DeepHandedRow
import Derived.Lib.LaidTab
import Derived.LaidSub
import Derived.Test.YtgooljlpffnaeaaGreatDoorFRulCs
namespace Go.Proofs.YtgooljlpffnaeaaGreatDoor
open Go.ChangeShapes Go.WideShapes Go.ChangeAt Go.RowKit
theorem own : ownKnob Tryz.prog.godebug = none := by kernel_rfl
theorem laidOut : laidOutB Tryz.prog = true := by kernel_rfl
def layCells (cs : Array Value) : Obj → Obj
 | .cells _ t frozen => .cells cs t frozen
 | o => o
def wordCells : Array Value := (wTabs.flatMap fun r => r.map fun s => Value.string (S s)).toArray
def jlf : DataW Unit := .agg (wTabs.map fun r => .agg (r.map fun s => .lit (.string s)))
theorem jgD : (Rows.laid_postroom_script_words : DataW Unit) = jlf := by kernel_rfl
theorem words_of (W : World) (h : laidMetH Tryz.prog [("postroom/script.words", Rows.laid_postroom_script_words)] W) : WordsAt W := by
 have h1 : laidMet Tryz.prog [("postroom/script.words", Rows.laid_postroom_script_words)] W := h; rw [jgD] at h1; obtain ⟨ps, ⟨g', t', cs, fuel, p, q, hg', ht', hvar, hd, _, _⟩, _⟩ := h1; have hg : Tryz.prog.globalNamed "postroom/script.words" = some 3 := by kernel_rfl
 have hty : (Tryz.prog.globals[3]?).map (·.type) = some 271 := by kernel_rfl
 obtain rfl := Option.some.inj (hg.symm.trans hg'); obtain rfl := Option.some.inj (hty.symm.trans ht'); have c11 : Tryz.prog.cellsOf 233 = 11 := by kernel_rfl
 have c1 : Tryz.prog.cellsOf 9 = 1 := by kernel_rfl
 obtain ⟨xs, m, _, ex, _, hxl, hx⟩ := DataW.trod_array Tryz.underlying271 hd; have exs : xs.map (·.1) = wTabs.map fun r => (.agg (r.map fun s => .lit (.string s)) : DataW Unit) := by
  have := congrArg Prod.fst ex
  simpa [jlf] using this.symm
 intro k n hk hn; have hx' := hx k hk; rw [c11] at hx'; obtain ⟨y, hy⟩ : ∃ y, xs[k]? = some y := ⟨_, List.getElem?_eq_getElem (by omega)⟩; rw [hy] at hx'; have hwk : wTabs[k]? = some (wTabs.getD k []) := by
  match k, hk with
  | 0, _ | 1, _ | 2, _ | 3, _ => rfl
 have ey : y.1 = .agg ((wTabs.getD k []).map fun s => .lit (.string s)) := by
  have := congrArg (·[k]?) exs; simp only [List.getElem?_map, hy, hwk, Option.map_some, Option.some.injEq] at this; exact this
 obtain ⟨ys, m', _, ez, _, hyl, hz⟩ := DataW.trod_array Tryz.underlying233 hx'; have eys : ys.map (·.1) = (wTabs.getD k []).map fun s => (.lit (.string s) : DataW Unit) := by
  have := congrArg Prod.fst ez; rw [ey] at this
  simpa using this.symm
 have hz' := hz n hn; rw [c1] at hz'; obtain ⟨u, hu⟩ : ∃ u, ys[n]? = some u := ⟨_, List.getElem?_eq_getElem (by omega)⟩; rw [hu] at hz'; obtain ⟨s, e1, e2, _⟩ := DataW.trod_string Tryz.underlying9 hz'; have hwn : (wTabs.getD k [])[n]? = some (jK k n) := by
  have hlen := jiM k hk; rw [List.getElem?_eq_getElem (by omega), jla k n (by omega)]
 have e3 : u.1 = .lit (.string (jK k n)) := by
  have := congrArg (·[n]?) eys; simp only [List.getElem?_map, hu, hwn, Option.map_some, Option.some.injEq] at this; exact this
 have e4 : s.data.toList = jK k n := by
  rw [e2] at e3
  simpa using e3
 have e5 : cs[k * 11 + n]? = some (.string s) := by
  have := congrArg (·[0]?) e1; simp only [List.getElem?_take, List.getElem?_drop] at this
  simpa [hn, Nat.add_assoc] using this
 rw [World.var?_cell hg hvar (k * 11 + n)]; rw [← e4, jdC]
 simpa using e5
def flagCells : Array Value := (flagTab.flatMap fun x => [Value.string (S x.1), .int .i64 (x.2 : Nat)]).toArray
def jkZ : DataW Unit := .agg (flagTab.map fun x => .agg [.lit (.string x.1), .lit (.int .i64 (x.2 : Nat))])
theorem jgC : (Rows.laid_postroom_rule_flagNames : DataW Unit) = jkZ := by kernel_rfl
theorem flags_of (W : World) (h : laidMetH Tryz.prog [("postroom/rule.flagNames", Rows.laid_postroom_rule_flagNames)] W) : FlagsAt W := by
 have h1 : laidMet Tryz.prog [("postroom/rule.flagNames", Rows.laid_postroom_rule_flagNames)] W := h; rw [jgC] at h1; obtain ⟨ps, ⟨g', t', cs, fuel, p, q, hg', ht', hvar, hd, _, _⟩, _⟩ := h1; have hg : Tryz.prog.globalNamed "postroom/rule.flagNames" = some 4 := by kernel_rfl
 have hty : (Tryz.prog.globals[4]?).map (·.type) = some 300 := by kernel_rfl
 obtain rfl := Option.some.inj (hg.symm.trans hg'); obtain rfl := Option.some.inj (hty.symm.trans ht'); have c2 : Tryz.prog.cellsOf 299 = 2 := by kernel_rfl
 have c1 : Tryz.prog.cellsOf 9 = 1 := by kernel_rfl
 have ci : Tryz.prog.cellsOf 3 = 1 := by kernel_rfl
 obtain ⟨xs, m, _, ex, _, hxl, hx⟩ := DataW.trod_array Tryz.underlying300 hd; have exs : xs.map (·.1) = flagTab.map fun x => (.agg [.lit (.string x.1), .lit (.int .i64 (x.2 : Nat))] : DataW Unit) := by
  have := congrArg Prod.fst ex
  simpa [jkZ] using this.symm
 intro i hi; have hx' := hx i hi; rw [c2] at hx'; obtain ⟨y, hy⟩ : ∃ y, xs[i]? = some y := ⟨_, List.getElem?_eq_getElem (by omega)⟩; rw [hy] at hx'; have hft : flagTab[i]? = some (jaX i, jaY i) := by
  match i, hi with
  | 0, _ | 1, _ | 2, _ | 3, _ | 4, _ => rfl
 have ey : y.1 = .agg [.lit (.string (jaX i)), .lit (.int .i64 (jaY i : Nat))] := by
  have := congrArg (·[i]?) exs; simp only [List.getElem?_map, hy, hft, Option.map_some, Option.some.injEq] at this; exact this
 obtain ⟨zs, m', _, ez, _, hzl, hz⟩ := DataW.trod_struct Tryz.underlying299 hx'; have ezs : zs.map (·.1) = [(.lit (.string (jaX i)) : DataW Unit), .lit (.int .i64 (jaY i : Nat))] := by
  have := congrArg Prod.fst ez; rw [ey] at this
  simpa using this.symm
 obtain ⟨z0, z1, rfl⟩ : ∃ z0 z1, zs = [z0, z1] := by
  match zs, hzl with
  | [z0, z1], _ => exact ⟨z0, z1, rfl⟩
 have e0 : z0.1 = .lit (.string (jaX i)) := (List.cons.inj ezs).1; have e1 : z1.1 = .lit (.int .i64 (jaY i : Nat)) := (List.cons.inj (List.cons.inj ezs).2).1; have h0 := (hz 0 _ rfl).trans (show [z0, z1][0]? = some z0 from rfl); have h1' := (hz 1 _ rfl).trans (show [z0, z1][1]? = some z1 from rfl); obtain ⟨s, q0, q1, _⟩ := DataW.trod_string Tryz.underlying9 h0; obtain ⟨v, r0, r1, _⟩ := DataW.trod_int Tryz.underlying3 h1'; have q0 : List.take (Tryz.prog.cellsOf 9) (List.drop 0 (List.take 2 (List.drop (i * 2) cs.toList))) = [.string s] := q0; have r0 : List.take (Tryz.prog.cellsOf 3) (List.drop 1 (List.take 2 (List.drop (i * 2) cs.toList))) = [.int .i64 v] := r0; rw [c1] at q0; rw [ci] at r0; have es : s.data.toList = jaX i := by
  rw [q1] at e0
  simpa using e0
 have ev : v = (jaY i : Nat) := by
  rw [r1] at e1
  simpa using e1
 have f0 : cs[i * 2]? = some (.string s) := by
  have := congrArg (·[0]?) q0; simp only [List.getElem?_take, List.getElem?_drop] at this
  simpa using this
 have f1 : cs[i * 2 + 1]? = some (.int .i64 v) := by
  have := congrArg (·[0]?) r0; simp only [List.getElem?_take, List.getElem?_drop] at this
  simpa using this
 refine ⟨?_, ?_⟩
 · rw [World.var?_cell hg hvar (i * 2), ← es, jdC]
   simpa using f0
 · rw [World.var?_cell hg hvar (i * 2 + 1), ← ev]
   simpa using f1
def litC : DataW Unit → List Value
 | .lit (.int k n) => [.int k n]
 | .lit (.string s) => [.string (S s)]
 | _ => []
def jnn : DataW Unit → List Value
 | .agg l => l.flatMap litC
 | d => litC d
def cellsD : DataW Unit → Array Value
 | .agg l => (l.flatMap jnn).toArray
 | _ => #[]
theorem jca {W : World} {nm : String} {g n : Nat} {t : TypeId} {l : List (List UInt8)} (hg : Tryz.prog.globalNamed nm = some g) (hty : (Tryz.prog.globals[g]?).map (·.type) = some t) (hu : Tryz.prog.underlying t = some (.array n 9)) (hn : l.length = n)
 (h : laidMet Tryz.prog [(nm, (.agg (l.map fun s => .lit (.string s)) : DataW Unit))] W) : TabAt W g l := by
 obtain ⟨ps, ⟨g', t', cs, fuel, p, q, hg', ht', hvar, hd, _, _⟩, _⟩ := h; obtain rfl := Option.some.inj (hg.symm.trans hg'); obtain rfl := Option.some.inj (hty.symm.trans ht'); have c1 : Tryz.prog.cellsOf 9 = 1 := by kernel_rfl
 obtain ⟨xs, m, _, ex, _, hxl, hx⟩ := DataW.trod_array hu hd; have exs : xs.map (·.1) = l.map fun s => (.lit (.string s) : DataW Unit) := by
  have := congrArg Prod.fst ex
  simpa using this.symm
 intro i s hs; have hi : i < l.length := (List.getElem?_eq_some_iff.1 hs).1; have hx' := hx i (by omega); rw [c1] at hx'; obtain ⟨y, hy⟩ : ∃ y, xs[i]? = some y := ⟨_, List.getElem?_eq_getElem (by omega)⟩; rw [hy] at hx'; obtain ⟨b, e1, e2, _⟩ := DataW.trod_string Tryz.underlying9 hx'; have e3 : y.1 = .lit (.string s) := by
  have := congrArg (·[i]?) exs; simp only [List.getElem?_map, hy, hs, Option.map_some, Option.some.injEq] at this; exact this
 have e4 : b.data.toList = s := by
  rw [e2] at e3
  simpa using e3
 have e5 : cs[i]? = some (.string b) := by
  have := congrArg (·[0]?) e1; simp only [List.getElem?_take, List.getElem?_drop] at this
  simpa using this
 rw [World.var?_cell hg hvar i, ← e4, jdC]
 simpa using e5
def one (nm : String) (L : List (String × DataW Unit)) : List (String × DataW Unit) := L.filter fun x => x.1 == nm
def TabsM (w : World) : Prop := Tabs w ∧ maxLenCell w
theorem TabsM.next {w w' : World} (h : TabsM w) (hb : Below w.heap.size w w') : TabsM w' := ⟨h.1.next hb, maxLenCell_below h.2 hb⟩
theorem tabs_of (W : World) (L : List (String × DataW Unit)) (hsh : W.ShapedOpen Tryz.prog) (hL : laidMet Tryz.prog L W)
 (h1 : one "postroom/script.words" L = [("postroom/script.words", Rows.laid_postroom_script_words)]) (h2 : one "postroom/rule.flagNames" L = [("postroom/rule.flagNames", Rows.laid_postroom_rule_flagNames)])
 (h3 : one "postroom/rule.requirable" L = [("postroom/rule.requirable", .agg (extT.map fun s => .lit (.string s)))])
 (h4 : one "postroom/rule.envelopeParts" L = [("postroom/rule.envelopeParts", .agg (partT.map fun s => .lit (.string s)))])
 (h5 : one "postroom/rule.neededFor" L = [("postroom/rule.neededFor", .agg (needT.map fun s => .lit (.string s)))]) : TabsM W := by
 have f : ∀ nm, laidMet Tryz.prog (one nm L) W := fun nm => laidMet.filter (fun x => x.1 == nm) hL
 refine ⟨⟨words_of W ?_, ?_, ?_, ?_, flags_of W ?_⟩, maxLenCell_shaped W hsh⟩
 · have := f "postroom/script.words"; rw [h1] at this; exact this
 · have := f "postroom/rule.requirable"; rw [h3] at this; exact jca (n := 4) (by kernel_rfl) (by kernel_rfl) Tryz.underlying232 rfl this
 · have := f "postroom/rule.envelopeParts"; rw [h4] at this; exact jca (n := 2) (by kernel_rfl) (by kernel_rfl) Tryz.underlying336 rfl this
 · have := f "postroom/rule.neededFor"; rw [h5] at this; exact jca (n := 11) (by kernel_rfl) (by kernel_rfl) Tryz.underlying233 rfl this
 · have := f "postroom/rule.flagNames"; rw [h2] at this; exact this
open Go.Proofs
def jfY : Nat → Tst → Prop
 | 0, _ => False
 | n + 1, t => ∀ x ∈ t.tests, jfY n x
def jby : Nat → Cmd → Prop
 | 0, _ => False
 | n + 1, c => jfY n c.test ∧ (∀ x ∈ c.thn, jby n x) ∧ ∀ x ∈ c.els, jby n x
theorem RowM.impM {A : Type} {Q : Nat → Prop} {k : Nat} {P P' : A → List Value → Prop} {w : World} {v : Value} {l : List A} (h : RowM Q k P w v l) (hp : ∀ x ∈ l, ∀ cs, P x cs → P' x cs) : RowM Q k P' w v l := by
 obtain ⟨a, c, hv, hm, hx⟩ := h; refine ⟨a, c, hv, hm, fun i x hi => ?_⟩; obtain ⟨b, o, cs, ha, hb, hQ, hl, hc, hP⟩ := hx i x hi; exact ⟨b, o, cs, ha, hb, hQ, hl, hc, hp x (List.mem_of_getElem? hi) cs hP⟩
theorem TstM.less {Q : Nat → Prop} {w : World} : ∀ (n m : Nat) (t : Tst) (cs : List Value), jfY n t → TstM Q m w t cs → TstM Q n w t cs := by
 intro n
 induction n with
 | zero => intro m t cs h; exact h.elim
 | succ n ih =>
   intro m t cs hd h; cases m with
   | zero => exact h.elim
   | succ m =>
     obtain ⟨vn, vk, vt, h0, h1, h2, h3⟩ := h; exact ⟨vn, vk, vt, h0, h1, h2, RowM.impM h3 fun x hx cs hc => ih m x cs (hd x hx) hc⟩
theorem CmdM.less {Q : Nat → Prop} {w : World} : ∀ (n m : Nat) (t : Cmd) (cs : List Value), jby n t → CmdM Q m w t cs → CmdM Q n w t cs := by
 intro n
 induction n with
 | zero => intro m t cs h; exact h.elim
 | succ n ih =>
   intro m t cs hd h; cases m with
   | zero => exact h.elim
   | succ m =>
     obtain ⟨vx, vn, vk, vt, va, ve, h0, h1, h2, h3, h4⟩ := h; exact ⟨vx, vn, vk, vt, va, ve, h0, h1, TstM.less n m _ _ hd.1 h2, RowM.impM h3 fun x hx cs hc => ih m x cs (hd.2.1 x hx) hc, RowM.impM h4 fun x hx cs hc => ih m x cs (hd.2.2 x hx) hc⟩
theorem CmdsM.less {Q : Nat → Prop} {n m : Nat} {w : World} {v : Value} {l : List Cmd} (hd : ∀ x ∈ l, jby n x) (h : CmdsM Q m w v l) : CmdsM Q n w v l := RowM.impM h fun x hx cs hc => CmdM.less n m x cs (hd x hx) hc
def rdM (n : Nat) (s : List UInt8) : List Cmd × Int :=
 if (cutM s).2.2 ≠ 0 then ([], (cutM s).2.2)
 else if (jZ (cutM s).1).2.2 ≠ 0 then ([], (jZ (cutM s).1).2.2)
 else if ja7 n (jZ (cutM s).1).1 ≠ 0 then ([], ja7 n (jZ (cutM s).1).1)
 else ((jZ (cutM s).1).1, 0)
def RdP (w : World) (n : Nat) (r : List Cmd × Int) (e : Ending) (w' : World) : Prop :=
 ∃ a c, e = .returned (.tuple #[.slice a r.1.length c, .int .i64 r.2]) ∧ CmdsM (newB w.heap.size) n w' (.slice a r.1.length c) r.1 ∧ Below w.heap.size w w' ∧ jbz a r.1.length c
theorem jiG {w w' : World} {n : Nat} {r : List Cmd × Int} {x : Int} (h : r = ([], x)) (hb : Below w.heap.size w w') : RdP w n r (.returned (.tuple #[.slice none 0 0, .int .i64 x])) w' := by
 subst h; exact ⟨none, 0, rfl, jj _ _ _ _ _ _, hb, jaK⟩
set_option maxHeartbeats 4000000 in
set_option maxRecDepth 100000 in
theorem jaJ (n : Nat) (s : List UInt8) (w : World) (hm : TabsM w) (ht : ∀ t ∈ (cutM s).1, t.kind = 1 ∨ t.kind = 2 → t.text.length ≤ maxLen) (hl : (cutM s).1.length ≤ 400)
 (hs : (jZ (cutM s).1).2.2 = 0 → ∀ x ∈ (jZ (cutM s).1).1, vh (n + 1) x ∧ jby (n + 1) x) :
 Calls Tryz.prog 26 #[.string (S s)] w (RdP w (n + 1) (rdM (n + 1) s)) := by
 have HM := hid hm; obtain ⟨C, hC⟩ : ∃ C, C = cutM s := ⟨_, rfl⟩; have HRD := hid (show rdM (n + 1) s = if C.2.2 ≠ 0 then ([], C.2.2) else if (jZ C.1).2.2 ≠ 0 then ([], (jZ C.1).2.2) else if ja7 (n + 1) (jZ C.1).1 ≠ 0 then ([], ja7 (n + 1) (jZ C.1).1) else ((jZ C.1).1, 0) by rw [hC]; rfl); rw [← hC] at ht hl hs; obtain ⟨ts, p, x⟩ := C; simp only at ht hl hs HRD; obtain ⟨P, hP⟩ : ∃ P, P = jZ ts := ⟨_, rfl⟩; rw [← hP] at hs HRD; obtain ⟨cs, q, y⟩ := P; simp only at hs HRD; have HC := hid hC; have HP := hid hP; have HT := hid ht; have HS := hid hs; clear hm ht hs hC hP; go_enter Tryz.func26, Tryz.ntmps26; go_wp2_with fail; refine (jkI s w HM.out.2).mono ?_; rw [← HC.out]; rintro e w1 ⟨a1, c1, rfl, hT1, hb1⟩; simp only at hT1 ⊢; have HT1 := hid hT1; have HB1 := hid hb1; clear hT1 hb1
 by_cases hx : x = 0
 · subst hx; go_wp2_with fail; refine (jgQ a1 c1 ts w1 HT1.out (by unfold maxLen; omega) HT.out (HM.out.next HB1.out).1.1).mono ?_; rw [← HP.out]; rintro e w2 ⟨a2, c2, rfl, hC2, hb2, hr2⟩; simp only at hC2 hr2 ⊢; have HC2 := hid hC2; have HB2 := hid (HB1.out.trans (hb2.mono HB1.out.size)); have HN2 := hid (show CmdsM (newB w.heap.size) (ts.length + 3) w2 (.slice a2 cs.length c2) cs from RowM.imp hC2 (fun k hk => Nat.le_trans HB1.out.size hk) (Keeps.refl _ _) fun _ _ h => CmdM.imp (fun k hk => Nat.le_trans HB1.out.size hk) (Keeps.refl _ _) _ _ _ h); have HR2 := hid hr2; clear hC2 hb2 hr2
   by_cases hy : y = 0
   · have HS0 := hid (HS.out hy); clear HS; subst hy; obtain ⟨z, hz⟩ : ∃ z, z = ja7 (n + 1) cs := ⟨_, rfl⟩; rw [← hz] at HRD; have HZ := hid hz; clear hz; go_wp2_with fail; refine (jgW n cs a2 c2 w2 (HM.out.next HB2.out).1 HR2.out.1 (fun h => HR2.out.2 (by rw [h]; rfl)) (fun x hx => (HS0.out x hx).1) (CmdsM.less (fun x hx => (HS0.out x hx).2) HC2.out.any)).mono ?_; rw [← HZ.out]; rintro e w3 ⟨rfl, hb3⟩; have HB3 := hid (HB2.out.trans (hb3.mono HB2.out.size)); have HN3 := hid (CmdsM.less (fun x hx => (HS0.out x hx).2) (CmdsM.next HN2.out hb3)); clear hb3
     by_cases hz : z = 0
     · have HE := hid (show RdP w (n + 1) (rdM (n + 1) s) (.returned (.tuple #[.slice a2 cs.length c2, .int .i64 0])) w3 by
         rw [HRD.out, if_neg (by simp), if_neg (by simp), if_neg (by simpa using hz)]; exact ⟨a2, c2, rfl, HN3.out, HB3.out, HR2.out⟩)
       subst hz; go_wp2; go_ret2; exact HE.out
     · have HE := hid (show RdP w (n + 1) (rdM (n + 1) s) (.returned (.tuple #[.slice none 0 0, .int .i64 z])) w3 from jiG (by rw [HRD.out, if_neg (by simp), if_neg (by simp), if_pos hz]) HB3.out); go_wp2; go_ret2; exact HE.out
   · have HE := hid (show RdP w (n + 1) (rdM (n + 1) s) (.returned (.tuple #[.slice none 0 0, .int .i64 y])) w2 from jiG (by rw [HRD.out, if_neg (by simp), if_pos hy]) HB2.out); go_wp2; go_ret2; exact HE.out
 · have HE := hid (show RdP w (n + 1) (rdM (n + 1) s) (.returned (.tuple #[.slice none 0 0, .int .i64 x])) w1 from jiG (by rw [HRD.out, if_pos hx]) HB1.out); go_wp2; go_ret2; exact HE.out
def tokB : List Tok := [⟨1, [114, 101, 113, 117, 105, 114, 101], 0⟩, ⟨5, [91], 0⟩, ⟨4, [102, 105, 108, 101, 105, 110, 116, 111], 0⟩, ⟨5, [44], 0⟩, ⟨4, [105, 109, 97, 112, 52, 102, 108, 97, 103, 115], 0⟩, ⟨5, [93], 0⟩, ⟨5, [59], 0⟩, ⟨1, [105, 102], 0⟩, ⟨1, [104, 101, 97, 100, 101, 114], 0⟩, ⟨2, [99, 111, 110, 116, 97, 105, 110, 115], 0⟩, ⟨4, [115, 117, 98, 106, 101, 99, 116], 0⟩, ⟨4, [119, 111, 114, 107], 0⟩, ⟨5, [123], 0⟩, ⟨1, [115, 101, 116, 102, 108, 97, 103], 0⟩, ⟨4, [92, 83, 101, 101, 110], 0⟩, ⟨5, [59], 0⟩, ⟨1, [102, 105, 108, 101, 105, 110, 116, 111], 0⟩, ⟨4, [119, 111, 114, 107], 0⟩, ⟨5, [59], 0⟩, ⟨5, [125], 0⟩, ⟨1, [101, 108, 115, 105, 102], 0⟩, ⟨1, [115, 105, 122, 101], 0⟩, ⟨2, [111, 118, 101, 114], 0⟩, ⟨3, [], 300⟩, ⟨5, [123], 0⟩, ⟨1, [100, 105, 115, 99, 97, 114, 100], 0⟩, ⟨5, [59], 0⟩, ⟨5, [125], 0⟩]
def tokC : List Tok := [⟨1, [114, 101, 113, 117, 105, 114, 101], 0⟩, ⟨5, [91], 0⟩, ⟨4, [114, 101, 106, 101, 99, 116], 0⟩, ⟨5, [44], 0⟩, ⟨4, [101, 110, 118, 101, 108, 111, 112, 101], 0⟩, ⟨5, [93], 0⟩, ⟨5, [59], 0⟩, ⟨1, [105, 102], 0⟩, ⟨1, [101, 110, 118, 101, 108, 111, 112, 101], 0⟩, ⟨2, [108, 111, 99, 97, 108, 112, 97, 114, 116], 0⟩, ⟨4, [102, 114, 111, 109], 0⟩, ⟨4, [115, 112, 97, 109], 0⟩, ⟨5, [123], 0⟩, ⟨1, [114, 101, 106, 101, 99, 116], 0⟩, ⟨4, [110, 111], 0⟩, ⟨5, [59], 0⟩, ⟨5, [125], 0⟩, ⟨1, [101, 108, 115, 105, 102], 0⟩, ⟨1, [101, 120, 105, 115, 116, 115], 0⟩, ⟨4, [108, 105, 115, 116], 0⟩, ⟨5, [123], 0⟩, ⟨1, [114, 101, 100, 105, 114, 101, 99, 116], 0⟩, ⟨4, [97, 110, 110, 64, 120, 46, 121], 0⟩, ⟨5, [59], 0⟩, ⟨1, [107, 101, 101, 112], 0⟩, ⟨5, [59], 0⟩, ⟨5, [125], 0⟩]
def cmdB : List Cmd := [⟨1, [[102, 105, 108, 101, 105, 110, 116, 111], [105, 109, 97, 112, 52, 102, 108, 97, 103, 115]], jR, [], []⟩, ⟨2, [], ⟨6, 2, 0, [[115, 117, 98, 106, 101, 99, 116]], [[119, 111, 114, 107]], false, 0, []⟩, [⟨8, [[92, 83, 101, 101, 110]], jR, [], []⟩, ⟨5, [[119, 111, 114, 107]], jR, [], []⟩], [⟨2, [], ⟨10, 0, 0, [], [], true, 300, []⟩, [⟨4, [], jR, [], []⟩], []⟩]⟩]
def cmdC : List Cmd := [⟨1, [[114, 101, 106, 101, 99, 116], [101, 110, 118, 101, 108, 111, 112, 101]], jR, [], []⟩, ⟨2, [], ⟨8, 1, 2, [[102, 114, 111, 109]], [[115, 112, 97, 109]], false, 0, []⟩, [⟨7, [[110, 111]], jR, [], []⟩], [⟨2, [], ⟨9, 0, 0, [[108, 105, 115, 116]], [], false, 0, []⟩, [⟨6, [[97, 110, 110, 64, 120, 46, 121]], jR, [], []⟩, ⟨3, [], jR, [], []⟩], []⟩]⟩]
def scrF : List UInt8 := [102, 105, 108, 101, 105, 110, 116, 111, 32, 34, 97, 34, 59]
def scrK : List UInt8 := [107, 101, 101, 112]
def tokF : List Tok := [⟨1, [102, 105, 108, 101, 105, 110, 116, 111], 0⟩, ⟨4, [97], 0⟩, ⟨5, [59], 0⟩]
def cmdF : List Cmd := [⟨5, [[97]], jR, [], []⟩]
set_option maxRecDepth 100000 in
theorem jjD : cutM scrB = (tokB, 0, 0) := by kernel_rfl
set_option maxRecDepth 100000 in
theorem jjE : cutM scrC = (tokC, 0, 0) := by kernel_rfl
theorem jjF : cutM scrF = (tokF, 0, 0) := by kernel_rfl
theorem jjG : cutM scrK = ([⟨1, [107, 101, 101, 112], 0⟩], 0, 0) := by kernel_rfl
theorem jjC : cutM [] = ([], 0, 0) := by kernel_rfl
theorem jiy : jZ tokB = (cmdB, 0, 0) := by kernel_rfl
theorem jiz : jZ tokC = (cmdC, 0, 0) := by kernel_rfl
theorem jiA : jZ tokF = (cmdF, 0, 0) := by kernel_rfl
theorem jiB : jZ [⟨1, [107, 101, 101, 112], 0⟩] = ([], 1, 4) := by kernel_rfl
theorem jl5 : jZ [] = ([], 0, 0) := by kernel_rfl
theorem jm5 : ja7 5 cmdB = 0 := by kernel_rfl
theorem jm6 : ja7 5 cmdC = 0 := by kernel_rfl
theorem jm7 : ja7 5 cmdF = 8 := by kernel_rfl
theorem jm4 : ja7 5 [] = 0 := by kernel_rfl
theorem jkW : (∀ t ∈ tokB, t.kind = 1 ∨ t.kind = 2 → t.text.length ≤ maxLen) ∧ ∀ x ∈ cmdB, vh 5 x ∧ jby 5 x := by
 refine ⟨fun t ht _ => ?_, ?_⟩
 · have h : ∀ t ∈ tokB, t.text.length ≤ 20 := by decide
   have := h t ht; unfold maxLen; omega
 · simp [cmdB, vh, jby, jfY, jR, maxLen]
theorem jkX : (∀ t ∈ tokC, t.kind = 1 ∨ t.kind = 2 → t.text.length ≤ maxLen) ∧ ∀ x ∈ cmdC, vh 5 x ∧ jby 5 x := by
 refine ⟨fun t ht _ => ?_, ?_⟩
 · have h : ∀ t ∈ tokC, t.text.length ≤ 20 := by decide
   have := h t ht; unfold maxLen; omega
 · simp [cmdC, vh, jby, jfY, jR, maxLen]
theorem jkY : (∀ t ∈ tokF, t.kind = 1 ∨ t.kind = 2 → t.text.length ≤ maxLen) ∧ ∀ x ∈ cmdF, vh 5 x ∧ jby 5 x := by
 refine ⟨fun t ht _ => ?_, ?_⟩
 · have h : ∀ t ∈ tokF, t.text.length ≤ 20 := by decide
   have := h t ht; unfold maxLen; omega
 · simp [cmdF, vh, jby, jfY, jR, maxLen]
theorem jmZ (w : World) (hm : TabsM w) : Calls Tryz.prog 26 #[.string (S scrB)] w (RdP w 5 (cmdB, 0)) := by
 have h := jaJ 4 scrB w hm (by rw [jjD]; exact jkW.1) (by rw [jjD]; decide) (by rw [jjD]; simp only; rw [jiy]; exact fun _ => jkW.2); rw [show rdM (4 + 1) scrB = (cmdB, 0) by unfold rdM; rw [jjD]; simp only; rw [jiy]; simp only; rw [jm5]; simp] at h; exact h
theorem jm0 (w : World) (hm : TabsM w) : Calls Tryz.prog 26 #[.string (S scrC)] w (RdP w 5 (cmdC, 0)) := by
 have h := jaJ 4 scrC w hm (by rw [jjE]; exact jkX.1) (by rw [jjE]; decide) (by rw [jjE]; simp only; rw [jiz]; exact fun _ => jkX.2); rw [show rdM (4 + 1) scrC = (cmdC, 0) by unfold rdM; rw [jjE]; simp only; rw [jiz]; simp only; rw [jm6]; simp] at h; exact h
theorem jnr (w : World) (hm : TabsM w) : Calls Tryz.prog 26 #[.string (S scrF)] w (RdP w 5 ([], 8)) := by
 have h := jaJ 4 scrF w hm (by rw [jjF]; exact jkY.1) (by rw [jjF]; decide) (by rw [jjF]; simp only; rw [jiA]; exact fun _ => jkY.2); rw [show rdM (4 + 1) scrF = ([], 8) by unfold rdM; rw [jjF]; simp only; rw [jiA]; simp only; rw [jm7]; simp] at h; exact h
theorem jns (w : World) (hm : TabsM w) : Calls Tryz.prog 26 #[.string (S scrK)] w (RdP w 5 ([], 4)) := by
 have h := jaJ 4 scrK w hm (by rw [jjG]; intro t ht _; simp at ht; subst ht; simp [maxLen]) (by rw [jjG]; decide) (by rw [jjG]; simp only; rw [jiB]; exact fun e => by simp at e); rw [show rdM (4 + 1) scrK = ([], 4) by unfold rdM; rw [jjG]; simp only; rw [jiB]; simp] at h; exact h
theorem jmY (w : World) (hm : TabsM w) : Calls Tryz.prog 26 #[.string (S [])] w (RdP w 5 ([], 0)) := by
 have h := jaJ 4 [] w hm (by rw [jjC]; exact fun t ht => by cases ht) (by rw [jjC]; decide) (by rw [jjC]; exact fun _ x hx => by cases hx); rw [show rdM (4 + 1) [] = ([], 0) by unfold rdM; rw [jjC]; simp only; rw [jl5]; simp only; rw [jm4]; simp] at h; exact h
end Go.Proofs.YtgooljlpffnaeaaGreatDoor
