/-
  What the laws of the layer of scripts want besides their walks: what the table of words holds.
-/
import Derived.Test.YtgfbdgheencmaaaGreatDoorCards
import Derived.Test.YtgfbdgheencmaaaGreatDoorTie
import Derived.ChangeOld
import Derived.Deep.DeepHandedRow
import Derived.Lib.LaidTab
import Derived.LaidSub
import Derived.Test.YtgfbdgheencmaaaGreatDoorXRulCs
import Derived.Test.YtgfbdgheencmaaaGreatDoorRows
import Derived.Deep.QuietTactic
import Derived.BigQuiet
set_option maxHeartbeats 4000000
set_option maxRecDepth 100000
namespace Go.Proofs.YtgfbdgheencmaaaGreatDoor
open Go.ChangeShapes Go.WideShapes Go.ChangeAt Go.RowKit
theorem own : ownKnob Tryz.prog.godebug = none := by kernel_rfl
theorem laidOut : laidOutB Tryz.prog = true := by kernel_rfl
def layCells (cs : Array Value) : Obj → Obj
 | .cells _ t frozen => .cells cs t frozen
 | o => o
def wordCells : Array Value := (wTabs.flatMap fun r => r.map fun s => Value.string (S s)).toArray
def jmF : DataW Unit := .agg (wTabs.map fun r => .agg (r.map fun s => .lit (.string s)))
theorem jhz : (Rows.laid_postroom_script_words : DataW Unit) = jmF := by kernel_rfl
theorem words_of (W : World) (h : laidMetH Tryz.prog [("postroom/script.words", Rows.laid_postroom_script_words)] W) : WordsAt W := by
 have h1 : laidMet Tryz.prog [("postroom/script.words", Rows.laid_postroom_script_words)] W := h; rw [jhz] at h1; obtain ⟨ps, ⟨g', t', cs, fuel, p, q, hg', ht', hvar, hd, _, _⟩, _⟩ := h1; have hg : Tryz.prog.globalNamed "postroom/script.words" = some 0 := by kernel_rfl
 have hty : (Tryz.prog.globals[0]?).map (·.type) = some 186 := by kernel_rfl
 obtain rfl := Option.some.inj (hg.symm.trans hg'); obtain rfl := Option.some.inj (hty.symm.trans ht'); have c11 : Tryz.prog.cellsOf 185 = 11 := by kernel_rfl
 have c1 : Tryz.prog.cellsOf 9 = 1 := by kernel_rfl
 obtain ⟨xs, m, _, ex, _, hxl, hx⟩ := DataW.trod_array Tryz.underlying186 hd; have exs : xs.map (·.1) = wTabs.map fun r => (.agg (r.map fun s => .lit (.string s)) : DataW Unit) := by
  have := congrArg Prod.fst ex
  simpa [jmF] using this.symm
 intro k n hk hn; have hx' := hx k hk; rw [c11] at hx'; obtain ⟨y, hy⟩ : ∃ y, xs[k]? = some y := ⟨_, List.getElem?_eq_getElem (by omega)⟩; rw [hy] at hx'; have hwk : wTabs[k]? = some (wTabs.getD k []) := by
  match k, hk with
  | 0, _ | 1, _ | 2, _ | 3, _ => rfl
 have ey : y.1 = .agg ((wTabs.getD k []).map fun s => .lit (.string s)) := by
  have := congrArg (·[k]?) exs; simp only [List.getElem?_map, hy, hwk, Option.map_some, Option.some.injEq] at this; exact this
 obtain ⟨ys, m', _, ez, _, hyl, hz⟩ := DataW.trod_array Tryz.underlying185 hx'; have eys : ys.map (·.1) = (wTabs.getD k []).map fun s => (.lit (.string s) : DataW Unit) := by
  have := congrArg Prod.fst ez; rw [ey] at this
  simpa using this.symm
 have hz' := hz n hn; rw [c1] at hz'; obtain ⟨u, hu⟩ : ∃ u, ys[n]? = some u := ⟨_, List.getElem?_eq_getElem (by omega)⟩; rw [hu] at hz'; obtain ⟨s, e1, e2, _⟩ := DataW.trod_string Tryz.underlying9 hz'; have hwn : (wTabs.getD k [])[n]? = some (zF k n) := by
  have hlen := jnA k hk; rw [List.getElem?_eq_getElem (by omega), joz k n (by omega)]
 have e3 : u.1 = .lit (.string (zF k n)) := by
  have := congrArg (·[n]?) eys; simp only [List.getElem?_map, hu, hwn, Option.map_some, Option.some.injEq] at this; exact this
 have e4 : s.data.toList = zF k n := by
  rw [e2] at e3
  simpa using e3
 have e5 : cs[k * 11 + n]? = some (.string s) := by
  have := congrArg (·[0]?) e1; simp only [List.getElem?_take, List.getElem?_drop] at this
  simpa [hn, Nat.add_assoc] using this
 rw [World.var?_cell hg hvar (k * 11 + n)]; rw [← e4, zZ]
 simpa using e5
def flagCells : Array Value := (flagTab.flatMap fun x => [Value.string (S x.1), .int .i64 (x.2 : Nat)]).toArray
def jmu : DataW Unit := .agg (flagTab.map fun x => .agg [.lit (.string x.1), .lit (.int .i64 (x.2 : Nat))])
theorem jhy : (Rows.laid_postroom_rule_flagNames : DataW Unit) = jmu := by kernel_rfl
theorem flags_of (W : World) (h : laidMetH Tryz.prog [("postroom/rule.flagNames", Rows.laid_postroom_rule_flagNames)] W) : FlagsAt W := by
 have h1 : laidMet Tryz.prog [("postroom/rule.flagNames", Rows.laid_postroom_rule_flagNames)] W := h; rw [jhy] at h1; obtain ⟨ps, ⟨g', t', cs, fuel, p, q, hg', ht', hvar, hd, _, _⟩, _⟩ := h1; have hg : Tryz.prog.globalNamed "postroom/rule.flagNames" = some 6 := by kernel_rfl
 have hty : (Tryz.prog.globals[6]?).map (·.type) = some 265 := by kernel_rfl
 obtain rfl := Option.some.inj (hg.symm.trans hg'); obtain rfl := Option.some.inj (hty.symm.trans ht'); have c2 : Tryz.prog.cellsOf 264 = 2 := by kernel_rfl
 have c1 : Tryz.prog.cellsOf 9 = 1 := by kernel_rfl
 have ci : Tryz.prog.cellsOf 3 = 1 := by kernel_rfl
 obtain ⟨xs, m, _, ex, _, hxl, hx⟩ := DataW.trod_array Tryz.underlying265 hd; have exs : xs.map (·.1) = flagTab.map fun x => (.agg [.lit (.string x.1), .lit (.int .i64 (x.2 : Nat))] : DataW Unit) := by
  have := congrArg Prod.fst ex
  simpa [jmu] using this.symm
 intro i hi; have hx' := hx i hi; rw [c2] at hx'; obtain ⟨y, hy⟩ : ∃ y, xs[i]? = some y := ⟨_, List.getElem?_eq_getElem (by omega)⟩; rw [hy] at hx'; have hft : flagTab[i]? = some (ja8 i, jba i) := by
  match i, hi with
  | 0, _ | 1, _ | 2, _ | 3, _ | 4, _ => rfl
 have ey : y.1 = .agg [.lit (.string (ja8 i)), .lit (.int .i64 (jba i : Nat))] := by
  have := congrArg (·[i]?) exs; simp only [List.getElem?_map, hy, hft, Option.map_some, Option.some.injEq] at this; exact this
 obtain ⟨zs, m', _, ez, _, hzl, hz⟩ := DataW.trod_struct Tryz.underlying264 hx'; have ezs : zs.map (·.1) = [(.lit (.string (ja8 i)) : DataW Unit), .lit (.int .i64 (jba i : Nat))] := by
  have := congrArg Prod.fst ez; rw [ey] at this
  simpa using this.symm
 obtain ⟨z0, z1, rfl⟩ : ∃ z0 z1, zs = [z0, z1] := by
  match zs, hzl with
  | [z0, z1], _ => exact ⟨z0, z1, rfl⟩
 have e0 : z0.1 = .lit (.string (ja8 i)) := (List.cons.inj ezs).1; have e1 : z1.1 = .lit (.int .i64 (jba i : Nat)) := (List.cons.inj (List.cons.inj ezs).2).1; have h0 := (hz 0 _ rfl).trans (show [z0, z1][0]? = some z0 from rfl); have h1' := (hz 1 _ rfl).trans (show [z0, z1][1]? = some z1 from rfl); obtain ⟨s, q0, q1, _⟩ := DataW.trod_string Tryz.underlying9 h0; obtain ⟨v, r0, r1, _⟩ := DataW.trod_int Tryz.underlying3 h1'; have q0 : List.take (Tryz.prog.cellsOf 9) (List.drop 0 (List.take 2 (List.drop (i * 2) cs.toList))) = [.string s] := q0; have r0 : List.take (Tryz.prog.cellsOf 3) (List.drop 1 (List.take 2 (List.drop (i * 2) cs.toList))) = [.int .i64 v] := r0; rw [c1] at q0; rw [ci] at r0; have es : s.data.toList = ja8 i := by
  rw [q1] at e0
  simpa using e0
 have ev : v = (jba i : Nat) := by
  rw [r1] at e1
  simpa using e1
 have f0 : cs[i * 2]? = some (.string s) := by
  have := congrArg (·[0]?) q0; simp only [List.getElem?_take, List.getElem?_drop] at this
  simpa using this
 have f1 : cs[i * 2 + 1]? = some (.int .i64 v) := by
  have := congrArg (·[0]?) r0; simp only [List.getElem?_take, List.getElem?_drop] at this
  simpa using this
 refine ⟨?_, ?_⟩
 · rw [World.var?_cell hg hvar (i * 2), ← es, zZ]
   simpa using f0
 · rw [World.var?_cell hg hvar (i * 2 + 1), ← ev]
   simpa using f1
def litC : DataW Unit → List Value
 | .lit (.int k n) => [.int k n]
 | .lit (.string s) => [.string (S s)]
 | _ => []
def joU : DataW Unit → List Value
 | .agg l => l.flatMap litC
 | d => litC d
def cellsD : DataW Unit → Array Value
 | .agg l => (l.flatMap joU).toArray
 | _ => #[]
theorem jcw {W : World} {nm : String} {g n : Nat} {t : TypeId} {l : List (List UInt8)} (hg : Tryz.prog.globalNamed nm = some g) (hty : (Tryz.prog.globals[g]?).map (·.type) = some t) (hu : Tryz.prog.underlying t = some (.array n 9)) (hn : l.length = n)
 (h : laidMet Tryz.prog [(nm, (.agg (l.map fun s => .lit (.string s)) : DataW Unit))] W) : TabAt W g l := by
 obtain ⟨ps, ⟨g', t', cs, fuel, p, q, hg', ht', hvar, hd, _, _⟩, _⟩ := h; obtain rfl := Option.some.inj (hg.symm.trans hg'); obtain rfl := Option.some.inj (hty.symm.trans ht'); have c1 : Tryz.prog.cellsOf 9 = 1 := by kernel_rfl
 obtain ⟨xs, m, _, ex, _, hxl, hx⟩ := DataW.trod_array hu hd; have exs : xs.map (·.1) = l.map fun s => (.lit (.string s) : DataW Unit) := by
  have := congrArg Prod.fst ex
  simpa using this.symm
 intro i s hs; have hi : i < l.length := (List.getElem?_eq_some_iff.1 hs).1; have hx' := hx i (by omega); rw [c1] at hx'; obtain ⟨y, hy⟩ : ∃ y, xs[i]? = some y := ⟨_, List.getElem?_eq_getElem (by omega)⟩; rw [hy] at hx'; obtain ⟨b, e1, e2, _⟩ := DataW.trod_string Tryz.underlying9 hx'; have e3 : y.1 = .lit (.string s) := by
  have := congrArg (·[i]?) exs; simp only [List.getElem?_map, hy, hs, Option.map_some, Option.some.injEq] at this; exact this
 have e4 : b.data.toList = s := by
  rw [e2] at e3
  simpa using e3
 have e5 : cs[i]? = some (.string b) := by
  have := congrArg (·[0]?) e1; simp only [List.getElem?_take, List.getElem?_drop] at this
  simpa using this
 rw [World.var?_cell hg hvar i, ← e4, zZ]
 simpa using e5
def one (nm : String) (L : List (String × DataW Unit)) : List (String × DataW Unit) := L.filter fun x => x.1 == nm
def TabsM (w : World) : Prop := Tabs w ∧ maxLenCell w
theorem TabsM.next {w w' : World} (h : TabsM w) (hb : Below w.heap.size w w') : TabsM w' := ⟨h.1.next hb, maxLenCell_below h.2 hb⟩
theorem tabs_of (W : World) (L : List (String × DataW Unit)) (hsh : W.ShapedOpen Tryz.prog) (hL : laidMet Tryz.prog L W)
 (h1 : one "postroom/script.words" L = [("postroom/script.words", Rows.laid_postroom_script_words)]) (h2 : one "postroom/rule.flagNames" L = [("postroom/rule.flagNames", Rows.laid_postroom_rule_flagNames)])
 (h3 : one "postroom/rule.requirable" L = [("postroom/rule.requirable", .agg (extT.map fun s => .lit (.string s)))])
 (h4 : one "postroom/rule.envelopeParts" L = [("postroom/rule.envelopeParts", .agg (partT.map fun s => .lit (.string s)))])
 (h5 : one "postroom/rule.neededFor" L = [("postroom/rule.neededFor", .agg (needT.map fun s => .lit (.string s)))]) : TabsM W := by
 have f : ∀ nm, laidMet Tryz.prog (one nm L) W := fun nm => laidMet.filter (fun x => x.1 == nm) hL
 refine ⟨⟨words_of W ?_, ?_, ?_, ?_, flags_of W ?_⟩, maxLenCell_shaped W hsh⟩
 · have := f "postroom/script.words"; rw [h1] at this; exact this
 · have := f "postroom/rule.requirable"; rw [h3] at this; exact jcw (n := 4) (by kernel_rfl) (by kernel_rfl) Tryz.underlying218 rfl this
 · have := f "postroom/rule.envelopeParts"; rw [h4] at this; exact jcw (n := 2) (by kernel_rfl) (by kernel_rfl) Tryz.underlying275 rfl this
 · have := f "postroom/rule.neededFor"; rw [h5] at this; exact jcw (n := 11) (by kernel_rfl) (by kernel_rfl) Tryz.underlying185 rfl this
 · have := f "postroom/rule.flagNames"; rw [h2] at this; exact this
theorem jfQ (c : UInt8) : (vp c = true ∧ ¬ (c.toNat : Int) < 33 ∧ ¬ 126 < (c.toNat : Int) ∧ ((c.toNat : Int) == 58) = false) ∨
 (vp c = false ∧ ((c.toNat : Int) < 33 ∨ (¬ (c.toNat : Int) < 33 ∧ 126 < (c.toNat : Int)) ∨ (¬ (c.toNat : Int) < 33 ∧ ¬ 126 < (c.toNat : Int) ∧ ((c.toNat : Int) == 58) = true))) := by
 have e : c = 58 ↔ c.toNat = 58 := ⟨fun h => by rw [h]; rfl, fun h => UInt8.toNat_inj.1 (by rw [h]; rfl)⟩
 by_cases h1 : c.toNat < 33
 · right; exact ⟨by simp [vp]; omega, .inl (by omega)⟩
 · by_cases h2 : 126 < c.toNat
   · right; exact ⟨by simp [vp]; omega, .inr (.inl ⟨by omega, by omega⟩)⟩
   · by_cases h3 : c = 58
     · right; exact ⟨by simp [vp, h3], .inr (.inr ⟨by omega, by omega, by subst h3; decide⟩)⟩
     · left; exact ⟨by simp [vp, h3]; omega, by omega, by omega, by rw [beq_eq_false_iff_ne]; intro h; exact h3 (e.2 (by omega))⟩
theorem jnr {s : ByteArray} {k : Nat} (hk : k < s.size) (h : (s.data.toList.take k).all vp = true) (hc : vp s[k] = true) : (s.data.toList.take (k + 1)).all vp = true := by
 rw [je5 s k hk, List.all_append, h]; simp [hc]
theorem jjI {s : ByteArray} {k : Nat} (hk : k < s.size) (hc : vp s[k] = false) : zT s.data.toList = false := by
 have hm : s[k] ∈ s.data.toList := List.mem_of_getElem? (qG s k hk); cases h : zT s.data.toList with
 | false => rfl
 | true => simp only [zT, Bool.and_eq_true, List.all_eq_true] at h; rw [h.2 _ hm] at hc; cases hc
theorem jlK {s : ByteArray} {k : Nat} (hk : ¬ k < s.size) (h : (s.data.toList.take k).all vp = true) : zT s.data.toList = !s.data.toList.isEmpty := by
 rw [List.take_of_length_le (by rw [size_list]; omega)] at h
 simp [zT, h]
theorem jah (s : ByteArray) (w : World) (hs : s.size ≤ maxLen) :
 Calls Tryz.prog 57 #[.string s] w fun e w' => e = .returned (.bool (zT s.data.toList)) ∧ w' = w := by
 unfold maxLen at hs; go_enter Tryz.func57, Tryz.ntmps57; go_wp2
 go_loop [6] (fun i => ∃ k : Nat, k ≤ s.size ∧ i = .int .i64 k ∧ Hid ((s.data.toList.take k).all vp = true)) (fun i => s.size - (intOf i).toNat)
 case atStart => exact ⟨0, Nat.zero_le _, rfl, by simp [Hid]⟩
 case round =>
  obtain ⟨k, hk, rfl, HA⟩ := hrel
  by_cases hlt : k < s.size
  · rcases jfQ s[k] with ⟨hc, h1, h2, h3⟩ | ⟨hc, h | ⟨h, h'⟩ | ⟨h, h', h''⟩⟩
    · have HC : Hid _ := hc; clear hc; go_wp2
      go_round
      case rel => exact ⟨k + 1, by omega, by go_num, jnr hlt HA.out HC.out⟩
      case measure => simp [intOf]; omega
    all_goals
        have HC : Hid _ := hc; clear hc; go_wp2; go_ret; exact ⟨jg (jjI hlt HC.out).symm, rfl⟩
  · go_wp2; go_ret; exact ⟨jg (by rw [jlK hlt HA.out, Lib.toList_data]), rfl⟩
def FieldsAt (w : World) (a : Option Addr) (fs : List F) : Prop :=
 ∀ (i : Nat) f, fs[i]? = some f → ∃ b off, a = some ⟨b, off, none⟩ ∧ b < w.heap.size ∧ w.cell? ⟨b, off + i * 2, none⟩ = some (.string (S f.1)) ∧ w.cell? ⟨b, off + i * 2 + 1, none⟩ = some (.string (S f.2))
theorem FieldsAt.below {w w' : World} {a : Option Addr} {fs : List F} (h : FieldsAt w a fs) (hb : Below w.heap.size w w') : FieldsAt w' a fs := by
 intro i f hf; obtain ⟨b, off, ha, hlt, h1, h2⟩ := h i f hf; exact ⟨b, off, ha, Nat.lt_of_lt_of_le hlt hb.size, (hb.cell (p := ⟨b, off + i * 2, none⟩) hlt).trans h1, (hb.cell (p := ⟨b, off + i * 2 + 1, none⟩) hlt).trans h2⟩
theorem qr {w : World} {p : Addr} {v : Value} (h : w.cell? p = some v) (o : Obj) : (w.alloc o).cell? p = some v :=
 (((Below.refl w.heap.size w).alloc (Nat.le_refl _) o).cell (World.block_lt_of_cell? w _ h)).trans h
theorem jN {w w' : World} {p : Addr} {v : Value} (h : w.cell? p = some v) (hb : Below w.heap.size w w') : w'.cell? p = some v :=
 (hb.cell (World.block_lt_of_cell? w _ h)).trans h
theorem jbx {B : Nat} {a w : World} (h : Below B a w) (n : Nat) : Below B a (w.drewN n) := h.trans ⟨rfl, rfl, rfl, Nat.le_refl _, fun _ _ => rfl⟩
theorem jg0 {B : Nat} {a b c : World} (h : Below B a b) (k : Below b.heap.size b c) (hB : B ≤ a.heap.size) : Below B a c := h.trans (k.mono (Nat.le_trans hB h.size))
theorem jex : (Tryz.prog.info? 67).map (fun i => (i.zero, i.size, i.bytes)) = some (some (.agg #[.string ByteArray.empty, .string ByteArray.empty]), 2, 32) := by kernel_rfl
def zo (fs : List F) : List Value := fs.flatMap fun f => [.string (S f.1), .string (S f.2)]
theorem jaH (a b : List F) : zo (a ++ b) = zo a ++ zo b := by simp [zo]
theorem jcY (f : F) : zo [f] = [.string (S f.1), .string (S f.2)] := by simp [zo]
theorem jg6 {fs : List F} {i : Nat} {f : F} (h : fs[i]? = some f) : (zo fs)[i * 2]? = some (.string (S f.1)) ∧ (zo fs)[i * 2 + 1]? = some (.string (S f.2)) := by
 induction fs generalizing i with
 | nil => simp at h
 | cons g fs ih =>
   cases i with
   | zero => simp at h; subst h; simp [zo]
   | succ i =>
     have := ih (i := i) (by simpa using h); have e1 : (i + 1) * 2 = i * 2 + 2 := by omega
     rw [e1]
     simpa [zo] using this
theorem jhk {w : World} {base g cap : Nat} {fs : List F} (h : w.ownsRow base 67 2 (.slice (some ⟨g, 0, none⟩) fs.length cap) fs.length (zo fs)) (hg : g < w.heap.size) : FieldsAt w (some ⟨g, 0, none⟩) fs := by
 intro i f hf; have hi : i < fs.length := by
  rcases Nat.lt_or_ge i fs.length with h | h
  · exact h
  · rw [List.getElem?_eq_none h] at hf; cases hf
 obtain ⟨h1, h2⟩ := jg6 hf; refine ⟨g, 0, rfl, hg, ?_, ?_⟩
 · rw [Nat.zero_add, h.cellAt _ (by omega)]; exact h1
 · rw [Nat.zero_add, h.cellAt _ (by omega)]; exact h2
theorem qD {w : World} {p a : Addr} {v : Value} (h : p.block ≠ a.block) : (w.setCell p v).cell? a = w.cell? a :=
 World.cell?_of_block (heap_setCell_other w p a.block v (fun e => h e.symm))
theorem FieldsAt.set {w : World} {g : Nat} {fs : List F} (h : FieldsAt w (some ⟨g, 0, none⟩) fs) {p : Addr} (v : Value) (hp : p.block ≠ g) : FieldsAt (w.setCell p v) (some ⟨g, 0, none⟩) fs := by
 intro i f hf; obtain ⟨b, off, ha, hb, h1, h2⟩ := h i f hf; simp only [Option.some.injEq, Addr.mk.injEq, and_true] at ha; obtain ⟨rfl, rfl⟩ := ha; exact ⟨_, _, rfl, by simpa using hb, (qD hp).trans h1, (qD hp).trans h2⟩
theorem jad (w : World) (a : Option Addr) : FieldsAt w a [] := by intro i f hf; simp at hf
def OwnF (w : World) (B : Nat) (v : Value) (fs : List F) : Prop := w.ownsRow B 67 2 v fs.length (zo fs)
theorem jdR {w : World} {base g cap n : Nat} {e : TypeId} {size : Nat} {xs : List Value} (h : w.ownsRow base e size (.slice (some ⟨g, 0, none⟩) n cap) n xs) (j : Nat) (u : Value) :
 (w.setCell ⟨g, j, none⟩ u).ownsRow base e size (.slice (some ⟨g, 0, none⟩) n cap) n (xs.set j u) := by
 refine ⟨by rw [List.length_set]; exact h.1, .inr ?_⟩
 rcases h.2 with ⟨h', _⟩ | ⟨g', cap', cur, h', hb, hg, h1, h2, h3, htake⟩
 · simp at h'
 · simp only [Value.slice.injEq, Option.some.injEq, Addr.mk.injEq, and_true, true_and] at h'; obtain ⟨rfl, rfl⟩ := h'; refine ⟨g, cap, cur.setIfInBounds j u, rfl, hb, heap_setCell_same w g j cur e u hg, h1, h2, by simpa using h3, ?_⟩; rw [Array.toList_setIfInBounds, List.take_set, htake]
theorem OwnF.form {w : World} {B : Nat} {v : Value} {fs : List F} (h : OwnF w B v fs) (h0 : fs ≠ []) : ∃ g cap, v = .slice (some ⟨g, 0, none⟩) fs.length cap ∧ B ≤ g ∧ g < w.heap.size :=
 World.ownsRow.form h (List.length_pos_iff.2 h0)
theorem OwnF.any {w : World} {B : Nat} {v : Value} {fs : List F} (h : OwnF w B v fs) : ∃ a cap, v = .slice a fs.length cap := by
 by_cases h0 : fs = []
 · rcases h.2 with ⟨rfl, hn⟩ | ⟨g, cap, cur, rfl, _⟩
   · subst h0; exact ⟨none, 0, rfl⟩
   · exact ⟨_, _, rfl⟩
 · obtain ⟨g, cap, rfl, _⟩ := h.form h0; exact ⟨_, _, rfl⟩
theorem OwnF.fields {w : World} {B : Nat} {a : Option Addr} {c : Nat} {fs : List F} (h : OwnF w B (.slice a fs.length c) fs) : FieldsAt w a fs := by
 by_cases h0 : fs = []
 · subst h0; exact jad _ _
 · obtain ⟨g, cap, e, hb, hg⟩ := h.form h0; simp only [Value.slice.injEq, true_and] at e; obtain ⟨rfl, rfl⟩ := e; exact jhk h hg
theorem ja7 {fs : List F} {i : Nat} {f : F} (h : fs[i]? = some f) (v : List UInt8) : (zo fs).set (i * 2 + 1) (.string (S v)) = zo (fs.set i (f.1, v)) := by
 induction fs generalizing i with
 | nil => simp at h
 | cons g fs ih =>
   cases i with
   | zero => simp at h; subst h; simp [zo]
   | succ i =>
     have := ih (i := i) (by simpa using h); have e1 : (i + 1) * 2 + 1 = (i * 2 + 1) + 2 := by omega
     rw [e1]
     simpa [zo] using this
theorem ja5 {raw : List F} {line : List UInt8} {f : F} (h : raw[raw.length - 1]? = some f) : qY raw line = raw.set (raw.length - 1) (f.1, f.2 ++ line) := by
 have h0 : raw ≠ [] := by rintro rfl; simp at h
 have hl : raw.getLast? = some f := by rw [List.getLast?_eq_getElem?]; exact h
 have e : raw = raw.dropLast ++ [f] := by
  rw [List.getLast?_eq_some_getLast h0] at hl; have := List.dropLast_concat_getLast h0; rw [← this, Option.some.inj hl]; simp
 unfold qY; rw [hl]; simp only [Option.getD_some]; have hn : raw.length - 1 = raw.dropLast.length := by simp
 conv => rhs; rw [hn, e]
 rw [List.set_append_right _ _ (by simp)]
 simp
theorem jbX (c : UInt8) : (0 ≤ Lib.indexByte [32, 9] c) ↔ jD c = true := by
 unfold jD Lib.indexByte Lib.indexByte Lib.indexByte
 by_cases h1 : c = 32
 · subst h1; decide
 · by_cases h2 : c = 9
   · subst h2; decide
   · have e1 : (32 == c) = false := by simpa using fun h => h1 h.symm
     have e2 : (9 == c) = false := by simpa using fun h => h2 h.symm
     simp [e1, e2, h1, h2]
theorem jkt (c : UInt8) : ((c.toNat : Int)).toNat.toUInt8 = c := by simp
theorem jnH (B : Nat) (v : Value) (fs : List F) (line : ByteArray) (w : World) (hO : OwnF w B v fs) (hl : line.size ≤ 5000) (hb : ∀ f ∈ fs, f.2.length ≤ 5000) (hn : fs.length ≤ 30) (h : zM fs line.data.toList = true) :
 Calls Tryz.prog 153 #[v, .string line] w fun e w' => e = .returned (.tuple #[v, .int .i64 0]) ∧ OwnF w' B v (qY fs line.data.toList) ∧ Below B w w' := by
 have h0 : fs ≠ [] := by rintro rfl; simp [zM] at h
 have hpos : 0 < fs.length := List.length_pos_iff.2 h0; obtain ⟨g, cap, rfl, hB, hg⟩ := hO.form h0; obtain ⟨f, hf⟩ : ∃ f, fs[fs.length - 1]? = some f := ⟨_, List.getElem?_eq_getElem (by omega)⟩; obtain ⟨b, off, ha, _, h1, h2⟩ := (OwnF.fields hO) _ f hf; simp only [Option.some.injEq, Addr.mk.injEq, and_true] at ha; obtain ⟨rfl, rfl⟩ := ha; rw [Nat.zero_add] at h1 h2; have hfz : w.frozen? ⟨g, (fs.length - 1) * 2 + 1, none⟩ = false := World.ownsRow.frozenAt hO _; have hp : 0 < line.size := by
  rcases Nat.eq_zero_or_pos line.size with e | e
  · have : line.data.toList = [] := List.length_eq_zero_iff.1 (by rw [size_list]; exact e)
    simp [zM, this] at h
  · exact e
 have hbl : jD line[0] = true := by
  have e : line.data.toList.head? = some line[0] := by rw [List.head?_eq_getElem?]; exact qG line 0 hp
  simp only [zM, e, Option.map_some, Option.getD_some, Bool.and_eq_true] at h; exact h.2
 have hs2 : (S f.2).size ≤ 5000 := by rw [ju]; exact hb f (List.mem_of_getElem? hf)
 have HI : Hid (0 ≤ Lib.indexByte [32, 9] line[0]) := (jbX _).2 hbl; have HW : Hid (∀ x : ByteArray, x = S f.2 ++ line → OwnF (w.setCell ⟨g, (fs.length - 1) * 2 + 1, none⟩ (.string x)) B (.slice (some ⟨g, 0, none⟩) fs.length cap) (qY fs line.data.toList)) := by
  intro x hx; have hx2 : x = S (f.2 ++ line.data.toList) := by
   rw [hx, ← zZ (S f.2 ++ line)]
   simp [ByteArray.data_append, jt]
  have := jdR hO ((fs.length - 1) * 2 + 1) (.string x); rw [hx2, ja7 hf, ← ja5 hf] at this; have el : (qY fs line.data.toList).length = fs.length := by rw [ja5 hf, List.length_set]
  unfold OwnF; rw [el, hx2]; exact this
 clear h hbl hb hf hO; have hk1 : ((fs.length : Nat) : Int) - 1 = ((fs.length - 1 : Nat) : Int) := by omega
 go_enter Tryz.func153, Tryz.ntmps153; go_wp2_with fail; refine (indexByte_any _ _ _).mono ?_; rintro e u ⟨rfl, rfl⟩; obtain ⟨m, hm⟩ : ∃ m : Nat, Lib.indexByte (⟨#[32, 9]⟩ : ByteArray).data.toList ((line[0].toNat : Int)).toNat.toUInt8 = (m : Int) := by
  rw [jkt]; exact ⟨(Lib.indexByte [32, 9] line[0]).toNat, by have := HI.out; show Lib.indexByte [32, 9] line[0] = _; omega⟩
 rw [hm]; clear hm; go_wp2; go_ret2; exact ⟨rfl, HW.out _ rfl, (Below.refl _ _).setCell hB _⟩
theorem index_none {c : UInt8} (h : jD c = false) : Lib.indexByte [32, 9] c = -1 := by
 have h1 : ¬ 0 ≤ Lib.indexByte [32, 9] c := fun h0 => by rw [(jbX c).1 h0] at h; cases h
 unfold jD at h; simp only [Bool.or_eq_false_iff, beq_eq_false_iff_ne] at h; have e1 : (32 == c) = false := by simpa using fun e => h.1 e.symm
 have e2 : (9 == c) = false := by simpa using fun e => h.2 e.symm
 simp [Lib.indexByte, e1, e2]
theorem jgw {fs : List F} {line : ByteArray} (hp : 0 < line.size) (h : zM fs line.data.toList = false) : fs = [] ∨ (0 < fs.length ∧ Hid (Lib.indexByte (⟨#[32, 9]⟩ : ByteArray).data.toList ((line[0].toNat : Int)).toNat.toUInt8 = -1)) := by
 by_cases h0 : fs = []
 · exact .inl h0
 · right
   refine ⟨List.length_pos_iff.2 h0, ?_⟩; have e : line.data.toList.head? = some line[0] := by rw [List.head?_eq_getElem?]; exact qG line 0 hp
   have hb : jD line[0] = false := by
    simp only [zM, e, Option.map_some, Option.getD_some, Bool.and_eq_false_iff] at h
    rcases h with h | h
    · cases fs with
      | nil => exact absurd rfl h0
      | cons a t => simp at h
    · exact h
   unfold Hid; rw [jkt]; exact index_none hb
theorem q9 (w : World) (x y : Value) (t : TypeId) : ∀ (j : Nat) u, [x, y][j]? = some u → (w.alloc (.cells #[x, y] t)).cell? ((⟨w.heap.size, 0, none⟩ : Addr).add j) = some u := by
 intro j u hj; rw [Addr.add_lit, Nat.zero_add]
 match j, hj with
 | 0, hj => simp at hj; subst hj; simp
 | 1, hj => simp at hj; subst hj; simp
theorem jiE (s : ByteArray) (l a b : List UInt8) (t : Bool) (sep : ByteArray) (hl : sep.data.toList = l) (h : Lib.cut s.data.toList l = (a, b, t)) :
 (⟨(Lib.cut s.data.toList sep.data.toList).1.toArray⟩ : ByteArray) = S a ∧ (⟨(Lib.cut s.data.toList sep.data.toList).2.1.toArray⟩ : ByteArray) = S b ∧ (Lib.cut s.data.toList sep.data.toList).2.2 = t := by
 rw [hl, h]; exact ⟨rfl, rfl, rfl⟩
theorem vc (s sep : ByteArray) (l a b : List UInt8) (t : Bool) (hl : sep.data.toList = l) (h : Lib.cut s.data.toList l = (a, b, t)) (w : World) (hs : s.size < 4294967281) (hm : maxLenCell w) :
 Calls Tryz.prog 151 #[.string s, .string sep] w fun e w' => e = .returned (.tuple #[.string (S a), .string (S b), .bool t]) ∧ ∃ n, w' = w.drewN n := by
 have := cutS_any s sep w hs hm; obtain ⟨e1, e2, e3⟩ := jiE s l a b t sep hl h
 rwa [e1, e2, e3] at this
theorem jaO (l : List UInt8) (b : Bool) (h : zT l = b) (hl : l.length ≤ 5000) (w : World) :
 Calls Tryz.prog 57 #[.string (S l)] w fun e w' => e = .returned (.bool b) ∧ w' = w := by
 have := jah (S l) w (by rw [ju]; unfold maxLen; omega)
 rwa [jt, h] at this
theorem je4 (B : Nat) (v : Value) (fs : List F) (line : ByteArray) (w : World) (hO : OwnF w B v fs) (hm : maxLenCell w) (hp : 0 < line.size) (hl : line.size ≤ 5000) (hn : fs.length ≤ 30) (h : zM fs line.data.toList = false)
 (a b : List UInt8) (hc : Lib.cut line.data.toList [58] = (a, b, false)) :
 Calls Tryz.prog 153 #[v, .string line] w fun e w' => e = .returned (.tuple #[.slice none 0 0, .int .i64 3]) ∧ Below w.heap.size w w' := by
 obtain ⟨a0, cap, rfl⟩ := hO.any; have HC : Hid _ := hc; clear hc
 rcases jgw hp h with rfl | ⟨h0, HI⟩
 case' inl =>
  clear h hO; go_enter Tryz.func153, Tryz.ntmps153; go_wp2_with fail
 case' inr =>
  clear h hO; go_enter Tryz.func153, Tryz.ntmps153; go_wp2_with fail; refine (indexByte_any _ _ _).mono ?_; rintro e u ⟨rfl, rfl⟩; rw [HI.out]; go_wp2_with fail
 all_goals
  refine (vc line _ [58] a b false rfl HC.out _ (by omega) hm).mono ?_; rintro e u ⟨rfl, q, rfl⟩; go_wp2; go_ret2; exact ⟨rfl, jbx (Below.refl _ _) _⟩
theorem jf3 (B : Nat) (v : Value) (fs : List F) (line : ByteArray) (w : World) (hO : OwnF w B v fs) (hm : maxLenCell w) (hp : 0 < line.size) (hl : line.size ≤ 5000) (hn : fs.length ≤ 30) (h : zM fs line.data.toList = false)
 (a b : List UInt8) (hc : Lib.cut line.data.toList [58] = (a, b, true)) (ha : zT a = false) (hal : a.length ≤ 5000) :
 Calls Tryz.prog 153 #[v, .string line] w fun e w' => e = .returned (.tuple #[.slice none 0 0, .int .i64 3]) ∧ Below w.heap.size w w' := by
 obtain ⟨a0, cap, rfl⟩ := hO.any; have HC : Hid _ := hc; have HA : Hid _ := ha; clear hc ha
 rcases jgw hp h with rfl | ⟨h0, HI⟩
 case' inl =>
  clear h hO; go_enter Tryz.func153, Tryz.ntmps153; go_wp2_with fail
 case' inr =>
  clear h hO; go_enter Tryz.func153, Tryz.ntmps153; go_wp2_with fail; refine (indexByte_any _ _ _).mono ?_; rintro e u ⟨rfl, rfl⟩; rw [HI.out]; go_wp2_with fail
 all_goals
  refine (vc line _ [58] a b true rfl HC.out _ (by omega) hm).mono ?_; rintro e u ⟨rfl, q, rfl⟩; go_wp2_with fail; refine (jaO a false HA.out hal _).mono ?_; rintro e u ⟨rfl, rfl⟩; go_wp2; go_ret2; exact ⟨rfl, jbx (Below.refl _ _) _⟩
theorem jkl (B : Nat) (v : Value) (fs : List F) (line : ByteArray) (w : World) (hO : OwnF w B v fs) (hm : maxLenCell w) (hp : 0 < line.size) (hl : line.size ≤ 5000) (hn : fs.length = 30) (h : zM fs line.data.toList = false)
 (a b : List UInt8) (hc : Lib.cut line.data.toList [58] = (a, b, true)) (ha : zT a = true) (hal : a.length ≤ 5000) :
 Calls Tryz.prog 153 #[v, .string line] w fun e w' => e = .returned (.tuple #[.slice none 0 0, .int .i64 5]) ∧ Below w.heap.size w w' := by
 obtain ⟨a0, cap, rfl⟩ := hO.any; have HC : Hid _ := hc; have HA : Hid _ := ha; clear hc ha
 rcases jgw hp h with rfl | ⟨h0, HI⟩
 · simp at hn
 · clear h hO; rw [hn]; go_enter Tryz.func153, Tryz.ntmps153; go_wp2_with fail; refine (indexByte_any _ _ _).mono ?_; rintro e u ⟨rfl, rfl⟩; rw [HI.out]; go_wp2_with fail; refine (vc line _ [58] a b true rfl HC.out _ (by omega) hm).mono ?_; rintro e u ⟨rfl, q, rfl⟩; go_wp2_with fail; refine (jaO a true HA.out hal _).mono ?_; rintro e u ⟨rfl, rfl⟩; go_wp2; go_ret2; exact ⟨rfl, jbx (Below.refl _ _) _⟩
theorem jl9 (B : Nat) (v : Value) (fs : List F) (line : ByteArray) (w : World) (hO : OwnF w B v fs) (hBw : B ≤ w.heap.size) (hm : maxLenCell w) (hp : 0 < line.size) (hl : line.size ≤ 5000) (hn : fs.length < 30) (h : zM fs line.data.toList = false)
 (a b : List UInt8) (hc : Lib.cut line.data.toList [58] = (a, b, true)) (ha : zT a = true) (hal : a.length ≤ 5000) :
 Calls Tryz.prog 153 #[v, .string line] w fun e w' => ∃ v', e = .returned (.tuple #[v', .int .i64 0]) ∧ OwnF w' B v' (fs ++ [(a, b)]) ∧ Below B w w' := by
 obtain ⟨i0, hi, hz0, hz1, hz2⟩ := info_parts jex; obtain ⟨a0, cap, rfl⟩ := hO.any; have HC : Hid _ := hc; have HA : Hid _ := ha; have hO' : w.ownsRow B 67 2 (.slice a0 fs.length cap) fs.length (zo fs) := hO; clear hc ha
 rcases jgw hp h with h0 | ⟨h0, HI⟩
 · clear h hO; subst h0; have hO2 : w.ownsRow B 67 2 (.slice a0 0 cap) 0 [] := hO'; clear hO'; go_enter Tryz.func153, Tryz.ntmps153; go_wp2_with fail; refine (vc line _ [58] a b true rfl HC.out _ (by omega) hm).mono ?_; rintro e u ⟨rfl, q, rfl⟩; go_wp2_with fail; refine (jaO a true HA.out hal _).mono ?_; rintro e u ⟨rfl, hu⟩; have hu' := hu.symm; subst hu'
   go_wp2_with (at_builtin; refine wpList_append_own _ rfl _ _ 59 rfl B 67 i0 _ 2 32 Tryz.underlying59 hi hz0 hz1 hz2 rfl (by decide) (.slice a0 0 cap) 0 [] rfl (World.ownsRow.alloc (show World.ownsRow (w.drewN q) _ _ _ _ _ _ from hO2) _) ⟨w.heap.size, 0, none⟩ 1 1 [.string (S a), .string (S b)] rfl rfl (q9 _ _ _ _) ?c2 ?c3 ?c4 ?c5 ?_)
   case c2 => intro u hu; simp at hu; rcases hu with rfl | rfl <;> rfl
   case c3 => unfold maxLen; omega
   case c4 => omega
   case c5 => simp; omega
   intro v' w2 hown' hgrow _; have hB2 := ((jbx (Below.refl B w) q).alloc (by simpa using hBw) _).grown hgrow (by simp; omega) (fun j hj => (World.ownsRow.lt hO2 j hj).1); clear hgrow; go_wp2; go_ret2; exact ⟨v', rfl, by unfold OwnF; exact hown', hB2⟩
 · clear h hO; go_enter Tryz.func153, Tryz.ntmps153; go_wp2_with fail; refine (indexByte_any _ _ _).mono ?_; rintro e u ⟨rfl, hu⟩; have hu' := hu.symm; subst hu'; rw [HI.out]; go_wp2_with fail; refine (vc line _ [58] a b true rfl HC.out _ (by omega) hm).mono ?_; rintro e u ⟨rfl, q, rfl⟩; go_wp2_with fail; refine (jaO a true HA.out hal _).mono ?_; rintro e u ⟨rfl, hu⟩; have hu' := hu.symm; subst hu'
   go_wp2_with (at_builtin; refine wpList_append_own _ rfl _ _ 59 rfl B 67 i0 _ 2 32 Tryz.underlying59 hi hz0 hz1 hz2 rfl (by decide) (.slice a0 fs.length cap) fs.length (zo fs) rfl (World.ownsRow.alloc (show World.ownsRow (w.drewN q) _ _ _ _ _ _ from hO') _) ⟨w.heap.size, 0, none⟩ 1 1 [.string (S a), .string (S b)] rfl rfl (q9 _ _ _ _) ?c2 ?c3 ?c4 ?c5 ?_)
   case c2 => intro u hu; simp at hu; rcases hu with rfl | rfl <;> rfl
   case c3 => unfold maxLen; omega
   case c4 => omega
   case c5 => simp; omega
   intro v' w2 hown' hgrow _; have hB2 := ((jbx (Below.refl B w) q).alloc (by simpa using hBw) _).grown hgrow (by simp; omega) (fun j hj => (World.ownsRow.lt hO' j hj).1); clear hgrow; go_wp2; go_ret2; exact ⟨v', rfl, by unfold OwnF; rw [jaH, jcY, List.length_append]; exact hown', hB2⟩
theorem jck {w w' : World} {base : Nat} {e : TypeId} {size : Nat} {v : Value} {n : Nat} {xs : List Value} (h : w.ownsRow base e size v n xs) (hb : Below w.heap.size w w') : w'.ownsRow base e size v n xs := by
 refine ⟨h.1, ?_⟩
 rcases h.2 with h' | ⟨g, cap, cur, h1, h2, hg, r⟩
 · exact .inl h'
 · refine .inr ⟨g, cap, cur, h1, h2, ?_, r⟩; rw [hb.block g (by
    rcases Nat.lt_or_ge g w.heap.size with h' | h'
    · exact h'
    · rw [Array.getElem?_eq_none h'] at hg; cases hg)]
   exact hg
theorem OwnF.below {w w' : World} {B : Nat} {v : Value} {fs : List F} (h : OwnF w B v fs) (hb : Below w.heap.size w w') : OwnF w' B v fs := jck h hb
theorem OwnF.far {w : World} {B : Nat} {v : Value} {fs : List F} (h : OwnF w B v fs) {p : Addr} (hp : p.block < B) (u : Value) : OwnF (w.setCell p u) B v fs := ownsRow_setCell_below h hp u
theorem OwnF.nil (w : World) (B : Nat) : OwnF w B (.slice none 0 0) [] := World.ownsRow_nil _ _ _ _
def zd (fs : List F) (k : Nat) : List F := (fs.take k).map vY ++ fs.drop k
theorem vC (fs : List F) (k : Nat) : (zd fs k).length = fs.length := by simp [zd]; omega
theorem jd4 {fs : List F} {k : Nat} {f : F} (h : fs[k]? = some f) : (zd fs k)[k]? = some f := by
 have hk : k < fs.length := (List.getElem?_eq_some_iff.1 h).1; unfold zd; rw [List.getElem?_append_right (by simp; omega)]; have : k - ((fs.take k).map vY).length = 0 := by simp; omega
 rw [this, List.getElem?_drop]
 simpa using h
theorem jcT {fs : List F} {k : Nat} {f : F} (h : fs[k]? = some f) : (zd fs k).set k (vY f) = zd fs (k + 1) := by
 have hk : k < fs.length := (List.getElem?_eq_some_iff.1 h).1; unfold zd; rw [List.set_append_right _ _ (by simp; omega)]; have e : k - ((fs.take k).map vY).length = 0 := by simp; omega
 have ed : fs.drop k = f :: fs.drop (k + 1) := by
  rw [List.drop_eq_getElem_cons hk]
  congr 1
  exact (List.getElem?_eq_some_iff.1 h).2
 rw [e, ed, qh h]
 simp
theorem jcS (B : Nat) (v : Value) (fs : List F) (w : World) (hO : OwnF w B v fs) (hn : fs.length ≤ 30) (hb : ∀ f ∈ fs, f.2.length ≤ 5000) :
 Calls Tryz.prog 152 #[v] w fun e w' => e = .returned (.tuple #[]) ∧ OwnF w' B v (fs.map vY) ∧ Below B w w' ∧ w.heap.size ≤ w'.heap.size := by
 obtain ⟨a, cap, rfl⟩ := hO.any; have HB : Hid _ := hb; clear hb; go_enter Tryz.func152, Tryz.ntmps152; go_wp2
 go_loopw [5] (fun i wr => ∃ k : Nat, k ≤ fs.length ∧ i = .int .i64 k ∧ OwnF wr B (.slice a fs.length cap) (zd fs k) ∧ Below B w wr ∧ w.heap.size ≤ wr.heap.size) (fun i _ => fs.length - (intOf i).toNat)
 case atStart => exact ⟨0, Nat.zero_le _, rfl, by simpa [zd] using hO, Below.refl _ _, Nat.le_refl _⟩
 case round =>
  obtain ⟨k, hk, rfl, hO2, hB, hz⟩ := hrel
  by_cases hlt : k < fs.length
  · obtain ⟨f, hf⟩ : ∃ f, fs[k]? = some f := ⟨_, List.getElem?_eq_getElem hlt⟩; have hfl := HB.out f (List.mem_of_getElem? hf); have hg := jd4 hf; have hO3 : OwnF wr B (.slice a (zd fs k).length cap) (zd fs k) := by rw [vC]; exact hO2
    obtain ⟨g, off, rfl, hgl, h1, h2⟩ := (OwnF.fields hO3) k f hg; obtain ⟨g', cap', e, hBg, _⟩ := hO3.form (by rintro e0; rw [e0] at hg; simp at hg); simp only [Value.slice.injEq, Option.some.injEq, Addr.mk.injEq, and_true] at e; obtain ⟨⟨rfl, rfl⟩, -, rfl⟩ := e; rw [Nat.zero_add] at h1 h2; have hs2 : (S f.2).size ≤ 5000 := by rw [ju]; exact hfl
    have HS : Hid (∀ u : World, Below wr.heap.size wr u → ∀ x : ByteArray, x = S (vE f.2) → OwnF (u.setCell ⟨g, k * 2 + 1, none⟩ (.string x)) B (.slice (some ⟨g, 0, none⟩) fs.length cap) (zd fs (k + 1))) := by
        intro u hu x hx; have := jdR (hO3.below hu) (k * 2 + 1) (.string x); rw [hx, ja7 hg] at this; have e2 : (f.1, vE f.2) = vY f := rfl; rw [e2, jcT hf] at this; unfold OwnF; rw [vC] at this ⊢; rw [hx]; exact this
    have HF : Hid (w.heap.size ≤ wr.heap.size) := hz; have HZ : Hid (∀ u : World, Below wr.heap.size wr u → u.cell? ⟨g, k * 2 + 1, none⟩ = some (.string (S f.2)) ∧ u.frozen? ⟨g, k * 2 + 1, none⟩ = false) := by
        intro u hu; exact ⟨jN h2 hu, (hu.frozen (p := ⟨g, k * 2 + 1, none⟩) hgl).trans (World.ownsRow.frozenAt hO3 _)⟩
    clear hf hg hO2 hO3; go_wp2_with fail; refine (trim_any _ _ (by omega)).mono ?_; rintro e u ⟨rfl, hu⟩; obtain ⟨z1, z2⟩ := HZ.out u hu; have HX : Hid ((⟨(Lib.trimS (S f.2).data.toList [32, 9]).toArray⟩ : ByteArray) = S (vE f.2)) := by unfold Hid; rw [jt]; rfl
    rw [HX.out]; go_wp2
    go_roundw
    case rel => first | exact ⟨k + 1, by omega, by go_num, HS.out u hu _ rfl, ((hB.trans (hu.mono (by have := hB.size; omega))).setCell hBg _), by have := hu.size; have := HF.out; simp; omega⟩ | ((repeat apply Exists.intro); exact ⟨⟨k + 1, by omega, by go_num, HS.out u hu _ rfl, ((hB.trans (hu.mono (by have := hB.size; omega))).setCell hBg _), by have := hu.size; have := HF.out; simp; omega⟩, rfl⟩) | (refine ⟨trivial, ?_⟩; (repeat apply Exists.intro); exact ⟨⟨k + 1, by omega, by go_num, HS.out u hu _ rfl, ((hB.trans (hu.mono (by have := hB.size; omega))).setCell hBg _), by have := hu.size; have := HF.out; simp; omega⟩, rfl⟩)
    case measure => simp [intOf]; omega
  · have HT : Hid (zd fs k = fs.map vY) := by
        unfold Hid zd; rw [List.take_of_length_le (by omega), List.drop_of_length_le (by omega)]; simp
    go_wp2; go_end0; exact ⟨rfl, by rw [← HT.out]; exact hO2, hB, hz⟩
theorem jnG (B : Nat) (v : Value) (fs : List F) (l : List UInt8) (w : World) (hO : OwnF w B v fs) (hBw : B ≤ w.heap.size) (hm : maxLenCell w) (h0 : l ≠ []) (hl : l.length ≤ 2000) (hb : ∀ f ∈ fs, f.2.length ≤ 5000) (hn : fs.length ≤ 30) (h : (zj fs l).2 = 0) :
 Calls Tryz.prog 153 #[v, .string (S l)] w fun e w' => ∃ v', e = .returned (.tuple #[v', .int .i64 0]) ∧ OwnF w' B v' (zj fs l).1 ∧ Below B w w' := by
 have hp : 0 < (S l).size := by rw [ju]; exact List.length_pos_iff.2 h0
 have hl2 : (S l).size ≤ 5000 := by rw [ju]; omega
 cases hg : zM fs l with
 | true =>
   have e : zj fs l = (qY fs l, 0) := by unfold zj; rw [if_pos hg]
   rw [e]; refine (jnH B v fs (S l) w hO hl2 hb hn (by rw [jt]; exact hg)).mono ?_; rintro e w' ⟨rfl, h1, h2⟩; rw [jt] at h1; exact ⟨v, rfl, h1, h2⟩
 | false =>
   unfold zj at h ⊢; rw [hg] at h ⊢; simp only [Bool.false_eq_true, if_false] at h ⊢
   by_cases h1 : (Lib.cut l [58]).2.2 = false ∨ zT (Lib.cut l [58]).1 = false
   · rw [if_pos h1] at h; cases h
   · rw [if_neg h1] at h ⊢
     by_cases h2 : fs.length = 30
     · rw [if_pos h2] at h; cases h
     · rw [if_neg h2]; simp only [not_or, Bool.not_eq_false] at h1; have hc : Lib.cut (S l).data.toList [58] = ((Lib.cut l [58]).1, (Lib.cut l [58]).2.1, true) := by
         rw [jt]; rw [← h1.1]
       have hle : (Lib.cut l [58]).1.length ≤ 5000 := by
         unfold Lib.cut; split <;> simp <;> omega
       exact jl9 B v fs (S l) w hO hBw hm hp hl2 (by omega) (by rw [jt]; exact hg) _ _ hc h1.2 hle
theorem jl8 (B : Nat) (v : Value) (fs : List F) (l : List UInt8) (w : World) (hO : OwnF w B v fs) (hm : maxLenCell w) (h0 : l ≠ []) (hl : l.length ≤ 2000) (hn : fs.length ≤ 30) (n : Int) (h : (zj fs l).2 = n) (hne : n ≠ 0) :
 Calls Tryz.prog 153 #[v, .string (S l)] w fun e w' => e = .returned (.tuple #[.slice none 0 0, .int .i64 n]) ∧ Below w.heap.size w w' := by
 have hp : 0 < (S l).size := by rw [ju]; exact List.length_pos_iff.2 h0
 have hl2 : (S l).size ≤ 5000 := by rw [ju]; omega
 have hle : (Lib.cut l [58]).1.length ≤ 5000 := by
  unfold Lib.cut; split <;> simp <;> omega
 cases hg : zM fs l with
 | true => unfold zj at h; rw [if_pos hg] at h; exact absurd h.symm hne
 | false =>
   have hg' : zM fs (S l).data.toList = false := by rw [jt]; exact hg
   unfold zj at h; rw [hg] at h; simp only [Bool.false_eq_true, if_false] at h; cases hc1 : (Lib.cut l [58]).2.2 with
   | false =>
     rw [if_pos (.inl hc1)] at h; subst h; exact je4 B v fs (S l) w hO hm hp hl2 hn hg' (Lib.cut l [58]).1 (Lib.cut l [58]).2.1 (by rw [jt, ← hc1])
   | true =>
     cases hc2 : zT (Lib.cut l [58]).1 with
     | false =>
       rw [if_pos (.inr hc2)] at h; subst h; exact jf3 B v fs (S l) w hO hm hp hl2 hn hg' (Lib.cut l [58]).1 (Lib.cut l [58]).2.1 (by rw [jt, ← hc1]) hc2 hle
     | true =>
       rw [if_neg (by rw [hc1, hc2]; simp)] at h
       by_cases h2 : fs.length = 30
       · rw [if_pos h2] at h; subst h; exact jkl B v fs (S l) w hO hm hp hl2 h2 hg' (Lib.cut l [58]).1 (Lib.cut l [58]).2.1 (by rw [jt, ← hc1]) hc2 hle
       · rw [if_neg h2] at h; exact absurd h.symm hne
def jkf : Value → Nat
 | .string s => s.size
 | _ => 0
theorem jl7 {raw : List F} {a : List UInt8} {m : Nat} (hr : raw.length ≤ 30) (hb : ∀ f ∈ raw, f.2.length + (a.length + 2 + m) ≤ 2000) (ha : a.length + 2 + m ≤ 2000) :
 (zj raw a).1.length ≤ 30 ∧ ∀ f ∈ (zj raw a).1, f.2.length + m ≤ 2000 := by
 unfold zj; split
 · rename_i hg; have h0 : raw ≠ [] := by rintro rfl; simp [zM] at hg
   obtain ⟨f, hf⟩ : ∃ f, raw[raw.length - 1]? = some f := ⟨_, List.getElem?_eq_getElem (by have := List.length_pos_iff.2 h0; omega)⟩; rw [ja5 hf]; refine ⟨by simpa using hr, fun g hg => ?_⟩
   rcases List.mem_or_eq_of_mem_set hg with h | rfl
   · have := hb g h; omega
   · have := hb f (List.mem_of_getElem? hf); simp; omega
 · split
   · simp
   · split
     · simp
     · refine ⟨by simp; omega, fun g hg => ?_⟩
       rcases List.mem_append.1 hg with h | h
       · have := hb g h; omega
       · simp only [List.mem_singleton] at h; subst h; have : (Lib.cut a [58]).2.1.length ≤ a.length := by unfold Lib.cut; split <;> simp
         simp only; omega
theorem jd8 (l : List UInt8) : (S l).toList.isEmpty = l.isEmpty := by rw [Lib.toList_data, jt]
def jjO (r : Res) (a : Option Addr) (c : Nat) : Value := .tuple #[.agg #[.slice a r.1.length c, .string (S r.2.1)], .int .i64 r.2.2.1, .int .i64 r.2.2.2]
theorem jbg {r : Res} {p e : Int} (h : r = ([], [], p, e)) : jjO r none 0 = .tuple #[.agg #[.slice none 0 0, .string ⟨#[]⟩], .int .i64 p, .int .i64 e] := by
 subst h; rfl
def FreshA (n : Nat) (a : Option Addr) : Prop := ∀ b o q, a = some ⟨b, o, q⟩ → n ≤ b
theorem FreshA.nil (n : Nat) : FreshA n none := fun _ _ _ h => by cases h
theorem OwnF.fresh {w : World} {B n : Nat} {a : Option Addr} {c k : Nat} {fs : List F} (h : OwnF w B (.slice a k c) fs) (hn : n ≤ B) : FreshA n a := by
 intro b o q e; subst e
 rcases h.2 with ⟨h', _⟩ | ⟨g, cap, cur, h', hb, _⟩
 · simp at h'
 · simp only [Value.slice.injEq, Option.some.injEq, Addr.mk.injEq] at h'; obtain ⟨⟨e, _⟩, _⟩ := h'; omega
theorem jjQ (s : ByteArray) (w : World) (hs : s.size ≤ maxLen) (hm : maxLenCell w) :
 Calls Tryz.prog 115 #[.string s] w fun e w' => ∃ a c, e = .returned (jjO (zE s.data.toList) a c) ∧ FieldsAt w' a (zE s.data.toList).1 ∧ FreshA w.heap.size a ∧ Below w.heap.size w w' := by
 unfold maxLen at hs; have hB0 : Below w.heap.size w (w.alloc (.cells #[.slice none 0 0, .string ⟨#[]⟩] 61)) := nb0 _ _
 by_cases hbig : 2000 < s.size
 · have HP : Hid (zE s.data.toList = ([], [], 0, 1)) := by unfold Hid zE; rw [size_list, if_pos hbig]
   go_enter Tryz.func115, Tryz.ntmps115; go_wp2; exact bodyPost_ret (v := .tuple #[.agg #[.slice none 0 0, .string ⟨#[]⟩], .int .i64 0, .int .i64 1]) (by simp [results, Tryz.results115, go_sem]) rfl ⟨none, 0, by rw [jbg HP.out], by rw [HP.out]; exact jad _ _, FreshA.nil _, by first | exact hB0 | exact (hB0.setCell (by simp) _).setCell (by simp) _⟩
 · have HP : Hid (zE s.data.toList = zh 0 [] s.data.toList) := by unfold Hid zE; rw [size_list, if_neg hbig]
   go_enter Tryz.func115, Tryz.ntmps115; go_wp2
   go_loopw [0, 5, 6] (fun t v i wr => ∃ (x : ByteArray) (raw : List F) (p : Nat), t = .string x ∧ i = .int .i64 p ∧ OwnF wr (w.heap.size + 1) v raw ∧ raw.length ≤ 30 ∧ x.size ≤ 2000 ∧ p + x.size ≤ 2000 ∧ Hid (∀ f ∈ raw, f.2.length + x.size ≤ 2000) ∧ Hid (zE s.data.toList = zh p raw x.data.toList) ∧ Below (w.heap.size + 1) (w.alloc (.cells #[.slice none 0 0, .string ⟨#[]⟩] 61)) wr) (fun t _ _ _ => jkf t)
   case atStart => exact ⟨s, [], 0, rfl, rfl, OwnF.nil _ _, by simp, by omega, by omega, by simp [Hid], HP.out, Below.refl _ _⟩
   case round =>
    obtain ⟨x, raw, p, rfl, rfl, hO, hr, hx, hpx, HB, HR, hB⟩ := hrel; clear HP; obtain ⟨a0, c0, rfl⟩ := hO.any; have hz := hB.size; simp only [World.size_alloc] at hz; have hB1 : Below w.heap.size w wr := hB0.trans (hB.mono (by omega)); have hmr := maxLenCell_below hm hB1; have q0 : wr.cell? ⟨w.heap.size, 0, none⟩ = some (.slice none 0 0) := (hB.cell (by simp)).trans (by simp); have q1 : wr.cell? ⟨w.heap.size, 1, none⟩ = some (.string ⟨#[]⟩) := (hB.cell (by simp)).trans (by simp); have q2 : wr.frozen? ⟨w.heap.size, 0, none⟩ = false := (hB.frozen (by simp)).trans (by simp); have q3 : wr.frozen? ⟨w.heap.size, 1, none⟩ = false := (hB.frozen (by simp)).trans (by simp); cases hE : jL x.data.toList with
    | false =>
      have HC : Hid _ := jkX hE; have HQ : Hid (zE s.data.toList = ([], [], (p : Int), 4)) := by unfold Hid; rw [HR.out]; exact qw hE
      clear hE; go_wp2_with fail; refine (vc x _ [13, 10] _ _ false rfl HC.out _ (by omega) hmr).mono ?_; rintro e u ⟨rfl, q, rfl⟩; go_wp2; exact bodyPost_ret (v := .tuple #[.agg #[.slice none 0 0, .string ⟨#[]⟩], .int .i64 p, .int .i64 4]) (by simp [results, Tryz.results115, go_sem, q0, q1]) rfl ⟨none, 0, by rw [jbg HQ.out], by rw [HQ.out]; exact jad _ _, FreshA.nil _, by first | exact jbx hB1 _ | exact ((jbx hB1 _).setCell (by simp) _).setCell (by simp) _⟩
    | true =>
      obtain ⟨a, b, hab, ha⟩ := jbI hE; have HC : Hid (Lib.cut x.data.toList [13, 10] = (a, b, true)) := by unfold Hid; rw [hab]; exact jbH ha
      have hlen : x.size = a.length + 2 + b.length := by rw [← size_list, hab]; simp; omega
      clear hE
      by_cases h0 : a = []
      · have HQ : Hid (zE s.data.toList = (raw.map vY, b, 0, 0)) := by
           unfold Hid; rw [HR.out, hab, h0, List.nil_append]; exact jaV _ _ _
        have he : (S a).toList.isEmpty = true := by rw [jd8, h0]; rfl
        have HB2 : Hid (∀ f ∈ raw, f.2.length ≤ 5000) := fun f hf => by have := HB.out f hf; omega
        clear hab h0; go_wp2_with fail; refine (vc x _ [13, 10] a b true rfl HC.out _ (by omega) hmr).mono ?_; rintro e u ⟨rfl, q, rfl⟩; go_wp2_with fail; refine (jcS (w.heap.size + 1) (.slice a0 raw.length c0) raw (wr.drewN q) hO hr HB2.out).mono ?_; rintro e u ⟨rfl, hO2, hb2, hz2⟩; have hB2 := (jbx hB q).trans hb2; have r0 : u.cell? ⟨w.heap.size, 0, none⟩ = some (.slice none 0 0) := (hB2.cell (by simp)).trans (by simp); have r1 : u.cell? ⟨w.heap.size, 1, none⟩ = some (.string ⟨#[]⟩) := (hB2.cell (by simp)).trans (by simp); have r2 : u.frozen? ⟨w.heap.size, 0, none⟩ = false := (hB2.frozen (by simp)).trans (by simp); have r3 : u.frozen? ⟨w.heap.size, 1, none⟩ = false := (hB2.frozen (by simp)).trans (by simp); have hml : (raw.map vY).length = raw.length := by simp
        go_wp2; refine bodyPost_ret (v := .tuple #[.agg #[.slice a0 raw.length c0, .string (S b)], .int .i64 0, .int .i64 0]) (by simp [results, Tryz.results115, go_sem, r0, r1]) rfl ⟨a0, c0, ?_, ?_, hO.fresh (by omega), ((hB0.trans (hB2.mono (by omega))).setCell (by simp) _).setCell (by simp) _⟩
        · rw [HQ.out]; unfold jjO; rw [hml]
        · rw [HQ.out]; refine OwnF.fields (B := w.heap.size + 1) (c := c0) ?_; rw [hml]; exact (hO2.far (p := ⟨w.heap.size, 0, none⟩) (by simp) _).far (p := ⟨w.heap.size, 1, none⟩) (by simp) _
      · have he : (S a).toList.isEmpty = false := by rw [jd8]; cases a with | nil => exact absurd rfl h0 | cons c t => rfl
        by_cases ht : (zj raw a).2 = 0
        · have HQ : Hid (zE s.data.toList = zh ((p + 1 : Nat) : Int) (zj raw a).1 b) := by
             unfold Hid; rw [HR.out, hab, jbN ha h0 ht]; simp
          have hbd := jl7 (raw := raw) (a := a) (m := b.length) hr (fun f hf => by have := HB.out f hf; omega) (by omega); have HB2 : Hid (∀ f ∈ raw, f.2.length ≤ 5000) := fun f hf => by have := HB.out f hf; omega
          have HT : Hid _ := ht; have HN : Hid _ := hbd; have HA : Hid (a ≠ []) := h0; have hbz : (S b).size = b.length := ju b; have HZ : Hid _ := hbz; clear hab h0 ht hbd hbz; go_wp2_with fail; refine (vc x _ [13, 10] a b true rfl HC.out _ (by omega) hmr).mono ?_; rintro e u ⟨rfl, q, rfl⟩; go_wp2_with fail; refine (jnG (w.heap.size + 1) (.slice a0 raw.length c0) raw a (wr.drewN q) hO hz (maxLenCell_below hmr (jbx (Below.refl _ _) q)) HA.out (by omega) HB2.out hr HT.out).mono ?_; rintro e u ⟨v', rfl, hO2, hb2⟩; have hB2 := (jbx hB q).trans hb2; go_wp2
          go_roundw
          case rel => first | exact ⟨S b, (zj raw a).1, p + 1, rfl, by go_num, hO2, HN.out.1, by have := HZ.out; omega, by have := HZ.out; omega, by unfold Hid; rw [ju]; exact HN.out.2, by unfold Hid; rw [jt]; exact HQ.out, hB2⟩ | ((repeat apply Exists.intro); exact ⟨⟨S b, (zj raw a).1, p + 1, rfl, by go_num, hO2, HN.out.1, by have := HZ.out; omega, by have := HZ.out; omega, by unfold Hid; rw [ju]; exact HN.out.2, by unfold Hid; rw [jt]; exact HQ.out, hB2⟩, rfl⟩) | (refine ⟨trivial, ?_⟩; (repeat apply Exists.intro); exact ⟨⟨S b, (zj raw a).1, p + 1, rfl, by go_num, hO2, HN.out.1, by have := HZ.out; omega, by have := HZ.out; omega, by unfold Hid; rw [ju]; exact HN.out.2, by unfold Hid; rw [jt]; exact HQ.out, hB2⟩, rfl⟩)
          case measure => simp only [jkf]; have := HZ.out; omega
        · obtain ⟨n, hn⟩ : ∃ n, (zj raw a).2 = n := ⟨_, rfl⟩; have hne : n ≠ 0 := by rw [← hn]; exact ht
          have hn0 : (n == 0) = false := by simpa using hne
          have HQ : Hid (zE s.data.toList = ([], [], (p : Int), n)) := by
             unfold Hid; rw [HR.out, hab, jco ha h0 ht, hn]
          have HN : Hid _ := hn; have HE : Hid (n ≠ 0) := hne; have HA : Hid (a ≠ []) := h0; clear hab h0 ht hn hne; go_wp2_with fail; refine (vc x _ [13, 10] a b true rfl HC.out _ (by omega) hmr).mono ?_; rintro e u ⟨rfl, q, rfl⟩; go_wp2_with fail; refine (jl8 (w.heap.size + 1) (.slice a0 raw.length c0) raw a (wr.drewN q) hO (maxLenCell_below hmr (jbx (Below.refl _ _) q)) HA.out (by omega) hr n HN.out HE.out).mono ?_; rintro e u ⟨rfl, hb2⟩; have hB2 := (jbx hB q).trans (hb2.mono (by simpa using hz)); have r0 : u.cell? ⟨w.heap.size, 0, none⟩ = some (.slice none 0 0) := (hB2.cell (by simp)).trans (by simp); have r1 : u.cell? ⟨w.heap.size, 1, none⟩ = some (.string ⟨#[]⟩) := (hB2.cell (by simp)).trans (by simp); have r2 : u.frozen? ⟨w.heap.size, 0, none⟩ = false := (hB2.frozen (by simp)).trans (by simp); have r3 : u.frozen? ⟨w.heap.size, 1, none⟩ = false := (hB2.frozen (by simp)).trans (by simp); go_wp2; exact bodyPost_ret (v := .tuple #[.agg #[.slice none 0 0, .string ⟨#[]⟩], .int .i64 p, .int .i64 n]) (by simp [results, Tryz.results115, go_sem, r0, r1]) rfl ⟨none, 0, by rw [jbg HQ.out], by rw [HQ.out]; exact jad _ _, FreshA.nil _, by first | exact hB0.trans (hB2.mono (by omega)) | exact ((hB0.trans (hB2.mono (by omega))).setCell (by simp) _).setCell (by simp) _⟩
theorem jmv : (Tryz.prog.info? 5).map (fun i => (i.zero, i.size, i.bytes)) = some (some (.int .u8 0), 1, 1) := by kernel_rfl
def vy (l : List UInt8) : List Value := l.map fun c => .int .u8 c.toNat
theorem jb0 (l : List UInt8) (c : UInt8) (x : Int) (hx : (c.toNat : Int) = x) : vy (l ++ [c]) = vy l ++ [.int .u8 x] := by
 simp [vy, ← hx]
theorem jbZ {w : World} {base n : Nat} {v : Value} {l : List UInt8} (h : w.ownsRow base 5 1 v n (vy l)) :
 (convert 98 9 v).run Tryz.prog w = .ok (.string (S l)) w := by
 have hl : l.length = n := by have := h.1; simpa [vy] using this
 rcases h.2 with ⟨rfl, hn⟩ | ⟨g, cap, cur, rfl, _⟩
 · rw [run_convert_bytes_nil w 98 5 Tryz.underlying98 Tryz.underlying5 0 0 9 Tryz.underlying9]; have : l = [] := List.length_eq_zero_iff.1 (by omega); subst this; rfl
 · have := run_convert_bytes_back (P := Tryz.prog) w 98 9 5 ⟨g, 0, none⟩ cap l Tryz.underlying98 Tryz.underlying5 Tryz.underlying9 (fun j hj => by
    have e : (⟨g, 0, none⟩ : Addr).add j = ⟨g, j, none⟩ := by simp [Addr.add]; omega
    rw [e, h.cellAt j (by omega)]
    simp [vy, hj])
   rw [hl] at this; exact this
theorem jdP {w : World} {base : Nat} {e : TypeId} {size : Nat} {v : Value} {n : Nat} {xs : List Value} (h : w.ownsRow base e size v n xs) : ∃ a c, v = .slice a n c := by
 rcases h.2 with ⟨hv, rfl⟩ | ⟨g, cap, cur, hv, _⟩
 · exact ⟨_, _, hv⟩
 · exact ⟨_, _, hv⟩
theorem zn (w : World) (x : Value) (t : TypeId) : ∀ (j : Nat) u, [x][j]? = some u → (w.alloc (.cells #[x] t)).cell? ((⟨w.heap.size, 0, none⟩ : Addr).add j) = some u := by
 intro j u hj; rw [Addr.add_lit, Nat.zero_add]
 match j, hj with
 | 0, hj => simp at hj; subst hj; simp
def jij (c : UInt8) : UInt8 := UInt8.ofNat (97 + c.toNat % 26)
theorem jcC (c : UInt8) : ((jij c).toNat : Int) = 97 + (c.toNat : Int) % 26 := by
 unfold jij; have h : 97 + c.toNat % 26 < 256 := by omega
 rw [UInt8.toNat_ofNat_of_lt' (by simpa using h)]; omega
def jbE (l : List UInt8) (k : Nat) : List UInt8 := (l.take k).map jij
def zU (l : List UInt8) : List UInt8 := if l = [] then [120] else jbE l 8
theorem zA (l : List UInt8) : (zU l).length ≤ 8 := by unfold zU jbE; split <;> simp; omega
theorem jkA (s : ByteArray) (k : Nat) (hk : k < s.size) : vy (jbE s.data.toList (k + 1)) = vy (jbE s.data.toList k) ++ [.int .u8 (97 + (s[k].toNat : Int) % 26)] := by
 unfold jbE; rw [je5 s k hk, List.map_append]; exact jb0 _ _ _ (jcC _)
theorem jan (s : ByteArray) (w : World) (hs : s.size ≤ maxLen) :
 Calls Tryz.prog 28 #[.string s] w fun e w' => e = .returned (.string (S (zU s.data.toList))) ∧ Below w.heap.size w w' := by
 unfold maxLen at hs; obtain ⟨i0, hi, hz0, hz1, hz2⟩ := info_parts jmv; go_enter Tryz.func28, Tryz.ntmps28; go_wp2
 go_loopw [3, 4] (fun v i wr => ∃ k : Nat, k ≤ s.size ∧ k ≤ 8 ∧ i = .int .i64 k ∧ wr.ownsRow w.heap.size 5 1 v k (vy (jbE s.data.toList k)) ∧ Below w.heap.size w wr) (fun _ i _ => 8 - (intOf i).toNat)
 case atStart => exact ⟨0, Nat.zero_le _, Nat.zero_le _, rfl, World.ownsRow_nil _ _ _ _, Below.refl _ _⟩
 case round =>
  obtain ⟨k, hk, hk8, rfl, hown, hB⟩ := hrel
  by_cases hlt : k < s.size ∧ k < 8
  · obtain ⟨hl1, hl2⟩ := hlt; have hu := s[k].toNat_lt; have hu0 : (0 : Int) ≤ (s[k].toNat : Int) := by omega
    have hu1 : (s[k].toNat : Int) ≤ 255 := by omega
    have HS : Hid _ := jkA s k hl1
    go_wp2_with (at_builtin; refine wpList_append_own _ rfl _ _ 98 rfl w.heap.size 5 i0 (.int .u8 0) 1 1 Tryz.underlying98 hi hz0 hz1 hz2 rfl (by decide) _ _ _ rfl (hown.alloc _) ⟨wr.heap.size, 0, none⟩ 1 1 [.int .u8 (97 + (s[k].toNat : Int) % 26)] rfl rfl (zn _ _ _) ?c2 ?c3 ?c4 ?c5 ?_)
    case c2 => intro u hu; simp at hu; subst hu; rfl
    case c3 => unfold maxLen; omega
    case c4 => omega
    case c5 => have := hB.size; simp; omega
    intro v' w2 hown' hgrow _; have hsz := hB.size; have hB2 : Below w.heap.size w w2 := (hB.alloc hsz _).grown hgrow (by simp; omega) (fun j hj => (hown.lt j hj).1); rw [← HS.out] at hown'; clear hgrow hown; go_wp2
    go_roundw
    case rel => first | exact ⟨k + 1, by omega, by omega, by go_num, hown', hB2⟩ | ((repeat apply Exists.intro); exact ⟨⟨k + 1, by omega, by omega, by go_num, hown', hB2⟩, rfl⟩) | (refine ⟨trivial, ?_⟩; (repeat apply Exists.intro); exact ⟨⟨k + 1, by omega, by omega, by go_num, hown', hB2⟩, rfl⟩)
    case measure => simp [intOf]; omega
  · by_cases h0 : s.size = 0
    · have hk0 : k = 0 := by omega
      subst hk0; have HW : Hid (zU s.data.toList = [120]) := by
       have : s.data.toList = [] := List.length_eq_zero_iff.1 (by rw [size_list]; exact h0); unfold Hid zU; rw [if_pos this]
      obtain ⟨a0, c0, rfl⟩ := jdP hown; go_wp2; go_ret; exact ⟨by rw [HW.out]; rfl, hB⟩
    · have HT : Hid (zU s.data.toList = jbE s.data.toList k) := by
       have hne : s.data.toList ≠ [] := fun e => by have := size_list s; rw [e] at this; simp at this; omega
       unfold Hid zU; rw [if_neg hne]
       by_cases h8 : k = 8
       · rw [h8]
       · unfold jbE; rw [List.take_of_length_le (by rw [size_list]; omega), List.take_of_length_le (by rw [size_list]; omega)]
      have hkp : (k : Int) ≠ 0 := by omega
      have hkb : ((k : Int) == 0) = false := by simpa using hkp
      have hrun := jbZ hown; obtain ⟨a0, c0, rfl⟩ := jdP hown
      by_cases h8 : k < s.size
      · have hk8' : ¬ k < 8 := fun h => hlt ⟨h8, h⟩
        go_wp2; go_ret; exact ⟨by rw [HT.out]; rfl, hB⟩
      · go_wp2; go_ret; exact ⟨by rw [HT.out]; rfl, hB⟩
end Go.Proofs.YtgfbdgheencmaaaGreatDoor
