/-
  What package judge does with a course, command by command: the walks.
-/
import Derived.Test.YtgfbdgheencmaaaGreatDoorXQJudCrs2
import Derived.Test.YtgfbdgheencmaaaGreatDoorXRulCs
import Derived.Test.YtgfbdgheencmaaaGreatDoorRows
set_option maxHeartbeats 1000000
set_option maxRecDepth 100000
namespace Go.Proofs.YtgfbdgheencmaaaGreatDoor
open Go.RowKit Go.Proofs
theorem jor : ∀ (p : Addr) (n c : Nat) (w : World), (binOp BinOp.eql 72 (.slice (some p) n c) (.slice none 0 0)).run Tryz.prog w = .ok (.bool false) w := by intro p n c w; kernel_rfl
theorem jns : ∀ (w : World), (binOp BinOp.eql 72 (.slice none 0 0) (.slice none 0 0)).run Tryz.prog w = .ok (.bool true) w := by intro w; kernel_rfl
theorem jiB (l : List Atn) (a : Option Addr) (c : Nat) (w : World) (h : AtnsM anyB w (.slice a l.length c) l) (hl : l.length ≤ 6) (hn : a = none → l = [] ∧ c = 0) :
 Calls Tryz.prog 69 #[.slice a l.length c] w fun e w' => ∃ a' c', e = .returned (.slice a' l.length c') ∧ OwnAs w.heap.size w' (.slice a' l.length c') l ∧ Below w.heap.size w w' := by
 have heq := jor; have heq0 := jns; cases a with
 | none =>
   obtain ⟨rfl, rfl⟩ := hn rfl; go_enter Tryz.func69, Tryz.ntmps69; go_wp2; go_ret; exact ⟨_, _, rfl, OwnRow.nil _ _ _ _ _, Below.refl _ _⟩
 | some p =>
   obtain ⟨W1, hW1⟩ : ∃ W1, W1 = w.alloc (.cells #[] 78) := ⟨_, rfl⟩; have HWE := hid hW1; have HB1 := hid (show Below w.heap.size w W1 by rw [hW1]; exact nb0 _ _); have hs1 : W1.heap.size = w.heap.size + 1 := by rw [hW1]; simp
   have HO1 := hid (show W1.ownsRow w.heap.size 78 3 (.slice (some ⟨w.heap.size, 0, none⟩) 0 0) 0 [] from ⟨rfl, .inr ⟨w.heap.size, 0, #[], rfl, Nat.le_refl _, by rw [hW1]; exact heap_alloc_new w _, Nat.le_refl _, by unfold maxLen; omega, rfl, rfl⟩⟩); have HR1 := hid (AtnsM.next h HB1.out); clear h hW1
   by_cases h0 : l = []
   · subst h0; go_enter Tryz.func69, Tryz.ntmps69; go_wp2; have HO2 := hid (show OwnAs w.heap.size W1 (.slice (some ⟨w.heap.size, 0, none⟩) 0 0) [] from ⟨[], HO1.out, rfl, (fun cs h => by cases h), (fun i x cs h => by simp at h)⟩); rw [← HWE.out]; go_ret; exact ⟨_, _, rfl, HO2.out, HB1.out⟩
   · have hpos : 0 < l.length := List.length_pos_iff.2 h0; obtain ⟨b, o, rfl⟩ : ∃ b o, p = ⟨b, o, none⟩ := by
        cases l with
        | nil => exact absurd rfl h0
        | cons x r =>
          obtain ⟨b, o, he, _⟩ := jiu HR1.out (i := 0) rfl; exact ⟨b, o, Option.some.inj he⟩
     obtain ⟨i0, hi, hz0, hz1, hz2⟩ := info_parts jjf; obtain ⟨css, n1, n2, n3, n4⟩ := jeW HR1.out l.length (Nat.le_refl _); have HN3 := hid n3; have HN4 := hid (show ∀ (j : Nat) u, css.flatten[j]? = some u → W1.cell? ((⟨b, o, none⟩ : Addr).add j) = some u from fun j u hj => by rw [Addr.add_lit]; exact n4 j u hj); have hfl : css.flatten.length = l.length * 3 := by rw [jbb n2, n1]
     have HONE := hid (show ∀ u ∈ css.flatten, u.oneCell' = true from fun u hu => by
        obtain ⟨cs, hcs, hu2⟩ := List.mem_flatten.1 hu; obtain ⟨q, hq, hqe⟩ := List.getElem_of_mem hcs; have hq2 : css[q]? = some cs := by rw [List.getElem?_eq_getElem hq, hqe]
        have hP : cs = _ := n3 q _ cs (List.getElem?_eq_getElem (by omega)) hq2; rw [hP] at hu2
        simp at hu2
        rcases hu2 with rfl | rfl | rfl <;> rfl)
     clear n3 n4 h0; go_enter Tryz.func69, Tryz.ntmps69
     go_wp2_with (at_builtin; refine wpList_append_lies _ rfl _ _ 72 rfl w.heap.size 78 i0 _ 3 32 Tryz.underlying72 hi hz0 hz1 hz2 rfl (by decide) (.slice (some ⟨w.heap.size, 0, none⟩) 0 0) 0 [] rfl ?k1 ⟨b, o, none⟩ l.length c css.flatten rfl hfl ?k2 HONE.out hpos ?k3 ?k4 ?k5 _ rfl ?_)
     case k1 => rw [← HWE.out]; exact HO1.out
     case k2 => rw [← HWE.out]; exact HN4.out
     case k3 => unfold maxLen; omega
     case k4 => omega
     case k5 => rw [← HWE.out]; omega
     rw [← HWE.out]; intro g cap w3 hown3 hgrow hat hlt3; have HO3 := hid (show OwnAs w.heap.size w3 (.slice (some ⟨g, 0, none⟩) l.length cap) l from ⟨css, by simpa using hown3, n1, n2, HN3.out⟩); have HB3 := hid (show Below w.heap.size w w3 from HB1.out.grown hgrow (by omega) (fun j hj => by have h1 : w.heap.size = j := Option.some.inj hj; omega)); clear hown3 hgrow hat; go_wp2; go_ret; exact ⟨_, _, rfl, HO3.out, HB3.out⟩
theorem OwnAs.far {B : Nat} {w : World} {v u : Value} {l : List Atn} {p : Addr} (h : OwnAs B w v l) (hp : p.block < B) : OwnAs B (w.setCell p u) v l := by
 obtain ⟨css, h2, h3, h4, h5⟩ := h; refine ⟨css, h2.kept (row := some p.block) ⟨rfl, rfl, rfl, by simp [World.setCell], fun k _ hn => Below.heap_setCell _ _ _ _ (fun e => hn (by rw [e]))⟩ ?_, h3, h4, h5⟩; cases hv : v.ownBlock with
 | none => exact .inl rfl
 | some j => exact .inr fun e => by have := (World.ownsRow.lt h2 j hv).1; have := Option.some.inj e; omega
theorem OwnAs.low {B B' : Nat} {w : World} {v : Value} {l : List Atn} (h : OwnAs B w v l) (hB : B' ≤ B) : OwnAs B' w v l := by
 obtain ⟨css, ⟨h1, h2⟩, h3, h4, h5⟩ := h; refine ⟨css, ⟨h1, ?_⟩, h3, h4, h5⟩
 rcases h2 with h2 | ⟨g, cap, cur, e, hb, r⟩
 · exact .inl h2
 · exact .inr ⟨g, cap, cur, e, Nat.le_trans hB hb, r⟩
theorem jjD (c : Crs) (a : Option Addr) (k : Nat) (w : World) :
 Calls Tryz.prog 68 #[.agg #[.slice a c.acts.length k, .int .i64 c.flags, .bool c.asked, .int .i64 c.fault]] w fun e w' => e = .returned (.bool (decide (c.acts.length ≤ 6) && (decide (0 ≤ c.flags) && decide (c.flags ≤ 31)))) ∧ Below w.heap.size w w' := by
 have HB := hid (show Below w.heap.size w (w.alloc (.cells #[.slice a c.acts.length k, .int .i64 c.flags, .bool c.asked, .int .i64 c.fault] 108)) from nb0 _ _)
 by_cases h1 : c.acts.length ≤ 6
 · have h1' : (c.acts.length : Int) ≤ 6 := by omega
   by_cases h2 : 0 ≤ c.flags
   · by_cases h3 : c.flags ≤ 31
     all_goals
        have HE := hid (show (decide (c.acts.length ≤ 6) && (decide (0 ≤ c.flags) && decide (c.flags ≤ 31))) = decide (c.flags ≤ 31) by simp [h1, h2]); rw [HE.out]; go_enter Tryz.func68, Tryz.ntmps68; go_wp2; go_ret; exact ⟨jg (by simp [h3]), HB.out⟩
   · have HE := hid (show (decide (c.acts.length ≤ 6) && (decide (0 ≤ c.flags) && decide (c.flags ≤ 31))) = false by simp [h2]); rw [HE.out]; go_enter Tryz.func68, Tryz.ntmps68; go_wp2; go_ret; exact ⟨jg (by simp), HB.out⟩
 · have h1' : ¬ (c.acts.length : Int) ≤ 6 := by omega
   have HE := hid (show (decide (c.acts.length ≤ 6) && (decide (0 ≤ c.flags) && decide (c.flags ≤ 31))) = false by simp [h1]); rw [HE.out]; go_enter Tryz.func68, Tryz.ntmps68; go_wp2; go_ret; exact ⟨jg (by simp), HB.out⟩
def zv (l : List (List UInt8)) : Nat := (zR l).getD 0
def jcL (s : List UInt8) : List UInt8 := (qx 1 ((zg s).1.getD 0 ([], [])).1 ((zg s).1.getD 0 ([], [])).2).1
def actP (f : Int) (x : Cmd) : Atn :=
 ⟨x.kind, if x.kind = 5 ∨ x.kind = 7 then x.texts.getD 0 [] else if x.kind = 6 then jcL (x.texts.getD 0 []) else [], if x.kind = 3 ∨ x.kind = 5 then f else 0⟩
def doP (c : Crs) (x : Cmd) : Crs × Bool :=
 if x.kind = 1 then (c, false)
 else if x.kind = 10 then (c, true)
 else if x.kind = 8 then (⟨c.acts, (zv x.texts : Nat), c.asked, c.fault⟩, false)
 else if x.kind = 9 then (⟨c.acts, ((c.flags.toNat ||| zv x.texts : Nat) : Int), c.asked, c.fault⟩, false)
 else askP c (actP c.flags x)
theorem vP (x : Cmd) (ax an ak at' aa ae : Option Addr) (cx cn ck ct ca ce : Nat) (w : World) (hw : FlagsAt w) (hT : TxtsM anyB w (.slice ax x.texts.length cx) x.texts) :
 Calls Tryz.prog 116 #[.agg #[.int .i64 x.kind, .slice ax x.texts.length cx, .int .i64 x.test.kind, .int .i64 x.test.mat, .int .i64 x.test.part, .slice an x.test.names.length cn, .slice ak x.test.keys.length ck, .bool x.test.over, .int .i64 x.test.limit, .slice at' x.test.tests.length ct, .slice aa x.thn.length ca, .slice ae x.els.length ce]] w fun e w' => e = .returned (.int .i64 (zv x.texts : Nat)) ∧ Below w.heap.size w w' := by
 obtain ⟨W0, hW0⟩ : ∃ W0, W0 = w.alloc (.cells #[.int .i64 x.kind, .slice ax x.texts.length cx, .int .i64 x.test.kind, .int .i64 x.test.mat, .int .i64 x.test.part, .slice an x.test.names.length cn, .slice ak x.test.keys.length ck, .bool x.test.over, .int .i64 x.test.limit, .slice at' x.test.tests.length ct, .slice aa x.thn.length ca, .slice ae x.els.length ce] 84) := ⟨_, rfl⟩; have HWE := hid hW0; have HB0 := hid (show Below w.heap.size w W0 by rw [hW0]; exact nb0 _ _); have HF := hid (jb8 x.texts ax cx W0 (hw.next HB0.out) (hT.next HB0.out)); clear hw hT hW0; go_enter Tryz.func116, Tryz.ntmps116; go_wp2_with fail; rw [← HWE.out]; refine HF.out.mono ?_; rintro e w1 ⟨rfl, hb1⟩; simp only; have HB1 := hid (HB0.out.trans (hb1.mono HB0.out.size)); clear hb1 HWE; cases hf : zR x.texts with
 | none =>
   have HE := hid (show zv x.texts = 0 by unfold zv; rw [hf]; rfl); clear hf; unfold jb6; simp only; go_wp2; go_ret; exact ⟨jh (by rw [HE.out]; rfl), HB1.out⟩
 | some v =>
   have HE := hid (show zv x.texts = v by unfold zv; rw [hf]; rfl); clear hf; unfold jb6; simp only; go_wp2; go_ret; exact ⟨jh (by rw [HE.out]), HB1.out⟩
theorem jgl {s : List UInt8} (h : qk s = 0) : ∃ x, zg s = ([x], 0) := by
 unfold qk at h; split at h
 · next h2 =>
   obtain ⟨e1, e2⟩ := h2
   match hl : (zg s).1, e2 with
   | [x], _ => exact ⟨x, by rw [← hl, ← e1]⟩
 · cases h
theorem jmK {s : List UInt8} {x : Adr} (h : zg s = ([x], 0)) : jK x.1 x.2 = 0 := by
 unfold zg at h; split at h
 · cases h
 · split at h
   · cases h
   · next l hl =>
     split at h
     · cases h
     · cases h; exact jeE _ _ _ hl x (by simp)
theorem jiq {s : List UInt8} {x : Adr} (h : zg s = ([x], 0)) : x.1.length ≤ 2000 ∧ x.2.length ≤ 2000 := by
 have := jaQ (jmK h); omega
theorem jhq (s : List UInt8) (w : World) (hg : qk s = 0) (hs : s.length ≤ 2000) :
 Calls Tryz.prog 159 #[.string (S s)] w fun e w' => e = .returned (.string (S (jcL s))) ∧ Below w.heap.size w w' := by
 obtain ⟨x, hx⟩ := jgl hg; obtain ⟨l1, l2⟩ := jiq hx; have HT := hid (show jcL s = (qx 1 x.1 x.2).1 by unfold jcL; rw [hx]; rfl); have HL := hid (show Calls Tryz.prog 104 #[.string (S s)] w (jgN w ([x], 0)) by
  have := jbL (S s) w (by rw [ju]; unfold maxLen; omega); rw [jt, hx] at this; exact this)
 have HP := hid (fun W => jdS 1 (S x.1) (S x.2) W (by rw [ju]; omega) (by rw [ju]; omega)); clear hg hx hs; go_enter Tryz.func159, Tryz.ntmps159; go_wp2_with fail; refine HL.out.mono ?_; rintro e w1 ⟨a, c, rfl, hA, hb1⟩; simp only; obtain ⟨b, rfl, hbl, c0, c1⟩ := hA 0 x rfl; have HB1 := hid hb1; clear hb1 hA; simp only [List.length_cons, List.length_nil, Nat.zero_mul, Nat.zero_add] at c0 c1 ⊢; go_wp2_with fail; refine (HP.out w1).mono ?_; rw [jt, jt]; rintro e w2 ⟨rfl, hb2⟩; simp only; have HB2 := hid (HB1.out.trans (hb2.mono HB1.out.size)); clear hb2; go_wp2; go_ret; exact ⟨by rw [HT.out]; rfl, HB2.out⟩
theorem qq (w : World) (o1 o2 o3 : Obj) : Below w.heap.size w (((w.alloc o1).alloc o2).alloc o3) := ((nb0 _ _).alloc (by simp) _).alloc (by simp; omega) _
def ActR (w : World) (y : Atn) (e : Ending) (w' : World) : Prop := e = .returned (.agg #[.int .i64 y.kind, .string (S y.text), .int .i64 y.flags]) ∧ Below w.heap.size w w'
theorem jgP (b : Nat) (f : Int) (x : Cmd) (ax an ak at' aa ae : Option Addr) (cx cn ck ct ca ce : Nat) (w : World) (hb : w.cell? ⟨b, 1, none⟩ = some (.int .i64 f)) :
 Calls Tryz.prog 118 #[.pointer (some ⟨b, 0, none⟩), .agg #[.int .i64 3, .slice ax x.texts.length cx, .int .i64 x.test.kind, .int .i64 x.test.mat, .int .i64 x.test.part, .slice an x.test.names.length cn, .slice ak x.test.keys.length ck, .bool x.test.over, .int .i64 x.test.limit, .slice at' x.test.tests.length ct, .slice aa x.thn.length ca, .slice ae x.els.length ce]] w (ActR w ⟨3, [], f⟩) := by
 have hbU : (((w.alloc (.cells #[.int .i64 3, .slice ax x.texts.length cx, .int .i64 x.test.kind, .int .i64 x.test.mat, .int .i64 x.test.part, .slice an x.test.names.length cn, .slice ak x.test.keys.length ck, .bool x.test.over, .int .i64 x.test.limit, .slice at' x.test.tests.length ct, .slice aa x.thn.length ca, .slice ae x.els.length ce] 84)).alloc (.cells #[.int .i64 0, .string ⟨#[]⟩, .int .i64 0] 78)).alloc (.cells #[.int .i64 3, .string ⟨#[]⟩, .int .i64 0] 78)).cell? ⟨b, 1, none⟩ = some (.int .i64 f) := jb hb (qq w (.cells #[.int .i64 3, .slice ax x.texts.length cx, .int .i64 x.test.kind, .int .i64 x.test.mat, .int .i64 x.test.part, .slice an x.test.names.length cn, .slice ak x.test.keys.length ck, .bool x.test.over, .int .i64 x.test.limit, .slice at' x.test.tests.length ct, .slice aa x.thn.length ca, .slice ae x.els.length ce] 84) (.cells #[.int .i64 0, .string ⟨#[]⟩, .int .i64 0] 78) (.cells #[.int .i64 3, .string ⟨#[]⟩, .int .i64 0] 78)); clear hb; go_enter Tryz.func118, Tryz.ntmps118; go_wp2; refine bodyPost_ret (v := .agg #[.int .i64 3, .string ⟨#[]⟩, .int .i64 f]) (by simp [results, Tryz.results118, go_sem, *]) rfl ?_; exact ⟨rfl, qq _ _ _ _⟩
theorem jgQ (b : Nat) (f : Int) (x : Cmd) (ax an ak at' aa ae : Option Addr) (cx cn ck ct ca ce : Nat) (w : World) (hb : w.cell? ⟨b, 1, none⟩ = some (.int .i64 f)) :
 Calls Tryz.prog 118 #[.pointer (some ⟨b, 0, none⟩), .agg #[.int .i64 4, .slice ax x.texts.length cx, .int .i64 x.test.kind, .int .i64 x.test.mat, .int .i64 x.test.part, .slice an x.test.names.length cn, .slice ak x.test.keys.length ck, .bool x.test.over, .int .i64 x.test.limit, .slice at' x.test.tests.length ct, .slice aa x.thn.length ca, .slice ae x.els.length ce]] w (ActR w ⟨4, [], 0⟩) := by
 have hbU : (((w.alloc (.cells #[.int .i64 4, .slice ax x.texts.length cx, .int .i64 x.test.kind, .int .i64 x.test.mat, .int .i64 x.test.part, .slice an x.test.names.length cn, .slice ak x.test.keys.length ck, .bool x.test.over, .int .i64 x.test.limit, .slice at' x.test.tests.length ct, .slice aa x.thn.length ca, .slice ae x.els.length ce] 84)).alloc (.cells #[.int .i64 0, .string ⟨#[]⟩, .int .i64 0] 78)).alloc (.cells #[.int .i64 4, .string ⟨#[]⟩, .int .i64 0] 78)).cell? ⟨b, 1, none⟩ = some (.int .i64 f) := jb hb (qq w (.cells #[.int .i64 4, .slice ax x.texts.length cx, .int .i64 x.test.kind, .int .i64 x.test.mat, .int .i64 x.test.part, .slice an x.test.names.length cn, .slice ak x.test.keys.length ck, .bool x.test.over, .int .i64 x.test.limit, .slice at' x.test.tests.length ct, .slice aa x.thn.length ca, .slice ae x.els.length ce] 84) (.cells #[.int .i64 0, .string ⟨#[]⟩, .int .i64 0] 78) (.cells #[.int .i64 4, .string ⟨#[]⟩, .int .i64 0] 78)); clear hb; go_enter Tryz.func118, Tryz.ntmps118; go_wp2; refine bodyPost_ret (v := .agg #[.int .i64 4, .string ⟨#[]⟩, .int .i64 0]) (by simp [results, Tryz.results118, go_sem, *]) rfl ?_; exact ⟨rfl, qq _ _ _ _⟩
theorem jgR (b : Nat) (f : Int) (x : Cmd) (ax an ak at' aa ae : Option Addr) (cx cn ck ct ca ce : Nat) (w : World) (hb : w.cell? ⟨b, 1, none⟩ = some (.int .i64 f)) (hT : TxtsM anyB w (.slice ax x.texts.length cx) x.texts) (h0 : x.texts ≠ []) :
 Calls Tryz.prog 118 #[.pointer (some ⟨b, 0, none⟩), .agg #[.int .i64 5, .slice ax x.texts.length cx, .int .i64 x.test.kind, .int .i64 x.test.mat, .int .i64 x.test.part, .slice an x.test.names.length cn, .slice ak x.test.keys.length ck, .bool x.test.over, .int .i64 x.test.limit, .slice at' x.test.tests.length ct, .slice aa x.thn.length ca, .slice ae x.els.length ce]] w (ActR w ⟨5, x.texts.getD 0 [], f⟩) := by
 obtain ⟨bt, ot, rfl, e0⟩ := qV hT h0; have hpos : 0 < x.texts.length := List.length_pos_iff.2 h0; have j1 : (0 : Int) < (x.texts.length : Int) := by omega
 obtain ⟨t, ht⟩ : ∃ t, t = x.texts.getD 0 [] := ⟨_, rfl⟩; rw [← ht] at e0; rw [← ht]; have hbO : ∀ o, (((w.alloc (.cells #[.int .i64 5, .slice (some ⟨bt, ot, none⟩) x.texts.length cx, .int .i64 x.test.kind, .int .i64 x.test.mat, .int .i64 x.test.part, .slice an x.test.names.length cn, .slice ak x.test.keys.length ck, .bool x.test.over, .int .i64 x.test.limit, .slice at' x.test.tests.length ct, .slice aa x.thn.length ca, .slice ae x.els.length ce] 84)).alloc (.cells #[.int .i64 0, .string ⟨#[]⟩, .int .i64 0] 78)).alloc o).cell? ⟨b, 1, none⟩ = some (.int .i64 f) := fun o => jb hb (qq w _ _ o)
 have e0O : ∀ o, (((w.alloc (.cells #[.int .i64 5, .slice (some ⟨bt, ot, none⟩) x.texts.length cx, .int .i64 x.test.kind, .int .i64 x.test.mat, .int .i64 x.test.part, .slice an x.test.names.length cn, .slice ak x.test.keys.length ck, .bool x.test.over, .int .i64 x.test.limit, .slice at' x.test.tests.length ct, .slice aa x.thn.length ca, .slice ae x.els.length ce] 84)).alloc (.cells #[.int .i64 0, .string ⟨#[]⟩, .int .i64 0] 78)).alloc o).cell? ⟨bt, ot, none⟩ = some (.string (S t)) := fun o => jb e0 (qq w _ _ o)
 have hbU : (((w.alloc (.cells #[.int .i64 5, .slice (some ⟨bt, ot, none⟩) x.texts.length cx, .int .i64 x.test.kind, .int .i64 x.test.mat, .int .i64 x.test.part, .slice an x.test.names.length cn, .slice ak x.test.keys.length ck, .bool x.test.over, .int .i64 x.test.limit, .slice at' x.test.tests.length ct, .slice aa x.thn.length ca, .slice ae x.els.length ce] 84)).alloc (.cells #[.int .i64 0, .string ⟨#[]⟩, .int .i64 0] 78)).alloc (.cells #[.int .i64 5, .string ⟨#[]⟩, .int .i64 0] 78)).cell? ⟨b, 1, none⟩ = some (.int .i64 f) := jb hb (qq w (.cells #[.int .i64 5, .slice (some ⟨bt, ot, none⟩) x.texts.length cx, .int .i64 x.test.kind, .int .i64 x.test.mat, .int .i64 x.test.part, .slice an x.test.names.length cn, .slice ak x.test.keys.length ck, .bool x.test.over, .int .i64 x.test.limit, .slice at' x.test.tests.length ct, .slice aa x.thn.length ca, .slice ae x.els.length ce] 84) (.cells #[.int .i64 0, .string ⟨#[]⟩, .int .i64 0] 78) (.cells #[.int .i64 5, .string ⟨#[]⟩, .int .i64 0] 78)); have e0U : (((w.alloc (.cells #[.int .i64 5, .slice (some ⟨bt, ot, none⟩) x.texts.length cx, .int .i64 x.test.kind, .int .i64 x.test.mat, .int .i64 x.test.part, .slice an x.test.names.length cn, .slice ak x.test.keys.length ck, .bool x.test.over, .int .i64 x.test.limit, .slice at' x.test.tests.length ct, .slice aa x.thn.length ca, .slice ae x.els.length ce] 84)).alloc (.cells #[.int .i64 0, .string ⟨#[]⟩, .int .i64 0] 78)).alloc (.cells #[.int .i64 5, .string ⟨#[]⟩, .int .i64 0] 78)).cell? ⟨bt, ot, none⟩ = some (.string (S t)) := jb e0 (qq w (.cells #[.int .i64 5, .slice (some ⟨bt, ot, none⟩) x.texts.length cx, .int .i64 x.test.kind, .int .i64 x.test.mat, .int .i64 x.test.part, .slice an x.test.names.length cn, .slice ak x.test.keys.length ck, .bool x.test.over, .int .i64 x.test.limit, .slice at' x.test.tests.length ct, .slice aa x.thn.length ca, .slice ae x.els.length ce] 84) (.cells #[.int .i64 0, .string ⟨#[]⟩, .int .i64 0] 78) (.cells #[.int .i64 5, .string ⟨#[]⟩, .int .i64 0] 78)); clear hb hT h0 ht e0; go_enter Tryz.func118, Tryz.ntmps118; go_wp2
 go_region_law (fail)
 all_goals
  go_wp2; refine bodyPost_ret (v := .agg #[.int .i64 5, .string (S t), .int .i64 f]) (by simp [results, Tryz.results118, go_sem, *]) rfl ?_
  first | exact ⟨rfl, qq _ _ _ _⟩ | exact ⟨rfl, (qq _ _ _ _).drew⟩ | exact ⟨rfl, (((nb0 _ _).alloc (by simp) _).alloc (by simp; omega) _)⟩ | exact ⟨rfl, (((nb0 _ _).drew.alloc (by simp) _).alloc (by simp; omega) _)⟩ | exact ⟨rfl, (((nb0 _ _).alloc (by simp) _).drew.alloc (by simp; omega) _)⟩
theorem jgT (b : Nat) (f : Int) (x : Cmd) (ax an ak at' aa ae : Option Addr) (cx cn ck ct ca ce : Nat) (w : World) (hb : w.cell? ⟨b, 1, none⟩ = some (.int .i64 f)) (hT : TxtsM anyB w (.slice ax x.texts.length cx) x.texts) (h0 : x.texts ≠ []) :
 Calls Tryz.prog 118 #[.pointer (some ⟨b, 0, none⟩), .agg #[.int .i64 7, .slice ax x.texts.length cx, .int .i64 x.test.kind, .int .i64 x.test.mat, .int .i64 x.test.part, .slice an x.test.names.length cn, .slice ak x.test.keys.length ck, .bool x.test.over, .int .i64 x.test.limit, .slice at' x.test.tests.length ct, .slice aa x.thn.length ca, .slice ae x.els.length ce]] w (ActR w ⟨7, x.texts.getD 0 [], 0⟩) := by
 obtain ⟨bt, ot, rfl, e0⟩ := qV hT h0; have hpos : 0 < x.texts.length := List.length_pos_iff.2 h0; have j1 : (0 : Int) < (x.texts.length : Int) := by omega
 obtain ⟨t, ht⟩ : ∃ t, t = x.texts.getD 0 [] := ⟨_, rfl⟩; rw [← ht] at e0; rw [← ht]; have hbU : (((w.alloc (.cells #[.int .i64 7, .slice (some ⟨bt, ot, none⟩) x.texts.length cx, .int .i64 x.test.kind, .int .i64 x.test.mat, .int .i64 x.test.part, .slice an x.test.names.length cn, .slice ak x.test.keys.length ck, .bool x.test.over, .int .i64 x.test.limit, .slice at' x.test.tests.length ct, .slice aa x.thn.length ca, .slice ae x.els.length ce] 84)).alloc (.cells #[.int .i64 0, .string ⟨#[]⟩, .int .i64 0] 78)).alloc (.cells #[.int .i64 7, .string ⟨#[]⟩, .int .i64 0] 78)).cell? ⟨b, 1, none⟩ = some (.int .i64 f) := jb hb (qq w (.cells #[.int .i64 7, .slice (some ⟨bt, ot, none⟩) x.texts.length cx, .int .i64 x.test.kind, .int .i64 x.test.mat, .int .i64 x.test.part, .slice an x.test.names.length cn, .slice ak x.test.keys.length ck, .bool x.test.over, .int .i64 x.test.limit, .slice at' x.test.tests.length ct, .slice aa x.thn.length ca, .slice ae x.els.length ce] 84) (.cells #[.int .i64 0, .string ⟨#[]⟩, .int .i64 0] 78) (.cells #[.int .i64 7, .string ⟨#[]⟩, .int .i64 0] 78)); have e0U : (((w.alloc (.cells #[.int .i64 7, .slice (some ⟨bt, ot, none⟩) x.texts.length cx, .int .i64 x.test.kind, .int .i64 x.test.mat, .int .i64 x.test.part, .slice an x.test.names.length cn, .slice ak x.test.keys.length ck, .bool x.test.over, .int .i64 x.test.limit, .slice at' x.test.tests.length ct, .slice aa x.thn.length ca, .slice ae x.els.length ce] 84)).alloc (.cells #[.int .i64 0, .string ⟨#[]⟩, .int .i64 0] 78)).alloc (.cells #[.int .i64 7, .string ⟨#[]⟩, .int .i64 0] 78)).cell? ⟨bt, ot, none⟩ = some (.string (S t)) := jb e0 (qq w (.cells #[.int .i64 7, .slice (some ⟨bt, ot, none⟩) x.texts.length cx, .int .i64 x.test.kind, .int .i64 x.test.mat, .int .i64 x.test.part, .slice an x.test.names.length cn, .slice ak x.test.keys.length ck, .bool x.test.over, .int .i64 x.test.limit, .slice at' x.test.tests.length ct, .slice aa x.thn.length ca, .slice ae x.els.length ce] 84) (.cells #[.int .i64 0, .string ⟨#[]⟩, .int .i64 0] 78) (.cells #[.int .i64 7, .string ⟨#[]⟩, .int .i64 0] 78)); clear hb hT h0 ht e0; go_enter Tryz.func118, Tryz.ntmps118; go_wp2; refine bodyPost_ret (v := .agg #[.int .i64 7, .string (S t), .int .i64 0]) (by simp [results, Tryz.results118, go_sem, *]) rfl ?_; exact ⟨rfl, qq _ _ _ _⟩
theorem jgS (b : Nat) (f : Int) (x : Cmd) (ax an ak at' aa ae : Option Addr) (cx cn ck ct ca ce : Nat) (w : World) (_ : w.cell? ⟨b, 1, none⟩ = some (.int .i64 f)) (hT : TxtsM anyB w (.slice ax x.texts.length cx) x.texts) (h0 : x.texts ≠ []) (hg : qk (x.texts.getD 0 []) = 0) (hs : (x.texts.getD 0 []).length ≤ 2000) :
 Calls Tryz.prog 118 #[.pointer (some ⟨b, 0, none⟩), .agg #[.int .i64 6, .slice ax x.texts.length cx, .int .i64 x.test.kind, .int .i64 x.test.mat, .int .i64 x.test.part, .slice an x.test.names.length cn, .slice ak x.test.keys.length ck, .bool x.test.over, .int .i64 x.test.limit, .slice at' x.test.tests.length ct, .slice aa x.thn.length ca, .slice ae x.els.length ce]] w (ActR w ⟨6, jcL (x.texts.getD 0 []), 0⟩) := by
 obtain ⟨bt, ot, rfl, e0⟩ := qV hT h0; have hpos : 0 < x.texts.length := List.length_pos_iff.2 h0; have j1 : (0 : Int) < (x.texts.length : Int) := by omega
 obtain ⟨t, ht⟩ : ∃ t, t = x.texts.getD 0 [] := ⟨_, rfl⟩; rw [← ht] at e0 hg hs; rw [← ht]; obtain ⟨W0, hW0⟩ : ∃ W0, W0 = (((w.alloc (.cells #[.int .i64 6, .slice (some ⟨bt, ot, none⟩) x.texts.length cx, .int .i64 x.test.kind, .int .i64 x.test.mat, .int .i64 x.test.part, .slice an x.test.names.length cn, .slice ak x.test.keys.length ck, .bool x.test.over, .int .i64 x.test.limit, .slice at' x.test.tests.length ct, .slice aa x.thn.length ca, .slice ae x.els.length ce] 84)).alloc (.cells #[.int .i64 0, .string ⟨#[]⟩, .int .i64 0] 78)).alloc (.cells #[.int .i64 6, .string ⟨#[]⟩, .int .i64 0] 78)) := ⟨_, rfl⟩; have HWE := hid hW0; have HB0 := hid (show Below w.heap.size w W0 by rw [hW0]; exact qq w (.cells #[.int .i64 6, .slice (some ⟨bt, ot, none⟩) x.texts.length cx, .int .i64 x.test.kind, .int .i64 x.test.mat, .int .i64 x.test.part, .slice an x.test.names.length cn, .slice ak x.test.keys.length ck, .bool x.test.over, .int .i64 x.test.limit, .slice at' x.test.tests.length ct, .slice aa x.thn.length ca, .slice ae x.els.length ce] 84) (.cells #[.int .i64 0, .string ⟨#[]⟩, .int .i64 0] 78) (.cells #[.int .i64 6, .string ⟨#[]⟩, .int .i64 0] 78)); have e0U : (((w.alloc (.cells #[.int .i64 6, .slice (some ⟨bt, ot, none⟩) x.texts.length cx, .int .i64 x.test.kind, .int .i64 x.test.mat, .int .i64 x.test.part, .slice an x.test.names.length cn, .slice ak x.test.keys.length ck, .bool x.test.over, .int .i64 x.test.limit, .slice at' x.test.tests.length ct, .slice aa x.thn.length ca, .slice ae x.els.length ce] 84)).alloc (.cells #[.int .i64 0, .string ⟨#[]⟩, .int .i64 0] 78)).alloc (.cells #[.int .i64 6, .string ⟨#[]⟩, .int .i64 0] 78)).cell? ⟨bt, ot, none⟩ = some (.string (S t)) := jb e0 (qq w (.cells #[.int .i64 6, .slice (some ⟨bt, ot, none⟩) x.texts.length cx, .int .i64 x.test.kind, .int .i64 x.test.mat, .int .i64 x.test.part, .slice an x.test.names.length cn, .slice ak x.test.keys.length ck, .bool x.test.over, .int .i64 x.test.limit, .slice at' x.test.tests.length ct, .slice aa x.thn.length ca, .slice ae x.els.length ce] 84) (.cells #[.int .i64 0, .string ⟨#[]⟩, .int .i64 0] 78) (.cells #[.int .i64 6, .string ⟨#[]⟩, .int .i64 0] 78)); have HR0 := hid (show W0.heap[w.heap.size + 1]? = some (.cells #[.int .i64 0, .string ⟨#[]⟩, .int .i64 0] 78) by rw [hW0]; exact je _ (jm _ (by simp))); have HA0 := hid (show W0.heap[w.heap.size + 1 + 1]? = some (.cells #[.int .i64 6, .string ⟨#[]⟩, .int .i64 0] 78) by rw [hW0]; exact jm _ (by simp)); have HG := hid (jhq t W0 hg hs); clear hT h0 ht e0 hg hs hW0; go_enter Tryz.func118, Tryz.ntmps118; go_wp2_with fail; rw [← HWE.out]; refine HG.out.mono ?_; rintro e w1 ⟨rfl, hb1⟩; simp only; have HB1 := hid (HB0.out.trans (hb1.mono HB0.out.size)); have HR1 := hid (jlow hb1 HR0.out); have HA1 := hid (jlow hb1 HA0.out); have hR := HR1.out; have hA := HA1.out; obtain ⟨r0, r1, r2⟩ := bx3 hR; obtain ⟨q0, q1, q2⟩ := bx3 hA; have f0 : ∀ j, w1.frozen? ⟨w.heap.size + 1, j, none⟩ = false := by intro j; simp [World.frozen?, hR]
 have f1 : ∀ j, w1.frozen? ⟨w.heap.size + 1 + 1, j, none⟩ = false := by intro j; simp [World.frozen?, hA]
 clear hb1 HWE e0U hR hA; go_wp2; refine bodyPost_ret (v := .agg #[.int .i64 6, .string (S (jcL t)), .int .i64 0]) (by simp [results, Tryz.results118, go_sem, *]) rfl ?_; exact ⟨rfl, (((HB1.out.setCell (by simp; omega) _).setCell (by simp) _).setCell (by simp) _).setCell (by simp) _⟩
def StepR (w : World) (B b : Nat) (r : Crs × Bool) (e : Ending) (w' : World) : Prop := (∃ v, e = .returned v) ∧ CrsB w' B b r.1 r.2 ∧ Below B w w' ∧ Frm b w w'
theorem jb7 (l : List (List UInt8)) : zv l < 32 := by
 unfold zv; cases h : zR l with
 | none => show 0 < 32; omega
 | some v => exact ji1 l 0 v (by omega) h
theorem CrsB.lt {w : World} {B b : Nat} {c : Crs} {o : Bool} (h : CrsB w B b c o) : b < w.heap.size ∧ B ≤ b := by
 obtain ⟨a, k, h1, _, _, h4⟩ := h; exact ⟨(Array.getElem?_eq_some_iff.1 h1).1, h4⟩
theorem CrsB.set {w : World} {B b : Nat} {c : Crs} {o : Bool} (h : CrsB w B b c o) (f : Int) (o' : Bool) : CrsB (w.setCell ⟨b, 1, none⟩ (.int .i64 f)) B b ⟨c.acts, f, c.asked, c.fault⟩ o ∧ CrsB (w.setCell ⟨b, 4, none⟩ (.bool o')) B b c o' := by
 obtain ⟨a, k, h1, h2, h3, h4⟩ := h; exact ⟨⟨a, k, by simpa using set5 h1 1 (.int .i64 f), OwnAs.but h2 (But.setAt w 1 _) h3, h3, h4⟩, ⟨a, k, by simpa using set5 h1 4 (.bool o'), OwnAs.but h2 (But.setAt w 4 _) h3, h3, h4⟩⟩
theorem do_1 (B b : Nat) (c : Crs) (x : Cmd) (ax an ak at' aa ae : Option Addr) (cx cn ck ct ca ce : Nat) (w : World) (h : CrsB w B b c false) :
 Calls Tryz.prog 93 #[.pointer (some ⟨b, 0, none⟩), .agg #[.int .i64 1, .slice ax x.texts.length cx, .int .i64 x.test.kind, .int .i64 x.test.mat, .int .i64 x.test.part, .slice an x.test.names.length cn, .slice ak x.test.keys.length ck, .bool x.test.over, .int .i64 x.test.limit, .slice at' x.test.tests.length ct, .slice aa x.thn.length ca, .slice ae x.els.length ce]] w (StepR w B b (c, false)) := by
 have hlt := h.lt; obtain ⟨W0, hW0⟩ : ∃ W0, W0 = w.alloc (.cells #[.int .i64 1, .slice ax x.texts.length cx, .int .i64 x.test.kind, .int .i64 x.test.mat, .int .i64 x.test.part, .slice an x.test.names.length cn, .slice ak x.test.keys.length ck, .bool x.test.over, .int .i64 x.test.limit, .slice at' x.test.tests.length ct, .slice aa x.thn.length ca, .slice ae x.els.length ce] 84) := ⟨_, rfl⟩; have HWE := hid hW0; have HB0 := hid (show Below w.heap.size w W0 by rw [hW0]; exact nb0 _ _); have HC0 := hid (h.next HB0.out); have HCW := hid h; have hs0 : W0.heap.size = w.heap.size + 1 := by rw [hW0]; simp
 clear h hW0; go_enter Tryz.func93, Tryz.ntmps93; go_wp2; rw [← HWE.out]; go_end0; exact ⟨⟨_, rfl⟩, HC0.out, HB0.out.mono (by omega), Frm.below hlt.1 HB0.out⟩
theorem joJ (B b : Nat) (c : Crs) (x : Cmd) (ax an ak at' aa ae : Option Addr) (cx cn ck ct ca ce : Nat) (w : World) (h : CrsB w B b c false) :
 Calls Tryz.prog 93 #[.pointer (some ⟨b, 0, none⟩), .agg #[.int .i64 10, .slice ax x.texts.length cx, .int .i64 x.test.kind, .int .i64 x.test.mat, .int .i64 x.test.part, .slice an x.test.names.length cn, .slice ak x.test.keys.length ck, .bool x.test.over, .int .i64 x.test.limit, .slice at' x.test.tests.length ct, .slice aa x.thn.length ca, .slice ae x.els.length ce]] w (StepR w B b (c, true)) := by
 have hlt := h.lt; obtain ⟨W0, hW0⟩ : ∃ W0, W0 = w.alloc (.cells #[.int .i64 10, .slice ax x.texts.length cx, .int .i64 x.test.kind, .int .i64 x.test.mat, .int .i64 x.test.part, .slice an x.test.names.length cn, .slice ak x.test.keys.length ck, .bool x.test.over, .int .i64 x.test.limit, .slice at' x.test.tests.length ct, .slice aa x.thn.length ca, .slice ae x.els.length ce] 84) := ⟨_, rfl⟩; have HWE := hid hW0; have HB0 := hid (show Below w.heap.size w W0 by rw [hW0]; exact nb0 _ _); have HC0 := hid (h.next HB0.out); have HCW := hid h; have hs0 : W0.heap.size = w.heap.size + 1 := by rw [hW0]; simp
 clear h hW0; obtain ⟨a, k, h1, _⟩ := HC0.out; obtain ⟨⟨q0, q1, q2, q3, q4⟩, f0, f1, f2, f3, f4⟩ := box5 h1; have q4' := q4; have f4' := f4; rw [HWE.out] at q4' f4'; have hz : (w.setCell ⟨b, 4, none⟩ (.bool true)).heap.size = w.heap.size := by simp [World.setCell]
 have HE := hid (show ∀ o, CrsB ((w.setCell ⟨b, 4, none⟩ (.bool true)).alloc o) B b c true ∧ Below B w ((w.setCell ⟨b, 4, none⟩ (.bool true)).alloc o) from fun o => ⟨CrsB.next (HCW.out.set 0 true).2 (nb0 _ _), ((Below.refl _ _).setCell (by simp; omega) _).alloc (by rw [hz]; omega) _⟩); clear h1; go_enter Tryz.func93, Tryz.ntmps93; go_wp2; go_end0; exact ⟨⟨_, rfl⟩, (HE.out _).1, (HE.out _).2, (Frm.set w (by omega) _).trans (Frm.below (by rw [hz]; omega) (nb0 _ _))⟩
theorem do_8 (B b : Nat) (c : Crs) (x : Cmd) (ax an ak at' aa ae : Option Addr) (cx cn ck ct ca ce : Nat) (w : World) (h : CrsB w B b c false) (hw : FlagsAt w) (hT : TxtsM anyB w (.slice ax x.texts.length cx) x.texts) :
 Calls Tryz.prog 93 #[.pointer (some ⟨b, 0, none⟩), .agg #[.int .i64 8, .slice ax x.texts.length cx, .int .i64 x.test.kind, .int .i64 x.test.mat, .int .i64 x.test.part, .slice an x.test.names.length cn, .slice ak x.test.keys.length ck, .bool x.test.over, .int .i64 x.test.limit, .slice at' x.test.tests.length ct, .slice aa x.thn.length ca, .slice ae x.els.length ce]] w (StepR w B b (⟨c.acts, (zv x.texts : Nat), c.asked, c.fault⟩, false)) := by
 have hlt := h.lt; obtain ⟨W0, hW0⟩ : ∃ W0, W0 = w.alloc (.cells #[.int .i64 8, .slice ax x.texts.length cx, .int .i64 x.test.kind, .int .i64 x.test.mat, .int .i64 x.test.part, .slice an x.test.names.length cn, .slice ak x.test.keys.length ck, .bool x.test.over, .int .i64 x.test.limit, .slice at' x.test.tests.length ct, .slice aa x.thn.length ca, .slice ae x.els.length ce] 84) := ⟨_, rfl⟩; have HWE := hid hW0; have HB0 := hid (show Below w.heap.size w W0 by rw [hW0]; exact nb0 _ _); have HC0 := hid (h.next HB0.out); have HCW := hid h; have hs0 : W0.heap.size = w.heap.size + 1 := by rw [hW0]; simp
 clear h hW0; have HF := hid (show ∀ y : Cmd, y = ⟨8, x.texts, x.test, x.thn, x.els⟩ → Calls Tryz.prog 116 #[.agg #[.int .i64 8, .slice ax x.texts.length cx, .int .i64 x.test.kind, .int .i64 x.test.mat, .int .i64 x.test.part, .slice an x.test.names.length cn, .slice ak x.test.keys.length ck, .bool x.test.over, .int .i64 x.test.limit, .slice at' x.test.tests.length ct, .slice aa x.thn.length ca, .slice ae x.els.length ce]] W0 fun e w' => e = .returned (.int .i64 (zv x.texts : Nat)) ∧ Below W0.heap.size W0 w' from fun y hy => vP ⟨8, x.texts, x.test, x.thn, x.els⟩ ax an ak at' aa ae cx cn ck ct ca ce W0 (hw.next HB0.out) (hT.next HB0.out)); clear hw hT; go_enter Tryz.func93, Tryz.ntmps93; go_wp2_with fail; rw [← HWE.out]; refine (HF.out _ rfl).mono ?_; rintro e w1 ⟨rfl, hb1⟩; simp only; have HC1 := hid (HC0.out.next hb1); have HB1 := hid (HB0.out.trans (hb1.mono HB0.out.size)); obtain ⟨a, k, h1, _⟩ := HC1.out; obtain ⟨⟨q0, q1, q2, q3, q4⟩, f0, f1, f2, f3, f4⟩ := box5 h1; have HE := hid (HC1.out.set (zv x.texts : Nat) true).1; clear h1 hb1 HWE; go_wp2; go_end0; exact ⟨⟨_, rfl⟩, HE.out, (HB1.out.mono (by omega)).setCell (by simp; omega) _, (Frm.below hlt.1 HB1.out).trans (Frm.set _ (by omega) _)⟩
theorem do_9 (B b : Nat) (c : Crs) (x : Cmd) (ax an ak at' aa ae : Option Addr) (cx cn ck ct ca ce : Nat) (w : World) (h : CrsB w B b c false) (hf0 : 0 ≤ c.flags) (hf1 : c.flags ≤ 31) (hw : FlagsAt w) (hT : TxtsM anyB w (.slice ax x.texts.length cx) x.texts) :
 Calls Tryz.prog 93 #[.pointer (some ⟨b, 0, none⟩), .agg #[.int .i64 9, .slice ax x.texts.length cx, .int .i64 x.test.kind, .int .i64 x.test.mat, .int .i64 x.test.part, .slice an x.test.names.length cn, .slice ak x.test.keys.length ck, .bool x.test.over, .int .i64 x.test.limit, .slice at' x.test.tests.length ct, .slice aa x.thn.length ca, .slice ae x.els.length ce]] w (StepR w B b (⟨c.acts, ((c.flags.toNat ||| zv x.texts : Nat) : Int), c.asked, c.fault⟩, false)) := by
 have hlt := h.lt; obtain ⟨W0, hW0⟩ : ∃ W0, W0 = w.alloc (.cells #[.int .i64 9, .slice ax x.texts.length cx, .int .i64 x.test.kind, .int .i64 x.test.mat, .int .i64 x.test.part, .slice an x.test.names.length cn, .slice ak x.test.keys.length ck, .bool x.test.over, .int .i64 x.test.limit, .slice at' x.test.tests.length ct, .slice aa x.thn.length ca, .slice ae x.els.length ce] 84) := ⟨_, rfl⟩; have HWE := hid hW0; have HB0 := hid (show Below w.heap.size w W0 by rw [hW0]; exact nb0 _ _); have HC0 := hid (h.next HB0.out); have HCW := hid h; have hs0 : W0.heap.size = w.heap.size + 1 := by rw [hW0]; simp
 clear h hW0; have HF := hid (show ∀ y : Cmd, y = ⟨9, x.texts, x.test, x.thn, x.els⟩ → Calls Tryz.prog 116 #[.agg #[.int .i64 9, .slice ax x.texts.length cx, .int .i64 x.test.kind, .int .i64 x.test.mat, .int .i64 x.test.part, .slice an x.test.names.length cn, .slice ak x.test.keys.length ck, .bool x.test.over, .int .i64 x.test.limit, .slice at' x.test.tests.length ct, .slice aa x.thn.length ca, .slice ae x.els.length ce]] W0 fun e w' => e = .returned (.int .i64 (zv x.texts : Nat)) ∧ Below W0.heap.size W0 w' from fun y hy => vP ⟨9, x.texts, x.test, x.thn, x.els⟩ ax an ak at' aa ae cx cn ck ct ca ce W0 (hw.next HB0.out) (hT.next HB0.out)); have HFl := hid (hw.next HB0.out); have HTx := hid (hT.next HB0.out); have HV := hid (show bits .or .i64 c.flags ((zv x.texts : Nat) : Int) = ((c.flags.toNat ||| zv x.texts : Nat) : Int) by
  have h1 := jiv (n := c.flags.toNat) (f := zv x.texts) (by omega) (jb7 x.texts); rw [Int.toNat_of_nonneg hf0] at h1; exact h1)
 have hH : W0.heap[w.heap.size]? = some (.cells #[.int .i64 9, .slice ax x.texts.length cx, .int .i64 x.test.kind, .int .i64 x.test.mat, .int .i64 x.test.part, .slice an x.test.names.length cn, .slice ak x.test.keys.length ck, .bool x.test.over, .int .i64 x.test.limit, .slice at' x.test.tests.length ct, .slice aa x.thn.length ca, .slice ae x.els.length ce] 84) := by rw [HWE.out]; exact heap_alloc_new w _
 obtain ⟨g0, g1, g2, g3, g4, g5, g6, g7, g8, g9, g10, g11⟩ := bx12 hH; clear hH; obtain ⟨a, k, h1, _⟩ := HC0.out; obtain ⟨⟨q0, q1, q2, q3, q4⟩, f0, f1, f2, f3, f4⟩ := box5 h1; clear hw hT h1 HF; go_enter Tryz.func93, Tryz.ntmps93; go_wp2; rw [← HWE.out]
 go_region_law
  (go_simp
   go_at_call 116
   refine (vP ⟨9, x.texts, x.test, x.thn, x.els⟩ ax an ak at' aa ae cx cn ck ct ca ce _ (by exact HFl.out) (by exact HTx.out)).mono ?_; rintro e w1 ⟨rfl, hb1⟩; have HC1 := hid (CrsB.next (w := W0.drew) HC0.out hb1); have HB1 := hid (show Below w.heap.size w w1 from HB0.out.drew.trans (hb1.mono HB0.out.drew.size)); obtain ⟨a', k', h1', _⟩ := HC1.out; obtain ⟨⟨t0, t1, t2, t3, t4⟩, u0, u1, u2, u3, u4⟩ := box5 h1'; clear hb1 h1')
 all_goals
  have HE := hid (HC1.out.set ((c.flags.toNat ||| zv x.texts : Nat) : Int) true).1; go_wp2; rw [HV.out]; go_end0; exact ⟨⟨_, rfl⟩, HE.out, (HB1.out.mono (by omega)).setCell (by simp; omega) _, (Frm.below hlt.1 HB1.out).trans (Frm.set _ (by omega) _)⟩
theorem do_3 (B b : Nat) (c : Crs) (x : Cmd) (ax an ak at' aa ae : Option Addr) (cx cn ck ct ca ce : Nat) (w : World) (h : CrsB w B b c false) (hl : c.acts.length ≤ 6) :
 Calls Tryz.prog 93 #[.pointer (some ⟨b, 0, none⟩), .agg #[.int .i64 3, .slice ax x.texts.length cx, .int .i64 x.test.kind, .int .i64 x.test.mat, .int .i64 x.test.part, .slice an x.test.names.length cn, .slice ak x.test.keys.length ck, .bool x.test.over, .int .i64 x.test.limit, .slice at' x.test.tests.length ct, .slice aa x.thn.length ca, .slice ae x.els.length ce]] w (StepR w B b (askP c ⟨3, [], c.flags⟩)) := by
 have hlt := h.lt; obtain ⟨W0, hW0⟩ : ∃ W0, W0 = w.alloc (.cells #[.int .i64 3, .slice ax x.texts.length cx, .int .i64 x.test.kind, .int .i64 x.test.mat, .int .i64 x.test.part, .slice an x.test.names.length cn, .slice ak x.test.keys.length ck, .bool x.test.over, .int .i64 x.test.limit, .slice at' x.test.tests.length ct, .slice aa x.thn.length ca, .slice ae x.els.length ce] 84) := ⟨_, rfl⟩; have HWE := hid hW0; have HB0 := hid (show Below w.heap.size w W0 by rw [hW0]; exact nb0 _ _); have HC0 := hid (h.next HB0.out); have HCW := hid h; have hs0 : W0.heap.size = w.heap.size + 1 := by rw [hW0]; simp
 clear h hW0; obtain ⟨a, k, h1, _⟩ := HC0.out; obtain ⟨⟨q0, q1, q2, q3, q4⟩, f0, f1, f2, f3, f4⟩ := box5 h1; have HA := hid (jgP b c.flags x ax an ak at' aa ae cx cn ck ct ca ce W0 q1); obtain ⟨y, hy⟩ : ∃ y : Atn, y = ⟨3, [], c.flags⟩ := ⟨_, rfl⟩; rw [← hy] at HA; rw [← hy]; clear h1 q0 q1 q2 q3 q4 f0 f1 f2 f3 f4 hy; go_enter Tryz.func93, Tryz.ntmps93; go_wp2_with fail; rw [← HWE.out]; refine HA.out.mono ?_; rintro e w1 ⟨rfl, hb1⟩; simp only; have HC1 := hid (HC0.out.next hb1); have HB1 := hid (HB0.out.trans (hb1.mono HB0.out.size)); clear hb1 HWE; go_wp2_with fail; refine (jbU B b c y w1 HC1.out hl).mono ?_; rintro e w2 ⟨⟨v, rfl⟩, hc2, hb2, hf2⟩; simp only; have HC2 := hid hc2; have HB2 := hid ((HB1.out.mono (by omega)).trans hb2); have HF2 := hid ((Frm.below hlt.1 HB1.out).trans hf2); clear hc2 hb2 hf2; go_wp2; go_end0; exact ⟨⟨_, rfl⟩, HC2.out, HB2.out, HF2.out⟩
theorem do_4 (B b : Nat) (c : Crs) (x : Cmd) (ax an ak at' aa ae : Option Addr) (cx cn ck ct ca ce : Nat) (w : World) (h : CrsB w B b c false) (hl : c.acts.length ≤ 6) :
 Calls Tryz.prog 93 #[.pointer (some ⟨b, 0, none⟩), .agg #[.int .i64 4, .slice ax x.texts.length cx, .int .i64 x.test.kind, .int .i64 x.test.mat, .int .i64 x.test.part, .slice an x.test.names.length cn, .slice ak x.test.keys.length ck, .bool x.test.over, .int .i64 x.test.limit, .slice at' x.test.tests.length ct, .slice aa x.thn.length ca, .slice ae x.els.length ce]] w (StepR w B b (askP c ⟨4, [], 0⟩)) := by
 have hlt := h.lt; obtain ⟨W0, hW0⟩ : ∃ W0, W0 = w.alloc (.cells #[.int .i64 4, .slice ax x.texts.length cx, .int .i64 x.test.kind, .int .i64 x.test.mat, .int .i64 x.test.part, .slice an x.test.names.length cn, .slice ak x.test.keys.length ck, .bool x.test.over, .int .i64 x.test.limit, .slice at' x.test.tests.length ct, .slice aa x.thn.length ca, .slice ae x.els.length ce] 84) := ⟨_, rfl⟩; have HWE := hid hW0; have HB0 := hid (show Below w.heap.size w W0 by rw [hW0]; exact nb0 _ _); have HC0 := hid (h.next HB0.out); have HCW := hid h; have hs0 : W0.heap.size = w.heap.size + 1 := by rw [hW0]; simp
 clear h hW0; obtain ⟨a, k, h1, _⟩ := HC0.out; obtain ⟨⟨q0, q1, q2, q3, q4⟩, f0, f1, f2, f3, f4⟩ := box5 h1; have HA := hid (jgQ b c.flags x ax an ak at' aa ae cx cn ck ct ca ce W0 q1); obtain ⟨y, hy⟩ : ∃ y : Atn, y = ⟨4, [], 0⟩ := ⟨_, rfl⟩; rw [← hy] at HA; rw [← hy]; clear h1 q0 q1 q2 q3 q4 f0 f1 f2 f3 f4 hy; go_enter Tryz.func93, Tryz.ntmps93; go_wp2_with fail; rw [← HWE.out]; refine HA.out.mono ?_; rintro e w1 ⟨rfl, hb1⟩; simp only; have HC1 := hid (HC0.out.next hb1); have HB1 := hid (HB0.out.trans (hb1.mono HB0.out.size)); clear hb1 HWE; go_wp2_with fail; refine (jbU B b c y w1 HC1.out hl).mono ?_; rintro e w2 ⟨⟨v, rfl⟩, hc2, hb2, hf2⟩; simp only; have HC2 := hid hc2; have HB2 := hid ((HB1.out.mono (by omega)).trans hb2); have HF2 := hid ((Frm.below hlt.1 HB1.out).trans hf2); clear hc2 hb2 hf2; go_wp2; go_end0; exact ⟨⟨_, rfl⟩, HC2.out, HB2.out, HF2.out⟩
theorem do_5 (B b : Nat) (c : Crs) (x : Cmd) (ax an ak at' aa ae : Option Addr) (cx cn ck ct ca ce : Nat) (w : World) (h : CrsB w B b c false) (hT : TxtsM anyB w (.slice ax x.texts.length cx) x.texts) (h0 : x.texts ≠ []) (hl : c.acts.length ≤ 6) :
 Calls Tryz.prog 93 #[.pointer (some ⟨b, 0, none⟩), .agg #[.int .i64 5, .slice ax x.texts.length cx, .int .i64 x.test.kind, .int .i64 x.test.mat, .int .i64 x.test.part, .slice an x.test.names.length cn, .slice ak x.test.keys.length ck, .bool x.test.over, .int .i64 x.test.limit, .slice at' x.test.tests.length ct, .slice aa x.thn.length ca, .slice ae x.els.length ce]] w (StepR w B b (askP c ⟨5, x.texts.getD 0 [], c.flags⟩)) := by
 have hlt := h.lt; obtain ⟨W0, hW0⟩ : ∃ W0, W0 = w.alloc (.cells #[.int .i64 5, .slice ax x.texts.length cx, .int .i64 x.test.kind, .int .i64 x.test.mat, .int .i64 x.test.part, .slice an x.test.names.length cn, .slice ak x.test.keys.length ck, .bool x.test.over, .int .i64 x.test.limit, .slice at' x.test.tests.length ct, .slice aa x.thn.length ca, .slice ae x.els.length ce] 84) := ⟨_, rfl⟩; have HWE := hid hW0; have HB0 := hid (show Below w.heap.size w W0 by rw [hW0]; exact nb0 _ _); have HC0 := hid (h.next HB0.out); have HCW := hid h; have hs0 : W0.heap.size = w.heap.size + 1 := by rw [hW0]; simp
 clear h hW0; obtain ⟨a, k, h1, _⟩ := HC0.out; obtain ⟨⟨q0, q1, q2, q3, q4⟩, f0, f1, f2, f3, f4⟩ := box5 h1; have HA := hid (jgR b c.flags x ax an ak at' aa ae cx cn ck ct ca ce W0 q1 (hT.next HB0.out) h0); obtain ⟨y, hy⟩ : ∃ y : Atn, y = ⟨5, x.texts.getD 0 [], c.flags⟩ := ⟨_, rfl⟩; rw [← hy] at HA; rw [← hy]; clear h1 q0 q1 q2 q3 q4 f0 f1 f2 f3 f4 hy; go_enter Tryz.func93, Tryz.ntmps93; go_wp2_with fail; rw [← HWE.out]; refine HA.out.mono ?_; rintro e w1 ⟨rfl, hb1⟩; simp only; have HC1 := hid (HC0.out.next hb1); have HB1 := hid (HB0.out.trans (hb1.mono HB0.out.size)); clear hb1 HWE; go_wp2_with fail; refine (jbU B b c y w1 HC1.out hl).mono ?_; rintro e w2 ⟨⟨v, rfl⟩, hc2, hb2, hf2⟩; simp only; have HC2 := hid hc2; have HB2 := hid ((HB1.out.mono (by omega)).trans hb2); have HF2 := hid ((Frm.below hlt.1 HB1.out).trans hf2); clear hc2 hb2 hf2; go_wp2; go_end0; exact ⟨⟨_, rfl⟩, HC2.out, HB2.out, HF2.out⟩
theorem do_6 (B b : Nat) (c : Crs) (x : Cmd) (ax an ak at' aa ae : Option Addr) (cx cn ck ct ca ce : Nat) (w : World) (h : CrsB w B b c false) (hT : TxtsM anyB w (.slice ax x.texts.length cx) x.texts) (h0 : x.texts ≠ []) (hg : qk (x.texts.getD 0 []) = 0) (hs : (x.texts.getD 0 []).length ≤ 2000) (hl : c.acts.length ≤ 6) :
 Calls Tryz.prog 93 #[.pointer (some ⟨b, 0, none⟩), .agg #[.int .i64 6, .slice ax x.texts.length cx, .int .i64 x.test.kind, .int .i64 x.test.mat, .int .i64 x.test.part, .slice an x.test.names.length cn, .slice ak x.test.keys.length ck, .bool x.test.over, .int .i64 x.test.limit, .slice at' x.test.tests.length ct, .slice aa x.thn.length ca, .slice ae x.els.length ce]] w (StepR w B b (askP c ⟨6, jcL (x.texts.getD 0 []), 0⟩)) := by
 have hlt := h.lt; obtain ⟨W0, hW0⟩ : ∃ W0, W0 = w.alloc (.cells #[.int .i64 6, .slice ax x.texts.length cx, .int .i64 x.test.kind, .int .i64 x.test.mat, .int .i64 x.test.part, .slice an x.test.names.length cn, .slice ak x.test.keys.length ck, .bool x.test.over, .int .i64 x.test.limit, .slice at' x.test.tests.length ct, .slice aa x.thn.length ca, .slice ae x.els.length ce] 84) := ⟨_, rfl⟩; have HWE := hid hW0; have HB0 := hid (show Below w.heap.size w W0 by rw [hW0]; exact nb0 _ _); have HC0 := hid (h.next HB0.out); have HCW := hid h; have hs0 : W0.heap.size = w.heap.size + 1 := by rw [hW0]; simp
 clear h hW0; obtain ⟨a, k, h1, _⟩ := HC0.out; obtain ⟨⟨q0, q1, q2, q3, q4⟩, f0, f1, f2, f3, f4⟩ := box5 h1; have HA := hid (jgS b c.flags x ax an ak at' aa ae cx cn ck ct ca ce W0 q1 (hT.next HB0.out) h0 hg hs); obtain ⟨y, hy⟩ : ∃ y : Atn, y = ⟨6, jcL (x.texts.getD 0 []), 0⟩ := ⟨_, rfl⟩; rw [← hy] at HA; rw [← hy]; clear h1 q0 q1 q2 q3 q4 f0 f1 f2 f3 f4 hy; go_enter Tryz.func93, Tryz.ntmps93; go_wp2_with fail; rw [← HWE.out]; refine HA.out.mono ?_; rintro e w1 ⟨rfl, hb1⟩; simp only; have HC1 := hid (HC0.out.next hb1); have HB1 := hid (HB0.out.trans (hb1.mono HB0.out.size)); clear hb1 HWE; go_wp2_with fail; refine (jbU B b c y w1 HC1.out hl).mono ?_; rintro e w2 ⟨⟨v, rfl⟩, hc2, hb2, hf2⟩; simp only; have HC2 := hid hc2; have HB2 := hid ((HB1.out.mono (by omega)).trans hb2); have HF2 := hid ((Frm.below hlt.1 HB1.out).trans hf2); clear hc2 hb2 hf2; go_wp2; go_end0; exact ⟨⟨_, rfl⟩, HC2.out, HB2.out, HF2.out⟩
theorem do_7 (B b : Nat) (c : Crs) (x : Cmd) (ax an ak at' aa ae : Option Addr) (cx cn ck ct ca ce : Nat) (w : World) (h : CrsB w B b c false) (hT : TxtsM anyB w (.slice ax x.texts.length cx) x.texts) (h0 : x.texts ≠ []) (hl : c.acts.length ≤ 6) :
 Calls Tryz.prog 93 #[.pointer (some ⟨b, 0, none⟩), .agg #[.int .i64 7, .slice ax x.texts.length cx, .int .i64 x.test.kind, .int .i64 x.test.mat, .int .i64 x.test.part, .slice an x.test.names.length cn, .slice ak x.test.keys.length ck, .bool x.test.over, .int .i64 x.test.limit, .slice at' x.test.tests.length ct, .slice aa x.thn.length ca, .slice ae x.els.length ce]] w (StepR w B b (askP c ⟨7, x.texts.getD 0 [], 0⟩)) := by
 have hlt := h.lt; obtain ⟨W0, hW0⟩ : ∃ W0, W0 = w.alloc (.cells #[.int .i64 7, .slice ax x.texts.length cx, .int .i64 x.test.kind, .int .i64 x.test.mat, .int .i64 x.test.part, .slice an x.test.names.length cn, .slice ak x.test.keys.length ck, .bool x.test.over, .int .i64 x.test.limit, .slice at' x.test.tests.length ct, .slice aa x.thn.length ca, .slice ae x.els.length ce] 84) := ⟨_, rfl⟩; have HWE := hid hW0; have HB0 := hid (show Below w.heap.size w W0 by rw [hW0]; exact nb0 _ _); have HC0 := hid (h.next HB0.out); have HCW := hid h; have hs0 : W0.heap.size = w.heap.size + 1 := by rw [hW0]; simp
 clear h hW0; obtain ⟨a, k, h1, _⟩ := HC0.out; obtain ⟨⟨q0, q1, q2, q3, q4⟩, f0, f1, f2, f3, f4⟩ := box5 h1; have HA := hid (jgT b c.flags x ax an ak at' aa ae cx cn ck ct ca ce W0 q1 (hT.next HB0.out) h0); obtain ⟨y, hy⟩ : ∃ y : Atn, y = ⟨7, x.texts.getD 0 [], 0⟩ := ⟨_, rfl⟩; rw [← hy] at HA; rw [← hy]; clear h1 q0 q1 q2 q3 q4 f0 f1 f2 f3 f4 hy; go_enter Tryz.func93, Tryz.ntmps93; go_wp2_with fail; rw [← HWE.out]; refine HA.out.mono ?_; rintro e w1 ⟨rfl, hb1⟩; simp only; have HC1 := hid (HC0.out.next hb1); have HB1 := hid (HB0.out.trans (hb1.mono HB0.out.size)); clear hb1 HWE; go_wp2_with fail; refine (jbU B b c y w1 HC1.out hl).mono ?_; rintro e w2 ⟨⟨v, rfl⟩, hc2, hb2, hf2⟩; simp only; have HC2 := hid hc2; have HB2 := hid ((HB1.out.mono (by omega)).trans hb2); have HF2 := hid ((Frm.below hlt.1 HB1.out).trans hf2); clear hc2 hb2 hf2; go_wp2; go_end0; exact ⟨⟨_, rfl⟩, HC2.out, HB2.out, HF2.out⟩
def jnU (x : Cmd) : Prop := (x.kind = 1 ∨ x.kind = 3 ∨ x.kind = 4 ∨ x.kind = 5 ∨ x.kind = 6 ∨ x.kind = 7 ∨ x.kind = 8 ∨ x.kind = 9 ∨ x.kind = 10) ∧ (x.kind = 5 ∨ x.kind = 6 ∨ x.kind = 7 → x.texts ≠ []) ∧ (x.kind = 6 → qk (x.texts.getD 0 []) = 0)
theorem jlr {s : List UInt8} (h : qk s = 0) : s.length ≤ 2000 := by
 unfold qk at h
 by_cases hl : 2000 < s.length
 · rw [if_neg (by unfold zg; rw [if_pos hl]; simp)] at h; cases h
 · omega
theorem joe (B b : Nat) (c : Crs) (x : Cmd) (ax an ak at' aa ae : Option Addr) (cx cn ck ct ca ce : Nat) (w : World) (h : CrsB w B b c false) (hl : c.acts.length ≤ 6) (hf0 : 0 ≤ c.flags) (hf1 : c.flags ≤ 31) (hw : FlagsAt w) (hT : TxtsM anyB w (.slice ax x.texts.length cx) x.texts) (hP : jnU x) :
 Calls Tryz.prog 93 #[.pointer (some ⟨b, 0, none⟩), .agg #[.int .i64 x.kind, .slice ax x.texts.length cx, .int .i64 x.test.kind, .int .i64 x.test.mat, .int .i64 x.test.part, .slice an x.test.names.length cn, .slice ak x.test.keys.length ck, .bool x.test.over, .int .i64 x.test.limit, .slice at' x.test.tests.length ct, .slice aa x.thn.length ca, .slice ae x.els.length ce]] w (StepR w B b (doP c x)) := by
 obtain ⟨hk, h5, h6⟩ := hP; obtain ⟨kd, tx, ts, th, el⟩ := x; simp only at hk h5 h6 hT ⊢
 rcases hk with rfl | rfl | rfl | rfl | rfl | rfl | rfl | rfl | rfl
 · exact do_1 B b c ⟨1, tx, ts, th, el⟩ ax an ak at' aa ae cx cn ck ct ca ce w h
 · exact do_3 B b c ⟨3, tx, ts, th, el⟩ ax an ak at' aa ae cx cn ck ct ca ce w h hl
 · exact do_4 B b c ⟨4, tx, ts, th, el⟩ ax an ak at' aa ae cx cn ck ct ca ce w h hl
 · exact do_5 B b c ⟨5, tx, ts, th, el⟩ ax an ak at' aa ae cx cn ck ct ca ce w h hT (h5 (by decide)) hl
 · exact do_6 B b c ⟨6, tx, ts, th, el⟩ ax an ak at' aa ae cx cn ck ct ca ce w h hT (h5 (by decide)) (h6 rfl) (jlr (h6 rfl)) hl
 · exact do_7 B b c ⟨7, tx, ts, th, el⟩ ax an ak at' aa ae cx cn ck ct ca ce w h hT (h5 (by decide)) hl
 · exact do_8 B b c ⟨8, tx, ts, th, el⟩ ax an ak at' aa ae cx cn ck ct ca ce w h hw hT
 · exact do_9 B b c ⟨9, tx, ts, th, el⟩ ax an ak at' aa ae cx cn ck ct ca ce w h hf0 hf1 hw hT
 · exact joJ B b c ⟨10, tx, ts, th, el⟩ ax an ak at' aa ae cx cn ck ct ca ce w h
theorem jkN (c : Crs) (a : Atn) (h : c.acts.length ≤ 6) : (askP c a).1.acts.length ≤ 6 := by
 unfold askP; split
 · exact h
 · split
   · exact h
   · split
     · exact h
     · simp; omega
theorem jm0 (c : Crs) (x : Cmd) (h : c.acts.length ≤ 6) : (doP c x).1.acts.length ≤ 6 := by
 unfold doP; split
 · exact h
 · split
   · exact h
   · split
     · exact h
     · split
       · exact h
       · exact jkN c _ h
theorem jlO {B : Nat} {w : World} {a : Option Addr} {k : Nat} {l : List Atn} (h : OwnAs B w (.slice a l.length k) l) : a = none → l = [] ∧ k = 0 := by
 intro ha; obtain ⟨css, h1, _⟩ := h
 rcases h1.2 with ⟨e, hn⟩ | ⟨g, cap, cur, e, _⟩
 · simp only [Value.slice.injEq] at e; exact ⟨List.length_eq_zero_iff.1 hn, e.2.2⟩
 · simp only [Value.slice.injEq] at e; rw [ha] at e; cases e.1
def jap (c : Crs) : Prop := c.acts.length ≤ 6 ∧ 0 ≤ c.flags ∧ c.flags ≤ 31
theorem jgZ (c : Crs) (a : Atn) : (askP c a).1.flags = c.flags := by
 unfold askP; split
 · rfl
 · split
   · rfl
   · split <;> rfl
theorem joV {a b : Nat} (ha : a < 32) (hb : b < 32) : a ||| b < 32 := Nat.or_lt_two_pow (n := 5) ha hb
theorem jof {c : Crs} (h : jap c) (x : Cmd) : jap (doP c x).1 := by
 obtain ⟨h1, h2, h3⟩ := h; refine ⟨jm0 c x h1, ?_⟩; unfold doP; split
 · exact ⟨h2, h3⟩
 · split
   · exact ⟨h2, h3⟩
   · split
     · have := jb7 x.texts; exact ⟨by show (0 : Int) ≤ (zv x.texts : Nat); omega, by show ((zv x.texts : Nat) : Int) ≤ 31; omega⟩
     · split
       · have h := joV (a := c.flags.toNat) (b := zv x.texts) (by omega) (jb7 x.texts); exact ⟨by show (0 : Int) ≤ ((c.flags.toNat ||| zv x.texts : Nat) : Int); omega, by show ((c.flags.toNat ||| zv x.texts : Nat) : Int) ≤ 31; omega⟩
       · rw [jgZ]; exact ⟨h2, h3⟩
def newC : Crs := ⟨[], 0, false, 0⟩
theorem jgv : jap newC := ⟨by simp [newC], by simp [newC], by simp [newC]⟩
def qB (s : ByteArray) (n B k : Nat) (wr : World) : Prop :=
 ∃ cur : Array Value, wr.heap[B]? = some (.cells cur 5 (n, n + 1)) ∧ cur.size = n ∧ s.size ≤ n ∧
   (∀ j (h : j < s.size), j < k → cur[j]? = some (.int .u8 (low1 s[j]).toNat)) ∧ (∀ j (h : j < s.size), k ≤ j → cur[j]? = some (.int .u8 s[j].toNat))
theorem jcQ (s : ByteArray) (w : World) (cap : Nat) :
 qB s (bytesRow s cap).size w.heap.size 0 (w.drew.alloc (.cells (bytesRow s cap) 5 ((bytesRow s cap).size, (bytesRow s cap).size + 1))) := by
 refine ⟨bytesRow s cap, ?_, rfl, ?_, fun j h hj => by omega, fun j h _ => ?_⟩
 · show (w.heap.push _)[w.heap.size]? = _
   simp
 · simp [bytesRow]
 · unfold bytesRow; have hj : j < (s.data.map (fun b => Value.int .u8 b.toNat)).size := by simpa using h
   rw [Array.getElem?_append_left hj, Array.getElem?_eq_getElem hj]
   simp
   rfl
theorem jdJ {s : ByteArray} {n B k : Nat} {wr : World} (h : qB s n B k wr) (hk : k < s.size) : wr.cell? ⟨B, k, none⟩ = some (.int .u8 s[k].toNat) ∧ wr.frozen? ⟨B, k, none⟩ = false := by
 obtain ⟨cur, h1, h2, h3, h4, h5⟩ := h; exact ⟨(cell_of_row _ _ _ _ _ _ h1).trans (h5 k hk (Nat.le_refl _)), jfF h1 (by omega)⟩
theorem jdK {s : ByteArray} {n B k : Nat} {wr : World} (h : qB s n B k wr) (hk : k < s.size) (hl : low1 s[k] = s[k]) : qB s n B (k + 1) wr := by
 obtain ⟨cur, h1, h2, h3, h4, h5⟩ := h; refine ⟨cur, h1, h2, h3, fun j h hj => ?_, fun j h hj => h5 j h (by omega)⟩
 by_cases e : j = k
 · subst e; rw [h5 j h (Nat.le_refl _), hl]
 · exact h4 j h (by omega)
theorem jeH {s : ByteArray} {n B k : Nat} {wr : World} (h : qB s n B k wr) (hk : k < s.size) (x : Int) (hl : ((low1 s[k]).toNat : Int) = x) : qB s n B (k + 1) (wr.setCell ⟨B, k, none⟩ (.int .u8 x)) := by
 obtain ⟨cur, h1, h2, h3, h4, h5⟩ := h; refine ⟨_, jr _ h1, by simpa using h2, h3, fun j h hj => ?_, fun j h hj => ?_⟩
 · by_cases e : j = k
   · subst e; rw [Array.getElem?_setIfInBounds_self_of_lt (by omega), hl]
   · rw [Array.getElem?_setIfInBounds_ne (by omega)]; exact h4 j h (by omega)
 · rw [Array.getElem?_setIfInBounds_ne (by omega)]; exact h5 j h (by omega)
theorem jdI {s : ByteArray} {n B cap : Nat} {wr : World} (h : qB s n B s.size wr) :
 (convert 98 9 (.slice (some ⟨B, 0, none⟩) s.size cap)).run Tryz.prog wr = .ok (.string (low s)) wr := by
 obtain ⟨cur, h1, h2, h3, h4, h5⟩ := h; have hlen : (lowL s.data.toList).length = s.size := by rw [lowL, List.length_map]; exact size_list s
 have := run_convert_bytes_back (P := Tryz.prog) wr 98 9 5 ⟨B, 0, none⟩ cap (lowL s.data.toList) Tryz.underlying98 Tryz.underlying5 Tryz.underlying9 (fun j hj => by
  have hj' : j < s.size := by omega
  have e : (⟨B, 0, none⟩ : Addr).add j = ⟨B, j, none⟩ := by simp [Addr.add]; omega
  rw [e, cell_of_row _ _ _ _ _ _ h1, h4 j hj' hj']
  congr 2
  simp only [lowL, List.getElem_map]; rfl)
 rw [hlen] at this; exact this
theorem qU (s : ByteArray) (w : World) (hs : s.size ≤ 4611686018427387904) :
 Calls Tryz.prog 191 #[.string s] w fun e w' => e = .returned (.string (low s)) ∧ Below w.heap.size w w' := by
 have hconv := run_bytes_of_string (P := Tryz.prog) w 9 98 5 s Tryz.underlying9 Tryz.underlying98 Tryz.underlying5; have hst := jcQ s w (grownCap w s.size 0 5); have hbs : Below w.heap.size w (w.drew.alloc (.cells (bytesRow s (grownCap w s.size 0 5)) 5 ((bytesRow s (grownCap w s.size 0 5)).size, (bytesRow s (grownCap w s.size 0 5)).size + 1))) :=
  (Below.refl _ _).drew.alloc (by simp) _
 generalize grownCap w s.size 0 5 = cap at *; generalize bytesRow s cap = C at *; go_enter Tryz.func191, Tryz.ntmps191; go_wp2
 go_loopw [10] (fun i wr => ∃ k : Nat, k ≤ s.size ∧ i = .int .i64 k ∧ qB s C.size w.heap.size k wr ∧ Below w.heap.size w wr) (fun i _ => s.size - (intOf i).toNat)
 case atStart => exact ⟨0, Nat.zero_le _, rfl, hst, hbs⟩
 case round =>
  obtain ⟨k, hk, rfl, hL, hB⟩ := hrel; clear hst hbs hconv
  by_cases hlt : k < s.size
  · obtain ⟨hc, hf⟩ := jdJ hL hlt; have hu := s[k].toNat_lt
    by_cases hg : 65 ≤ (s[k].toNat : Int) ∧ (s[k].toNat : Int) ≤ 90
    · have hnext := jeH hL hlt ((s[k].toNat : Int) - 65 + 97) (by have := jlB hg; omega); obtain ⟨hg1, hg2⟩ := hg; have hB' := hB.setCell (p := ⟨w.heap.size, k, none⟩) (Nat.le_refl _) (.int .u8 ((s[k].toNat : Int) - 65 + 97)); have HN : Hid _ := hnext; have HB : Hid _ := hB'; clear hnext hB'; go_wp2
      go_roundw
      case rel => exact ⟨k + 1, by omega, by go_num, HN.out, HB.out⟩
      case measure => simp [intOf]; omega
    · have HN : Hid _ := jdK hL hlt (jnn hg); go_wp2
      all_goals
       go_roundw
       case rel => exact ⟨k + 1, by omega, by go_num, HN.out, hB⟩
       case measure => simp [intOf]; omega
  · obtain rfl : k = s.size := by omega
    have hback := jdI (cap := cap) hL; go_wp2; go_ret; exact ⟨rfl, hB⟩
theorem jlG (s p : ByteArray) (w : World) (hs : s.size ≤ 2000) (hp : p.size ≤ 100) :
 Calls Tryz.prog 166 #[.int .i64 1, .string s, .string p] w fun e w' => e = .returned (.tuple #[.bool ((low s).toList == (low p).toList), .int .i64 0]) ∧ Below w.heap.size w w' := by
 go_enter Tryz.func166, Tryz.ntmps166; go_wp2_with fail; refine (qU s _ (by omega)).mono ?_; rintro e w1 ⟨rfl, hb1⟩; go_wp2_with fail; refine (qU p _ (by omega)).mono ?_; rintro e w2 ⟨rfl, hb2⟩; go_wp2; go_ret2; exact ⟨rfl, hb1.trans (hb2.mono hb1.size)⟩
end Go.Proofs.YtgfbdgheencmaaaGreatDoor
