/-
  What judge.Check does: the walk.
-/
import Derived.Test.YtgfbdgheencmaaaGreatDoorXJudTel
set_option maxHeartbeats 4000000
set_option maxRecDepth 100000
namespace Go.Proofs.YtgfbdgheencmaaaGreatDoor
open Go.RowKit Go.Proofs
def jch (fl fd tl td tx : List UInt8) : List F × List UInt8 × Int :=
 if jK fl fd ≠ 0 then ([], [], jK fl fd) else if jK tl td ≠ 0 then ([], [], jK tl td) else ((zE tx).1, (zE tx).2.1, (zE tx).2.2.2)
def MsgN (w : World) (q : List F × List UInt8 × Int) (x : Ending) (w' : World) : Prop :=
 ∃ a c, x = .returned (.tuple #[.agg #[.slice a q.1.length c, .string (S q.2.1)], .int .i64 q.2.2]) ∧ FieldsAt w' a q.1 ∧ FreshA w.heap.size a ∧ Below w.heap.size w w'
theorem MsgN.bad {w w' : World} {x : Int} {q : List F × List UInt8 × Int} (hq : q = ([], [], x)) (hb : Below w.heap.size w w') : MsgN w q (.returned (.tuple #[.agg #[.slice none 0 0, .string ⟨#[]⟩], .int .i64 x])) w' := by
 subst hq; exact ⟨none, 0, rfl, (by intro i x hx; simp at hx), FreshA.nil _, hb⟩
theorem jhj {w : World} {a : Option Addr} {fs : List F} (h : FieldsAt w a fs) {p n c : Nat} {x : Option Addr} {s : ByteArray} {t : TypeId} (hp : w.heap[p]? = some (.cells #[.slice x n c, .string s] t)) (u v : Value) : FieldsAt ((w.setCell ⟨p, 0, none⟩ u).setCell ⟨p, 1, none⟩ v) a fs := by
 intro i f hf; obtain ⟨b, off, ha, hlt, h1, h2⟩ := h i f hf; have hne : b ≠ p := by
  intro e; subst e; simp only [World.cell?, hp] at h1 h2
  match hk : off + i * 2, h1, h2 with
  | 0, h1, _ => simp at h1
  | 1, _, h2 => simp at h2
  | k + 2, h1, _ => simp at h1
 have hset : ∀ (w : World) (j k : Nat) (v : Value), (w.setCell ⟨p, j, none⟩ v).cell? ⟨b, k, none⟩ = w.cell? ⟨b, k, none⟩ := fun w j k v => World.cell?_setCell_other w _ _ _ (fun e => hne (by cases e; rfl))
 exact ⟨b, off, ha, by simpa [World.setCell] using hlt, by rw [hset, hset]; exact h1, by rw [hset, hset]; exact h2⟩
theorem box2 {w : World} {p : Nat} {u v : Value} {t : TypeId} (h : w.heap[p]? = some (.cells #[u, v] t)) : w.cell? ⟨p, 0, none⟩ = some u ∧ w.cell? ⟨p, 1, none⟩ = some v ∧ w.frozen? ⟨p, 0, none⟩ = false ∧ w.frozen? ⟨p, 1, none⟩ = false := by
 refine ⟨?_, ?_, ?_, ?_⟩ <;> simp [World.cell?, World.frozen?, h]
theorem jeB {w : World} (o : Obj) {b : Nat} {x : Obj} (h : w.heap[b]? = some x) : (w.alloc o).heap[b]? = some x := by
 have hb : b < w.heap.size := (Array.getElem?_eq_some_iff.1 h).1
 show (w.heap.push o)[b]? = _
 rw [Array.getElem?_push_lt hb, ← h, Array.getElem?_eq_getElem hb]
theorem jdG {w w' : World} {B b : Nat} {x : Obj} (h : Below B w w') (hb : w.heap[b]? = some x) (hr : b < B) : w'.heap[b]? = some x := (h.block b hr).trans hb
theorem jhx (fl fd tl td tx : ByteArray) (w : World) (h1 : fl.size ≤ 140737488355328) (h2 : fd.size ≤ 140737488355328) (h3 : tl.size ≤ 140737488355328) (h4 : td.size ≤ 140737488355328) (h5 : tx.size ≤ maxLen) (hm : maxLenCell w) :
 Calls Tryz.prog 92 #[.agg #[.string fl, .string fd, .string tl, .string td, .string tx]] w (MsgN w (jch fl.data.toList fd.data.toList tl.data.toList td.data.toList tx.data.toList)) := by
 have H1 := hid h1; have H2 := hid h2; have H3 := hid h3; have H4 := hid h4; have H5 := hid h5; have HM := hid hm; obtain ⟨q, hq⟩ : ∃ q, q = jch fl.data.toList fd.data.toList tl.data.toList td.data.toList tx.data.toList := ⟨_, rfl⟩; rw [← hq]; unfold jch at hq; have HQ := hid hq; clear h1 h2 h3 h4 h5 hm hq; obtain ⟨W0, hW0⟩ : ∃ W0, W0 = (w.alloc (.cells #[.string fl, .string fd, .string tl, .string td, .string tx] 37)).alloc (.cells #[.slice none 0 0, .string ⟨#[]⟩] 61) := ⟨_, rfl⟩; have HB0 := hid (show Below w.heap.size w W0 by rw [hW0]; exact (nb0 _ _).alloc (by simp) _); have hH : W0.heap[w.heap.size]? = some (.cells #[.string fl, .string fd, .string tl, .string td, .string tx] 37) := by rw [hW0]; exact jeB _ (heap_alloc_new w _)
 have HR0 := hid (show W0.heap[w.heap.size + 1]? = some (.cells #[.slice none 0 0, .string ⟨#[]⟩] 61) by rw [hW0]; have := heap_alloc_new (w.alloc (.cells #[.string fl, .string fd, .string tl, .string td, .string tx] 37)) (.cells #[.slice none 0 0, .string ⟨#[]⟩] 61); simpa using this); have hs0 : W0.heap.size = w.heap.size + 2 := by rw [hW0]; simp
 have HWE := hid hW0; have g2 : W0.cell? ⟨w.heap.size, 2, none⟩ = some (.string tl) := by simp [World.cell?, hH]
 have g3 : W0.cell? ⟨w.heap.size, 3, none⟩ = some (.string td) := by simp [World.cell?, hH]
 have g4 : W0.cell? ⟨w.heap.size, 4, none⟩ = some (.string tx) := by simp [World.cell?, hH]
 clear hH hW0; go_enter Tryz.func92, Tryz.ntmps92; go_wp2_with fail; rw [← HWE.out]; refine (qd fl fd W0 H1.out H2.out).mono ?_; rintro e w1 ⟨rfl, hb1⟩; simp only; have HB1 := hid (HB0.out.trans (hb1.mono HB0.out.size)); have HR1 := hid (jdG hb1 HR0.out (by omega)); have hs1 := hb1.size; have k2 := jb g2 hb1; have k3 := jb g3 hb1; have k4 := jb g4 hb1; clear hb1 g2 g3 g4 HWE; obtain ⟨x, hx⟩ : ∃ x, x = jK fl.data.toList fd.data.toList := ⟨_, rfl⟩; rw [← hx]; rw [← hx] at HQ; clear hx
 by_cases hx : x = 0
 · rw [if_neg (by simpa using hx)] at HQ; subst hx; go_wp2_with fail; refine (qd tl td w1 H3.out H4.out).mono ?_; rintro e w2 ⟨rfl, hb2⟩; simp only; have HB2 := hid (HB1.out.trans (hb2.mono HB1.out.size)); have HR2 := hid (jdG hb2 HR1.out (by omega)); have hs2 := hb2.size; have d4 := jb k4 hb2; clear hb2 k2 k3 k4; obtain ⟨y, hy⟩ : ∃ y, y = jK tl.data.toList td.data.toList := ⟨_, rfl⟩; rw [← hy]; rw [← hy] at HQ; clear hy
   by_cases hy : y = 0
   · rw [if_neg (by simpa using hy)] at HQ; subst hy; go_wp2_with fail; refine (jjQ tx w2 H5.out (maxLenCell_below HM.out HB2.out)).mono ?_; intro e w3 h3; obtain ⟨P, hP⟩ : ∃ P, P = zE tx.data.toList := ⟨_, rfl⟩; rw [← hP] at h3; rw [← hP] at HQ; clear hP; obtain ⟨fs, body, p, er⟩ := P; obtain ⟨a3, c3, he3, hF, hfr, hb3⟩ := h3; have HFr := hid (show FreshA w.heap.size a3 from fun b o q e => Nat.le_trans HB2.out.size (hfr b o q e)); clear hfr; have he3' : e = .returned (.tuple #[.agg #[.slice a3 fs.length c3, .string (S body)], .int .i64 p, .int .i64 er]) := he3; subst he3'; clear he3; simp only; have HB3 := hid (HB2.out.trans (hb3.mono HB2.out.size)); have HF := hid hF; have HR3 := hid (jdG hb3 HR2.out (by omega)); have HR4 := hid (jeB (.cells #[.slice a3 fs.length c3, .string (S body)] 61) HR3.out); have HA4 := hid (show Below w3.heap.size w3 (w3.alloc (.cells #[.slice a3 fs.length c3, .string (S body)] 61)) from nb0 _ _); obtain ⟨r0, r1, f0, f1⟩ := box2 HR4.out; clear hb3 hF; have HE := hid (show MsgN w q (.returned (.tuple #[.agg #[.slice a3 fs.length c3, .string (S body)], .int .i64 er])) (((w3.alloc (.cells #[.slice a3 fs.length c3, .string (S body)] 61)).setCell ⟨w.heap.size + 1, 0, none⟩ (.slice a3 fs.length c3)).setCell ⟨w.heap.size + 1, 1, none⟩ (.string (S body))) by
       rw [HQ.out]; exact ⟨a3, c3, rfl, jhj (HF.out.below HA4.out) HR4.out _ _, HFr.out, ((HB3.out.trans (HA4.out.mono HB3.out.size)).setCell (by simp) _).setCell (by simp) _⟩)
     go_wp2; refine bodyPost_ret (v := .tuple #[.agg #[.slice a3 fs.length c3, .string (S body)], .int .i64 er]) (by simp [results, Tryz.results92, go_sem, *]) rfl ?_; exact HE.out
   · rw [if_pos (by simpa using hy)] at HQ; obtain ⟨r0, r1, f0, f1⟩ := box2 HR2.out; go_wp2; refine bodyPost_ret (v := .tuple #[.agg #[.slice none 0 0, .string ⟨#[]⟩], .int .i64 y]) (by simp [results, Tryz.results92, go_sem, *]) rfl ?_; exact MsgN.bad HQ.out ((HB2.out.setCell (by simp) _).setCell (by simp) _)
 · rw [if_pos (by simpa using hx)] at HQ; obtain ⟨r0, r1, f0, f1⟩ := box2 HR1.out; go_wp2; refine bodyPost_ret (v := .tuple #[.agg #[.slice none 0 0, .string ⟨#[]⟩], .int .i64 x]) (by simp [results, Tryz.results92, go_sem, *]) rfl ?_; exact MsgN.bad HQ.out ((HB1.out.setCell (by simp) _).setCell (by simp) _)
theorem zX {w : World} {a : Option Addr} {fs : List F} (h : FieldsAt w a fs) {p j : Nat} (v : Value) (hne : ∀ b o q, a = some ⟨b, o, q⟩ → b ≠ p) : FieldsAt (w.setCell ⟨p, j, none⟩ v) a fs := by
 intro i f hf; obtain ⟨b, off, ha, hlt, h1, h2⟩ := h i f hf; have hb := hne b off none ha; have hset : ∀ k, (w.setCell ⟨p, j, none⟩ v).cell? ⟨b, k, none⟩ = w.cell? ⟨b, k, none⟩ := fun k => World.cell?_setCell_other w _ _ _ (fun e => hb (by cases e; rfl))
 exact ⟨b, off, ha, by simpa [World.setCell] using hlt, by rw [hset]; exact h1, by rw [hset]; exact h2⟩
def jau (o : Opn) : Prop := jch o.fl o.fd o.tl o.td o.tx = (o.fs, o.body, 0)
def OpnR (w : World) (o : Opn) (e : Ending) (w' : World) : Prop := ∃ fa fc, e = .returned (.tuple #[.agg #[.string (S o.fl), .string (S o.fd), .string (S o.tl), .string (S o.td), .string (S o.tx), .slice fa o.fs.length fc, .string (S o.body)], .int .i64 0]) ∧ FieldsAt w' fa o.fs ∧ Below w.heap.size w w'
theorem jaT {o : Opn} (h : jau o) : jdp o ∧ o.tx.length ≤ 2000 ∧ o.fs.length ≤ 30 := by
 unfold jau jch at h
 by_cases h1 : jK o.fl o.fd = 0
 · rw [if_neg (by simpa using h1)] at h
   by_cases h2 : jK o.tl o.td = 0
   · rw [if_neg (by simpa using h2)] at h; have hx : (zE o.tx).1 = o.fs ∧ (zE o.tx).2.2.2 = 0 := by
       constructor
       · exact congrArg Prod.fst h
       · exact congrArg (fun q => q.2.2) h
     have hl : o.tx.length ≤ 2000 := by
       rcases Nat.lt_or_ge 2000 o.tx.length with h' | h'
       · have := hx.2; unfold zE at this; rw [if_pos h'] at this; cases this
       · exact h'
     have hp : zE o.tx = zh 0 [] o.tx := by unfold zE; rw [if_neg (by omega)]
     have hs := (jhS 2000 o.tx.length o.tx (Nat.le_refl _) 0 [] hl (by simp)).1; have hi := ((jjP o.tx.length o.tx (Nat.le_refl _) 0 [] (by simp) (by simp)).1 (by rw [← hp]; exact hx.2)).2.1; rw [← hp, hx.1] at hs hi; have m1 := jaQ h1; have m2 := jaQ h2; exact ⟨⟨⟨by omega, by omega, by omega, by omega⟩, by unfold maxLen; omega, fun f hf => by have := (hs f hf).2; unfold maxLen; omega⟩, hl, hi⟩
   · rw [if_pos h2] at h; have : jK o.tl o.td = 0 := congrArg (fun q => q.2.2) h; exact absurd this h2
 · rw [if_pos h1] at h; have : jK o.fl o.fd = 0 := congrArg (fun q => q.2.2) h; exact absurd this h1
theorem jnu (o : Opn) (w : World) (hj : jau o) (hm : maxLenCell w) :
 Calls Tryz.prog 66 #[.agg #[.string (S o.fl), .string (S o.fd), .string (S o.tl), .string (S o.td), .string (S o.tx)]] w (OpnR w o) := by
 have hok := jaT hj; obtain ⟨W0, hW0⟩ : ∃ W0, W0 = (w.alloc (.cells #[.string (S o.fl), .string (S o.fd), .string (S o.tl), .string (S o.td), .string (S o.tx)] 37)).alloc (.cells #[.string ⟨#[]⟩, .string ⟨#[]⟩, .string ⟨#[]⟩, .string ⟨#[]⟩, .string ⟨#[]⟩, .slice none 0 0, .string ⟨#[]⟩] 143) := ⟨_, rfl⟩; have HWE := hid hW0; have HB0 := hid (show Below w.heap.size w W0 by rw [hW0]; exact (nb0 _ _).alloc (by simp) _); have hs0 : W0.heap.size = w.heap.size + 2 := by rw [hW0]; simp
 have HL := hid (show W0.heap[w.heap.size]? = some (.cells #[.string (S o.fl), .string (S o.fd), .string (S o.tl), .string (S o.td), .string (S o.tx)] 37) by rw [hW0]; exact qm _ (jX _ rfl)); have HR := hid (show W0.heap[w.heap.size + 1]? = some (.cells #[.string ⟨#[]⟩, .string ⟨#[]⟩, .string ⟨#[]⟩, .string ⟨#[]⟩, .string ⟨#[]⟩, .slice none 0 0, .string ⟨#[]⟩] 143) by rw [hW0]; exact jX _ (by simp)); have HC := hid (show Calls Tryz.prog 92 #[.agg #[.string (S o.fl), .string (S o.fd), .string (S o.tl), .string (S o.td), .string (S o.tx)]] W0 (MsgN W0 (o.fs, o.body, 0)) by
  obtain ⟨⟨⟨s1, s2, s3, s4⟩, _⟩, s5, _⟩ := hok; have := jhx (S o.fl) (S o.fd) (S o.tl) (S o.td) (S o.tx) W0 (by rw [ju]; omega) (by rw [ju]; omega) (by rw [ju]; omega) (by rw [ju]; omega) (by rw [ju]; unfold maxLen; omega) (maxLenCell_below hm HB0.out); rw [jt, jt, jt, jt, jt, show jch o.fl o.fd o.tl o.td o.tx = (o.fs, o.body, 0) from hj] at this; exact this)
 clear hm hj hW0 hok; go_enter Tryz.func66, Tryz.ntmps66; go_wp2_with fail; rw [← HWE.out]; refine HC.out.mono ?_; rintro e w1 ⟨fa, fc, he, hF, hfr, hb1⟩; rw [show e = .returned (.tuple #[.agg #[.slice fa o.fs.length fc, .string (S o.body)], .int .i64 0]) from he]; simp only; have hal : Below w1.heap.size w1 (w1.alloc (.cells #[.slice fa o.fs.length fc, .string (S o.body)] 61)) := nb0 _ _; have HB1 := hid (HB0.out.trans ((hb1.trans (hal.mono hb1.size)).mono HB0.out.size)); have HF1 := hid (hF.below hal); have hL1 := jF hal (jF hb1 HL.out); have hR1 := jF hal (jF hb1 HR.out); have HNE := hid (show ∀ b o q, fa = some ⟨b, o, q⟩ → b ≠ w.heap.size + 1 from fun b o q e => by have := hfr b o q e; omega); have l0 := jc (j := 0) hL1 rfl; have l1 := jc (j := 1) hL1 rfl; have l2 := jc (j := 2) hL1 rfl; have l3 := jc (j := 3) hL1 rfl; have l4 := jc (j := 4) hL1 rfl; have r0 := jc (j := 0) hR1 rfl; have r1 := jc (j := 1) hR1 rfl; have r2 := jc (j := 2) hR1 rfl; have r3 := jc (j := 3) hR1 rfl; have r4 := jc (j := 4) hR1 rfl; have r5 := jc (j := 5) hR1 rfl; have r6 := jc (j := 6) hR1 rfl; have fr : ∀ j, (w1.alloc (.cells #[.slice fa o.fs.length fc, .string (S o.body)] 61)).frozen? ⟨w.heap.size + 1, j, none⟩ = false := fun j => by simp only [World.frozen?, hR1]; simp
 have f0 := fr 0; have f1 := fr 1; have f2 := fr 2; have f3 := fr 3; have f4 := fr 4; have f5 := fr 5; have f6 := fr 6; clear he hb1 hal hF hfr hL1 hR1 HWE HL HR HC HB0 fr; go_wp2; refine bodyPost_ret (v := .tuple #[.agg #[.string (S o.fl), .string (S o.fd), .string (S o.tl), .string (S o.td), .string (S o.tx), .slice fa o.fs.length fc, .string (S o.body)], .int .i64 0]) (by simp [results, Tryz.results66, go_sem, *]) rfl ?_; refine ⟨fa, fc, rfl, ?_, ?_⟩
 · exact zX (zX (zX (zX (zX (zX (zX HF1.out _ HNE.out) _ HNE.out) _ HNE.out) _ HNE.out) _ HNE.out) _ HNE.out) _ HNE.out
 · exact ((((((HB1.out.setCell (by simp) _).setCell (by simp) _).setCell (by simp) _).setCell (by simp) _).setCell (by simp) _).setCell (by simp) _).setCell (by simp) _
def vu (f : List Cmd → Crs × Bool → Crs × Bool) (tl : Tst → Bool) (s : Crs × Bool) (x : Cmd) : Crs × Bool :=
 if s.2 = true then s else if x.kind ≠ 2 then doP s.1 x else if tl x.test = true then f x.thn s else f x.els s
def zL (o : Opn) : Nat → List Cmd → Crs × Bool → Crs × Bool
 | 0, _, s => s
 | n + 1, l, s => l.foldl (vu (zL o n) (jE o n)) s
theorem ji4 {f : List Cmd → Crs × Bool → Crs × Bool} {tl : Tst → Bool} : ∀ (l : List Cmd) (s : Crs × Bool), s.2 = true → l.foldl (vu f tl) s = s := by
 intro l
 induction l with
 | nil => intro s _; rfl
 | cons x l ih =>
   intro s h; have e : vu f tl s x = s := by unfold vu; rw [if_pos h]
   rw [List.foldl_cons, e]; exact ih s h
theorem ji3 {f : List Cmd → Crs × Bool → Crs × Bool} {tl : Tst → Bool} (hf : ∀ l s, jap s.1 → jap (f l s).1) : ∀ (l : List Cmd) (s : Crs × Bool), jap s.1 → jap (l.foldl (vu f tl) s).1 := by
 intro l
 induction l with
 | nil => intro s h; exact h
 | cons x l ih =>
   intro s h; rw [List.foldl_cons]; refine ih _ ?_; unfold vu; split
   · exact h
   · split
     · exact jof h x
     · split
       · exact hf _ _ h
       · exact hf _ _ h
theorem jca (o : Opn) : ∀ (n : Nat) (l : List Cmd) (s : Crs × Bool), jap s.1 → jap (zL o n l s).1 := by
 intro n
 induction n with
 | zero => intro l s h; exact h
 | succ n ih => intro l s h; exact ji3 ih l s h
def jcM : Nat → Cmd → Prop
 | 0, _ => True
 | n + 1, c => (c.kind ≠ 2 → jnU c) ∧ (c.kind = 2 → jls n c.test ∧ (∀ x ∈ c.thn, jcM n x) ∧ ∀ x ∈ c.els, jcM n x)
theorem ji5 {f : List Cmd → Crs × Bool → Crs × Bool} {tl : Tst → Bool} {l : List Cmd} {i : Nat} {x : Cmd} (h : l[i]? = some x) (s : Crs × Bool) : (l.take (i + 1)).foldl (vu f tl) s = vu f tl ((l.take i).foldl (vu f tl) s) x := by
 rw [qh h, List.foldl_append]; rfl
theorem jln {f : List Cmd → Crs × Bool → Crs × Bool} {tl : Tst → Bool} {l : List Cmd} {i : Nat} {s : Crs × Bool} (h : ((l.take i).foldl (vu f tl) s).2 = true) : l.foldl (vu f tl) s = (l.take i).foldl (vu f tl) s := by
 conv => lhs; rw [← List.take_append_drop i l, List.foldl_append]
 exact ji4 _ _ h
theorem jkW {w : World} {B b : Nat} {c : Crs} {ov : Bool} (h : CrsB w B b c ov) : w.cell? ⟨b, 4, none⟩ = some (.bool ov) := by
 obtain ⟨a, k, h1, _⟩ := h; exact (box5 h1).1.2.2.2.2
theorem CrsB.grow {w w' : World} {B b : Nat} {c : Crs} {o : Bool} (h : CrsB w B b c o) (hb : Below w.heap.size w w') : CrsB w' B b c o := CrsB.next h hb
def jmG (o : Opn) (fa : Option Addr) (fc n : Nat) : Prop := ∀ (l : List Cmd) (a : Option Addr) (k : Nat) (W0 : World) (B b : Nat) (s : Crs × Bool) (w : World), W0.heap.size ≤ B → Below B W0 w → Tabs W0 → maxLenCell W0 → FieldsAt W0 fa o.fs → CmdsM anyB n W0 (.slice a l.length k) l → (∀ x ∈ l, jcM n x) → CrsB w B b s.1 s.2 → jap s.1 →
    Calls Tryz.prog 67 #[.pointer (some ⟨b, 0, none⟩), .slice a l.length k, .agg #[.string (S o.fl), .string (S o.fd), .string (S o.tl), .string (S o.td), .string (S o.tx), .slice fa o.fs.length fc, .string (S o.body)]] w (StepR w B b (zL o n l s))
theorem StepR.mk' {w w' : World} {B b : Nat} {r : Crs × Bool} (h : CrsB w' B b r.1 r.2) (hb : Below B w w') (hf : Frm b w w') (v : Value) : StepR w B b r (.returned v) w' := ⟨⟨v, rfl⟩, h, hb, hf⟩
theorem jmZ {w : World} {B b : Nat} {c : Crs} {ov : Bool} (h : CrsB w B b c ov) : ∀ g, rowB w b = some g → g < w.heap.size := by
 obtain ⟨a, k, h1, ⟨css, h2, _⟩, _⟩ := h; intro g e; rw [ja1 h1] at e; exact (World.ownsRow.lt h2 g e).2
theorem Frm.box {b p : Nat} {w w' : World} {x : Obj} (h : Frm b w w') (hp : w.heap[p]? = some x) (hn : p ≠ b) (hr : some p ≠ rowB w b) : w'.heap[p]? = some x ∧ some p ≠ rowB w' b := by
 have hlt := (Array.getElem?_eq_some_iff.1 hp).1; refine ⟨(h.keep p hlt hn hr).trans hp, ?_⟩
 rcases h.row with e | ⟨g, e, hg⟩
 · rw [e]; exact hr
 · rw [e]; intro e2; have := Option.some.inj e2; omega
theorem jho (o : Opn) (fa : Option Addr) (fc : Nat) (ho : jdp o) : ∀ n, jmG o fa fc n := by
 intro n
 induction n with
 | zero =>
   intro l a k W0 B b s w hB hbw hw hm hF hC hg hc hs; have hl : l = [] := by
    cases l with
    | nil => rfl
    | cons x r =>
      obtain ⟨_, _, _, _, hr⟩ := hC; obtain ⟨_, _, _, _, _, _, _, _, hP⟩ := hr 0 x rfl; exact hP.elim
   subst hl; have HE := hid (show StepR w B b (zL o 0 [] s) (.returned (.tuple #[])) (w.alloc (.cells #[.string (S o.fl), .string (S o.fd), .string (S o.tl), .string (S o.td), .string (S o.tx), .slice fa o.fs.length fc, .string (S o.body)] 143)) from StepR.mk' (CrsB.grow hc (nb0 _ _)) ((Below.refl _ _).alloc (by have := hc.lt; omega) _) (Frm.below hc.lt.1 (nb0 _ _)) _); clear hbw hw hm hF hC hg hc hs hB; go_enter Tryz.func67, Tryz.ntmps67; go_wp2
   go_loopw [10] (fun v wr => v = .int .i64 0 ∧ w.alloc (.cells #[.string (S o.fl), .string (S o.fd), .string (S o.tl), .string (S o.td), .string (S o.tx), .slice fa o.fs.length fc, .string (S o.body)] 143) = wr) (fun _ _ => 0)
   case atStart => exact ⟨rfl, rfl⟩
   case round =>
    obtain ⟨rfl, rfl⟩ := hrel; go_wp2; go_end0; exact HE.out
 | succ n ih =>
   intro l a k W0 B b s w hB hbw hw hm hF hC hg hc hs; have hlm := hC.small; unfold maxLen at hlm; have HBW := hid hbw; have HTab := hid hw; have HML := hid hm; have HFl := hid hF; have HCm := hid hC; have HGd := hid hg; have HSk := hid hs; have HIH := hid ih; have hbl := hc.lt; obtain ⟨st, hst⟩ : ∃ st : Nat → Crs × Bool, st = fun i => (l.take i).foldl (vu (zL o n) (jE o n)) s := ⟨_, rfl⟩
   have HST := hid hst; have HFIN := hid (show ∀ i, (st i).2 = true → zL o (n + 1) l s = st i from fun i h => by rw [hst] at h ⊢; exact jln h); have HEND := hid (show zL o (n + 1) l s = st l.length by rw [hst]; simp only [List.take_length]; rfl); have HOK := hid (show ∀ i, jap (st i).1 from fun i => by rw [hst]; exact ji3 (jca o n) _ _ hs); have HSTEP := hid (show ∀ i x, l[i]? = some x → st (i + 1) = vu (zL o n) (jE o n) (st i) x from fun i x hx => by rw [hst]; exact ji5 hx s); obtain ⟨W1, hW1⟩ : ∃ W1, W1 = w.alloc (.cells #[.string (S o.fl), .string (S o.fd), .string (S o.tl), .string (S o.td), .string (S o.tx), .slice fa o.fs.length fc, .string (S o.body)] 143) := ⟨_, rfl⟩; have HWE := hid hW1; have HA1 := hid (show Below w.heap.size w W1 by rw [hW1]; exact nb0 _ _); have HOB := hid (show W1.heap[w.heap.size]? = some (.cells #[.string (S o.fl), .string (S o.fd), .string (S o.tl), .string (S o.td), .string (S o.tx), .slice fa o.fs.length fc, .string (S o.body)] 143) by rw [hW1]; exact jX _ rfl); have HC0 := hid (show CrsB W1 B b (st 0).1 (st 0).2 by rw [hst]; exact CrsB.grow hc HA1.out); obtain ⟨OB, hOB⟩ : ∃ OB, OB = w.heap.size := ⟨_, rfl⟩; rw [← hOB] at HOB; have HOE := hid hOB; have hOBB : B ≤ OB := by rw [hOB]; omega
   have HRW := hid (show some OB ≠ rowB W1 b from fun e => by
    have := jmZ hc OB (by rw [e]; unfold rowB; rw [HA1.out.cell (p := ⟨b, 0, none⟩) hbl.1]); omega)
   have hOBb : OB ≠ b := by rw [hOB]; omega
   have HF1 := hid (Frm.below hbl.1 HA1.out); have HLB := hid hbl; clear hbw hw hm hF hC hg hc hs ih hst hW1 hOB hbl; go_enter Tryz.func67, Tryz.ntmps67; go_wp2; rw [← HWE.out, ← HOE.out]; clear HWE
   go_loopw [10] (fun v wr => ∃ i : Nat, i ≤ l.length ∧ v = .int .i64 i ∧ Hid (CrsB wr B b (st i).1 (st i).2) ∧ Hid (Below B w wr) ∧ Hid (Frm b w wr) ∧ Hid (wr.heap[OB]? = some (.cells #[.string (S o.fl), .string (S o.fd), .string (S o.tl), .string (S o.td), .string (S o.tx), .slice fa o.fs.length fc, .string (S o.body)] 143) ∧ some OB ≠ rowB wr b)) (fun v _ => l.length - (intOf v).toNat)
   case atStart => exact ⟨0, Nat.zero_le _, rfl, HC0, (Below.refl _ _).trans (HA1.out.mono (by have := HLB.out; omega)), HF1, ⟨HOB.out, HRW.out⟩⟩
   case round =>
    obtain ⟨i, hi, rfl, HCi, HBi, HFi, HOi⟩ := hrel
    by_cases hlt : i < l.length
    · obtain ⟨x, hx⟩ : ∃ x, l[i]? = some x := ⟨_, List.getElem?_eq_getElem hlt⟩; have i1 : (i : Int) < (l.length : Int) := by omega
      have i0 : (0 : Int) ≤ (i : Int) := by omega
      have HX := hid hx; have HGx := hid (HGd.out x (List.mem_of_getElem? hx)); have hB0 : Below W0.heap.size W0 wr := (HBW.out.trans HBi.out).mono hB; obtain ⟨bb, oo, ax, cx, an, cn, ak, ck, at', ct, aa, ca, ae, ce, rfl, hbb, b0, b1, b2, b3, b4, b5, b6, b7, b8, b9, b10, b11, hCM⟩ := vK HCm.out hx; have c0 := jb b0 hB0; have c1 := jb b1 hB0; have c2 := jb b2 hB0; have c3 := jb b3 hB0; have c4 := jb b4 hB0; have c5 := jb b5 hB0; have c6 := jb b6 hB0; have c7 := jb b7 hB0; have c8 := jb b8 hB0; have c9 := jb b9 hB0; have c10 := jb b10 hB0; have c11 := jb b11 hB0; clear b0 b1 b2 b3 b4 b5 b6 b7 b8 b9 b10 b11; have HCM := hid hCM; obtain ⟨W2, hW2⟩ : ∃ W2, W2 = wr.alloc (.cells #[.int .i64 x.kind, .slice ax x.texts.length cx, .int .i64 x.test.kind, .int .i64 x.test.mat, .int .i64 x.test.part, .slice an x.test.names.length cn, .slice ak x.test.keys.length ck, .bool x.test.over, .int .i64 x.test.limit, .slice at' x.test.tests.length ct, .slice aa x.thn.length ca, .slice ae x.els.length ce] 84) := ⟨_, rfl⟩; have HWE2 := hid hW2; have HA2 := hid (show Below wr.heap.size wr W2 by rw [hW2]; exact nb0 _ _); have hX2 : W2.heap[wr.heap.size]? = some (.cells #[.int .i64 x.kind, .slice ax x.texts.length cx, .int .i64 x.test.kind, .int .i64 x.test.mat, .int .i64 x.test.part, .slice an x.test.names.length cn, .slice ak x.test.keys.length ck, .bool x.test.over, .int .i64 x.test.limit, .slice at' x.test.tests.length ct, .slice aa x.thn.length ca, .slice ae x.els.length ce] 84) := by rw [hW2]; exact jX _ rfl
      have HB2 := hid (show Below B w W2 from HBi.out.trans (HA2.out.mono (by have := HBi.out.size; have := HLB.out; omega))); have HC2 := hid (CrsB.grow HCi.out HA2.out); have HFA := hid (Frm.below (HCi.out).lt.1 HA2.out); have HO2 := hid (Frm.box HFA.out HOi.out.1 hOBb HOi.out.2); have HF2 := hid (HFi.out.trans HFA.out); have hov := jkW HC2.out; have HB02 := hid (show Below W0.heap.size W0 W2 from (HBW.out.trans HB2.out).mono hB); have hovE := hov; rw [hW2] at hovE; have hX2E := hX2; rw [hW2] at hX2E; have d0 := jc (j := 0) hX2E rfl; have d1 := jc (j := 1) hX2E rfl; have d2 := jc (j := 2) hX2E rfl; have d3 := jc (j := 3) hX2E rfl; have d4 := jc (j := 4) hX2E rfl; have d5 := jc (j := 5) hX2E rfl; have d6 := jc (j := 6) hX2E rfl; have d7 := jc (j := 7) hX2E rfl; have d8 := jc (j := 8) hX2E rfl; have d9 := jc (j := 9) hX2E rfl; have d10 := jc (j := 10) hX2E rfl; have d11 := jc (j := 11) hX2E rfl; have HXB := hid hX2; clear hx hCM hX2 hX2E hov hB0 hW2; cases hq : (st i).2 with
      | true =>
        rw [hq] at hovE; have HE := hid (show StepR w B b (zL o (n + 1) l s) (.returned (.tuple #[])) W2 by rw [HFIN.out i hq]; exact StepR.mk' (by rw [hq]; rw [hq] at HC2; exact HC2.out) HB2.out HF2.out _); clear hq; go_wp2; rw [← HWE2.out]; go_end0; exact HE.out
      | false =>
        rw [hq] at hovE HC2
        by_cases hk : x.kind = 2
        · have hkb : (x.kind == 2) = true := by simpa using hk
          have HK := hid hk; have HG2 := hid (HGx.out.2 hk); have HBR := hid (show CmdsM anyB n W0 (.slice aa x.thn.length ca) x.thn ∧ CmdsM anyB n W0 (.slice ae x.els.length ce) x.els by
             obtain ⟨_, _, _, _, _, _, e, _, _, h3, h4⟩ := HCM.out; simp only [List.cons.injEq, and_true, true_and] at e; obtain ⟨_, _, _, _, e4, e5⟩ := e; subst e4; subst e5; exact ⟨h3, h4⟩)
          have HTM := hid (show TstM anyB n W2 x.test [.int .i64 x.test.kind, .int .i64 x.test.mat, .int .i64 x.test.part, .slice an x.test.names.length cn, .slice ak x.test.keys.length ck, .bool x.test.over, .int .i64 x.test.limit, .slice at' x.test.tests.length ct] by
             obtain ⟨_, _, _, _, _, _, e, _, h2, _⟩ := HCM.out; simp only [List.cons.injEq, and_true, true_and] at e; obtain ⟨_, e1, e2, e3, _⟩ := e; subst e1; subst e2; subst e3; exact TstM.next h2 HB02.out)
          have HTL := hid (jko o fa fc ho n x.test an ak at' cn ck ct W2 (HFl.out.below HB02.out) (maxLenCell_below HML.out HB02.out) HG2.out.1 HTM.out); have hO2 := HO2.out.1; have hO2E := hO2; rw [HWE2.out] at hO2E; have z0 := jc (j := 0) hO2E rfl; have z1 := jc (j := 1) hO2E rfl; have z2 := jc (j := 2) hO2E rfl; have z3 := jc (j := 3) hO2E rfl; have z4 := jc (j := 4) hO2E rfl; have z5 := jc (j := 5) hO2E rfl; have z6 := jc (j := 6) hO2E rfl; obtain ⟨v, hv⟩ : ∃ v, v = jE o n x.test := ⟨_, rfl⟩; rw [← hv] at HTL; have HV := hid hv; have HSI := hid (HSTEP.out i x HX.out); have HQ := hid hq; clear hO2 hO2E hv hk hq; go_wp2_with fail; rw [← HWE2.out]; refine HTL.out.mono ?_; rintro e w3 ⟨rfl, hb3⟩; simp only; have HB3 := hid (show Below B w w3 from HB2.out.trans (hb3.mono (by have := HB2.out.size; have := HLB.out; omega))); have HC3 := hid (CrsB.grow HC2.out hb3); have HFB := hid (Frm.below HC2.out.lt.1 hb3); have HO3 := hid (Frm.box HFB.out HO2.out.1 hOBb HO2.out.2); have HF3 := hid (HF2.out.trans HFB.out); have hX3 := jF hb3 HXB.out; have hO3 := HO3.out.1; have f0 := jc (j := 0) hX3 rfl; have f1 := jc (j := 1) hX3 rfl; have f2 := jc (j := 2) hX3 rfl; have f3 := jc (j := 3) hX3 rfl; have f4 := jc (j := 4) hX3 rfl; have f5 := jc (j := 5) hX3 rfl; have f6 := jc (j := 6) hX3 rfl; have f7 := jc (j := 7) hX3 rfl; have f8 := jc (j := 8) hX3 rfl; have f9 := jc (j := 9) hX3 rfl; have f10 := jc (j := 10) hX3 rfl; have f11 := jc (j := 11) hX3 rfl; have y0 := jc (j := 0) hO3 rfl; have y1 := jc (j := 1) hO3 rfl; have y2 := jc (j := 2) hO3 rfl; have y3 := jc (j := 3) hO3 rfl; have y4 := jc (j := 4) hO3 rfl; have y5 := jc (j := 5) hO3 rfl; have y6 := jc (j := 6) hO3 rfl; have HB03 := hid (show Below B W0 w3 from HBW.out.trans HB3.out); have HCR := hid (show ∀ (q : Bool), CrsB w3 B b (st i).1 false → CrsB w3 B b (st i).1 q ∨ q = true from fun q h => by cases q; exact .inl h; exact .inr rfl); clear hb3 hX3 hO3 d0 d1 d2 d3 d4 d5 d6 d7 d8 d9 d10 d11 z0 z1 z2 z3 z4 z5 z6 hovE HCR; have HSB := hid (show (st i).2 = false from HQ.out); cases v with
          | true =>
            have HSN := hid (show st (i + 1) = zL o n x.thn (st i) by
              rw [HSI.out]; unfold vu; rw [if_neg (by rw [HSB.out]; simp), if_neg (by simpa using HK.out), if_pos HV.out.symm])
            have HFO := hid (HIH.out x.thn aa ca W0 B b (st i) w3 hB HB03.out HTab.out HML.out HFl.out HBR.out.1 HG2.out.2.1 (by rw [HSB.out]; exact HC3.out) (HOK.out i)); rw [← HSN.out] at HFO; go_wp2_with fail; refine HFO.out.mono ?_; rintro e w4 ⟨⟨rv, rfl⟩, hc4, hb4, hf4⟩; simp only; have HC4 := hid hc4; have HB4 := hid (HB3.out.trans hb4); have HF4 := hid (HF3.out.trans hf4); have HO4 := hid (Frm.box hf4 HO3.out.1 hOBb HO3.out.2); clear hc4 hb4 hf4; go_wp2
            go_roundw
            case rel => exact ⟨i + 1, by omega, by go_num, HC4, HB4, HF4, HO4⟩
            case measure => simp [intOf]; omega
          | false =>
            have HSN := hid (show st (i + 1) = zL o n x.els (st i) by
              rw [HSI.out]; unfold vu; rw [if_neg (by rw [HSB.out]; simp), if_neg (by simpa using HK.out), if_neg (by rw [← HV.out]; simp)])
            have HFO := hid (HIH.out x.els ae ce W0 B b (st i) w3 hB HB03.out HTab.out HML.out HFl.out HBR.out.2 HG2.out.2.2 (by rw [HSB.out]; exact HC3.out) (HOK.out i)); rw [← HSN.out] at HFO; go_wp2_with fail; refine HFO.out.mono ?_; rintro e w4 ⟨⟨rv, rfl⟩, hc4, hb4, hf4⟩; simp only; have HC4 := hid hc4; have HB4 := hid (HB3.out.trans hb4); have HF4 := hid (HF3.out.trans hf4); have HO4 := hid (Frm.box hf4 HO3.out.1 hOBb HO3.out.2); clear hc4 hb4 hf4; go_wp2
            go_roundw
            case rel => exact ⟨i + 1, by omega, by go_num, HC4, HB4, HF4, HO4⟩
            case measure => simp [intOf]; omega
        · have hkb : (x.kind == 2) = false := by simpa using hk
          have HSN := hid (show st (i + 1) = doP (st i).1 x by
             rw [HSTEP.out i x HX.out]; unfold vu; rw [if_neg (by rw [hq]; simp), if_pos hk])
          have HTX := hid (show TxtsM anyB W2 (.slice ax x.texts.length cx) x.texts by
             obtain ⟨_, _, _, _, _, _, e, h1, _⟩ := HCM.out; simp only [List.cons.injEq, and_true, true_and] at e; obtain ⟨e0, _⟩ := e; subst e0; exact TxtsM.next h1 HB02.out)
          have HDO := hid (joe B b (st i).1 x ax an ak at' aa ae cx cn ck ct ca ce W2 HC2.out (HOK.out i).1 (HOK.out i).2.1 (HOK.out i).2.2 (HTab.out.next HB02.out).2.2.2.2 HTX.out (HGx.out.1 hk)); rw [← HSN.out] at HDO; clear hk hq; go_wp2_with fail; rw [← HWE2.out]; refine HDO.out.mono ?_; rintro e w4 ⟨⟨rv, rfl⟩, hc4, hb4, hf4⟩; simp only; have HC4 := hid hc4; have HB4 := hid (HB2.out.trans hb4); have HF4 := hid (HF2.out.trans hf4); have HO4 := hid (Frm.box hf4 HO2.out.1 hOBb HO2.out.2); clear hc4 hb4 hf4; go_wp2
          go_roundw
          case rel => exact ⟨i + 1, by omega, by go_num, HC4, HB4, HF4, HO4⟩
          case measure => simp [intOf]; omega
    · have HE := hid (show StepR w B b (zL o (n + 1) l s) (.returned (.tuple #[])) wr by
       have e : i = l.length := by omega
       rw [HEND.out, ← e]; exact StepR.mk' HCi.out HBi.out HFi.out _)
      go_wp2; go_end0; exact HE.out
def vT (o : Opn) (n : Nat) (l : List Cmd) : Crs := (zL o n l (newC, false)).1
def CrsR (w : World) (r : Crs) (e : Ending) (w' : World) : Prop := ∃ a k, e = .returned (.tuple #[.agg #[.slice a r.acts.length k, .int .i64 r.flags, .bool r.asked, .int .i64 r.fault], .int .i64 0]) ∧ AtnsM anyB w' (.slice a r.acts.length k) r.acts ∧ (a = none → r.acts = [] ∧ k = 0) ∧ Below w.heap.size w w'
theorem jdF (o : Opn) (n : Nat) (l : List Cmd) : jap (vT o n l) := jca o n l _ jgv
theorem jkF (n : Nat) (l : List Cmd) (a : Option Addr) (k : Nat) (o : Opn) (w : World) (hw : Tabs w) (hm : maxLenCell w) (hj : jau o) (hk : l.length ≤ k) (hn : l = [] → a = none ∧ k = 0) (hs : ∀ x ∈ l, vw (n + 1) x) (hC : CmdsM anyB (n + 1) w (.slice a l.length k) l) (hr : jdV (n + 1) l = 0) (hg : ∀ x ∈ l, jcM (n + 1) x) :
 Calls Tryz.prog 34 #[.slice a l.length k, .agg #[.string (S o.fl), .string (S o.fd), .string (S o.tl), .string (S o.td), .string (S o.tx)]] w (CrsR w (vT o (n + 1) l)) := by
 have HW := hid hw; have HM := hid hm; have HJ := hid hj; have HCM := hid hC; have HG := hid hg; have HOK := hid (jaT hj).1; have hlm := hC.small; obtain ⟨W0, hW0⟩ : ∃ W0, W0 = (w.alloc (.cells #[.string (S o.fl), .string (S o.fd), .string (S o.tl), .string (S o.td), .string (S o.tx)] 37)).alloc (.cells #[.slice none 0 0, .int .i64 0, .bool false, .int .i64 0] 108) := ⟨_, rfl⟩; have HWE := hid hW0; have HB0 := hid (show Below w.heap.size w W0 by rw [hW0]; exact (nb0 _ _).alloc (by simp) _); have HL0 := hid (show W0.heap[w.heap.size]? = some (.cells #[.string (S o.fl), .string (S o.fd), .string (S o.tl), .string (S o.td), .string (S o.tx)] 37) by rw [hW0]; exact qm _ (jX _ rfl)); have HR0 := hid (show W0.heap[w.heap.size + 1]? = some (.cells #[.slice none 0 0, .int .i64 0, .bool false, .int .i64 0] 108) by rw [hW0]; exact jX _ (by simp)); have HCH := hid (show Calls Tryz.prog 65 #[.slice a l.length k] W0 fun e w' => e = .returned (.int .i64 0) ∧ Below W0.heap.size W0 w' by
  have := jhX n l a k W0 (hw.next HB0.out) hk hn hs (CmdsM.next hC HB0.out); rw [hr] at this; exact this)
 obtain ⟨r, hrr⟩ : ∃ r, r = zL o (n + 1) l (newC, false) := ⟨_, rfl⟩; have HRR := hid hrr; have HLEN := hid (show jap r.1 by rw [hrr]; exact jca o (n + 1) l _ jgv); rw [show vT o (n + 1) l = r.1 by rw [hrr]; rfl]; clear hw hm hj hk hn hs hC hr hg hW0 hrr; go_enter Tryz.func34, Tryz.ntmps34; go_wp2_with fail; rw [← HWE.out]; refine HCH.out.mono ?_; rintro e w1 ⟨rfl, hb1⟩; simp only; have HB1 := hid (HB0.out.trans (hb1.mono HB0.out.size)); have hL1 := jF hb1 HL0.out; have HR1 := hid (jF hb1 HR0.out); have l0 := jc (j := 0) hL1 rfl; have l1 := jc (j := 1) hL1 rfl; have l2 := jc (j := 2) hL1 rfl; have l3 := jc (j := 3) hL1 rfl; have l4 := jc (j := 4) hL1 rfl; have HOP := hid (jnu o w1 HJ.out (maxLenCell_below HM.out HB1.out)); clear hb1 hL1 HWE HCH; go_wp2_with fail; refine HOP.out.mono ?_; rintro e w2 ⟨fa, fc, rfl, hF2, hb2⟩; simp only; obtain ⟨W3, hW3⟩ : ∃ W3, W3 = w2.alloc (.cells #[.string (S o.fl), .string (S o.fd), .string (S o.tl), .string (S o.td), .string (S o.tx), .slice fa o.fs.length fc, .string (S o.body)] 143) := ⟨_, rfl⟩; have HA3 := hid (show Below w2.heap.size w2 W3 by rw [hW3]; exact nb0 _ _); have HB3 := hid (show Below w.heap.size w W3 from HB1.out.trans ((hb2.trans (HA3.out.mono hb2.size)).mono HB1.out.size)); have HR3 := hid (jF HA3.out (jF hb2 HR1.out)); have hO3 : W3.heap[w2.heap.size]? = some (.cells #[.string (S o.fl), .string (S o.fd), .string (S o.tl), .string (S o.td), .string (S o.tx), .slice fa o.fs.length fc, .string (S o.body)] 143) := by rw [hW3]; exact jX _ rfl
 obtain ⟨W4, hW4⟩ : ∃ W4, W4 = W3.alloc (.cells #[.slice none 0 0, .int .i64 0, .bool false, .int .i64 0, .bool false] 147) := ⟨_, rfl⟩; have HWE4 := hid (show W4 = (w2.alloc (.cells #[.string (S o.fl), .string (S o.fd), .string (S o.tl), .string (S o.td), .string (S o.tx), .slice fa o.fs.length fc, .string (S o.body)] 143)).alloc (.cells #[.slice none 0 0, .int .i64 0, .bool false, .int .i64 0, .bool false] 147) by rw [hW4, hW3]); have HA4 := hid (show Below W3.heap.size W3 W4 by rw [hW4]; exact nb0 _ _); have HC4 := hid (show CrsB W4 W3.heap.size W3.heap.size newC false from ⟨none, 0, by rw [hW4]; exact jX _ rfl, ⟨[], World.ownsRow_nil _ _ _ _, rfl, (fun cs h => by cases h), fun i x cs h => by simp [newC] at h⟩, by simp [Value.ownBlock], Nat.le_refl _⟩); have HFO := hid (jho o fa fc HOK.out (n + 1) l a k W3 W3.heap.size W3.heap.size (newC, false) W4 (Nat.le_refl _) HA4.out (HW.out.next HB3.out) (maxLenCell_below HM.out HB3.out) (hF2.below HA3.out) (CmdsM.next HCM.out HB3.out) HG.out HC4.out jgv); rw [← HRR.out] at HFO; have hO4 := jF HA4.out hO3; have hzz : W3.heap.size = w2.heap.size + 1 := by rw [hW3]; simp
 have HZ := hid hzz; rw [HWE4.out] at hO4; have z0 := jc (j := 0) hO4 rfl; have z1 := jc (j := 1) hO4 rfl; have z2 := jc (j := 2) hO4 rfl; have z3 := jc (j := 3) hO4 rfl; have z4 := jc (j := 4) hO4 rfl; have z5 := jc (j := 5) hO4 rfl; have z6 := jc (j := 6) hO4 rfl; clear hF2 hb2 hW3 hO3 hW4 hO4 hzz HOP l0 l1 l2 l3 l4; rw [show (Value.pointer (some ⟨W3.heap.size, 0, none⟩)) = .pointer (some ⟨w2.heap.size + 1, 0, none⟩) by rw [HZ.out]] at HFO; go_wp2_with fail; rw [← HWE4.out]; refine HFO.out.mono ?_; rintro e w5 ⟨⟨rv, rfl⟩, hc5, hb5, _⟩; simp only; obtain ⟨a5, k5, h5, hO5, hne5, hB5⟩ := hc5; have HO5 := hid hO5; have HL5 := hid (Array.getElem?_eq_some_iff.1 h5).1; have hrb : w.heap.size + 1 < W3.heap.size := (Array.getElem?_eq_some_iff.1 HR3.out).1; have hR5 : w5.heap[w.heap.size + 1]? = some (.cells #[.slice none 0 0, .int .i64 0, .bool false, .int .i64 0] 108) := ((HA4.out.trans hb5).block (w.heap.size + 1) hrb).trans HR3.out; have HB5 := hid (show Below w.heap.size w w5 from HB3.out.trans ((HA4.out.trans hb5).mono HB3.out.size)); rw [HZ.out] at h5; obtain ⟨⟨q0, q1, q2, q3, q4⟩, f0, f1, f2, f3, f4⟩ := box5 h5; have r0 := jc (j := 0) hR5 rfl; have r1 := jc (j := 1) hR5 rfl; have r2 := jc (j := 2) hR5 rfl; have r3 := jc (j := 3) hR5 rfl; have fr : ∀ j, w5.frozen? ⟨w.heap.size + 1, j, none⟩ = false := fun j => by simp only [World.frozen?, hR5]; simp
 have g0 := fr 0; have g1 := fr 1; have g2 := fr 2; have g3 := fr 3; have HE := hid (show CrsR w r.1 (.returned (.tuple #[.agg #[.slice a5 r.1.acts.length k5, .int .i64 r.1.flags, .bool r.1.asked, .int .i64 r.1.fault], .int .i64 0])) ((((w5.setCell ⟨w.heap.size + 1, 0, none⟩ (.slice a5 r.1.acts.length k5)).setCell ⟨w.heap.size + 1, 1, none⟩ (.int .i64 r.1.flags)).setCell ⟨w.heap.size + 1, 2, none⟩ (.bool r.1.asked)).setCell ⟨w.heap.size + 1, 3, none⟩ (.int .i64 r.1.fault)) from
  ⟨a5, k5, rfl, RowM.imp (OwnRow.rowM jbJ ((((HO5.out.far hrb).far hrb).far hrb).far hrb) (by have h6 := HLEN.out.1; unfold maxLen; omega)) (fun _ _ => trivial) (Keeps.refl _ _) (fun _ _ h => h), jlO HO5.out, (((HB5.out.setCell (by simp) _).setCell (by simp) _).setCell (by simp) _).setCell (by simp) _⟩)
 clear hb5 hO5 hne5 hB5 hR5 h5 fr HFO HWE4 z0 z1 z2 z3 z4 z5 z6 hrb f0 f1 f2 f3 f4; go_wp2; refine bodyPost_ret (v := .tuple #[.agg #[.slice a5 r.1.acts.length k5, .int .i64 r.1.flags, .bool r.1.asked, .int .i64 r.1.fault], .int .i64 0]) (by simp [results, Tryz.results34, go_sem, *]) rfl ?_; exact HE.out
def endP (c : Crs) : List Atn := if c.fault ≠ 0 then [⟨3, [], 0⟩] else if c.asked = false then [⟨3, [], c.flags⟩] else c.acts
def EndR (w : World) (l : List Atn) (e : Ending) (w' : World) : Prop := ∃ a k, e = .returned (.tuple #[.slice a l.length k, .int .i64 0]) ∧ AtnsM anyB w' (.slice a l.length k) l ∧ Below w.heap.size w w'
theorem jnT (c : Crs) (a : Option Addr) (k : Nat) (w : World) (h : AtnsM anyB w (.slice a c.acts.length k) c.acts) (hn : a = none → c.acts = [] ∧ k = 0) (hc : jap c) :
 Calls Tryz.prog 35 #[.agg #[.slice a c.acts.length k, .int .i64 c.flags, .bool c.asked, .int .i64 c.fault]] w (EndR w (endP c)) := by
 obtain ⟨W0, hW0⟩ : ∃ W0, W0 = w.alloc (.cells #[.slice a c.acts.length k, .int .i64 c.flags, .bool c.asked, .int .i64 c.fault] 108) := ⟨_, rfl⟩; have HWE := hid hW0; have HB0 := hid (show Below w.heap.size w W0 by rw [hW0]; exact nb0 _ _); have HC0 := hid (show W0.heap[w.heap.size]? = some (.cells #[.slice a c.acts.length k, .int .i64 c.flags, .bool c.asked, .int .i64 c.fault] 108) by rw [hW0]; exact jX _ rfl); have HMB := hid (show Calls Tryz.prog 68 #[.agg #[.slice a c.acts.length k, .int .i64 c.flags, .bool c.asked, .int .i64 c.fault]] W0 fun e w' => e = .returned (.bool true) ∧ Below W0.heap.size W0 w' by
  have := jjD c a k W0; rw [show (decide (c.acts.length ≤ 6) && (decide (0 ≤ c.flags) && decide (c.flags ≤ 31))) = true by simp [hc.1, hc.2.1, hc.2.2]] at this; exact this)
 have HA := hid h; have HN := hid hn; have hl6 := hc.1; obtain ⟨l, hl⟩ : ∃ l, l = endP c := ⟨_, rfl⟩; rw [← hl]; unfold endP at hl; have HL := hid hl; clear h hn hc hW0 hl; go_enter Tryz.func35, Tryz.ntmps35; go_wp2_with fail; rw [← HWE.out]; refine HMB.out.mono ?_; rintro e w1 ⟨rfl, hb1⟩; simp only; have HB1 := hid (HB0.out.trans (hb1.mono HB0.out.size)); have hC1 := jF hb1 HC0.out; have d0 := jc (j := 0) hC1 rfl; have d1 := jc (j := 1) hC1 rfl; have d2 := jc (j := 2) hC1 rfl; have d3 := jc (j := 3) hC1 rfl; have HA1 := hid (AtnsM.next HA.out HB1.out); clear hb1 hC1 HWE HMB
 by_cases hf : c.fault = 0
 · have hfb : (c.fault == 0) = true := by simpa using hf
   rw [if_neg (by simpa using hf)] at HL; have HFZ := hid hf; clear hf; cases hq : c.asked with
   | false =>
     rw [if_pos hq] at HL; rw [hq] at d2; clear hq; have HE := hid (show EndR w l (.returned (.tuple #[.slice (some ⟨w1.heap.size, 0, none⟩) 1 1, .int .i64 0])) (w1.alloc (.cells #[.int .i64 3, .string ⟨#[]⟩, .int .i64 c.flags] 78)) by
        rw [HL.out]; exact ⟨some ⟨w1.heap.size, 0, none⟩, 1, rfl, zp (t := 78) (fr := (0, 0)) (cs := [.int .i64 3, .string ⟨#[]⟩, .int .i64 c.flags]) (jX _ rfl) rfl trivial rfl, HB1.out.alloc HB1.out.size _⟩)
     go_wp2; go_ret2; exact HE.out
   | true =>
     rw [if_neg (by rw [hq]; simp)] at HL; rw [hq] at d2; clear hq; have HCL := hid (jiB c.acts a k w1 HA1.out hl6 HN.out); go_wp2_with fail; refine HCL.out.mono ?_; rintro e w2 ⟨a2, k2, rfl, hO2, hb2⟩; simp only; have HE := hid (show EndR w l (.returned (.tuple #[.slice a2 c.acts.length k2, .int .i64 0])) w2 by
        rw [HL.out]; exact ⟨a2, k2, rfl, RowM.imp (OwnRow.rowM jbJ hO2 (by unfold maxLen; omega)) (fun _ _ => trivial) (Keeps.refl _ _) (fun _ _ h => h), HB1.out.trans (hb2.mono HB1.out.size)⟩)
     clear hO2 hb2; go_wp2; go_ret2; exact HE.out
 · have hfb : (c.fault == 0) = false := by simpa using hf
   rw [if_pos hf] at HL; clear hf; have HE := hid (show EndR w l (.returned (.tuple #[.slice (some ⟨w1.heap.size, 0, none⟩) 1 1, .int .i64 0])) (w1.alloc (.cells #[.int .i64 3, .string ⟨#[]⟩, .int .i64 0] 78)) by
    rw [HL.out]; exact ⟨some ⟨w1.heap.size, 0, none⟩, 1, rfl, zp (t := 78) (fr := (0, 0)) (cs := [.int .i64 3, .string ⟨#[]⟩, .int .i64 0]) (jX _ rfl) rfl trivial rfl, HB1.out.alloc HB1.out.size _⟩)
   go_wp2; go_ret2; exact HE.out
def inbL : List UInt8 := [73, 78, 66, 79, 88]
def jcO (nm : List UInt8) (x : Ent) : Bool := decide (x.kind = 2) && decide (x.box = nm)
def appE (nm : List UInt8) (f : Int) (tx : List UInt8) : Ent := ⟨2, nm, 0, f, [], tx⟩
def outE (tt tx : List UInt8) : Ent := ⟨6, [], 0, 0, tt, tx⟩
def jcI (tx : List UInt8) (out : List Ent) (nm : List UInt8) (f : Int) : List Ent := if 0 ≤ idxZ (jcO nm) out then out else out ++ [appE nm f tx]
def boxFor (bs : List Bx) (nm : List UInt8) : List UInt8 := if 0 ≤ idxZ (isName nm) bs then nm else inbL
def jaW (bs : List Bx) (o : Opn) (out : List Ent) (a : Atn) : List Ent :=
 if a.kind = 3 then jcI o.tx out inbL a.flags
 else if a.kind = 5 then jcI o.tx out (boxFor bs a.text) a.flags
 else if a.kind = 6 then out ++ [outE a.text o.tx]
 else if a.kind = 7 then out ++ [outE (qx 1 o.fl o.fd).1 a.text]
 else out
def plan (bs : List Bx) (o : Opn) (l : List Atn) : List Ent := l.foldl (jaW bs o) []
theorem jep (tx : List UInt8) (out : List Ent) (nm : List UInt8) (f : Int) : (jcI tx out nm f).length ≤ out.length + 1 := by
 unfold jcI; split <;> simp
theorem jjV (bs : List Bx) (o : Opn) (out : List Ent) (a : Atn) : (jaW bs o out a).length ≤ out.length + 1 := by
 unfold jaW; split
 · exact jep _ _ _ _
 · split
   · exact jep _ _ _ _
   · split
     · simp
     · split <;> simp
theorem ji2 (bs : List Bx) (o : Opn) : ∀ (l : List Atn) (out : List Ent), (l.foldl (jaW bs o) out).length ≤ out.length + l.length := by
 intro l
 induction l with
 | nil => intro out; simp
 | cons a l ih => intro out; have h := ih (jaW bs o out a); have := jjV bs o out a; rw [List.foldl_cons, List.length_cons]; omega
theorem jdT (bs : List Bx) (o : Opn) (l : List Atn) : (plan bs o l).length ≤ l.length := by have := ji2 bs o l []; simpa [plan] using this
theorem jjW {bs : List Bx} {o : Opn} {l : List Atn} {k : Nat} {a : Atn} (h : l[k]? = some a) : plan bs o (l.take (k + 1)) = jaW bs o (plan bs o (l.take k)) a := by
 unfold plan; rw [List.take_add_one, h, List.foldl_append]; rfl
def DlvP (w : World) (s : Stt) (es : List Ent) (e : Ending) (w' : World) : Prop := Below w.heap.size w w' ∧ match allM s es with
 | .error z => e = .returned (.tuple #[.slice none 0 0, .agg #[.slice none 0 0, .slice none 0 0], .int .i64 z])
 | .ok s' => ∃ a c u vb vs vm, e = .returned (.tuple #[.slice a es.length c, .agg #[vb, vs], .int .i64 0]) ∧ EntsM (fun k => w.heap.size ≤ k ∧ k < u) w' (.slice a es.length c) es ∧ w.heap.size ≤ u ∧ OwnS u w' vb vs vm s'
theorem DlvP.drew {w : World} {s : Stt} {es : List Ent} {e : Ending} {w' : World} (h : DlvP w s es e w') : DlvP w s es e w'.drew := by
 unfold DlvP at h ⊢; cases hr : allM s es with
 | error z => rw [hr] at h; exact ⟨h.1.drew, h.2⟩
 | ok s' =>
   rw [hr] at h; obtain ⟨hb, a, c, u, vb, vs, vm, h1, h2, h3, h4⟩ := h; exact ⟨hb.drew, a, c, u, vb, vs, vm, h1, h2, h3, h4.keep fun _ _ => rfl⟩
def jl6 (t : List UInt8) : Prop := ∀ c u, t = c :: u → runB c = false
theorem je1 : jl6 [] := fun c u h => by cases h
theorem jdi {c : UInt8} {u : List UInt8} (h : runB c = false) : jl6 (c :: u) := fun c' u' e => by cases e; exact h
theorem jgM {l t : List UInt8} (h : ∀ c ∈ l, runB c = true) (ht : jl6 t) : wrun (l ++ t) = l := by
 unfold wrun; rw [List.takeWhile_append_of_pos h]; cases t with
 | nil => simp
 | cons c u => rw [List.takeWhile_cons, ht c u rfl]; simp
theorem jfb {l t : List UInt8} (h : ∀ c ∈ l, runB c = true) (ht : jl6 t) : ze (l ++ t) = t := by
 unfold ze; rw [List.dropWhile_append_of_pos h]; cases t with
 | nil => simp
 | cons c u => rw [List.dropWhile_cons, ht c u rfl]; simp
theorem jfa {c : UInt8} {t : List UInt8} (h : jD c = false) : jH (c :: t) = c :: t := by
 unfold jH; rw [List.dropWhile_cons, h]; simp
theorem jgY {nm tx : List UInt8} {f : Int} (hn : zQ nm = 0) (hf : 0 ≤ f ∧ f ≤ 31) (ht : tx.length ≤ 2000) : Formed (appE nm f tx) :=
 ⟨⟨by show (1 : Int) ≤ 2; omega, by show (2 : Int) ≤ 6; omega⟩, ⟨(fun h => by rcases h with h | h <;> cases h), (fun _ => ⟨rfl, rfl⟩), (fun h => by cases h), (fun h => by cases h), fun h => by cases h⟩, hf, ⟨by show (0 : Int) ≤ 0; omega, by show (0 : Int) ≤ 1048576; omega⟩, ht, (fun h => by cases h), (fun _ => hn), fun h => by cases h⟩
theorem jhR {tt tx : List UInt8} (hg : jbz tt = 0) (ht : tx.length ≤ 2000) : Formed (outE tt tx) :=
 ⟨⟨by show (1 : Int) ≤ 6; omega, by show (6 : Int) ≤ 6; omega⟩, ⟨(fun h => by rcases h with h | h <;> cases h), (fun h => by cases h), (fun h => by cases h), (fun h => by cases h), fun _ => ⟨rfl, rfl, rfl⟩⟩, ⟨by show (0 : Int) ≤ 0; omega, by show (0 : Int) ≤ 31; omega⟩, ⟨by show (0 : Int) ≤ 0; omega, by show (0 : Int) ≤ 1048576; omega⟩, ht, (fun _ => hg), (fun h => absurd rfl h), fun h => by cases h⟩
theorem jgn : zQ inbL = 0 := by decide
theorem jcV {s s' : Stt} {i : Nat} {f : Int} {t : List UInt8} (h : addM s i f t = .ok s') : s'.boxes.map Bx.name = s.boxes.map Bx.name := by
 unfold addM at h; cases hb : s.boxes[i]? with
 | none => rw [hb] at h; cases h
 | some b =>
   rw [hb] at h; simp only at h; split at h
   · cases h
   · cases h; exact vU Bx.name _ _ _ _ hb rfl
theorem jen {s s' : Stt} {x : Ent} (h : doM s x = .ok s') : ∃ l, s'.boxes.map Bx.name = s.boxes.map Bx.name ++ l := by
 have same : ∀ {i : Nat} {b b' : Bx}, s.boxes[i]? = some b → b'.name = b.name → ∃ l, (s.boxes.set i b').map Bx.name = s.boxes.map Bx.name ++ l := fun hb hn => ⟨[], by rw [List.append_nil]; exact vU Bx.name _ _ _ _ hb hn⟩
 unfold doM at h; split at h
 · split at h
   · cases h
   · split at h
     · cases h
     · cases h; exact ⟨_, List.map_append⟩
 · split at h
   · split at h
     · cases h
     · cases h; exact ⟨[], (List.append_nil _).symm⟩
   · split at h
     · cases h
     · split at h
       · exact ⟨[], by rw [jcV h, List.append_nil]⟩
       · split at h
         · cases h
         · rename_i b hb; split at h
           · cases h; exact same hb rfl
           · split at h
             · cases h
             · split at h
               · cases h
               · split at h
                 · split at h
                   · cases h
                   · exact ⟨[], by rw [jcV h, List.append_nil]⟩
                 · cases h; exact same hb rfl
theorem jfl (bs : List Bx) {nm : List UInt8} (h : zQ nm = 0) : zQ (boxFor bs nm) = 0 := by
 unfold boxFor; split
 · exact h
 · exact jgn
def vQ (s : Stt) : Prop := inbL ∈ s.boxes.map Bx.name
theorem jix {s : Stt} (h : vQ s) (nm : List UInt8) : ∃ i b, s.boxes.findIdx? (isName (boxFor s.boxes nm)) = some i ∧ s.boxes[i]? = some b := by
 have key : ∀ n, n ∈ s.boxes.map Bx.name → ∃ i b, s.boxes.findIdx? (isName n) = some i ∧ s.boxes[i]? = some b := by
  intro n hn; cases hf : s.boxes.findIdx? (isName n) with
  | none =>
    obtain ⟨b, hb, e⟩ := List.mem_map.1 hn; have := vN hf b hb
    simp [isName, e] at this
  | some i => obtain ⟨b, hb, _⟩ := qJ hf; exact ⟨i, b, rfl, hb⟩
 unfold boxFor; split
 · rename_i hi; unfold idxZ at hi; cases hf : s.boxes.findIdx? (isName nm) with
   | none => rw [hf] at hi; simp at hi
   | some i => obtain ⟨b, hb, _⟩ := qJ hf; exact ⟨i, b, rfl, hb⟩
 · exact key _ h
theorem OwnS.low {B B' : Nat} {w : World} {vb vs : Value} {vm : List Value} {s : Stt} (h : OwnS B' w vb vs vm s) (hB : B ≤ B') : OwnS B w vb vs vm s :=
 ⟨qa h.boxes hB, qa h.spool hB, h.len, fun i b v hb hv => qa (h.mails i b v hb hv) hB, h.bs, h.mb, h.ms, h.mm⟩
end Go.Proofs.YtgfbdgheencmaaaGreatDoor
