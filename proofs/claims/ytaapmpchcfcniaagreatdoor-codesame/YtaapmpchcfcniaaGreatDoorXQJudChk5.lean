/-
  What judge.Check does: the walk.
-/
import Derived.Test.YtaapmpchcfcniaaGreatDoorXJudTel
set_option maxHeartbeats 4000000
set_option maxRecDepth 100000
namespace Go.Proofs.YtaapmpchcfcniaaGreatDoor
open Go.RowKit Go.Proofs
def jbi (fl fd tl td tx : List UInt8) : List F × List UInt8 × Int :=
 if jV fl fd ≠ 0 then ([], [], jV fl fd) else if jV tl td ≠ 0 then ([], [], jV tl td) else ((zD tx).1, (zD tx).2.1, (zD tx).2.2.2)
def MsgN (w : World) (q : List F × List UInt8 × Int) (x : Ending) (w' : World) : Prop :=
 ∃ a c, x = .returned (.tuple #[.agg #[.slice a q.1.length c, .string (S q.2.1)], .int .i64 q.2.2]) ∧ FieldsAt w' a q.1 ∧ FreshA w.heap.size a ∧ Below w.heap.size w w'
theorem MsgN.bad {w w' : World} {x : Int} {q : List F × List UInt8 × Int} (hq : q = ([], [], x)) (hb : Below w.heap.size w w') : MsgN w q (.returned (.tuple #[.agg #[.slice none 0 0, .string ⟨#[]⟩], .int .i64 x])) w' := by
 subst hq; exact ⟨none, 0, rfl, (by intro i x hx; simp at hx), FreshA.nil _, hb⟩
theorem jgy {w : World} {a : Option Addr} {fs : List F} (h : FieldsAt w a fs) {p n c : Nat} {x : Option Addr} {s : ByteArray} {t : TypeId} (hp : w.heap[p]? = some (.cells #[.slice x n c, .string s] t)) (u v : Value) : FieldsAt ((w.setCell ⟨p, 0, none⟩ u).setCell ⟨p, 1, none⟩ v) a fs := by
 intro i f hf; obtain ⟨b, off, ha, hlt, h1, h2⟩ := h i f hf; have hne : b ≠ p := by
  intro e; subst e; simp only [World.cell?, hp] at h1 h2
  match hk : off + i * 2, h1, h2 with
  | 0, h1, _ => simp at h1
  | 1, _, h2 => simp at h2
  | k + 2, h1, _ => simp at h1
 have hset : ∀ (w : World) (j k : Nat) (v : Value), (w.setCell ⟨p, j, none⟩ v).cell? ⟨b, k, none⟩ = w.cell? ⟨b, k, none⟩ := fun w j k v => World.cell?_setCell_other w _ _ _ (fun e => hne (by cases e; rfl))
 exact ⟨b, off, ha, by simpa [World.setCell] using hlt, by rw [hset, hset]; exact h1, by rw [hset, hset]; exact h2⟩
theorem box2 {w : World} {p : Nat} {u v : Value} {t : TypeId} (h : w.heap[p]? = some (.cells #[u, v] t)) : w.cell? ⟨p, 0, none⟩ = some u ∧ w.cell? ⟨p, 1, none⟩ = some v ∧ w.frozen? ⟨p, 0, none⟩ = false ∧ w.frozen? ⟨p, 1, none⟩ = false := by
 refine ⟨?_, ?_, ?_, ?_⟩ <;> simp [World.cell?, World.frozen?, h]
theorem jd4 {w : World} (o : Obj) {b : Nat} {x : Obj} (h : w.heap[b]? = some x) : (w.alloc o).heap[b]? = some x := by
 have hb : b < w.heap.size := (Array.getElem?_eq_some_iff.1 h).1
 show (w.heap.push o)[b]? = _
 rw [Array.getElem?_push_lt hb, ← h, Array.getElem?_eq_getElem hb]
theorem jdk {w w' : World} {B b : Nat} {x : Obj} (h : Below B w w') (hb : w.heap[b]? = some x) (hr : b < B) : w'.heap[b]? = some x := (h.block b hr).trans hb
theorem jcN (fl fd tl td tx : ByteArray) (w : World) (h1 : fl.size ≤ 140737488355328) (h2 : fd.size ≤ 140737488355328) (h3 : tl.size ≤ 140737488355328) (h4 : td.size ≤ 140737488355328) (h5 : tx.size ≤ maxLen) (hm : maxLenCell w) :
 Calls Tryz.prog 24 #[.agg #[.string fl, .string fd, .string tl, .string td, .string tx]] w (MsgN w (jbi fl.data.toList fd.data.toList tl.data.toList td.data.toList tx.data.toList)) := by
 have H1 := hid h1; have H2 := hid h2; have H3 := hid h3; have H4 := hid h4; have H5 := hid h5; have HM := hid hm; obtain ⟨q, hq⟩ : ∃ q, q = jbi fl.data.toList fd.data.toList tl.data.toList td.data.toList tx.data.toList := ⟨_, rfl⟩; rw [← hq]; unfold jbi at hq; have HQ := hid hq; clear h1 h2 h3 h4 h5 hm hq; obtain ⟨W0, hW0⟩ : ∃ W0, W0 = (w.alloc (.cells #[.string fl, .string fd, .string tl, .string td, .string tx] 31)).alloc (.cells #[.slice none 0 0, .string ⟨#[]⟩] 65) := ⟨_, rfl⟩; have HB0 := hid (show Below w.heap.size w W0 by rw [hW0]; exact (nb0 _ _).alloc (by simp) _); have hH : W0.heap[w.heap.size]? = some (.cells #[.string fl, .string fd, .string tl, .string td, .string tx] 31) := by rw [hW0]; exact jd4 _ (heap_alloc_new w _)
 have HR0 := hid (show W0.heap[w.heap.size + 1]? = some (.cells #[.slice none 0 0, .string ⟨#[]⟩] 65) by rw [hW0]; have := heap_alloc_new (w.alloc (.cells #[.string fl, .string fd, .string tl, .string td, .string tx] 31)) (.cells #[.slice none 0 0, .string ⟨#[]⟩] 65); simpa using this); have hs0 : W0.heap.size = w.heap.size + 2 := by rw [hW0]; simp
 have HWE := hid hW0; have g2 : W0.cell? ⟨w.heap.size, 2, none⟩ = some (.string tl) := by simp [World.cell?, hH]
 have g3 : W0.cell? ⟨w.heap.size, 3, none⟩ = some (.string td) := by simp [World.cell?, hH]
 have g4 : W0.cell? ⟨w.heap.size, 4, none⟩ = some (.string tx) := by simp [World.cell?, hH]
 clear hH hW0; go_enter Tryz.func24, Tryz.ntmps24; go_wp2_with fail; rw [← HWE.out]; refine (qe fl fd W0 H1.out H2.out).mono ?_; rintro e w1 ⟨rfl, hb1⟩; simp only; have HB1 := hid (HB0.out.trans (hb1.mono HB0.out.size)); have HR1 := hid (jdk hb1 HR0.out (by omega)); have hs1 := hb1.size; have k2 := jb g2 hb1; have k3 := jb g3 hb1; have k4 := jb g4 hb1; clear hb1 g2 g3 g4 HWE; obtain ⟨x, hx⟩ : ∃ x, x = jV fl.data.toList fd.data.toList := ⟨_, rfl⟩; rw [← hx]; rw [← hx] at HQ; clear hx
 by_cases hx : x = 0
 · rw [if_neg (by simpa using hx)] at HQ; subst hx; go_wp2_with fail; refine (qe tl td w1 H3.out H4.out).mono ?_; rintro e w2 ⟨rfl, hb2⟩; simp only; have HB2 := hid (HB1.out.trans (hb2.mono HB1.out.size)); have HR2 := hid (jdk hb2 HR1.out (by omega)); have hs2 := hb2.size; have d4 := jb k4 hb2; clear hb2 k2 k3 k4; obtain ⟨y, hy⟩ : ∃ y, y = jV tl.data.toList td.data.toList := ⟨_, rfl⟩; rw [← hy]; rw [← hy] at HQ; clear hy
   by_cases hy : y = 0
   · rw [if_neg (by simpa using hy)] at HQ; subst hy; go_wp2_with fail; refine (jiW tx w2 H5.out (maxLenCell_below HM.out HB2.out)).mono ?_; intro e w3 h3; obtain ⟨P, hP⟩ : ∃ P, P = zD tx.data.toList := ⟨_, rfl⟩; rw [← hP] at h3; rw [← hP] at HQ; clear hP; obtain ⟨fs, body, p, er⟩ := P; obtain ⟨a3, c3, he3, hF, hfr, hb3⟩ := h3; have HFr := hid (show FreshA w.heap.size a3 from fun b o q e => Nat.le_trans HB2.out.size (hfr b o q e)); clear hfr; have he3' : e = .returned (.tuple #[.agg #[.slice a3 fs.length c3, .string (S body)], .int .i64 p, .int .i64 er]) := he3; subst he3'; clear he3; simp only; have HB3 := hid (HB2.out.trans (hb3.mono HB2.out.size)); have HF := hid hF; have HR3 := hid (jdk hb3 HR2.out (by omega)); have HR4 := hid (jd4 (.cells #[.slice a3 fs.length c3, .string (S body)] 65) HR3.out); have HA4 := hid (show Below w3.heap.size w3 (w3.alloc (.cells #[.slice a3 fs.length c3, .string (S body)] 65)) from nb0 _ _); obtain ⟨r0, r1, f0, f1⟩ := box2 HR4.out; clear hb3 hF; have HE := hid (show MsgN w q (.returned (.tuple #[.agg #[.slice a3 fs.length c3, .string (S body)], .int .i64 er])) (((w3.alloc (.cells #[.slice a3 fs.length c3, .string (S body)] 65)).setCell ⟨w.heap.size + 1, 0, none⟩ (.slice a3 fs.length c3)).setCell ⟨w.heap.size + 1, 1, none⟩ (.string (S body))) by
       rw [HQ.out]; exact ⟨a3, c3, rfl, jgy (HF.out.below HA4.out) HR4.out _ _, HFr.out, ((HB3.out.trans (HA4.out.mono HB3.out.size)).setCell (by simp) _).setCell (by simp) _⟩)
     go_wp2; refine bodyPost_ret (v := .tuple #[.agg #[.slice a3 fs.length c3, .string (S body)], .int .i64 er]) (by simp [results, Tryz.results24, go_sem, *]) rfl ?_; exact HE.out
   · rw [if_pos (by simpa using hy)] at HQ; obtain ⟨r0, r1, f0, f1⟩ := box2 HR2.out; go_wp2; refine bodyPost_ret (v := .tuple #[.agg #[.slice none 0 0, .string ⟨#[]⟩], .int .i64 y]) (by simp [results, Tryz.results24, go_sem, *]) rfl ?_; exact MsgN.bad HQ.out ((HB2.out.setCell (by simp) _).setCell (by simp) _)
 · rw [if_pos (by simpa using hx)] at HQ; obtain ⟨r0, r1, f0, f1⟩ := box2 HR1.out; go_wp2; refine bodyPost_ret (v := .tuple #[.agg #[.slice none 0 0, .string ⟨#[]⟩], .int .i64 x]) (by simp [results, Tryz.results24, go_sem, *]) rfl ?_; exact MsgN.bad HQ.out ((HB1.out.setCell (by simp) _).setCell (by simp) _)
theorem qa {w : World} {a : Option Addr} {fs : List F} (h : FieldsAt w a fs) {p j : Nat} (v : Value) (hne : ∀ b o q, a = some ⟨b, o, q⟩ → b ≠ p) : FieldsAt (w.setCell ⟨p, j, none⟩ v) a fs := by
 intro i f hf; obtain ⟨b, off, ha, hlt, h1, h2⟩ := h i f hf; have hb := hne b off none ha; have hset : ∀ k, (w.setCell ⟨p, j, none⟩ v).cell? ⟨b, k, none⟩ = w.cell? ⟨b, k, none⟩ := fun k => World.cell?_setCell_other w _ _ _ (fun e => hb (by cases e; rfl))
 exact ⟨b, off, ha, by simpa [World.setCell] using hlt, by rw [hset]; exact h1, by rw [hset]; exact h2⟩
def vy (o : Opn) : Prop := jbi o.fl o.fd o.tl o.td o.tx = (o.fs, o.body, 0)
def OpnR (w : World) (o : Opn) (e : Ending) (w' : World) : Prop := ∃ fa fc, e = .returned (.tuple #[.agg #[.string (S o.fl), .string (S o.fd), .string (S o.tl), .string (S o.td), .string (S o.tx), .slice fa o.fs.length fc, .string (S o.body)], .int .i64 0]) ∧ FieldsAt w' fa o.fs ∧ Below w.heap.size w w'
theorem jaM {o : Opn} (h : vy o) : jc6 o ∧ o.tx.length ≤ 2000 ∧ o.fs.length ≤ 30 := by
 unfold vy jbi at h
 by_cases h1 : jV o.fl o.fd = 0
 · rw [if_neg (by simpa using h1)] at h
   by_cases h2 : jV o.tl o.td = 0
   · rw [if_neg (by simpa using h2)] at h; have hx : (zD o.tx).1 = o.fs ∧ (zD o.tx).2.2.2 = 0 := by
       constructor
       · exact congrArg Prod.fst h
       · exact congrArg (fun q => q.2.2) h
     have hl : o.tx.length ≤ 2000 := by
       rcases Nat.lt_or_ge 2000 o.tx.length with h' | h'
       · have := hx.2; unfold zD at this; rw [if_pos h'] at this; cases this
       · exact h'
     have hp : zD o.tx = zg 0 [] o.tx := by unfold zD; rw [if_neg (by omega)]
     have hs := (jg5 2000 o.tx.length o.tx (Nat.le_refl _) 0 [] hl (by simp)).1; have hi := ((jiV o.tx.length o.tx (Nat.le_refl _) 0 [] (by simp) (by simp)).1 (by rw [← hp]; exact hx.2)).2.1; rw [← hp, hx.1] at hs hi; have m1 := jaK h1; have m2 := jaK h2; exact ⟨⟨⟨by omega, by omega, by omega, by omega⟩, by unfold maxLen; omega, fun f hf => by have := (hs f hf).2; unfold maxLen; omega⟩, hl, hi⟩
   · rw [if_pos h2] at h; have : jV o.tl o.td = 0 := congrArg (fun q => q.2.2) h; exact absurd this h2
 · rw [if_pos h1] at h; have : jV o.fl o.fd = 0 := congrArg (fun q => q.2.2) h; exact absurd this h1
theorem jiR (o : Opn) (w : World) (hj : vy o) (hm : maxLenCell w) :
 Calls Tryz.prog 26 #[.agg #[.string (S o.fl), .string (S o.fd), .string (S o.tl), .string (S o.td), .string (S o.tx)]] w (OpnR w o) := by
 have hok := jaM hj; obtain ⟨W0, hW0⟩ : ∃ W0, W0 = (w.alloc (.cells #[.string (S o.fl), .string (S o.fd), .string (S o.tl), .string (S o.td), .string (S o.tx)] 31)).alloc (.cells #[.string ⟨#[]⟩, .string ⟨#[]⟩, .string ⟨#[]⟩, .string ⟨#[]⟩, .string ⟨#[]⟩, .slice none 0 0, .string ⟨#[]⟩] 82) := ⟨_, rfl⟩; have HWE := hid hW0; have HB0 := hid (show Below w.heap.size w W0 by rw [hW0]; exact (nb0 _ _).alloc (by simp) _); have hs0 : W0.heap.size = w.heap.size + 2 := by rw [hW0]; simp
 have HL := hid (show W0.heap[w.heap.size]? = some (.cells #[.string (S o.fl), .string (S o.fd), .string (S o.tl), .string (S o.td), .string (S o.tx)] 31) by rw [hW0]; exact qE _ (j9 _ rfl)); have HR := hid (show W0.heap[w.heap.size + 1]? = some (.cells #[.string ⟨#[]⟩, .string ⟨#[]⟩, .string ⟨#[]⟩, .string ⟨#[]⟩, .string ⟨#[]⟩, .slice none 0 0, .string ⟨#[]⟩] 82) by rw [hW0]; exact j9 _ (by simp)); have HC := hid (show Calls Tryz.prog 24 #[.agg #[.string (S o.fl), .string (S o.fd), .string (S o.tl), .string (S o.td), .string (S o.tx)]] W0 (MsgN W0 (o.fs, o.body, 0)) by
  obtain ⟨⟨⟨s1, s2, s3, s4⟩, _⟩, s5, _⟩ := hok; have := jcN (S o.fl) (S o.fd) (S o.tl) (S o.td) (S o.tx) W0 (by rw [jy]; omega) (by rw [jy]; omega) (by rw [jy]; omega) (by rw [jy]; omega) (by rw [jy]; unfold maxLen; omega) (maxLenCell_below hm HB0.out); rw [jv, jv, jv, jv, jv, show jbi o.fl o.fd o.tl o.td o.tx = (o.fs, o.body, 0) from hj] at this; exact this)
 clear hm hj hW0 hok; go_enter Tryz.func26, Tryz.ntmps26; go_wp2_with fail; rw [← HWE.out]; refine HC.out.mono ?_; rintro e w1 ⟨fa, fc, he, hF, hfr, hb1⟩; rw [show e = .returned (.tuple #[.agg #[.slice fa o.fs.length fc, .string (S o.body)], .int .i64 0]) from he]; simp only; have hal : Below w1.heap.size w1 (w1.alloc (.cells #[.slice fa o.fs.length fc, .string (S o.body)] 65)) := nb0 _ _; have HB1 := hid (HB0.out.trans ((hb1.trans (hal.mono hb1.size)).mono HB0.out.size)); have HF1 := hid (hF.below hal); have hL1 := jD hal (jD hb1 HL.out); have hR1 := jD hal (jD hb1 HR.out); have HNE := hid (show ∀ b o q, fa = some ⟨b, o, q⟩ → b ≠ w.heap.size + 1 from fun b o q e => by have := hfr b o q e; omega); have l0 := jc (j := 0) hL1 rfl; have l1 := jc (j := 1) hL1 rfl; have l2 := jc (j := 2) hL1 rfl; have l3 := jc (j := 3) hL1 rfl; have l4 := jc (j := 4) hL1 rfl; have r0 := jc (j := 0) hR1 rfl; have r1 := jc (j := 1) hR1 rfl; have r2 := jc (j := 2) hR1 rfl; have r3 := jc (j := 3) hR1 rfl; have r4 := jc (j := 4) hR1 rfl; have r5 := jc (j := 5) hR1 rfl; have r6 := jc (j := 6) hR1 rfl; have fr : ∀ j, (w1.alloc (.cells #[.slice fa o.fs.length fc, .string (S o.body)] 65)).frozen? ⟨w.heap.size + 1, j, none⟩ = false := fun j => by simp only [World.frozen?, hR1]; simp
 have f0 := fr 0; have f1 := fr 1; have f2 := fr 2; have f3 := fr 3; have f4 := fr 4; have f5 := fr 5; have f6 := fr 6; clear he hb1 hal hF hfr hL1 hR1 HWE HL HR HC HB0 fr; go_wp2; refine bodyPost_ret (v := .tuple #[.agg #[.string (S o.fl), .string (S o.fd), .string (S o.tl), .string (S o.td), .string (S o.tx), .slice fa o.fs.length fc, .string (S o.body)], .int .i64 0]) (by simp [results, Tryz.results26, go_sem, *]) rfl ?_; refine ⟨fa, fc, rfl, ?_, ?_⟩
 · exact qa (qa (qa (qa (qa (qa (qa HF1.out _ HNE.out) _ HNE.out) _ HNE.out) _ HNE.out) _ HNE.out) _ HNE.out) _ HNE.out
 · exact ((((((HB1.out.setCell (by simp) _).setCell (by simp) _).setCell (by simp) _).setCell (by simp) _).setCell (by simp) _).setCell (by simp) _).setCell (by simp) _
def zB (f : List Cmd → Crs × Bool → Crs × Bool) (tl : Tst → Bool) (s : Crs × Bool) (x : Cmd) : Crs × Bool :=
 if s.2 = true then s else if x.kind ≠ 2 then doP s.1 x else if tl x.test = true then f x.thn s else f x.els s
def jR (o : Opn) : Nat → List Cmd → Crs × Bool → Crs × Bool
 | 0, _, s => s
 | n + 1, l, s => l.foldl (zB (jR o n) (jo o n)) s
theorem jdU {f : List Cmd → Crs × Bool → Crs × Bool} {tl : Tst → Bool} : ∀ (l : List Cmd) (s : Crs × Bool), s.2 = true → l.foldl (zB f tl) s = s := by
 intro l
 induction l with
 | nil => intro s _; rfl
 | cons x l ih =>
   intro s h; have e : zB f tl s x = s := by unfold zB; rw [if_pos h]
   rw [List.foldl_cons, e]; exact ih s h
theorem jh8 {f : List Cmd → Crs × Bool → Crs × Bool} {tl : Tst → Bool} (hf : ∀ l s, ja2 s.1 → ja2 (f l s).1) : ∀ (l : List Cmd) (s : Crs × Bool), ja2 s.1 → ja2 (l.foldl (zB f tl) s).1 := by
 intro l
 induction l with
 | nil => intro s h; exact h
 | cons x l ih =>
   intro s h; rw [List.foldl_cons]; refine ih _ ?_; unfold zB; split
   · exact h
   · split
     · exact jlX h x
     · split
       · exact hf _ _ h
       · exact hf _ _ h
theorem jdV (o : Opn) : ∀ (n : Nat) (l : List Cmd) (s : Crs × Bool), ja2 s.1 → ja2 (jR o n l s).1 := by
 intro n
 induction n with
 | zero => intro l s h; exact h
 | succ n ih => intro l s h; exact jh8 ih l s h
def jdX : Nat → Cmd → Prop
 | 0, _ => True
 | n + 1, c => (c.kind ≠ 2 → jhu c) ∧ (c.kind = 2 → jgG n c.test ∧ (∀ x ∈ c.thn, jdX n x) ∧ ∀ x ∈ c.els, jdX n x)
theorem jh9 {f : List Cmd → Crs × Bool → Crs × Bool} {tl : Tst → Bool} {l : List Cmd} {i : Nat} {x : Cmd} (h : l[i]? = some x) (s : Crs × Bool) : (l.take (i + 1)).foldl (zB f tl) s = zB f tl ((l.take i).foldl (zB f tl) s) x := by
 rw [qk h, List.foldl_append]; rfl
theorem jkm {f : List Cmd → Crs × Bool → Crs × Bool} {tl : Tst → Bool} {l : List Cmd} {i : Nat} {s : Crs × Bool} (h : ((l.take i).foldl (zB f tl) s).2 = true) : l.foldl (zB f tl) s = (l.take i).foldl (zB f tl) s := by
 conv => lhs; rw [← List.take_append_drop i l, List.foldl_append]
 exact jdU _ _ h
theorem jj3 {w : World} {B b : Nat} {c : Crs} {ov : Bool} (h : CrsB w B b c ov) : w.cell? ⟨b, 4, none⟩ = some (.bool ov) := by
 obtain ⟨a, k, h1, _⟩ := h; exact (box5 h1).1.2.2.2.2
theorem CrsB.grow {w w' : World} {B b : Nat} {c : Crs} {o : Bool} (h : CrsB w B b c o) (hb : Below w.heap.size w w') : CrsB w' B b c o := CrsB.next h hb
def jlK (o : Opn) (fa : Option Addr) (fc n : Nat) : Prop := ∀ (l : List Cmd) (a : Option Addr) (k : Nat) (W0 : World) (B b : Nat) (s : Crs × Bool) (w : World), W0.heap.size ≤ B → Below B W0 w → Tabs W0 → maxLenCell W0 → FieldsAt W0 fa o.fs → CmdsM anyB n W0 (.slice a l.length k) l → (∀ x ∈ l, jdX n x) → CrsB w B b s.1 s.2 → ja2 s.1 →
    Calls Tryz.prog 27 #[.pointer (some ⟨b, 0, none⟩), .slice a l.length k, .agg #[.string (S o.fl), .string (S o.fd), .string (S o.tl), .string (S o.td), .string (S o.tx), .slice fa o.fs.length fc, .string (S o.body)]] w (StepR w B b (jR o n l s))
theorem StepR.mk' {w w' : World} {B b : Nat} {r : Crs × Bool} (h : CrsB w' B b r.1 r.2) (hb : Below B w w') (hf : Frm b w w') (v : Value) : StepR w B b r (.returned v) w' := ⟨⟨v, rfl⟩, h, hb, hf⟩
theorem jlW {w : World} {B b : Nat} {c : Crs} {ov : Bool} (h : CrsB w B b c ov) : ∀ g, rowB w b = some g → g < w.heap.size := by
 obtain ⟨a, k, h1, ⟨css, h2, _⟩, _⟩ := h; intro g e; rw [jaT h1] at e; exact (World.ownsRow.lt h2 g e).2
theorem Frm.box {b p : Nat} {w w' : World} {x : Obj} (h : Frm b w w') (hp : w.heap[p]? = some x) (hn : p ≠ b) (hr : some p ≠ rowB w b) : w'.heap[p]? = some x ∧ some p ≠ rowB w' b := by
 have hlt := (Array.getElem?_eq_some_iff.1 hp).1; refine ⟨(h.keep p hlt hn hr).trans hp, ?_⟩
 rcases h.row with e | ⟨g, e, hg⟩
 · rw [e]; exact hr
 · rw [e]; intro e2; have := Option.some.inj e2; omega
theorem jgC (o : Opn) (fa : Option Addr) (fc : Nat) (ho : jc6 o) : ∀ n, jlK o fa fc n := by
 intro n
 induction n with
 | zero =>
   intro l a k W0 B b s w hB hbw hw hm hF hC hg hc hs; have hl : l = [] := by
    cases l with
    | nil => rfl
    | cons x r =>
      obtain ⟨_, _, _, _, hr⟩ := hC; obtain ⟨_, _, _, _, _, _, _, _, hP⟩ := hr 0 x rfl; exact hP.elim
   subst hl; have HE := hid (show StepR w B b (jR o 0 [] s) (.returned (.tuple #[])) (w.alloc (.cells #[.string (S o.fl), .string (S o.fd), .string (S o.tl), .string (S o.td), .string (S o.tx), .slice fa o.fs.length fc, .string (S o.body)] 82)) from StepR.mk' (CrsB.grow hc (nb0 _ _)) ((Below.refl _ _).alloc (by have := hc.lt; omega) _) (Frm.below hc.lt.1 (nb0 _ _)) _); clear hbw hw hm hF hC hg hc hs hB; go_enter Tryz.func27, Tryz.ntmps27; go_wp2
   go_loopw [10] (fun v wr => v = .int .i64 0 ∧ w.alloc (.cells #[.string (S o.fl), .string (S o.fd), .string (S o.tl), .string (S o.td), .string (S o.tx), .slice fa o.fs.length fc, .string (S o.body)] 82) = wr) (fun _ _ => 0)
   case atStart => exact ⟨rfl, rfl⟩
   case round =>
    obtain ⟨rfl, rfl⟩ := hrel; go_wp2; go_end0; exact HE.out
 | succ n ih =>
   intro l a k W0 B b s w hB hbw hw hm hF hC hg hc hs; have hlm := hC.small; unfold maxLen at hlm; have HBW := hid hbw; have HTab := hid hw; have HML := hid hm; have HFl := hid hF; have HCm := hid hC; have HGd := hid hg; have HSk := hid hs; have HIH := hid ih; have hbl := hc.lt; obtain ⟨st, hst⟩ : ∃ st : Nat → Crs × Bool, st = fun i => (l.take i).foldl (zB (jR o n) (jo o n)) s := ⟨_, rfl⟩
   have HST := hid hst; have HFIN := hid (show ∀ i, (st i).2 = true → jR o (n + 1) l s = st i from fun i h => by rw [hst] at h ⊢; exact jkm h); have HEND := hid (show jR o (n + 1) l s = st l.length by rw [hst]; simp only [List.take_length]; rfl); have HOK := hid (show ∀ i, ja2 (st i).1 from fun i => by rw [hst]; exact jh8 (jdV o n) _ _ hs); have HSTEP := hid (show ∀ i x, l[i]? = some x → st (i + 1) = zB (jR o n) (jo o n) (st i) x from fun i x hx => by rw [hst]; exact jh9 hx s); obtain ⟨W1, hW1⟩ : ∃ W1, W1 = w.alloc (.cells #[.string (S o.fl), .string (S o.fd), .string (S o.tl), .string (S o.td), .string (S o.tx), .slice fa o.fs.length fc, .string (S o.body)] 82) := ⟨_, rfl⟩; have HWE := hid hW1; have HA1 := hid (show Below w.heap.size w W1 by rw [hW1]; exact nb0 _ _); have HOB := hid (show W1.heap[w.heap.size]? = some (.cells #[.string (S o.fl), .string (S o.fd), .string (S o.tl), .string (S o.td), .string (S o.tx), .slice fa o.fs.length fc, .string (S o.body)] 82) by rw [hW1]; exact j9 _ rfl); have HC0 := hid (show CrsB W1 B b (st 0).1 (st 0).2 by rw [hst]; exact CrsB.grow hc HA1.out); obtain ⟨OB, hOB⟩ : ∃ OB, OB = w.heap.size := ⟨_, rfl⟩; rw [← hOB] at HOB; have HOE := hid hOB; have hOBB : B ≤ OB := by rw [hOB]; omega
   have HRW := hid (show some OB ≠ rowB W1 b from fun e => by
    have := jlW hc OB (by rw [e]; unfold rowB; rw [HA1.out.cell (p := ⟨b, 0, none⟩) hbl.1]); omega)
   have hOBb : OB ≠ b := by rw [hOB]; omega
   have HF1 := hid (Frm.below hbl.1 HA1.out); have HLB := hid hbl; clear hbw hw hm hF hC hg hc hs ih hst hW1 hOB hbl; go_enter Tryz.func27, Tryz.ntmps27; go_wp2; rw [← HWE.out, ← HOE.out]; clear HWE
   go_loopw [10] (fun v wr => ∃ i : Nat, i ≤ l.length ∧ v = .int .i64 i ∧ Hid (CrsB wr B b (st i).1 (st i).2) ∧ Hid (Below B w wr) ∧ Hid (Frm b w wr) ∧ Hid (wr.heap[OB]? = some (.cells #[.string (S o.fl), .string (S o.fd), .string (S o.tl), .string (S o.td), .string (S o.tx), .slice fa o.fs.length fc, .string (S o.body)] 82) ∧ some OB ≠ rowB wr b)) (fun v _ => l.length - (intOf v).toNat)
   case atStart => exact ⟨0, Nat.zero_le _, rfl, HC0, (Below.refl _ _).trans (HA1.out.mono (by have := HLB.out; omega)), HF1, ⟨HOB.out, HRW.out⟩⟩
   case round =>
    obtain ⟨i, hi, rfl, HCi, HBi, HFi, HOi⟩ := hrel
    by_cases hlt : i < l.length
    · obtain ⟨x, hx⟩ : ∃ x, l[i]? = some x := ⟨_, List.getElem?_eq_getElem hlt⟩; have i1 : (i : Int) < (l.length : Int) := by omega
      have i0 : (0 : Int) ≤ (i : Int) := by omega
      have HX := hid hx; have HGx := hid (HGd.out x (List.mem_of_getElem? hx)); have hB0 : Below W0.heap.size W0 wr := (HBW.out.trans HBi.out).mono hB; obtain ⟨bb, oo, ax, cx, an, cn, ak, ck, at', ct, aa, ca, ae, ce, rfl, hbb, b0, b1, b2, b3, b4, b5, b6, b7, b8, b9, b10, b11, hCM⟩ := vN HCm.out hx; have c0 := jb b0 hB0; have c1 := jb b1 hB0; have c2 := jb b2 hB0; have c3 := jb b3 hB0; have c4 := jb b4 hB0; have c5 := jb b5 hB0; have c6 := jb b6 hB0; have c7 := jb b7 hB0; have c8 := jb b8 hB0; have c9 := jb b9 hB0; have c10 := jb b10 hB0; have c11 := jb b11 hB0; clear b0 b1 b2 b3 b4 b5 b6 b7 b8 b9 b10 b11; have HCM := hid hCM; obtain ⟨W2, hW2⟩ : ∃ W2, W2 = wr.alloc (.cells #[.int .i64 x.kind, .slice ax x.texts.length cx, .int .i64 x.test.kind, .int .i64 x.test.mat, .int .i64 x.test.part, .slice an x.test.names.length cn, .slice ak x.test.keys.length ck, .bool x.test.over, .int .i64 x.test.limit, .slice at' x.test.tests.length ct, .slice aa x.thn.length ca, .slice ae x.els.length ce] 58) := ⟨_, rfl⟩; have HWE2 := hid hW2; have HA2 := hid (show Below wr.heap.size wr W2 by rw [hW2]; exact nb0 _ _); have hX2 : W2.heap[wr.heap.size]? = some (.cells #[.int .i64 x.kind, .slice ax x.texts.length cx, .int .i64 x.test.kind, .int .i64 x.test.mat, .int .i64 x.test.part, .slice an x.test.names.length cn, .slice ak x.test.keys.length ck, .bool x.test.over, .int .i64 x.test.limit, .slice at' x.test.tests.length ct, .slice aa x.thn.length ca, .slice ae x.els.length ce] 58) := by rw [hW2]; exact j9 _ rfl
      have HB2 := hid (show Below B w W2 from HBi.out.trans (HA2.out.mono (by have := HBi.out.size; have := HLB.out; omega))); have HC2 := hid (CrsB.grow HCi.out HA2.out); have HFA := hid (Frm.below (HCi.out).lt.1 HA2.out); have HO2 := hid (Frm.box HFA.out HOi.out.1 hOBb HOi.out.2); have HF2 := hid (HFi.out.trans HFA.out); have hov := jj3 HC2.out; have HB02 := hid (show Below W0.heap.size W0 W2 from (HBW.out.trans HB2.out).mono hB); have hovE := hov; rw [hW2] at hovE; have hX2E := hX2; rw [hW2] at hX2E; have d0 := jc (j := 0) hX2E rfl; have d1 := jc (j := 1) hX2E rfl; have d2 := jc (j := 2) hX2E rfl; have d3 := jc (j := 3) hX2E rfl; have d4 := jc (j := 4) hX2E rfl; have d5 := jc (j := 5) hX2E rfl; have d6 := jc (j := 6) hX2E rfl; have d7 := jc (j := 7) hX2E rfl; have d8 := jc (j := 8) hX2E rfl; have d9 := jc (j := 9) hX2E rfl; have d10 := jc (j := 10) hX2E rfl; have d11 := jc (j := 11) hX2E rfl; have HXB := hid hX2; clear hx hCM hX2 hX2E hov hB0 hW2; cases hq : (st i).2 with
      | true =>
        rw [hq] at hovE; have HE := hid (show StepR w B b (jR o (n + 1) l s) (.returned (.tuple #[])) W2 by rw [HFIN.out i hq]; exact StepR.mk' (by rw [hq]; rw [hq] at HC2; exact HC2.out) HB2.out HF2.out _); clear hq; go_wp2; rw [← HWE2.out]; go_end0; exact HE.out
      | false =>
        rw [hq] at hovE HC2
        by_cases hk : x.kind = 2
        · have hkb : (x.kind == 2) = true := by simpa using hk
          have HK := hid hk; have HG2 := hid (HGx.out.2 hk); have HBR := hid (show CmdsM anyB n W0 (.slice aa x.thn.length ca) x.thn ∧ CmdsM anyB n W0 (.slice ae x.els.length ce) x.els by
             obtain ⟨_, _, _, _, _, _, e, _, _, h3, h4⟩ := HCM.out; simp only [List.cons.injEq, and_true, true_and] at e; obtain ⟨_, _, _, _, e4, e5⟩ := e; subst e4; subst e5; exact ⟨h3, h4⟩)
          have HTM := hid (show TstM anyB n W2 x.test [.int .i64 x.test.kind, .int .i64 x.test.mat, .int .i64 x.test.part, .slice an x.test.names.length cn, .slice ak x.test.keys.length ck, .bool x.test.over, .int .i64 x.test.limit, .slice at' x.test.tests.length ct] by
             obtain ⟨_, _, _, _, _, _, e, _, h2, _⟩ := HCM.out; simp only [List.cons.injEq, and_true, true_and] at e; obtain ⟨_, e1, e2, e3, _⟩ := e; subst e1; subst e2; subst e3; exact TstM.next h2 HB02.out)
          have HTL := hid (jez o fa fc ho n x.test an ak at' cn ck ct W2 (HFl.out.below HB02.out) (maxLenCell_below HML.out HB02.out) HG2.out.1 HTM.out); have hO2 := HO2.out.1; have hO2E := hO2; rw [HWE2.out] at hO2E; have z0 := jc (j := 0) hO2E rfl; have z1 := jc (j := 1) hO2E rfl; have z2 := jc (j := 2) hO2E rfl; have z3 := jc (j := 3) hO2E rfl; have z4 := jc (j := 4) hO2E rfl; have z5 := jc (j := 5) hO2E rfl; have z6 := jc (j := 6) hO2E rfl; obtain ⟨v, hv⟩ : ∃ v, v = jo o n x.test := ⟨_, rfl⟩; rw [← hv] at HTL; have HV := hid hv; have HSI := hid (HSTEP.out i x HX.out); have HQ := hid hq; clear hO2 hO2E hv hk hq; go_wp2_with fail; rw [← HWE2.out]; refine HTL.out.mono ?_; rintro e w3 ⟨rfl, hb3⟩; simp only; have HB3 := hid (show Below B w w3 from HB2.out.trans (hb3.mono (by have := HB2.out.size; have := HLB.out; omega))); have HC3 := hid (CrsB.grow HC2.out hb3); have HFB := hid (Frm.below HC2.out.lt.1 hb3); have HO3 := hid (Frm.box HFB.out HO2.out.1 hOBb HO2.out.2); have HF3 := hid (HF2.out.trans HFB.out); have hX3 := jD hb3 HXB.out; have hO3 := HO3.out.1; have f0 := jc (j := 0) hX3 rfl; have f1 := jc (j := 1) hX3 rfl; have f2 := jc (j := 2) hX3 rfl; have f3 := jc (j := 3) hX3 rfl; have f4 := jc (j := 4) hX3 rfl; have f5 := jc (j := 5) hX3 rfl; have f6 := jc (j := 6) hX3 rfl; have f7 := jc (j := 7) hX3 rfl; have f8 := jc (j := 8) hX3 rfl; have f9 := jc (j := 9) hX3 rfl; have f10 := jc (j := 10) hX3 rfl; have f11 := jc (j := 11) hX3 rfl; have y0 := jc (j := 0) hO3 rfl; have y1 := jc (j := 1) hO3 rfl; have y2 := jc (j := 2) hO3 rfl; have y3 := jc (j := 3) hO3 rfl; have y4 := jc (j := 4) hO3 rfl; have y5 := jc (j := 5) hO3 rfl; have y6 := jc (j := 6) hO3 rfl; have HB03 := hid (show Below B W0 w3 from HBW.out.trans HB3.out); have HCR := hid (show ∀ (q : Bool), CrsB w3 B b (st i).1 false → CrsB w3 B b (st i).1 q ∨ q = true from fun q h => by cases q; exact .inl h; exact .inr rfl); clear hb3 hX3 hO3 d0 d1 d2 d3 d4 d5 d6 d7 d8 d9 d10 d11 z0 z1 z2 z3 z4 z5 z6 hovE HCR; have HSB := hid (show (st i).2 = false from HQ.out); cases v with
          | true =>
            have HSN := hid (show st (i + 1) = jR o n x.thn (st i) by
              rw [HSI.out]; unfold zB; rw [if_neg (by rw [HSB.out]; simp), if_neg (by simpa using HK.out), if_pos HV.out.symm])
            have HFO := hid (HIH.out x.thn aa ca W0 B b (st i) w3 hB HB03.out HTab.out HML.out HFl.out HBR.out.1 HG2.out.2.1 (by rw [HSB.out]; exact HC3.out) (HOK.out i)); rw [← HSN.out] at HFO; go_wp2_with fail; refine HFO.out.mono ?_; rintro e w4 ⟨⟨rv, rfl⟩, hc4, hb4, hf4⟩; simp only; have HC4 := hid hc4; have HB4 := hid (HB3.out.trans hb4); have HF4 := hid (HF3.out.trans hf4); have HO4 := hid (Frm.box hf4 HO3.out.1 hOBb HO3.out.2); clear hc4 hb4 hf4; go_wp2
            go_roundw
            case rel => exact ⟨i + 1, by omega, by go_num, HC4, HB4, HF4, HO4⟩
            case measure => simp [intOf]; omega
          | false =>
            have HSN := hid (show st (i + 1) = jR o n x.els (st i) by
              rw [HSI.out]; unfold zB; rw [if_neg (by rw [HSB.out]; simp), if_neg (by simpa using HK.out), if_neg (by rw [← HV.out]; simp)])
            have HFO := hid (HIH.out x.els ae ce W0 B b (st i) w3 hB HB03.out HTab.out HML.out HFl.out HBR.out.2 HG2.out.2.2 (by rw [HSB.out]; exact HC3.out) (HOK.out i)); rw [← HSN.out] at HFO; go_wp2_with fail; refine HFO.out.mono ?_; rintro e w4 ⟨⟨rv, rfl⟩, hc4, hb4, hf4⟩; simp only; have HC4 := hid hc4; have HB4 := hid (HB3.out.trans hb4); have HF4 := hid (HF3.out.trans hf4); have HO4 := hid (Frm.box hf4 HO3.out.1 hOBb HO3.out.2); clear hc4 hb4 hf4; go_wp2
            go_roundw
            case rel => exact ⟨i + 1, by omega, by go_num, HC4, HB4, HF4, HO4⟩
            case measure => simp [intOf]; omega
        · have hkb : (x.kind == 2) = false := by simpa using hk
          have HSN := hid (show st (i + 1) = doP (st i).1 x by
             rw [HSTEP.out i x HX.out]; unfold zB; rw [if_neg (by rw [hq]; simp), if_pos hk])
          have HTX := hid (show TxtsM anyB W2 (.slice ax x.texts.length cx) x.texts by
             obtain ⟨_, _, _, _, _, _, e, h1, _⟩ := HCM.out; simp only [List.cons.injEq, and_true, true_and] at e; obtain ⟨e0, _⟩ := e; subst e0; exact TxtsM.next h1 HB02.out)
          have HDO := hid (jlt B b (st i).1 x ax an ak at' aa ae cx cn ck ct ca ce W2 HC2.out (HOK.out i).1 (HOK.out i).2.1 (HOK.out i).2.2 (HTab.out.next HB02.out).2.2.2.2 HTX.out (HGx.out.1 hk)); rw [← HSN.out] at HDO; clear hk hq; go_wp2_with fail; rw [← HWE2.out]; refine HDO.out.mono ?_; rintro e w4 ⟨⟨rv, rfl⟩, hc4, hb4, hf4⟩; simp only; have HC4 := hid hc4; have HB4 := hid (HB2.out.trans hb4); have HF4 := hid (HF2.out.trans hf4); have HO4 := hid (Frm.box hf4 HO2.out.1 hOBb HO2.out.2); clear hc4 hb4 hf4; go_wp2
          go_roundw
          case rel => exact ⟨i + 1, by omega, by go_num, HC4, HB4, HF4, HO4⟩
          case measure => simp [intOf]; omega
    · have HE := hid (show StepR w B b (jR o (n + 1) l s) (.returned (.tuple #[])) wr by
       have e : i = l.length := by omega
       rw [HEND.out, ← e]; exact StepR.mk' HCi.out HBi.out HFi.out _)
      go_wp2; go_end0; exact HE.out
def jd5 (o : Opn) (n : Nat) (l : List Cmd) : Crs := (jR o n l (newC, false)).1
def CrsR (w : World) (r : Crs) (e : Ending) (w' : World) : Prop := ∃ a k, e = .returned (.tuple #[.agg #[.slice a r.acts.length k, .int .i64 r.flags, .bool r.asked, .int .i64 r.fault], .int .i64 0]) ∧ AtnsM anyB w' (.slice a r.acts.length k) r.acts ∧ (a = none → r.acts = [] ∧ k = 0) ∧ Below w.heap.size w w'
theorem jjM (n : Nat) (l : List Cmd) (a : Option Addr) (k : Nat) (o : Opn) (w : World) (hw : Tabs w) (hm : maxLenCell w) (hj : vy o) (hk : l.length ≤ k) (hn : l = [] → a = none ∧ k = 0) (hs : ∀ x ∈ l, qJ (n + 1) x) (hC : CmdsM anyB (n + 1) w (.slice a l.length k) l) (hr : vu (n + 1) l = 0) (hg : ∀ x ∈ l, jdX (n + 1) x) :
 Calls Tryz.prog 9 #[.slice a l.length k, .agg #[.string (S o.fl), .string (S o.fd), .string (S o.tl), .string (S o.td), .string (S o.tx)]] w (CrsR w (jd5 o (n + 1) l)) := by
 have HW := hid hw; have HM := hid hm; have HJ := hid hj; have HCM := hid hC; have HG := hid hg; have HOK := hid (jaM hj).1; have hlm := hC.small; obtain ⟨W0, hW0⟩ : ∃ W0, W0 = (w.alloc (.cells #[.string (S o.fl), .string (S o.fd), .string (S o.tl), .string (S o.td), .string (S o.tx)] 31)).alloc (.cells #[.slice none 0 0, .int .i64 0, .bool false, .int .i64 0] 42) := ⟨_, rfl⟩; have HWE := hid hW0; have HB0 := hid (show Below w.heap.size w W0 by rw [hW0]; exact (nb0 _ _).alloc (by simp) _); have HL0 := hid (show W0.heap[w.heap.size]? = some (.cells #[.string (S o.fl), .string (S o.fd), .string (S o.tl), .string (S o.td), .string (S o.tx)] 31) by rw [hW0]; exact qE _ (j9 _ rfl)); have HR0 := hid (show W0.heap[w.heap.size + 1]? = some (.cells #[.slice none 0 0, .int .i64 0, .bool false, .int .i64 0] 42) by rw [hW0]; exact j9 _ (by simp)); have HCH := hid (show Calls Tryz.prog 21 #[.slice a l.length k] W0 fun e w' => e = .returned (.int .i64 0) ∧ Below W0.heap.size W0 w' by
  have := jcW n l a k W0 (hw.next HB0.out) hk hn hs (CmdsM.next hC HB0.out); rw [hr] at this; exact this)
 obtain ⟨r, hrr⟩ : ∃ r, r = jR o (n + 1) l (newC, false) := ⟨_, rfl⟩; have HRR := hid hrr; have HLEN := hid (show ja2 r.1 by rw [hrr]; exact jdV o (n + 1) l _ jiM); rw [show jd5 o (n + 1) l = r.1 by rw [hrr]; rfl]; clear hw hm hj hk hn hs hC hr hg hW0 hrr; go_enter Tryz.func9, Tryz.ntmps9; go_wp2_with fail; rw [← HWE.out]; refine HCH.out.mono ?_; rintro e w1 ⟨rfl, hb1⟩; simp only; have HB1 := hid (HB0.out.trans (hb1.mono HB0.out.size)); have hL1 := jD hb1 HL0.out; have HR1 := hid (jD hb1 HR0.out); have l0 := jc (j := 0) hL1 rfl; have l1 := jc (j := 1) hL1 rfl; have l2 := jc (j := 2) hL1 rfl; have l3 := jc (j := 3) hL1 rfl; have l4 := jc (j := 4) hL1 rfl; have HOP := hid (jiR o w1 HJ.out (maxLenCell_below HM.out HB1.out)); clear hb1 hL1 HWE HCH; go_wp2_with fail; refine HOP.out.mono ?_; rintro e w2 ⟨fa, fc, rfl, hF2, hb2⟩; simp only; obtain ⟨W3, hW3⟩ : ∃ W3, W3 = w2.alloc (.cells #[.string (S o.fl), .string (S o.fd), .string (S o.tl), .string (S o.td), .string (S o.tx), .slice fa o.fs.length fc, .string (S o.body)] 82) := ⟨_, rfl⟩; have HA3 := hid (show Below w2.heap.size w2 W3 by rw [hW3]; exact nb0 _ _); have HB3 := hid (show Below w.heap.size w W3 from HB1.out.trans ((hb2.trans (HA3.out.mono hb2.size)).mono HB1.out.size)); have HR3 := hid (jD HA3.out (jD hb2 HR1.out)); have hO3 : W3.heap[w2.heap.size]? = some (.cells #[.string (S o.fl), .string (S o.fd), .string (S o.tl), .string (S o.td), .string (S o.tx), .slice fa o.fs.length fc, .string (S o.body)] 82) := by rw [hW3]; exact j9 _ rfl
 obtain ⟨W4, hW4⟩ : ∃ W4, W4 = W3.alloc (.cells #[.slice none 0 0, .int .i64 0, .bool false, .int .i64 0, .bool false] 86) := ⟨_, rfl⟩; have HWE4 := hid (show W4 = (w2.alloc (.cells #[.string (S o.fl), .string (S o.fd), .string (S o.tl), .string (S o.td), .string (S o.tx), .slice fa o.fs.length fc, .string (S o.body)] 82)).alloc (.cells #[.slice none 0 0, .int .i64 0, .bool false, .int .i64 0, .bool false] 86) by rw [hW4, hW3]); have HA4 := hid (show Below W3.heap.size W3 W4 by rw [hW4]; exact nb0 _ _); have HC4 := hid (show CrsB W4 W3.heap.size W3.heap.size newC false from ⟨none, 0, by rw [hW4]; exact j9 _ rfl, ⟨[], World.ownsRow_nil _ _ _ _, rfl, (fun cs h => by cases h), fun i x cs h => by simp [newC] at h⟩, by simp [Value.ownBlock], Nat.le_refl _⟩); have HFO := hid (jgC o fa fc HOK.out (n + 1) l a k W3 W3.heap.size W3.heap.size (newC, false) W4 (Nat.le_refl _) HA4.out (HW.out.next HB3.out) (maxLenCell_below HM.out HB3.out) (hF2.below HA3.out) (CmdsM.next HCM.out HB3.out) HG.out HC4.out jiM); rw [← HRR.out] at HFO; have hO4 := jD HA4.out hO3; have hzz : W3.heap.size = w2.heap.size + 1 := by rw [hW3]; simp
 have HZ := hid hzz; rw [HWE4.out] at hO4; have z0 := jc (j := 0) hO4 rfl; have z1 := jc (j := 1) hO4 rfl; have z2 := jc (j := 2) hO4 rfl; have z3 := jc (j := 3) hO4 rfl; have z4 := jc (j := 4) hO4 rfl; have z5 := jc (j := 5) hO4 rfl; have z6 := jc (j := 6) hO4 rfl; clear hF2 hb2 hW3 hO3 hW4 hO4 hzz HOP l0 l1 l2 l3 l4; rw [show (Value.pointer (some ⟨W3.heap.size, 0, none⟩)) = .pointer (some ⟨w2.heap.size + 1, 0, none⟩) by rw [HZ.out]] at HFO; go_wp2_with fail; rw [← HWE4.out]; refine HFO.out.mono ?_; rintro e w5 ⟨⟨rv, rfl⟩, hc5, hb5, _⟩; simp only; obtain ⟨a5, k5, h5, hO5, hne5, hB5⟩ := hc5; have HO5 := hid hO5; have HL5 := hid (Array.getElem?_eq_some_iff.1 h5).1; have hrb : w.heap.size + 1 < W3.heap.size := (Array.getElem?_eq_some_iff.1 HR3.out).1; have hR5 : w5.heap[w.heap.size + 1]? = some (.cells #[.slice none 0 0, .int .i64 0, .bool false, .int .i64 0] 42) := ((HA4.out.trans hb5).block (w.heap.size + 1) hrb).trans HR3.out; have HB5 := hid (show Below w.heap.size w w5 from HB3.out.trans ((HA4.out.trans hb5).mono HB3.out.size)); rw [HZ.out] at h5; obtain ⟨⟨q0, q1, q2, q3, q4⟩, f0, f1, f2, f3, f4⟩ := box5 h5; have r0 := jc (j := 0) hR5 rfl; have r1 := jc (j := 1) hR5 rfl; have r2 := jc (j := 2) hR5 rfl; have r3 := jc (j := 3) hR5 rfl; have fr : ∀ j, w5.frozen? ⟨w.heap.size + 1, j, none⟩ = false := fun j => by simp only [World.frozen?, hR5]; simp
 have g0 := fr 0; have g1 := fr 1; have g2 := fr 2; have g3 := fr 3; have HE := hid (show CrsR w r.1 (.returned (.tuple #[.agg #[.slice a5 r.1.acts.length k5, .int .i64 r.1.flags, .bool r.1.asked, .int .i64 r.1.fault], .int .i64 0])) ((((w5.setCell ⟨w.heap.size + 1, 0, none⟩ (.slice a5 r.1.acts.length k5)).setCell ⟨w.heap.size + 1, 1, none⟩ (.int .i64 r.1.flags)).setCell ⟨w.heap.size + 1, 2, none⟩ (.bool r.1.asked)).setCell ⟨w.heap.size + 1, 3, none⟩ (.int .i64 r.1.fault)) from
  ⟨a5, k5, rfl, RowM.imp (OwnRow.rowM jaE ((((HO5.out.far hrb).far hrb).far hrb).far hrb) (by have h6 := HLEN.out.1; unfold maxLen; omega)) (fun _ _ => trivial) (Keeps.refl _ _) (fun _ _ h => h), jdu HO5.out, (((HB5.out.setCell (by simp) _).setCell (by simp) _).setCell (by simp) _).setCell (by simp) _⟩)
 clear hb5 hO5 hne5 hB5 hR5 h5 fr HFO HWE4 z0 z1 z2 z3 z4 z5 z6 hrb f0 f1 f2 f3 f4; go_wp2; refine bodyPost_ret (v := .tuple #[.agg #[.slice a5 r.1.acts.length k5, .int .i64 r.1.flags, .bool r.1.asked, .int .i64 r.1.fault], .int .i64 0]) (by simp [results, Tryz.results9, go_sem, *]) rfl ?_; exact HE.out
structure Rn where
 c : Crs
 pc : Nat
 done : Nat
 told : Bool
def j8 (o : Opn) (N : Nat) (s : Rn) (x : Opr) : Rn :=
 if x.kind = 1 then ⟨s.c, s.pc + 1, s.done + 1, jo o 1 x.test⟩
 else if x.kind = 2 then ⟨s.c, s.pc + 1, s.done + 1, !s.told⟩
 else if x.kind = 3 then ⟨s.c, if s.told = true then x.to.toNat else s.pc + 1, s.done + 1, s.told⟩
 else if x.kind = 4 then ⟨s.c, if s.told = true then s.pc + 1 else x.to.toNat, s.done + 1, s.told⟩
 else if x.kind = 5 then ⟨s.c, x.to.toNat, s.done + 1, s.told⟩
 else ⟨(doP s.c x.what).1, if (doP s.c x.what).2 = true then N else s.pc + 1, s.done + 1, s.told⟩
def zF (o : Opn) (ops : List Opr) (s : Rn) : Rn := match ops[s.pc]? with
 | none => s
 | some x => j8 o ops.length s x
def runN (o : Opn) (ops : List Opr) : Nat → Rn → Rn
 | 0, s => s
 | k + 1, s => runN o ops k (zF o ops s)
theorem jax (o : Opn) (ops : List Opr) : ∀ (j k : Nat) (s : Rn), runN o ops (j + k) s = runN o ops k (runN o ops j s) := by
 intro j
 induction j with
 | zero => intro k s; rw [Nat.zero_add]; rfl
 | succ j ih => intro k s; rw [show j + 1 + k = (j + k) + 1 by omega]; exact ih k (zF o ops s)
theorem jjc (o : Opn) (ops : List Opr) (s : Rn) (h : ops.length ≤ s.pc) : ∀ k, runN o ops k s = s := by
 intro k
 induction k with
 | zero => rfl
 | succ k ih =>
   show runN o ops k (zF o ops s) = s
   have : zF o ops s = s := by unfold zF; rw [List.getElem?_eq_none h]
   rw [this]; exact ih
theorem jkU (o : Opn) (ops : List Opr) (s : Rn) (j k : Nat) (h : ops.length ≤ (runN o ops j s).pc) (h' : ops.length ≤ (runN o ops k s).pc) : runN o ops j s = runN o ops k s := by
 rcases Nat.le_total j k with e | e
 · obtain ⟨d, rfl⟩ := Nat.le.dest e; rw [jax, jjc o ops _ h]
 · obtain ⟨d, rfl⟩ := Nat.le.dest e; rw [jax, jjc o ops _ h']
def Gets (o : Opn) (ops : List Opr) (s : Rn) (c : Crs) (pc : Nat) (told : Bool) : Prop := ∃ k d, runN o ops k s = ⟨c, pc, d, told⟩
def jnQ (o : Opn) (ops : List Opr) (s : Rn) (c : Crs) (pc : Nat) : Prop := ∃ told, Gets o ops s c pc told
theorem Gets.here (o : Opn) (ops : List Opr) (s : Rn) : Gets o ops s s.c s.pc s.told := ⟨0, s.done, rfl⟩
theorem Gets.trans {o : Opn} {ops : List Opr} {s : Rn} {c c' : Crs} {pc pc' : Nat} {b b' : Bool} (h : Gets o ops s c pc b) (k : ∀ d, Gets o ops ⟨c, pc, d, b⟩ c' pc' b') : Gets o ops s c' pc' b' := by
 obtain ⟨i, d, e⟩ := h; obtain ⟨j, d', e'⟩ := k d; exact ⟨i + j, d', by rw [jax, e, e']⟩
theorem Gets.step {o : Opn} {ops : List Opr} {s : Rn} {x : Opr} {c' : Crs} {pc' : Nat} {b' : Bool} (hx : ops[s.pc]? = some x) (k : Gets o ops (j8 o ops.length s x) c' pc' b') : Gets o ops s c' pc' b' := by
 obtain ⟨j, d', e'⟩ := k; refine ⟨j + 1, d', ?_⟩
 show runN o ops j (zF o ops s) = _
 have : zF o ops s = j8 o ops.length s x := by unfold zF; rw [hx]
 rw [this]; exact e'
def Has (ops : List Opr) (a : Nat) (l : List Opr) : Prop := ∀ (i : Nat) (x : Opr), l[i]? = some x → ops[a + i]? = some x
theorem Has.left {ops : List Opr} {a : Nat} {l m : List Opr} (h : Has ops a (l ++ m)) : Has ops a l := fun i x hx => h i x (by rw [List.getElem?_append_left (List.getElem?_eq_some_iff.1 hx).1]; exact hx)
theorem Has.right {ops : List Opr} {a : Nat} {l m : List Opr} (h : Has ops a (l ++ m)) : Has ops (a + l.length) m := fun i x hx => by
 rw [Nat.add_assoc]; exact h (l.length + i) x (by rw [List.getElem?_append_right (by omega)]; simpa using hx)
theorem Has.head {ops : List Opr} {a : Nat} {x : Opr} {m : List Opr} (h : Has ops a (x :: m)) : ops[a]? = some x := h 0 x rfl
theorem Has.tail {ops : List Opr} {a : Nat} {x : Opr} {m : List Opr} (h : Has ops a (x :: m)) : Has ops (a + 1) m := fun i y hy => by
 rw [show a + 1 + i = a + (i + 1) by omega]; exact h (i + 1) y hy
def jlN (o : Opn) (ops : List Opr) (f : Tst → Nat → List Opr) (tl : Tst → Bool) (t : Tst) : Prop := ∀ (s : Rn), Has ops s.pc (f t s.pc) → Gets o ops s s.c (s.pc + (f t s.pc).length) (tl t)
theorem ji6 {o : Opn} {ops : List Opr} {f : Tst → Nat → List Opr} {tl : Tst → Bool} {k : Int} (hk : k = 4 ∨ k = 3) (E : Nat) : ∀ (r : List Tst) (s : Rn), (∀ y ∈ r, jlN o ops f tl y) → E = s.pc + (ze f k E r s.pc).length → Has ops s.pc (ze f k E r s.pc) → Gets o ops s s.c E (if k = 4 then s.told && r.all tl else s.told || r.any tl) := by
 intro r
 induction r with
 | nil =>
   intro s _ hE _; have := Gets.here o ops s; rw [show E = s.pc from hE]
   rcases hk with rfl | rfl <;> simpa using this
 | cons y r ih =>
   intro s hr hE hH; have h1 := hH.head; have h2 := hH.tail; refine Gets.step h1 ?_; have go : ∀ (d : Nat) (b : Bool), Gets o ops ⟨s.c, s.pc + 1, d, b⟩ s.c E (if k = 4 then tl y && r.all tl else tl y || r.any tl) := fun d b => by
    refine (hr y (by simp) ⟨s.c, s.pc + 1, d, b⟩ h2.left).trans fun d' => ?_
    refine ih ⟨s.c, s.pc + 1 + (f y (s.pc + 1)).length, d', tl y⟩ (fun z hz => hr z (by simp [hz])) ?_ h2.right; simp only [ze, List.length_cons, List.length_append] at hE; simp only; omega
   rcases hk with rfl | rfl
   · cases hs : s.told with
     | true =>
       have := go (s.done + 1) true
       simpa [j8, qh, hs] using this
     | false => exact ⟨0, s.done + 1, by simp [j8, qh, jb4, hs, runN]⟩
   · cases hs : s.told with
     | true => exact ⟨0, s.done + 1, by simp [j8, qh, jb4, hs, runN]⟩
     | false =>
       have := go (s.done + 1) false
       simpa [j8, qh, hs] using this
theorem jeE {o : Opn} {ops : List Opr} {f : Tst → Nat → List Opr} {tl : Tst → Bool} {k : Int} (hk : k = 4 ∨ k = 3) (l : List Tst) (hl : l ≠ []) (s : Rn) (hr : ∀ y ∈ l, jlN o ops f tl y) (hH : Has ops s.pc (vG f k l s.pc)) : Gets o ops s s.c (s.pc + (vG f k l s.pc).length) (if k = 4 then l.all tl else l.any tl) := by
 cases l with
 | nil => exact absurd rfl hl
 | cons x r =>
   have e0 : vG f k (x :: r) s.pc = f x s.pc ++ ze f k (s.pc + (f x s.pc).length + (ze f k 0 r (s.pc + (f x s.pc).length)).length) r (s.pc + (f x s.pc).length) := rfl; rw [e0] at hH ⊢; refine (hr x (by simp) s hH.left).trans fun d => ?_
   have h3 := hH.right; have hl0 := jfV f k (s.pc + (f x s.pc).length + (ze f k 0 r (s.pc + (f x s.pc).length)).length) 0 r (s.pc + (f x s.pc).length); have := ji6 (o := o) (ops := ops) (f := f) (tl := tl) hk (s.pc + (f x s.pc).length + (ze f k 0 r (s.pc + (f x s.pc).length)).length) r ⟨s.c, s.pc + (f x s.pc).length, d, tl x⟩ (fun y hy => hr y (by simp [hy])) (by simp only; rw [hl0]) h3; rw [List.length_append, hl0, ← Nat.add_assoc]
   simpa using this
def okT : Nat → Tst → Prop
 | 0, _ => False
 | n + 1, t => (t.kind = 3 ∨ t.kind = 4 ∨ t.kind = 5 → t.tests ≠ []) ∧ ∀ x ∈ t.tests, okT n x
theorem jhl (o : Opn) (n : Nat) (t : Tst) (h3 : t.kind ≠ 3) (h4 : t.kind ≠ 4) (h5 : t.kind ≠ 5) : jo o (n + 1) t = jo o 1 (vJ t) := by
 unfold jo vJ; simp only [if_neg h3, if_neg h4, if_neg h5]; rfl
theorem jli (o : Opn) (ops : List Opr) : ∀ (n : Nat) (t : Tst), okT n t → jlN o ops (oTst n) (jo o n) t := by
 intro n
 induction n with
 | zero => intro t h; exact h.elim
 | succ n ih =>
   intro t h s hH; obtain ⟨h1, h2⟩ := h
   by_cases k3 : t.kind = 3
   · cases ht : t.tests with
     | nil => exact absurd ht (h1 (.inl k3))
     | cons x r =>
       have e1 : oTst (n + 1) t s.pc = oTst n x s.pc ++ [jcs] := by simp only [oTst]; rw [if_pos k3, ht]
       have e2 : jo o (n + 1) t = !jo o n x := by
        simp only [jo]; rw [if_neg (by omega), if_pos k3, ht]
       rw [e1] at hH ⊢; rw [e2]; refine (ih x (h2 x (by rw [ht]; simp)) s hH.left).trans fun d => ?_
       refine Gets.step hH.right.head ⟨0, d + 1, ?_⟩
       simp [j8, jcs, runN, Nat.add_assoc]
   · by_cases k4 : t.kind = 4
     · have e1 : oTst (n + 1) t s.pc = vG (oTst n) 4 t.tests s.pc := by simp only [oTst]; rw [if_neg k3, if_pos k4]
       have e2 : jo o (n + 1) t = t.tests.all (jo o n) := by
        simp only [jo]; rw [if_neg (by omega), if_neg k3, if_pos k4, List.all_eq_not_any_not]
       rw [e1] at hH ⊢; rw [e2]; exact jeE (.inl rfl) t.tests (h1 (.inr (.inl k4))) s (fun y hy => ih y (h2 y hy)) hH
     · by_cases k5 : t.kind = 5
       · have e1 : oTst (n + 1) t s.pc = vG (oTst n) 3 t.tests s.pc := by simp only [oTst]; rw [if_neg k3, if_neg k4, if_pos k5]
         have e2 : jo o (n + 1) t = t.tests.any (jo o n) := by
            simp only [jo]; rw [if_neg (by omega), if_neg k3, if_neg k4, if_pos k5]
         rw [e1] at hH ⊢; rw [e2]; exact jeE (.inr rfl) t.tests (h1 (.inr (.inr k5))) s (fun y hy => ih y (h2 y hy)) hH
       · have e1 : oTst (n + 1) t s.pc = [askO t] := by simp only [oTst]; rw [if_neg k3, if_neg k4, if_neg k5]
         rw [e1] at hH ⊢; rw [jhl o n t k3 k4 k5]; exact Gets.step hH.head ⟨0, s.done + 1, rfl⟩
def CEnds (o : Opn) (ops : List Opr) (s : Rn) (r : Crs × Bool) (pc : Nat) : Prop := jnQ o ops s r.1 (if r.2 = true then ops.length else pc)
def jlH (o : Opn) (ops : List Opr) (l : Nat → List Opr) (g : Crs × Bool → Crs × Bool) : Prop := ∀ (s : Rn), Has ops s.pc (l s.pc) → CEnds o ops s (g (s.c, false)) (s.pc + (l s.pc).length)
theorem jbQ {o : Opn} {ops : List Opr} {f : Cmd → Nat → List Opr} {fol : List Cmd → Crs × Bool → Crs × Bool} {tl : Tst → Bool} : ∀ l : List Cmd, (∀ c ∈ l, jlH o ops (f c) fun s => zB fol tl s c) → jlH o ops (zE f l) fun s => l.foldl (zB fol tl) s := by
 intro l
 induction l with
 | nil =>
   intro _ s _; exact ⟨s.told, 0, s.done, rfl⟩
 | cons c l ih =>
   intro h s hH; have e : zE f (c :: l) s.pc = f c s.pc ++ zE f l (s.pc + (f c s.pc).length) := rfl; rw [e] at hH ⊢; obtain ⟨b, hb⟩ := h c (by simp) s hH.left; simp only [List.foldl_cons]; cases hs : (zB fol tl (s.c, false) c).2 with
   | true =>
     rw [jdU l _ hs]; refine ⟨b, ?_⟩; rw [hs] at hb ⊢; exact hb
   | false =>
     rw [hs] at hb; have hb' : Gets o ops s (zB fol tl (s.c, false) c).1 (s.pc + (f c s.pc).length) b := hb; have e2 : zB fol tl (s.c, false) c = ((zB fol tl (s.c, false) c).1, false) := Prod.ext rfl hs; obtain ⟨i, d, ei⟩ := hb'; obtain ⟨b', j, d', ej⟩ := ih (fun y hy => h y (by simp [hy])) ⟨(zB fol tl (s.c, false) c).1, s.pc + (f c s.pc).length, d, b⟩ hH.right; refine ⟨b', i + j, d', ?_⟩; rw [jax, ei, ej]; simp only [List.length_append, Nat.add_assoc]; rw [← e2]
def okC : Nat → Cmd → Prop
 | 0, _ => False
 | n + 1, c => c.kind = 2 → okT n c.test ∧ (∀ x ∈ c.thn, okC n x) ∧ ∀ x ∈ c.els, okC n x
theorem jhQ (c : Crs) (x : Cmd) : doP c (vg x) = doP c x := by rfl
theorem CEnds.of {o : Opn} {ops : List Opr} {s : Rn} {c : Crs} {pc : Nat} {b : Bool} {r : Crs × Bool} {pc' pc'' : Nat} (h : Gets o ops s c pc b) (k : ∀ d, CEnds o ops ⟨c, pc, d, b⟩ r pc') (e : pc' = pc'') : CEnds o ops s r pc'' := by
 subst e; obtain ⟨i, d, ei⟩ := h; obtain ⟨b', j, d', ej⟩ := k d; exact ⟨b', i + j, d', by rw [jax, ei, ej]⟩
theorem CEnds.jump {o : Opn} {ops : List Opr} {s : Rn} {r : Crs × Bool} {pc to : Nat} {x : Opr} (h : CEnds o ops s r pc) (hx : ops[pc]? = some x) (hk : x.kind = 5) (ht : x.to.toNat = to) : CEnds o ops s r to := by
 obtain ⟨b, i, d, ei⟩ := h; cases hr : r.2 with
 | true => exact ⟨b, i, d, by rw [hr] at ei; rw [ei]; simp [hr]⟩
 | false =>
   rw [hr] at ei; have ei' : runN o ops i s = ⟨r.1, pc, d, b⟩ := ei; refine ⟨b, i + 1, d + 1, ?_⟩; rw [jax, ei']
   show zF o ops ⟨r.1, pc, d, b⟩ = _
   have : zF o ops ⟨r.1, pc, d, b⟩ = j8 o ops.length ⟨r.1, pc, d, b⟩ x := by unfold zF; rw [hx]
   rw [this]
   simp [j8, hk, ht, hr]
theorem jmj {o : Opn} {ops : List Opr} {T A B : List Opr} {els : Bool} {b : Bool} {gA gB : Crs × Bool → Crs × Bool} (s : Rn) (hT : Has ops s.pc T → Gets o ops s s.c (s.pc + T.length) b)
 (hA : ∀ u : Rn, u.pc = s.pc + T.length + 1 → Has ops u.pc A → CEnds o ops u (gA (u.c, false)) (u.pc + A.length))
 (hB : els = true → ∀ u : Rn, u.pc = s.pc + T.length + 1 + A.length + 1 → Has ops u.pc B → CEnds o ops u (gB (u.c, false)) (u.pc + B.length)) (hB0 : els = false → ∀ c, gB (c, false) = (c, false))
 (hH : Has ops s.pc (oIf s.pc T A els B)) : CEnds o ops s ((if b = true then gA else gB) (s.c, false)) (s.pc + (oIf s.pc T A els B).length) := by
 cases els with
 | true =>
   have e : oIf s.pc T A true B = T ++ (zt 4 (s.pc + T.length + 1 + A.length + 1) :: (A ++ (zt 5 (s.pc + T.length + 1 + A.length + 1 + B.length) :: B))) := rfl; rw [e] at hH ⊢; have h1 := hH.left; have h2 := hH.right.head; have h3 := hH.right.tail.left; have h4 := hH.right.tail.right.head; have h5 := hH.right.tail.right.tail; cases b with
   | true =>
     refine CEnds.of (hT h1) (pc' := s.pc + T.length + 1 + A.length + 1 + B.length) (fun d => ?_) (by simp only [List.length_append, List.length_cons]; omega); refine CEnds.of (c := s.c) (pc := s.pc + T.length + 1) (b := true) (Gets.step h2 ⟨0, d + 1, by simp [j8, qh, runN]⟩) (fun d' => ?_) rfl; exact (hA ⟨s.c, s.pc + T.length + 1, d', true⟩ rfl h3).jump h4 rfl (jb4 _ _)
   | false =>
     refine CEnds.of (hT h1) (pc' := s.pc + T.length + 1 + A.length + 1 + B.length) (fun d => ?_) (by simp only [List.length_append, List.length_cons]; omega); refine CEnds.of (c := s.c) (pc := s.pc + T.length + 1 + A.length + 1) (b := false) (Gets.step h2 ⟨0, d + 1, by simp [j8, qh, jb4, runN]⟩) (fun d' => ?_) rfl; exact hB rfl ⟨s.c, s.pc + T.length + 1 + A.length + 1, d', false⟩ rfl h5
 | false =>
   have e : oIf s.pc T A false B = T ++ (zt 4 (s.pc + T.length + 1 + A.length) :: A) := rfl; rw [e] at hH ⊢; have h1 := hH.left; have h2 := hH.right.head; have h3 := hH.right.tail; cases b with
   | true =>
     refine CEnds.of (hT h1) (pc' := s.pc + T.length + 1 + A.length) (fun d => ?_) (by simp only [List.length_append, List.length_cons]; omega); refine CEnds.of (c := s.c) (pc := s.pc + T.length + 1) (b := true) (Gets.step h2 ⟨0, d + 1, by simp [j8, qh, runN]⟩) (fun d' => ?_) rfl; exact hA ⟨s.c, s.pc + T.length + 1, d', true⟩ rfl h3
   | false =>
     refine CEnds.of (hT h1) (pc' := s.pc + T.length + 1 + A.length) (fun d => ?_) (by simp only [List.length_append, List.length_cons]; omega); refine ⟨false, 1, d + 1, ?_⟩; rw [show (if false = true then gA else gB) = gB by simp, hB0 rfl]
     show zF o ops ⟨s.c, s.pc + T.length, d, false⟩ = _
     have : zF o ops ⟨s.c, s.pc + T.length, d, false⟩ = j8 o ops.length ⟨s.c, s.pc + T.length, d, false⟩ (zt 4 (s.pc + T.length + 1 + A.length)) := by unfold zF; rw [h2]
     rw [this]
     simp [j8, qh, jb4]
theorem jj1 (o : Opn) (ops : List Opr) : ∀ (n : Nat) (c : Cmd), okC (n + 1) c → jlH o ops (oCmd (n + 1) c) fun s => zB (jR o n) (jo o n) s c := by
 intro n
 induction n with
 | zero =>
   intro c h s hH
   by_cases k2 : c.kind = 2
   · exact (h k2).1.elim
   · have e1 : oCmd 1 c s.pc = [doO c] := by simp only [oCmd]; rw [if_neg k2]
     rw [e1] at hH ⊢; have e2 : zB (jR o 0) (jo o 0) (s.c, false) c = doP s.c c := by unfold zB; rw [if_neg (by simp), if_pos k2]
     show CEnds o ops s (zB (jR o 0) (jo o 0) (s.c, false) c) _
     rw [e2]; exact ⟨s.told, Gets.step hH.head ⟨0, s.done + 1, by simp [j8, doO, runN, jhQ]⟩⟩
 | succ n ih =>
   intro c h s hH
   by_cases k2 : c.kind = 2
   · obtain ⟨hT, hA, hB⟩ := h k2; have e1 : oCmd (n + 1 + 1) c s.pc = oIf s.pc (oTst (n + 1) c.test s.pc) (zE (oCmd (n + 1)) c.thn (s.pc + (oTst (n + 1) c.test s.pc).length + 1)) (decide (0 < c.els.length)) (zE (oCmd (n + 1)) c.els (s.pc + (oTst (n + 1) c.test s.pc).length + 1 + (zE (oCmd (n + 1)) c.thn (s.pc + (oTst (n + 1) c.test s.pc).length + 1)).length + 1)) := by
        rw [oCmd]; rw [if_pos k2]
     have e2 : zB (jR o (n + 1)) (jo o (n + 1)) (s.c, false) c = (if jo o (n + 1) c.test = true then jR o (n + 1) c.thn else jR o (n + 1) c.els) (s.c, false) := by
        unfold zB; rw [if_neg (by simp), if_neg (by simpa using k2)]; split <;> rfl
     rw [e1] at hH ⊢
     show CEnds o ops s (zB (jR o (n + 1)) (jo o (n + 1)) (s.c, false) c) _
     rw [e2]; refine jmj s (jli o ops (n + 1) c.test hT s) (fun u hu hh => ?_) (fun _ u hu hh => ?_) (fun he x => ?_) hH
     · have := jbQ (o := o) (ops := ops) (f := oCmd (n + 1)) (fol := jR o n) (tl := jo o n) c.thn (fun x hx => ih x (hA x hx)) u; rw [← hu] at hh ⊢; exact this hh
     · have := jbQ (o := o) (ops := ops) (f := oCmd (n + 1)) (fol := jR o n) (tl := jo o n) c.els (fun x hx => ih x (hB x hx)) u; rw [← hu] at hh ⊢; exact this hh
     · have : c.els = [] := by
        cases hc : c.els with
        | nil => rfl
        | cons y r => rw [hc] at he; simp at he
       rw [this]; rfl
   · have e1 : oCmd (n + 1 + 1) c s.pc = [doO c] := by rw [oCmd]; rw [if_neg k2]
     rw [e1] at hH ⊢; have e2 : zB (jR o (n + 1)) (jo o (n + 1)) (s.c, false) c = doP s.c c := by unfold zB; rw [if_neg (by simp), if_pos k2]
     show CEnds o ops s (zB (jR o (n + 1)) (jo o (n + 1)) (s.c, false) c) _
     rw [e2]; exact ⟨s.told, Gets.step hH.head ⟨0, s.done + 1, by simp [j8, doO, runN, jhQ]⟩⟩
theorem jhK (o : Opn) (n : Nat) (l : List Cmd) (h : ∀ c ∈ l, okC (n + 1) c) (c0 : Crs) : ∃ k, (runN o (qq (n + 1) l) k ⟨c0, 0, 0, false⟩).c = (jR o (n + 1) l (c0, false)).1 ∧ (qq (n + 1) l).length ≤ (runN o (qq (n + 1) l) k ⟨c0, 0, 0, false⟩).pc := by
 have := jbQ (o := o) (ops := qq (n + 1) l) (f := oCmd (n + 1)) (fol := jR o n) (tl := jo o n) l (fun x hx => jj1 o _ n x (h x hx)) ⟨c0, 0, 0, false⟩ (fun i x hx => by rw [Nat.zero_add]; exact hx); obtain ⟨b, k, d, e⟩ := this; refine ⟨k, ?_, ?_⟩
 · rw [e]; rfl
 · rw [e]
   show (qq (n + 1) l).length ≤ if _ then _ else _
   split
   · exact Nat.le_refl _
   · simp [qq]
theorem jnt : ∀ (n : Nat) (t : Tst), shT n t → okT n t := by
 intro n
 induction n with
 | zero => intro t h; exact h
 | succ n ih =>
   intro t h; obtain ⟨h1, h2, h3, h4⟩ := h; refine ⟨fun h => ?_, fun x hx => ih x (h4 x hx)⟩
   rcases h with h | h
   · intro e; have := h1 h; rw [e] at this; simp at this
   · exact h2 h
theorem jns : ∀ (n : Nat) (c : Cmd), shC n c → okC n c := by
 intro n
 induction n with
 | zero => intro t h; exact h
 | succ n ih =>
   intro c h k; obtain ⟨h1, h2, h3⟩ := h k; exact ⟨jnt n _ h1, fun x hx => ih x (h2 x hx), fun x hx => ih x (h3 x hx)⟩
theorem jd {w : World} {b j : Nat} {cs : Array Value} {t : TypeId} {fr : Nat × Nat} {v : Value} (h : w.heap[b]? = some (.cells cs t fr)) (hj : cs[j]? = some v) : w.cell? ⟨b, j, none⟩ = some v := by simp [World.cell?, h, hj]
theorem jT {w w' : World} {b : Nat} {x : Obj} (h : Below w.heap.size w w') (hb : w.heap[b]? = some x) : w'.heap[b]? = some x := (h.block b (Array.getElem?_eq_some_iff.1 hb).1).trans hb
theorem jlx {Q : Nat → Prop} {w : World} {a : Option Addr} {c : Nat} {l : List (List UInt8)} (h : TxtsM Q w (.slice a l.length c) l) {i : Nat} {x : List UInt8} (hx : l[i]? = some x) : ∃ b o, a = some ⟨b, o, none⟩ ∧ w.cell? ⟨b, o + i, none⟩ = some (.string (S x)) := by
 obtain ⟨a', c', hv, _, hr⟩ := h; simp only [Value.slice.injEq, true_and] at hv; obtain ⟨rfl, rfl⟩ := hv; obtain ⟨b, o, cs, rfl, _, _, _, hc, hP⟩ := hr i x hx; have hcs : cs = _ := hP; subst hcs; exact ⟨b, o, rfl, by simpa using hc 0 _ rfl⟩
def rowC (w : World) (b : Nat) : Option Nat := (w.cell? ⟨b, 0, none⟩).bind Value.ownBlock
structure FrC (b : Nat) (w w' : World) : Prop where
 size : w.heap.size ≤ w'.heap.size
 keep : ∀ p, p < w.heap.size → p ≠ b → some p ≠ rowC w b → w'.heap[p]? = w.heap[p]?
 row : rowC w' b = rowC w b ∨ ∃ g, rowC w' b = some g ∧ w.heap.size ≤ g
theorem FrC.below {b : Nat} {w w' : World} (hb : b < w.heap.size) (h : Below w.heap.size w w') : FrC b w w' :=
 ⟨h.size, fun p hp _ _ => h.block p hp, .inl (by unfold rowC; rw [h.cell (p := ⟨b, 0, none⟩) hb])⟩
theorem FrC.trans {b : Nat} {x y z : World} (h : FrC b x y) (k : FrC b y z) : FrC b x z := by
 refine ⟨Nat.le_trans h.size k.size, fun p hp hne hr => ?_, ?_⟩
 · refine (k.keep p (Nat.lt_of_lt_of_le hp h.size) hne ?_).trans (h.keep p hp hne hr)
   rcases h.row with e | ⟨g, e, hg⟩
   · rw [e]; exact hr
   · rw [e]; intro e2; have := Option.some.inj e2; omega
 · rcases k.row with e | ⟨g, e, hg⟩
   · rw [e]; exact h.row
   · exact .inr ⟨g, e, Nat.le_trans h.size hg⟩
theorem jcI {w : World} {b : Nat} {cs : Array Value} {t : TypeId} (h : w.heap[b]? = some (.cells cs t)) (j : Nat) (v : Value) : (w.setCell ⟨b, j, none⟩ v).heap[b]? = some (.cells (cs.setIfInBounds j v) t) := heap_setCell_same w b j cs t v h
theorem jlw (w : World) (o : Obj) {k : Nat} (h : k < w.heap.size) : (w.alloc o).heap[k]? = w.heap[k]? := by
 show (w.heap.push o)[k]? = _
 rw [Array.getElem?_push_lt h, Array.getElem?_eq_getElem h]
theorem FrC.box {b p : Nat} {w w' : World} {x : Obj} (h : FrC b w w') (hp : w.heap[p]? = some x) (hn : p ≠ b) (hr : some p ≠ rowC w b) : w'.heap[p]? = some x ∧ some p ≠ rowC w' b := by
 have hlt := (Array.getElem?_eq_some_iff.1 hp).1; refine ⟨(h.keep p hlt hn hr).trans hp, ?_⟩
 rcases h.row with e | ⟨g, e, hg⟩
 · rw [e]; exact hr
 · rw [e]; intro e2; have := Option.some.inj e2; omega
theorem jmE {w : World} {base g cap n : Nat} {e : TypeId} {size : Nat} {xs : List Value} (h : w.ownsRow base e size (.slice (some ⟨g, 0, none⟩) n cap) n xs) (j : Nat) (u : Value) :
 (w.setCell ⟨g, j, none⟩ u).ownsRow base e size (.slice (some ⟨g, 0, none⟩) n cap) n (xs.set j u) := by
 refine ⟨by rw [List.length_set]; exact h.1, .inr ?_⟩
 rcases h.2 with ⟨h', _⟩ | ⟨g', cap', cur, h', hb, hg, h1, h2, h3, htake⟩
 · simp at h'
 · simp only [Value.slice.injEq, Option.some.injEq, Addr.mk.injEq, and_true, true_and] at h'; obtain ⟨rfl, rfl⟩ := h'; refine ⟨g, cap, cur.setIfInBounds j u, rfl, hb, heap_setCell_same w g j cur e u hg, h1, h2, by simpa using h3, ?_⟩; rw [Array.toList_setIfInBounds, List.take_set, htake]
end Go.Proofs.YtaapmpchcfcniaaGreatDoor
