/-
  What judge.Check does: the walk.
  What judge.open and judge.Ask do: the walks.
  Plain facts on tests that are asked: one test behind a Require of the envelope is allowed; what it shows.
  Following a script: plain meaning; what judge's follow does: the walk.
  What judge.Judge and judge.End do: the walks.
  Ops that are run: the plain meaning of P8.5, and that ops make the course that the script makes.
  Memory: what a box holds, and what a row that grows does not touch.
-/
import Derived.Test.YtaapmpchcfcniaaGreatDoorYWhoChk
import Derived.Test.YtaapmpchcfcniaaGreatDoorYLetPar
import Derived.Test.YtaapmpchcfcniaaGreatDoorYJudTel
import Derived.Test.YtaapmpchcfcniaaGreatDoorYRulCs
import Derived.Test.YtaapmpchcfcniaaGreatDoorYScrCk
import Derived.Test.YtaapmpchcfcniaaGreatDoorYQPure2
import Derived.Test.YtaapmpchcfcniaaGreatDoorYQWhoPart3
import Derived.Test.YtaapmpchcfcniaaGreatDoorYQCodPur6
namespace Go.Proofs.YtaapmpchcfcniaaGreatDoor
open Go.RowKit Go.Proofs
def jaW (fl fd tl td tx : List UInt8) : List F × List UInt8 × Int :=
  if jN fl fd ≠ 0 then ([], [], jN fl fd) else if jN tl td ≠ 0 then ([], [], jN tl td) else ((zv tx).1, (zv tx).2.1, (zv tx).2.2.2)
def MsgN (w : World) (q : List F × List UInt8 × Int) (x : Ending) (w' : World) : Prop :=
  ∃ a c, x = .returned (.tuple #[.agg #[.slice a q.1.length c, .string (S q.2.1)], .int .i64 q.2.2]) ∧ FieldsAt w' a q.1 ∧ FreshA w.heap.size a ∧ Below w.heap.size w w'
theorem MsgN.bad {w w' : World} {x : Int} {q : List F × List UInt8 × Int} (hq : q = ([], [], x)) (hb : Below w.heap.size w w') : MsgN w q (.returned (.tuple #[.agg #[.slice none 0 0, .string ⟨#[]⟩], .int .i64 x])) w' := by
  subst hq; exact ⟨none, 0, rfl, (by intro i x hx; simp at hx), FreshA.nil _, hb⟩
theorem jfS {w : World} {a : Option Addr} {fs : List F} (h : FieldsAt w a fs) {p n c : Nat} {x : Option Addr} {s : ByteArray} {t : TypeId} (hp : w.heap[p]? = some (.cells #[.slice x n c, .string s] t)) (u v : Value) : FieldsAt ((w.setCell ⟨p, 0, none⟩ u).setCell ⟨p, 1, none⟩ v) a fs := by
  intro i f hf; obtain ⟨b, off, ha, hlt, h1, h2⟩ := h i f hf; have hne : b ≠ p := by
    intro e; subst e; simp only [World.cell?, hp] at h1 h2
    match hk : off + i * 2, h1, h2 with
    | 0, h1, _ => simp at h1
    | 1, _, h2 => simp at h2
    | k + 2, h1, _ => simp at h1
  have hset : ∀ (w : World) (j k : Nat) (v : Value), (w.setCell ⟨p, j, none⟩ v).cell? ⟨b, k, none⟩ = w.cell? ⟨b, k, none⟩ := fun w j k v => World.cell?_setCell_other w _ _ _ (fun e => hne (by cases e; rfl))
  exact ⟨b, off, ha, by simpa [World.setCell] using hlt, by rw [hset, hset]; exact h1, by rw [hset, hset]; exact h2⟩
theorem box2 {w : World} {p : Nat} {u v : Value} {t : TypeId} (h : w.heap[p]? = some (.cells #[u, v] t)) : w.cell? ⟨p, 0, none⟩ = some u ∧ w.cell? ⟨p, 1, none⟩ = some v ∧ w.frozen? ⟨p, 0, none⟩ = false ∧ w.frozen? ⟨p, 1, none⟩ = false := by
  refine ⟨?_, ?_, ?_, ?_⟩ <;> simp [World.cell?, World.frozen?, h]
theorem jds {w : World} (o : Obj) {b : Nat} {x : Obj} (h : w.heap[b]? = some x) : (w.alloc o).heap[b]? = some x := by
  have hb : b < w.heap.size := (Array.getElem?_eq_some_iff.1 h).1
  show (w.heap.push o)[b]? = _
  rw [Array.getElem?_push_lt hb, ← h, Array.getElem?_eq_getElem hb]
theorem jcR {w w' : World} {B b : Nat} {x : Obj} (h : Below B w w') (hb : w.heap[b]? = some x) (hr : b < B) : w'.heap[b]? = some x := (h.block b hr).trans hb
set_option maxHeartbeats 4000000 in
set_option maxRecDepth 100000 in
theorem jcr (fl fd tl td tx : ByteArray) (w : World) (h1 : fl.size ≤ 140737488355328) (h2 : fd.size ≤ 140737488355328) (h3 : tl.size ≤ 140737488355328) (h4 : td.size ≤ 140737488355328) (h5 : tx.size ≤ maxLen) (hm : maxLenCell w) :
    Calls Tryz.prog 24 #[.agg #[.string fl, .string fd, .string tl, .string td, .string tx]] w (MsgN w (jaW fl.data.toList fd.data.toList tl.data.toList td.data.toList tx.data.toList)) := by
  have H1 := hid h1; have H2 := hid h2; have H3 := hid h3; have H4 := hid h4; have H5 := hid h5; have HM := hid hm; obtain ⟨q, hq⟩ : ∃ q, q = jaW fl.data.toList fd.data.toList tl.data.toList td.data.toList tx.data.toList := ⟨_, rfl⟩; rw [← hq]; unfold jaW at hq; have HQ := hid hq; clear h1 h2 h3 h4 h5 hm hq; obtain ⟨W0, hW0⟩ : ∃ W0, W0 = (w.alloc (.cells #[.string fl, .string fd, .string tl, .string td, .string tx] 31)).alloc (.cells #[.slice none 0 0, .string ⟨#[]⟩] 65) := ⟨_, rfl⟩; have HB0 := hid (show Below w.heap.size w W0 by rw [hW0]; exact ((Below.refl _ _).alloc (Nat.le_refl _) _).alloc (by simp) _); have hH : W0.heap[w.heap.size]? = some (.cells #[.string fl, .string fd, .string tl, .string td, .string tx] 31) := by rw [hW0]; exact jds _ (heap_alloc_new w _)
  have HR0 := hid (show W0.heap[w.heap.size + 1]? = some (.cells #[.slice none 0 0, .string ⟨#[]⟩] 65) by rw [hW0]; have := heap_alloc_new (w.alloc (.cells #[.string fl, .string fd, .string tl, .string td, .string tx] 31)) (.cells #[.slice none 0 0, .string ⟨#[]⟩] 65); simpa using this); have hs0 : W0.heap.size = w.heap.size + 2 := by rw [hW0]; simp
  have HWE := hid hW0; have g2 : W0.cell? ⟨w.heap.size, 2, none⟩ = some (.string tl) := by simp [World.cell?, hH]
  have g3 : W0.cell? ⟨w.heap.size, 3, none⟩ = some (.string td) := by simp [World.cell?, hH]
  have g4 : W0.cell? ⟨w.heap.size, 4, none⟩ = some (.string tx) := by simp [World.cell?, hH]
  clear hH hW0; go_enter Tryz.func24, Tryz.ntmps24; go_wp2_with fail; rw [← HWE.out]; refine (zU fl fd W0 H1.out H2.out).mono ?_; rintro e w1 ⟨rfl, hb1⟩; simp only; have HB1 := hid (HB0.out.trans (hb1.mono HB0.out.size)); have HR1 := hid (jcR hb1 HR0.out (by omega)); have hs1 := hb1.size; have k2 := jb g2 hb1; have k3 := jb g3 hb1; have k4 := jb g4 hb1; clear hb1 g2 g3 g4 HWE; obtain ⟨x, hx⟩ : ∃ x, x = jN fl.data.toList fd.data.toList := ⟨_, rfl⟩; rw [← hx]; rw [← hx] at HQ; clear hx
  by_cases hx : x = 0
  · rw [if_neg (by simpa using hx)] at HQ; subst hx; go_wp2_with fail; refine (zU tl td w1 H3.out H4.out).mono ?_; rintro e w2 ⟨rfl, hb2⟩; simp only; have HB2 := hid (HB1.out.trans (hb2.mono HB1.out.size)); have HR2 := hid (jcR hb2 HR1.out (by omega)); have hs2 := hb2.size; have d4 := jb k4 hb2; clear hb2 k2 k3 k4; obtain ⟨y, hy⟩ : ∃ y, y = jN tl.data.toList td.data.toList := ⟨_, rfl⟩; rw [← hy]; rw [← hy] at HQ; clear hy
    by_cases hy : y = 0
    · rw [if_neg (by simpa using hy)] at HQ; subst hy; go_wp2_with fail; refine (jh7 tx w2 H5.out (maxLenCell_below HM.out HB2.out)).mono ?_; intro e w3 h3; obtain ⟨P, hP⟩ : ∃ P, P = zv tx.data.toList := ⟨_, rfl⟩; rw [← hP] at h3; rw [← hP] at HQ; clear hP; obtain ⟨fs, body, p, er⟩ := P; obtain ⟨a3, c3, he3, hF, hfr, hb3⟩ := h3; have HFr := hid (show FreshA w.heap.size a3 from fun b o q e => Nat.le_trans HB2.out.size (hfr b o q e)); clear hfr; have he3' : e = .returned (.tuple #[.agg #[.slice a3 fs.length c3, .string (S body)], .int .i64 p, .int .i64 er]) := he3; subst he3'; clear he3; simp only; have HB3 := hid (HB2.out.trans (hb3.mono HB2.out.size)); have HF := hid hF; have HR3 := hid (jcR hb3 HR2.out (by omega)); have HR4 := hid (jds (.cells #[.slice a3 fs.length c3, .string (S body)] 65) HR3.out); have HA4 := hid (show Below w3.heap.size w3 (w3.alloc (.cells #[.slice a3 fs.length c3, .string (S body)] 65)) from (Below.refl _ _).alloc (Nat.le_refl _) _); obtain ⟨r0, r1, f0, f1⟩ := box2 HR4.out; clear hb3 hF; have HE := hid (show MsgN w q (.returned (.tuple #[.agg #[.slice a3 fs.length c3, .string (S body)], .int .i64 er])) (((w3.alloc (.cells #[.slice a3 fs.length c3, .string (S body)] 65)).setCell ⟨w.heap.size + 1, 0, none⟩ (.slice a3 fs.length c3)).setCell ⟨w.heap.size + 1, 1, none⟩ (.string (S body))) by
        rw [HQ.out]; exact ⟨a3, c3, rfl, jfS (HF.out.below HA4.out) HR4.out _ _, HFr.out, ((HB3.out.trans (HA4.out.mono HB3.out.size)).setCell (by simp) _).setCell (by simp) _⟩)
      go_wp2; refine bodyPost_ret (v := .tuple #[.agg #[.slice a3 fs.length c3, .string (S body)], .int .i64 er]) (by simp [results, Tryz.results24, go_sem, *]) rfl ?_; exact HE.out
    · rw [if_pos (by simpa using hy)] at HQ; obtain ⟨r0, r1, f0, f1⟩ := box2 HR2.out; go_wp2; refine bodyPost_ret (v := .tuple #[.agg #[.slice none 0 0, .string ⟨#[]⟩], .int .i64 y]) (by simp [results, Tryz.results24, go_sem, *]) rfl ?_; exact MsgN.bad HQ.out ((HB2.out.setCell (by simp) _).setCell (by simp) _)
  · rw [if_pos (by simpa using hx)] at HQ; obtain ⟨r0, r1, f0, f1⟩ := box2 HR1.out; go_wp2; refine bodyPost_ret (v := .tuple #[.agg #[.slice none 0 0, .string ⟨#[]⟩], .int .i64 x]) (by simp [results, Tryz.results24, go_sem, *]) rfl ?_; exact MsgN.bad HQ.out ((HB1.out.setCell (by simp) _).setCell (by simp) _)
end Go.Proofs.YtaapmpchcfcniaaGreatDoor
namespace Go.Proofs.YtaapmpchcfcniaaGreatDoor
open Go.RowKit Go.Proofs
theorem zQ {w : World} {a : Option Addr} {fs : List F} (h : FieldsAt w a fs) {p j : Nat} (v : Value) (hne : ∀ b o q, a = some ⟨b, o, q⟩ → b ≠ p) : FieldsAt (w.setCell ⟨p, j, none⟩ v) a fs := by
  intro i f hf; obtain ⟨b, off, ha, hlt, h1, h2⟩ := h i f hf; have hb := hne b off none ha; have hset : ∀ k, (w.setCell ⟨p, j, none⟩ v).cell? ⟨b, k, none⟩ = w.cell? ⟨b, k, none⟩ := fun k => World.cell?_setCell_other w _ _ _ (fun e => hb (by cases e; rfl))
  exact ⟨b, off, ha, by simpa [World.setCell] using hlt, by rw [hset]; exact h1, by rw [hset]; exact h2⟩
def vU (o : Opn) : Prop := jaW o.fl o.fd o.tl o.td o.tx = (o.fs, o.body, 0)
def OpnR (w : World) (o : Opn) (e : Ending) (w' : World) : Prop := ∃ fa fc, e = .returned (.tuple #[.agg #[.string (S o.fl), .string (S o.fd), .string (S o.tl), .string (S o.td), .string (S o.tx), .slice fa o.fs.length fc, .string (S o.body)], .int .i64 0]) ∧ FieldsAt w' fa o.fs ∧ Below w.heap.size w w'
theorem jbO {o : Opn} (h : vU o) : jdb o ∧ o.tx.length ≤ 2000 ∧ o.fs.length ≤ 30 := by
  unfold vU jaW at h
  by_cases h1 : jN o.fl o.fd = 0
  · rw [if_neg (by simpa using h1)] at h
    by_cases h2 : jN o.tl o.td = 0
    · rw [if_neg (by simpa using h2)] at h; have hx : (zv o.tx).1 = o.fs ∧ (zv o.tx).2.2.2 = 0 := by
        constructor
        · exact congrArg Prod.fst h
        · exact congrArg (fun q => q.2.2) h
      have hl : o.tx.length ≤ 2000 := by
        rcases Nat.lt_or_ge 2000 o.tx.length with h' | h'
        · have := hx.2; unfold zv at this; rw [if_pos h'] at this; cases this
        · exact h'
      have hp : zv o.tx = j2 0 [] o.tx := by unfold zv; rw [if_neg (by omega)]
      have hs := (jgn 2000 o.tx.length o.tx (Nat.le_refl _) 0 [] hl (by simp)).1; have hi := ((jh6 o.tx.length o.tx (Nat.le_refl _) 0 [] (by simp) (by simp)).1 (by rw [← hp]; exact hx.2)).2.1; rw [← hp, hx.1] at hs hi; have m1 := jan h1; have m2 := jan h2; exact ⟨⟨⟨by omega, by omega, by omega, by omega⟩, by unfold maxLen; omega, fun f hf => by have := (hs f hf).2; unfold maxLen; omega⟩, hl, hi⟩
    · rw [if_pos h2] at h; have : jN o.tl o.td = 0 := congrArg (fun q => q.2.2) h; exact absurd this h2
  · rw [if_pos h1] at h; have : jN o.fl o.fd = 0 := congrArg (fun q => q.2.2) h; exact absurd this h1
set_option maxHeartbeats 1000000 in
set_option maxRecDepth 100000 in
theorem jlz (o : Opn) (w : World) (hj : vU o) (hm : maxLenCell w) :
    Calls Tryz.prog 26 #[.agg #[.string (S o.fl), .string (S o.fd), .string (S o.tl), .string (S o.td), .string (S o.tx)]] w (OpnR w o) := by
  have hok := jbO hj; obtain ⟨W0, hW0⟩ : ∃ W0, W0 = (w.alloc (.cells #[.string (S o.fl), .string (S o.fd), .string (S o.tl), .string (S o.td), .string (S o.tx)] 31)).alloc (.cells #[.string ⟨#[]⟩, .string ⟨#[]⟩, .string ⟨#[]⟩, .string ⟨#[]⟩, .string ⟨#[]⟩, .slice none 0 0, .string ⟨#[]⟩] 82) := ⟨_, rfl⟩; have HWE := hid hW0; have HB0 := hid (show Below w.heap.size w W0 by rw [hW0]; exact ((Below.refl _ _).alloc (Nat.le_refl _) _).alloc (by simp) _); have hs0 : W0.heap.size = w.heap.size + 2 := by rw [hW0]; simp
  have HL := hid (show W0.heap[w.heap.size]? = some (.cells #[.string (S o.fl), .string (S o.fd), .string (S o.tl), .string (S o.td), .string (S o.tx)] 31) by rw [hW0]; exact qf _ (jV _ rfl)); have HR := hid (show W0.heap[w.heap.size + 1]? = some (.cells #[.string ⟨#[]⟩, .string ⟨#[]⟩, .string ⟨#[]⟩, .string ⟨#[]⟩, .string ⟨#[]⟩, .slice none 0 0, .string ⟨#[]⟩] 82) by rw [hW0]; exact jV _ (by simp)); have HC := hid (show Calls Tryz.prog 24 #[.agg #[.string (S o.fl), .string (S o.fd), .string (S o.tl), .string (S o.td), .string (S o.tx)]] W0 (MsgN W0 (o.fs, o.body, 0)) by
    obtain ⟨⟨⟨s1, s2, s3, s4⟩, _⟩, s5, _⟩ := hok; have := jcr (S o.fl) (S o.fd) (S o.tl) (S o.td) (S o.tx) W0 (by rw [jt]; omega) (by rw [jt]; omega) (by rw [jt]; omega) (by rw [jt]; omega) (by rw [jt]; unfold maxLen; omega) (maxLenCell_below hm HB0.out); rw [jp, jp, jp, jp, jp, show jaW o.fl o.fd o.tl o.td o.tx = (o.fs, o.body, 0) from hj] at this; exact this)
  clear hm hj hW0 hok; go_enter Tryz.func26, Tryz.ntmps26; go_wp2_with fail; rw [← HWE.out]; refine HC.out.mono ?_; rintro e w1 ⟨fa, fc, he, hF, hfr, hb1⟩; rw [show e = .returned (.tuple #[.agg #[.slice fa o.fs.length fc, .string (S o.body)], .int .i64 0]) from he]; simp only; have hal : Below w1.heap.size w1 (w1.alloc (.cells #[.slice fa o.fs.length fc, .string (S o.body)] 65)) := (Below.refl _ _).alloc (Nat.le_refl _) _; have HB1 := hid (HB0.out.trans ((hb1.trans (hal.mono hb1.size)).mono HB0.out.size)); have HF1 := hid (hF.below hal); have hL1 := jx hal (jx hb1 HL.out); have hR1 := jx hal (jx hb1 HR.out); have HNE := hid (show ∀ b o q, fa = some ⟨b, o, q⟩ → b ≠ w.heap.size + 1 from fun b o q e => by have := hfr b o q e; omega); have l0 := je (j := 0) hL1 rfl; have l1 := je (j := 1) hL1 rfl; have l2 := je (j := 2) hL1 rfl; have l3 := je (j := 3) hL1 rfl; have l4 := je (j := 4) hL1 rfl; have r0 := je (j := 0) hR1 rfl; have r1 := je (j := 1) hR1 rfl; have r2 := je (j := 2) hR1 rfl; have r3 := je (j := 3) hR1 rfl; have r4 := je (j := 4) hR1 rfl; have r5 := je (j := 5) hR1 rfl; have r6 := je (j := 6) hR1 rfl; have fr : ∀ j, (w1.alloc (.cells #[.slice fa o.fs.length fc, .string (S o.body)] 65)).frozen? ⟨w.heap.size + 1, j, none⟩ = false := fun j => by simp only [World.frozen?, hR1]; simp
  have f0 := fr 0; have f1 := fr 1; have f2 := fr 2; have f3 := fr 3; have f4 := fr 4; have f5 := fr 5; have f6 := fr 6; clear he hb1 hal hF hfr hL1 hR1 HWE HL HR HC HB0 fr; go_wp2; refine bodyPost_ret (v := .tuple #[.agg #[.string (S o.fl), .string (S o.fd), .string (S o.tl), .string (S o.td), .string (S o.tx), .slice fa o.fs.length fc, .string (S o.body)], .int .i64 0]) (by simp [results, Tryz.results26, go_sem, *]) rfl ?_; refine ⟨fa, fc, rfl, ?_, ?_⟩
  · exact zQ (zQ (zQ (zQ (zQ (zQ (zQ HF1.out _ HNE.out) _ HNE.out) _ HNE.out) _ HNE.out) _ HNE.out) _ HNE.out) _ HNE.out
  · exact ((((((HB1.out.setCell (by simp) _).setCell (by simp) _).setCell (by simp) _).setCell (by simp) _).setCell (by simp) _).setCell (by simp) _).setCell (by simp) _
end Go.Proofs.YtaapmpchcfcniaaGreatDoor
namespace Go.Proofs.YtaapmpchcfcniaaGreatDoor
open Go.RowKit Go.Proofs
theorem CrsB.grow {w w' : World} {B b : Nat} {c : Crs} {o : Bool} (h : CrsB w B b c o) (hb : Below w.heap.size w w') : CrsB w' B b c o := CrsB.next h hb
theorem Frm.box {b p : Nat} {w w' : World} {x : Obj} (h : Frm b w w') (hp : w.heap[p]? = some x) (hn : p ≠ b) (hr : some p ≠ rowB w b) : w'.heap[p]? = some x ∧ some p ≠ rowB w' b := by
  have hlt := (Array.getElem?_eq_some_iff.1 hp).1; refine ⟨(h.keep p hlt hn hr).trans hp, ?_⟩
  rcases h.row with e | ⟨g, e, hg⟩
  · rw [e]; exact hr
  · rw [e]; intro e2; have := Option.some.inj e2; omega
end Go.Proofs.YtaapmpchcfcniaaGreatDoor
namespace Go.Proofs.YtaapmpchcfcniaaGreatDoor
open Go.RowKit Go.Proofs
end Go.Proofs.YtaapmpchcfcniaaGreatDoor
namespace Go.Proofs.YtaapmpchcfcniaaGreatDoor
open Go.RowKit Go.Proofs
structure Rn where
  c : Crs
  pc : Nat
  done : Nat
  told : Bool
def ze (o : Opn) (N : Nat) (s : Rn) (x : Opr) : Rn :=
  if x.kind = 1 then ⟨s.c, s.pc + 1, s.done + 1, ju o 1 x.test⟩
  else if x.kind = 2 then ⟨s.c, s.pc + 1, s.done + 1, !s.told⟩
  else if x.kind = 3 then ⟨s.c, if s.told = true then x.to.toNat else s.pc + 1, s.done + 1, s.told⟩
  else if x.kind = 4 then ⟨s.c, if s.told = true then s.pc + 1 else x.to.toNat, s.done + 1, s.told⟩
  else if x.kind = 5 then ⟨s.c, x.to.toNat, s.done + 1, s.told⟩
  else ⟨(doP s.c x.what).1, if (doP s.c x.what).2 = true then N else s.pc + 1, s.done + 1, s.told⟩
def zm (o : Opn) (ops : List Opr) (s : Rn) : Rn := match ops[s.pc]? with
  | none => s
  | some x => ze o ops.length s x
def runN (o : Opn) (ops : List Opr) : Nat → Rn → Rn
  | 0, s => s
  | k + 1, s => runN o ops k (zm o ops s)
theorem jaQ (o : Opn) (ops : List Opr) : ∀ (j k : Nat) (s : Rn), runN o ops (j + k) s = runN o ops k (runN o ops j s) := by
  intro j
  induction j with
  | zero => intro k s; rw [Nat.zero_add]; rfl
  | succ j ih => intro k s; rw [show j + 1 + k = (j + k) + 1 by omega]; exact ih k (zm o ops s)
theorem jin (o : Opn) (ops : List Opr) (s : Rn) (h : ops.length ≤ s.pc) : ∀ k, runN o ops k s = s := by
  intro k
  induction k with
  | zero => rfl
  | succ k ih =>
    show runN o ops k (zm o ops s) = s
    have : zm o ops s = s := by unfold zm; rw [List.getElem?_eq_none h]
    rw [this]; exact ih
theorem jj2 (o : Opn) (ops : List Opr) (s : Rn) (j k : Nat) (h : ops.length ≤ (runN o ops j s).pc) (h' : ops.length ≤ (runN o ops k s).pc) : runN o ops j s = runN o ops k s := by
  rcases Nat.le_total j k with e | e
  · obtain ⟨d, rfl⟩ := Nat.le.dest e; rw [jaQ, jin o ops _ h]
  · obtain ⟨d, rfl⟩ := Nat.le.dest e; rw [jaQ, jin o ops _ h']
def Gets (o : Opn) (ops : List Opr) (s : Rn) (c : Crs) (pc : Nat) (told : Bool) : Prop := ∃ k d, runN o ops k s = ⟨c, pc, d, told⟩
def jmT (o : Opn) (ops : List Opr) (s : Rn) (c : Crs) (pc : Nat) : Prop := ∃ told, Gets o ops s c pc told
theorem Gets.trans {o : Opn} {ops : List Opr} {s : Rn} {c c' : Crs} {pc pc' : Nat} {b b' : Bool} (h : Gets o ops s c pc b) (k : ∀ d, Gets o ops ⟨c, pc, d, b⟩ c' pc' b') : Gets o ops s c' pc' b' := by
  obtain ⟨i, d, e⟩ := h; obtain ⟨j, d', e'⟩ := k d; exact ⟨i + j, d', by rw [jaQ, e, e']⟩
theorem Gets.step {o : Opn} {ops : List Opr} {s : Rn} {x : Opr} {c' : Crs} {pc' : Nat} {b' : Bool} (hx : ops[s.pc]? = some x) (k : Gets o ops (ze o ops.length s x) c' pc' b') : Gets o ops s c' pc' b' := by
  obtain ⟨j, d', e'⟩ := k; refine ⟨j + 1, d', ?_⟩
  show runN o ops j (zm o ops s) = _
  have : zm o ops s = ze o ops.length s x := by unfold zm; rw [hx]
  rw [this]; exact e'
def Has (ops : List Opr) (a : Nat) (l : List Opr) : Prop := ∀ (i : Nat) (x : Opr), l[i]? = some x → ops[a + i]? = some x
theorem Has.left {ops : List Opr} {a : Nat} {l m : List Opr} (h : Has ops a (l ++ m)) : Has ops a l := fun i x hx => h i x (by rw [List.getElem?_append_left (List.getElem?_eq_some_iff.1 hx).1]; exact hx)
theorem Has.right {ops : List Opr} {a : Nat} {l m : List Opr} (h : Has ops a (l ++ m)) : Has ops (a + l.length) m := fun i x hx => by
  rw [Nat.add_assoc]; exact h (l.length + i) x (by rw [List.getElem?_append_right (by omega)]; simpa using hx)
theorem Has.head {ops : List Opr} {a : Nat} {x : Opr} {m : List Opr} (h : Has ops a (x :: m)) : ops[a]? = some x := h 0 x rfl
theorem Has.tail {ops : List Opr} {a : Nat} {x : Opr} {m : List Opr} (h : Has ops a (x :: m)) : Has ops (a + 1) m := fun i y hy => by
  rw [show a + 1 + i = a + (i + 1) by omega]; exact h (i + 1) y hy
def CEnds (o : Opn) (ops : List Opr) (s : Rn) (r : Crs × Bool) (pc : Nat) : Prop := jmT o ops s r.1 (if r.2 = true then ops.length else pc)
theorem CEnds.of {o : Opn} {ops : List Opr} {s : Rn} {c : Crs} {pc : Nat} {b : Bool} {r : Crs × Bool} {pc' pc'' : Nat} (h : Gets o ops s c pc b) (k : ∀ d, CEnds o ops ⟨c, pc, d, b⟩ r pc') (e : pc' = pc'') : CEnds o ops s r pc'' := by
  subst e; obtain ⟨i, d, ei⟩ := h; obtain ⟨b', j, d', ej⟩ := k d; exact ⟨b', i + j, d', by rw [jaQ, ei, ej]⟩
theorem CEnds.jump {o : Opn} {ops : List Opr} {s : Rn} {r : Crs × Bool} {pc to : Nat} {x : Opr} (h : CEnds o ops s r pc) (hx : ops[pc]? = some x) (hk : x.kind = 5) (ht : x.to.toNat = to) : CEnds o ops s r to := by
  obtain ⟨b, i, d, ei⟩ := h; cases hr : r.2 with
  | true => exact ⟨b, i, d, by rw [hr] at ei; rw [ei]; simp [hr]⟩
  | false =>
    rw [hr] at ei; have ei' : runN o ops i s = ⟨r.1, pc, d, b⟩ := ei; refine ⟨b, i + 1, d + 1, ?_⟩; rw [jaQ, ei']
    show zm o ops ⟨r.1, pc, d, b⟩ = _
    have : zm o ops ⟨r.1, pc, d, b⟩ = ze o ops.length ⟨r.1, pc, d, b⟩ x := by unfold zm; rw [hx]
    rw [this]
    simp [ze, hk, ht, hr]
end Go.Proofs.YtaapmpchcfcniaaGreatDoor
namespace Go.Proofs.YtaapmpchcfcniaaGreatDoor
open Go.RowKit Go.Proofs
theorem jc {w : World} {b j : Nat} {cs : Array Value} {t : TypeId} {fr : Nat × Nat} {v : Value} (h : w.heap[b]? = some (.cells cs t fr)) (hj : cs[j]? = some v) : w.cell? ⟨b, j, none⟩ = some v := by simp [World.cell?, h, hj]
theorem jL {w w' : World} {b : Nat} {x : Obj} (h : Below w.heap.size w w') (hb : w.heap[b]? = some x) : w'.heap[b]? = some x := (h.block b (Array.getElem?_eq_some_iff.1 hb).1).trans hb
theorem jkD {Q : Nat → Prop} {w : World} {a : Option Addr} {c : Nat} {l : List (List UInt8)} (h : TxtsM Q w (.slice a l.length c) l) {i : Nat} {x : List UInt8} (hx : l[i]? = some x) : ∃ b o, a = some ⟨b, o, none⟩ ∧ w.cell? ⟨b, o + i, none⟩ = some (.string (S x)) := by
  obtain ⟨a', c', hv, _, hr⟩ := h; simp only [Value.slice.injEq, true_and] at hv; obtain ⟨rfl, rfl⟩ := hv; obtain ⟨b, o, cs, rfl, _, _, _, hc, hP⟩ := hr i x hx; have hcs : cs = _ := hP; subst hcs; exact ⟨b, o, rfl, by simpa using hc 0 _ rfl⟩
def rowC (w : World) (b : Nat) : Option Nat := (w.cell? ⟨b, 0, none⟩).bind Value.ownBlock
structure FrC (b : Nat) (w w' : World) : Prop where
  size : w.heap.size ≤ w'.heap.size
  keep : ∀ p, p < w.heap.size → p ≠ b → some p ≠ rowC w b → w'.heap[p]? = w.heap[p]?
  row : rowC w' b = rowC w b ∨ ∃ g, rowC w' b = some g ∧ w.heap.size ≤ g
theorem FrC.below {b : Nat} {w w' : World} (hb : b < w.heap.size) (h : Below w.heap.size w w') : FrC b w w' :=
  ⟨h.size, fun p hp _ _ => h.block p hp, .inl (by unfold rowC; rw [h.cell (p := ⟨b, 0, none⟩) hb])⟩
theorem FrC.trans {b : Nat} {x y z : World} (h : FrC b x y) (k : FrC b y z) : FrC b x z := by
  refine ⟨Nat.le_trans h.size k.size, fun p hp hne hr => ?_, ?_⟩
  · refine (k.keep p (Nat.lt_of_lt_of_le hp h.size) hne ?_).trans (h.keep p hp hne hr)
    rcases h.row with e | ⟨g, e, hg⟩
    · rw [e]; exact hr
    · rw [e]; intro e2; have := Option.some.inj e2; omega
  · rcases k.row with e | ⟨g, e, hg⟩
    · rw [e]; exact h.row
    · exact .inr ⟨g, e, Nat.le_trans h.size hg⟩
theorem jcm {w : World} {b : Nat} {cs : Array Value} {t : TypeId} (h : w.heap[b]? = some (.cells cs t)) (j : Nat) (v : Value) : (w.setCell ⟨b, j, none⟩ v).heap[b]? = some (.cells (cs.setIfInBounds j v) t) := heap_setCell_same w b j cs t v h
theorem jkC (w : World) (o : Obj) {k : Nat} (h : k < w.heap.size) : (w.alloc o).heap[k]? = w.heap[k]? := by
  show (w.heap.push o)[k]? = _
  rw [Array.getElem?_push_lt h, Array.getElem?_eq_getElem h]
theorem FrC.box {b p : Nat} {w w' : World} {x : Obj} (h : FrC b w w') (hp : w.heap[p]? = some x) (hn : p ≠ b) (hr : some p ≠ rowC w b) : w'.heap[p]? = some x ∧ some p ≠ rowC w' b := by
  have hlt := (Array.getElem?_eq_some_iff.1 hp).1; refine ⟨(h.keep p hlt hn hr).trans hp, ?_⟩
  rcases h.row with e | ⟨g, e, hg⟩
  · rw [e]; exact hr
  · rw [e]; intro e2; have := Option.some.inj e2; omega
theorem jlC {w : World} {base g cap n : Nat} {e : TypeId} {size : Nat} {xs : List Value} (h : w.ownsRow base e size (.slice (some ⟨g, 0, none⟩) n cap) n xs) (j : Nat) (u : Value) :
    (w.setCell ⟨g, j, none⟩ u).ownsRow base e size (.slice (some ⟨g, 0, none⟩) n cap) n (xs.set j u) := by
  refine ⟨by rw [List.length_set]; exact h.1, .inr ?_⟩
  rcases h.2 with ⟨h', _⟩ | ⟨g', cap', cur, h', hb, hg, h1, h2, h3, htake⟩
  · simp at h'
  · simp only [Value.slice.injEq, Option.some.injEq, Addr.mk.injEq, and_true, true_and] at h'; obtain ⟨rfl, rfl⟩ := h'; refine ⟨g, cap, cur.setIfInBounds j u, rfl, hb, heap_setCell_same w g j cur e u hg, h1, h2, by simpa using h3, ?_⟩; rw [Array.toList_setIfInBounds, List.take_set, htake]
end Go.Proofs.YtaapmpchcfcniaaGreatDoor
