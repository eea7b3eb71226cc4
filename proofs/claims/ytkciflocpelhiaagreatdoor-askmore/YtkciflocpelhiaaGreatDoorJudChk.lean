/-
  What judge.Check does: the walk.
-/
import Derived.Test.YtkciflocpelhiaaGreatDoorWhoChk
import Derived.Test.YtkciflocpelhiaaGreatDoorLetPar
namespace Go.Proofs.YtkciflocpelhiaaGreatDoor
open Go.RowKit Go.Proofs

/-- P7.1: the message of a letter that may be, and what is wrong else. -/
def judgeL (fl fd tl td tx : List UInt8) : List F × List UInt8 × Int :=
  if checkA fl fd ≠ 0 then ([], [], checkA fl fd) else if checkA tl td ≠ 0 then ([], [], checkA tl td) else ((parseM tx).1, (parseM tx).2.1, (parseM tx).2.2.2)
/-- What comes back with a message. -/
def MsgR (w : World) (q : List F × List UInt8 × Int) (x : Ending) (w' : World) : Prop :=
  ∃ a c, x = .returned (.tuple #[.agg #[.slice a q.1.length c, .string (S q.2.1)], .int .i64 q.2.2]) ∧ FieldsAt w' a q.1 ∧ Below w.heap.size w w'
/-- The same, and the row of fields is new. -/
def MsgN (w : World) (q : List F × List UInt8 × Int) (x : Ending) (w' : World) : Prop :=
  ∃ a c, x = .returned (.tuple #[.agg #[.slice a q.1.length c, .string (S q.2.1)], .int .i64 q.2.2]) ∧ FieldsAt w' a q.1 ∧ FreshA w.heap.size a ∧ Below w.heap.size w w'
theorem MsgN.bad {w w' : World} {x : Int} {q : List F × List UInt8 × Int} (hq : q = ([], [], x)) (hb : Below w.heap.size w w') : MsgN w q (.returned (.tuple #[.agg #[.slice none 0 0, .string ⟨#[]⟩], .int .i64 x])) w' := by
  subst hq
  exact ⟨none, 0, rfl, (by intro i x hx; simp at hx), FreshA.nil _, hb⟩

theorem fields_box {w : World} {a : Option Addr} {fs : List F} (h : FieldsAt w a fs) {p n c : Nat} {x : Option Addr} {s : ByteArray} {t : TypeId} (hp : w.heap[p]? = some (.cells #[.slice x n c, .string s] t)) (u v : Value) : FieldsAt ((w.setCell ⟨p, 0, none⟩ u).setCell ⟨p, 1, none⟩ v) a fs := by
  intro i f hf
  obtain ⟨b, off, ha, hlt, h1, h2⟩ := h i f hf
  have hne : b ≠ p := by
    intro e
    subst e
    simp only [World.cell?, hp] at h1 h2
    match hk : off + i * 2, h1, h2 with
    | 0, h1, _ => simp at h1
    | 1, _, h2 => simp at h2
    | k + 2, h1, _ => simp at h1
  have hset : ∀ (w : World) (j k : Nat) (v : Value), (w.setCell ⟨p, j, none⟩ v).cell? ⟨b, k, none⟩ = w.cell? ⟨b, k, none⟩ := fun w j k v => World.cell?_setCell_other w _ _ _ (fun e => hne (by cases e; rfl))
  exact ⟨b, off, ha, by simpa [World.setCell] using hlt, by rw [hset, hset]; exact h1, by rw [hset, hset]; exact h2⟩
theorem box2 {w : World} {p : Nat} {u v : Value} {t : TypeId} (h : w.heap[p]? = some (.cells #[u, v] t)) : w.cell? ⟨p, 0, none⟩ = some u ∧ w.cell? ⟨p, 1, none⟩ = some v ∧ w.frozen? ⟨p, 0, none⟩ = false ∧ w.frozen? ⟨p, 1, none⟩ = false := by
  refine ⟨?_, ?_, ?_, ?_⟩ <;> simp [World.cell?, World.frozen?, h]
theorem jheap_old {w : World} (o : Obj) {b : Nat} {x : Obj} (h : w.heap[b]? = some x) : (w.alloc o).heap[b]? = some x := by
  have hb : b < w.heap.size := (Array.getElem?_eq_some_iff.1 h).1
  show (w.heap.push o)[b]? = _
  rw [Array.getElem?_push_lt hb, ← h, Array.getElem?_eq_getElem hb]
theorem low_heap {w w' : World} {B b : Nat} {x : Obj} (h : Below B w w') (hb : w.heap[b]? = some x) (hr : b < B) : w'.heap[b]? = some x := (h.block b hr).trans hb

set_option maxHeartbeats 4000000 in
set_option maxRecDepth 100000 in
theorem jcheck_new (fl fd tl td tx : ByteArray) (w : World) (h1 : fl.size ≤ 140737488355328) (h2 : fd.size ≤ 140737488355328) (h3 : tl.size ≤ 140737488355328) (h4 : td.size ≤ 140737488355328) (h5 : tx.size ≤ maxLen) (hm : maxLenCell w) :
    Calls Tryz.prog 26 #[.agg #[.string fl, .string fd, .string tl, .string td, .string tx]] w (MsgN w (judgeL fl.data.toList fd.data.toList tl.data.toList td.data.toList tx.data.toList)) := by
  have H1 := hid h1
  have H2 := hid h2
  have H3 := hid h3
  have H4 := hid h4
  have H5 := hid h5
  have HM := hid hm
  obtain ⟨q, hq⟩ : ∃ q, q = judgeL fl.data.toList fd.data.toList tl.data.toList td.data.toList tx.data.toList := ⟨_, rfl⟩
  rw [← hq]
  unfold judgeL at hq
  have HQ := hid hq
  clear h1 h2 h3 h4 h5 hm hq
  obtain ⟨W0, hW0⟩ : ∃ W0, W0 = (w.alloc (.cells #[.string fl, .string fd, .string tl, .string td, .string tx] 33)).alloc (.cells #[.slice none 0 0, .string ⟨#[]⟩] 49) := ⟨_, rfl⟩
  have HB0 := hid (show Below w.heap.size w W0 by rw [hW0]; exact ((Below.refl _ _).alloc (Nat.le_refl _) _).alloc (by simp) _)
  have hH : W0.heap[w.heap.size]? = some (.cells #[.string fl, .string fd, .string tl, .string td, .string tx] 33) := by rw [hW0]; exact jheap_old _ (heap_alloc_new w _)
  have HR0 := hid (show W0.heap[w.heap.size + 1]? = some (.cells #[.slice none 0 0, .string ⟨#[]⟩] 49) by rw [hW0]; have := heap_alloc_new (w.alloc (.cells #[.string fl, .string fd, .string tl, .string td, .string tx] 33)) (.cells #[.slice none 0 0, .string ⟨#[]⟩] 49); simpa using this)
  have hs0 : W0.heap.size = w.heap.size + 2 := by rw [hW0]; simp
  have HWE := hid hW0
  have g2 : W0.cell? ⟨w.heap.size, 2, none⟩ = some (.string tl) := by simp [World.cell?, hH]
  have g3 : W0.cell? ⟨w.heap.size, 3, none⟩ = some (.string td) := by simp [World.cell?, hH]
  have g4 : W0.cell? ⟨w.heap.size, 4, none⟩ = some (.string tx) := by simp [World.cell?, hH]
  clear hH hW0
  go_enter Tryz.func26, Tryz.ntmps26
  go_wp2_with fail
  rw [← HWE.out]
  refine (check_any fl fd W0 H1.out H2.out).mono ?_
  rintro e w1 ⟨rfl, hb1⟩
  simp only
  have HB1 := hid (HB0.out.trans (hb1.mono HB0.out.size))
  have HR1 := hid (low_heap hb1 HR0.out (by omega))
  have hs1 := hb1.size
  have k2 := wcell_next g2 hb1
  have k3 := wcell_next g3 hb1
  have k4 := wcell_next g4 hb1
  clear hb1 g2 g3 g4 HWE
  obtain ⟨x, hx⟩ : ∃ x, x = checkA fl.data.toList fd.data.toList := ⟨_, rfl⟩
  rw [← hx]
  rw [← hx] at HQ
  clear hx
  by_cases hx : x = 0
  · rw [if_neg (by simpa using hx)] at HQ
    subst hx
    go_wp2_with fail
    refine (check_any tl td w1 H3.out H4.out).mono ?_
    rintro e w2 ⟨rfl, hb2⟩
    simp only
    have HB2 := hid (HB1.out.trans (hb2.mono HB1.out.size))
    have HR2 := hid (low_heap hb2 HR1.out (by omega))
    have hs2 := hb2.size
    have d4 := wcell_next k4 hb2
    clear hb2 k2 k3 k4
    obtain ⟨y, hy⟩ : ∃ y, y = checkA tl.data.toList td.data.toList := ⟨_, rfl⟩
    rw [← hy]
    rw [← hy] at HQ
    clear hy
    by_cases hy : y = 0
    · rw [if_neg (by simpa using hy)] at HQ
      subst hy
      go_wp2_with fail
      refine (parse_new tx w2 H5.out (maxLenCell_below HM.out HB2.out)).mono ?_
      intro e w3 h3
      obtain ⟨P, hP⟩ : ∃ P, P = parseM tx.data.toList := ⟨_, rfl⟩
      rw [← hP] at h3
      rw [← hP] at HQ
      clear hP
      obtain ⟨fs, body, p, er⟩ := P
      obtain ⟨a3, c3, he3, hF, hfr, hb3⟩ := h3
      have HFr := hid (show FreshA w.heap.size a3 from fun b o q e => Nat.le_trans HB2.out.size (hfr b o q e))
      clear hfr
      have he3' : e = .returned (.tuple #[.agg #[.slice a3 fs.length c3, .string (S body)], .int .i64 p, .int .i64 er]) := he3
      subst he3'
      clear he3
      simp only
      have HB3 := hid (HB2.out.trans (hb3.mono HB2.out.size))
      have HF := hid hF
      have HR3 := hid (low_heap hb3 HR2.out (by omega))
      have HR4 := hid (jheap_old (.cells #[.slice a3 fs.length c3, .string (S body)] 49) HR3.out)
      have HA4 := hid (show Below w3.heap.size w3 (w3.alloc (.cells #[.slice a3 fs.length c3, .string (S body)] 49)) from (Below.refl _ _).alloc (Nat.le_refl _) _)
      obtain ⟨r0, r1, f0, f1⟩ := box2 HR4.out
      clear hb3 hF
      have HE := hid (show MsgN w q (.returned (.tuple #[.agg #[.slice a3 fs.length c3, .string (S body)], .int .i64 er])) (((w3.alloc (.cells #[.slice a3 fs.length c3, .string (S body)] 49)).setCell ⟨w.heap.size + 1, 0, none⟩ (.slice a3 fs.length c3)).setCell ⟨w.heap.size + 1, 1, none⟩ (.string (S body))) by
        rw [HQ.out]
        exact ⟨a3, c3, rfl, fields_box (HF.out.below HA4.out) HR4.out _ _, HFr.out, ((HB3.out.trans (HA4.out.mono HB3.out.size)).setCell (by simp) _).setCell (by simp) _⟩)
      go_wp2
      refine bodyPost_ret (v := .tuple #[.agg #[.slice a3 fs.length c3, .string (S body)], .int .i64 er]) (by simp [results, Tryz.results26, go_sem, *]) rfl ?_
      exact HE.out
    · rw [if_pos (by simpa using hy)] at HQ
      obtain ⟨r0, r1, f0, f1⟩ := box2 HR2.out
      go_wp2
      refine bodyPost_ret (v := .tuple #[.agg #[.slice none 0 0, .string ⟨#[]⟩], .int .i64 y]) (by simp [results, Tryz.results26, go_sem, *]) rfl ?_
      exact MsgN.bad HQ.out ((HB2.out.setCell (by simp) _).setCell (by simp) _)
  · rw [if_pos (by simpa using hx)] at HQ
    obtain ⟨r0, r1, f0, f1⟩ := box2 HR1.out
    go_wp2
    refine bodyPost_ret (v := .tuple #[.agg #[.slice none 0 0, .string ⟨#[]⟩], .int .i64 x]) (by simp [results, Tryz.results26, go_sem, *]) rfl ?_
    exact MsgN.bad HQ.out ((HB1.out.setCell (by simp) _).setCell (by simp) _)
theorem jcheck_any (fl fd tl td tx : ByteArray) (w : World) (h1 : fl.size ≤ 140737488355328) (h2 : fd.size ≤ 140737488355328) (h3 : tl.size ≤ 140737488355328) (h4 : td.size ≤ 140737488355328) (h5 : tx.size ≤ maxLen) (hm : maxLenCell w) :
    Calls Tryz.prog 26 #[.agg #[.string fl, .string fd, .string tl, .string td, .string tx]] w (MsgR w (judgeL fl.data.toList fd.data.toList tl.data.toList td.data.toList tx.data.toList)) :=
  (jcheck_new fl fd tl td tx w h1 h2 h3 h4 h5 hm).mono fun _ _ ⟨a, c, e1, e2, _, e3⟩ => ⟨a, c, e1, e2, e3⟩
end Go.Proofs.YtkciflocpelhiaaGreatDoor
