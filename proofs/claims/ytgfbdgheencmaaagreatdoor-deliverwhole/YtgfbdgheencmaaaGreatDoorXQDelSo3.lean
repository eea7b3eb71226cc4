/-
  The sorter of a letter: its methods walked.
-/
import Derived.Test.YtgfbdgheencmaaaGreatDoorXQJudChk6
set_option maxHeartbeats 1000000
set_option maxRecDepth 100000
namespace Go.Proofs.YtgfbdgheencmaaaGreatDoor
open Go.RowKit Go.Proofs
def SrtB (B p : Nat) (vb : Value) (o : Opn) (w : World) (es : List Ent) : Prop := ∃ ve, w.heap[p]? = some (.cells #[.string (S o.fl), .string (S o.fd), .string (S o.tl), .string (S o.td), .string (S o.tx), vb, ve] 76) ∧ w.ownsRow B 48 6 ve es.length (es.map entC).flatten ∧ ve.ownBlock ≠ some p ∧ B ≤ p
theorem SrtB.next {B p : Nat} {vb : Value} {o : Opn} {w w' : World} {es : List Ent} (h : SrtB B p vb o w es) (hb : Below w.heap.size w w') : SrtB B p vb o w' es := by
 obtain ⟨ve, h1, h2, h3, h4⟩ := h; exact ⟨ve, jY hb h1, jx h2 fun g hg => hb.block g (World.ownsRow.lt h2 g hg).2, h3, h4⟩
theorem SrtB.lt {B p : Nat} {vb : Value} {o : Opn} {w : World} {es : List Ent} (h : SrtB B p vb o w es) : B ≤ p ∧ p < w.heap.size := by
 obtain ⟨ve, h1, _, _, h4⟩ := h; exact ⟨h4, (Array.getElem?_eq_some_iff.1 h1).1⟩
theorem jgy {B : Nat} {w : World} {es : List Ent} {ve : Value} (h2 : w.ownsRow B 48 6 ve es.length (es.map entC).flatten) (hl : es.length ≤ 100) : EntsM (fun k => B ≤ k ∧ k < w.heap.size) w ve es :=
 vV h2 rfl (by unfold maxLen; omega) (by simp) (jI (k := 6) entC (fun _ => rfl) _) (fun q y cs hy hc => by rw [List.getElem?_map, hy] at hc; cases hc; rfl) (fun g hg => World.ownsRow.lt h2 g hg)
theorem box7 {w : World} {p : Nat} {v0 v1 v2 v3 v4 v5 v6 : Value} {t : TypeId} (h : w.heap[p]? = some (.cells #[v0, v1, v2, v3, v4, v5, v6] t)) : w.cell? ⟨p, 0, none⟩ = some v0 ∧ w.cell? ⟨p, 1, none⟩ = some v1 ∧ w.cell? ⟨p, 2, none⟩ = some v2 ∧ w.cell? ⟨p, 3, none⟩ = some v3 ∧ w.cell? ⟨p, 4, none⟩ = some v4 ∧ w.cell? ⟨p, 5, none⟩ = some v5 ∧ w.cell? ⟨p, 6, none⟩ = some v6 ∧ w.frozen? ⟨p, 6, none⟩ = false := by
 refine ⟨?_, ?_, ?_, ?_, ?_, ?_, ?_, ?_⟩ <;> simp [World.cell?, World.frozen?, h]
def SrtF (p : Nat) (w w' : World) : Prop := ∀ k, k < w.heap.size → k ≠ p → (∀ ve, w.cell? ⟨p, 6, none⟩ = some ve → ve.ownBlock ≠ some k) → w'.heap[k]? = w.heap[k]?
theorem SrtF.of_below {p : Nat} {w w' : World} (h : Below w.heap.size w w') : SrtF p w w' := fun k hk _ _ => h.block k hk
theorem jj9 {B p gm cm : Nat} {w w1 w5 : World} {vb ve : Value} {o : Opn} {es : List Ent} {x : Ent}
 (hp : w.heap[p]? = some (.cells #[.string (S o.fl), .string (S o.fd), .string (S o.tl), .string (S o.td), .string (S o.tx), vb, ve] 76)) (hO : w.ownsRow B 48 6 ve es.length (es.map entC).flatten) (hn : ve.ownBlock ≠ some p) (hBp : B ≤ p) (hw1 : Below w.heap.size w w1) (hgrow : w1.grownBy w5 ve.ownBlock)
 (hown : w5.ownsRow B 48 6 (.slice (some ⟨gm, 0, none⟩) (es.length + 1) cm) (es.length + 1) ((es.map entC).flatten ++ entC x)) (hat : ve.ownBlock = some gm ∨ gm = w1.heap.size) :
 SrtB B p vb o (w5.setCell ⟨p, 6, none⟩ (.slice (some ⟨gm, 0, none⟩) (es.length + 1) cm)) (es ++ [x]) ∧ Below B w (w5.setCell ⟨p, 6, none⟩ (.slice (some ⟨gm, 0, none⟩) (es.length + 1) cm)) ∧ SrtF p w (w5.setCell ⟨p, 6, none⟩ (.slice (some ⟨gm, 0, none⟩) (es.length + 1) cm)) := by
 have hsz : w.heap.size ≤ w1.heap.size := hw1.size; have hk5 : ∀ k, k < w.heap.size → some k ≠ ve.ownBlock → w5.heap[k]? = w.heap[k]? := fun k hk hne => (hgrow.block k (by omega) hne).trans (hw1.block k hk)
 have hpl : p < w.heap.size := (Array.getElem?_eq_some_iff.1 hp).1; have hp5 := (hk5 p hpl fun e => hn e.symm).trans hp; have hgp : gm ≠ p := fun e => by
  rcases hat with h | h
  · exact hn (by rw [h, e])
  · omega
 have hset := heap_setCell_same w5 p 6 _ 76 (.slice (some ⟨gm, 0, none⟩) (es.length + 1) cm) hp5; refine ⟨⟨.slice (some ⟨gm, 0, none⟩) (es.length + 1) cm, by rw [hset]; rfl, ?_, (fun e => hgp (Option.some.inj e)), hBp⟩, ?_, fun k hk hkp hv => (jk hkp).trans (hk5 k hk fun e => hv ve (box7 hp).2.2.2.2.2.2.1 e.symm)⟩
 · show World.ownsRow _ B _ 6 _ (es ++ [x]).length ((es ++ [x]).map entC).flatten
   rw [jjM]; refine jx (w := w5) (by simpa using hown) fun k hk => ?_
   have e : gm = k := Option.some.inj hk; exact jk (by omega)
 · have h5 : Below B w w5 := ⟨hgrow.os.trans hw1.os, hgrow.tape.trans hw1.tape, hgrow.output.trans hw1.output, Nat.le_trans hsz hgrow.size, fun k hk => hk5 k (by omega) fun e => by have := (World.ownsRow.lt hO k e.symm).1; omega⟩; exact h5.setCell hBp _
def SrtR (B p : Nat) (vb : Value) (o : Opn) (w : World) (es : List Ent) (e : Ending) (w' : World) : Prop := (∃ v, e = .returned v) ∧ SrtB B p vb o w' es ∧ Below B w w' ∧ SrtF p w w'
theorem SrtR.heap {B p : Nat} {vb ve : Value} {o : Opn} {w w' : World} {es : List Ent} {e : Ending} {k : Nat} {x : Obj} (h : SrtR B p vb o w es e w') (hk : w.heap[k]? = some x) (hp : k ≠ p) (hc : w.cell? ⟨p, 6, none⟩ = some ve) (hv : ve.ownBlock ≠ some k) : w'.heap[k]? = some x :=
 (h.2.2.2 k (Array.getElem?_eq_some_iff.1 hk).1 hp fun u hu => by rw [hc] at hu; cases hu; exact hv).trans hk
theorem jbs (B p : Nat) (vb : Value) (o : Opn) (es : List Ent) (tt tx : List UInt8) (w : World) (h : SrtB B p vb o w es) (hl : es.length ≤ 100) :
 Calls Tryz.prog 38 #[.pointer (some ⟨p, 0, none⟩), .string (S tt), .string (S tx)] w (SrtR B p vb o w (es ++ [outE tt tx])) := by
 obtain ⟨hBp, hpl⟩ := h.lt; obtain ⟨ve, hp, hO, hn, _⟩ := h; obtain ⟨av, cv, rfl⟩ := js hO; obtain ⟨i0, hi, hz0, hz1, hz2⟩ := info_parts jgo; obtain ⟨c0, c1, c2, c3, c4, c5, c6, f6⟩ := box7 hp; have HP := hid hp; have HO := hid hO; have HN := hid hn; clear hp hO hn; go_enter Tryz.func38, Tryz.ntmps38
 go_wp2_with (first
  | (at_builtin; refine wpList_append_lies _ rfl _ _ 30 rfl B 48 i0 _ 6 72 Tryz.underlying30 hi hz0 hz1 hz2 rfl (by omega) (.slice av es.length cv) es.length ((es.map entC).flatten) rfl (World.ownsRow.alloc HO.out _) ⟨w.heap.size, 0, none⟩ 1 1 (entC (outE tt tx)) rfl rfl (jcc w _ _ _ _ _ _ _) ?c1 (by omega) ?c2 ?c3 ?c4 _ rfl ?_)
  | fail)
 case c1 => simp [entC, Value.oneCell']
 case c2 => unfold maxLen; omega
 case c3 => omega
 case c4 => simp; omega
 intro gm cap w5 hown hgrow hat hlt5; have hpn : some p ≠ (Value.slice av es.length cv).ownBlock := fun e => HN.out e.symm
 have HEN := hid (jj9 HP.out HO.out HN.out hBp (nb0 _ _) hgrow hown (by simpa using hat)); have z6 := hgrow.cell (a := ⟨p, 6, none⟩) (jz c6 _) hpn; have zf6 : w5.frozen? ⟨p, 6, none⟩ = false := (World.frozen?_of_block (hgrow.block p (by simp; omega) hpn)).trans (jV f6 c6 (nb0 _ _)); clear hown hgrow hat hlt5; go_wp2; go_end0; exact ⟨⟨_, rfl⟩, HEN.out⟩
theorem jdZ (p : Nat) (vb ve : Value) (o : Opn) (w : World) (hp : w.heap[p]? = some (.cells #[.string (S o.fl), .string (S o.fd), .string (S o.tl), .string (S o.td), .string (S o.tx), vb, ve] 76)) (h1 : o.fl.length ≤ 2000) (h2 : o.fd.length ≤ 2000) :
 Calls Tryz.prog 39 #[.pointer (some ⟨p, 0, none⟩)] w fun e w' => e = .returned (.string (S (qx 1 o.fl o.fd).1)) ∧ Below w.heap.size w w' := by
 obtain ⟨c0, c1, c2, c3, c4, c5, c6, f6⟩ := box7 hp; have HC := hid (jdS 1 (S o.fl) (S o.fd) w (by rw [ju]; omega) (by rw [ju]; omega)); rw [jt, jt] at HC; generalize qx 1 o.fl o.fd = q at *; clear hp h1 h2; go_enter Tryz.func39, Tryz.ntmps39; go_wp2_with fail; refine HC.out.mono ?_; rintro e w1 ⟨rfl, hb⟩; simp only; have HB := hid hb; clear hb; go_wp2; go_ret; exact ⟨rfl, HB.out⟩
theorem joI (l : List Bx) (p : Bx → Bool) (a : Option Addr) (c f : Nat) (cap : Array Value) (eg : ∀ args w, (callFunc f args).run Tryz.prog w = .ok (.enter f args) w) (w : World) (Q : Nat → Prop) (hL : BoxsM Q w (.slice a l.length c) l)
 (hf : ∀ b v u, Below w.heap.size w u → Calls Tryz.prog f (#[.agg #[.string (S b.name), .int .i64 b.next, v]] ++ cap) u fun e u' => e = .returned (.bool (p b)) ∧ Below u.heap.size u u') :
 Calls Tryz.prog 72 #[.slice a l.length c, .func (.func f) #[] cap] w fun e w' => e = .returned (.bool (decide (0 ≤ idxZ p l))) ∧ Below w.heap.size w w' := by
 have HI := hid (jom l p a c f cap eg w Q hL hf); generalize idxZ p l = z at *; clear hL hf; go_enter Tryz.func72, Tryz.ntmps72; go_wp2_with fail; refine HI.out.mono ?_; rintro e w1 ⟨rfl, hb⟩; simp only; have HB := hid hb; clear hb; go_wp2; go_ret; exact ⟨by first | rfl | simp, HB.out⟩
theorem jk3 : ∀ args w, (callFunc 73 args).run Tryz.prog w = .ok (.enter 73 args) w := by intro args w; kernel_rfl
theorem jk4 : ∀ args w, (callFunc 71 args).run Tryz.prog w = .ok (.enter 71 args) w := by intro args w; kernel_rfl
theorem jfk (b : Bx) (v : Value) (q : Nat) (nm : List UInt8) (w : World) (hq : w.cell? ⟨q, 0, none⟩ = some (.string (S nm))) :
 Calls Tryz.prog 73 (#[.agg #[.string (S b.name), .int .i64 b.next, v]] ++ #[.pointer (some ⟨q, 0, none⟩)]) w fun e w' => e = .returned (.bool (isName nm b)) ∧ Below w.heap.size w w' := by
 have HB := hid (show Below w.heap.size w (w.alloc (.cells #[.string (S b.name), .int .i64 b.next, v] 54)) from nb0 _ _); have hq' := fun o : Obj => jz hq o
 have HE := hid (jbV b.name nm); clear hq; go_enter Tryz.func73, Tryz.ntmps73; go_wp2; go_ret; exact ⟨jg (by rw [isName, ← HE.out]), HB.out⟩
theorem jg1 (p : Nat) (ab : Option Addr) (cb : Nat) (ve : Value) (o : Opn) (bs : List Bx) (nm : List UInt8) (w : World) (Q : Nat → Prop) (hp : w.heap[p]? = some (.cells #[.string (S o.fl), .string (S o.fd), .string (S o.tl), .string (S o.td), .string (S o.tx), .slice ab bs.length cb, ve] 76)) (hB : BoxsM Q w (.slice ab bs.length cb) bs) :
 Calls Tryz.prog 37 #[.pointer (some ⟨p, 0, none⟩), .string (S nm)] w fun e w' => e = .returned (.string (S (boxFor bs nm))) ∧ Below w.heap.size w w' := by
 obtain ⟨W1, hW1⟩ : ∃ W1, W1 = w.alloc (.cells #[.string (S nm)] 9) := ⟨_, rfl⟩; have HWE := hid hW1; have hB1 : Below w.heap.size w W1 := by rw [hW1]; exact nb0 _ _
 have HB1 := hid hB1; obtain ⟨c0, c1, c2, c3, c4, c5, c6, f6⟩ := box7 (jY hB1 hp); have hn : W1.cell? ⟨w.heap.size, 0, none⟩ = some (.string (S nm)) := by rw [hW1]; simp
 have HCN := hid (joI bs (isName nm) ab cb 73 #[.pointer (some ⟨w.heap.size, 0, none⟩)] jk3 W1 Q (hB.next hB1) fun b v u hu => jfk b v _ nm u (jb hn hu)); have HF := hid (show boxFor bs nm = if 0 ≤ idxZ (isName nm) bs then nm else inbL from rfl); generalize boxFor bs nm = r at *; clear hp hB hB1 hW1; go_enter Tryz.func37, Tryz.ntmps37; go_upto_region 1 with fail
 rw [← HWE.out]; go_wp2_with fail; refine HCN.out.mono ?_; rintro e w1 ⟨rfl, hb⟩; have HB2 := hid (HB1.out.trans (hb.mono HB1.out.size)); have hn2 := jb hn hb; simp only; clear hb
 by_cases h : 0 ≤ idxZ (isName nm) bs
 · rw [if_pos h] at HF; go_wp2; go_ret; exact ⟨by rw [HF.out]; rfl, HB2.out⟩
 · rw [if_neg h] at HF; go_wp2; go_ret; exact ⟨by rw [HF.out]; rfl, HB2.out⟩
theorem jiT (x : Ent) (q : Nat) (nm : List UInt8) (w : World) (hq : w.cell? ⟨q, 0, none⟩ = some (.string (S nm))) :
 Calls Tryz.prog 71 (#[.agg #[.int .i64 x.kind, .string (S x.box), .int .i64 x.uid, .int .i64 x.flags, .string (S x.goal), .string (S x.text)]] ++ #[.pointer (some ⟨q, 0, none⟩)]) w fun e w' => e = .returned (.bool (jcO nm x)) ∧ Below w.heap.size w w' := by
 have HB := hid (show Below w.heap.size w (w.alloc (.cells #[.int .i64 x.kind, .string (S x.box), .int .i64 x.uid, .int .i64 x.flags, .string (S x.goal), .string (S x.text)] 48)) from nb0 _ _); have hq' := fun o : Obj => jz hq o
 have HE := hid (jbV x.box nm); have HA := hid (show jcO nm x = (decide (x.kind = 2) && decide (x.box = nm)) from rfl); generalize jcO nm x = r at *; clear hq
 by_cases hk : x.kind = 2
 · have hkb : (x.kind == 2) = true := by simpa using hk
   have HK := hid hk; rw [decide_eq_true hk, Bool.true_and] at HA; clear hk; go_enter Tryz.func71, Tryz.ntmps71; go_wp2; go_ret; exact ⟨jg (by rw [HA.out, ← HE.out]), HB.out⟩
 · have hkb : (x.kind == 2) = false := by simpa using hk
   have HK := hid hk; rw [decide_eq_false hk, Bool.false_and] at HA; clear hk; go_enter Tryz.func71, Tryz.ntmps71; go_wp2; go_ret; exact ⟨by rw [HA.out]; first | rfl | simp, HB.out⟩
theorem jh6 (B p : Nat) (vb : Value) (o : Opn) (es : List Ent) (q : Nat) (nm : List UInt8) (w : World) (h : SrtB B p vb o w es) (hl : es.length ≤ 100) (hq : w.cell? ⟨q, 0, none⟩ = some (.string (S nm))) :
 Calls Tryz.prog 70 #[.pointer (some ⟨p, 0, none⟩), .func (.func 71) #[] #[.pointer (some ⟨q, 0, none⟩)]] w fun e w' => e = .returned (.bool (decide (0 ≤ idxZ (jcO nm) es))) ∧ Below w.heap.size w w' := by
 obtain ⟨ve, hp, hO, hn, _⟩ := h; obtain ⟨av, cv, rfl⟩ := js hO; obtain ⟨c0, c1, c2, c3, c4, c5, c6, f6⟩ := box7 hp; have HCN := hid (jn9 es (jcO nm) av cv 71 #[.pointer (some ⟨q, 0, none⟩)] jk4 w _ (jgy hO hl) fun x u _ hu => jiT x q nm u (jb hq hu)); clear hp hO hn hq; go_enter Tryz.func70, Tryz.ntmps70; go_wp2_with fail; refine HCN.out.mono ?_; rintro e w1 ⟨rfl, hb⟩; have HB := hid hb; simp only; clear hb; go_wp2; go_ret; exact ⟨rfl, HB.out⟩
theorem jcu (B p : Nat) (vb : Value) (o : Opn) (es : List Ent) (nm : List UInt8) (f : Int) (w : World) (h : SrtB B p vb o w es) (hl : es.length ≤ 99) :
 Calls Tryz.prog 36 #[.pointer (some ⟨p, 0, none⟩), .string (S nm), .int .i64 f] w (SrtR B p vb o w (jcI o.tx es nm f)) := by
 obtain ⟨hBp, hpl⟩ := h.lt; obtain ⟨W1, hW1⟩ : ∃ W1, W1 = w.alloc (.cells #[.string (S nm)] 9) := ⟨_, rfl⟩; have HWE := hid hW1; have hB1 : Below w.heap.size w W1 := by rw [hW1]; exact nb0 _ _
 have HB1 := hid hB1; have n0 : W1.cell? ⟨w.heap.size, 0, none⟩ = some (.string (S nm)) := by rw [hW1]; simp
 have HH := hid (jh6 B p vb o es w.heap.size nm W1 (h.next hB1) (by omega) n0); have HF := hid (show jcI o.tx es nm f = if 0 ≤ idxZ (jcO nm) es then es else es ++ [appE nm f o.tx] from rfl); generalize jcI o.tx es nm f = r at *; obtain ⟨ve, hp, hO, hn, _⟩ := h; obtain ⟨av, cv, rfl⟩ := js hO; obtain ⟨i0, hi, hz0, hz1, hz2⟩ := info_parts jgo; have HP := hid hp; have HO := hid hO; have HN := hid hn; have hpn : some p ≠ (Value.slice av es.length cv).ownBlock := fun e => hn e.symm
 clear hp hO hn hW1 hB1; go_enter Tryz.func36, Tryz.ntmps36; go_upto_region 1 with fail
 rw [← HWE.out]; go_wp2_with fail; refine HH.out.mono ?_; rintro e w2 ⟨rfl, hb2⟩; simp only; have HB2 := hid (show Below w.heap.size w w2 from HB1.out.trans (hb2.mono HB1.out.size)); have n2 := jb n0 hb2; clear hb2
 by_cases hd : 0 ≤ idxZ (jcO nm) es
 · rw [if_pos hd] at HF; have HE := hid (show SrtR B p vb o w r (.returned (.tuple #[])) w2 by
    rw [HF.out]; exact ⟨⟨_, rfl⟩, SrtB.next ⟨_, HP.out, HO.out, HN.out, hBp⟩ HB2.out, HB2.out.mono (Nat.le_trans hBp (Nat.le_of_lt hpl)), SrtF.of_below HB2.out⟩)
   go_wp2; go_end0; exact ⟨⟨_, rfl⟩, HE.out.2⟩
 · rw [if_neg hd] at HF; obtain ⟨c0, c1, c2, c3, c4, c5, c6, f6⟩ := box7 (jY HB2.out HP.out); have HOM := hid (show w2.ownsRow B 48 6 (.slice av es.length cv) es.length (es.map entC).flatten from jx HO.out fun g hg => HB2.out.block g (World.ownsRow.lt HO.out g hg).2); have hsz2 := HB2.out.size; have c6a : ∀ x : Obj, (w2.alloc x).cell? ⟨p, 6, none⟩ = some (.slice av es.length cv) := fun x => jz c6 x
   have c4a : ∀ x : Obj, (w2.alloc x).cell? ⟨p, 4, none⟩ = some (.string (S o.tx)) := fun x => jz c4 x
   have n2a : ∀ x : Obj, (w2.alloc x).cell? ⟨w.heap.size, 0, none⟩ = some (.string (S nm)) := fun x => jz n2 x
   go_wp2
   go_region_law
    (first
       | (refine step_append_lies _ (by rfl) _ _ _ (by rfl) B 48 i0 _ 6 72 Tryz.underlying30 hi hz0 hz1 hz2 rfl (by omega) (.slice av es.length cv) es.length ((es.map entC).flatten) (by rfl) (by first | exact World.ownsRow.alloc (show World.ownsRow w2.drew _ _ _ _ _ _ from HOM.out) _ | exact (World.ownsRow.alloc HOM.out _).drew)
             ⟨w2.heap.size, 0, none⟩ 1 1 (entC (appE nm f o.tx)) (by rfl) (by rfl) (by first | exact jcc w2.drew _ _ _ _ _ _ _ | exact jcc w2 _ _ _ _ _ _ _) (by simp [entC, Value.oneCell']) (by omega) (by unfold maxLen; omega) (by omega) (by simp; omega) _ rfl ?_
          intro gm cap w5 hown5 hgrow hat hlt5; have z1 := hgrow.cell (a := ⟨p, 6, none⟩) (jz (w := w2.drew) c6 _) hpn; have zf1 : w5.frozen? ⟨p, 6, none⟩ = false := (World.frozen?_of_block (hgrow.block p (by simp; omega) hpn)).trans (jV (w := w2.drew) f6 c6 (nb0 _ _)); have HWA := hid (show Below w.heap.size w (w2.drew.alloc (.cells #[.int .i64 2, .string (S nm), .int .i64 0, .int .i64 f, .string ByteArray.empty, .string (S o.tx)] 48)) from HB2.out.drew.alloc HB2.out.size _); have HEN := hid (jj9 HP.out HO.out HN.out hBp HWA.out hgrow hown5 hat); clear hown5 hgrow hat)
       | fail)
   all_goals
    have HFF := hid (show SrtR B p vb o w r (.returned (.tuple #[])) (w5.setCell ⟨p, 6, none⟩ (.slice (some ⟨gm, 0, none⟩) (es.length + 1) cap)) by rw [HF.out]; exact ⟨⟨_, rfl⟩, HEN.out⟩); go_wp2; go_end0; exact ⟨⟨_, rfl⟩, HFF.out.2⟩
theorem jj8 (B p : Nat) (ab : Option Addr) (cb : Nat) (o : Opn) (bs : List Bx) (es : List Ent) (a : Atn) (w : World) (h : SrtB B p (.slice ab bs.length cb) o w es) (hl : es.length ≤ 90) (hB : BoxsM (fun k => k < B) w (.slice ab bs.length cb) bs) (h1 : o.fl.length ≤ 2000) (h2 : o.fd.length ≤ 2000) :
 Calls Tryz.prog 20 #[.pointer (some ⟨p, 0, none⟩), .agg #[.int .i64 a.kind, .string (S a.text), .int .i64 a.flags]] w (SrtR B p (.slice ab bs.length cb) o w (jaW bs o es a)) := by
 obtain ⟨hBp, hpl⟩ := h.lt; obtain ⟨W1, hW1⟩ : ∃ W1, W1 = w.alloc (.cells #[.int .i64 a.kind, .string (S a.text), .int .i64 a.flags] 78) := ⟨_, rfl⟩; have HWE := hid hW1; have hB1 : Below w.heap.size w W1 := by rw [hW1]; exact nb0 _ _
 have HB1 := hid hB1; have HBB := hid (hB1.mono (show B ≤ w.heap.size by omega)); obtain ⟨a0, a1, a2⟩ : W1.cell? ⟨w.heap.size, 0, none⟩ = some (.int .i64 a.kind) ∧ W1.cell? ⟨w.heap.size, 1, none⟩ = some (.string (S a.text)) ∧ W1.cell? ⟨w.heap.size, 2, none⟩ = some (.int .i64 a.flags) := by rw [hW1]; refine ⟨?_, ?_, ?_⟩ <;> simp
 have hX1 : W1.heap[w.heap.size]? = some (.cells #[.int .i64 a.kind, .string (S a.text), .int .i64 a.flags] 78) := by rw [hW1]; exact jX _ rfl
 have HX1 := hid hX1; have HNP := hid (show w.heap.size ≠ p by omega); have HNV := hid (show ∀ ve, W1.cell? ⟨p, 6, none⟩ = some ve → ve.ownBlock ≠ some w.heap.size by
  obtain ⟨vx, q1, q2, _, _⟩ := h; intro ve hve e; have h6 := jb (box7 q1).2.2.2.2.2.2.1 hB1; rw [h6] at hve; cases hve; have := (World.ownsRow.lt q2 _ e).2; omega)
 have HSF := hid (show ∀ u, SrtF p W1 u → SrtF p w u from fun u hu k hk hkp hv => (hu k (by have := hB1.size; omega) hkp fun vx hvx => by
  refine hv vx ?_; rw [← hvx]; exact (World.cell?_of_block (hB1.block p hpl)).symm).trans (hB1.block k hk))
 have HS1 := hid (h.next hB1); have HBx := hid (hB.next hB1); obtain ⟨ve, hp1, _, _, _⟩ := HS1.out; have HPX := hid hp1; obtain ⟨c0, c1, c2, c3, c4, c5, c6, f6⟩ := box7 hp1; have HGO := hid (show ∀ u, Below W1.heap.size W1 u → ∀ x, SrtF p u x → x.heap[w.heap.size]? = some (.cells #[.int .i64 a.kind, .string (S a.text), .int .i64 a.flags] 78) ∧ SrtF p w x from fun u hu x hx => by
  have c6' := jb c6 hu; refine ⟨(hx _ (Array.getElem?_eq_some_iff.1 (jF hu HX1.out)).1 HNP.out fun vx hvx => ?_).trans (jF hu HX1.out), HSF.out _ fun k hk hkp hv => (hx k (by have := hu.size; omega) hkp fun vx hvx => ?_).trans (hu.block k hk)⟩
  · rw [c6'] at hvx; cases hvx; exact HNV.out _ c6
  · rw [c6'] at hvx; cases hvx; exact hv _ c6)
 obtain ⟨r, hr⟩ : ∃ r, r = jaW bs o es a := ⟨_, rfl⟩; have HR := hid hr; rw [← hr]; unfold jaW at HR; clear h hB hB1 hW1 hp1 hr hX1
 by_cases k3 : a.kind = 3
 · have kb : (a.kind == 3) = true := by simpa using k3
   rw [if_pos k3] at HR; have HC := hid (show Calls Tryz.prog 36 #[.pointer (some ⟨p, 0, none⟩), .string ⟨#[73, 78, 66, 79, 88]⟩, .int .i64 a.flags] W1 (SrtR B p (.slice ab bs.length cb) o W1 r) by rw [HR.out]; exact jcu B p _ o es inbL a.flags W1 HS1.out (by omega)); have HK := hid k3; clear k3; go_enter Tryz.func20, Tryz.ntmps20; go_upto_region 1 with fail
   rw [← HWE.out]; go_wp2_with fail; refine HC.out.mono ?_; rintro e w2 ⟨⟨v, rfl⟩, hS2, hb2, hf2⟩; have HE := hid (show SrtR B p (.slice ab bs.length cb) o w r (.returned v) w2 from ⟨⟨_, rfl⟩, hS2, HBB.out.trans hb2, HSF.out _ hf2⟩); clear hS2 hb2 hf2; go_wp2; go_end0; exact ⟨⟨_, rfl⟩, HE.out.2⟩
 · rw [if_neg k3] at HR; have kb3 : (a.kind == 3) = false := by simpa using k3
   have HK3 := hid k3; clear k3
   by_cases k5 : a.kind = 5
   · have kb : (a.kind == 5) = true := by simpa using k5
     rw [if_pos k5] at HR; have HC := hid (jg1 p ab cb ve o bs a.text W1.drew _ HPX.out HBx.out); have HD := hid (fun u (hu : Below W1.heap.size W1 u) => show Calls Tryz.prog 36 #[.pointer (some ⟨p, 0, none⟩), .string (S (boxFor bs a.text)), .int .i64 a.flags] u (SrtR B p (.slice ab bs.length cb) o u r) by rw [HR.out]; exact jcu B p _ o es _ a.flags u (HS1.out.next hu) (by omega)); have HK := hid k5; generalize boxFor bs a.text = nm at *; clear k5; go_enter Tryz.func20, Tryz.ntmps20; go_upto_region 1 with fail
     rw [← HWE.out]; go_wp2_with fail
     go_region_held3 (fun w' => w'.cell? ⟨w.heap.size, 1, none⟩ = some (.string (S a.text)) ∧ w'.cell? ⟨w.heap.size, 2, none⟩ = some (.int .i64 a.flags)) (first | go_keep | fail)
       (first
         | (go_at_call 37
            with_reducible refine HC.out.mono ?_
            rintro e w2 ⟨rfl, hb2⟩; have HB2 := hid (show Below W1.heap.size W1 w2 from ((Below.refl W1.heap.size W1).drew).trans hb2); have HD2 := hid (HD.out w2 HB2.out); have HG2 := hid (HGO.out w2 HB2.out); have m1 := jb a1 HB2.out; have m2 := jb a2 HB2.out; clear hb2)
         | (go_at_call 36
            with_reducible refine HD2.out.mono ?_
            rintro e w3 ⟨⟨v, rfl⟩, hS3, hb3, hf3⟩; have hx3 := HG2.out w3 hf3; have m1 := jc (j := 1) hx3.1 rfl; have m2 := jc (j := 2) hx3.1 rfl; have HE := hid (show SrtR B p (.slice ab bs.length cb) o w r (.returned v) w3 from ⟨⟨_, rfl⟩, hS3, (HBB.out.trans (HB2.out.mono (by have := HB1.out.size; omega))).trans hb3, hx3.2⟩); clear hS3 hb3 hf3 hx3)
         | fail)
     all_goals
       go_wp2; go_end0; exact ⟨⟨_, rfl⟩, HE.out.2⟩
   · rw [if_neg k5] at HR; have kb5 : (a.kind == 5) = false := by simpa using k5
     have HK5 := hid k5; clear k5
     by_cases k6 : a.kind = 6
     · have kb : (a.kind == 6) = true := by simpa using k6
       rw [if_pos k6] at HR; have HC := hid (show Calls Tryz.prog 38 #[.pointer (some ⟨p, 0, none⟩), .string (S a.text), .string (S o.tx)] W1.drew (SrtR B p (.slice ab bs.length cb) o W1.drew r) by rw [HR.out]; exact jbs B p _ o es a.text o.tx W1.drew HS1.out (by omega)); have HK := hid k6; clear k6; go_enter Tryz.func20, Tryz.ntmps20; go_upto_region 1 with fail
       rw [← HWE.out]; go_wp2_with fail
       go_region_held3 (fun w' => w'.cell? ⟨w.heap.size, 1, none⟩ = some (.string (S a.text)) ∧ w'.cell? ⟨p, 4, none⟩ = some (.string (S o.tx))) (first | go_keep | fail)
         (first
            | (go_at_call 38
               with_reducible refine HC.out.mono ?_
               rintro e w3 ⟨⟨v, rfl⟩, hS3, hb3, hf3⟩; have hx3 := HGO.out W1 (Below.refl _ _) w3 hf3; have m1 := jc (j := 1) hx3.1 rfl; obtain ⟨_, hq3, _⟩ := id hS3; have m4 := (box7 hq3).2.2.2.2.1; have HE := hid (show SrtR B p (.slice ab bs.length cb) o w r (.returned v) w3 from ⟨⟨_, rfl⟩, hS3, HBB.out.trans (((Below.refl B W1).drew).trans hb3), hx3.2⟩); clear hS3 hb3 hf3 hx3 hq3)
            | fail)
       all_goals
         go_wp2; go_end0; exact ⟨⟨_, rfl⟩, HE.out.2⟩
     · rw [if_neg k6] at HR; have kb6 : (a.kind == 6) = false := by simpa using k6
       have HK6 := hid k6; clear k6
       by_cases k7 : a.kind = 7
       · have kb : (a.kind == 7) = true := by simpa using k7
         rw [if_pos k7] at HR; have HC := hid (jdZ p _ ve o W1.drew HPX.out h1 h2); have HD := hid (fun u (hu : Below W1.heap.size W1 u) => show Calls Tryz.prog 38 #[.pointer (some ⟨p, 0, none⟩), .string (S (qx 1 o.fl o.fd).1), .string (S a.text)] u (SrtR B p (.slice ab bs.length cb) o u r) by rw [HR.out]; exact jbs B p _ o es _ a.text u (HS1.out.next hu) (by omega)); have HK := hid k7; generalize (qx 1 o.fl o.fd).1 = nm at *; clear k7; go_enter Tryz.func20, Tryz.ntmps20; go_upto_region 1 with fail
         rw [← HWE.out]; go_wp2_with fail
         go_region_held3 (fun w' => w'.cell? ⟨w.heap.size, 1, none⟩ = some (.string (S a.text))) (first | go_keep | fail)
           (first
             | (go_at_call 39
                with_reducible refine HC.out.mono ?_
                rintro e w2 ⟨rfl, hb2⟩; have HB2 := hid (show Below W1.heap.size W1 w2 from ((Below.refl W1.heap.size W1).drew).trans hb2); have HD2 := hid (HD.out w2 HB2.out); have HG2 := hid (HGO.out w2 HB2.out); have m1 := jb a1 HB2.out; clear hb2)
             | (go_at_call 38
                with_reducible refine HD2.out.mono ?_
                rintro e w3 ⟨⟨v, rfl⟩, hS3, hb3, hf3⟩; have hx3 := HG2.out w3 hf3; have m1 := jc (j := 1) hx3.1 rfl; have HE := hid (show SrtR B p (.slice ab bs.length cb) o w r (.returned v) w3 from ⟨⟨_, rfl⟩, hS3, (HBB.out.trans (HB2.out.mono (by have := HB1.out.size; omega))).trans hb3, hx3.2⟩); clear hS3 hb3 hf3 hx3)
             | fail)
         all_goals
           go_wp2; go_end0; exact ⟨⟨_, rfl⟩, HE.out.2⟩
       · rw [if_neg k7] at HR; have kb7 : (a.kind == 7) = false := by simpa using k7
         have HK7 := hid k7; clear k7; have HE := hid (show SrtB B p (.slice ab bs.length cb) o W1 r by rw [HR.out]; exact HS1.out); go_enter Tryz.func20, Tryz.ntmps20; go_upto_region 1 with fail
         rw [← HWE.out]; go_wp2_with fail; go_end0; exact ⟨⟨_, rfl⟩, HE.out, HBB.out, SrtF.of_below HB1.out⟩
theorem jd9 (n : Nat) (l : List Cmd) (a : Option Addr) (k : Nat) (o : Opn) (w : World) (hw : Tabs w) (hm : maxLenCell w) (hj : jau o) (hk : l.length ≤ k) (hn : l = [] → a = none ∧ k = 0) (hs : ∀ x ∈ l, vw (n + 1) x) (hC : CmdsM anyB (n + 1) w (.slice a l.length k) l) (hr : jdV (n + 1) l = 0) (hg : ∀ x ∈ l, jcM (n + 1) x) :
 Calls Tryz.prog 19 #[.agg #[.string (S o.fl), .string (S o.fd), .string (S o.tl), .string (S o.td), .string (S o.tx)], .slice a l.length k] w (EndR w (endP (vT o (n + 1) l))) := by
 obtain ⟨W1, hW1⟩ : ∃ W1, W1 = w.alloc (.cells #[.string (S o.fl), .string (S o.fd), .string (S o.tl), .string (S o.td), .string (S o.tx)] 37) := ⟨_, rfl⟩; have HWE := hid hW1; have hB1 : Below w.heap.size w W1 := by rw [hW1]; exact nb0 _ _
 have HB1 := hid hB1; have hX1 : W1.heap[w.heap.size]? = some (.cells #[.string (S o.fl), .string (S o.fd), .string (S o.tl), .string (S o.td), .string (S o.tx)] 37) := by rw [hW1]; exact jX _ rfl
 have l0 := jc (j := 0) hX1 rfl; have l1 := jc (j := 1) hX1 rfl; have l2 := jc (j := 2) hX1 rfl; have l3 := jc (j := 3) hX1 rfl; have l4 := jc (j := 4) hX1 rfl; have HJ := hid (jkF n l a k o W1 (hw.next hB1) (maxLenCell_below hm hB1) hj hk hn hs (CmdsM.next hC hB1) hr hg); have HOK := hid (jdF o (n + 1) l); generalize vT o (n + 1) l = c at *; clear hw hm hj hk hn hs hC hr hg hW1 hB1 hX1; go_enter Tryz.func19, Tryz.ntmps19; go_upto_region 1 with fail
 rw [← HWE.out]; go_wp2_with fail; refine HJ.out.mono ?_; rintro e w2 ⟨ac, kc, rfl, hA2, hn2, hb2⟩; simp only; obtain ⟨W3, hW3⟩ : ∃ W3, W3 = w2.alloc (.cells #[.slice ac c.acts.length kc, .int .i64 c.flags, .bool c.asked, .int .i64 c.fault] 108) := ⟨_, rfl⟩; have HWE3 := hid hW3; have hB3 : Below w2.heap.size w2 W3 := by rw [hW3]; exact nb0 _ _
 have HB3 := hid (show Below w.heap.size w W3 from (HB1.out.trans (hb2.mono HB1.out.size)).trans (hB3.mono (Nat.le_trans HB1.out.size hb2.size))); have hX3 : W3.heap[w2.heap.size]? = some (.cells #[.slice ac c.acts.length kc, .int .i64 c.flags, .bool c.asked, .int .i64 c.fault] 108) := by rw [hW3]; exact jX _ rfl
 have m0 := jc (j := 0) hX3 rfl; have m1 := jc (j := 1) hX3 rfl; have m2 := jc (j := 2) hX3 rfl; have m3 := jc (j := 3) hX3 rfl; have HE := hid (jnT c ac kc W3 (AtnsM.next hA2 hB3) hn2 HOK.out); clear hA2 hn2 hb2 hW3 hB3 hX3; go_upto_region 2 with fail
 rw [← HWE3.out]; go_wp2_with fail; refine HE.out.mono ?_; rintro e w4 ⟨ax, kx, rfl, hA4, hb4⟩; simp only; have HF := hid (show EndR w (endP c) (.returned (.tuple #[.slice ax (endP c).length kx, .int .i64 0])) w4 from ⟨ax, kx, rfl, hA4, HB3.out.trans (hb4.mono HB3.out.size)⟩); generalize endP c = q at *; clear hA4 hb4; go_wp2; go_ret2; exact HF.out
theorem jiL {c : Crs} (h : jap c) : (endP c).length ≤ 6 := by
 unfold endP; split
 · simp
 · split
   · simp
   · exact h.1
theorem jkI : ∀ {l : List Ent} {s : Stt} {z : Int}, allM s l = .error z → z ≠ 0 := by
 intro l
 induction l with
 | nil => intro s z h; cases h
 | cons x l ih =>
   intro s z h; have h1 := jdr [x] l s; rw [jds, List.singleton_append, h] at h1; cases hd : doM s x with
   | error e => rw [hd] at h1; cases h1; exact jfA hd
   | ok s' => rw [hd] at h1; exact ih h1.symm
theorem jhg (n : Nat) (l : List Cmd) (a : Option Addr) (k : Nat) (o : Opn) (s : Stt) (vb vs : Value) (w : World) (hw : Tabs w) (hm : maxLenCell w) (hj : jau o) (hk : l.length ≤ k) (hn : l = [] → a = none ∧ k = 0) (hs : ∀ x ∈ l, vw (n + 1) x) (hC : CmdsM anyB (n + 1) w (.slice a l.length k) l) (hr : jdV (n + 1) l = 0) (hg : ∀ x ∈ l, jcM (n + 1) x) (Q : Nat → Prop) (hS : SttM Q w vb vs s) (hM : May s) (es : List Ent) (hes : es = plan s.boxes o (endP (vT o (n + 1) l))) (hF : ∀ x ∈ es, Formed x) :
 Calls Tryz.prog 6 #[.agg #[vb, vs], .agg #[.string (S o.fl), .string (S o.fd), .string (S o.tl), .string (S o.td), .string (S o.tx)], .slice a l.length k] w (DlvP w s es) := by
 obtain ⟨ab, cb, rfl⟩ := RowM.slice hS.1; obtain ⟨aq, cq, rfl⟩ := RowM.slice hS.2.1; obtain ⟨W1, hW1⟩ : ∃ W1, W1 = ((w.alloc (.cells #[.slice ab s.boxes.length cb, .slice aq s.spool.length cq] 32)).alloc (.cells #[.string (S o.fl), .string (S o.fd), .string (S o.tl), .string (S o.td), .string (S o.tx)] 37)).alloc (.cells #[.slice none 0 0, .slice none 0 0] 32) := ⟨_, rfl⟩; have HWE := hid hW1; have hB1 : Below w.heap.size w W1 := by rw [hW1]; exact ((nb0 _ _).alloc (by simp) _).alloc (by simp; omega) _
 have HB1 := hid hB1; have hs1 : W1.heap.size = w.heap.size + 3 := by rw [hW1]; simp
 have HX1 := hid (show W1.heap[w.heap.size]? = some (.cells #[.slice ab s.boxes.length cb, .slice aq s.spool.length cq] 32) by rw [hW1]; exact qm _ (qm _ (jX _ rfl))); have HL1 := hid (show W1.heap[w.heap.size + 1]? = some (.cells #[.string (S o.fl), .string (S o.fd), .string (S o.tl), .string (S o.td), .string (S o.tx)] 37) by rw [hW1]; exact qm _ (jX _ (by simp))); have HZ1 := hid (show W1.heap[w.heap.size + 2]? = some (.cells #[.slice none 0 0, .slice none 0 0] 32) by rw [hW1]; exact jX _ (by simp)); have x0 := jc (j := 0) HX1.out rfl; have x1 := jc (j := 1) HX1.out rfl; have HS1 := hid (hS.next hB1); have HCK := hid (jge s _ _ W1 Q HS1.out hM); have HAC := hid (fun u (hu : Below w.heap.size w u) => jd9 n l a k o u (hw.next hu) (maxLenCell_below hm hu) hj hk hn hs (CmdsM.next hC hu) hr hg); have HOP := hid (jaT hj).1; have HOK := hid (jiL (jdF o (n + 1) l)); have HM := hid hM; have HES := hid hes; have HFM := hid hF; generalize endP (vT o (n + 1) l) = aL at *; clear hw hm hj hk hn hs hC hr hg hW1 hB1 hS hM hes hF; go_enter Tryz.func6, Tryz.ntmps6; go_upto_region 1 with fail
 rw [← HWE.out]; go_wp2_with fail; refine HCK.out.mono ?_; rintro e w2 ⟨rfl, hb2⟩; simp only; have HB2 := hid (show Below w.heap.size w w2 from HB1.out.trans (hb2.mono HB1.out.size)); have HX2 := hid (jF hb2 HX1.out); have HL2 := hid (jF hb2 HL1.out); have HZ2 := hid (jF hb2 HZ1.out); have l0 := jc (j := 0) HL2.out rfl; have l1 := jc (j := 1) HL2.out rfl; have l2 := jc (j := 2) HL2.out rfl; have l3 := jc (j := 3) HL2.out rfl; have l4 := jc (j := 4) HL2.out rfl; have HS2 := hid (HS1.out.next hb2); have HA2 := hid (HAC.out w2 HB2.out); clear hb2 HCK HAC HWE x0 x1 HX1 HL1 HZ1 HS1; go_wp2_with fail; refine HA2.out.mono ?_; rintro e w3 ⟨ac, kc, rfl, hA3, hb3⟩; simp only; have HB3 := hid (show Below w.heap.size w w3 from HB2.out.trans (hb3.mono HB2.out.size)); have HX3 := hid (jF hb3 HX2.out); have HL3 := hid (jF hb3 HL2.out); have HZ3 := hid (jF hb3 HZ2.out); have hal3 : Below w3.heap.size w3 (w3.alloc (.cells #[.string (S o.fl), .string (S o.fd), .string (S o.tl), .string (S o.td), .string (S o.tx), .slice ab s.boxes.length cb, .slice none 0 0] 76)) := nb0 _ _; obtain ⟨W4, hW4⟩ : ∃ W4, W4 = w3.alloc (.cells #[.string (S o.fl), .string (S o.fd), .string (S o.tl), .string (S o.td), .string (S o.tx), .slice ab s.boxes.length cb, .slice none 0 0] 76) := ⟨_, rfl⟩; have HWE4 := hid hW4; rw [← hW4] at hal3; have HS4 := hid ((HS2.out.next hb3).lows.next hal3); have HA4 := hid (show AtnsM (fun k => k < w3.heap.size) W4 (.slice ac aL.length kc) aL from AtnsM.next (RowM.lows hA3 fun _ _ h => h) hal3); have HB4 := hid (show Below w.heap.size w W4 from HB3.out.trans (hal3.mono HB3.out.size)); have HX4 := hid (jF hal3 HX3.out); have HZ4 := hid (jF hal3 HZ3.out); have HSB := hid (show SrtB w3.heap.size w3.heap.size (.slice ab s.boxes.length cb) o W4 [] from ⟨_, by rw [hW4]; exact jX _ rfl, World.ownsRow_nil _ _ _ _, by simp [Value.ownBlock], Nat.le_refl _⟩); obtain ⟨B, hBe⟩ : ∃ B, B = w3.heap.size := ⟨_, rfl⟩; have hlB : w.heap.size + 2 < B := by rw [hBe]; exact (Array.getElem?_eq_some_iff.1 HZ3.out).1
 have l0 := jc (j := 0) HL3.out rfl; have l1 := jc (j := 1) HL3.out rfl; have l2 := jc (j := 2) HL3.out rfl; have l3 := jc (j := 3) HL3.out rfl; have l4 := jc (j := 4) HL3.out rfl; have x0 := jc (j := 0) HX3.out rfl; have HBE := hid hBe; rw [← hBe] at HSB HS4 HA4; have ho6 : aL.length ≤ 6 := HOK.out; clear hA3 hb3 hal3 hW4 HA2 HX2 HL2 HZ2 HX3 HL3 HZ3 HS2 hBe; go_upto_region 8 with fail
 rw [← HWE4.out]; go_wp2_with fail; rw [← HBE.out]; clear HWE4 HBE l0 l1 l2 l3 l4 x0
 go_loopw [38] (fun v wr => ∃ i : Nat, i ≤ aL.length ∧ v = .int .i64 i ∧ Hid (SrtB B B (.slice ab s.boxes.length cb) o wr (plan s.boxes o (aL.take i))) ∧ Hid (Below B W4 wr)) (fun v _ => aL.length - (intOf v).toNat)
 case atStart => exact ⟨0, Nat.zero_le _, rfl, HSB, Below.refl _ _⟩
 case round =>
  obtain ⟨i, hi, rfl, HT, HBW⟩ := hrel
  by_cases hlt : i < aL.length
  · have i1 : (i : Int) < (aL.length : Int) := by omega
    have i0 : (0 : Int) ≤ (i : Int) := by omega
    obtain ⟨x, hx⟩ : ∃ x, aL[i]? = some x := ⟨_, List.getElem?_eq_getElem hlt⟩; have hAr : AtnsM (fun k => k < B) wr (.slice ac aL.length kc) aL := RowM.imp HA4.out (fun _ h => h) (Keeps.of_below' HBW.out fun _ h => h) fun _ _ h => h
    obtain ⟨b, q, rfl, e0, e1, e2⟩ := jiu hAr hx; obtain ⟨W5, hW5⟩ : ∃ W5, W5 = wr.alloc (.cells #[.int .i64 x.kind, .string (S x.text), .int .i64 x.flags] 78) := ⟨_, rfl⟩; have HWE5 := hid hW5; have hB5 : Below wr.heap.size wr W5 := by rw [hW5]; exact nb0 _ _
    have hX5 : W5.heap[wr.heap.size]? = some (.cells #[.int .i64 x.kind, .string (S x.text), .int .i64 x.flags] 78) := by rw [hW5]; exact jX _ rfl
    have y0 := jc (j := 0) hX5 rfl; have y1 := jc (j := 1) hX5 rfl; have y2 := jc (j := 2) hX5 rfl; have hBr : B ≤ wr.heap.size := Nat.le_of_lt HT.out.lt.2; have HB5 := hid (show Below B W4 W5 from HBW.out.trans (hB5.mono hBr)); have hln := jdT s.boxes o (aL.take i); have HD := hid (jj8 B B ab cb o s.boxes (plan s.boxes o (aL.take i)) x W5 (HT.out.next hB5) (by simp at hln; omega) (BoxsM.imp HS4.out.1 (fun _ h => h) (Keeps.of_below' HB5.out fun _ h => h)) HOP.out.1.1 HOP.out.1.2.1); rw [← jjW hx] at HD; clear hx hAr hW5 hB5 hX5 hln; go_upto_region 11 with fail
    rw [← HWE5.out]; go_wp2_with fail; refine HD.out.mono ?_; rintro e w6 ⟨⟨v, rfl⟩, hT6, hb6, _⟩; have HT6 := hid hT6; have HB6 := hid (HB5.out.trans hb6); clear hT6 hb6; go_wp2
    go_roundw
    case rel => first | exact ⟨i + 1, by omega, by go_num, HT6, HB6⟩ | ((repeat apply Exists.intro); exact ⟨⟨i + 1, by omega, by go_num, HT6, HB6⟩, rfl⟩)
    case measure => simp [intOf]; omega
  · have i1 : ¬ (i : Int) < (aL.length : Int) := by omega
    rw [List.take_of_length_le (by omega), ← HES.out] at HT; have hBr : B ≤ wr.heap.size := Nat.le_of_lt HT.out.lt.2; have hBX : wr.heap[w.heap.size]? = some (.cells #[.slice ab s.boxes.length cb, .slice aq s.spool.length cq] 32) := (HBW.out.block _ (by omega)).trans HX4.out; have HZR := hid (show wr.heap[w.heap.size + 2]? = some (.cells #[.slice none 0 0, .slice none 0 0] 32) from (HBW.out.block _ (by omega)).trans HZ4.out); have x0 := jc (j := 0) hBX rfl; have x1 := jc (j := 1) hBX rfl; have hle : es.length ≤ 6 := by have := jdT s.boxes o aL; rw [← HES.out] at this; omega
    obtain ⟨ve, hq, hO, _, _⟩ := HT.out; obtain ⟨av, cv, rfl⟩ := js hO; have hvm := jgy hO (by omega); have HEV := hid hvm; have HQR := hid hq; have c6 := (box7 hq).2.2.2.2.2.2.1; have HAL := hid (jfh s _ _ es av cv wr (fun _ => True) (SttM.imp HS4.out (fun _ _ => trivial) (Keeps.of_below' HBW.out fun _ h => h)) HM.out (EntsM.imp hvm (fun _ _ => trivial) (Keeps.refl _ _)) (by omega) HFM.out); have HBR := hid (show Below w.heap.size w wr from HB4.out.trans (HBW.out.mono (by omega))); have HBB := hid hBr; clear hBX hvm hq hO; go_wp2_with fail; refine HAL.out.mono ?_; intro e w7 hA; have hb7 := hA.1; have HB7 := hid (show Below w.heap.size w w7 from HBR.out.trans (hb7.mono HBR.out.size)); have hs7 := hb7.size; obtain ⟨P, hP⟩ : ∃ P, P = w7.heap.size := ⟨_, rfl⟩; cases hall : allM s es with
    | error z =>
      rw [hall] at hA; obtain ⟨_, rfl⟩ := hA; have hzn := jkI hall; have hz' : ¬ z = 0 := hzn; have hz'' : (z == 0) = false := by simp [hzn]
      obtain ⟨W8, hW8⟩ : ∃ W8, W8 = w7.alloc (.cells #[.slice none 0 0, .slice none 0 0] 32) := ⟨_, rfl⟩; have HWE8 := hid hW8; have hB8 : Below w7.heap.size w7 W8 := by rw [hW8]; exact nb0 _ _
      have hZ8 := jF hB8 (jF hb7 HZR.out); obtain ⟨u0, u1, h0, h1⟩ := zr hZ8; obtain ⟨v0, v1, j0, j1⟩ := zr (jW (u0 := .slice none 0 0) (u1 := .slice none 0 0) hZ8); have HE := hid (show DlvP w s es (.returned (.tuple #[.slice none 0 0, .agg #[.slice none 0 0, .slice none 0 0], .int .i64 z])) ((W8.setCell ⟨w.heap.size + 2, 0, none⟩ (.slice none 0 0)).setCell ⟨w.heap.size + 2, 1, none⟩ (.slice none 0 0)) by
       unfold DlvP; rw [hall]; exact ⟨((HB7.out.trans (hB8.mono HB7.out.size)).setCell (by simp) _).setCell (by simp) _, rfl⟩)
      clear hall hzn hW8 hB8 hZ8 hb7; simp only; go_upto_region 14 with fail
      rw [← HWE8.out]; go_wp2; refine bodyPost_ret (v := .tuple #[.slice none 0 0, .agg #[.slice none 0 0, .slice none 0 0], .int .i64 z]) (by simp [results, Tryz.results6, go_sem, *]) rfl ?_; exact HE.out
    | ok s' =>
      rw [hall] at hA; obtain ⟨_, vb', vs', vm, rfl, hO7⟩ := hA; obtain ⟨a1, d1, rfl⟩ := js hO7.boxes; obtain ⟨a2, d2, rfl⟩ := js hO7.spool; obtain ⟨W8, hW8⟩ : ∃ W8, W8 = w7.alloc (.cells #[.slice a1 s'.boxes.length d1, .slice a2 s'.spool.length d2] 32) := ⟨_, rfl⟩; have HWE8 := hid hW8; have hB8 : Below w7.heap.size w7 W8 := by rw [hW8]; exact nb0 _ _
      have hT8 : W8.heap[P]? = some (.cells #[.slice a1 s'.boxes.length d1, .slice a2 s'.spool.length d2] 32) := by rw [hW8, hP]; exact jX _ rfl
      have hZ8 := jF hB8 (jF hb7 HZR.out); have hQ8 := jF hB8 (jF hb7 HQR.out); have t0 : W8.cell? ⟨P, 0, none⟩ = some (.slice a1 s'.boxes.length d1) := jc (j := 0) hT8 rfl; have t1 : W8.cell? ⟨P, 1, none⟩ = some (.slice a2 s'.spool.length d2) := jc (j := 1) hT8 rfl; have c6 := (box7 hQ8).2.2.2.2.2.2.1; obtain ⟨u0, u1, h0, h1⟩ := zr hZ8; obtain ⟨v0, v1, j0, j1⟩ := zr (jW (u0 := .slice a1 s'.boxes.length d1) (u1 := .slice a2 s'.spool.length d2) hZ8); have n1 : P ≠ w.heap.size + 2 := by omega
      have n2 : B ≠ w.heap.size + 2 := by omega
      have HE := hid (show DlvP w s es (.returned (.tuple #[.slice av es.length cv, .agg #[.slice a1 s'.boxes.length d1, .slice a2 s'.spool.length d2], .int .i64 0])) ((W8.setCell ⟨w.heap.size + 2, 0, none⟩ (.slice a1 s'.boxes.length d1)).setCell ⟨w.heap.size + 2, 1, none⟩ (.slice a2 s'.spool.length d2)) by
       unfold DlvP; rw [hall]; refine ⟨((HB7.out.trans (hB8.mono HB7.out.size)).setCell (by simp) _).setCell (by simp) _, av, cv, wr.heap.size, _, _, vm, rfl, ?_, HBR.out.size, ?_⟩
       · exact EntsM.imp ((HEV.out.next hb7).next hB8) (fun _ h => ⟨by have := h.1; omega, h.2⟩) ((Keeps.set _ (p := ⟨w.heap.size + 2, 0, none⟩) _ fun b hb => by have := hb.1; show b ≠ w.heap.size + 2; omega).trans (Keeps.set _ (p := ⟨w.heap.size + 2, 1, none⟩) _ fun b hb => by have := hb.1; show b ≠ w.heap.size + 2; omega))
       · refine (hO7.next hB8).keep fun q hq => ?_
         have hq' : q ≠ w.heap.size + 2 := by have := (hO7.lt hq).1; have := HBB.out; omega
         exact (jk hq').trans (jk hq'))
      have HKP := hid (show ((W8.setCell ⟨w.heap.size + 1 + 1, 0, none⟩ (.slice a1 s'.boxes.length d1)).setCell ⟨w.heap.size + 1 + 1, 1, none⟩ (.slice a2 s'.spool.length d2)).drew.cell? ⟨B, 6, none⟩ = some (.slice av es.length cv) ∧ ((W8.setCell ⟨w.heap.size + 1 + 1, 0, none⟩ (.slice a1 s'.boxes.length d1)).setCell ⟨w.heap.size + 1 + 1, 1, none⟩ (.slice a2 s'.spool.length d2)).drew.cell? ⟨P, 0, none⟩ = some (.slice a1 s'.boxes.length d1) ∧ ((W8.setCell ⟨w.heap.size + 1 + 1, 0, none⟩ (.slice a1 s'.boxes.length d1)).setCell ⟨w.heap.size + 1 + 1, 1, none⟩ (.slice a2 s'.spool.length d2)).drew.cell? ⟨P, 1, none⟩ = some (.slice a2 s'.spool.length d2) from
       ⟨(World.cell?_of_block (w := W8) ((jk n2).trans (jk n2))).trans c6, (World.cell?_of_block (w := W8) ((jk n1).trans (jk n1))).trans t0, (World.cell?_of_block (w := W8) ((jk n1).trans (jk n1))).trans t1⟩)
      have HPE := hid hP; clear hall hW8 hB8 hZ8 hb7 hT8 hQ8 hO7 hP; simp only; go_upto_region 14 with fail
      rw [← HWE8.out, ← HPE.out]; clear HWE8 HPE; go_wp2
      go_region_held3 (fun w' => w'.cell? ⟨B, 6, none⟩ = some (.slice av es.length cv) ∧ w'.cell? ⟨P, 0, none⟩ = some (.slice a1 s'.boxes.length d1) ∧ w'.cell? ⟨P, 1, none⟩ = some (.slice a2 s'.spool.length d2)) (first | exact HKP.out | go_keep) (fail)
      all_goals
       go_wp2; refine bodyPost_ret (v := .tuple #[.slice av es.length cv, .agg #[.slice a1 s'.boxes.length d1, .slice a2 s'.spool.length d2], .int .i64 0]) (by simp [results, Tryz.results6, go_sem, *]) rfl ?_
       first | exact HE.out | exact HE.out.drew
end Go.Proofs.YtgfbdgheencmaaaGreatDoor
