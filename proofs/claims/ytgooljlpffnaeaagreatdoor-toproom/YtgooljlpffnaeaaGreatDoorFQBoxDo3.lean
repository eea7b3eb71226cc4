/-
  What an entry does to a store: the walk of do.
-/
import Derived.Test.YtgooljlpffnaeaaGreatDoorFQBoxDl2
import Derived.RegionTactic
import Derived.BigRegion
set_option maxHeartbeats 1000000
set_option maxRecDepth 100000
namespace Go.Proofs.YtgooljlpffnaeaaGreatDoor
open Go.RowKit Go.Proofs
theorem jmz {s : Stt} {x : Ent} (h : x.kind = 1) : doM s x = if (s.boxes.findIdx? (isName x.box)).isSome then .error 10 else if 5 ≤ s.boxes.length then .error 5 else .ok ⟨s.boxes ++ [⟨x.box, 1, []⟩], s.spool⟩ := by unfold doM; rw [if_pos h]
theorem jmE {s : Stt} {x : Ent} (h : x.kind = 6) : doM s x = if 20 ≤ s.spool.length then .error 5 else .ok ⟨s.boxes, s.spool ++ [x]⟩ := by unfold doM; rw [if_neg (by omega), if_pos h]
theorem jjO {s : Stt} {x : Ent} (h1 : x.kind ≠ 1) (h6 : x.kind ≠ 6) (hf : s.boxes.findIdx? (isName x.box) = none) : doM s x = .error 7 := by unfold doM; rw [if_neg h1, if_neg h6, hf]
theorem jmA {s : Stt} {x : Ent} {i : Nat} (h : x.kind = 2) (hf : s.boxes.findIdx? (isName x.box) = some i) : doM s x = addM s i x.flags x.text := by unfold doM; rw [if_neg (by omega), if_neg (by omega), hf]; simp only [if_pos h]
theorem jmC {s : Stt} {x : Ent} {i : Nat} {b : Bx} (h : x.kind = 4) (hf : s.boxes.findIdx? (isName x.box) = some i) (hb : s.boxes[i]? = some b) : doM s x = .ok ⟨s.boxes.set i ⟨b.name, b.next, b.mails.filter fun m => !zU m⟩, s.spool⟩ := by
 unfold doM; rw [if_neg (by omega), if_neg (by omega), hf]; simp only [if_neg (show ¬ x.kind = 2 by omega), hb, if_pos h]
theorem jjN {s : Stt} {x : Ent} {i : Nat} {b : Bx} (h : x.kind = 3 ∨ x.kind = 5) (hf : s.boxes.findIdx? (isName x.box) = some i) (hb : s.boxes[i]? = some b) (hj : b.mails.findIdx? (jbS x.uid) = none) : doM s x = .error 7 := by
 unfold doM; rw [if_neg (by omega), if_neg (by omega), hf]; simp only [if_neg (show ¬ x.kind = 2 by omega), hb, if_neg (show ¬ x.kind = 4 by omega), hj]
theorem jmD {s : Stt} {x : Ent} {i j : Nat} {b : Bx} {m : Mail} (h : x.kind = 5) (hf : s.boxes.findIdx? (isName x.box) = some i) (hb : s.boxes[i]? = some b) (hj : b.mails.findIdx? (jbS x.uid) = some j) (hm : b.mails[j]? = some m) : doM s x = jgc s x.goal m.flags m.text := by
 unfold doM jgc; rw [if_neg (by omega), if_neg (by omega), hf]; simp only [if_neg (show ¬ x.kind = 2 by omega), hb, if_neg (show ¬ x.kind = 4 by omega), hj, hm, if_pos h]; cases s.boxes.findIdx? (isName x.goal) <;> rfl
theorem jmB {s : Stt} {x : Ent} {i j : Nat} {b : Bx} {m : Mail} (h : x.kind = 3) (hf : s.boxes.findIdx? (isName x.box) = some i) (hb : s.boxes[i]? = some b) (hj : b.mails.findIdx? (jbS x.uid) = some j) (hm : b.mails[j]? = some m) : doM s x = .ok ⟨s.boxes.set i ⟨b.name, b.next, b.mails.set j ⟨m.uid, x.flags, m.text⟩⟩, s.spool⟩ := by
 unfold doM; rw [if_neg (by omega), if_neg (by omega), hf]; simp only [if_neg (show ¬ x.kind = 2 by omega), hb, if_neg (show ¬ x.kind = 4 by omega), hj, hm, if_neg (show ¬ x.kind = 5 by omega)]
theorem jbE {w : World} {p : Nat} {v0 v1 v2 v3 v4 v5 : Value} {t : TypeId} (h : w.heap[p]? = some (.cells #[v0, v1, v2, v3, v4, v5] t)) : w.cell? ⟨p, 0, none⟩ = some v0 ∧ w.cell? ⟨p, 1, none⟩ = some v1 ∧ w.cell? ⟨p, 2, none⟩ = some v2 ∧ w.cell? ⟨p, 3, none⟩ = some v3 ∧ w.cell? ⟨p, 4, none⟩ = some v4 ∧ w.cell? ⟨p, 5, none⟩ = some v5 := by
 refine ⟨?_, ?_, ?_, ?_, ?_, ?_⟩ <;> simp [World.cell?, h]
theorem jnf (B p : Nat) (s : Stt) (x : Ent) (w : World) (h : Sto B p w s) (hM : May s) (hk : x.kind = 1) :
 Calls Tryz.prog 61 #[.pointer (some ⟨p, 0, none⟩), .agg #[.int .i64 x.kind, .string (S x.box), .int .i64 x.uid, .int .i64 x.flags, .string (S x.goal), .string (S x.text)]] w (DoP B p w (doM s x)) := by
 obtain ⟨W1, hW1⟩ : ∃ W1, W1 = w.alloc (.cells #[.int .i64 x.kind, .string (S x.box), .int .i64 x.uid, .int .i64 x.flags, .string (S x.goal), .string (S x.text)] 25) := ⟨_, rfl⟩; have HWE := hid hW1; have hb1 : Below w.heap.size w W1 := by rw [hW1]; exact nb0 _ _
 have hX : W1.heap[w.heap.size]? = some (.cells #[.int .i64 x.kind, .string (S x.box), .int .i64 x.uid, .int .i64 x.flags, .string (S x.goal), .string (S x.text)] 25) := by rw [hW1]; exact heap_alloc_new w _
 obtain ⟨x0, x1, x2, x3, x4, x5⟩ := jbE hX; have hpw : p < w.heap.size := by obtain ⟨_, _, _, hp, _⟩ := h; exact (Array.getElem?_eq_some_iff.1 hp).1
 have hS1 := h.next hb1; have hBw : B ≤ w.heap.size := by obtain ⟨_, _, _, _, _, _, h4⟩ := h; omega
 have HB1 := hid (show Below B w W1 from hb1.mono hBw); have hs1 : B ≤ W1.heap.size := by have := hb1.size; omega
 obtain ⟨r, hr⟩ : ∃ r, r = doM s x := ⟨_, rfl⟩; rw [← hr]; rw [jmz hk] at hr; have HC := hid (jge B p s x.box W1 hS1 hM); have HR := hid hr; have c1 : (x.kind == 1) = true := by simp; omega
 clear h hM hk hr hW1 hb1 hX hS1; go_enter Tryz.func61, Tryz.ntmps61; go_upto_region 1 with fail
 rw [← HWE.out]; go_wp2_with fail; refine HC.out.mono ?_; intro e w2 hd; obtain ⟨zz, rfl⟩ := hd.int; have HD := hid (DoP.trans HB1.out hd); clear hd; simp only; go_wp2; go_ret; rw [HR.out]; exact HD.out
theorem jnk (B p : Nat) (s : Stt) (x : Ent) (w : World) (h : Sto B p w s) (hM : May s) (hk : x.kind = 6) :
 Calls Tryz.prog 61 #[.pointer (some ⟨p, 0, none⟩), .agg #[.int .i64 x.kind, .string (S x.box), .int .i64 x.uid, .int .i64 x.flags, .string (S x.goal), .string (S x.text)]] w (DoP B p w (doM s x)) := by
 obtain ⟨W1, hW1⟩ : ∃ W1, W1 = w.alloc (.cells #[.int .i64 x.kind, .string (S x.box), .int .i64 x.uid, .int .i64 x.flags, .string (S x.goal), .string (S x.text)] 25) := ⟨_, rfl⟩; have HWE := hid hW1; have hb1 : Below w.heap.size w W1 := by rw [hW1]; exact nb0 _ _
 have hX : W1.heap[w.heap.size]? = some (.cells #[.int .i64 x.kind, .string (S x.box), .int .i64 x.uid, .int .i64 x.flags, .string (S x.goal), .string (S x.text)] 25) := by rw [hW1]; exact heap_alloc_new w _
 obtain ⟨x0, x1, x2, x3, x4, x5⟩ := jbE hX; have hpw : p < w.heap.size := by obtain ⟨_, _, _, hp, _⟩ := h; exact (Array.getElem?_eq_some_iff.1 hp).1
 have hS1 := h.next hb1; have hBw : B ≤ w.heap.size := by obtain ⟨_, _, _, _, _, _, h4⟩ := h; omega
 have HB1 := hid (show Below B w W1 from hb1.mono hBw); have hs1 : B ≤ W1.heap.size := by have := hb1.size; omega
 obtain ⟨r, hr⟩ : ∃ r, r = doM s x := ⟨_, rfl⟩; rw [← hr]; rw [jmE hk] at hr; have HC := hid (jiV B p s x W1 hS1 hM); have HR := hid hr; have c1 : (x.kind == 1) = false := by simp; omega
 have c6 : (x.kind == 6) = true := by simp; omega
 clear h hM hk hr hW1 hb1 hX hS1; go_enter Tryz.func61, Tryz.ntmps61; go_upto_region 1 with fail
 rw [← HWE.out]; go_wp2_with fail; refine HC.out.mono ?_; intro e w2 hd; obtain ⟨zz, rfl⟩ := hd.int; have HD := hid (DoP.trans HB1.out hd); clear hd; simp only; go_wp2; go_ret; rw [HR.out]; exact HD.out
theorem jlM (B p : Nat) (s : Stt) (x : Ent) (w : World) (h : Sto B p w s) (hM : May s) (h1 : x.kind ≠ 1) (h6 : x.kind ≠ 6) (hf : s.boxes.findIdx? (isName x.box) = none) :
 Calls Tryz.prog 61 #[.pointer (some ⟨p, 0, none⟩), .agg #[.int .i64 x.kind, .string (S x.box), .int .i64 x.uid, .int .i64 x.flags, .string (S x.goal), .string (S x.text)]] w (DoP B p w (doM s x)) := by
 obtain ⟨W1, hW1⟩ : ∃ W1, W1 = w.alloc (.cells #[.int .i64 x.kind, .string (S x.box), .int .i64 x.uid, .int .i64 x.flags, .string (S x.goal), .string (S x.text)] 25) := ⟨_, rfl⟩; have HWE := hid hW1; have hb1 : Below w.heap.size w W1 := by rw [hW1]; exact nb0 _ _
 have hX : W1.heap[w.heap.size]? = some (.cells #[.int .i64 x.kind, .string (S x.box), .int .i64 x.uid, .int .i64 x.flags, .string (S x.goal), .string (S x.text)] 25) := by rw [hW1]; exact heap_alloc_new w _
 obtain ⟨x0, x1, x2, x3, x4, x5⟩ := jbE hX; have hpw : p < w.heap.size := by obtain ⟨_, _, _, hp, _⟩ := h; exact (Array.getElem?_eq_some_iff.1 hp).1
 have hS1 := h.next hb1; have hBw : B ≤ w.heap.size := by obtain ⟨_, _, _, _, _, _, h4⟩ := h; omega
 have HB1 := hid (show Below B w W1 from hb1.mono hBw); have hs1 : B ≤ W1.heap.size := by have := hb1.size; omega
 obtain ⟨r, hr⟩ : ∃ r, r = doM s x := ⟨_, rfl⟩; rw [← hr]; rw [jjO h1 h6 hf] at hr; obtain ⟨ab, cb, vs, vm, hp, hO, hn, hBp⟩ := hS1.open; obtain ⟨p0, p1, q0, q1⟩ := zu hp; have hSt := hO.stt (Q := fun _ => True) hM (fun _ _ => trivial); have HIX := hid (jN s.boxes x.box ab cb W1.drew _ hSt.1); rw [jaA hf] at HIX; have HR := hid hr; have c1 : (x.kind == 1) = false := by simp; omega
 have c6 : (x.kind == 6) = false := by simp; omega
 clear h hM h1 h6 hf hr hW1 hb1 hX hS1 hp hO hn hSt; go_enter Tryz.func61, Tryz.ntmps61; go_upto_region 1 with fail
 rw [← HWE.out]; go_wp2
 go_cut [5] (fun v wx => v = .int .i64 (-1) ∧ Below W1.heap.size W1 wx)
 case first =>
  go_region_held3 (fun w' => w'.cell? ⟨w.heap.size, 1, none⟩ = some (.string (S x.box)) ∧ w'.cell? ⟨p, 0, none⟩ = some (.slice ab s.boxes.length cb)) (go_keep)
   (first
        | (go_at_call 92
           with_reducible refine HIX.out.mono ?_
           rintro e w2 ⟨rfl, hb⟩; have hb2 : Below W1.heap.size W1 w2 := (Below.refl _ _).drew.trans hb; have HB2 := hid hb2; have z1 := ja x1 hb2; have z0 := ja p0 hb2; clear hb hb2)
        | fail)
  all_goals
   go_wp2_with fail
   go_meet
   exact ⟨rfl, HB2.out⟩
 case rest =>
  obtain ⟨rfl, hbc⟩ := hcut; have HE := hid (show DoP B p w r (.returned (.int .i64 7)) wc by rw [HR.out]; exact ⟨HB1.out.trans (hbc.mono hs1), rfl⟩); clear hbc; go_wp2; go_ret; exact HE.out
theorem jng (B p : Nat) (s : Stt) (x : Ent) (w : World) (h : Sto B p w s) (hM : May s) (hF : Formed x) (hk : x.kind = 2) (i : Nat) (hf : s.boxes.findIdx? (isName x.box) = some i) :
 Calls Tryz.prog 61 #[.pointer (some ⟨p, 0, none⟩), .agg #[.int .i64 x.kind, .string (S x.box), .int .i64 x.uid, .int .i64 x.flags, .string (S x.goal), .string (S x.text)]] w (DoP B p w (doM s x)) := by
 obtain ⟨W1, hW1⟩ : ∃ W1, W1 = w.alloc (.cells #[.int .i64 x.kind, .string (S x.box), .int .i64 x.uid, .int .i64 x.flags, .string (S x.goal), .string (S x.text)] 25) := ⟨_, rfl⟩; have HWE := hid hW1; have hb1 : Below w.heap.size w W1 := by rw [hW1]; exact nb0 _ _
 have hX : W1.heap[w.heap.size]? = some (.cells #[.int .i64 x.kind, .string (S x.box), .int .i64 x.uid, .int .i64 x.flags, .string (S x.goal), .string (S x.text)] 25) := by rw [hW1]; exact heap_alloc_new w _
 obtain ⟨x0, x1, x2, x3, x4, x5⟩ := jbE hX; have hpw : p < w.heap.size := by obtain ⟨_, _, _, hp, _⟩ := h; exact (Array.getElem?_eq_some_iff.1 hp).1
 have hS1 := h.next hb1; have hBw : B ≤ w.heap.size := by obtain ⟨_, _, _, _, _, _, h4⟩ := h; omega
 have HB1 := hid (show Below B w W1 from hb1.mono hBw); have hs1 : B ≤ W1.heap.size := by have := hb1.size; omega
 obtain ⟨r, hr⟩ : ∃ r, r = doM s x := ⟨_, rfl⟩; rw [← hr]; rw [jmA hk hf] at hr; obtain ⟨ab, cb, vs, vm, hp, hO, hn, hBp⟩ := hS1.open; obtain ⟨p0, p1, q0, q1⟩ := zu hp; have hSt := hO.stt (Q := fun _ => True) hM (fun _ _ => trivial); have HIX := hid (jN s.boxes x.box ab cb W1.drew _ hSt.1); rw [zC hf] at HIX; obtain ⟨b, hb, _⟩ := jaW hf; obtain ⟨g, rfl⟩ := jaj hO hb; have hi : i < s.boxes.length := (List.getElem?_eq_some_iff.1 hb).1; have i1 : (i : Int) < (s.boxes.length : Int) := by omega
 have i0 : (0 : Int) ≤ (i : Int) := by omega
 have HA := hid (fun u (hu : Below W1.heap.size W1 u) => jfx B p g cb i vs vm s b x.flags x.text u (zI hu hp) (hO.next hu) hn hBp hb hM hF.text); have HR := hid hr; have c1 : (x.kind == 1) = false := by simp; omega
 have c6 : (x.kind == 6) = false := by simp; omega
 have c2 : (x.kind == 2) = true := by simp; omega
 clear h hM hF hk hf hr hW1 hb1 hX hS1 hp hO hn hSt hb; go_enter Tryz.func61, Tryz.ntmps61; go_upto_region 1 with fail
 rw [← HWE.out]; go_wp2
 go_cut [5] (fun v wx => v = .int .i64 ((i : Int)) ∧ Below W1.heap.size W1 wx)
 case first =>
  go_region_held3 (fun w' => w'.cell? ⟨w.heap.size, 1, none⟩ = some (.string (S x.box)) ∧ w'.cell? ⟨p, 0, none⟩ = some (.slice (some ⟨g, 0, none⟩) s.boxes.length cb)) (go_keep)
   (first
        | (go_at_call 92
           with_reducible refine HIX.out.mono ?_
           rintro e w2 ⟨rfl, hb⟩; have hb2 : Below W1.heap.size W1 w2 := (Below.refl _ _).drew.trans hb; have HB2 := hid hb2; have z1 := ja x1 hb2; have z0 := ja p0 hb2; clear hb hb2)
        | fail)
  all_goals
   go_wp2_with fail
   go_meet
   exact ⟨rfl, HB2.out⟩
 case rest =>
  obtain ⟨rfl, hbc⟩ := hcut; have y0 := ja p0 hbc; have z0 := ja x0 hbc; have z1 := ja x1 hbc; have z2 := ja x2 hbc; have z3 := ja x3 hbc; have z4 := ja x4 hbc; have z5 := ja x5 hbc; have HBC := hid (show Below B w wc from HB1.out.trans (hbc.mono hs1)); have HA2 := hid (HA.out wc hbc); clear hbc; go_wp2_with fail; refine HA2.out.mono ?_; intro e w3 hd; obtain ⟨zz, rfl⟩ := hd.int; have HD := hid (DoP.trans HBC.out hd); clear hd; simp only; go_wp2; go_ret; rw [HR.out]; exact HD.out
theorem jni (B p : Nat) (s : Stt) (x : Ent) (w : World) (h : Sto B p w s) (hM : May s) (hk : x.kind = 4) (i : Nat) (hf : s.boxes.findIdx? (isName x.box) = some i) :
 Calls Tryz.prog 61 #[.pointer (some ⟨p, 0, none⟩), .agg #[.int .i64 x.kind, .string (S x.box), .int .i64 x.uid, .int .i64 x.flags, .string (S x.goal), .string (S x.text)]] w (DoP B p w (doM s x)) := by
 obtain ⟨W1, hW1⟩ : ∃ W1, W1 = w.alloc (.cells #[.int .i64 x.kind, .string (S x.box), .int .i64 x.uid, .int .i64 x.flags, .string (S x.goal), .string (S x.text)] 25) := ⟨_, rfl⟩; have HWE := hid hW1; have hb1 : Below w.heap.size w W1 := by rw [hW1]; exact nb0 _ _
 have hX : W1.heap[w.heap.size]? = some (.cells #[.int .i64 x.kind, .string (S x.box), .int .i64 x.uid, .int .i64 x.flags, .string (S x.goal), .string (S x.text)] 25) := by rw [hW1]; exact heap_alloc_new w _
 obtain ⟨x0, x1, x2, x3, x4, x5⟩ := jbE hX; have hpw : p < w.heap.size := by obtain ⟨_, _, _, hp, _⟩ := h; exact (Array.getElem?_eq_some_iff.1 hp).1
 have hS1 := h.next hb1; have hBw : B ≤ w.heap.size := by obtain ⟨_, _, _, _, _, _, h4⟩ := h; omega
 have HB1 := hid (show Below B w W1 from hb1.mono hBw); have hs1 : B ≤ W1.heap.size := by have := hb1.size; omega
 obtain ⟨r, hr⟩ : ∃ r, r = doM s x := ⟨_, rfl⟩; rw [← hr]; obtain ⟨b, hb, _⟩ := jaW hf; rw [jmC hk hf hb] at hr; obtain ⟨ab, cb, vs, vm, hp, hO, hn, hBp⟩ := hS1.open; obtain ⟨p0, p1, q0, q1⟩ := zu hp; have hSt := hO.stt (Q := fun _ => True) hM (fun _ _ => trivial); have HIX := hid (jN s.boxes x.box ab cb W1.drew _ hSt.1); rw [zC hf] at HIX; obtain ⟨g, rfl⟩ := jaj hO hb; have hi : i < s.boxes.length := (List.getElem?_eq_some_iff.1 hb).1; have i1 : (i : Int) < (s.boxes.length : Int) := by omega
 have i0 : (0 : Int) ≤ (i : Int) := by omega
 obtain ⟨g', c', v, e, hv, e0, e1, e2, f1, f2⟩ := hO.box hb; simp only [Value.slice.injEq, Option.some.injEq, Addr.mk.injEq, and_true, true_and] at e; obtain ⟨rfl, rfl⟩ := e; obtain ⟨am, cm, rfl⟩ := qG hO hb hv; have hBM := hM.each b (List.mem_of_getElem? hb); have HDL := hid (fun u (hu : Below W1.heap.size W1 u) => delF b.mails (.slice am b.mails.length cm) B u ((hO.next hu).mails i b _ hb hv) (fun m hm => by have := jb0 hBM.mails hm; exact ⟨this.2.2.1, this.2.2.2.1⟩) (by have := hBM.many; omega)); have HEN := hid (fun u u' v' (hu : Below W1.heap.size W1 u) (hgrow : u.grownBy u' (Value.slice am b.mails.length cm).ownBlock) (hown : u'.ownsRow B 173 3 v' (b.mails.filter fun m => !zU m).length ((b.mails.filter fun m => !zU m).map j9).flatten) (hat : v'.ownBlock = (Value.slice am b.mails.length cm).ownBlock) => jiX (zI hu hp) (hO.next hu) hn hBp hb hv hgrow hown hat); have hgn : some g ≠ (Value.slice am b.mails.length cm).ownBlock := fun e => hO.mb _ (List.mem_of_getElem? hv) g e.symm rfl
 have HR := hid hr; have c1 : (x.kind == 1) = false := by simp; omega
 have c6 : (x.kind == 6) = false := by simp; omega
 have c2 : (x.kind == 2) = false := by simp; omega
 have c4 : (x.kind == 4) = true := by simp; omega
 clear h hM hk hf hr hW1 hb1 hX hS1 hp hO hn hSt hb hv hBM; go_enter Tryz.func61, Tryz.ntmps61; go_upto_region 1 with fail
 rw [← HWE.out]; go_wp2
 go_cut [5] (fun v wx => v = .int .i64 ((i : Int)) ∧ Below W1.heap.size W1 wx)
 case first =>
  go_region_held3 (fun w' => w'.cell? ⟨w.heap.size, 1, none⟩ = some (.string (S x.box)) ∧ w'.cell? ⟨p, 0, none⟩ = some (.slice (some ⟨g, 0, none⟩) s.boxes.length cb)) (go_keep)
   (first
        | (go_at_call 92
           with_reducible refine HIX.out.mono ?_
           rintro e w2 ⟨rfl, hb⟩; have hb2 : Below W1.heap.size W1 w2 := (Below.refl _ _).drew.trans hb; have HB2 := hid hb2; have z1 := ja x1 hb2; have z0 := ja p0 hb2; clear hb hb2)
        | fail)
  all_goals
   go_wp2_with fail
   go_meet
   exact ⟨rfl, HB2.out⟩
 case rest =>
  obtain ⟨rfl, hbc⟩ := hcut; have y0 := ja p0 hbc; have z0 := ja x0 hbc; have z1 := ja x1 hbc; have z2 := ja x2 hbc; have z3 := ja x3 hbc; have z4 := ja x4 hbc; have z5 := ja x5 hbc; have HBC := hid (show Below B w wc from HB1.out.trans (hbc.mono hs1)); have y2 := ja e2 hbc; have yf2 := jW f2 e2 hbc; have HDL2 := hid (HDL.out wc hbc); have HEN2 := hid (fun u' v' => HEN.out wc u' v' hbc); clear hbc; go_wp2_with fail; refine HDL2.out.mono ?_; rintro e w3 ⟨v', rfl, hat, hown, hgrow⟩; obtain ⟨a3, c3, rfl⟩ := jx hown; have u2 := hgrow.cell (a := ⟨g, i * 3 + 2, none⟩) y2 hgn; have uf2 : w3.frozen? ⟨g, i * 3 + 2, none⟩ = false := (World.frozen?_of_block (hgrow.block g (World.block_lt_of_cell? _ _ y2) hgn)).trans yf2; have hEND := HEN2.out w3 _ hgrow hown hat; have HF := hid (show DoP B p w r (.returned (.int .i64 0)) (w3.setCell ⟨g, i * 3 + 2, none⟩ (.slice a3 (b.mails.filter fun m => !zU m).length c3)) by rw [HR.out]; exact ⟨HBC.out.trans hEND.2, rfl, hEND.1⟩); clear hat hown hgrow hEND; simp only; go_wp2; go_ret; exact HF.out
theorem jlL (B p : Nat) (s : Stt) (x : Ent) (w : World) (h : Sto B p w s) (hM : May s) (hk : x.kind = 3 ∨ x.kind = 5) (i : Nat) (b : Bx) (hf : s.boxes.findIdx? (isName x.box) = some i) (hb : s.boxes[i]? = some b) (hj : b.mails.findIdx? (jbS x.uid) = none) :
 Calls Tryz.prog 61 #[.pointer (some ⟨p, 0, none⟩), .agg #[.int .i64 x.kind, .string (S x.box), .int .i64 x.uid, .int .i64 x.flags, .string (S x.goal), .string (S x.text)]] w (DoP B p w (doM s x)) := by
 obtain ⟨W1, hW1⟩ : ∃ W1, W1 = w.alloc (.cells #[.int .i64 x.kind, .string (S x.box), .int .i64 x.uid, .int .i64 x.flags, .string (S x.goal), .string (S x.text)] 25) := ⟨_, rfl⟩; have HWE := hid hW1; have hb1 : Below w.heap.size w W1 := by rw [hW1]; exact nb0 _ _
 have hX : W1.heap[w.heap.size]? = some (.cells #[.int .i64 x.kind, .string (S x.box), .int .i64 x.uid, .int .i64 x.flags, .string (S x.goal), .string (S x.text)] 25) := by rw [hW1]; exact heap_alloc_new w _
 obtain ⟨x0, x1, x2, x3, x4, x5⟩ := jbE hX; have hpw : p < w.heap.size := by obtain ⟨_, _, _, hp, _⟩ := h; exact (Array.getElem?_eq_some_iff.1 hp).1
 have hS1 := h.next hb1; have hBw : B ≤ w.heap.size := by obtain ⟨_, _, _, _, _, _, h4⟩ := h; omega
 have HB1 := hid (show Below B w W1 from hb1.mono hBw); have hs1 : B ≤ W1.heap.size := by have := hb1.size; omega
 obtain ⟨r, hr⟩ : ∃ r, r = doM s x := ⟨_, rfl⟩; rw [← hr]; rw [jjN hk hf hb hj] at hr; obtain ⟨ab, cb, vs, vm, hp, hO, hn, hBp⟩ := hS1.open; obtain ⟨p0, p1, q0, q1⟩ := zu hp; have hSt := hO.stt (Q := fun _ => True) hM (fun _ _ => trivial); have HIX := hid (jN s.boxes x.box ab cb W1.drew _ hSt.1); rw [zC hf] at HIX; obtain ⟨g, rfl⟩ := jaj hO hb; have hi : i < s.boxes.length := (List.getElem?_eq_some_iff.1 hb).1; have i1 : (i : Int) < (s.boxes.length : Int) := by omega
 have i0 : (0 : Int) ≤ (i : Int) := by omega
 obtain ⟨g', c', v, e, hv, e0, e1, e2, f1, f2⟩ := hO.box hb; simp only [Value.slice.injEq, Option.some.injEq, Addr.mk.injEq, and_true, true_and] at e; obtain ⟨rfl, rfl⟩ := e; obtain ⟨am, cm, rfl⟩ := qG hO hb hv; have hBM := hM.each b (List.mem_of_getElem? hb); have hML : MailsM (fun _ => True) W1 (.slice am b.mails.length cm) b.mails := qB (hO.mails i b _ hb hv) rfl (by have := hBM.many; unfold maxLen; omega) (by simp) (jA (k := 3) j9 (fun _ => rfl) _) (fun q y cs hy hc => by rw [List.getElem?_map, hy] at hc; cases hc; rfl) (fun _ _ => trivial); have HIM := hid (fun u (hu : Below W1.heap.size W1 u) => qe b.mails x.uid am cm u _ (hML.next hu)); rw [jaA hj] at HIM; have HR := hid hr; have c1 : (x.kind == 1) = false := by simp; omega
 have c6 : (x.kind == 6) = false := by simp; omega
 have c2 : (x.kind == 2) = false := by simp; omega
 have c4 : (x.kind == 4) = false := by simp; omega
 clear h hM hk hf hr hW1 hb1 hX hS1 hp hO hn hSt hb hv hBM hML hj; go_enter Tryz.func61, Tryz.ntmps61; go_upto_region 1 with fail
 rw [← HWE.out]; go_wp2
 go_cut [5] (fun v wx => v = .int .i64 ((i : Int)) ∧ Below W1.heap.size W1 wx)
 case first =>
  go_region_held3 (fun w' => w'.cell? ⟨w.heap.size, 1, none⟩ = some (.string (S x.box)) ∧ w'.cell? ⟨p, 0, none⟩ = some (.slice (some ⟨g, 0, none⟩) s.boxes.length cb)) (go_keep)
   (first
        | (go_at_call 92
           with_reducible refine HIX.out.mono ?_
           rintro e w2 ⟨rfl, hb⟩; have hb2 : Below W1.heap.size W1 w2 := (Below.refl _ _).drew.trans hb; have HB2 := hid hb2; have z1 := ja x1 hb2; have z0 := ja p0 hb2; clear hb hb2)
        | fail)
  all_goals
   go_wp2_with fail
   go_meet
   exact ⟨rfl, HB2.out⟩
 case rest =>
  obtain ⟨rfl, hbc⟩ := hcut; have y0 := ja p0 hbc; have z0 := ja x0 hbc; have z1 := ja x1 hbc; have z2 := ja x2 hbc; have z3 := ja x3 hbc; have z4 := ja x4 hbc; have z5 := ja x5 hbc; have HBC := hid (show Below B w wc from HB1.out.trans (hbc.mono hs1)); have y2 := ja e2 hbc; have HIM2 := hid (HIM.out wc.drew hbc.drew); have HBC1 := hid hbc; clear hbc; obtain ⟨Wc, rfl⟩ : ∃ W, W = wc := ⟨_, rfl⟩; go_wp2
  go_cut [7] (fun v wx => v = .int .i64 (-1) ∧ Below Wc.heap.size Wc wx)
  case first =>
   go_region_held3 (fun w' => w'.cell? ⟨w.heap.size, 2, none⟩ = some (.int .i64 x.uid) ∧ w'.cell? ⟨g, i * 3 + 2, none⟩ = some (.slice am b.mails.length cm)) (go_keep)
        (first
          | (go_at_call 96
             with_reducible refine HIM2.out.mono ?_
             rintro e w2 ⟨rfl, hb⟩; have hb2 : Below Wc.heap.size Wc w2 := (Below.refl _ _).drew.trans hb; have HB2 := hid hb2; have l2 := ja z2 hb2; have l0 := ja y2 hb2; clear hb hb2)
          | fail)
   all_goals
        go_wp2_with fail
        go_meet
        exact ⟨rfl, HB2.out⟩
  case rest =>
   obtain ⟨rfl, hbd⟩ := hcut; have HE := hid (show DoP B p w r (.returned (.int .i64 7)) wc by rw [HR.out]; exact ⟨HBC.out.trans (hbd.mono (Nat.le_trans hs1 HBC1.out.size)), rfl⟩); clear hbd; go_wp2; go_ret; exact HE.out
theorem jnj (B p : Nat) (s : Stt) (x : Ent) (w : World) (h : Sto B p w s) (hM : May s) (hk : x.kind = 5) (i j : Nat) (b : Bx) (m : Mail) (hf : s.boxes.findIdx? (isName x.box) = some i) (hb : s.boxes[i]? = some b) (hj : b.mails.findIdx? (jbS x.uid) = some j) (hm : b.mails[j]? = some m) :
 Calls Tryz.prog 61 #[.pointer (some ⟨p, 0, none⟩), .agg #[.int .i64 x.kind, .string (S x.box), .int .i64 x.uid, .int .i64 x.flags, .string (S x.goal), .string (S x.text)]] w (DoP B p w (doM s x)) := by
 obtain ⟨W1, hW1⟩ : ∃ W1, W1 = w.alloc (.cells #[.int .i64 x.kind, .string (S x.box), .int .i64 x.uid, .int .i64 x.flags, .string (S x.goal), .string (S x.text)] 25) := ⟨_, rfl⟩; have HWE := hid hW1; have hb1 : Below w.heap.size w W1 := by rw [hW1]; exact nb0 _ _
 have hX : W1.heap[w.heap.size]? = some (.cells #[.int .i64 x.kind, .string (S x.box), .int .i64 x.uid, .int .i64 x.flags, .string (S x.goal), .string (S x.text)] 25) := by rw [hW1]; exact heap_alloc_new w _
 obtain ⟨x0, x1, x2, x3, x4, x5⟩ := jbE hX; have hpw : p < w.heap.size := by obtain ⟨_, _, _, hp, _⟩ := h; exact (Array.getElem?_eq_some_iff.1 hp).1
 have hS1 := h.next hb1; have hBw : B ≤ w.heap.size := by obtain ⟨_, _, _, _, _, _, h4⟩ := h; omega
 have HB1 := hid (show Below B w W1 from hb1.mono hBw); have hs1 : B ≤ W1.heap.size := by have := hb1.size; omega
 obtain ⟨r, hr⟩ : ∃ r, r = doM s x := ⟨_, rfl⟩; rw [← hr]; rw [jmD hk hf hb hj hm] at hr; obtain ⟨ab, cb, vs, vm, hp, hO, hn, hBp⟩ := hS1.open; obtain ⟨p0, p1, q0, q1⟩ := zu hp; have hSt := hO.stt (Q := fun _ => True) hM (fun _ _ => trivial); have HIX := hid (jN s.boxes x.box ab cb W1.drew _ hSt.1); rw [zC hf] at HIX; obtain ⟨g, rfl⟩ := jaj hO hb; have hi : i < s.boxes.length := (List.getElem?_eq_some_iff.1 hb).1; have i1 : (i : Int) < (s.boxes.length : Int) := by omega
 have i0 : (0 : Int) ≤ (i : Int) := by omega
 obtain ⟨g', c', v, e, hv, e0, e1, e2, f1, f2⟩ := hO.box hb; simp only [Value.slice.injEq, Option.some.injEq, Addr.mk.injEq, and_true, true_and] at e; obtain ⟨rfl, rfl⟩ := e; obtain ⟨am, cm, rfl⟩ := qG hO hb hv; have hBM := hM.each b (List.mem_of_getElem? hb); have hML : MailsM (fun _ => True) W1 (.slice am b.mails.length cm) b.mails := qB (hO.mails i b _ hb hv) rfl (by have := hBM.many; unfold maxLen; omega) (by simp) (jA (k := 3) j9 (fun _ => rfl) _) (fun q y cs hy hc => by rw [List.getElem?_map, hy] at hc; cases hc; rfl) (fun _ _ => trivial); have HIM := hid (fun u (hu : Below W1.heap.size W1 u) => qe b.mails x.uid am cm u _ (hML.next hu)); rw [zC hj] at HIM; obtain ⟨gm, om, eam, _, k0, k1, k2⟩ := hML.at hm; obtain ⟨gq, rfl⟩ : ∃ gq, am = some ⟨gq, 0, none⟩ := by
  rcases (hO.mails i b _ hb hv).2 with ⟨e, _⟩ | ⟨g2, _, _, e, _⟩
  · simp only [Value.slice.injEq] at e; rw [e.1] at eam; cases eam
  · simp only [Value.slice.injEq] at e; exact ⟨g2, e.1⟩
 simp only [Option.some.injEq, Addr.mk.injEq, and_true] at eam; obtain ⟨rfl, rfl⟩ := eam; have hj0 : j < b.mails.length := (List.getElem?_eq_some_iff.1 hm).1; have j1 : (j : Int) < (b.mails.length : Int) := by omega
 have j0 : (0 : Int) ≤ (j : Int) := by omega
 simp only [Nat.zero_add] at k0 k1 k2; have hmt := (jb0 hBM.mails (List.mem_of_getElem? hm)).2.2.2.2; have HCT := hid (fun u (hu : Below W1.heap.size W1 u) => jgd B p s x.goal m.uid m.flags m.text u (hS1.next hu) hM hmt); have HR := hid hr; have c1 : (x.kind == 1) = false := by simp; omega
 have c6 : (x.kind == 6) = false := by simp; omega
 have c2 : (x.kind == 2) = false := by simp; omega
 have c4 : (x.kind == 4) = false := by simp; omega
 have c5 : (x.kind == 5) = true := by simp; omega
 clear h hM hk hf hr hW1 hb1 hX hS1 hp hO hn hSt hb hv hBM hML hj hm hmt; go_enter Tryz.func61, Tryz.ntmps61; go_upto_region 1 with fail
 rw [← HWE.out]; go_wp2
 go_cut [5] (fun v wx => v = .int .i64 ((i : Int)) ∧ Below W1.heap.size W1 wx)
 case first =>
  go_region_held3 (fun w' => w'.cell? ⟨w.heap.size, 1, none⟩ = some (.string (S x.box)) ∧ w'.cell? ⟨p, 0, none⟩ = some (.slice (some ⟨g, 0, none⟩) s.boxes.length cb)) (go_keep)
   (first
        | (go_at_call 92
           with_reducible refine HIX.out.mono ?_
           rintro e w2 ⟨rfl, hb⟩; have hb2 : Below W1.heap.size W1 w2 := (Below.refl _ _).drew.trans hb; have HB2 := hid hb2; have z1 := ja x1 hb2; have z0 := ja p0 hb2; clear hb hb2)
        | fail)
  all_goals
   go_wp2_with fail
   go_meet
   exact ⟨rfl, HB2.out⟩
 case rest =>
  obtain ⟨rfl, hbc⟩ := hcut; have y0 := ja p0 hbc; have z0 := ja x0 hbc; have z1 := ja x1 hbc; have z2 := ja x2 hbc; have z3 := ja x3 hbc; have z4 := ja x4 hbc; have z5 := ja x5 hbc; have HBC := hid (show Below B w wc from HB1.out.trans (hbc.mono hs1)); have o0 := ja k0 hbc; have o1 := ja k1 hbc; have o2 := ja k2 hbc; have y2 := ja e2 hbc; have HIM2 := hid (HIM.out wc.drew hbc.drew); have HBC1 := hid hbc; clear hbc; obtain ⟨Wc, rfl⟩ : ∃ W, W = wc := ⟨_, rfl⟩; go_wp2
  go_cut [7] (fun v wx => v = .int .i64 ((j : Int)) ∧ Below Wc.heap.size Wc wx)
  case first =>
   go_region_held3 (fun w' => w'.cell? ⟨w.heap.size, 2, none⟩ = some (.int .i64 x.uid) ∧ w'.cell? ⟨g, i * 3 + 2, none⟩ = some (.slice (some ⟨gq, 0, none⟩) b.mails.length cm)) (go_keep)
        (first
          | (go_at_call 96
             with_reducible refine HIM2.out.mono ?_
             rintro e w2 ⟨rfl, hb⟩; have hb2 : Below Wc.heap.size Wc w2 := (Below.refl _ _).drew.trans hb; have HB2 := hid hb2; have l2 := ja z2 hb2; have l0 := ja y2 hb2; clear hb hb2)
          | fail)
   all_goals
        go_wp2_with fail
        go_meet
        exact ⟨rfl, HB2.out⟩
  case rest =>
   obtain ⟨rfl, hbd⟩ := hcut; have t0 := ja o0 hbd; have t1 := ja o1 hbd; have t2 := ja o2 hbd; have s0 := ja z0 hbd; have s4 := ja z4 hbd; have s2 := ja y2 hbd; have HCT2 := hid (HCT.out wc.drew (HBC1.out.trans (hbd.mono HBC1.out.size)).drew); have HBD := hid (show Below B w wc.drew from (HBC.out.trans (hbd.mono (Nat.le_trans hs1 HBC1.out.size))).drew); clear hbd; go_wp2
   go_region_law
        (first
          | (go_simp
             go_at_call 97
             refine HCT2.out.mono ?_; intro e w3 hd; obtain ⟨zz, rfl⟩ := hd.int; have HD := hid (DoP.trans HBD.out hd); clear hd)
          | fail)
   all_goals
        go_wp2; go_ret; rw [HR.out]; exact HD.out
theorem jnh (B p : Nat) (s : Stt) (x : Ent) (w : World) (h : Sto B p w s) (hM : May s) (hk : x.kind = 3) (i j : Nat) (b : Bx) (m : Mail) (hf : s.boxes.findIdx? (isName x.box) = some i) (hb : s.boxes[i]? = some b) (hj : b.mails.findIdx? (jbS x.uid) = some j) (hm : b.mails[j]? = some m) :
 Calls Tryz.prog 61 #[.pointer (some ⟨p, 0, none⟩), .agg #[.int .i64 x.kind, .string (S x.box), .int .i64 x.uid, .int .i64 x.flags, .string (S x.goal), .string (S x.text)]] w (DoP B p w (doM s x)) := by
 obtain ⟨W1, hW1⟩ : ∃ W1, W1 = w.alloc (.cells #[.int .i64 x.kind, .string (S x.box), .int .i64 x.uid, .int .i64 x.flags, .string (S x.goal), .string (S x.text)] 25) := ⟨_, rfl⟩; have HWE := hid hW1; have hb1 : Below w.heap.size w W1 := by rw [hW1]; exact nb0 _ _
 have hX : W1.heap[w.heap.size]? = some (.cells #[.int .i64 x.kind, .string (S x.box), .int .i64 x.uid, .int .i64 x.flags, .string (S x.goal), .string (S x.text)] 25) := by rw [hW1]; exact heap_alloc_new w _
 obtain ⟨x0, x1, x2, x3, x4, x5⟩ := jbE hX; have hpw : p < w.heap.size := by obtain ⟨_, _, _, hp, _⟩ := h; exact (Array.getElem?_eq_some_iff.1 hp).1
 have hS1 := h.next hb1; have hBw : B ≤ w.heap.size := by obtain ⟨_, _, _, _, _, _, h4⟩ := h; omega
 have HB1 := hid (show Below B w W1 from hb1.mono hBw); have hs1 : B ≤ W1.heap.size := by have := hb1.size; omega
 obtain ⟨r, hr⟩ : ∃ r, r = doM s x := ⟨_, rfl⟩; rw [← hr]; rw [jmB hk hf hb hj hm] at hr; obtain ⟨ab, cb, vs, vm, hp, hO, hn, hBp⟩ := hS1.open; obtain ⟨p0, p1, q0, q1⟩ := zu hp; have hSt := hO.stt (Q := fun _ => True) hM (fun _ _ => trivial); have HIX := hid (jN s.boxes x.box ab cb W1.drew _ hSt.1); rw [zC hf] at HIX; obtain ⟨g, rfl⟩ := jaj hO hb; have hi : i < s.boxes.length := (List.getElem?_eq_some_iff.1 hb).1; have i1 : (i : Int) < (s.boxes.length : Int) := by omega
 have i0 : (0 : Int) ≤ (i : Int) := by omega
 obtain ⟨g', c', v, e, hv, e0, e1, e2, f1, f2⟩ := hO.box hb; simp only [Value.slice.injEq, Option.some.injEq, Addr.mk.injEq, and_true, true_and] at e; obtain ⟨rfl, rfl⟩ := e; obtain ⟨am, cm, rfl⟩ := qG hO hb hv; have hBM := hM.each b (List.mem_of_getElem? hb); have hML : MailsM (fun _ => True) W1 (.slice am b.mails.length cm) b.mails := qB (hO.mails i b _ hb hv) rfl (by have := hBM.many; unfold maxLen; omega) (by simp) (jA (k := 3) j9 (fun _ => rfl) _) (fun q y cs hy hc => by rw [List.getElem?_map, hy] at hc; cases hc; rfl) (fun _ _ => trivial); have HIM := hid (fun u (hu : Below W1.heap.size W1 u) => qe b.mails x.uid am cm u _ (hML.next hu)); rw [zC hj] at HIM; obtain ⟨gm, om, eam, _, k0, k1, k2⟩ := hML.at hm; obtain ⟨gq, rfl⟩ : ∃ gq, am = some ⟨gq, 0, none⟩ := by
  rcases (hO.mails i b _ hb hv).2 with ⟨e, _⟩ | ⟨g2, _, _, e, _⟩
  · simp only [Value.slice.injEq] at e; rw [e.1] at eam; cases eam
  · simp only [Value.slice.injEq] at e; exact ⟨g2, e.1⟩
 simp only [Option.some.injEq, Addr.mk.injEq, and_true] at eam; obtain ⟨rfl, rfl⟩ := eam; have hj0 : j < b.mails.length := (List.getElem?_eq_some_iff.1 hm).1; have j1 : (j : Int) < (b.mails.length : Int) := by omega
 have j0 : (0 : Int) ≤ (j : Int) := by omega
 simp only [Nat.zero_add] at k0 k1 k2; have kf : W1.frozen? ⟨gq, j * 3 + 1, none⟩ = false := by
  rcases (hO.mails i b _ hb hv).2 with ⟨e, _⟩ | ⟨g2, _, _, e, _, hg2, _⟩
  · simp only [Value.slice.injEq] at e; cases e.1
  · simp only [Value.slice.injEq, Option.some.injEq, Addr.mk.injEq, and_true] at e; obtain ⟨rfl, _⟩ := e
    simp [World.frozen?, hg2]
 have HFL := hid (fun u (hu : Below W1.heap.size W1 u) => jkz (f := x.flags) (zI hu hp) (hO.next hu) hn hBp hb hv hm); have HR := hid hr; have c1 : (x.kind == 1) = false := by simp; omega
 have c6 : (x.kind == 6) = false := by simp; omega
 have c2 : (x.kind == 2) = false := by simp; omega
 have c4 : (x.kind == 4) = false := by simp; omega
 have c5 : (x.kind == 5) = false := by simp; omega
 clear h hM hk hf hr hW1 hb1 hX hS1 hp hO hn hSt hb hv hBM hML hj hm; go_enter Tryz.func61, Tryz.ntmps61; go_upto_region 1 with fail
 rw [← HWE.out]; go_wp2
 go_cut [5] (fun v wx => v = .int .i64 ((i : Int)) ∧ Below W1.heap.size W1 wx)
 case first =>
  go_region_held3 (fun w' => w'.cell? ⟨w.heap.size, 1, none⟩ = some (.string (S x.box)) ∧ w'.cell? ⟨p, 0, none⟩ = some (.slice (some ⟨g, 0, none⟩) s.boxes.length cb)) (go_keep)
   (first
        | (go_at_call 92
           with_reducible refine HIX.out.mono ?_
           rintro e w2 ⟨rfl, hb⟩; have hb2 : Below W1.heap.size W1 w2 := (Below.refl _ _).drew.trans hb; have HB2 := hid hb2; have z1 := ja x1 hb2; have z0 := ja p0 hb2; clear hb hb2)
        | fail)
  all_goals
   go_wp2_with fail
   go_meet
   exact ⟨rfl, HB2.out⟩
 case rest =>
  obtain ⟨rfl, hbc⟩ := hcut; have y0 := ja p0 hbc; have z0 := ja x0 hbc; have z1 := ja x1 hbc; have z2 := ja x2 hbc; have z3 := ja x3 hbc; have z4 := ja x4 hbc; have z5 := ja x5 hbc; have HBC := hid (show Below B w wc from HB1.out.trans (hbc.mono hs1)); have o1 := ja k1 hbc; have of := jW kf k1 hbc; have y2 := ja e2 hbc; have HIM2 := hid (HIM.out wc.drew hbc.drew); have HBC1 := hid hbc; clear hbc; obtain ⟨Wc, rfl⟩ : ∃ W, W = wc := ⟨_, rfl⟩; go_wp2
  go_cut [7] (fun v wx => v = .int .i64 ((j : Int)) ∧ Below Wc.heap.size Wc wx)
  case first =>
   go_region_held3 (fun w' => w'.cell? ⟨w.heap.size, 2, none⟩ = some (.int .i64 x.uid) ∧ w'.cell? ⟨g, i * 3 + 2, none⟩ = some (.slice (some ⟨gq, 0, none⟩) b.mails.length cm)) (go_keep)
        (first
          | (go_at_call 96
             with_reducible refine HIM2.out.mono ?_
             rintro e w2 ⟨rfl, hb⟩; have hb2 : Below Wc.heap.size Wc w2 := (Below.refl _ _).drew.trans hb; have HB2 := hid hb2; have l2 := ja z2 hb2; have l0 := ja y2 hb2; clear hb hb2)
          | fail)
   all_goals
        go_wp2_with fail
        go_meet
        exact ⟨rfl, HB2.out⟩
  case rest =>
   obtain ⟨rfl, hbd⟩ := hcut; have t1 := ja o1 hbd; have tf := jW of o1 hbd; have s0 := ja z0 hbd; have s3 := ja z3 hbd; have s2 := ja y2 hbd; have hFL := HFL.out wc.drew (HBC1.out.trans (hbd.mono HBC1.out.size)).drew; have HF := hid (show DoP B p w r (.returned (.int .i64 0)) (wc.drew.setCell ⟨gq, j * 3 + 1, none⟩ (.int .i64 x.flags)) by
        rw [HR.out]; exact ⟨((HBC.out.trans (hbd.mono (Nat.le_trans hs1 HBC1.out.size))).drew).trans hFL.2, rfl, hFL.1⟩)
   clear hbd hFL; go_wp2
   go_region_law (fail)
   all_goals
        go_wp2; go_ret; exact HF.out
theorem jlu (B p : Nat) (s : Stt) (x : Ent) (w : World) (h : Sto B p w s) (hM : May s) (hF : Formed x) :
 Calls Tryz.prog 61 #[.pointer (some ⟨p, 0, none⟩), .agg #[.int .i64 x.kind, .string (S x.box), .int .i64 x.uid, .int .i64 x.flags, .string (S x.goal), .string (S x.text)]] w (DoP B p w (doM s x)) := by
 have hk := hF.kind
 by_cases k1 : x.kind = 1
 · exact jnf B p s x w h hM k1
 · by_cases k6 : x.kind = 6
   · exact jnk B p s x w h hM k6
   · cases hf : s.boxes.findIdx? (isName x.box) with
     | none => exact jlM B p s x w h hM k1 k6 hf
     | some i =>
       by_cases k2 : x.kind = 2
       · exact jng B p s x w h hM hF k2 i hf
       · by_cases k4 : x.kind = 4
         · exact jni B p s x w h hM k4 i hf
         · obtain ⟨b, hb, _⟩ := jaW hf; cases hj : b.mails.findIdx? (jbS x.uid) with
           | none => exact jlL B p s x w h hM (by omega) i b hf hb hj
           | some j =>
             obtain ⟨m, hm, _⟩ := jaW hj
             by_cases k5 : x.kind = 5
             · exact jnj B p s x w h hM k5 i j b m hf hb hj hm
             · exact jnh B p s x w h hM (by omega) i j b m hf hb hj hm
theorem jjU {Q : Nat → Prop} {w : World} {v : Value} {l : List Ent} (h : EntsM Q w v l) : EntsM (fun k => k < w.heap.size) w v l := by
 obtain ⟨a, c, h1, h2, h3⟩ := h; refine ⟨a, c, h1, h2, fun i x hx => ?_⟩; obtain ⟨b, o, cs, e, hb, _, h4, h5, h6⟩ := h3 i x hx; exact ⟨b, o, cs, e, hb, hb, h4, h5, h6⟩
theorem jgn {B : Nat} {w w' : World} {v : Value} {l : List Ent} (h : EntsM (fun k => k < B) w v l) (hb : Below B w w') : EntsM (fun k => k < B) w' v l := h.imp (fun _ h => h) (Keeps.of_below' hb fun _ h => h)
theorem jgA (n : Int) (w : World) : Calls Tryz.prog 38 #[.int .i64 n] w fun e w' => e = .returned (.bool (decide (0 ≤ n) && decide (n < 3))) ∧ w' = w := by
 go_enter Tryz.func38, Tryz.ntmps38; go_wp2
 all_goals
  go_ret
  simp [*]
  try omega
theorem jhu (b : Bat) (a : Option Addr) (c : Nat) (Q : Nat → Prop) (w : World) (h : BatOk b) (hE : EntsM Q w (.slice a b.ents.length c) b.ents) :
 Calls Tryz.prog 37 #[.agg #[.int .i64 b.user, .slice a b.ents.length c]] w fun e w' => e = .returned (.int .i64 0) ∧ Below w.heap.size w w' := by
 obtain ⟨user, ents⟩ := b; obtain ⟨⟨u0, u1⟩, ⟨m0, m1⟩, he⟩ := h; simp only at *; have hU : (decide (0 ≤ user) && decide (user < 3)) = true := by simp [u0, u1]
 obtain ⟨W1, hW1⟩ : ∃ W1, W1 = w.alloc (.cells #[.int .i64 user, .slice a ents.length c] 100) := ⟨_, rfl⟩; have HWE := hid hW1; have HB1 := hid (show Below w.heap.size w W1 by rw [hW1]; exact nb0 _ _); have hp : W1.heap[w.heap.size]? = some (.cells #[.int .i64 user, .slice a ents.length c] 100) := by rw [hW1]; exact heap_alloc_new w _
 obtain ⟨x0, x1, _, _⟩ := j8 hp; have HE := hid (hE.next HB1.out); have HF := hid he; have hn0 : ¬ (ents.length : Int) = 0 := by omega
 have hn1 : ¬ (10 : Int) < (ents.length : Int) := by omega
 have hnb : ((ents.length : Int) == 0) = false := by
  rw [beq_eq_false_iff_ne]; exact hn0
 clear hE he hW1 hp; go_enter Tryz.func37, Tryz.ntmps37; go_wp2_with fail; rw [← HWE.out]; refine (jgA user W1).mono ?_; rintro e u ⟨rfl, hu⟩; have hu' := hu.symm; subst hu'; rw [hU]; clear hu; go_wp2
 go_loopw [25] (fun v wr => ∃ k : Nat, k ≤ ents.length ∧ v = .int .i64 k ∧ Hid (Below W1.heap.size W1 wr)) (fun v _ => ents.length - (intOf v).toNat)
 case atStart => exact ⟨0, Nat.zero_le _, rfl, Below.refl _ _⟩
 case round =>
  obtain ⟨k, hk, rfl, HB⟩ := hrel
  by_cases hlt : k < ents.length
  · have k1 : (k : Int) < (ents.length : Int) := by omega
    have k0 : (0 : Int) ≤ (k : Int) := by omega
    obtain ⟨x, hx⟩ : ∃ x, ents[k]? = some x := ⟨_, List.getElem?_eq_getElem hlt⟩; obtain ⟨b, o, rfl, _, e0, e1, e2, e3, e4, e5⟩ := (HE.out.next HB.out).at hx; have HFX := hid (HF.out x (List.mem_of_getElem? hx)); clear hx; obtain ⟨W2, hW2⟩ : ∃ W2, W2 = wr.alloc (.cells #[.int .i64 x.kind, .string (S x.box), .int .i64 x.uid, .int .i64 x.flags, .string (S x.goal), .string (S x.text)] 25) := ⟨_, rfl⟩; have HWE2 := hid hW2; have hB2 : Below wr.heap.size wr W2 := by rw [hW2]; exact nb0 _ _
    have HB2 := hid (HB.out.trans (hB2.mono HB.out.size)); have hX2 : W2.heap[wr.heap.size]? = some (.cells #[.int .i64 x.kind, .string (S x.box), .int .i64 x.uid, .int .i64 x.flags, .string (S x.goal), .string (S x.text)] 25) := by rw [hW2]; exact heap_alloc_new wr _
    obtain ⟨y0, y1, y2, y3, y4, y5⟩ := jbE hX2; clear hW2 hB2 hX2; go_upto_region 8 with fail
    rw [← HWE2.out]; go_wp2_with fail; refine (jc5 x W2 HFX.out).mono ?_; rintro e w3 ⟨rfl, hb3⟩; have HB3 := hid (HB2.out.trans (hb3.mono HB2.out.size)); clear hb3; go_wp2
    go_roundw
    case rel => first | exact ⟨k + 1, by omega, by go_num, HB3⟩ | ((repeat apply Exists.intro); exact ⟨⟨k + 1, by omega, by go_num, HB3⟩, rfl⟩)
    case measure => simp [intOf]; omega
  · have k1 : ¬ (k : Int) < (ents.length : Int) := by omega
    have HR := hid (HB1.out.trans (HB.out.mono HB1.out.size)); go_wp2; go_ret; exact ⟨rfl, HR.out⟩
theorem jgm {l : List Ent} {k : Nat} {x : Ent} (h : l[k]? = some x) : zA (l.take (k + 1)) = zA (l.take k) ++ entB x := by
 have key : ∀ (l r : List Ent), zA (l ++ r) = zA l ++ zA r := by
  intro l r
  induction l with
  | nil => rfl
  | cons y l ih => simp only [List.cons_append, zA, ih, List.append_assoc]
 have hk : k < l.length := (List.getElem?_eq_some_iff.1 h).1; rw [List.take_succ_eq_append_getElem hk, (List.getElem?_eq_some_iff.1 h).2, key]
 simp [zA]
theorem jgl (l : List Ent) (k : Nat) : (zA (l.take k)).length ≤ (zA l).length := by
 have key : ∀ (l : List Ent) (k : Nat), (zA (l.take k)).length ≤ (zA l).length := by
  intro l
  induction l with
  | nil => intro k; simp [zA]
  | cons y l ih =>
    intro k; cases k with
    | zero => simp [zA]
    | succ k => simp only [List.take_succ_cons, zA, List.length_append]; have := ih k; omega
 exact key l k
def jc3 (l : List Ent) (k : Nat) : List UInt8 := zA (l.take k)
theorem jhj (x : Bat) (hx : FitB x) (a : Option Addr) (c : Nat) (B b : Nat) (g : Option Nat) (l : List UInt8) (w : World) (hw : ByW B w b g l) (hl : l.length + (batB x).length ≤ 600000) (hE : EntsM (fun k => k < B) w (.slice a x.ents.length c) x.ents) :
 Calls Tryz.prog 162 #[.pointer (some ⟨b, 0, none⟩), .agg #[.int .i64 x.user, .slice a x.ents.length c]] w (WnP B b g w (l ++ batB x)) := by
 obtain ⟨user, ents⟩ := x; obtain ⟨⟨u0, u1⟩, hm, hf⟩ := hx; simp only at *; obtain ⟨un, rfl⟩ : ∃ un : Nat, user = (un : Int) := ⟨user.toNat, by omega⟩; have HBB := hid (show batB ⟨(un : Int), ents⟩ = beB un 1 ++ (beB ents.length 1 ++ zA ents) by unfold batB; simp); have HLB := hid (show l.length + (zA ents).length ≤ 600000 by have := hl; rw [HBB.out] at this; simp only [List.length_append, ze] at this; omega); obtain ⟨W1, hW1⟩ : ∃ W1, W1 = w.alloc (.cells #[.int .i64 un, .slice a ents.length c] 100) := ⟨_, rfl⟩; have HWE := hid hW1; have hB1 : Below w.heap.size w W1 := by rw [hW1]; exact nb0 _ _
 have hp : W1.heap[w.heap.size]? = some (.cells #[.int .i64 un, .slice a ents.length c] 100) := by rw [hW1]; exact heap_alloc_new w _
 have HPB := hid (show w.heap.size ≠ b by have := hw.lt; omega); have HPG := hid (show g ≠ some w.heap.size from fun e => by have := hw.row _ e; omega); have HP := hid hp; have HY1 := hid (hw.next hB1); have HX1 := hid (show Wro b g g w W1 from Wro.of hB1); have HE := hid hE; have HYW := hid hw; have HF := hid hf; have HL := hid (show l.length ≤ 600000 by omega); obtain ⟨c0, _, _, _⟩ := j8 hp; clear hw hW1 hB1 hp hE hf u0 u1 hl; go_enter Tryz.func162, Tryz.ntmps162; go_wp2_with fail; rw [← HWE.out]; refine (qb un 1 B b g l W1 HY1.out (by decide) (by have := HL.out; omega)).mono ?_; rintro e w2 ⟨rfl, g2, hy2, hx2⟩; have HP2 := hid (hx2.obj HY1.out HP.out HPB.out HPG.out); have HG2 := hid (hx2.stay (Array.getElem?_eq_some_iff.1 HP.out).1 HPG.out); obtain ⟨_, c1, _, _⟩ := j8 HP2.out; have HX2 := hid (HX1.out.trans hx2); have HY2 := hid hy2; clear hy2 hx2 c0; go_wp2_with fail; refine (qb ents.length 1 B b g2 (l ++ beB un 1) w2 HY2.out (by decide) (by have := HL.out; rw [List.length_append, ze]; omega)).mono ?_; rintro e w3 ⟨rfl, g3, hy3, hx3⟩; have HP3 := hid (hx3.obj HY2.out HP2.out HPB.out HG2.out); obtain ⟨_, d1, _, _⟩ := j8 HP3.out; have HX3 := hid (HX2.out.trans hx3); have HY3 := hid (show ByW B w3 b g3 (l ++ (beB un 1 ++ beB ents.length 1)) by simpa only [List.append_assoc] using hy3); have HH := hid (show (beB un 1 ++ beB ents.length 1).length = 2 by simp [ze]); have HBC := hid (show batB ⟨(un : Int), ents⟩ = (beB un 1 ++ beB ents.length 1) ++ zA ents by rw [HBB.out]; simp); generalize beB un 1 ++ beB ents.length 1 = hd at *; clear hy3 hx3 c1; go_wp2
 go_loopw [18] (fun v wr => ∃ (k : Nat) (g9 : Option Nat), k ≤ ents.length ∧ v = .int .i64 k ∧ Hid (ByW B wr b g9 (l ++ (hd ++ jc3 ents k))) ∧ Hid (Wro b g g9 w wr)) (fun v _ => ents.length - (intOf v).toNat)
 case atStart => exact ⟨0, g3, Nat.zero_le _, rfl, by simpa [jc3, zA] using HY3, HX3⟩
 case round =>
  obtain ⟨k, g9, hk, rfl, HY, HX⟩ := hrel
  by_cases hlt : k < ents.length
  · have k1 : (k : Int) < (ents.length : Int) := by omega
    have k0 : (0 : Int) ≤ (k : Int) := by omega
    obtain ⟨x, hx⟩ : ∃ x, ents[k]? = some x := ⟨_, List.getElem?_eq_getElem hlt⟩; have HS := hid (show jc3 ents (k + 1) = jc3 ents k ++ entB x from jgm hx); have HFX := hid (HF.out x (List.mem_of_getElem? hx)); obtain ⟨bb, o, rfl, _, e0, e1, e2, e3, e4, e5⟩ := (jgn HE.out (HX.out.low HYW.out)).at hx; have HLK := hid (show (l ++ (hd ++ jc3 ents k)).length ≤ 700000 by
        have h1 : (jc3 ents k).length ≤ (zA ents).length := jgl ents k; have h2 := HLB.out; have h3 := HH.out; simp only [List.length_append]; omega)
    clear hx; obtain ⟨W4, hW4⟩ : ∃ W4, W4 = wr.alloc (.cells #[.int .i64 x.kind, .string (S x.box), .int .i64 x.uid, .int .i64 x.flags, .string (S x.goal), .string (S x.text)] 25) := ⟨_, rfl⟩; have HWE4 := hid hW4; have hB4 : Below wr.heap.size wr W4 := by rw [hW4]; exact nb0 _ _
    have hX4 : W4.heap[wr.heap.size]? = some (.cells #[.int .i64 x.kind, .string (S x.box), .int .i64 x.uid, .int .i64 x.flags, .string (S x.goal), .string (S x.text)] 25) := by rw [hW4]; exact heap_alloc_new wr _
    obtain ⟨y0, y1, y2, y3, y4, y5⟩ := jbE hX4; have HY4 := hid (HY.out.next hB4); have HX4 := hid (HX.out.trans (Wro.of hB4)); have HWN := hid (jkQ x HFX.out B b g9 (l ++ (hd ++ jc3 ents k)) W4 HY4.out HLK.out); clear hW4 hB4 hX4; go_upto_region 6 with fail
    rw [← HWE4.out]; go_wp2_with fail; refine HWN.out.mono ?_; rintro e w5 ⟨rfl, g5, hy5, hx5⟩; have HX5 := hid (HX4.out.trans hx5); have HY5 := hid (show ByW B w5 b g5 (l ++ (hd ++ jc3 ents (k + 1))) by rw [HS.out]; simpa only [List.append_assoc] using hy5); clear hy5 hx5; go_wp2
    go_roundw
    case rel => first | exact ⟨k + 1, g5, by omega, by go_num, HY5, HX5⟩ | ((repeat apply Exists.intro); exact ⟨⟨k + 1, g5, by omega, by go_num, HY5, HX5⟩, rfl⟩)
    case measure => simp [intOf]; omega
  · have k1 : ¬ (k : Int) < (ents.length : Int) := by omega
    have HR := hid (show WnP B b g w (l ++ batB ⟨(un : Int), ents⟩) (.returned (.tuple #[])) wr from ⟨rfl, g9, by rw [HBC.out]; have h := HY.out; unfold jc3 at h; rw [List.take_of_length_le (by omega)] at h; exact h, HX.out⟩); go_wp2; go_end0; exact HR.out
def EncP (w : World) (l : List UInt8) (er : Int) (e : Ending) (w' : World) : Prop := ∃ a c, e = .returned (.tuple #[.slice a l.length c, .int .i64 er]) ∧ w'.ownsRow w.heap.size 5 1 (.slice a l.length c) l.length (byC l) ∧ Below w.heap.size w w'
theorem jhM (b : Bat) (a : Option Addr) (c : Nat) (Q : Nat → Prop) (w : World) (h : BatOk b) (hE : EntsM Q w (.slice a b.ents.length c) b.ents) :
 Calls Tryz.prog 120 #[.agg #[.int .i64 b.user, .slice a b.ents.length c]] w (EncP w (batB b) 0) := by
 have hfit := h.fit; have hlen := h.len; obtain ⟨W1, hW1⟩ : ∃ W1, W1 = w.alloc (.cells #[.int .i64 b.user, .slice a b.ents.length c] 100) := ⟨_, rfl⟩; have HWE := hid hW1; have HB1 := hid (show Below w.heap.size w W1 by rw [hW1]; exact nb0 _ _); have hp : W1.heap[w.heap.size]? = some (.cells #[.int .i64 b.user, .slice a b.ents.length c] 100) := by rw [hW1]; exact heap_alloc_new w _
 obtain ⟨x0, x1, _, _⟩ := j8 hp; have HP := hid hp; have HE := hid (hE.next HB1.out); have HC := hid (jhu b a c Q W1 h HE.out); have HFT := hid hfit; have HLN := hid hlen; clear hE h hW1 hp hfit hlen; go_enter Tryz.func120, Tryz.ntmps120; go_wp2_with fail; rw [← HWE.out]; refine HC.out.mono ?_; rintro e w2 ⟨rfl, hb2⟩; obtain ⟨W3, hW3⟩ : ∃ W3, W3 = w2.alloc (.cells #[.slice none 0 0] 203) := ⟨_, rfl⟩; have HWE3 := hid hW3; have hB3 : Below w2.heap.size w2 W3 := by rw [hW3]; exact nb0 _ _
 have hB13 : Below W1.heap.size W1 W3 := hb2.trans (hB3.mono hb2.size); have hX3 : W3.heap[w2.heap.size]? = some (.cells #[.slice none 0 0] 203) := by rw [hW3]; exact heap_alloc_new w2 _
 obtain ⟨y0, y1, _, _⟩ := j8 (qp hB13 HP.out); have HY3 := hid (show ByW w2.heap.size W3 w2.heap.size none [] from ⟨none, 0, hX3, rfl, by simp, Nat.le_refl _, World.ownsRow_nil _ _ _ _⟩); have HE3 := hid (show EntsM (fun k => k < w2.heap.size) W3 (.slice a b.ents.length c) b.ents from (jjU (HE.out.next hb2)).imp (fun _ h => h) (Keeps.of_below hB3)); have HWB := hid (jhj b HFT.out a c w2.heap.size w2.heap.size none [] W3 HY3.out (by have := HLN.out; simp; omega) HE3.out); have HB2 := hid (HB1.out.trans (hb2.mono HB1.out.size)); have HB3 := hid (HB1.out.trans (hB13.mono HB1.out.size)); clear hW3 hB3 hB13 hX3 hb2; go_upto_region 5 with fail
 rw [← HWE3.out]; go_wp2_with fail; refine HWB.out.mono ?_; rintro e w4 ⟨rfl, g4, hy4, hx4⟩; have hb4 : Below w2.heap.size W3 w4 := hx4.low HY3.out; obtain ⟨a4, c4, h1, _, _, _, h5⟩ := hy4; simp only [List.nil_append] at h1 h5; have z0 : w4.cell? ⟨w2.heap.size, 0, none⟩ = some (.slice a4 (batB b).length c4) := by simp [World.cell?, h1]
 have HR := hid (show EncP w (batB b) 0 (.returned (.tuple #[.slice a4 (batB b).length c4, .int .i64 0])) w4 from ⟨a4, c4, rfl, jeB h5 HB2.out.size, HB3.out.trans (hb4.mono HB2.out.size)⟩); clear h1 h5 hb4 hx4; go_wp2; go_ret2; exact HR.out
def RdB (w : World) (b : Nat) (r : List UInt8 × Bool) : Prop := ∃ v, w.heap[b]? = some (.cells #[v, .bool r.2] 165) ∧ BysM (fun k => k < b) w v r.1
theorem RdB.lt {w : World} {b : Nat} {r : List UInt8 × Bool} (h : RdB w b r) : b < w.heap.size := by
 obtain ⟨v, h, _⟩ := h; exact (Array.getElem?_eq_some_iff.1 h).1
theorem RdB.next {w w' : World} {b : Nat} {r : List UInt8 × Bool} (h : RdB w b r) (hb : Below w.heap.size w w') : RdB w' b r := by
 obtain ⟨v, h1, h2⟩ := h; exact ⟨v, qp hb h1, h2.next hb⟩
theorem But.obj {b p : Nat} {w w' : World} {o : Obj} (h : But b w w') (hp : w.heap[p]? = some o) (hn : p ≠ b) : w'.heap[p]? = some o := (h.block p (Array.getElem?_eq_some_iff.1 hp).1 hn).trans hp
theorem RdB.far {w w' : World} {b : Nat} {r : List UInt8 × Bool} (h : RdB w b r) (hb : Below (b + 1) w w') : RdB w' b r := by
 obtain ⟨v, h1, h2⟩ := h; exact ⟨v, (hb.block b (by omega)).trans h1, h2.imp (fun _ h => h) fun k _ hk => hb.block k (by omega)⟩
def ReP (b : Nat) (w : World) (x : Ent × (List UInt8 × Bool)) (e : Ending) (w' : World) : Prop := e = .returned (.agg #[.int .i64 x.1.kind, .string (S x.1.box), .int .i64 x.1.uid, .int .i64 x.1.flags, .string (S x.1.goal), .string (S x.1.text)]) ∧ RdB w' b x.2 ∧ But b w w'
theorem low6 {B p : Nat} (W : World) (v0 v1 v2 v3 v4 v5 : Value) (hp : B ≤ p) : Below B W ((((((W.setCell ⟨p, 0, none⟩ v0).setCell ⟨p, 1, none⟩ v1).setCell ⟨p, 2, none⟩ v2).setCell ⟨p, 3, none⟩ v3).setCell ⟨p, 4, none⟩ v4).setCell ⟨p, 5, none⟩ v5) := by
 have h0 := (Below.refl B W).setCell (p := ⟨p, 0, none⟩) hp v0; have h1 := h0.setCell (p := ⟨p, 1, none⟩) hp v1; have h2 := h1.setCell (p := ⟨p, 2, none⟩) hp v2; have h3 := h2.setCell (p := ⟨p, 3, none⟩) hp v3; have h4 := h3.setCell (p := ⟨p, 4, none⟩) hp v4; exact h4.setCell (p := ⟨p, 5, none⟩) hp v5
theorem ReP.fin {b : Nat} {w W : World} {k u f : Int} {B0 B1 B2 : List UInt8} {R : List UInt8 × Bool} {y : Ent × (List UInt8 × Bool)} (hy : y = (⟨k, B0, u, f, B1, B2⟩, R)) (hr : RdB W b R) (hu : But b w W) (hb : b < w.heap.size) :
 ReP b w y (.returned (.agg #[.int .i64 k, .string (S B0), .int .i64 u, .int .i64 f, .string (S B1), .string (S B2)])) ((((((W.setCell ⟨w.heap.size, 0, none⟩ (.int .i64 k)).setCell ⟨w.heap.size, 1, none⟩ (.string (S B0))).setCell ⟨w.heap.size, 2, none⟩ (.int .i64 u)).setCell ⟨w.heap.size, 3, none⟩ (.int .i64 f)).setCell ⟨w.heap.size, 4, none⟩ (.string (S B1))).setCell ⟨w.heap.size, 5, none⟩ (.string (S B2))) := by
 subst hy; have h := low6 (B := w.heap.size) W (.int .i64 k) (.string (S B0)) (.int .i64 u) (.int .i64 f) (.string (S B1)) (.string (S B2)) (Nat.le_refl _); exact ⟨rfl, hr.far (h.mono (by omega)), h.os.trans hu.os, h.tape.trans hu.tape, h.output.trans hu.output, Nat.le_trans hu.size h.size, fun q hq hn => (h.block q hq).trans (hu.block q hq hn)⟩
end Go.Proofs.YtgooljlpffnaeaaGreatDoor
