/-
  What an entry does to a store: the walk of do.
-/
import Derived.Test.YtgfbdgheencmaaaGreatDoorXQBoxCr3
import Derived.Test.YtgfbdgheencmaaaGreatDoorRows
import Derived.Test.YtgfbdgheencmaaaGreatDoorXWhoRd
set_option maxHeartbeats 2000000
set_option maxRecDepth 100000
namespace Go.Proofs.YtgfbdgheencmaaaGreatDoor
open Go.RowKit Go.Proofs
theorem joa {s : Stt} {x : Ent} (h : x.kind = 1) : doM s x = if (s.boxes.findIdx? (isName x.box)).isSome then .error 10 else if 5 ≤ s.boxes.length then .error 5 else .ok ⟨s.boxes ++ [⟨x.box, 1, []⟩], s.spool⟩ := by unfold doM; rw [if_pos h]
theorem jms {s : Stt} {x : Ent} (h : x.kind = 6) : doM s x = if 20 ≤ s.spool.length then .error 5 else .ok ⟨s.boxes, s.spool ++ [x]⟩ := by unfold doM; rw [if_neg (by omega), if_pos h]
theorem jk0 {s : Stt} {x : Ent} (h1 : x.kind ≠ 1) (h6 : x.kind ≠ 6) (hf : s.boxes.findIdx? (isName x.box) = none) : doM s x = .error 7 := by unfold doM; rw [if_neg h1, if_neg h6, hf]
theorem jmr {s : Stt} {x : Ent} {i : Nat} (h : x.kind = 2) (hf : s.boxes.findIdx? (isName x.box) = some i) : doM s x = addM s i x.flags x.text := by unfold doM; rw [if_neg (by omega), if_neg (by omega), hf]; simp only [if_pos h]
theorem joc {s : Stt} {x : Ent} {i : Nat} {b : Bx} (h : x.kind = 4) (hf : s.boxes.findIdx? (isName x.box) = some i) (hb : s.boxes[i]? = some b) : doM s x = .ok ⟨s.boxes.set i ⟨b.name, b.next, b.mails.filter fun m => !ql m⟩, s.spool⟩ := by
 unfold doM; rw [if_neg (by omega), if_neg (by omega), hf]; simp only [if_neg (show ¬ x.kind = 2 by omega), hb, if_pos h]
theorem jkZ {s : Stt} {x : Ent} {i : Nat} {b : Bx} (h : x.kind = 3 ∨ x.kind = 5) (hf : s.boxes.findIdx? (isName x.box) = some i) (hb : s.boxes[i]? = some b) (hj : b.mails.findIdx? (jcf x.uid) = none) : doM s x = .error 7 := by
 unfold doM; rw [if_neg (by omega), if_neg (by omega), hf]; simp only [if_neg (show ¬ x.kind = 2 by omega), hb, if_neg (show ¬ x.kind = 4 by omega), hj]
theorem jod {s : Stt} {x : Ent} {i j : Nat} {b : Bx} {m : Mail} (h : x.kind = 5) (hf : s.boxes.findIdx? (isName x.box) = some i) (hb : s.boxes[i]? = some b) (hj : b.mails.findIdx? (jcf x.uid) = some j) (hm : b.mails[j]? = some m) : doM s x = jhc s x.goal m.flags m.text := by
 unfold doM jhc; rw [if_neg (by omega), if_neg (by omega), hf]; simp only [if_neg (show ¬ x.kind = 2 by omega), hb, if_neg (show ¬ x.kind = 4 by omega), hj, hm, if_pos h]; cases s.boxes.findIdx? (isName x.goal) <;> rfl
theorem job {s : Stt} {x : Ent} {i j : Nat} {b : Bx} {m : Mail} (h : x.kind = 3) (hf : s.boxes.findIdx? (isName x.box) = some i) (hb : s.boxes[i]? = some b) (hj : b.mails.findIdx? (jcf x.uid) = some j) (hm : b.mails[j]? = some m) : doM s x = .ok ⟨s.boxes.set i ⟨b.name, b.next, b.mails.set j ⟨m.uid, x.flags, m.text⟩⟩, s.spool⟩ := by
 unfold doM; rw [if_neg (by omega), if_neg (by omega), hf]; simp only [if_neg (show ¬ x.kind = 2 by omega), hb, if_neg (show ¬ x.kind = 4 by omega), hj, hm, if_neg (show ¬ x.kind = 5 by omega)]
theorem jdw {w : World} {p : Nat} {v0 v1 v2 v3 v4 v5 : Value} {t : TypeId} (h : w.heap[p]? = some (.cells #[v0, v1, v2, v3, v4, v5] t)) : w.cell? ⟨p, 0, none⟩ = some v0 ∧ w.cell? ⟨p, 1, none⟩ = some v1 ∧ w.cell? ⟨p, 2, none⟩ = some v2 ∧ w.cell? ⟨p, 3, none⟩ = some v3 ∧ w.cell? ⟨p, 4, none⟩ = some v4 ∧ w.cell? ⟨p, 5, none⟩ = some v5 := by
 refine ⟨?_, ?_, ?_, ?_, ?_, ?_⟩ <;> simp [World.cell?, h]
theorem joL (B p : Nat) (s : Stt) (x : Ent) (w : World) (h : Sto B p w s) (hM : May s) (hk : x.kind = 1) :
 Calls Tryz.prog 26 #[.pointer (some ⟨p, 0, none⟩), .agg #[.int .i64 x.kind, .string (S x.box), .int .i64 x.uid, .int .i64 x.flags, .string (S x.goal), .string (S x.text)]] w (DoP B p w (doM s x)) := by
 obtain ⟨W1, hW1⟩ : ∃ W1, W1 = w.alloc (.cells #[.int .i64 x.kind, .string (S x.box), .int .i64 x.uid, .int .i64 x.flags, .string (S x.goal), .string (S x.text)] 48) := ⟨_, rfl⟩; have HWE := hid hW1; have hb1 : Below w.heap.size w W1 := by rw [hW1]; exact nb0 _ _
 have hX : W1.heap[w.heap.size]? = some (.cells #[.int .i64 x.kind, .string (S x.box), .int .i64 x.uid, .int .i64 x.flags, .string (S x.goal), .string (S x.text)] 48) := by rw [hW1]; exact heap_alloc_new w _
 obtain ⟨x0, x1, x2, x3, x4, x5⟩ := jdw hX; have hpw : p < w.heap.size := by obtain ⟨_, _, _, hp, _⟩ := h; exact (Array.getElem?_eq_some_iff.1 hp).1
 have hS1 := h.next hb1; have hBw : B ≤ w.heap.size := by obtain ⟨_, _, _, _, _, _, h4⟩ := h; omega
 have HB1 := hid (show Below B w W1 from hb1.mono hBw); have hs1 : B ≤ W1.heap.size := by have := hb1.size; omega
 obtain ⟨r, hr⟩ : ∃ r, r = doM s x := ⟨_, rfl⟩; rw [← hr]; rw [joa hk] at hr; have HC := hid (jhe B p s x.box W1 hS1 hM); have HR := hid hr; have c1 : (x.kind == 1) = true := by simp; omega
 clear h hM hk hr hW1 hb1 hX hS1; go_enter Tryz.func26, Tryz.ntmps26; go_upto_region 1 with fail
 rw [← HWE.out]; go_wp2_with fail; refine HC.out.mono ?_; intro e w2 hd; obtain ⟨zz, rfl⟩ := hd.int; have HD := hid (DoP.trans HB1.out hd); clear hd; simp only; go_wp2; go_ret; rw [HR.out]; exact HD.out
theorem joQ (B p : Nat) (s : Stt) (x : Ent) (w : World) (h : Sto B p w s) (hM : May s) (hk : x.kind = 6) :
 Calls Tryz.prog 26 #[.pointer (some ⟨p, 0, none⟩), .agg #[.int .i64 x.kind, .string (S x.box), .int .i64 x.uid, .int .i64 x.flags, .string (S x.goal), .string (S x.text)]] w (DoP B p w (doM s x)) := by
 obtain ⟨W1, hW1⟩ : ∃ W1, W1 = w.alloc (.cells #[.int .i64 x.kind, .string (S x.box), .int .i64 x.uid, .int .i64 x.flags, .string (S x.goal), .string (S x.text)] 48) := ⟨_, rfl⟩; have HWE := hid hW1; have hb1 : Below w.heap.size w W1 := by rw [hW1]; exact nb0 _ _
 have hX : W1.heap[w.heap.size]? = some (.cells #[.int .i64 x.kind, .string (S x.box), .int .i64 x.uid, .int .i64 x.flags, .string (S x.goal), .string (S x.text)] 48) := by rw [hW1]; exact heap_alloc_new w _
 obtain ⟨x0, x1, x2, x3, x4, x5⟩ := jdw hX; have hpw : p < w.heap.size := by obtain ⟨_, _, _, hp, _⟩ := h; exact (Array.getElem?_eq_some_iff.1 hp).1
 have hS1 := h.next hb1; have hBw : B ≤ w.heap.size := by obtain ⟨_, _, _, _, _, _, h4⟩ := h; omega
 have HB1 := hid (show Below B w W1 from hb1.mono hBw); have hs1 : B ≤ W1.heap.size := by have := hb1.size; omega
 obtain ⟨r, hr⟩ : ∃ r, r = doM s x := ⟨_, rfl⟩; rw [← hr]; rw [jms hk] at hr; have HC := hid (jj6 B p s x W1 hS1 hM); have HR := hid hr; have c1 : (x.kind == 1) = false := by simp; omega
 have c6 : (x.kind == 6) = true := by simp; omega
 clear h hM hk hr hW1 hb1 hX hS1; go_enter Tryz.func26, Tryz.ntmps26; go_upto_region 1 with fail
 rw [← HWE.out]; go_wp2_with fail; refine HC.out.mono ?_; intro e w2 hd; obtain ⟨zz, rfl⟩ := hd.int; have HD := hid (DoP.trans HB1.out hd); clear hd; simp only; go_wp2; go_ret; rw [HR.out]; exact HD.out
theorem jm2 (B p : Nat) (s : Stt) (x : Ent) (w : World) (h : Sto B p w s) (hM : May s) (h1 : x.kind ≠ 1) (h6 : x.kind ≠ 6) (hf : s.boxes.findIdx? (isName x.box) = none) :
 Calls Tryz.prog 26 #[.pointer (some ⟨p, 0, none⟩), .agg #[.int .i64 x.kind, .string (S x.box), .int .i64 x.uid, .int .i64 x.flags, .string (S x.goal), .string (S x.text)]] w (DoP B p w (doM s x)) := by
 obtain ⟨W1, hW1⟩ : ∃ W1, W1 = w.alloc (.cells #[.int .i64 x.kind, .string (S x.box), .int .i64 x.uid, .int .i64 x.flags, .string (S x.goal), .string (S x.text)] 48) := ⟨_, rfl⟩; have HWE := hid hW1; have hb1 : Below w.heap.size w W1 := by rw [hW1]; exact nb0 _ _
 have hX : W1.heap[w.heap.size]? = some (.cells #[.int .i64 x.kind, .string (S x.box), .int .i64 x.uid, .int .i64 x.flags, .string (S x.goal), .string (S x.text)] 48) := by rw [hW1]; exact heap_alloc_new w _
 obtain ⟨x0, x1, x2, x3, x4, x5⟩ := jdw hX; have hpw : p < w.heap.size := by obtain ⟨_, _, _, hp, _⟩ := h; exact (Array.getElem?_eq_some_iff.1 hp).1
 have hS1 := h.next hb1; have hBw : B ≤ w.heap.size := by obtain ⟨_, _, _, _, _, _, h4⟩ := h; omega
 have HB1 := hid (show Below B w W1 from hb1.mono hBw); have hs1 : B ≤ W1.heap.size := by have := hb1.size; omega
 obtain ⟨r, hr⟩ : ∃ r, r = doM s x := ⟨_, rfl⟩; rw [← hr]; rw [jk0 h1 h6 hf] at hr; obtain ⟨ab, cb, vs, vm, hp, hO, hn, hBp⟩ := hS1.open; obtain ⟨p0, p1, q0, q1⟩ := zr hp; have hSt := hO.stt (Q := fun _ => True) hM (fun _ _ => trivial); have HIX := hid (jT s.boxes x.box ab cb W1.drew _ hSt.1); rw [jaN hf] at HIX; have HR := hid hr; have c1 : (x.kind == 1) = false := by simp; omega
 have c6 : (x.kind == 6) = false := by simp; omega
 clear h hM h1 h6 hf hr hW1 hb1 hX hS1 hp hO hn hSt; go_enter Tryz.func26, Tryz.ntmps26; go_upto_region 1 with fail
 rw [← HWE.out]; go_wp2
 go_cut [5] (fun v wx => v = .int .i64 (-1) ∧ Below W1.heap.size W1 wx)
 case first =>
  go_region_held3 (fun w' => w'.cell? ⟨w.heap.size, 1, none⟩ = some (.string (S x.box)) ∧ w'.cell? ⟨p, 0, none⟩ = some (.slice ab s.boxes.length cb)) (go_keep)
   (first
        | (go_at_call 51
           with_reducible refine HIX.out.mono ?_
           rintro e w2 ⟨rfl, hb⟩; have hb2 : Below W1.heap.size W1 w2 := (Below.refl _ _).drew.trans hb; have HB2 := hid hb2; have z1 := jb x1 hb2; have z0 := jb p0 hb2; clear hb hb2)
        | fail)
  all_goals
   go_wp2_with fail
   go_meet
   exact ⟨rfl, HB2.out⟩
 case rest =>
  obtain ⟨rfl, hbc⟩ := hcut; have HE := hid (show DoP B p w r (.returned (.int .i64 7)) wc by rw [HR.out]; exact ⟨HB1.out.trans (hbc.mono hs1), rfl⟩); clear hbc; go_wp2; go_ret; exact HE.out
theorem joM (B p : Nat) (s : Stt) (x : Ent) (w : World) (h : Sto B p w s) (hM : May s) (hF : Formed x) (hk : x.kind = 2) (i : Nat) (hf : s.boxes.findIdx? (isName x.box) = some i) :
 Calls Tryz.prog 26 #[.pointer (some ⟨p, 0, none⟩), .agg #[.int .i64 x.kind, .string (S x.box), .int .i64 x.uid, .int .i64 x.flags, .string (S x.goal), .string (S x.text)]] w (DoP B p w (doM s x)) := by
 obtain ⟨W1, hW1⟩ : ∃ W1, W1 = w.alloc (.cells #[.int .i64 x.kind, .string (S x.box), .int .i64 x.uid, .int .i64 x.flags, .string (S x.goal), .string (S x.text)] 48) := ⟨_, rfl⟩; have HWE := hid hW1; have hb1 : Below w.heap.size w W1 := by rw [hW1]; exact nb0 _ _
 have hX : W1.heap[w.heap.size]? = some (.cells #[.int .i64 x.kind, .string (S x.box), .int .i64 x.uid, .int .i64 x.flags, .string (S x.goal), .string (S x.text)] 48) := by rw [hW1]; exact heap_alloc_new w _
 obtain ⟨x0, x1, x2, x3, x4, x5⟩ := jdw hX; have hpw : p < w.heap.size := by obtain ⟨_, _, _, hp, _⟩ := h; exact (Array.getElem?_eq_some_iff.1 hp).1
 have hS1 := h.next hb1; have hBw : B ≤ w.heap.size := by obtain ⟨_, _, _, _, _, _, h4⟩ := h; omega
 have HB1 := hid (show Below B w W1 from hb1.mono hBw); have hs1 : B ≤ W1.heap.size := by have := hb1.size; omega
 obtain ⟨r, hr⟩ : ∃ r, r = doM s x := ⟨_, rfl⟩; rw [← hr]; rw [jmr hk hf] at hr; obtain ⟨ab, cb, vs, vm, hp, hO, hn, hBp⟩ := hS1.open; obtain ⟨p0, p1, q0, q1⟩ := zr hp; have hSt := hO.stt (Q := fun _ => True) hM (fun _ _ => trivial); have HIX := hid (jT s.boxes x.box ab cb W1.drew _ hSt.1); rw [zS hf] at HIX; obtain ⟨b, hb, _⟩ := qJ hf; obtain ⟨g, rfl⟩ := jai hO hb; have hi : i < s.boxes.length := (List.getElem?_eq_some_iff.1 hb).1; have i1 : (i : Int) < (s.boxes.length : Int) := by omega
 have i0 : (0 : Int) ≤ (i : Int) := by omega
 have HA := hid (fun u (hu : Below W1.heap.size W1 u) => jgc B p g cb i vs vm s b x.flags x.text u (jY hu hp) (hO.next hu) hn hBp hb hM hF.text); have HR := hid hr; have c1 : (x.kind == 1) = false := by simp; omega
 have c6 : (x.kind == 6) = false := by simp; omega
 have c2 : (x.kind == 2) = true := by simp; omega
 clear h hM hF hk hf hr hW1 hb1 hX hS1 hp hO hn hSt hb; go_enter Tryz.func26, Tryz.ntmps26; go_upto_region 1 with fail
 rw [← HWE.out]; go_wp2
 go_cut [5] (fun v wx => v = .int .i64 ((i : Int)) ∧ Below W1.heap.size W1 wx)
 case first =>
  go_region_held3 (fun w' => w'.cell? ⟨w.heap.size, 1, none⟩ = some (.string (S x.box)) ∧ w'.cell? ⟨p, 0, none⟩ = some (.slice (some ⟨g, 0, none⟩) s.boxes.length cb)) (go_keep)
   (first
        | (go_at_call 51
           with_reducible refine HIX.out.mono ?_
           rintro e w2 ⟨rfl, hb⟩; have hb2 : Below W1.heap.size W1 w2 := (Below.refl _ _).drew.trans hb; have HB2 := hid hb2; have z1 := jb x1 hb2; have z0 := jb p0 hb2; clear hb hb2)
        | fail)
  all_goals
   go_wp2_with fail
   go_meet
   exact ⟨rfl, HB2.out⟩
 case rest =>
  obtain ⟨rfl, hbc⟩ := hcut; have y0 := jb p0 hbc; have z0 := jb x0 hbc; have z1 := jb x1 hbc; have z2 := jb x2 hbc; have z3 := jb x3 hbc; have z4 := jb x4 hbc; have z5 := jb x5 hbc; have HBC := hid (show Below B w wc from HB1.out.trans (hbc.mono hs1)); have HA2 := hid (HA.out wc hbc); clear hbc; go_wp2_with fail; refine HA2.out.mono ?_; intro e w3 hd; obtain ⟨zz, rfl⟩ := hd.int; have HD := hid (DoP.trans HBC.out hd); clear hd; simp only; go_wp2; go_ret; rw [HR.out]; exact HD.out
theorem joO (B p : Nat) (s : Stt) (x : Ent) (w : World) (h : Sto B p w s) (hM : May s) (hk : x.kind = 4) (i : Nat) (hf : s.boxes.findIdx? (isName x.box) = some i) :
 Calls Tryz.prog 26 #[.pointer (some ⟨p, 0, none⟩), .agg #[.int .i64 x.kind, .string (S x.box), .int .i64 x.uid, .int .i64 x.flags, .string (S x.goal), .string (S x.text)]] w (DoP B p w (doM s x)) := by
 obtain ⟨W1, hW1⟩ : ∃ W1, W1 = w.alloc (.cells #[.int .i64 x.kind, .string (S x.box), .int .i64 x.uid, .int .i64 x.flags, .string (S x.goal), .string (S x.text)] 48) := ⟨_, rfl⟩; have HWE := hid hW1; have hb1 : Below w.heap.size w W1 := by rw [hW1]; exact nb0 _ _
 have hX : W1.heap[w.heap.size]? = some (.cells #[.int .i64 x.kind, .string (S x.box), .int .i64 x.uid, .int .i64 x.flags, .string (S x.goal), .string (S x.text)] 48) := by rw [hW1]; exact heap_alloc_new w _
 obtain ⟨x0, x1, x2, x3, x4, x5⟩ := jdw hX; have hpw : p < w.heap.size := by obtain ⟨_, _, _, hp, _⟩ := h; exact (Array.getElem?_eq_some_iff.1 hp).1
 have hS1 := h.next hb1; have hBw : B ≤ w.heap.size := by obtain ⟨_, _, _, _, _, _, h4⟩ := h; omega
 have HB1 := hid (show Below B w W1 from hb1.mono hBw); have hs1 : B ≤ W1.heap.size := by have := hb1.size; omega
 obtain ⟨r, hr⟩ : ∃ r, r = doM s x := ⟨_, rfl⟩; rw [← hr]; obtain ⟨b, hb, _⟩ := qJ hf; rw [joc hk hf hb] at hr; obtain ⟨ab, cb, vs, vm, hp, hO, hn, hBp⟩ := hS1.open; obtain ⟨p0, p1, q0, q1⟩ := zr hp; have hSt := hO.stt (Q := fun _ => True) hM (fun _ _ => trivial); have HIX := hid (jT s.boxes x.box ab cb W1.drew _ hSt.1); rw [zS hf] at HIX; obtain ⟨g, rfl⟩ := jai hO hb; have hi : i < s.boxes.length := (List.getElem?_eq_some_iff.1 hb).1; have i1 : (i : Int) < (s.boxes.length : Int) := by omega
 have i0 : (0 : Int) ≤ (i : Int) := by omega
 obtain ⟨g', c', v, e, hv, e0, e1, e2, f1, f2⟩ := hO.box hb; simp only [Value.slice.injEq, Option.some.injEq, Addr.mk.injEq, and_true, true_and] at e; obtain ⟨rfl, rfl⟩ := e; obtain ⟨am, cm, rfl⟩ := qS hO hb hv; have hBM := hM.each b (List.mem_of_getElem? hb); have HDL := hid (fun u (hu : Below W1.heap.size W1 u) => delF b.mails (.slice am b.mails.length cm) B u ((hO.next hu).mails i b _ hb hv) (fun m hm => by have := jcp hBM.mails hm; exact ⟨this.2.2.1, this.2.2.2.1⟩) (by have := hBM.many; omega)); have HEN := hid (fun u u' v' (hu : Below W1.heap.size W1 u) (hgrow : u.grownBy u' (Value.slice am b.mails.length cm).ownBlock) (hown : u'.ownsRow B 92 3 v' (b.mails.filter fun m => !ql m).length ((b.mails.filter fun m => !ql m).map zk).flatten) (hat : v'.ownBlock = (Value.slice am b.mails.length cm).ownBlock) => jke (jY hu hp) (hO.next hu) hn hBp hb hv hgrow hown hat); have hgn : some g ≠ (Value.slice am b.mails.length cm).ownBlock := fun e => hO.mb _ (List.mem_of_getElem? hv) g e.symm rfl
 have HR := hid hr; have c1 : (x.kind == 1) = false := by simp; omega
 have c6 : (x.kind == 6) = false := by simp; omega
 have c2 : (x.kind == 2) = false := by simp; omega
 have c4 : (x.kind == 4) = true := by simp; omega
 clear h hM hk hf hr hW1 hb1 hX hS1 hp hO hn hSt hb hv hBM; go_enter Tryz.func26, Tryz.ntmps26; go_upto_region 1 with fail
 rw [← HWE.out]; go_wp2
 go_cut [5] (fun v wx => v = .int .i64 ((i : Int)) ∧ Below W1.heap.size W1 wx)
 case first =>
  go_region_held3 (fun w' => w'.cell? ⟨w.heap.size, 1, none⟩ = some (.string (S x.box)) ∧ w'.cell? ⟨p, 0, none⟩ = some (.slice (some ⟨g, 0, none⟩) s.boxes.length cb)) (go_keep)
   (first
        | (go_at_call 51
           with_reducible refine HIX.out.mono ?_
           rintro e w2 ⟨rfl, hb⟩; have hb2 : Below W1.heap.size W1 w2 := (Below.refl _ _).drew.trans hb; have HB2 := hid hb2; have z1 := jb x1 hb2; have z0 := jb p0 hb2; clear hb hb2)
        | fail)
  all_goals
   go_wp2_with fail
   go_meet
   exact ⟨rfl, HB2.out⟩
 case rest =>
  obtain ⟨rfl, hbc⟩ := hcut; have y0 := jb p0 hbc; have z0 := jb x0 hbc; have z1 := jb x1 hbc; have z2 := jb x2 hbc; have z3 := jb x3 hbc; have z4 := jb x4 hbc; have z5 := jb x5 hbc; have HBC := hid (show Below B w wc from HB1.out.trans (hbc.mono hs1)); have y2 := jb e2 hbc; have yf2 := jV f2 e2 hbc; have HDL2 := hid (HDL.out wc hbc); have HEN2 := hid (fun u' v' => HEN.out wc u' v' hbc); clear hbc; go_wp2_with fail; refine HDL2.out.mono ?_; rintro e w3 ⟨v', rfl, hat, hown, hgrow⟩; obtain ⟨a3, c3, rfl⟩ := js hown; have u2 := hgrow.cell (a := ⟨g, i * 3 + 2, none⟩) y2 hgn; have uf2 : w3.frozen? ⟨g, i * 3 + 2, none⟩ = false := (World.frozen?_of_block (hgrow.block g (World.block_lt_of_cell? _ _ y2) hgn)).trans yf2; have hEND := HEN2.out w3 _ hgrow hown hat; have HF := hid (show DoP B p w r (.returned (.int .i64 0)) (w3.setCell ⟨g, i * 3 + 2, none⟩ (.slice a3 (b.mails.filter fun m => !ql m).length c3)) by rw [HR.out]; exact ⟨HBC.out.trans hEND.2, rfl, hEND.1⟩); clear hat hown hgrow hEND; simp only; go_wp2; go_ret; exact HF.out
theorem jm1 (B p : Nat) (s : Stt) (x : Ent) (w : World) (h : Sto B p w s) (hM : May s) (hk : x.kind = 3 ∨ x.kind = 5) (i : Nat) (b : Bx) (hf : s.boxes.findIdx? (isName x.box) = some i) (hb : s.boxes[i]? = some b) (hj : b.mails.findIdx? (jcf x.uid) = none) :
 Calls Tryz.prog 26 #[.pointer (some ⟨p, 0, none⟩), .agg #[.int .i64 x.kind, .string (S x.box), .int .i64 x.uid, .int .i64 x.flags, .string (S x.goal), .string (S x.text)]] w (DoP B p w (doM s x)) := by
 obtain ⟨W1, hW1⟩ : ∃ W1, W1 = w.alloc (.cells #[.int .i64 x.kind, .string (S x.box), .int .i64 x.uid, .int .i64 x.flags, .string (S x.goal), .string (S x.text)] 48) := ⟨_, rfl⟩; have HWE := hid hW1; have hb1 : Below w.heap.size w W1 := by rw [hW1]; exact nb0 _ _
 have hX : W1.heap[w.heap.size]? = some (.cells #[.int .i64 x.kind, .string (S x.box), .int .i64 x.uid, .int .i64 x.flags, .string (S x.goal), .string (S x.text)] 48) := by rw [hW1]; exact heap_alloc_new w _
 obtain ⟨x0, x1, x2, x3, x4, x5⟩ := jdw hX; have hpw : p < w.heap.size := by obtain ⟨_, _, _, hp, _⟩ := h; exact (Array.getElem?_eq_some_iff.1 hp).1
 have hS1 := h.next hb1; have hBw : B ≤ w.heap.size := by obtain ⟨_, _, _, _, _, _, h4⟩ := h; omega
 have HB1 := hid (show Below B w W1 from hb1.mono hBw); have hs1 : B ≤ W1.heap.size := by have := hb1.size; omega
 obtain ⟨r, hr⟩ : ∃ r, r = doM s x := ⟨_, rfl⟩; rw [← hr]; rw [jkZ hk hf hb hj] at hr; obtain ⟨ab, cb, vs, vm, hp, hO, hn, hBp⟩ := hS1.open; obtain ⟨p0, p1, q0, q1⟩ := zr hp; have hSt := hO.stt (Q := fun _ => True) hM (fun _ _ => trivial); have HIX := hid (jT s.boxes x.box ab cb W1.drew _ hSt.1); rw [zS hf] at HIX; obtain ⟨g, rfl⟩ := jai hO hb; have hi : i < s.boxes.length := (List.getElem?_eq_some_iff.1 hb).1; have i1 : (i : Int) < (s.boxes.length : Int) := by omega
 have i0 : (0 : Int) ≤ (i : Int) := by omega
 obtain ⟨g', c', v, e, hv, e0, e1, e2, f1, f2⟩ := hO.box hb; simp only [Value.slice.injEq, Option.some.injEq, Addr.mk.injEq, and_true, true_and] at e; obtain ⟨rfl, rfl⟩ := e; obtain ⟨am, cm, rfl⟩ := qS hO hb hv; have hBM := hM.each b (List.mem_of_getElem? hb); have hML : MailsM (fun _ => True) W1 (.slice am b.mails.length cm) b.mails := vV (hO.mails i b _ hb hv) rfl (by have := hBM.many; unfold maxLen; omega) (by simp) (jI (k := 3) zk (fun _ => rfl) _) (fun q y cs hy hc => by rw [List.getElem?_map, hy] at hc; cases hc; rfl) (fun _ _ => trivial); have HIM := hid (fun u (hu : Below W1.heap.size W1 u) => qu b.mails x.uid am cm u _ (hML.next hu)); rw [jaN hj] at HIM; have HR := hid hr; have c1 : (x.kind == 1) = false := by simp; omega
 have c6 : (x.kind == 6) = false := by simp; omega
 have c2 : (x.kind == 2) = false := by simp; omega
 have c4 : (x.kind == 4) = false := by simp; omega
 clear h hM hk hf hr hW1 hb1 hX hS1 hp hO hn hSt hb hv hBM hML hj; go_enter Tryz.func26, Tryz.ntmps26; go_upto_region 1 with fail
 rw [← HWE.out]; go_wp2
 go_cut [5] (fun v wx => v = .int .i64 ((i : Int)) ∧ Below W1.heap.size W1 wx)
 case first =>
  go_region_held3 (fun w' => w'.cell? ⟨w.heap.size, 1, none⟩ = some (.string (S x.box)) ∧ w'.cell? ⟨p, 0, none⟩ = some (.slice (some ⟨g, 0, none⟩) s.boxes.length cb)) (go_keep)
   (first
        | (go_at_call 51
           with_reducible refine HIX.out.mono ?_
           rintro e w2 ⟨rfl, hb⟩; have hb2 : Below W1.heap.size W1 w2 := (Below.refl _ _).drew.trans hb; have HB2 := hid hb2; have z1 := jb x1 hb2; have z0 := jb p0 hb2; clear hb hb2)
        | fail)
  all_goals
   go_wp2_with fail
   go_meet
   exact ⟨rfl, HB2.out⟩
 case rest =>
  obtain ⟨rfl, hbc⟩ := hcut; have y0 := jb p0 hbc; have z0 := jb x0 hbc; have z1 := jb x1 hbc; have z2 := jb x2 hbc; have z3 := jb x3 hbc; have z4 := jb x4 hbc; have z5 := jb x5 hbc; have HBC := hid (show Below B w wc from HB1.out.trans (hbc.mono hs1)); have y2 := jb e2 hbc; have HIM2 := hid (HIM.out wc.drew hbc.drew); have HBC1 := hid hbc; clear hbc; obtain ⟨Wc, rfl⟩ : ∃ W, W = wc := ⟨_, rfl⟩; go_wp2
  go_cut [7] (fun v wx => v = .int .i64 (-1) ∧ Below Wc.heap.size Wc wx)
  case first =>
   go_region_held3 (fun w' => w'.cell? ⟨w.heap.size, 2, none⟩ = some (.int .i64 x.uid) ∧ w'.cell? ⟨g, i * 3 + 2, none⟩ = some (.slice am b.mails.length cm)) (go_keep)
        (first
          | (go_at_call 55
             with_reducible refine HIM2.out.mono ?_
             rintro e w2 ⟨rfl, hb⟩; have hb2 : Below Wc.heap.size Wc w2 := (Below.refl _ _).drew.trans hb; have HB2 := hid hb2; have l2 := jb z2 hb2; have l0 := jb y2 hb2; clear hb hb2)
          | fail)
   all_goals
        go_wp2_with fail
        go_meet
        exact ⟨rfl, HB2.out⟩
  case rest =>
   obtain ⟨rfl, hbd⟩ := hcut; have HE := hid (show DoP B p w r (.returned (.int .i64 7)) wc by rw [HR.out]; exact ⟨HBC.out.trans (hbd.mono (Nat.le_trans hs1 HBC1.out.size)), rfl⟩); clear hbd; go_wp2; go_ret; exact HE.out
theorem joP (B p : Nat) (s : Stt) (x : Ent) (w : World) (h : Sto B p w s) (hM : May s) (hk : x.kind = 5) (i j : Nat) (b : Bx) (m : Mail) (hf : s.boxes.findIdx? (isName x.box) = some i) (hb : s.boxes[i]? = some b) (hj : b.mails.findIdx? (jcf x.uid) = some j) (hm : b.mails[j]? = some m) :
 Calls Tryz.prog 26 #[.pointer (some ⟨p, 0, none⟩), .agg #[.int .i64 x.kind, .string (S x.box), .int .i64 x.uid, .int .i64 x.flags, .string (S x.goal), .string (S x.text)]] w (DoP B p w (doM s x)) := by
 obtain ⟨W1, hW1⟩ : ∃ W1, W1 = w.alloc (.cells #[.int .i64 x.kind, .string (S x.box), .int .i64 x.uid, .int .i64 x.flags, .string (S x.goal), .string (S x.text)] 48) := ⟨_, rfl⟩; have HWE := hid hW1; have hb1 : Below w.heap.size w W1 := by rw [hW1]; exact nb0 _ _
 have hX : W1.heap[w.heap.size]? = some (.cells #[.int .i64 x.kind, .string (S x.box), .int .i64 x.uid, .int .i64 x.flags, .string (S x.goal), .string (S x.text)] 48) := by rw [hW1]; exact heap_alloc_new w _
 obtain ⟨x0, x1, x2, x3, x4, x5⟩ := jdw hX; have hpw : p < w.heap.size := by obtain ⟨_, _, _, hp, _⟩ := h; exact (Array.getElem?_eq_some_iff.1 hp).1
 have hS1 := h.next hb1; have hBw : B ≤ w.heap.size := by obtain ⟨_, _, _, _, _, _, h4⟩ := h; omega
 have HB1 := hid (show Below B w W1 from hb1.mono hBw); have hs1 : B ≤ W1.heap.size := by have := hb1.size; omega
 obtain ⟨r, hr⟩ : ∃ r, r = doM s x := ⟨_, rfl⟩; rw [← hr]; rw [jod hk hf hb hj hm] at hr; obtain ⟨ab, cb, vs, vm, hp, hO, hn, hBp⟩ := hS1.open; obtain ⟨p0, p1, q0, q1⟩ := zr hp; have hSt := hO.stt (Q := fun _ => True) hM (fun _ _ => trivial); have HIX := hid (jT s.boxes x.box ab cb W1.drew _ hSt.1); rw [zS hf] at HIX; obtain ⟨g, rfl⟩ := jai hO hb; have hi : i < s.boxes.length := (List.getElem?_eq_some_iff.1 hb).1; have i1 : (i : Int) < (s.boxes.length : Int) := by omega
 have i0 : (0 : Int) ≤ (i : Int) := by omega
 obtain ⟨g', c', v, e, hv, e0, e1, e2, f1, f2⟩ := hO.box hb; simp only [Value.slice.injEq, Option.some.injEq, Addr.mk.injEq, and_true, true_and] at e; obtain ⟨rfl, rfl⟩ := e; obtain ⟨am, cm, rfl⟩ := qS hO hb hv; have hBM := hM.each b (List.mem_of_getElem? hb); have hML : MailsM (fun _ => True) W1 (.slice am b.mails.length cm) b.mails := vV (hO.mails i b _ hb hv) rfl (by have := hBM.many; unfold maxLen; omega) (by simp) (jI (k := 3) zk (fun _ => rfl) _) (fun q y cs hy hc => by rw [List.getElem?_map, hy] at hc; cases hc; rfl) (fun _ _ => trivial); have HIM := hid (fun u (hu : Below W1.heap.size W1 u) => qu b.mails x.uid am cm u _ (hML.next hu)); rw [zS hj] at HIM; obtain ⟨gm, om, eam, _, k0, k1, k2⟩ := hML.at hm; obtain ⟨gq, rfl⟩ : ∃ gq, am = some ⟨gq, 0, none⟩ := by
  rcases (hO.mails i b _ hb hv).2 with ⟨e, _⟩ | ⟨g2, _, _, e, _⟩
  · simp only [Value.slice.injEq] at e; rw [e.1] at eam; cases eam
  · simp only [Value.slice.injEq] at e; exact ⟨g2, e.1⟩
 simp only [Option.some.injEq, Addr.mk.injEq, and_true] at eam; obtain ⟨rfl, rfl⟩ := eam; have hj0 : j < b.mails.length := (List.getElem?_eq_some_iff.1 hm).1; have j1 : (j : Int) < (b.mails.length : Int) := by omega
 have j0 : (0 : Int) ≤ (j : Int) := by omega
 simp only [Nat.zero_add] at k0 k1 k2; have hmt := (jcp hBM.mails (List.mem_of_getElem? hm)).2.2.2.2; have HCT := hid (fun u (hu : Below W1.heap.size W1 u) => jhd B p s x.goal m.uid m.flags m.text u (hS1.next hu) hM hmt); have HR := hid hr; have c1 : (x.kind == 1) = false := by simp; omega
 have c6 : (x.kind == 6) = false := by simp; omega
 have c2 : (x.kind == 2) = false := by simp; omega
 have c4 : (x.kind == 4) = false := by simp; omega
 have c5 : (x.kind == 5) = true := by simp; omega
 clear h hM hk hf hr hW1 hb1 hX hS1 hp hO hn hSt hb hv hBM hML hj hm hmt; go_enter Tryz.func26, Tryz.ntmps26; go_upto_region 1 with fail
 rw [← HWE.out]; go_wp2
 go_cut [5] (fun v wx => v = .int .i64 ((i : Int)) ∧ Below W1.heap.size W1 wx)
 case first =>
  go_region_held3 (fun w' => w'.cell? ⟨w.heap.size, 1, none⟩ = some (.string (S x.box)) ∧ w'.cell? ⟨p, 0, none⟩ = some (.slice (some ⟨g, 0, none⟩) s.boxes.length cb)) (go_keep)
   (first
        | (go_at_call 51
           with_reducible refine HIX.out.mono ?_
           rintro e w2 ⟨rfl, hb⟩; have hb2 : Below W1.heap.size W1 w2 := (Below.refl _ _).drew.trans hb; have HB2 := hid hb2; have z1 := jb x1 hb2; have z0 := jb p0 hb2; clear hb hb2)
        | fail)
  all_goals
   go_wp2_with fail
   go_meet
   exact ⟨rfl, HB2.out⟩
 case rest =>
  obtain ⟨rfl, hbc⟩ := hcut; have y0 := jb p0 hbc; have z0 := jb x0 hbc; have z1 := jb x1 hbc; have z2 := jb x2 hbc; have z3 := jb x3 hbc; have z4 := jb x4 hbc; have z5 := jb x5 hbc; have HBC := hid (show Below B w wc from HB1.out.trans (hbc.mono hs1)); have o0 := jb k0 hbc; have o1 := jb k1 hbc; have o2 := jb k2 hbc; have y2 := jb e2 hbc; have HIM2 := hid (HIM.out wc.drew hbc.drew); have HBC1 := hid hbc; clear hbc; obtain ⟨Wc, rfl⟩ : ∃ W, W = wc := ⟨_, rfl⟩; go_wp2
  go_cut [7] (fun v wx => v = .int .i64 ((j : Int)) ∧ Below Wc.heap.size Wc wx)
  case first =>
   go_region_held3 (fun w' => w'.cell? ⟨w.heap.size, 2, none⟩ = some (.int .i64 x.uid) ∧ w'.cell? ⟨g, i * 3 + 2, none⟩ = some (.slice (some ⟨gq, 0, none⟩) b.mails.length cm)) (go_keep)
        (first
          | (go_at_call 55
             with_reducible refine HIM2.out.mono ?_
             rintro e w2 ⟨rfl, hb⟩; have hb2 : Below Wc.heap.size Wc w2 := (Below.refl _ _).drew.trans hb; have HB2 := hid hb2; have l2 := jb z2 hb2; have l0 := jb y2 hb2; clear hb hb2)
          | fail)
   all_goals
        go_wp2_with fail
        go_meet
        exact ⟨rfl, HB2.out⟩
  case rest =>
   obtain ⟨rfl, hbd⟩ := hcut; have t0 := jb o0 hbd; have t1 := jb o1 hbd; have t2 := jb o2 hbd; have s0 := jb z0 hbd; have s4 := jb z4 hbd; have s2 := jb y2 hbd; have HCT2 := hid (HCT.out wc.drew (HBC1.out.trans (hbd.mono HBC1.out.size)).drew); have HBD := hid (show Below B w wc.drew from (HBC.out.trans (hbd.mono (Nat.le_trans hs1 HBC1.out.size))).drew); clear hbd; go_wp2
   go_region_law
        (first
          | (go_simp
             go_at_call 56
             refine HCT2.out.mono ?_; intro e w3 hd; obtain ⟨zz, rfl⟩ := hd.int; have HD := hid (DoP.trans HBD.out hd); clear hd)
          | fail)
   all_goals
        go_wp2; go_ret; rw [HR.out]; exact HD.out
theorem joN (B p : Nat) (s : Stt) (x : Ent) (w : World) (h : Sto B p w s) (hM : May s) (hk : x.kind = 3) (i j : Nat) (b : Bx) (m : Mail) (hf : s.boxes.findIdx? (isName x.box) = some i) (hb : s.boxes[i]? = some b) (hj : b.mails.findIdx? (jcf x.uid) = some j) (hm : b.mails[j]? = some m) :
 Calls Tryz.prog 26 #[.pointer (some ⟨p, 0, none⟩), .agg #[.int .i64 x.kind, .string (S x.box), .int .i64 x.uid, .int .i64 x.flags, .string (S x.goal), .string (S x.text)]] w (DoP B p w (doM s x)) := by
 obtain ⟨W1, hW1⟩ : ∃ W1, W1 = w.alloc (.cells #[.int .i64 x.kind, .string (S x.box), .int .i64 x.uid, .int .i64 x.flags, .string (S x.goal), .string (S x.text)] 48) := ⟨_, rfl⟩; have HWE := hid hW1; have hb1 : Below w.heap.size w W1 := by rw [hW1]; exact nb0 _ _
 have hX : W1.heap[w.heap.size]? = some (.cells #[.int .i64 x.kind, .string (S x.box), .int .i64 x.uid, .int .i64 x.flags, .string (S x.goal), .string (S x.text)] 48) := by rw [hW1]; exact heap_alloc_new w _
 obtain ⟨x0, x1, x2, x3, x4, x5⟩ := jdw hX; have hpw : p < w.heap.size := by obtain ⟨_, _, _, hp, _⟩ := h; exact (Array.getElem?_eq_some_iff.1 hp).1
 have hS1 := h.next hb1; have hBw : B ≤ w.heap.size := by obtain ⟨_, _, _, _, _, _, h4⟩ := h; omega
 have HB1 := hid (show Below B w W1 from hb1.mono hBw); have hs1 : B ≤ W1.heap.size := by have := hb1.size; omega
 obtain ⟨r, hr⟩ : ∃ r, r = doM s x := ⟨_, rfl⟩; rw [← hr]; rw [job hk hf hb hj hm] at hr; obtain ⟨ab, cb, vs, vm, hp, hO, hn, hBp⟩ := hS1.open; obtain ⟨p0, p1, q0, q1⟩ := zr hp; have hSt := hO.stt (Q := fun _ => True) hM (fun _ _ => trivial); have HIX := hid (jT s.boxes x.box ab cb W1.drew _ hSt.1); rw [zS hf] at HIX; obtain ⟨g, rfl⟩ := jai hO hb; have hi : i < s.boxes.length := (List.getElem?_eq_some_iff.1 hb).1; have i1 : (i : Int) < (s.boxes.length : Int) := by omega
 have i0 : (0 : Int) ≤ (i : Int) := by omega
 obtain ⟨g', c', v, e, hv, e0, e1, e2, f1, f2⟩ := hO.box hb; simp only [Value.slice.injEq, Option.some.injEq, Addr.mk.injEq, and_true, true_and] at e; obtain ⟨rfl, rfl⟩ := e; obtain ⟨am, cm, rfl⟩ := qS hO hb hv; have hBM := hM.each b (List.mem_of_getElem? hb); have hML : MailsM (fun _ => True) W1 (.slice am b.mails.length cm) b.mails := vV (hO.mails i b _ hb hv) rfl (by have := hBM.many; unfold maxLen; omega) (by simp) (jI (k := 3) zk (fun _ => rfl) _) (fun q y cs hy hc => by rw [List.getElem?_map, hy] at hc; cases hc; rfl) (fun _ _ => trivial); have HIM := hid (fun u (hu : Below W1.heap.size W1 u) => qu b.mails x.uid am cm u _ (hML.next hu)); rw [zS hj] at HIM; obtain ⟨gm, om, eam, _, k0, k1, k2⟩ := hML.at hm; obtain ⟨gq, rfl⟩ : ∃ gq, am = some ⟨gq, 0, none⟩ := by
  rcases (hO.mails i b _ hb hv).2 with ⟨e, _⟩ | ⟨g2, _, _, e, _⟩
  · simp only [Value.slice.injEq] at e; rw [e.1] at eam; cases eam
  · simp only [Value.slice.injEq] at e; exact ⟨g2, e.1⟩
 simp only [Option.some.injEq, Addr.mk.injEq, and_true] at eam; obtain ⟨rfl, rfl⟩ := eam; have hj0 : j < b.mails.length := (List.getElem?_eq_some_iff.1 hm).1; have j1 : (j : Int) < (b.mails.length : Int) := by omega
 have j0 : (0 : Int) ≤ (j : Int) := by omega
 simp only [Nat.zero_add] at k0 k1 k2; have kf : W1.frozen? ⟨gq, j * 3 + 1, none⟩ = false := by
  rcases (hO.mails i b _ hb hv).2 with ⟨e, _⟩ | ⟨g2, _, _, e, _, hg2, _⟩
  · simp only [Value.slice.injEq] at e; cases e.1
  · simp only [Value.slice.injEq, Option.some.injEq, Addr.mk.injEq, and_true] at e; obtain ⟨rfl, _⟩ := e
    simp [World.frozen?, hg2]
 have HFL := hid (fun u (hu : Below W1.heap.size W1 u) => jl5 (f := x.flags) (jY hu hp) (hO.next hu) hn hBp hb hv hm); have HR := hid hr; have c1 : (x.kind == 1) = false := by simp; omega
 have c6 : (x.kind == 6) = false := by simp; omega
 have c2 : (x.kind == 2) = false := by simp; omega
 have c4 : (x.kind == 4) = false := by simp; omega
 have c5 : (x.kind == 5) = false := by simp; omega
 clear h hM hk hf hr hW1 hb1 hX hS1 hp hO hn hSt hb hv hBM hML hj hm; go_enter Tryz.func26, Tryz.ntmps26; go_upto_region 1 with fail
 rw [← HWE.out]; go_wp2
 go_cut [5] (fun v wx => v = .int .i64 ((i : Int)) ∧ Below W1.heap.size W1 wx)
 case first =>
  go_region_held3 (fun w' => w'.cell? ⟨w.heap.size, 1, none⟩ = some (.string (S x.box)) ∧ w'.cell? ⟨p, 0, none⟩ = some (.slice (some ⟨g, 0, none⟩) s.boxes.length cb)) (go_keep)
   (first
        | (go_at_call 51
           with_reducible refine HIX.out.mono ?_
           rintro e w2 ⟨rfl, hb⟩; have hb2 : Below W1.heap.size W1 w2 := (Below.refl _ _).drew.trans hb; have HB2 := hid hb2; have z1 := jb x1 hb2; have z0 := jb p0 hb2; clear hb hb2)
        | fail)
  all_goals
   go_wp2_with fail
   go_meet
   exact ⟨rfl, HB2.out⟩
 case rest =>
  obtain ⟨rfl, hbc⟩ := hcut; have y0 := jb p0 hbc; have z0 := jb x0 hbc; have z1 := jb x1 hbc; have z2 := jb x2 hbc; have z3 := jb x3 hbc; have z4 := jb x4 hbc; have z5 := jb x5 hbc; have HBC := hid (show Below B w wc from HB1.out.trans (hbc.mono hs1)); have o1 := jb k1 hbc; have of := jV kf k1 hbc; have y2 := jb e2 hbc; have HIM2 := hid (HIM.out wc.drew hbc.drew); have HBC1 := hid hbc; clear hbc; obtain ⟨Wc, rfl⟩ : ∃ W, W = wc := ⟨_, rfl⟩; go_wp2
  go_cut [7] (fun v wx => v = .int .i64 ((j : Int)) ∧ Below Wc.heap.size Wc wx)
  case first =>
   go_region_held3 (fun w' => w'.cell? ⟨w.heap.size, 2, none⟩ = some (.int .i64 x.uid) ∧ w'.cell? ⟨g, i * 3 + 2, none⟩ = some (.slice (some ⟨gq, 0, none⟩) b.mails.length cm)) (go_keep)
        (first
          | (go_at_call 55
             with_reducible refine HIM2.out.mono ?_
             rintro e w2 ⟨rfl, hb⟩; have hb2 : Below Wc.heap.size Wc w2 := (Below.refl _ _).drew.trans hb; have HB2 := hid hb2; have l2 := jb z2 hb2; have l0 := jb y2 hb2; clear hb hb2)
          | fail)
   all_goals
        go_wp2_with fail
        go_meet
        exact ⟨rfl, HB2.out⟩
  case rest =>
   obtain ⟨rfl, hbd⟩ := hcut; have t1 := jb o1 hbd; have tf := jV of o1 hbd; have s0 := jb z0 hbd; have s3 := jb z3 hbd; have s2 := jb y2 hbd; have hFL := HFL.out wc.drew (HBC1.out.trans (hbd.mono HBC1.out.size)).drew; have HF := hid (show DoP B p w r (.returned (.int .i64 0)) (wc.drew.setCell ⟨gq, j * 3 + 1, none⟩ (.int .i64 x.flags)) by
        rw [HR.out]; exact ⟨((HBC.out.trans (hbd.mono (Nat.le_trans hs1 HBC1.out.size))).drew).trans hFL.2, rfl, hFL.1⟩)
   clear hbd hFL; go_wp2
   go_region_law (fail)
   all_goals
        go_wp2; go_ret; exact HF.out
theorem jmU (B p : Nat) (s : Stt) (x : Ent) (w : World) (h : Sto B p w s) (hM : May s) (hF : Formed x) :
 Calls Tryz.prog 26 #[.pointer (some ⟨p, 0, none⟩), .agg #[.int .i64 x.kind, .string (S x.box), .int .i64 x.uid, .int .i64 x.flags, .string (S x.goal), .string (S x.text)]] w (DoP B p w (doM s x)) := by
 have hk := hF.kind
 by_cases k1 : x.kind = 1
 · exact joL B p s x w h hM k1
 · by_cases k6 : x.kind = 6
   · exact joQ B p s x w h hM k6
   · cases hf : s.boxes.findIdx? (isName x.box) with
     | none => exact jm2 B p s x w h hM k1 k6 hf
     | some i =>
       by_cases k2 : x.kind = 2
       · exact joM B p s x w h hM hF k2 i hf
       · by_cases k4 : x.kind = 4
         · exact joO B p s x w h hM k4 i hf
         · obtain ⟨b, hb, _⟩ := qJ hf; cases hj : b.mails.findIdx? (jcf x.uid) with
           | none => exact jm1 B p s x w h hM (by omega) i b hf hb hj
           | some j =>
             obtain ⟨m, hm, _⟩ := qJ hj
             by_cases k5 : x.kind = 5
             · exact joP B p s x w h hM k5 i j b m hf hb hj hm
             · exact joN B p s x w h hM (by omega) i j b m hf hb hj hm
theorem jmM (bx : List UInt8) (w : World) : Calls Tryz.prog 46 #[.agg #[.int .i64 1, .string (S bx), .int .i64 0, .int .i64 0, .string ⟨#[]⟩, .string ⟨#[]⟩]] w fun e w' => e = .returned (.agg #[.int .i64 1, .string (S bx), .int .i64 0, .int .i64 0, .string ⟨#[]⟩, .string ⟨#[]⟩]) ∧ Below w.heap.size w w' := by
 have HB := hid (show ∀ a b c : Obj, Below w.heap.size w (((w.alloc a).alloc b).alloc c) from fun a b c => (((Below.refl _ _).alloc (Nat.le_refl _) a).alloc (by simp) b).alloc (by simp; omega) c); go_enter Tryz.func46, Tryz.ntmps46; go_wp2; refine bodyPost_ret (v := .agg #[.int .i64 1, .string (S bx), .int .i64 0, .int .i64 0, .string ⟨#[]⟩, .string ⟨#[]⟩]) (by simp [results, Tryz.results46, go_sem, *]) rfl ?_
 first | exact ⟨rfl, HB.out _ _ _⟩ | exact ⟨rfl, (HB.out _ _ _).drew⟩
theorem jmN (bx t : List UInt8) (f : Int) (w : World) : Calls Tryz.prog 46 #[.agg #[.int .i64 2, .string (S bx), .int .i64 0, .int .i64 f, .string ⟨#[]⟩, .string (S t)]] w fun e w' => e = .returned (.agg #[.int .i64 2, .string (S bx), .int .i64 0, .int .i64 f, .string ⟨#[]⟩, .string (S t)]) ∧ Below w.heap.size w w' := by
 have HB := hid (show ∀ a b c : Obj, Below w.heap.size w (((w.alloc a).alloc b).alloc c) from fun a b c => (((Below.refl _ _).alloc (Nat.le_refl _) a).alloc (by simp) b).alloc (by simp; omega) c); go_enter Tryz.func46, Tryz.ntmps46; go_wp2
 go_region_law (fail)
 all_goals
  go_wp2; refine bodyPost_ret (v := .agg #[.int .i64 2, .string (S bx), .int .i64 0, .int .i64 f, .string ⟨#[]⟩, .string (S t)]) (by simp [results, Tryz.results46, go_sem, *]) rfl ?_
  first | exact ⟨rfl, HB.out _ _ _⟩ | exact ⟨rfl, (HB.out _ _ _).drew⟩
theorem jmO (bx : List UInt8) (u f : Int) (w : World) : Calls Tryz.prog 46 #[.agg #[.int .i64 3, .string (S bx), .int .i64 u, .int .i64 f, .string ⟨#[]⟩, .string ⟨#[]⟩]] w fun e w' => e = .returned (.agg #[.int .i64 3, .string (S bx), .int .i64 u, .int .i64 f, .string ⟨#[]⟩, .string ⟨#[]⟩]) ∧ Below w.heap.size w w' := by
 have HB := hid (show ∀ a b c : Obj, Below w.heap.size w (((w.alloc a).alloc b).alloc c) from fun a b c => (((Below.refl _ _).alloc (Nat.le_refl _) a).alloc (by simp) b).alloc (by simp; omega) c); go_enter Tryz.func46, Tryz.ntmps46; go_wp2
 go_region_law (fail)
 all_goals
  go_wp2; refine bodyPost_ret (v := .agg #[.int .i64 3, .string (S bx), .int .i64 u, .int .i64 f, .string ⟨#[]⟩, .string ⟨#[]⟩]) (by simp [results, Tryz.results46, go_sem, *]) rfl ?_
  first | exact ⟨rfl, HB.out _ _ _⟩ | exact ⟨rfl, (HB.out _ _ _).drew⟩
theorem jmP (bx : List UInt8) (w : World) : Calls Tryz.prog 46 #[.agg #[.int .i64 4, .string (S bx), .int .i64 0, .int .i64 0, .string ⟨#[]⟩, .string ⟨#[]⟩]] w fun e w' => e = .returned (.agg #[.int .i64 4, .string (S bx), .int .i64 0, .int .i64 0, .string ⟨#[]⟩, .string ⟨#[]⟩]) ∧ Below w.heap.size w w' := by
 have HB := hid (show ∀ a b c : Obj, Below w.heap.size w (((w.alloc a).alloc b).alloc c) from fun a b c => (((Below.refl _ _).alloc (Nat.le_refl _) a).alloc (by simp) b).alloc (by simp; omega) c); go_enter Tryz.func46, Tryz.ntmps46; go_wp2; refine bodyPost_ret (v := .agg #[.int .i64 4, .string (S bx), .int .i64 0, .int .i64 0, .string ⟨#[]⟩, .string ⟨#[]⟩]) (by simp [results, Tryz.results46, go_sem, *]) rfl ?_
 first | exact ⟨rfl, HB.out _ _ _⟩ | exact ⟨rfl, (HB.out _ _ _).drew⟩
theorem jmQ (bx g : List UInt8) (u : Int) (w : World) : Calls Tryz.prog 46 #[.agg #[.int .i64 5, .string (S bx), .int .i64 u, .int .i64 0, .string (S g), .string ⟨#[]⟩]] w fun e w' => e = .returned (.agg #[.int .i64 5, .string (S bx), .int .i64 u, .int .i64 0, .string (S g), .string ⟨#[]⟩]) ∧ Below w.heap.size w w' := by
 have HB := hid (show ∀ a b c : Obj, Below w.heap.size w (((w.alloc a).alloc b).alloc c) from fun a b c => (((Below.refl _ _).alloc (Nat.le_refl _) a).alloc (by simp) b).alloc (by simp; omega) c); go_enter Tryz.func46, Tryz.ntmps46; go_wp2
 go_region_law (fail)
 all_goals
  go_wp2; refine bodyPost_ret (v := .agg #[.int .i64 5, .string (S bx), .int .i64 u, .int .i64 0, .string (S g), .string ⟨#[]⟩]) (by simp [results, Tryz.results46, go_sem, *]) rfl ?_
  first | exact ⟨rfl, HB.out _ _ _⟩ | exact ⟨rfl, (HB.out _ _ _).drew⟩
theorem jmR (g t : List UInt8) (w : World) : Calls Tryz.prog 46 #[.agg #[.int .i64 6, .string ⟨#[]⟩, .int .i64 0, .int .i64 0, .string (S g), .string (S t)]] w fun e w' => e = .returned (.agg #[.int .i64 6, .string ⟨#[]⟩, .int .i64 0, .int .i64 0, .string (S g), .string (S t)]) ∧ Below w.heap.size w w' := by
 have HB := hid (show ∀ a b c : Obj, Below w.heap.size w (((w.alloc a).alloc b).alloc c) from fun a b c => (((Below.refl _ _).alloc (Nat.le_refl _) a).alloc (by simp) b).alloc (by simp; omega) c); go_enter Tryz.func46, Tryz.ntmps46; go_wp2
 go_region_law (fail)
 all_goals
  go_wp2; refine bodyPost_ret (v := .agg #[.int .i64 6, .string ⟨#[]⟩, .int .i64 0, .int .i64 0, .string (S g), .string (S t)]) (by simp [results, Tryz.results46, go_sem, *]) rfl ?_
  first | exact ⟨rfl, HB.out _ _ _⟩ | exact ⟨rfl, (HB.out _ _ _).drew⟩
theorem jmS (x : Ent) (w : World) (hk : 1 ≤ x.kind ∧ x.kind ≤ 6) (hb : jn0 x) :
 Calls Tryz.prog 46 #[.agg #[.int .i64 x.kind, .string (S x.box), .int .i64 x.uid, .int .i64 x.flags, .string (S x.goal), .string (S x.text)]] w fun e w' => e = .returned (.agg #[.int .i64 x.kind, .string (S x.box), .int .i64 x.uid, .int .i64 x.flags, .string (S x.goal), .string (S x.text)]) ∧ Below w.heap.size w w' := by
 obtain ⟨k, bx, u, f, g, t⟩ := x; obtain ⟨h1, h2, h3, h5, h6⟩ := hb; simp only at hk h1 h2 h3 h5 h6 ⊢; have hcase : k = 1 ∨ k = 2 ∨ k = 3 ∨ k = 4 ∨ k = 5 ∨ k = 6 := by omega
 rcases hcase with rfl | rfl | rfl | rfl | rfl | rfl
 · obtain ⟨rfl, rfl, rfl, rfl⟩ := h1 (.inl rfl); exact jmM bx w
 · obtain ⟨rfl, rfl⟩ := h2 rfl; exact jmN bx t f w
 · obtain ⟨rfl, rfl⟩ := h3 rfl; exact jmO bx u f w
 · obtain ⟨rfl, rfl, rfl, rfl⟩ := h1 (.inr rfl); exact jmP bx w
 · obtain ⟨rfl, rfl⟩ := h5 rfl; exact jmQ bx g u w
 · obtain ⟨rfl, rfl, rfl⟩ := h6 rfl; exact jmR g t w
theorem box6 {w : World} {p : Nat} {v0 v1 v2 v3 v4 v5 : Value} {t : TypeId} (h : w.heap[p]? = some (.cells #[v0, v1, v2, v3, v4, v5] t)) : w.cell? ⟨p, 0, none⟩ = some v0 ∧ w.cell? ⟨p, 1, none⟩ = some v1 ∧ w.cell? ⟨p, 2, none⟩ = some v2 ∧ w.cell? ⟨p, 3, none⟩ = some v3 ∧ w.cell? ⟨p, 4, none⟩ = some v4 ∧ w.cell? ⟨p, 5, none⟩ = some v5 := by
 refine ⟨?_, ?_, ?_, ?_, ?_, ?_⟩ <;> simp [World.cell?, h]
theorem jeh (s : List UInt8) (w : World) (h : jbz s = 0) :
 Calls Tryz.prog 79 #[.string (S s)] w fun e w' => e = .returned (.int .i64 0) ∧ Below w.heap.size w w' := by
 unfold jbz at h; have hl : s.length ≤ 100 := by
  rcases Nat.lt_or_ge 100 s.length with hl | hl
  · rw [if_pos hl] at h; cases h
  · exact hl
 rw [if_neg (by omega)] at h; have h2 : (zg s).2 = 0 ∧ (zg s).1.length = 1 := by
  by_cases hc : (zg s).2 = 0 ∧ (zg s).1.length = 1
  · exact hc
  · rw [if_neg hc] at h; cases h
 have c1 : ¬ (100 : Int) < ((S s).size : Int) := by rw [ju]; omega
 have HC := hid (jbL (S s) w (by rw [ju]; unfold maxLen; omega)); rw [jt] at HC; have H2 := hid h2; clear h h2 hl; go_enter Tryz.func79, Tryz.ntmps79; go_wp2_with fail; refine HC.out.mono ?_; rintro e w1 ⟨a, c, rfl, _, hb⟩; have HB := hid hb; clear hb; rw [H2.out.1, H2.out.2]; simp only; go_wp2; go_ret; exact ⟨rfl, HB.out⟩
theorem jdy (x : Ent) (w : World) (h : Formed x) :
 Calls Tryz.prog 48 #[.agg #[.int .i64 x.kind, .string (S x.box), .int .i64 x.uid, .int .i64 x.flags, .string (S x.goal), .string (S x.text)]] w fun e w' => e = .returned (.int .i64 0) ∧ Below w.heap.size w w' := by
 obtain ⟨W1, hW1⟩ : ∃ W1, W1 = w.alloc (.cells #[.int .i64 x.kind, .string (S x.box), .int .i64 x.uid, .int .i64 x.flags, .string (S x.goal), .string (S x.text)] 48) := ⟨_, rfl⟩; have HWE := hid hW1; have HB1 := hid (show Below w.heap.size w W1 by rw [hW1]; exact nb0 _ _); have hX : W1.heap[w.heap.size]? = some (.cells #[.int .i64 x.kind, .string (S x.box), .int .i64 x.uid, .int .i64 x.flags, .string (S x.goal), .string (S x.text)] 48) := by rw [hW1]; exact heap_alloc_new w _
 obtain ⟨x0, x1, x2, x3, x4, x5⟩ := box6 hX
 by_cases k6 : x.kind = 6
 · have HG := hid (h.goal k6); have c6 : (x.kind == 6) = true := by simp [k6]
   clear h k6 hW1 hX; go_enter Tryz.func48, Tryz.ntmps48; go_wp2_with fail; rw [← HWE.out]; refine (jeh x.goal W1 HG.out).mono ?_; rintro e w2 ⟨rfl, hb⟩; have HB2 := hid (HB1.out.trans (hb.mono HB1.out.size)); clear hb; go_wp2; go_ret; exact ⟨rfl, HB2.out⟩
 · have HN := hid (show zQ (S x.box).data.toList = 0 by rw [jt]; exact h.name k6); have c6 : (x.kind == 6) = false := by simp [k6]
   by_cases k5 : x.kind = 5
   · have HT := hid (show zQ (S x.goal).data.toList = 0 by rw [jt]; exact h.to k5); have c5 : (x.kind == 5) = true := by simp [k5]
     clear h k6 k5 hW1 hX; go_enter Tryz.func48, Tryz.ntmps48; go_wp2_with fail; rw [← HWE.out]; refine (vW (S x.box) W1).mono ?_; rintro e u ⟨rfl, hu⟩; have hu' := hu.symm; subst hu'; rw [HN.out]; clear hu; go_wp2_with fail; refine (vW (S x.goal) W1).mono ?_; rintro e u ⟨rfl, hu⟩; have hu' := hu.symm; subst hu'; rw [HT.out]; clear hu; go_wp2; go_ret; exact ⟨rfl, HB1.out⟩
   · have c5 : (x.kind == 5) = false := by simp [k5]
     clear h k6 k5 hW1 hX; go_enter Tryz.func48, Tryz.ntmps48; go_wp2_with fail; rw [← HWE.out]; refine (vW (S x.box) W1).mono ?_; rintro e u ⟨rfl, hu⟩; have hu' := hu.symm; subst hu'; rw [HN.out]; clear hu; go_wp2; go_ret; exact ⟨rfl, HB1.out⟩
theorem ji8 (x : Ent) (w : World) (h : Formed x) :
 Calls Tryz.prog 25 #[.agg #[.int .i64 x.kind, .string (S x.box), .int .i64 x.uid, .int .i64 x.flags, .string (S x.goal), .string (S x.text)]] w fun e w' => e = .returned (.int .i64 0) ∧ Below w.heap.size w w' := by
 obtain ⟨W1, hW1⟩ : ∃ W1, W1 = w.alloc (.cells #[.int .i64 x.kind, .string (S x.box), .int .i64 x.uid, .int .i64 x.flags, .string (S x.goal), .string (S x.text)] 48) := ⟨_, rfl⟩; have HWE := hid hW1; have HB1 := hid (show Below w.heap.size w W1 by rw [hW1]; exact nb0 _ _); have hX : W1.heap[w.heap.size]? = some (.cells #[.int .i64 x.kind, .string (S x.box), .int .i64 x.uid, .int .i64 x.flags, .string (S x.goal), .string (S x.text)] 48) := by rw [hW1]; exact heap_alloc_new w _
 have HX := hid hX; obtain ⟨x0, x1, x2, x3, x4, x5⟩ := box6 hX; have k1 : ¬ x.kind < 1 := by have := h.kind; omega
 have k2 : ¬ 6 < x.kind := by have := h.kind; omega
 have u1 : ¬ x.uid < 0 := by have := h.uid; omega
 have u2 : ¬ 1048576 < x.uid := by have := h.uid; omega
 have t1 : ¬ (2000 : Int) < ((S x.text).size : Int) := by rw [ju]; have := h.text; omega
 have HFL := hid (show (decide (0 ≤ x.flags) && decide (x.flags ≤ 31)) = true by simp [h.flags.1, h.flags.2]); have HBR := hid (fun u : World => jmS x u h.kind h.bare); have HCN := hid (fun u : World => jdy x u h); clear h hW1 hX; go_enter Tryz.func25, Tryz.ntmps25; go_wp2; rw [← HWE.out]
 go_cut [1, 2, 12] (fun a b c wx => a = .pointer (some ⟨w.heap.size, 0, none⟩) ∧ c = .bool false ∧ Below W1.heap.size W1 wx)
 case first =>
  go_region_held3 (fun w' => w'.cell? ⟨w.heap.size, 0, none⟩ = some (.int .i64 x.kind) ∧ w'.cell? ⟨w.heap.size, 1, none⟩ = some (.string (S x.box)) ∧ w'.cell? ⟨w.heap.size, 2, none⟩ = some (.int .i64 x.uid) ∧ w'.cell? ⟨w.heap.size, 3, none⟩ = some (.int .i64 x.flags) ∧ w'.cell? ⟨w.heap.size, 4, none⟩ = some (.string (S x.goal)) ∧ w'.cell? ⟨w.heap.size, 5, none⟩ = some (.string (S x.text))) (go_keep)
   (first
        | (go_at_call 46
           with_reducible refine (HBR.out W1.drew).mono ?_
           rintro e w2 ⟨rfl, hb⟩; have hb2 : Below W1.heap.size W1 w2 := (Below.refl _ _).drew.trans hb; have HB2 := hid hb2; have z0 := jb x0 hb2; have z1 := jb x1 hb2; have z2 := jb x2 hb2; have z3 := jb x3 hb2; have z4 := jb x4 hb2; have z5 := jb x5 hb2; clear hb hb2))
  all_goals
   go_wp2_with fail
   go_meet
   exact ⟨rfl, by first | rfl | simp, HB2.out⟩
 case rest =>
  obtain ⟨rfl, rfl, hb⟩ := hcut; have z2 := jb x2 hb; have z3 := jb x3 hb; have z5 := jb x5 hb; have hX3 := (hb.block w.heap.size (World.block_lt_of_cell? _ _ x0)).trans HX.out; obtain ⟨z0, _, _, _, z4, _⟩ := box6 hX3; have z1 := jb x1 hb; have HB2 := hid (HB1.out.trans (hb.mono HB1.out.size)); clear hb hX3 HBR; go_wp2_with fail; refine (jbk x.flags wc).mono ?_; rintro e u ⟨rfl, hu⟩; have hu' := hu.symm; subst hu'; rw [HFL.out]; clear hu; go_wp2_with fail; refine (HCN.out wc).mono ?_; rintro e w3 ⟨rfl, hb3⟩; have HB3 := hid (HB2.out.trans (hb3.mono HB2.out.size)); clear hb3; go_wp2; go_ret; exact ⟨rfl, HB3.out⟩
theorem BoxsM.take {Q : Nat → Prop} {w : World} {a : Option Addr} {n c : Nat} {l : List Bx} (h : BoxsM Q w (.slice a n c) l) (i : Nat) (hi : i ≤ l.length) : BoxsM Q w (.slice a (l.take i).length c) (l.take i) := by
 obtain ⟨a', c', hv, hm, hr⟩ := h; simp only [Value.slice.injEq] at hv; obtain ⟨rfl, _, rfl⟩ := hv; refine ⟨_, _, rfl, by rw [List.length_take]; omega, fun j x hx => ?_⟩; have hj : j < i := by have := (List.getElem?_eq_some_iff.1 hx).1; rw [List.length_take] at this; omega
 rw [List.getElem?_take_of_lt hj] at hx; exact hr j x hx
theorem jnt {l : List Bx} {i : Nat} {b : Bx} (hn : (l.map Bx.name).Nodup) (hb : l[i]? = some b) : idxZ (isName b.name) (l.take i) = -1 := by
 refine qP fun (j : Nat) y hj hy => ?_
 have hj' : j < i := by rw [List.length_take] at hj; omega
 rw [List.getElem?_take_of_lt hj'] at hy; unfold isName; rw [decide_eq_false_iff_not]; intro e; have h1 : (l.map Bx.name)[j]? = some b.name := by rw [List.getElem?_map, hy]; simp [e]
 have h2 : (l.map Bx.name)[i]? = some b.name := by rw [List.getElem?_map, hb]; rfl
 have hil : i < (l.map Bx.name).length := (List.getElem?_eq_some_iff.1 h2).1; have := (List.getElem?_inj (by omega) hn).1 (h1.trans h2.symm); omega
theorem jn9 (l : List Ent) (p : Ent → Bool) (a : Option Addr) (c f : Nat) (cap : Array Value) (eg : ∀ args w, (callFunc f args).run Tryz.prog w = .ok (.enter f args) w) (w : World) (Q : Nat → Prop) (hL : EntsM Q w (.slice a l.length c) l)
 (hf : ∀ (x : Ent) u, x ∈ l → Below w.heap.size w u → Calls Tryz.prog f (#[.agg #[.int .i64 x.kind, .string (S x.box), .int .i64 x.uid, .int .i64 x.flags, .string (S x.goal), .string (S x.text)]] ++ cap) u fun e u' => e = .returned (.bool (p x)) ∧ Below u.heap.size u u') :
 Calls Tryz.prog 63 #[.slice a l.length c, .func (.func f) #[] cap] w fun e w' => e = .returned (.bool (decide (0 ≤ idxZ p l))) ∧ Below w.heap.size w w' := by
 have HI := hid (joT l p a c f cap eg w Q hL hf); generalize idxZ p l = z at *; clear hL hf; go_enter Tryz.func63, Tryz.ntmps63; go_wp2_with fail; refine HI.out.mono ?_; rintro e w1 ⟨rfl, hb⟩; simp only; have HB := hid hb; clear hb; go_wp2; go_ret; exact ⟨by first | rfl | simp, HB.out⟩
theorem jfR (x : Ent) (w : World) (hk : x.kind = 6) (hx : Formed x) :
 Calls Tryz.prog 64 #[.agg #[.int .i64 x.kind, .string (S x.box), .int .i64 x.uid, .int .i64 x.flags, .string (S x.goal), .string (S x.text)]] w fun e w' => e = .returned (.bool false) ∧ Below w.heap.size w w' := by
 obtain ⟨k, bx, u, f, g, t⟩ := x; simp only at hk; subst hk; obtain ⟨W1, hW1⟩ : ∃ W1, W1 = w.alloc (.cells #[.int .i64 6, .string (S bx), .int .i64 u, .int .i64 f, .string (S g), .string (S t)] 48) := ⟨_, rfl⟩; have HWE := hid hW1; have HB1 := hid (show Below w.heap.size w W1 by rw [hW1]; exact nb0 _ _); have HC : Hid (Calls Tryz.prog 25 #[.agg #[.int .i64 6, .string (S bx), .int .i64 u, .int .i64 f, .string (S g), .string (S t)]] W1 fun e w' => e = .returned (.int .i64 0) ∧ Below W1.heap.size W1 w') := ji8 ⟨6, bx, u, f, g, t⟩ W1 hx; simp only; clear hW1 hx; go_enter Tryz.func64, Tryz.ntmps64; go_wp2_with fail; rw [← HWE.out]; refine HC.out.mono ?_; rintro e w2 ⟨rfl, hb⟩; have HB2 := hid (HB1.out.trans (hb.mono HB1.out.size)); clear hb; go_wp2; go_ret; exact ⟨by first | rfl | simp, HB2.out⟩
theorem jlH (s : Stt) (vb vs : Value) (w : World) (Q : Nat → Prop) (hS : SttM Q w vb vs s) (hM : May s) :
 Calls Tryz.prog 33 #[.agg #[vb, vs]] w fun e w' => e = .returned (.bool true) ∧ Below w.heap.size w w' := by
 obtain ⟨ab, cb, rfl⟩ := RowM.slice hS.1; obtain ⟨aq, cs, rfl⟩ := RowM.slice hS.2.1; have hcap := hS.2.2 _ _ _ rfl; obtain ⟨W1, hW1⟩ : ∃ W1, W1 = w.alloc (.cells #[.slice ab s.boxes.length cb, .slice aq s.spool.length cs] 32) := ⟨_, rfl⟩; have HWE := hid hW1; have hB1 : Below w.heap.size w W1 := by rw [hW1]; exact nb0 _ _
 have HB1 := hid hB1; have hX : W1.heap[w.heap.size]? = some (.cells #[.slice ab s.boxes.length cb, .slice aq s.spool.length cs] 32) := by rw [hW1]; exact heap_alloc_new w _
 have x0 : W1.cell? ⟨w.heap.size, 0, none⟩ = some (.slice ab s.boxes.length cb) := by simp [World.cell?, hX]
 have x1 : W1.cell? ⟨w.heap.size, 1, none⟩ = some (.slice aq s.spool.length cs) := by simp [World.cell?, hX]
 have HS := hid (hS.next hB1); have HM := hid hM; have n1 : ¬ (5 : Int) < (s.boxes.length : Int) := by have := hM.boxes; omega
 have n2 : ¬ (20 : Int) < (s.spool.length : Int) := by have := hM.spool; omega
 have nz : (zc s.boxes : Int) ≤ 6000 := by have := hM.size; omega
 have eg : ∀ args w, (callFunc 64 args).run Tryz.prog w = .ok (.enter 64 args) w := enters_of Tryz.func64 (by kernel_rfl) rfl; have HEG := hid eg; clear hS hM hW1 hX hB1 eg; go_enter Tryz.func33, Tryz.ntmps33; go_wp2; rw [← HWE.out]
 go_loopw [18] (fun v wr => ∃ i : Nat, i ≤ s.boxes.length ∧ v = .int .i64 i ∧ Hid (Below W1.heap.size W1 wr)) (fun v _ => s.boxes.length - (intOf v).toNat)
 case atStart => exact ⟨0, Nat.zero_le _, rfl, Below.refl _ _⟩
 case round =>
  obtain ⟨i, hi, rfl, HB⟩ := hrel; have y0 := jb x0 HB.out; have y1 := jb x1 HB.out
  by_cases hlt : i < s.boxes.length
  · have i1 : (i : Int) < (s.boxes.length : Int) := by omega
    have i0 : (0 : Int) ≤ (i : Int) := by omega
    have i2 : (i : Int) ≤ (cb : Int) := by omega
    obtain ⟨b, hb⟩ : ∃ b, s.boxes[i]? = some b := ⟨_, List.getElem?_eq_getElem hlt⟩; have hBS := HS.out.1.next HB.out; obtain ⟨p, o, v, rfl, _, e0, e1, e2, hm⟩ := hBS.at hb; obtain ⟨am, cm, rfl⟩ := RowM.slice hm; obtain ⟨W2, hW2⟩ : ∃ W2, W2 = wr.alloc (.cells #[.string (S b.name), .int .i64 b.next, .slice am b.mails.length cm] 54) := ⟨_, rfl⟩; have HWE2 := hid hW2; have hB2 : Below wr.heap.size wr W2 := by rw [hW2]; exact nb0 _ _
    have hX2 : W2.heap[wr.heap.size]? = some (.cells #[.string (S b.name), .int .i64 b.next, .slice am b.mails.length cm] 54) := by rw [hW2]; exact heap_alloc_new wr _
    obtain ⟨m0, m1, m2⟩ := jmT hX2; have z0 := jb y0 hB2; have HBM := hid (fun u (hu : Below W2.heap.size W2 u) => jfm b (.slice am b.mails.length cm) u Q ((hm.next hB2).next hu) (HM.out.each b (List.mem_of_getElem? hb))); have HNN := hid (jnt HM.out.names hb); have hlen : (s.boxes.take i).length = i := by rw [List.length_take]; omega
    have HIX := hid (fun u (hu : Below W2.heap.size W2 u) => by
        have := jT (s.boxes.take i) b.name (some ⟨p, o, none⟩) cb u Q (((hBS.next hB2).next hu).take i (by omega)); rw [hlen, HNN.out] at this; exact this)
    have HB3 := hid (show Below W1.heap.size W1 W2 from HB.out.trans (hB2.mono HB.out.size)); clear hb hW2 hX2 hB2 hm hBS hlen; go_wp2; rw [← HWE2.out]
    go_cut [35] (fun c wx => c = .bool false ∧ Below W2.heap.size W2 wx)
    case first =>
        go_region_held3 (fun w' => w'.cell? ⟨wr.heap.size, 0, none⟩ = some (.string (S b.name)) ∧ w'.cell? ⟨wr.heap.size, 1, none⟩ = some (.int .i64 b.next) ∧ w'.cell? ⟨wr.heap.size, 2, none⟩ = some (.slice am b.mails.length cm) ∧ w'.cell? ⟨w.heap.size, 0, none⟩ = some (.slice (some ⟨p, o, none⟩) s.boxes.length cb)) (go_keep)
         (first
            | (go_at_call 51
               with_reducible refine (HIX.out _ HB4.out).mono ?_
               rintro e w4 ⟨rfl, hb⟩; have HB5 := hid (HB4.out.trans (hb.mono HB4.out.size)); have q0 := jb k0 hb; have q1 := jb k1 hb; have q2 := jb k2 hb; have q3 := jb k3 hb; clear hb)
            | (go_at_call 61
               with_reducible refine (HBM.out W2.drew ((Below.refl _ _).drew)).mono ?_
               rintro e w3 ⟨rfl, hb⟩; have hb2 : Below W2.heap.size W2 w3 := (Below.refl _ _).drew.trans hb; have HB4 := hid hb2; have k0 := jb m0 hb2; have k1 := jb m1 hb2; have k2 := jb m2 hb2; have k3 := jb z0 hb2; clear hb hb2))
        all_goals
         go_wp2_with fail
         go_meet
         exact ⟨by first | rfl | simp, HB5.out⟩
    case rest =>
        obtain ⟨rfl, hb⟩ := hcut; have HB6 := hid (show Below W1.heap.size W1 wc from HB3.out.trans (hb.mono HB3.out.size)); clear hb; go_wp2
        go_roundw
        case rel => first | exact ⟨i + 1, by omega, by go_num, HB6⟩ | ((repeat apply Exists.intro); exact ⟨⟨i + 1, by omega, by go_num, HB6⟩, rfl⟩)
        case measure => simp [intOf]; omega
  · have i1 : ¬ (i : Int) < (s.boxes.length : Int) := by omega
    have HSZ := hid (jdh s.boxes ab cb wr Q (HS.out.1.next HB.out) HM.out.size); have HCF := hid (fun u (hu : Below wr.heap.size wr u) => jn9 s.spool (fun _ => false) aq cs 64 #[] HEG.out u Q ((HS.out.2.1.next HB.out).next hu) (fun x u' hx _ => jfR x u' (HM.out.out x hx).1 (HM.out.out x hx).2)); have HIZ := hid (show decide (0 ≤ idxZ (fun _ : Ent => false) s.spool) = false by rw [qP (fun _ _ _ _ => rfl)]; rfl); go_wp2_with fail; refine HSZ.out.mono ?_; rintro e w2 ⟨rfl, hb⟩; have HB2 := hid (show Below w.heap.size w w2 from (HB1.out.trans (HB.out.mono HB1.out.size)).trans (hb.mono (Nat.le_trans HB1.out.size HB.out.size))); have q1 := jb y1 hb; have HC2 := hid (HCF.out w2 hb); clear hb; go_wp2_with fail; refine HC2.out.mono ?_; rw [HIZ.out]; rintro e w3 ⟨rfl, hb⟩; have HB3 := hid (HB2.out.trans (hb.mono HB2.out.size)); clear hb; go_wp2; go_ret; exact ⟨by first | rfl | simp, HB3.out⟩
theorem jge (s : Stt) (vb vs : Value) (w : World) (Q : Nat → Prop) (hS : SttM Q w vb vs s) (hM : May s) :
 Calls Tryz.prog 18 #[.agg #[vb, vs]] w fun e w' => e = .returned (.int .i64 0) ∧ Below w.heap.size w w' := by
 obtain ⟨W1, hW1⟩ : ∃ W1, W1 = w.alloc (.cells #[vb, vs] 32) := ⟨_, rfl⟩; have HWE := hid hW1; have hB1 : Below w.heap.size w W1 := by rw [hW1]; exact nb0 _ _
 have HB1 := hid hB1; have HC := hid (jlH s vb vs W1 Q (hS.next hB1) hM); clear hS hM hW1 hB1; go_enter Tryz.func18, Tryz.ntmps18; go_wp2_with fail; rw [← HWE.out]; refine HC.out.mono ?_; rintro e w2 ⟨rfl, hb⟩; have HB2 := hid (HB1.out.trans (hb.mono HB1.out.size)); clear hb; go_wp2; go_ret; exact ⟨rfl, HB2.out⟩
end Go.Proofs.YtgfbdgheencmaaaGreatDoor
