/-
  What an entry does to a store: the walk of do.
-/
import Derived.Test.YtkkkbggbeihbnaaDoorBoxDa
namespace Go.Proofs.YtkkkbggbeihbnaaDoor
open Go.RowKit Go.Proofs

theorem doM_k1 {s : Stt} {x : Ent} (h : x.kind = 1) : doM s x = if (s.boxes.findIdx? (isName x.box)).isSome then .error 10 else if 5 ≤ s.boxes.length then .error 5 else .ok ⟨s.boxes ++ [⟨x.box, 1, []⟩], s.spool⟩ := by unfold doM; rw [if_pos h]
theorem doM_k6 {s : Stt} {x : Ent} (h : x.kind = 6) : doM s x = if 20 ≤ s.spool.length then .error 5 else .ok ⟨s.boxes, s.spool ++ [x]⟩ := by unfold doM; rw [if_neg (by omega), if_pos h]
theorem doM_none {s : Stt} {x : Ent} (h1 : x.kind ≠ 1) (h6 : x.kind ≠ 6) (hf : s.boxes.findIdx? (isName x.box) = none) : doM s x = .error 7 := by unfold doM; rw [if_neg h1, if_neg h6, hf]
theorem doM_k2 {s : Stt} {x : Ent} {i : Nat} (h : x.kind = 2) (hf : s.boxes.findIdx? (isName x.box) = some i) : doM s x = addM s i x.flags x.text := by unfold doM; rw [if_neg (by omega), if_neg (by omega), hf]; simp only [if_pos h]
theorem doM_k4 {s : Stt} {x : Ent} {i : Nat} {b : Bx} (h : x.kind = 4) (hf : s.boxes.findIdx? (isName x.box) = some i) (hb : s.boxes[i]? = some b) : doM s x = .ok ⟨s.boxes.set i ⟨b.name, b.next, b.mails.filter fun m => !isDel m⟩, s.spool⟩ := by
  unfold doM; rw [if_neg (by omega), if_neg (by omega), hf]; simp only [if_neg (show ¬ x.kind = 2 by omega), hb, if_pos h]
theorem doM_gone {s : Stt} {x : Ent} {i : Nat} {b : Bx} (h : x.kind = 3 ∨ x.kind = 5) (hf : s.boxes.findIdx? (isName x.box) = some i) (hb : s.boxes[i]? = some b) (hj : b.mails.findIdx? (isUid x.uid) = none) : doM s x = .error 7 := by
  unfold doM; rw [if_neg (by omega), if_neg (by omega), hf]; simp only [if_neg (show ¬ x.kind = 2 by omega), hb, if_neg (show ¬ x.kind = 4 by omega), hj]
theorem doM_k5 {s : Stt} {x : Ent} {i j : Nat} {b : Bx} {m : Mail} (h : x.kind = 5) (hf : s.boxes.findIdx? (isName x.box) = some i) (hb : s.boxes[i]? = some b) (hj : b.mails.findIdx? (isUid x.uid) = some j) (hm : b.mails[j]? = some m) : doM s x = copyM s x.goal m.flags m.text := by
  unfold doM copyM; rw [if_neg (by omega), if_neg (by omega), hf]; simp only [if_neg (show ¬ x.kind = 2 by omega), hb, if_neg (show ¬ x.kind = 4 by omega), hj, hm, if_pos h]
  cases s.boxes.findIdx? (isName x.goal) <;> rfl
theorem doM_k3 {s : Stt} {x : Ent} {i j : Nat} {b : Bx} {m : Mail} (h : x.kind = 3) (hf : s.boxes.findIdx? (isName x.box) = some i) (hb : s.boxes[i]? = some b) (hj : b.mails.findIdx? (isUid x.uid) = some j) (hm : b.mails[j]? = some m) : doM s x = .ok ⟨s.boxes.set i ⟨b.name, b.next, b.mails.set j ⟨m.uid, x.flags, m.text⟩⟩, s.spool⟩ := by
  unfold doM; rw [if_neg (by omega), if_neg (by omega), hf]; simp only [if_neg (show ¬ x.kind = 2 by omega), hb, if_neg (show ¬ x.kind = 4 by omega), hj, hm, if_neg (show ¬ x.kind = 5 by omega)]
theorem box6' {w : World} {p : Nat} {v0 v1 v2 v3 v4 v5 : Value} {t : TypeId} (h : w.heap[p]? = some (.cells #[v0, v1, v2, v3, v4, v5] t)) : w.cell? ⟨p, 0, none⟩ = some v0 ∧ w.cell? ⟨p, 1, none⟩ = some v1 ∧ w.cell? ⟨p, 2, none⟩ = some v2 ∧ w.cell? ⟨p, 3, none⟩ = some v3 ∧ w.cell? ⟨p, 4, none⟩ = some v4 ∧ w.cell? ⟨p, 5, none⟩ = some v5 := by
  refine ⟨?_, ?_, ?_, ?_, ?_, ?_⟩ <;> simp [World.cell?, h]
set_option maxHeartbeats 1000000 in
set_option maxRecDepth 100000 in
theorem do_k1 (B p : Nat) (s : Stt) (x : Ent) (w : World) (h : Sto B p w s) (hM : May s) (hk : x.kind = 1) :
    Calls Tryd.prog 29 #[.pointer (some ⟨p, 0, none⟩), .agg #[.int .i64 x.kind, .string (S x.box), .int .i64 x.uid, .int .i64 x.flags, .string (S x.goal), .string (S x.text)]] w (DoP B p w (doM s x)) := by
  obtain ⟨W1, hW1⟩ : ∃ W1, W1 = w.alloc (.cells #[.int .i64 x.kind, .string (S x.box), .int .i64 x.uid, .int .i64 x.flags, .string (S x.goal), .string (S x.text)] 70) := ⟨_, rfl⟩
  have HWE := hid hW1
  have hb1 : Below w.heap.size w W1 := by rw [hW1]; exact (Below.refl _ _).alloc (Nat.le_refl _) _
  have hX : W1.heap[w.heap.size]? = some (.cells #[.int .i64 x.kind, .string (S x.box), .int .i64 x.uid, .int .i64 x.flags, .string (S x.goal), .string (S x.text)] 70) := by rw [hW1]; exact heap_alloc_new w _
  obtain ⟨x0, x1, x2, x3, x4, x5⟩ := box6' hX
  have hpw : p < w.heap.size := by obtain ⟨_, _, _, hp, _⟩ := h; exact (Array.getElem?_eq_some_iff.1 hp).1
  have hS1 := h.next hb1
  have hBw : B ≤ w.heap.size := by obtain ⟨_, _, _, _, _, _, h4⟩ := h; omega
  have HB1 := hid (show Below B w W1 from hb1.mono hBw)
  have hs1 : B ≤ W1.heap.size := by have := hb1.size; omega
  obtain ⟨r, hr⟩ : ∃ r, r = doM s x := ⟨_, rfl⟩
  rw [← hr]
  rw [doM_k1 hk] at hr
  have HC := hid (create_any B p s x.box W1 hS1 hM)
  have HR := hid hr
  have c1 : (x.kind == 1) = true := by simp; omega
  clear h hM hk hr hW1 hb1 hX hS1
  go_enter Tryd.func29, Tryd.ntmps29
  go_upto_region 1 with fail
  rw [← HWE.out]
  go_wp2_with fail
  refine HC.out.mono ?_
  intro e w2 hd
  obtain ⟨zz, rfl⟩ := hd.int
  have HD := hid (DoP.trans HB1.out hd)
  clear hd
  simp only
  go_wp2
  go_ret
  rw [HR.out]
  exact HD.out
set_option maxHeartbeats 1000000 in
set_option maxRecDepth 100000 in
theorem do_k6 (B p : Nat) (s : Stt) (x : Ent) (w : World) (h : Sto B p w s) (hM : May s) (hk : x.kind = 6) :
    Calls Tryd.prog 29 #[.pointer (some ⟨p, 0, none⟩), .agg #[.int .i64 x.kind, .string (S x.box), .int .i64 x.uid, .int .i64 x.flags, .string (S x.goal), .string (S x.text)]] w (DoP B p w (doM s x)) := by
  obtain ⟨W1, hW1⟩ : ∃ W1, W1 = w.alloc (.cells #[.int .i64 x.kind, .string (S x.box), .int .i64 x.uid, .int .i64 x.flags, .string (S x.goal), .string (S x.text)] 70) := ⟨_, rfl⟩
  have HWE := hid hW1
  have hb1 : Below w.heap.size w W1 := by rw [hW1]; exact (Below.refl _ _).alloc (Nat.le_refl _) _
  have hX : W1.heap[w.heap.size]? = some (.cells #[.int .i64 x.kind, .string (S x.box), .int .i64 x.uid, .int .i64 x.flags, .string (S x.goal), .string (S x.text)] 70) := by rw [hW1]; exact heap_alloc_new w _
  obtain ⟨x0, x1, x2, x3, x4, x5⟩ := box6' hX
  have hpw : p < w.heap.size := by obtain ⟨_, _, _, hp, _⟩ := h; exact (Array.getElem?_eq_some_iff.1 hp).1
  have hS1 := h.next hb1
  have hBw : B ≤ w.heap.size := by obtain ⟨_, _, _, _, _, _, h4⟩ := h; omega
  have HB1 := hid (show Below B w W1 from hb1.mono hBw)
  have hs1 : B ≤ W1.heap.size := by have := hb1.size; omega
  obtain ⟨r, hr⟩ : ∃ r, r = doM s x := ⟨_, rfl⟩
  rw [← hr]
  rw [doM_k6 hk] at hr
  have HC := hid (spool_any B p s x W1 hS1 hM)
  have HR := hid hr
  have c1 : (x.kind == 1) = false := by simp; omega
  have c6 : (x.kind == 6) = true := by simp; omega
  clear h hM hk hr hW1 hb1 hX hS1
  go_enter Tryd.func29, Tryd.ntmps29
  go_upto_region 1 with fail
  rw [← HWE.out]
  go_wp2_with fail
  refine HC.out.mono ?_
  intro e w2 hd
  obtain ⟨zz, rfl⟩ := hd.int
  have HD := hid (DoP.trans HB1.out hd)
  clear hd
  simp only
  go_wp2
  go_ret
  rw [HR.out]
  exact HD.out
set_option maxHeartbeats 1000000 in
set_option maxRecDepth 100000 in
theorem do_none (B p : Nat) (s : Stt) (x : Ent) (w : World) (h : Sto B p w s) (hM : May s) (h1 : x.kind ≠ 1) (h6 : x.kind ≠ 6) (hf : s.boxes.findIdx? (isName x.box) = none) :
    Calls Tryd.prog 29 #[.pointer (some ⟨p, 0, none⟩), .agg #[.int .i64 x.kind, .string (S x.box), .int .i64 x.uid, .int .i64 x.flags, .string (S x.goal), .string (S x.text)]] w (DoP B p w (doM s x)) := by
  obtain ⟨W1, hW1⟩ : ∃ W1, W1 = w.alloc (.cells #[.int .i64 x.kind, .string (S x.box), .int .i64 x.uid, .int .i64 x.flags, .string (S x.goal), .string (S x.text)] 70) := ⟨_, rfl⟩
  have HWE := hid hW1
  have hb1 : Below w.heap.size w W1 := by rw [hW1]; exact (Below.refl _ _).alloc (Nat.le_refl _) _
  have hX : W1.heap[w.heap.size]? = some (.cells #[.int .i64 x.kind, .string (S x.box), .int .i64 x.uid, .int .i64 x.flags, .string (S x.goal), .string (S x.text)] 70) := by rw [hW1]; exact heap_alloc_new w _
  obtain ⟨x0, x1, x2, x3, x4, x5⟩ := box6' hX
  have hpw : p < w.heap.size := by obtain ⟨_, _, _, hp, _⟩ := h; exact (Array.getElem?_eq_some_iff.1 hp).1
  have hS1 := h.next hb1
  have hBw : B ≤ w.heap.size := by obtain ⟨_, _, _, _, _, _, h4⟩ := h; omega
  have HB1 := hid (show Below B w W1 from hb1.mono hBw)
  have hs1 : B ≤ W1.heap.size := by have := hb1.size; omega
  obtain ⟨r, hr⟩ : ∃ r, r = doM s x := ⟨_, rfl⟩
  rw [← hr]
  rw [doM_none h1 h6 hf] at hr
  obtain ⟨ab, cb, vs, vm, hp, hO, hn, hBp⟩ := hS1.open
  obtain ⟨p0, p1, q0, q1⟩ := box2f hp
  have hSt := hO.stt (Q := fun _ => True) hM (fun _ _ => trivial)
  have HIX := hid (indexOfBox_any s.boxes x.box ab cb W1.drew _ hSt.1)
  rw [idxZ_none hf] at HIX
  have HR := hid hr
  have c1 : (x.kind == 1) = false := by simp; omega
  have c6 : (x.kind == 6) = false := by simp; omega
  clear h hM h1 h6 hf hr hW1 hb1 hX hS1 hp hO hn hSt
  go_enter Tryd.func29, Tryd.ntmps29
  go_upto_region 1 with fail
  rw [← HWE.out]
  go_wp2
  go_cut [5] (fun v wx => v = .int .i64 (-1) ∧ Below W1.heap.size W1 wx)
  case first =>
    go_region_held3 (fun w' => w'.cell? ⟨w.heap.size, 1, none⟩ = some (.string (S x.box)) ∧ w'.cell? ⟨p, 0, none⟩ = some (.slice ab s.boxes.length cb)) (go_keep)
      (first
        | (go_at_call 46
           with_reducible refine HIX.out.mono ?_
           rintro e w2 ⟨rfl, hb⟩
           have hb2 : Below W1.heap.size W1 w2 := (Below.refl _ _).drew.trans hb
           have HB2 := hid hb2
           have z1 := wcell_next x1 hb2
           have z0 := wcell_next p0 hb2
           clear hb hb2)
        | fail)
    all_goals
      go_wp2_with fail
      go_meet
      exact ⟨rfl, HB2.out⟩
  case rest =>
    obtain ⟨rfl, hbc⟩ := hcut
    have HE := hid (show DoP B p w r (.returned (.int .i64 7)) wc by rw [HR.out]; exact ⟨HB1.out.trans (hbc.mono hs1), rfl⟩)
    clear hbc
    go_wp2
    go_ret
    exact HE.out
set_option maxHeartbeats 1000000 in
set_option maxRecDepth 100000 in
theorem do_k2 (B p : Nat) (s : Stt) (x : Ent) (w : World) (h : Sto B p w s) (hM : May s) (hF : Formed x) (hk : x.kind = 2) (i : Nat) (hf : s.boxes.findIdx? (isName x.box) = some i) :
    Calls Tryd.prog 29 #[.pointer (some ⟨p, 0, none⟩), .agg #[.int .i64 x.kind, .string (S x.box), .int .i64 x.uid, .int .i64 x.flags, .string (S x.goal), .string (S x.text)]] w (DoP B p w (doM s x)) := by
  obtain ⟨W1, hW1⟩ : ∃ W1, W1 = w.alloc (.cells #[.int .i64 x.kind, .string (S x.box), .int .i64 x.uid, .int .i64 x.flags, .string (S x.goal), .string (S x.text)] 70) := ⟨_, rfl⟩
  have HWE := hid hW1
  have hb1 : Below w.heap.size w W1 := by rw [hW1]; exact (Below.refl _ _).alloc (Nat.le_refl _) _
  have hX : W1.heap[w.heap.size]? = some (.cells #[.int .i64 x.kind, .string (S x.box), .int .i64 x.uid, .int .i64 x.flags, .string (S x.goal), .string (S x.text)] 70) := by rw [hW1]; exact heap_alloc_new w _
  obtain ⟨x0, x1, x2, x3, x4, x5⟩ := box6' hX
  have hpw : p < w.heap.size := by obtain ⟨_, _, _, hp, _⟩ := h; exact (Array.getElem?_eq_some_iff.1 hp).1
  have hS1 := h.next hb1
  have hBw : B ≤ w.heap.size := by obtain ⟨_, _, _, _, _, _, h4⟩ := h; omega
  have HB1 := hid (show Below B w W1 from hb1.mono hBw)
  have hs1 : B ≤ W1.heap.size := by have := hb1.size; omega
  obtain ⟨r, hr⟩ : ∃ r, r = doM s x := ⟨_, rfl⟩
  rw [← hr]
  rw [doM_k2 hk hf] at hr
  obtain ⟨ab, cb, vs, vm, hp, hO, hn, hBp⟩ := hS1.open
  obtain ⟨p0, p1, q0, q1⟩ := box2f hp
  have hSt := hO.stt (Q := fun _ => True) hM (fun _ _ => trivial)
  have HIX := hid (indexOfBox_any s.boxes x.box ab cb W1.drew _ hSt.1)
  rw [idxZ_some hf] at HIX
  obtain ⟨b, hb, _⟩ := find_at hf
  obtain ⟨g, rfl⟩ := own_some hO hb
  have hi : i < s.boxes.length := (List.getElem?_eq_some_iff.1 hb).1
  have i1 : (i : Int) < (s.boxes.length : Int) := by omega
  have i0 : (0 : Int) ≤ (i : Int) := by omega
  have HA := hid (fun u (hu : Below W1.heap.size W1 u) => add_any B p g cb i vs vm s b x.flags x.text u (low_obj hu hp) (hO.next hu) hn hBp hb hM hF.text)
  have HR := hid hr
  have c1 : (x.kind == 1) = false := by simp; omega
  have c6 : (x.kind == 6) = false := by simp; omega
  have c2 : (x.kind == 2) = true := by simp; omega
  clear h hM hF hk hf hr hW1 hb1 hX hS1 hp hO hn hSt hb
  go_enter Tryd.func29, Tryd.ntmps29
  go_upto_region 1 with fail
  rw [← HWE.out]
  go_wp2
  go_cut [5] (fun v wx => v = .int .i64 ((i : Int)) ∧ Below W1.heap.size W1 wx)
  case first =>
    go_region_held3 (fun w' => w'.cell? ⟨w.heap.size, 1, none⟩ = some (.string (S x.box)) ∧ w'.cell? ⟨p, 0, none⟩ = some (.slice (some ⟨g, 0, none⟩) s.boxes.length cb)) (go_keep)
      (first
        | (go_at_call 46
           with_reducible refine HIX.out.mono ?_
           rintro e w2 ⟨rfl, hb⟩
           have hb2 : Below W1.heap.size W1 w2 := (Below.refl _ _).drew.trans hb
           have HB2 := hid hb2
           have z1 := wcell_next x1 hb2
           have z0 := wcell_next p0 hb2
           clear hb hb2)
        | fail)
    all_goals
      go_wp2_with fail
      go_meet
      exact ⟨rfl, HB2.out⟩
  case rest =>
    obtain ⟨rfl, hbc⟩ := hcut
    have y0 := wcell_next p0 hbc
    have z0 := wcell_next x0 hbc
    have z1 := wcell_next x1 hbc
    have z2 := wcell_next x2 hbc
    have z3 := wcell_next x3 hbc
    have z4 := wcell_next x4 hbc
    have z5 := wcell_next x5 hbc
    have HBC := hid (show Below B w wc from HB1.out.trans (hbc.mono hs1))
    have HA2 := hid (HA.out wc hbc)
    clear hbc
    go_wp2_with fail
    refine HA2.out.mono ?_
    intro e w3 hd
    obtain ⟨zz, rfl⟩ := hd.int
    have HD := hid (DoP.trans HBC.out hd)
    clear hd
    simp only
    go_wp2
    go_ret
    rw [HR.out]
    exact HD.out
set_option maxHeartbeats 1000000 in
set_option maxRecDepth 100000 in
theorem do_k4 (B p : Nat) (s : Stt) (x : Ent) (w : World) (h : Sto B p w s) (hM : May s) (hk : x.kind = 4) (i : Nat) (hf : s.boxes.findIdx? (isName x.box) = some i) :
    Calls Tryd.prog 29 #[.pointer (some ⟨p, 0, none⟩), .agg #[.int .i64 x.kind, .string (S x.box), .int .i64 x.uid, .int .i64 x.flags, .string (S x.goal), .string (S x.text)]] w (DoP B p w (doM s x)) := by
  obtain ⟨W1, hW1⟩ : ∃ W1, W1 = w.alloc (.cells #[.int .i64 x.kind, .string (S x.box), .int .i64 x.uid, .int .i64 x.flags, .string (S x.goal), .string (S x.text)] 70) := ⟨_, rfl⟩
  have HWE := hid hW1
  have hb1 : Below w.heap.size w W1 := by rw [hW1]; exact (Below.refl _ _).alloc (Nat.le_refl _) _
  have hX : W1.heap[w.heap.size]? = some (.cells #[.int .i64 x.kind, .string (S x.box), .int .i64 x.uid, .int .i64 x.flags, .string (S x.goal), .string (S x.text)] 70) := by rw [hW1]; exact heap_alloc_new w _
  obtain ⟨x0, x1, x2, x3, x4, x5⟩ := box6' hX
  have hpw : p < w.heap.size := by obtain ⟨_, _, _, hp, _⟩ := h; exact (Array.getElem?_eq_some_iff.1 hp).1
  have hS1 := h.next hb1
  have hBw : B ≤ w.heap.size := by obtain ⟨_, _, _, _, _, _, h4⟩ := h; omega
  have HB1 := hid (show Below B w W1 from hb1.mono hBw)
  have hs1 : B ≤ W1.heap.size := by have := hb1.size; omega
  obtain ⟨r, hr⟩ : ∃ r, r = doM s x := ⟨_, rfl⟩
  rw [← hr]
  obtain ⟨b, hb, _⟩ := find_at hf
  rw [doM_k4 hk hf hb] at hr
  obtain ⟨ab, cb, vs, vm, hp, hO, hn, hBp⟩ := hS1.open
  obtain ⟨p0, p1, q0, q1⟩ := box2f hp
  have hSt := hO.stt (Q := fun _ => True) hM (fun _ _ => trivial)
  have HIX := hid (indexOfBox_any s.boxes x.box ab cb W1.drew _ hSt.1)
  rw [idxZ_some hf] at HIX
  obtain ⟨g, rfl⟩ := own_some hO hb
  have hi : i < s.boxes.length := (List.getElem?_eq_some_iff.1 hb).1
  have i1 : (i : Int) < (s.boxes.length : Int) := by omega
  have i0 : (0 : Int) ≤ (i : Int) := by omega
  obtain ⟨g', c', v, e, hv, e0, e1, e2, f1, f2⟩ := hO.box hb
  simp only [Value.slice.injEq, Option.some.injEq, Addr.mk.injEq, and_true, true_and] at e
  obtain ⟨rfl, rfl⟩ := e
  obtain ⟨am, cm, rfl⟩ := mails_form hO hb hv
  have hBM := hM.each b (List.mem_of_getElem? hb)
  have HDL := hid (fun u (hu : Below W1.heap.size W1 u) => delF b.mails (.slice am b.mails.length cm) B u ((hO.next hu).mails i b _ hb hv) (fun m hm => by have := risen_mem hBM.mails hm; exact ⟨this.2.2.1, this.2.2.2.1⟩) (by have := hBM.many; omega))
  have HEN := hid (fun u u' v' (hu : Below W1.heap.size W1 u) (hgrow : u.grownBy u' (Value.slice am b.mails.length cm).ownBlock) (hown : u'.ownsRow B 73 3 v' (b.mails.filter fun m => !isDel m).length ((b.mails.filter fun m => !isDel m).map mailC).flatten) (hat : v'.ownBlock = (Value.slice am b.mails.length cm).ownBlock) => sto_mails (low_obj hu hp) (hO.next hu) hn hBp hb hv hgrow hown hat)
  have hgn : some g ≠ (Value.slice am b.mails.length cm).ownBlock := fun e => hO.mb _ (List.mem_of_getElem? hv) g e.symm rfl
  have HR := hid hr
  have c1 : (x.kind == 1) = false := by simp; omega
  have c6 : (x.kind == 6) = false := by simp; omega
  have c2 : (x.kind == 2) = false := by simp; omega
  have c4 : (x.kind == 4) = true := by simp; omega
  clear h hM hk hf hr hW1 hb1 hX hS1 hp hO hn hSt hb hv hBM
  go_enter Tryd.func29, Tryd.ntmps29
  go_upto_region 1 with fail
  rw [← HWE.out]
  go_wp2
  go_cut [5] (fun v wx => v = .int .i64 ((i : Int)) ∧ Below W1.heap.size W1 wx)
  case first =>
    go_region_held3 (fun w' => w'.cell? ⟨w.heap.size, 1, none⟩ = some (.string (S x.box)) ∧ w'.cell? ⟨p, 0, none⟩ = some (.slice (some ⟨g, 0, none⟩) s.boxes.length cb)) (go_keep)
      (first
        | (go_at_call 46
           with_reducible refine HIX.out.mono ?_
           rintro e w2 ⟨rfl, hb⟩
           have hb2 : Below W1.heap.size W1 w2 := (Below.refl _ _).drew.trans hb
           have HB2 := hid hb2
           have z1 := wcell_next x1 hb2
           have z0 := wcell_next p0 hb2
           clear hb hb2)
        | fail)
    all_goals
      go_wp2_with fail
      go_meet
      exact ⟨rfl, HB2.out⟩
  case rest =>
    obtain ⟨rfl, hbc⟩ := hcut
    have y0 := wcell_next p0 hbc
    have z0 := wcell_next x0 hbc
    have z1 := wcell_next x1 hbc
    have z2 := wcell_next x2 hbc
    have z3 := wcell_next x3 hbc
    have z4 := wcell_next x4 hbc
    have z5 := wcell_next x5 hbc
    have HBC := hid (show Below B w wc from HB1.out.trans (hbc.mono hs1))
    have y2 := wcell_next e2 hbc
    have yf2 := low_frozen f2 e2 hbc
    have HDL2 := hid (HDL.out wc hbc)
    have HEN2 := hid (fun u' v' => HEN.out wc u' v' hbc)
    clear hbc
    go_wp2_with fail
    refine HDL2.out.mono ?_
    rintro e w3 ⟨v', rfl, hat, hown, hgrow⟩
    obtain ⟨a3, c3, rfl⟩ := own_slice hown
    have u2 := hgrow.cell (a := ⟨g, i * 3 + 2, none⟩) y2 hgn
    have uf2 : w3.frozen? ⟨g, i * 3 + 2, none⟩ = false := (World.frozen?_of_block (hgrow.block g (World.block_lt_of_cell? _ _ y2) hgn)).trans yf2
    have hEND := HEN2.out w3 _ hgrow hown hat
    have HF := hid (show DoP B p w r (.returned (.int .i64 0)) (w3.setCell ⟨g, i * 3 + 2, none⟩ (.slice a3 (b.mails.filter fun m => !isDel m).length c3)) by rw [HR.out]; exact ⟨HBC.out.trans hEND.2, rfl, hEND.1⟩)
    clear hat hown hgrow hEND
    simp only
    go_wp2
    go_ret
    exact HF.out
set_option maxHeartbeats 1000000 in
set_option maxRecDepth 100000 in
theorem do_gone (B p : Nat) (s : Stt) (x : Ent) (w : World) (h : Sto B p w s) (hM : May s) (hk : x.kind = 3 ∨ x.kind = 5) (i : Nat) (b : Bx) (hf : s.boxes.findIdx? (isName x.box) = some i) (hb : s.boxes[i]? = some b) (hj : b.mails.findIdx? (isUid x.uid) = none) :
    Calls Tryd.prog 29 #[.pointer (some ⟨p, 0, none⟩), .agg #[.int .i64 x.kind, .string (S x.box), .int .i64 x.uid, .int .i64 x.flags, .string (S x.goal), .string (S x.text)]] w (DoP B p w (doM s x)) := by
  obtain ⟨W1, hW1⟩ : ∃ W1, W1 = w.alloc (.cells #[.int .i64 x.kind, .string (S x.box), .int .i64 x.uid, .int .i64 x.flags, .string (S x.goal), .string (S x.text)] 70) := ⟨_, rfl⟩
  have HWE := hid hW1
  have hb1 : Below w.heap.size w W1 := by rw [hW1]; exact (Below.refl _ _).alloc (Nat.le_refl _) _
  have hX : W1.heap[w.heap.size]? = some (.cells #[.int .i64 x.kind, .string (S x.box), .int .i64 x.uid, .int .i64 x.flags, .string (S x.goal), .string (S x.text)] 70) := by rw [hW1]; exact heap_alloc_new w _
  obtain ⟨x0, x1, x2, x3, x4, x5⟩ := box6' hX
  have hpw : p < w.heap.size := by obtain ⟨_, _, _, hp, _⟩ := h; exact (Array.getElem?_eq_some_iff.1 hp).1
  have hS1 := h.next hb1
  have hBw : B ≤ w.heap.size := by obtain ⟨_, _, _, _, _, _, h4⟩ := h; omega
  have HB1 := hid (show Below B w W1 from hb1.mono hBw)
  have hs1 : B ≤ W1.heap.size := by have := hb1.size; omega
  obtain ⟨r, hr⟩ : ∃ r, r = doM s x := ⟨_, rfl⟩
  rw [← hr]
  rw [doM_gone hk hf hb hj] at hr
  obtain ⟨ab, cb, vs, vm, hp, hO, hn, hBp⟩ := hS1.open
  obtain ⟨p0, p1, q0, q1⟩ := box2f hp
  have hSt := hO.stt (Q := fun _ => True) hM (fun _ _ => trivial)
  have HIX := hid (indexOfBox_any s.boxes x.box ab cb W1.drew _ hSt.1)
  rw [idxZ_some hf] at HIX
  obtain ⟨g, rfl⟩ := own_some hO hb
  have hi : i < s.boxes.length := (List.getElem?_eq_some_iff.1 hb).1
  have i1 : (i : Int) < (s.boxes.length : Int) := by omega
  have i0 : (0 : Int) ≤ (i : Int) := by omega
  obtain ⟨g', c', v, e, hv, e0, e1, e2, f1, f2⟩ := hO.box hb
  simp only [Value.slice.injEq, Option.some.injEq, Addr.mk.injEq, and_true, true_and] at e
  obtain ⟨rfl, rfl⟩ := e
  obtain ⟨am, cm, rfl⟩ := mails_form hO hb hv
  have hBM := hM.each b (List.mem_of_getElem? hb)
  have hML : MailsM (fun _ => True) W1 (.slice am b.mails.length cm) b.mails := own_row (hO.mails i b _ hb hv) rfl (by have := hBM.many; unfold maxLen; omega) (by simp) (map_flat_len (k := 3) mailC (fun _ => rfl) _) (fun q y cs hy hc => by rw [List.getElem?_map, hy] at hc; cases hc; rfl) (fun _ _ => trivial)
  have HIM := hid (fun u (hu : Below W1.heap.size W1 u) => indexOfMail_any b.mails x.uid am cm u _ (hML.next hu))
  rw [idxZ_none hj] at HIM
  have HR := hid hr
  have c1 : (x.kind == 1) = false := by simp; omega
  have c6 : (x.kind == 6) = false := by simp; omega
  have c2 : (x.kind == 2) = false := by simp; omega
  have c4 : (x.kind == 4) = false := by simp; omega
  clear h hM hk hf hr hW1 hb1 hX hS1 hp hO hn hSt hb hv hBM hML hj
  go_enter Tryd.func29, Tryd.ntmps29
  go_upto_region 1 with fail
  rw [← HWE.out]
  go_wp2
  go_cut [5] (fun v wx => v = .int .i64 ((i : Int)) ∧ Below W1.heap.size W1 wx)
  case first =>
    go_region_held3 (fun w' => w'.cell? ⟨w.heap.size, 1, none⟩ = some (.string (S x.box)) ∧ w'.cell? ⟨p, 0, none⟩ = some (.slice (some ⟨g, 0, none⟩) s.boxes.length cb)) (go_keep)
      (first
        | (go_at_call 46
           with_reducible refine HIX.out.mono ?_
           rintro e w2 ⟨rfl, hb⟩
           have hb2 : Below W1.heap.size W1 w2 := (Below.refl _ _).drew.trans hb
           have HB2 := hid hb2
           have z1 := wcell_next x1 hb2
           have z0 := wcell_next p0 hb2
           clear hb hb2)
        | fail)
    all_goals
      go_wp2_with fail
      go_meet
      exact ⟨rfl, HB2.out⟩
  case rest =>
    obtain ⟨rfl, hbc⟩ := hcut
    have y0 := wcell_next p0 hbc
    have z0 := wcell_next x0 hbc
    have z1 := wcell_next x1 hbc
    have z2 := wcell_next x2 hbc
    have z3 := wcell_next x3 hbc
    have z4 := wcell_next x4 hbc
    have z5 := wcell_next x5 hbc
    have HBC := hid (show Below B w wc from HB1.out.trans (hbc.mono hs1))
    have y2 := wcell_next e2 hbc
    have HIM2 := hid (HIM.out wc.drew hbc.drew)
    have HBC1 := hid hbc
    clear hbc
    obtain ⟨Wc, rfl⟩ : ∃ W, W = wc := ⟨_, rfl⟩
    go_wp2
    go_cut [7] (fun v wx => v = .int .i64 (-1) ∧ Below Wc.heap.size Wc wx)
    case first =>
      go_region_held3 (fun w' => w'.cell? ⟨w.heap.size, 2, none⟩ = some (.int .i64 x.uid) ∧ w'.cell? ⟨g, i * 3 + 2, none⟩ = some (.slice am b.mails.length cm)) (go_keep)
        (first
          | (go_at_call 50
             with_reducible refine HIM2.out.mono ?_
             rintro e w2 ⟨rfl, hb⟩
             have hb2 : Below Wc.heap.size Wc w2 := (Below.refl _ _).drew.trans hb
             have HB2 := hid hb2
             have l2 := wcell_next z2 hb2
             have l0 := wcell_next y2 hb2
             clear hb hb2)
          | fail)
      all_goals
        go_wp2_with fail
        go_meet
        exact ⟨rfl, HB2.out⟩
    case rest =>
      obtain ⟨rfl, hbd⟩ := hcut
      have HE := hid (show DoP B p w r (.returned (.int .i64 7)) wc by rw [HR.out]; exact ⟨HBC.out.trans (hbd.mono (Nat.le_trans hs1 HBC1.out.size)), rfl⟩)
      clear hbd
      go_wp2
      go_ret
      exact HE.out
set_option maxHeartbeats 1000000 in
set_option maxRecDepth 100000 in
theorem do_k5 (B p : Nat) (s : Stt) (x : Ent) (w : World) (h : Sto B p w s) (hM : May s) (hk : x.kind = 5) (i j : Nat) (b : Bx) (m : Mail) (hf : s.boxes.findIdx? (isName x.box) = some i) (hb : s.boxes[i]? = some b) (hj : b.mails.findIdx? (isUid x.uid) = some j) (hm : b.mails[j]? = some m) :
    Calls Tryd.prog 29 #[.pointer (some ⟨p, 0, none⟩), .agg #[.int .i64 x.kind, .string (S x.box), .int .i64 x.uid, .int .i64 x.flags, .string (S x.goal), .string (S x.text)]] w (DoP B p w (doM s x)) := by
  obtain ⟨W1, hW1⟩ : ∃ W1, W1 = w.alloc (.cells #[.int .i64 x.kind, .string (S x.box), .int .i64 x.uid, .int .i64 x.flags, .string (S x.goal), .string (S x.text)] 70) := ⟨_, rfl⟩
  have HWE := hid hW1
  have hb1 : Below w.heap.size w W1 := by rw [hW1]; exact (Below.refl _ _).alloc (Nat.le_refl _) _
  have hX : W1.heap[w.heap.size]? = some (.cells #[.int .i64 x.kind, .string (S x.box), .int .i64 x.uid, .int .i64 x.flags, .string (S x.goal), .string (S x.text)] 70) := by rw [hW1]; exact heap_alloc_new w _
  obtain ⟨x0, x1, x2, x3, x4, x5⟩ := box6' hX
  have hpw : p < w.heap.size := by obtain ⟨_, _, _, hp, _⟩ := h; exact (Array.getElem?_eq_some_iff.1 hp).1
  have hS1 := h.next hb1
  have hBw : B ≤ w.heap.size := by obtain ⟨_, _, _, _, _, _, h4⟩ := h; omega
  have HB1 := hid (show Below B w W1 from hb1.mono hBw)
  have hs1 : B ≤ W1.heap.size := by have := hb1.size; omega
  obtain ⟨r, hr⟩ : ∃ r, r = doM s x := ⟨_, rfl⟩
  rw [← hr]
  rw [doM_k5 hk hf hb hj hm] at hr
  obtain ⟨ab, cb, vs, vm, hp, hO, hn, hBp⟩ := hS1.open
  obtain ⟨p0, p1, q0, q1⟩ := box2f hp
  have hSt := hO.stt (Q := fun _ => True) hM (fun _ _ => trivial)
  have HIX := hid (indexOfBox_any s.boxes x.box ab cb W1.drew _ hSt.1)
  rw [idxZ_some hf] at HIX
  obtain ⟨g, rfl⟩ := own_some hO hb
  have hi : i < s.boxes.length := (List.getElem?_eq_some_iff.1 hb).1
  have i1 : (i : Int) < (s.boxes.length : Int) := by omega
  have i0 : (0 : Int) ≤ (i : Int) := by omega
  obtain ⟨g', c', v, e, hv, e0, e1, e2, f1, f2⟩ := hO.box hb
  simp only [Value.slice.injEq, Option.some.injEq, Addr.mk.injEq, and_true, true_and] at e
  obtain ⟨rfl, rfl⟩ := e
  obtain ⟨am, cm, rfl⟩ := mails_form hO hb hv
  have hBM := hM.each b (List.mem_of_getElem? hb)
  have hML : MailsM (fun _ => True) W1 (.slice am b.mails.length cm) b.mails := own_row (hO.mails i b _ hb hv) rfl (by have := hBM.many; unfold maxLen; omega) (by simp) (map_flat_len (k := 3) mailC (fun _ => rfl) _) (fun q y cs hy hc => by rw [List.getElem?_map, hy] at hc; cases hc; rfl) (fun _ _ => trivial)
  have HIM := hid (fun u (hu : Below W1.heap.size W1 u) => indexOfMail_any b.mails x.uid am cm u _ (hML.next hu))
  rw [idxZ_some hj] at HIM
  obtain ⟨gm, om, eam, _, k0, k1, k2⟩ := hML.at hm
  obtain ⟨gq, rfl⟩ : ∃ gq, am = some ⟨gq, 0, none⟩ := by
    rcases (hO.mails i b _ hb hv).2 with ⟨e, _⟩ | ⟨g2, _, _, e, _⟩
    · simp only [Value.slice.injEq] at e; rw [e.1] at eam; cases eam
    · simp only [Value.slice.injEq] at e; exact ⟨g2, e.1⟩
  simp only [Option.some.injEq, Addr.mk.injEq, and_true] at eam
  obtain ⟨rfl, rfl⟩ := eam
  have hj0 : j < b.mails.length := (List.getElem?_eq_some_iff.1 hm).1
  have j1 : (j : Int) < (b.mails.length : Int) := by omega
  have j0 : (0 : Int) ≤ (j : Int) := by omega
  simp only [Nat.zero_add] at k0 k1 k2
  have hmt := (risen_mem hBM.mails (List.mem_of_getElem? hm)).2.2.2.2
  have HCT := hid (fun u (hu : Below W1.heap.size W1 u) => copyTo_any B p s x.goal m.uid m.flags m.text u (hS1.next hu) hM hmt)
  have HR := hid hr
  have c1 : (x.kind == 1) = false := by simp; omega
  have c6 : (x.kind == 6) = false := by simp; omega
  have c2 : (x.kind == 2) = false := by simp; omega
  have c4 : (x.kind == 4) = false := by simp; omega
  have c5 : (x.kind == 5) = true := by simp; omega
  clear h hM hk hf hr hW1 hb1 hX hS1 hp hO hn hSt hb hv hBM hML hj hm hmt
  go_enter Tryd.func29, Tryd.ntmps29
  go_upto_region 1 with fail
  rw [← HWE.out]
  go_wp2
  go_cut [5] (fun v wx => v = .int .i64 ((i : Int)) ∧ Below W1.heap.size W1 wx)
  case first =>
    go_region_held3 (fun w' => w'.cell? ⟨w.heap.size, 1, none⟩ = some (.string (S x.box)) ∧ w'.cell? ⟨p, 0, none⟩ = some (.slice (some ⟨g, 0, none⟩) s.boxes.length cb)) (go_keep)
      (first
        | (go_at_call 46
           with_reducible refine HIX.out.mono ?_
           rintro e w2 ⟨rfl, hb⟩
           have hb2 : Below W1.heap.size W1 w2 := (Below.refl _ _).drew.trans hb
           have HB2 := hid hb2
           have z1 := wcell_next x1 hb2
           have z0 := wcell_next p0 hb2
           clear hb hb2)
        | fail)
    all_goals
      go_wp2_with fail
      go_meet
      exact ⟨rfl, HB2.out⟩
  case rest =>
    obtain ⟨rfl, hbc⟩ := hcut
    have y0 := wcell_next p0 hbc
    have z0 := wcell_next x0 hbc
    have z1 := wcell_next x1 hbc
    have z2 := wcell_next x2 hbc
    have z3 := wcell_next x3 hbc
    have z4 := wcell_next x4 hbc
    have z5 := wcell_next x5 hbc
    have HBC := hid (show Below B w wc from HB1.out.trans (hbc.mono hs1))
    have o0 := wcell_next k0 hbc
    have o1 := wcell_next k1 hbc
    have o2 := wcell_next k2 hbc
    have y2 := wcell_next e2 hbc
    have HIM2 := hid (HIM.out wc.drew hbc.drew)
    have HBC1 := hid hbc
    clear hbc
    obtain ⟨Wc, rfl⟩ : ∃ W, W = wc := ⟨_, rfl⟩
    go_wp2
    go_cut [7] (fun v wx => v = .int .i64 ((j : Int)) ∧ Below Wc.heap.size Wc wx)
    case first =>
      go_region_held3 (fun w' => w'.cell? ⟨w.heap.size, 2, none⟩ = some (.int .i64 x.uid) ∧ w'.cell? ⟨g, i * 3 + 2, none⟩ = some (.slice (some ⟨gq, 0, none⟩) b.mails.length cm)) (go_keep)
        (first
          | (go_at_call 50
             with_reducible refine HIM2.out.mono ?_
             rintro e w2 ⟨rfl, hb⟩
             have hb2 : Below Wc.heap.size Wc w2 := (Below.refl _ _).drew.trans hb
             have HB2 := hid hb2
             have l2 := wcell_next z2 hb2
             have l0 := wcell_next y2 hb2
             clear hb hb2)
          | fail)
      all_goals
        go_wp2_with fail
        go_meet
        exact ⟨rfl, HB2.out⟩
    case rest =>
      obtain ⟨rfl, hbd⟩ := hcut
      have t0 := wcell_next o0 hbd
      have t1 := wcell_next o1 hbd
      have t2 := wcell_next o2 hbd
      have s0 := wcell_next z0 hbd
      have s4 := wcell_next z4 hbd
      have s2 := wcell_next y2 hbd
      have HCT2 := hid (HCT.out wc.drew (HBC1.out.trans (hbd.mono HBC1.out.size)).drew)
      have HBD := hid (show Below B w wc.drew from (HBC.out.trans (hbd.mono (Nat.le_trans hs1 HBC1.out.size))).drew)
      clear hbd
      go_wp2
      go_region_law
        (first
          | (go_simp
             go_at_call 51
             refine HCT2.out.mono ?_
             intro e w3 hd
             obtain ⟨zz, rfl⟩ := hd.int
             have HD := hid (DoP.trans HBD.out hd)
             clear hd)
          | fail)
      all_goals
        go_wp2
        go_ret
        rw [HR.out]
        exact HD.out
set_option maxHeartbeats 1000000 in
set_option maxRecDepth 100000 in
theorem do_k3 (B p : Nat) (s : Stt) (x : Ent) (w : World) (h : Sto B p w s) (hM : May s) (hk : x.kind = 3) (i j : Nat) (b : Bx) (m : Mail) (hf : s.boxes.findIdx? (isName x.box) = some i) (hb : s.boxes[i]? = some b) (hj : b.mails.findIdx? (isUid x.uid) = some j) (hm : b.mails[j]? = some m) :
    Calls Tryd.prog 29 #[.pointer (some ⟨p, 0, none⟩), .agg #[.int .i64 x.kind, .string (S x.box), .int .i64 x.uid, .int .i64 x.flags, .string (S x.goal), .string (S x.text)]] w (DoP B p w (doM s x)) := by
  obtain ⟨W1, hW1⟩ : ∃ W1, W1 = w.alloc (.cells #[.int .i64 x.kind, .string (S x.box), .int .i64 x.uid, .int .i64 x.flags, .string (S x.goal), .string (S x.text)] 70) := ⟨_, rfl⟩
  have HWE := hid hW1
  have hb1 : Below w.heap.size w W1 := by rw [hW1]; exact (Below.refl _ _).alloc (Nat.le_refl _) _
  have hX : W1.heap[w.heap.size]? = some (.cells #[.int .i64 x.kind, .string (S x.box), .int .i64 x.uid, .int .i64 x.flags, .string (S x.goal), .string (S x.text)] 70) := by rw [hW1]; exact heap_alloc_new w _
  obtain ⟨x0, x1, x2, x3, x4, x5⟩ := box6' hX
  have hpw : p < w.heap.size := by obtain ⟨_, _, _, hp, _⟩ := h; exact (Array.getElem?_eq_some_iff.1 hp).1
  have hS1 := h.next hb1
  have hBw : B ≤ w.heap.size := by obtain ⟨_, _, _, _, _, _, h4⟩ := h; omega
  have HB1 := hid (show Below B w W1 from hb1.mono hBw)
  have hs1 : B ≤ W1.heap.size := by have := hb1.size; omega
  obtain ⟨r, hr⟩ : ∃ r, r = doM s x := ⟨_, rfl⟩
  rw [← hr]
  rw [doM_k3 hk hf hb hj hm] at hr
  obtain ⟨ab, cb, vs, vm, hp, hO, hn, hBp⟩ := hS1.open
  obtain ⟨p0, p1, q0, q1⟩ := box2f hp
  have hSt := hO.stt (Q := fun _ => True) hM (fun _ _ => trivial)
  have HIX := hid (indexOfBox_any s.boxes x.box ab cb W1.drew _ hSt.1)
  rw [idxZ_some hf] at HIX
  obtain ⟨g, rfl⟩ := own_some hO hb
  have hi : i < s.boxes.length := (List.getElem?_eq_some_iff.1 hb).1
  have i1 : (i : Int) < (s.boxes.length : Int) := by omega
  have i0 : (0 : Int) ≤ (i : Int) := by omega
  obtain ⟨g', c', v, e, hv, e0, e1, e2, f1, f2⟩ := hO.box hb
  simp only [Value.slice.injEq, Option.some.injEq, Addr.mk.injEq, and_true, true_and] at e
  obtain ⟨rfl, rfl⟩ := e
  obtain ⟨am, cm, rfl⟩ := mails_form hO hb hv
  have hBM := hM.each b (List.mem_of_getElem? hb)
  have hML : MailsM (fun _ => True) W1 (.slice am b.mails.length cm) b.mails := own_row (hO.mails i b _ hb hv) rfl (by have := hBM.many; unfold maxLen; omega) (by simp) (map_flat_len (k := 3) mailC (fun _ => rfl) _) (fun q y cs hy hc => by rw [List.getElem?_map, hy] at hc; cases hc; rfl) (fun _ _ => trivial)
  have HIM := hid (fun u (hu : Below W1.heap.size W1 u) => indexOfMail_any b.mails x.uid am cm u _ (hML.next hu))
  rw [idxZ_some hj] at HIM
  obtain ⟨gm, om, eam, _, k0, k1, k2⟩ := hML.at hm
  obtain ⟨gq, rfl⟩ : ∃ gq, am = some ⟨gq, 0, none⟩ := by
    rcases (hO.mails i b _ hb hv).2 with ⟨e, _⟩ | ⟨g2, _, _, e, _⟩
    · simp only [Value.slice.injEq] at e; rw [e.1] at eam; cases eam
    · simp only [Value.slice.injEq] at e; exact ⟨g2, e.1⟩
  simp only [Option.some.injEq, Addr.mk.injEq, and_true] at eam
  obtain ⟨rfl, rfl⟩ := eam
  have hj0 : j < b.mails.length := (List.getElem?_eq_some_iff.1 hm).1
  have j1 : (j : Int) < (b.mails.length : Int) := by omega
  have j0 : (0 : Int) ≤ (j : Int) := by omega
  simp only [Nat.zero_add] at k0 k1 k2
  have kf : W1.frozen? ⟨gq, j * 3 + 1, none⟩ = false := by
    rcases (hO.mails i b _ hb hv).2 with ⟨e, _⟩ | ⟨g2, _, _, e, _, hg2, _⟩
    · simp only [Value.slice.injEq] at e; cases e.1
    · simp only [Value.slice.injEq, Option.some.injEq, Addr.mk.injEq, and_true] at e
      obtain ⟨rfl, _⟩ := e
      simp [World.frozen?, hg2]
  have HFL := hid (fun u (hu : Below W1.heap.size W1 u) => sto_flag (f := x.flags) (low_obj hu hp) (hO.next hu) hn hBp hb hv hm)
  have HR := hid hr
  have c1 : (x.kind == 1) = false := by simp; omega
  have c6 : (x.kind == 6) = false := by simp; omega
  have c2 : (x.kind == 2) = false := by simp; omega
  have c4 : (x.kind == 4) = false := by simp; omega
  have c5 : (x.kind == 5) = false := by simp; omega
  clear h hM hk hf hr hW1 hb1 hX hS1 hp hO hn hSt hb hv hBM hML hj hm
  go_enter Tryd.func29, Tryd.ntmps29
  go_upto_region 1 with fail
  rw [← HWE.out]
  go_wp2
  go_cut [5] (fun v wx => v = .int .i64 ((i : Int)) ∧ Below W1.heap.size W1 wx)
  case first =>
    go_region_held3 (fun w' => w'.cell? ⟨w.heap.size, 1, none⟩ = some (.string (S x.box)) ∧ w'.cell? ⟨p, 0, none⟩ = some (.slice (some ⟨g, 0, none⟩) s.boxes.length cb)) (go_keep)
      (first
        | (go_at_call 46
           with_reducible refine HIX.out.mono ?_
           rintro e w2 ⟨rfl, hb⟩
           have hb2 : Below W1.heap.size W1 w2 := (Below.refl _ _).drew.trans hb
           have HB2 := hid hb2
           have z1 := wcell_next x1 hb2
           have z0 := wcell_next p0 hb2
           clear hb hb2)
        | fail)
    all_goals
      go_wp2_with fail
      go_meet
      exact ⟨rfl, HB2.out⟩
  case rest =>
    obtain ⟨rfl, hbc⟩ := hcut
    have y0 := wcell_next p0 hbc
    have z0 := wcell_next x0 hbc
    have z1 := wcell_next x1 hbc
    have z2 := wcell_next x2 hbc
    have z3 := wcell_next x3 hbc
    have z4 := wcell_next x4 hbc
    have z5 := wcell_next x5 hbc
    have HBC := hid (show Below B w wc from HB1.out.trans (hbc.mono hs1))
    have o1 := wcell_next k1 hbc
    have of := low_frozen kf k1 hbc
    have y2 := wcell_next e2 hbc
    have HIM2 := hid (HIM.out wc.drew hbc.drew)
    have HBC1 := hid hbc
    clear hbc
    obtain ⟨Wc, rfl⟩ : ∃ W, W = wc := ⟨_, rfl⟩
    go_wp2
    go_cut [7] (fun v wx => v = .int .i64 ((j : Int)) ∧ Below Wc.heap.size Wc wx)
    case first =>
      go_region_held3 (fun w' => w'.cell? ⟨w.heap.size, 2, none⟩ = some (.int .i64 x.uid) ∧ w'.cell? ⟨g, i * 3 + 2, none⟩ = some (.slice (some ⟨gq, 0, none⟩) b.mails.length cm)) (go_keep)
        (first
          | (go_at_call 50
             with_reducible refine HIM2.out.mono ?_
             rintro e w2 ⟨rfl, hb⟩
             have hb2 : Below Wc.heap.size Wc w2 := (Below.refl _ _).drew.trans hb
             have HB2 := hid hb2
             have l2 := wcell_next z2 hb2
             have l0 := wcell_next y2 hb2
             clear hb hb2)
          | fail)
      all_goals
        go_wp2_with fail
        go_meet
        exact ⟨rfl, HB2.out⟩
    case rest =>
      obtain ⟨rfl, hbd⟩ := hcut
      have t1 := wcell_next o1 hbd
      have tf := low_frozen of o1 hbd
      have s0 := wcell_next z0 hbd
      have s3 := wcell_next z3 hbd
      have s2 := wcell_next y2 hbd
      have hFL := HFL.out wc.drew (HBC1.out.trans (hbd.mono HBC1.out.size)).drew
      have HF := hid (show DoP B p w r (.returned (.int .i64 0)) (wc.drew.setCell ⟨gq, j * 3 + 1, none⟩ (.int .i64 x.flags)) by
        rw [HR.out]
        exact ⟨((HBC.out.trans (hbd.mono (Nat.le_trans hs1 HBC1.out.size))).drew).trans hFL.2, rfl, hFL.1⟩)
      clear hbd hFL
      go_wp2
      go_region_law (fail)
      all_goals
        go_wp2
        go_ret
        exact HF.out
theorem do_any (B p : Nat) (s : Stt) (x : Ent) (w : World) (h : Sto B p w s) (hM : May s) (hF : Formed x) :
    Calls Tryd.prog 29 #[.pointer (some ⟨p, 0, none⟩), .agg #[.int .i64 x.kind, .string (S x.box), .int .i64 x.uid, .int .i64 x.flags, .string (S x.goal), .string (S x.text)]] w (DoP B p w (doM s x)) := by
  have hk := hF.kind
  by_cases k1 : x.kind = 1
  · exact do_k1 B p s x w h hM k1
  · by_cases k6 : x.kind = 6
    · exact do_k6 B p s x w h hM k6
    · cases hf : s.boxes.findIdx? (isName x.box) with
      | none => exact do_none B p s x w h hM k1 k6 hf
      | some i =>
        by_cases k2 : x.kind = 2
        · exact do_k2 B p s x w h hM hF k2 i hf
        · by_cases k4 : x.kind = 4
          · exact do_k4 B p s x w h hM k4 i hf
          · obtain ⟨b, hb, _⟩ := find_at hf
            cases hj : b.mails.findIdx? (isUid x.uid) with
            | none => exact do_gone B p s x w h hM (by omega) i b hf hb hj
            | some j =>
              obtain ⟨m, hm, _⟩ := find_at hj
              by_cases k5 : x.kind = 5
              · exact do_k5 B p s x w h hM k5 i j b m hf hb hj hm
              · exact do_k3 B p s x w h hM (by omega) i j b m hf hb hj hm
end Go.Proofs.YtkkkbggbeihbnaaDoor
