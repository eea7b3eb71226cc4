/-
  What the methods of a connection do, the room being in memory: the walks.
-/
import Derived.Test.YtmgdnhjemhhleaaGreatDoorOQPoOp44
import Derived.Test.YtmgdnhjemhhleaaGreatDoorRows
import Derived.Laws.Strings3
set_option maxHeartbeats 2000000
set_option maxRecDepth 100000
namespace Go.Proofs.YtmgdnhjemhhleaaGreatDoor
open Go.RowKit Go.Proofs
theorem RmB.put {w : World} {b : Nat} {cs : List Value} (h : RmB w b cs) (j : Nat) (v : Value) : RmB (w.setCell ⟨b, j, none⟩ v) b (cs.set j v) := by
 refine ⟨?_, by simpa using h.2⟩; have := heap_setCell_same w b j _ _ v h.1; rw [this]
 simp
theorem RmB.frz {w : World} {b : Nat} {cs : List Value} (h : RmB w b cs) (j : Nat) : w.frozen? ⟨b, j, none⟩ = false := by simp [World.frozen?, h.1]
theorem RmB.ty {w : World} {b : Nat} {cs cs' : List Value} (h : RmB w b cs) (e : cs = cs') : RmB w b cs' := e ▸ h
theorem jdm (R : Rom) (X : Vals) {i : Nat} (hi : i < 3) {k : Nat} (hk : k < 9) : (vr R X)[7 + i * 9 + k]? = (conC (R.con i) (X.con i))[k]? := by
 match i, hi with
 | 0, _ | 1, _ | 2, _ =>
   match k, hk with
   | 0, _ | 1, _ | 2, _ | 3, _ | 4, _ | 5, _ | 6, _ | 7, _ | 8, _ => rfl
theorem jjg (R : Rom) (X : Vals) {i : Nat} (hi : i < 3) (v : Value) (l : List Int) : (vr R X).set (7 + i * 9 + 8) v = vr (R.put i ⟨(R.con i).ses, (R.con i).held, (R.con i).due, l⟩) (X.put i ⟨(X.con i).t, (X.con i).d, v⟩) := by
 match i, hi with
 | 0, _ | 1, _ | 2, _ => rfl
theorem jkS (R : Rom) (X : Vals) {i : Nat} (hi : i < 3) (v : Value) (l : List Int) : (vr R X).set (7 + i * 9 + 7) v = vr (R.put i (dueC (R.con i) l)) (X.put i ⟨(X.con i).t, v, (X.con i).l⟩) := by
 match i, hi with
 | 0, _ | 1, _ | 2, _ => rfl
theorem jjf (R : Rom) (X : Vals) {i : Nat} (hi : i < 3) (h : List UInt8) : (vr R X).set (7 + i * 9 + 6) (.string (S h)) = vr (R.put i (jbp (R.con i) h)) (X.put i (X.con i)) := by
 match i, hi with
 | 0, _ | 1, _ | 2, _ => rfl
theorem vK (R : Rom) (X : Vals) {i : Nat} (hi : i < 3) : ∃ A Z, jZ R X = A ++ intR 3 (X.con i).l (R.con i).told :: Z ∧ ∀ c x, jZ (R.put i c) (X.put i x) = A ++ intR 3 x.l c.told :: Z := by
 match i, hi with
 | 0, _ => exact ⟨[], _, rfl, fun _ _ => rfl⟩
 | 1, _ => exact ⟨[_], _, rfl, fun _ _ => rfl⟩
 | 2, _ => exact ⟨[_, _], _, rfl, fun _ _ => rfl⟩
theorem RoM.con {Q : Nat → Prop} {w : World} {K : List (List UInt8)} {Cs : List (List Cmd)} {R : Rom} {X : Vals} (h : RoM Q w K Cs R X) {i : Nat} (hi : i < 3) : ConM Q w (R.con i) (X.con i) := by
 match i, hi with
 | 0, _ => exact h.k0
 | 1, _ => exact h.k1
 | 2, _ => exact h.k2
theorem RoM.put {Q : Nat → Prop} {w : World} {K : List (List UInt8)} {Cs : List (List Cmd)} {R : Rom} {X : Vals} (h : RoM Q w K Cs R X) {i : Nat} (hi : i < 3) {c : Con} {x : Cv} (hc : ConM Q w c x) : RoM Q w K Cs (R.put i c) (X.put i x) := by
 match i, hi with
 | 0, _ => exact ⟨hc, h.k1, h.k2, h.lo, h.sc, h.sf, h.sv, h.os, h.td⟩
 | 1, _ => exact ⟨h.k0, hc, h.k2, h.lo, h.sc, h.sf, h.sv, h.os, h.td⟩
 | 2, _ => exact ⟨h.k0, h.k1, hc, h.lo, h.sc, h.sf, h.sv, h.os, h.td⟩
theorem jd4 {w : World} {b o i : Nat} {R : Rom} {X : Vals} (h : RmB w b (vr R X)) (hi : i < 3) (ho : o = 7 + i * 9) : w.cell? ⟨b, o, none⟩ = some (.int .i64 (R.con i).ses.step) ∧ w.cell? ⟨b, o + 1, none⟩ = some (.string (S (R.con i).ses.frm.1)) ∧ w.cell? ⟨b, o + 2, none⟩ = some (.string (S (R.con i).ses.frm.2)) ∧ w.cell? ⟨b, o + 3, none⟩ = some (X.con i).t ∧
 w.cell? ⟨b, o + 4, none⟩ = some (.string (S (R.con i).ses.text)) ∧ w.cell? ⟨b, o + 5, none⟩ = some (.bool (R.con i).ses.large) ∧ w.cell? ⟨b, o + 6, none⟩ = some (.string (S (R.con i).held)) ∧ w.cell? ⟨b, o + 7, none⟩ = some (X.con i).d ∧ w.cell? ⟨b, o + 8, none⟩ = some (X.con i).l := by
 subst ho; have hc : ∀ k, k < 9 → ∀ v, (conC (R.con i) (X.con i))[k]? = some v → w.cell? ⟨b, 7 + i * 9 + k, none⟩ = some v := fun k hk v hv => h.cell (by rw [jdm R X hi hk]; exact hv)
 exact ⟨hc 0 (by omega) _ rfl, hc 1 (by omega) _ rfl, hc 2 (by omega) _ rfl, hc 3 (by omega) _ rfl, hc 4 (by omega) _ rfl, hc 5 (by omega) _ rfl, hc 6 (by omega) _ rfl, hc 7 (by omega) _ rfl, hc 8 (by omega) _ rfl⟩
theorem jl1 {w : World} {b : Nat} {cs : List Value} (h : RmB w b cs) (o : Nat) : w.frozen? ⟨b, o, none⟩ = false ∧ w.frozen? ⟨b, o + 1, none⟩ = false ∧ w.frozen? ⟨b, o + 2, none⟩ = false ∧ w.frozen? ⟨b, o + 3, none⟩ = false ∧ w.frozen? ⟨b, o + 4, none⟩ = false ∧ w.frozen? ⟨b, o + 5, none⟩ = false ∧ w.frozen? ⟨b, o + 6, none⟩ = false ∧ w.frozen? ⟨b, o + 7, none⟩ = false ∧ w.frozen? ⟨b, o + 8, none⟩ = false :=
 ⟨h.frz _, h.frz _, h.frz _, h.frz _, h.frz _, h.frz _, h.frz _, h.frz _, h.frz _⟩
def RmQ (K : List (List UInt8)) (Cs : List (List Cmd)) (B b : Nat) (G : List Nat) (w : World) (R : Rom) (r : Value) (e : Ending) (w' : World) : Prop :=
 e = .returned r ∧ ∃ G', RoomM K Cs B b G' R w' ∧ Stp b G w G' w'
theorem jly : (Tryz.prog.info? 3).map (fun i => (i.zero, i.size, i.bytes)) = some (some (.int .i64 0), 1, 8) := by kernel_rfl
theorem qM {w : World} {B n k : Nat} {e : TypeId} {v : Value} {xs : List Value} (h : w.ownsRow B e k v n xs) : ∃ a c, v = .slice a n c ∧ n ≤ c := by
 rcases h.2 with ⟨h1, h0⟩ | ⟨g, cap, _, h, _, _, hc, _⟩
 · exact ⟨none, 0, by rw [h1, h0], Nat.le_of_eq h0⟩
 · exact ⟨_, _, h, hc⟩
theorem jeL (K : List (List UInt8)) (Cs : List (List Cmd)) (B b : Nat) (G : List Nat) (R : Rom) (w : World) (hR : RoomM K Cs B b G R w) (i o : Nat) (hi : i < 3) (ho : o = 7 + i * 9) (ad : Addr) (c : Nat) (l : List Int) (hl : 0 < l.length) (hn : (R.con i).told.length + l.length ≤ 1000000000) (hc : ∀ j u, (l.map fun k => Value.int .i64 k)[j]? = some u → w.cell? (ad.add j) = some u) :
 Calls Tryz.prog 73 #[.pointer (some ⟨b, o, none⟩), .slice (some ad) l.length c] w (RmQ K Cs B b G w (R.put i (jbt (R.con i) l)) (.tuple #[])) := by
 obtain ⟨X, hG, hB, hX, hM, hQ⟩ := hR; obtain ⟨A, Z, hA, hA'⟩ := vK R X hi; obtain ⟨i0, hi0, hz0, hz1, hz2⟩ := info_parts jly; have hown := hM.own (intR 3 (X.con i).l (R.con i).told) (by rw [hA]; simp); have h8 : w.cell? ⟨b, o + 8, none⟩ = some (X.con i).l := hX.cell (by rw [ho, jdm R X hi (by omega)]; rfl); have HEND := hid (show ∀ (g cap : Nat) (w1 : World), w1.ownsRow B 3 1 (.slice (some ⟨g, 0, none⟩) ((R.con i).told.length + l.length) cap) ((R.con i).told.length + l.length) (((R.con i).told.map fun k => .int .i64 k) ++ l.map fun k => .int .i64 k) → w.grownBy w1 (X.con i).l.ownBlock → ((X.con i).l.ownBlock = some g ∨ g = w.heap.size) →
  RmQ K Cs B b G w (R.put i (jbt (R.con i) l)) (.tuple #[]) (.returned (.tuple #[])) (w1.setCell ⟨b, o + 8, none⟩ (.slice (some ⟨g, 0, none⟩) ((R.con i).told.length + l.length) cap)) ∧ w1.cell? ⟨b, o + 8, none⟩ = some (X.con i).l ∧ w1.frozen? ⟨b, o + 8, none⟩ = false from fun g cap w1 h1 h2 h3 => by
  have hM' := hM; rw [hA] at hM'; obtain ⟨k1, k2⟩ := hM'.grow (H := w.heap.size) (r' := intR 3 (.slice (some ⟨g, 0, none⟩) ((R.con i).told.length + l.length) cap) ((R.con i).told ++ l)) h2 (by simpa [intR] using h1) (Nat.le_refl _) (fun g' e => by cases e; exact h3.imp id fun h => Nat.le_of_eq h.symm); have hbx : w1.heap[b]? = w.heap[b]? := h2.block b hM.lt fun e => hM.far (by rw [hA]; exact List.mem_filterMap.2 ⟨intR 3 (X.con i).l (R.con i).told, by simp, e.symm⟩)
  have hX1 : RmB w1 b (vr R X) := ⟨hbx.trans hX.1, hX.2⟩; refine ⟨⟨rfl, _, ⟨X.put i ⟨(X.con i).t, (X.con i).d, .slice (some ⟨g, 0, none⟩) ((R.con i).told.length + l.length) cap⟩, rfl, hB, ?_, ?_, ?_⟩, ?_⟩, ?_, ?_⟩
  · rw [ho]; exact (hX1.put _ _).ty (jjg R X hi _ _)
  · rw [hA']; exact k1.box _ _
  · rw [hG] at hQ; rw [hA'] at *; rw [hA] at hQ; have hQ2 := hQ.stp (k2.box (o + 8) (.slice (some ⟨g, 0, none⟩) ((R.con i).told.length + l.length) cap)); have hc2 := hQ2.con hi; exact hQ2.put hi ⟨hc2.gl, hc2.ry, hc2.du⟩
  · rw [hG, hA', hA]; exact k2.box _ _
  · exact (World.cell?_of_block hbx).trans h8
  · exact hX1.frz _)
 have hbB : B ≤ w.heap.size := by have := hM.lt; omega
 obtain ⟨al, cl, hal, hcap⟩ := qM hown; simp only [intR] at hal hown; rw [hal] at h8 hown HEND; have HO := hid hown; clear hM hQ hX hA hA' hown hG hal ho; go_enter Tryz.func73, Tryz.ntmps73
 go_wp2_with (first
  | (at_builtin; refine wpList_append_lies _ rfl _ _ 36 rfl B 3 i0 _ 1 8 Tryz.underlying36 hi0 hz0 hz1 hz2 rfl (by decide) (.slice al (R.con i).told.length cl) (R.con i).told.length ((R.con i).told.map fun k => .int .i64 k) rfl HO.out ad l.length c (l.map fun k => .int .i64 k) rfl ?q1 hc ?q2 hl ?q3 ?q4 ?q5 w.heap.size rfl ?_)
  | fail)
 case q1 => simp
 case q2 =>
  intro u hu; obtain ⟨k, _, rfl⟩ := List.mem_map.1 hu; rfl
 case q3 => unfold maxLen; omega
 case q4 => omega
 case q5 => exact hbB
 intro g cap w1 hown hgrow hat hlt; obtain ⟨HF, z0, z1⟩ := HEND.out g cap w1 hown hgrow hat; have HF := hid HF; clear hown hgrow hat HEND; go_wp2; go_end0; exact HF.out
theorem jgh {A : Type} : ∀ {l : List A} {j : Nat} {v : A}, l[j]? = some v → l.set j v = l
 | [], _, _, h => by simp at h
 | _ :: _, 0, _, h => by cases h; rfl
 | _ :: l, j + 1, _, h => congrArg _ (jgh (l := l) h)
theorem jla (c : Con) : jbt c [] = c := by cases c; simp [jbt]
theorem jdn (R : Rom) (i : Nat) (hi : i < 3) : R.put i (R.con i) = R := by
 match i, hi with
 | 0, _ | 1, _ | 2, _ => rfl
theorem jjB (K : List (List UInt8)) (Cs : List (List Cmd)) (B b : Nat) (G : List Nat) (R : Rom) (w : World) (hR : RoomM K Cs B b G R w) (i o : Nat) (hi : i < 3) (ho : o = 7 + i * 9) (a : Option Addr) (c : Nat) (hn : (R.con i).told.length ≤ 1000000000) :
 Calls Tryz.prog 73 #[.pointer (some ⟨b, o, none⟩), .slice a 0 c] w (RmQ K Cs B b G w R (.tuple #[])) := by
 obtain ⟨X, hG, hB, hX, hM, hQ⟩ := hR; obtain ⟨A, Z, hA, hA'⟩ := vK R X hi; have hown := hM.own (intR 3 (X.con i).l (R.con i).told) (by rw [hA]; simp); obtain ⟨al, cl, hal, hcap⟩ := qM hown; simp only [intR] at hal hown hcap; have hc8 : (vr R X)[o + 8]? = some (.slice al (R.con i).told.length cl) := by rw [ho, jdm R X hi (by omega), ← hal]; rfl
 have h8 : w.cell? ⟨b, o + 8, none⟩ = some (.slice al (R.con i).told.length cl) := hX.cell hc8; have z8 := hX.frz (o + 8); have HEND := hid (show RmQ K Cs B b G w R (.tuple #[]) (.returned (.tuple #[])) (w.setCell ⟨b, o + 8, none⟩ (.slice al (R.con i).told.length cl)) from
  ⟨rfl, G, ⟨X, hG, hB, (hX.put _ _).ty (jgh hc8), hM.box _ _, hQ.stp ((Stp.refl b G w).box _ _)⟩, (Stp.refl b G w).box _ _⟩)
 generalize (R.con i).told.length = n at *; have hn2 : (n : Int) ≤ 1000000000 := by omega
 clear hM hQ hX hA hA' hown hG hal ho hc8; cases a <;> cases al
 all_goals
  go_enter Tryz.func73, Tryz.ntmps73; go_wp2; go_end0; exact HEND.out
theorem jhx (R : Rom) (X : Vals) {i : Nat} (hi : i < 3) (k : Int) : (((((((((vr R X).set (7 + i * 9) (.int .i64 k)).set (7 + i * 9 + 1) (.string ⟨#[]⟩)).set (7 + i * 9 + 2) (.string ⟨#[]⟩)).set (7 + i * 9 + 3) (.slice none 0 0)).set (7 + i * 9 + 4) (.string ⟨#[]⟩)).set (7 + i * 9 + 5) (.bool false)).set (7 + i * 9 + 6) (.string ⟨#[]⟩)).set (7 + i * 9 + 7) (.slice none 0 0)).set (7 + i * 9 + 8) (X.con i).l = vr (R.put i (jas (R.con i) k)) (X.put i ⟨.slice none 0 0, .slice none 0 0, (X.con i).l⟩) := by
 match i, hi with
 | 0, _ | 1, _ | 2, _ => rfl
theorem jbL (K : List (List UInt8)) (Cs : List (List Cmd)) (B b : Nat) (G : List Nat) (R : Rom) (w : World) (hR : RoomM K Cs B b G R w) (i o : Nat) (hi : i < 3) (ho : o = 7 + i * 9) (k : Int) :
 Calls Tryz.prog 41 #[.pointer (some ⟨b, o, none⟩), .int .i64 k] w (RmQ K Cs B b G w (R.put i (jas (R.con i) k)) (.tuple #[])) := by
 obtain ⟨X, hG, hB, hX, hM, hQ⟩ := hR; obtain ⟨A, Z, hA, hA'⟩ := vK R X hi; have hown := hM.own (intR 3 (X.con i).l (R.con i).told) (by rw [hA]; simp); obtain ⟨al, cl, hal, hcap⟩ := qM hown; simp only [intR] at hal; obtain ⟨c0, c1, c2, c3, c4, c5, c6, c7, c8⟩ := jd4 hX hi ho; obtain ⟨z0, z1, z2, z3, z4, z5, z6, z7, z8⟩ := jl1 hX o; rw [hal] at c8; have hRb := jhx R X hi k; rw [← ho, hal] at hRb; have HEND := hid (show ∀ w', RmB w' b (vr (R.put i (jas (R.con i) k)) (X.put i ⟨.slice none 0 0, .slice none 0 0, (X.con i).l⟩)) → MOk w' B b (jZ R X) → Stp b G w G w' → RmQ K Cs B b G w (R.put i (jas (R.con i) k)) (.tuple #[]) (.returned (.tuple #[])) w' from fun w' h1 h2 h3 => by
  have e : jZ (R.put i (jas (R.con i) k)) (X.put i ⟨.slice none 0 0, .slice none 0 0, (X.con i).l⟩) = jZ R X := by rw [hA', hA]; rfl
  exact ⟨rfl, G, ⟨_, by rw [e]; exact hG, hB, h1, by rw [e]; exact h2, (hQ.stp h3).put hi ⟨jg _ _ _ _ _ _, fun a n c h => by cases h; exact Nat.le_refl _, jg _ _ _ _ _ _⟩⟩, h3⟩)
 have HRB := hid hRb; have HX := hid hX; have HM := hid hM; rw [hal] at HEND; clear hRb hM hQ hX hA hA' hG ho hown hal hcap; go_enter Tryz.func41, Tryz.ntmps41; go_wp2; go_end0; exact HEND.out _ ((((((((((HX.out.put _ _).put _ _).put _ _).put _ _).put _ _).put _ _).put _ _).put _ _).put _ _).ty HRB.out) (((((((((HM.out.box _ _).box _ _).box _ _).box _ _).box _ _).box _ _).box _ _).box _ _).box _ _) ((((((((((Stp.refl b G w).box _ _).box _ _).box _ _).box _ _).box _ _).box _ _).box _ _).box _ _).box _ _)
def jcy (n : Int) (m : Nat) : Nat := ((if n < 0 then -(n + 1) else n) % (m : Int)).toNat
theorem jgd (n : Int) (m : Nat) (hm : 0 < m) : jcy n m < m := by
 unfold jcy; have h1 := Int.emod_nonneg (if n < 0 then -(n + 1) else n) (b := (m : Int)) (by omega); have h2 := Int.emod_lt_of_pos (if n < 0 then -(n + 1) else n) (b := (m : Int)) (by omega); omega
theorem jhq (n : Int) (m : Nat) (w : World) (hn : (Lit.int .i64 n).wf = true) (hm : 0 < m) (hm2 : m ≤ 9223372036854775807) :
 Calls Tryz.prog 8 #[.int .i64 n, .int .i64 m] w fun e w' => e = .returned (.int .i64 (jcy n m)) ∧ w' = w := by
 have hb := bounds_i64 hn; obtain ⟨hb1, hb2⟩ := hb; clear hn; have HP : Hid ((jcy n m : Int) = (if n < 0 then -(n + 1) else n) % (m : Int)) := by
  unfold Hid jcy; have h1 := Int.emod_nonneg (if n < 0 then -(n + 1) else n) (b := (m : Int)) (by omega); omega
 have hmz : ((m : Int) == 0) = false := by simp; omega
 by_cases h : n < 0
 · have HQ : Hid ((jcy n m : Int) = (-(n + 1)) % (m : Int)) := by unfold Hid; rw [HP.out, if_pos h]
   clear HP; go_enter Tryz.func8, Tryz.ntmps8; go_wp2; go_ret; exact ⟨jc (by rw [HQ.out, ← Int.neg_tmod]; exact Int.tmod_eq_emod_of_nonneg (by omega)), rfl⟩
 · have HQ : Hid ((jcy n m : Int) = n % (m : Int)) := by unfold Hid; rw [HP.out, if_neg h]
   clear HP; go_enter Tryz.func8, Tryz.ntmps8; go_wp2; go_ret; exact ⟨jc (by rw [HQ.out]), rfl⟩
theorem jgr (a b : List UInt8) : S a ++ S b = S (a ++ b) := by
 apply ByteArray.ext
 simp [S]
structure Gea where
 kind : Int
 conn : Int
 user : Int
 a : Int
 b : Int
 text : ByteArray
theorem jcG (n : Int) (m : Nat) (w : World) (hn : (Lit.int .i64 n).wf = true) (hm : 0 < m) (hm2 : m ≤ 9223372036854775807) :
 Calls Tryz.prog 4 #[.int .i64 n, .int .i64 m] w fun e w' => e = .returned (.int .i64 (jcy n m)) ∧ w' = w := by
 have HP := hid (jhq n m w hn hm hm2); clear hn hm hm2; go_enter Tryz.func4, Tryz.ntmps4; go_wp2_with fail; refine HP.out.mono ?_; rintro e u ⟨rfl, hu⟩; subst hu; go_wp2; go_ret; exact ⟨rfl, rfl⟩
theorem jV (R : Rom) (i : Nat) (c : Con) : (R.put i c).con i = c := by
 match i with
 | 0 | 1 | _ + 2 => rfl
theorem qm (R : Rom) (i : Nat) (c d : Con) : (R.put i c).put i d = R.put i d := by
 match i with
 | 0 | 1 | _ + 2 => rfl
theorem RmQ.trans {K : List (List UInt8)} {Cs : List (List Cmd)} {B b : Nat} {G G' : List Nat} {w w1 w' : World} {R : Rom} {r : Value} {e : Ending} (hs : Stp b G w G' w1) (h : RmQ K Cs B b G' w1 R r e w') : RmQ K Cs B b G w R r e w' := by
 obtain ⟨h1, G2, h2, h3⟩ := h; exact ⟨h1, G2, h2, hs.trans h3⟩
theorem qg {Q : Nat → Prop} {w : World} {v : Value} {l : List Int} (h : IntsM Q w v l) : ∃ a c, v = .slice a l.length c := RowM.slice h
theorem RoomM.cells {K : List (List UInt8)} {Cs : List (List Cmd)} {B b i o : Nat} {G : List Nat} {R : Rom} {w : World} (h : RoomM K Cs B b G R w) (hi : i < 3) (ho : o = 7 + i * 9) : ∃ at_ ct ad cd,
 w.cell? ⟨b, o, none⟩ = some (.int .i64 (R.con i).ses.step) ∧ w.cell? ⟨b, o + 1, none⟩ = some (.string (S (R.con i).ses.frm.1)) ∧ w.cell? ⟨b, o + 2, none⟩ = some (.string (S (R.con i).ses.frm.2)) ∧ w.cell? ⟨b, o + 3, none⟩ = some (.slice at_ (R.con i).ses.to.length ct) ∧
 w.cell? ⟨b, o + 4, none⟩ = some (.string (S (R.con i).ses.text)) ∧ w.cell? ⟨b, o + 5, none⟩ = some (.bool (R.con i).ses.large) ∧ w.cell? ⟨b, o + 6, none⟩ = some (.string (S (R.con i).held)) ∧ w.cell? ⟨b, o + 7, none⟩ = some (.slice ad (R.con i).due.length cd) ∧
 AdrsM (AvN B b G) w (.slice at_ (R.con i).ses.to.length ct) (R.con i).ses.to ∧ jap (.slice at_ (R.con i).ses.to.length ct) ∧ IntsM (AvN B b G) w (.slice ad (R.con i).due.length cd) (R.con i).due := by
 obtain ⟨X, hG, hB, hX, hM, hQ⟩ := h; obtain ⟨h1, h2, h3⟩ := hQ.con hi; obtain ⟨at_, ct, ht⟩ := RowM.slice h1; obtain ⟨ad, cd, hd⟩ := qg h3; obtain ⟨c0, c1, c2, c3, c4, c5, c6, c7, c8⟩ := jd4 hX hi ho; rw [ht] at h1 h2 c3; rw [hd] at h3 c7; exact ⟨at_, ct, ad, cd, c0, c1, c2, c3, c4, c5, c6, c7, h1, h2, h3⟩
theorem RoomM.frz {K : List (List UInt8)} {Cs : List (List Cmd)} {B b : Nat} {G : List Nat} {R : Rom} {w : World} (h : RoomM K Cs B b G R w) (j : Nat) : w.frozen? ⟨b, j, none⟩ = false := by
 obtain ⟨X, hG, hB, hX, hM, hQ⟩ := h; exact hX.frz j
theorem jb9 (R : Rom) (X : Vals) {i : Nat} (hi : i < 3) {c : Con} {x : Cv} (hc : c.told = (R.con i).told) (hx : x.l = (X.con i).l) : jZ (R.put i c) (X.put i x) = jZ R X := by
 obtain ⟨A, Z, h1, h2⟩ := vK R X hi; rw [h1, h2, hc, hx]
theorem RoomM.held {K : List (List UInt8)} {Cs : List (List Cmd)} {B b i o : Nat} {G : List Nat} {R : Rom} {w : World} (h : RoomM K Cs B b G R w) (hi : i < 3) (ho : o = 7 + i * 9) (t : List UInt8) : RoomM K Cs B b G (R.put i (jbp (R.con i) t)) (w.setCell ⟨b, o + 6, none⟩ (.string (S t))) ∧ Stp b G w G (w.setCell ⟨b, o + 6, none⟩ (.string (S t))) := by
 obtain ⟨X, hG, hB, hX, hM, hQ⟩ := h; have hs : Stp b G w G (w.setCell ⟨b, o + 6, none⟩ (.string (S t))) := (Stp.refl b G w).box _ _; have e := jb9 R X hi (c := jbp (R.con i) t) (x := X.con i) rfl rfl; have hc := (hQ.stp hs).con hi; exact ⟨⟨_, by rw [e]; exact hG, hB, (hX.put _ _).ty (by rw [ho]; exact jjf R X hi t), by rw [e]; exact hM.box _ _, (hQ.stp hs).put hi ⟨hc.gl, hc.ry, hc.du⟩⟩, hs⟩
theorem RoomM.due {K : List (List UInt8)} {Cs : List (List Cmd)} {B b i o : Nat} {G : List Nat} {R : Rom} {w : World} (h : RoomM K Cs B b G R w) (hi : i < 3) (ho : o = 7 + i * 9) (v : Value) (l : List Int) (hv : IntsM (AvN B b G) w v l) : RoomM K Cs B b G (R.put i (dueC (R.con i) l)) (w.setCell ⟨b, o + 7, none⟩ v) ∧ Stp b G w G (w.setCell ⟨b, o + 7, none⟩ v) := by
 obtain ⟨X, hG, hB, hX, hM, hQ⟩ := h; have hs : Stp b G w G (w.setCell ⟨b, o + 7, none⟩ v) := (Stp.refl b G w).box _ _; have e := jb9 R X hi (c := dueC (R.con i) l) (x := ⟨(X.con i).t, v, (X.con i).l⟩) rfl rfl; have hc := (hQ.stp hs).con hi; exact ⟨⟨X.put i ⟨(X.con i).t, v, (X.con i).l⟩, by rw [e]; exact hG, hB, (hX.put _ _).ty (by rw [ho]; exact jkS R X hi v l), by rw [e]; exact hM.box _ _, (hQ.stp hs).put hi ⟨hc.gl, hc.ry, hv.stp hs⟩⟩, hs⟩
theorem jkj (K : List (List UInt8)) (Cs : List (List Cmd)) (B b : Nat) (G : List Nat) (R : Rom) (w : World) (hR : RoomM K Cs B b G R w) (i o : Nat) (hi : i < 3) (ho : o = 7 + i * 9) (d : List UInt8) (hn : (R.con i).held.length + d.length ≤ 1000000000) :
 Calls Tryz.prog 25 #[.pointer (some ⟨b, o, none⟩), .string (S d)] w (RmQ K Cs B b G w (R.put i (jct (R.con i) d)) (.tuple #[])) := by
 obtain ⟨at_, ct, ad, cd, c0, c1, c2, c3, c4, c5, c6, c7, _⟩ := hR.cells hi ho; have hz := hR.frz (o + 6); have HR := hid hR; have HO := hid ho; clear hR ho
 by_cases h5 : (R.con i).ses.step = 5
 · have HB := hid (jbL K Cs B b G R w HR.out i o hi HO.out 0); have HE := hid (show jct (R.con i) d = ⟨atS 0, d, [], (R.con i).told⟩ by unfold jct; rw [if_pos h5]); rw [h5] at c0; clear h5 c1 c2 c3 c4 c5 c6 c7 hz; go_enter Tryz.func25, Tryz.ntmps25; go_wp2_with fail; refine HB.out.mono ?_; rintro e w1 ⟨rfl, G1, hR1, hs1⟩; obtain ⟨_, _, _, _, _, _, _, _, _, _, d6, _⟩ := hR1.cells hi HO.out; rw [jV, show (jas (R.con i) 0).held = [] from rfl] at d6; have hz1 := hR1.frz (o + 6); obtain ⟨k1, k2⟩ := hR1.held hi HO.out d; rw [jV, qm] at k1; have HF := hid (show RmQ K Cs B b G w (R.put i (jct (R.con i) d)) (.tuple #[]) (.returned (.tuple #[])) (w1.setCell ⟨b, o + 6, none⟩ (.string (S d))) from ⟨rfl, G1, by rw [HE.out]; exact k1, hs1.trans k2⟩); have hsz : ¬ 9223372036854775807 < (S ([] : List UInt8)).size + (S d).size := by rw [jd, jd]; simp; omega
   have hap : S ([] : List UInt8) ++ S d = S d := by rw [jgr]; rfl
   clear k1 k2 hR1 hs1; go_wp2; go_end0
   first | exact HF.out | (rw [hap]; exact HF.out)
 · have h5' : ((R.con i).ses.step == 5) = false := by simpa using h5
   obtain ⟨k1, k2⟩ := HR.out.held hi HO.out ((R.con i).held ++ d); have HF := hid (show RmQ K Cs B b G w (R.put i (jct (R.con i) d)) (.tuple #[]) (.returned (.tuple #[])) (w.setCell ⟨b, o + 6, none⟩ (.string (S ((R.con i).held ++ d)))) from ⟨rfl, G, by unfold jct; rw [if_neg h5]; exact k1, k2⟩); have hsz : ¬ 9223372036854775807 < (S (R.con i).held).size + (S d).size := by rw [jd, jd]; omega
   have HAP := hid (jgr (R.con i).held d); clear k1 k2; go_enter Tryz.func25, Tryz.ntmps25; go_wp2; go_end0; rw [HAP.out]; exact HF.out
theorem jeP (K : List (List UInt8)) (Cs : List (List Cmd)) (B b : Nat) (G : List Nat) (R : Rom) (w : World) (hR : RoomM K Cs B b G R w) (i o : Nat) (hi : i < 3) (ho : o = 7 + i * 9) :
 Calls Tryz.prog 70 #[.pointer (some ⟨b, o, none⟩)] w fun e w' => e = .returned (.bool (decide (0 < (R.con i).due.length))) ∧ w' = w := by
 obtain ⟨at_, ct, ad, cd, c0, c1, c2, c3, c4, c5, c6, c7, _⟩ := hR.cells hi ho; generalize (R.con i).due.length = n at *; clear ho hR c0 c1 c2 c3 c4 c5 c6; go_enter Tryz.func70, Tryz.ntmps70; go_wp2; go_ret
 simp
theorem jbD {b : Nat} {G : List Nat} (w : World) : Stp b G w G w.drew := .of (Below.refl _ _).drew
theorem qR (w : World) (n : Nat) : Below w.heap.size w (w.drewN n) :=
 ⟨rfl, rfl, rfl, Nat.le_refl _, fun _ _ => rfl⟩
theorem jkx (K : List (List UInt8)) (Cs : List (List Cmd)) (B b : Nat) (G : List Nat) (R : Rom) (w : World) (hR : RoomM K Cs B b G R w) (i o : Nat) (hi : i < 3) (ho : o = 7 + i * 9) (hm : maxLenCell w) (hn : (R.con i).held.length ≤ 1000000000) (hd : (R.con i).due = []) (x y : List UInt8) (hx : Lib.cut (R.con i).held [13, 10] = (x, y, true)) :
 Calls Tryz.prog 42 #[.pointer (some ⟨b, o, none⟩)] w (RmQ K Cs B b G w (R.put i (jbp (R.con i) y)) (.tuple #[.string (S x), .bool true])) := by
 have HW := hid (jeP K Cs B b G R w hR i o hi ho); rw [hd] at HW; obtain ⟨at_, ct, ad, cd, c0, c1, c2, c3, c4, c5, c6, c7, _⟩ := hR.cells hi ho; have HC := hid (qD (S (R.con i).held) ⟨#[13, 10]⟩ [13, 10] x y true rfl (by rw [jj]; exact hx) w (by rw [jd]; omega) hm); have HR := hid hR; have HO := hid ho; clear hR ho hd c0 c1 c2 c3 c4 c5 c7 hm hx; go_enter Tryz.func42, Tryz.ntmps42; go_wp2_with fail; refine HW.out.mono ?_; rintro e w1 ⟨rfl, hw1⟩; have hw1' := hw1.symm; subst hw1'; clear hw1; go_wp2_with fail; refine HC.out.mono ?_; rintro e w2 ⟨rfl, n, hw2⟩; have hb2 : Below w.heap.size w w2 := by rw [hw2]; exact qR _ _
 have hR2 := HR.out.next hb2; have hz := hR2.frz (o + 6); obtain ⟨_, _, _, _, _, _, _, _, _, _, d6, _⟩ := hR2.cells hi HO.out; obtain ⟨k1, k2⟩ := hR2.held hi HO.out y; have HF := hid (show RmQ K Cs B b G w (R.put i (jbp (R.con i) y)) (.tuple #[.string (S x), .bool true]) (.returned (.tuple #[.string (S x), .bool true])) (w2.setCell ⟨b, o + 6, none⟩ (.string (S y))) from ⟨rfl, G, k1, (Stp.of hb2).trans k2⟩); clear k1 k2 hR2 hw2 hb2 c6; go_wp2; go_ret2; exact HF.out
theorem jmq (K : List (List UInt8)) (Cs : List (List Cmd)) (B b : Nat) (G : List Nat) (R : Rom) (w : World) (hR : RoomM K Cs B b G R w) (i o : Nat) (hi : i < 3) (ho : o = 7 + i * 9) (hm : maxLenCell w) (hn : (R.con i).held.length ≤ 1000000000) (x y : List UInt8) (hx : (R.con i).due ≠ [] ∨ Lib.cut (R.con i).held [13, 10] = (x, y, false)) :
 Calls Tryz.prog 42 #[.pointer (some ⟨b, o, none⟩)] w (RmQ K Cs B b G w R (.tuple #[.string ⟨#[]⟩, .bool false])) := by
 have HW := hid (jeP K Cs B b G R w hR i o hi ho); obtain ⟨at_, ct, ad, cd, c0, c1, c2, c3, c4, c5, c6, c7, _⟩ := hR.cells hi ho; have HR := hid hR; have HX := hid hx; have HM := hid hm; obtain ⟨q, hq⟩ : ∃ q, q = decide (0 < (R.con i).due.length) := ⟨_, rfl⟩; rw [← hq] at HW; have HQ := hid hq; clear hR ho c0 c1 c2 c3 c4 c5 c7 hm hx hq; go_enter Tryz.func42, Tryz.ntmps42; go_wp2_with fail; refine HW.out.mono ?_; rintro e w1 ⟨rfl, hw1⟩; have hw1' := hw1.symm; subst hw1'; clear hw1; cases q with
 | true =>
   go_wp2; go_ret2; exact ⟨rfl, G, HR.out, Stp.refl _ _ _⟩
 | false =>
   have hcx : Lib.cut (R.con i).held [13, 10] = (x, y, false) := by
    rcases HX.out with h | h
    · have := HQ.out; have h0 : 0 < (R.con i).due.length := List.length_pos_iff.2 h; rw [decide_eq_true h0] at this; cases this
    · exact h
   have HC := hid (qD (S (R.con i).held) ⟨#[13, 10]⟩ [13, 10] x y false rfl (by rw [jj]; exact hcx) w (by rw [jd]; omega) HM.out); clear hcx; go_wp2_with fail; refine HC.out.mono ?_; rintro e w2 ⟨rfl, n, hw2⟩; have HB2 := hid (show Below w.heap.size w w2 by rw [hw2]; exact qR _ _); clear hw2 c6; go_wp2; go_ret2; exact ⟨rfl, G, HR.out.next HB2.out, .of HB2.out⟩
def qs (s : ByteArray) (n B k : Nat) (wr : World) : Prop :=
 ∃ cur : Array Value, wr.heap[B]? = some (.cells cur 5 (n, n + 1)) ∧ cur.size = n ∧ s.size ≤ n ∧
   (∀ j (h : j < s.size), j < k → cur[j]? = some (.int .u8 (low1 s[j]).toNat)) ∧ (∀ j (h : j < s.size), k ≤ j → cur[j]? = some (.int .u8 s[j].toNat))
theorem jcv (s : ByteArray) (w : World) (cap : Nat) :
 qs s (bytesRow s cap).size w.heap.size 0 (w.drew.alloc (.cells (bytesRow s cap) 5 ((bytesRow s cap).size, (bytesRow s cap).size + 1))) := by
 refine ⟨bytesRow s cap, ?_, rfl, ?_, fun j h hj => by omega, fun j h _ => ?_⟩
 · show (w.heap.push _)[w.heap.size]? = _
   simp
 · simp [bytesRow]
 · unfold bytesRow; have hj : j < (s.data.map (fun b => Value.int .u8 b.toNat)).size := by simpa using h
   rw [Array.getElem?_append_left hj, Array.getElem?_eq_getElem hj]
   simp
   rfl
theorem jdu {s : ByteArray} {n B k : Nat} {wr : World} (h : qs s n B k wr) (hk : k < s.size) : wr.cell? ⟨B, k, none⟩ = some (.int .u8 s[k].toNat) ∧ wr.frozen? ⟨B, k, none⟩ = false := by
 obtain ⟨cur, h1, h2, h3, h4, h5⟩ := h; exact ⟨(cell_of_row _ _ _ _ _ _ h1).trans (h5 k hk (Nat.le_refl _)), jfg h1 (by omega)⟩
theorem jdv {s : ByteArray} {n B k : Nat} {wr : World} (h : qs s n B k wr) (hk : k < s.size) (hl : low1 s[k] = s[k]) : qs s n B (k + 1) wr := by
 obtain ⟨cur, h1, h2, h3, h4, h5⟩ := h; refine ⟨cur, h1, h2, h3, fun j h hj => ?_, fun j h hj => h5 j h (by omega)⟩
 by_cases e : j = k
 · subst e; rw [h5 j h (Nat.le_refl _), hl]
 · exact h4 j h (by omega)
theorem jem {s : ByteArray} {n B k : Nat} {wr : World} (h : qs s n B k wr) (hk : k < s.size) (x : Int) (hl : ((low1 s[k]).toNat : Int) = x) : qs s n B (k + 1) (wr.setCell ⟨B, k, none⟩ (.int .u8 x)) := by
 obtain ⟨cur, h1, h2, h3, h4, h5⟩ := h; refine ⟨_, ji _ h1, by simpa using h2, h3, fun j h hj => ?_, fun j h hj => ?_⟩
 · by_cases e : j = k
   · subst e; rw [Array.getElem?_setIfInBounds_self_of_lt (by omega), hl]
   · rw [Array.getElem?_setIfInBounds_ne (by omega)]; exact h4 j h (by omega)
 · rw [Array.getElem?_setIfInBounds_ne (by omega)]; exact h5 j h (by omega)
theorem jdt {s : ByteArray} {n B cap : Nat} {wr : World} (h : qs s n B s.size wr) :
 (convert 69 9 (.slice (some ⟨B, 0, none⟩) s.size cap)).run Tryz.prog wr = .ok (.string (low s)) wr := by
 obtain ⟨cur, h1, h2, h3, h4, h5⟩ := h; have hlen : (lowL s.data.toList).length = s.size := by rw [lowL, List.length_map]; exact size_list s
 have := run_convert_bytes_back (P := Tryz.prog) wr 69 9 5 ⟨B, 0, none⟩ cap (lowL s.data.toList) Tryz.underlying69 Tryz.underlying5 Tryz.underlying9 (fun j hj => by
  have hj' : j < s.size := by omega
  have e : (⟨B, 0, none⟩ : Addr).add j = ⟨B, j, none⟩ := by simp [Addr.add]; omega
  rw [e, cell_of_row _ _ _ _ _ _ h1, h4 j hj' hj']
  congr 2
  simp only [lowL, List.getElem_map]; rfl)
 rw [hlen] at this; exact this
theorem jaO (s : ByteArray) (w : World) (hs : s.size ≤ 4611686018427387904) :
 Calls Tryz.prog 208 #[.string s] w fun e w' => e = .returned (.string (low s)) ∧ Below w.heap.size w w' := by
 have hconv := run_bytes_of_string (P := Tryz.prog) w 9 69 5 s Tryz.underlying9 Tryz.underlying69 Tryz.underlying5; have hst := jcv s w (grownCap w s.size 0 5); have hbs : Below w.heap.size w (w.drew.alloc (.cells (bytesRow s (grownCap w s.size 0 5)) 5 ((bytesRow s (grownCap w s.size 0 5)).size, (bytesRow s (grownCap w s.size 0 5)).size + 1))) :=
  (Below.refl _ _).drew.alloc (by simp) _
 generalize grownCap w s.size 0 5 = cap at *; generalize bytesRow s cap = C at *; go_enter Tryz.func208, Tryz.ntmps208; go_wp2
 go_loopw [10] (fun i wr => ∃ k : Nat, k ≤ s.size ∧ i = .int .i64 k ∧ qs s C.size w.heap.size k wr ∧ Below w.heap.size w wr) (fun i _ => s.size - (intOf i).toNat)
 case atStart => exact ⟨0, Nat.zero_le _, rfl, hst, hbs⟩
 case round =>
  obtain ⟨k, hk, rfl, hL, hB⟩ := hrel; clear hst hbs hconv
  by_cases hlt : k < s.size
  · obtain ⟨hc, hf⟩ := jdu hL hlt; have hu := s[k].toNat_lt
    by_cases hg : 65 ≤ (s[k].toNat : Int) ∧ (s[k].toNat : Int) ≤ 90
    · have hnext := jem hL hlt ((s[k].toNat : Int) - 65 + 97) (by have := jkr hg; omega); obtain ⟨hg1, hg2⟩ := hg; have hB' := hB.setCell (p := ⟨w.heap.size, k, none⟩) (Nat.le_refl _) (.int .u8 ((s[k].toNat : Int) - 65 + 97)); have HN : Hid _ := hnext; have HB : Hid _ := hB'; clear hnext hB'; go_wp2
      go_roundw
      case rel => exact ⟨k + 1, by omega, by go_num, HN.out, HB.out⟩
      case measure => simp [intOf]; omega
    · have HN : Hid _ := jdv hL hlt (jml hg); go_wp2
      all_goals
       go_roundw
       case rel => exact ⟨k + 1, by omega, by go_num, HN.out, hB⟩
       case measure => simp [intOf]; omega
  · obtain rfl : k = s.size := by omega
    have hback := jdt (cap := cap) hL; go_wp2; go_ret; exact ⟨rfl, hB⟩
theorem jks (s p : ByteArray) (w : World) (hs : s.size ≤ 2000) (hp : p.size ≤ 100) :
 Calls Tryz.prog 177 #[.int .i64 1, .string s, .string p] w fun e w' => e = .returned (.tuple #[.bool ((low s).toList == (low p).toList), .int .i64 0]) ∧ Below w.heap.size w w' := by
 go_enter Tryz.func177, Tryz.ntmps177; go_wp2_with fail; refine (jaO s _ (by omega)).mono ?_; rintro e w1 ⟨rfl, hb1⟩; go_wp2_with fail; refine (jaO p _ (by omega)).mono ?_; rintro e w2 ⟨rfl, hb2⟩; go_wp2; go_ret2; exact ⟨rfl, hb1.trans (hb2.mono hb1.size)⟩
theorem vW (s p : ByteArray) (w : World) :
 Calls Tryz.prog 152 #[.string s, .string p] w fun e w' => e = .returned (.bool (Lib.hasPrefix s.data.toList p.data.toList)) ∧ w' = w := by
 rw [← Lib.hasPrefix_of_take, ← Lib.size_eq, ← Lib.size_eq]; go_enter Tryz.func152, Tryz.ntmps152; go_wp2
 · rename_i h; go_ret; refine ⟨?_, rfl⟩
   show Ending.returned (Value.bool ((s.extract 0 p.size).toList == p.toList)) = _
   rw [Lib.extract_toList, Lib.toList_data]
   simp [h]
 · rename_i h; go_ret; refine ⟨?_, rfl⟩
   show Ending.returned (Value.bool false) = _
   simp [h]
theorem jdw (l : List UInt8) (c : UInt8) : Lib.hasPrefix l [c] = (l.head? == some c) := by
 cases l with
 | nil => rfl
 | cons x t =>
   have e : (x == c) = (c == x) := by
    by_cases h : x = c
    · subst h; rfl
    · have h' : ¬ c = x := fun e => h e.symm
      rw [beq_eq_false_iff_ne.2 h, beq_eq_false_iff_ne.2 h']
   simp [Lib.hasPrefix, List.isPrefixOf, e]
theorem jg7 (s p : ByteArray) (w : World) (_hs : s.size ≤ 9223372036854775807) (h : Lib.hasPrefix s.data.toList p.data.toList = false) :
 Calls Tryz.prog 240 #[.string s, .string p] w fun e w' => e = .returned (.tuple #[.string s, .bool false]) ∧ w' = w := by
 have H : Hid _ := h; clear h; go_enter Tryz.func240, Tryz.ntmps240; go_wp2_with fail; refine (vW s p _).mono ?_; rintro e u ⟨rfl, hu⟩; have hu' := hu.symm; subst hu'; rw [H.out]; go_wp2
 all_goals go_ret2
 all_goals exact ⟨rfl, rfl⟩
theorem jfi (s p : ByteArray) (w : World) (_hs : s.size ≤ 9223372036854775807) (h : Lib.hasPrefix s.data.toList p.data.toList = true) :
 Calls Tryz.prog 240 #[.string s, .string p] w fun e w' => e = .returned (.tuple #[.string (s.extract p.size s.size), .bool true]) ∧ w' = w := by
 have hz : p.size ≤ s.size := by rw [Lib.size_eq, Lib.size_eq]; exact (List.isPrefixOf_iff_prefix.1 h).length_le
 have hz' : (p.size : Int) ≤ (s.size : Int) := by omega
 have H : Hid _ := h; clear h; go_enter Tryz.func240, Tryz.ntmps240; go_wp2_with fail; refine (vW s p _).mono ?_; rintro e u ⟨rfl, hu⟩; have hu' := hu.symm; subst hu'; rw [H.out]; go_wp2
 all_goals go_ret2
 all_goals exact ⟨rfl, rfl⟩
theorem jh5 (s p : ByteArray) (w : World) (_hs : s.size ≤ 9223372036854775807) (h : Lib.hasPrefix s.data.toList p.data.toList = false) :
 Calls Tryz.prog 211 #[.string s, .string p] w fun e w' => e = .returned (.tuple #[.string s, .bool false]) ∧ w' = w := by
 go_enter Tryz.func211, Tryz.ntmps211; go_wp2_with fail; refine (jg7 s p _ _hs h).mono ?_; rintro e u ⟨rfl, hu⟩; have hu' := hu.symm; subst hu'; go_wp2
 all_goals go_ret2
 all_goals exact ⟨rfl, rfl⟩
theorem jgH (s p : ByteArray) (w : World) (_hs : s.size ≤ 9223372036854775807) (h : Lib.hasPrefix s.data.toList p.data.toList = true) :
 Calls Tryz.prog 211 #[.string s, .string p] w fun e w' => e = .returned (.tuple #[.string (s.extract p.size s.size), .bool true]) ∧ w' = w := by
 go_enter Tryz.func211, Tryz.ntmps211; go_wp2_with fail; refine (jfi s p _ _hs h).mono ?_; rintro e u ⟨rfl, hu⟩; have hu' := hu.symm; subst hu'; go_wp2
 all_goals go_ret2
 all_goals exact ⟨rfl, rfl⟩
theorem jcS (s p : ByteArray) (w : World) (hs : s.size ≤ 9223372036854775807) :
 Calls Tryz.prog 260 #[.string s, .string p] w fun e w' => e = .returned (.bool (Lib.hasSuffix s.data.toList p.data.toList)) ∧ w' = w := by
 rw [← Lib.hasSuffix_raw]; have hlo : p.size ≤ s.size → ((s.size : Int) - (p.size : Int) + 9223372036854775808) % 18446744073709551616 - 9223372036854775808 = ((s.size - p.size : Nat) : Int) := fun _ => by omega
 go_enter Tryz.func260, Tryz.ntmps260; go_wp2
 · have h : p.size ≤ s.size := by assumption
   go_ret; refine ⟨?_, rfl⟩
   show Ending.returned (Value.bool ((s.extract (s.size - p.size) s.size).toList == p.toList)) = _
   simp [h]
 · have h : ¬ p.size ≤ s.size := by assumption
   go_ret; refine ⟨?_, rfl⟩
   show Ending.returned (Value.bool false) = _
   simp [h]
theorem jg8 (s p : ByteArray) (w : World) (_hs : s.size ≤ 9223372036854775807) (h : Lib.hasSuffix s.data.toList p.data.toList = false) :
 Calls Tryz.prog 241 #[.string s, .string p] w fun e w' => e = .returned (.tuple #[.string s, .bool false]) ∧ w' = w := by
 have H : Hid _ := h; clear h; go_enter Tryz.func241, Tryz.ntmps241; go_wp2_with fail; refine (jcS s p _ _hs).mono ?_; rintro e u ⟨rfl, hu⟩; have hu' := hu.symm; subst hu'; rw [H.out]; go_wp2
 all_goals go_ret2
 all_goals exact ⟨rfl, rfl⟩
theorem jfj (s p : ByteArray) (w : World) (_hs : s.size ≤ 9223372036854775807) (h : Lib.hasSuffix s.data.toList p.data.toList = true) :
 Calls Tryz.prog 241 #[.string s, .string p] w fun e w' => e = .returned (.tuple #[.string (s.extract 0 (s.size - p.size)), .bool true]) ∧ w' = w := by
 have hz : p.size ≤ s.size := by rw [Lib.size_eq, Lib.size_eq]; exact (List.isSuffixOf_iff_suffix.1 h).length_le
 have hlo : ((s.size : Int) - (p.size : Int) + 9223372036854775808) % 18446744073709551616 - 9223372036854775808 = ((s.size - p.size : Nat) : Int) := by omega
 have hlo2 : IntKind.i64.wrap ((s.size : Int) - (p.size : Int)) = ((s.size - p.size : Nat) : Int) := by simp only [IntKind.wrap_i64]; omega
 have hz' : (p.size : Int) ≤ (s.size : Int) := by omega
 have H : Hid _ := h; clear h; go_enter Tryz.func241, Tryz.ntmps241; go_wp2_with fail; refine (jcS s p _ _hs).mono ?_; rintro e u ⟨rfl, hu⟩; have hu' := hu.symm; subst hu'; rw [H.out]; go_wp2
 all_goals go_ret2
 all_goals exact ⟨rfl, rfl⟩
theorem jh6 (s p : ByteArray) (w : World) (_hs : s.size ≤ 9223372036854775807) (h : Lib.hasSuffix s.data.toList p.data.toList = false) :
 Calls Tryz.prog 212 #[.string s, .string p] w fun e w' => e = .returned (.tuple #[.string s, .bool false]) ∧ w' = w := by
 go_enter Tryz.func212, Tryz.ntmps212; go_wp2_with fail; refine (jg8 s p _ _hs h).mono ?_; rintro e u ⟨rfl, hu⟩; have hu' := hu.symm; subst hu'; go_wp2
 all_goals go_ret2
 all_goals exact ⟨rfl, rfl⟩
theorem jgI (s p : ByteArray) (w : World) (_hs : s.size ≤ 9223372036854775807) (h : Lib.hasSuffix s.data.toList p.data.toList = true) :
 Calls Tryz.prog 212 #[.string s, .string p] w fun e w' => e = .returned (.tuple #[.string (s.extract 0 (s.size - p.size)), .bool true]) ∧ w' = w := by
 go_enter Tryz.func212, Tryz.ntmps212; go_wp2_with fail; refine (jfj s p _ _hs h).mono ?_; rintro e u ⟨rfl, hu⟩; have hu' := hu.symm; subst hu'; go_wp2
 all_goals go_ret2
 all_goals exact ⟨rfl, rfl⟩
theorem jmM (l : List UInt8) (c : UInt8) : Lib.hasSuffix l [c] = (l.getLast? == some c) := by
 have h : Lib.hasSuffix l [c] = Lib.hasPrefix l.reverse [c] := by
  simp [Lib.hasSuffix, Lib.hasPrefix, List.isSuffixOf]
 rw [h, jdw, List.head?_reverse]
theorem jen (s : ByteArray) (w : World) :
 Calls Tryz.prog 176 #[.string s, .string ⟨#[46]⟩] w fun e w' => e = .returned (.string (S (qO s.data.toList))) ∧ w' = w := by
 have hp := jdw s.data.toList 46; cases h : (s.data.toList.head? == some 46) with
 | false =>
   rw [h] at hp; have H : Hid _ := hp; have HU : Hid (S (qO s.data.toList) = s) := by
    unfold Hid; cases hl : s.data.toList with
    | nil => rw [show qO [] = s.data.toList by rw [hl]; rfl]; rfl
    | cons c t =>
      have hc : ¬ c = 46 := by rw [hl] at h; simpa using h
      rw [show qO (c :: t) = s.data.toList by rw [hl]; simp [qO, hc]]; rfl
   clear h hp; go_enter Tryz.func176, Tryz.ntmps176; go_wp2_with fail; refine (vW s _ _).mono ?_; rintro e u ⟨rfl, hu⟩; have hu' := hu.symm; subst hu'; rw [H.out]; go_wp2; go_ret; exact ⟨by rw [HU.out]; rfl, rfl⟩
 | true =>
   rw [h] at hp; have H : Hid _ := hp; have HU : Hid (S (qO s.data.toList) = s.extract 1 s.size ∧ 1 ≤ s.size) := by
    unfold Hid; cases hl : s.data.toList with
    | nil => rw [hl] at h; cases h
    | cons c t =>
      have hc : c = 46 := by rw [hl] at h; simpa using h
      have e : s = S (c :: t) := by rw [← hl]; rfl
      have e2 : qO (c :: t) = (c :: t).drop 1 := by simp [qO, hc]
      constructor
      · rw [e, zO, e2]
      · rw [e, jd]; simp
   have hz : (1 : Int) ≤ (s.size : Int) := by have := HU.out.2; omega
   clear h hp; go_enter Tryz.func176, Tryz.ntmps176; go_wp2_with fail; refine (vW s _ _).mono ?_; rintro e u ⟨rfl, hu⟩; have hu' := hu.symm; subst hu'; rw [H.out]; go_wp2; go_ret; exact ⟨by rw [HU.out.1]; rfl, rfl⟩
theorem jfP (s : ByteArray) (w : World) :
 Calls Tryz.prog 139 #[.string s, .string ⟨#[46]⟩] w fun e w' => e = .returned (.string (S (qO s.data.toList))) ∧ w' = w := by
 go_enter Tryz.func139, Tryz.ntmps139; go_wp2_with fail; refine (jen s _).mono ?_; rintro e u ⟨rfl, hu⟩; have hu' := hu.symm; subst hu'; go_wp2; go_ret; exact ⟨rfl, rfl⟩
def jkc (s : ByteArray) : Value := if s.size ≤ 2000 then .tuple #[.string (low s), .int .i64 0] else .tuple #[.string .empty, .int .i64 1]
theorem jkd (s : ByteArray) (w : World) :
 Calls Tryz.prog 180 #[.string s] w fun e w' => e = .returned (jkc s) ∧ Below w.heap.size w w' := by
 by_cases h : s.size ≤ 2000
 · go_enter Tryz.func180, Tryz.ntmps180
   go_wp2_with (go_at_call 208; refine (jaO _ _ (by omega)).mono ?_; rintro e w1 ⟨rfl, hb⟩)
   go_ret2; exact ⟨by rw [jkc, if_pos h]; rfl, hb⟩
 · go_enter Tryz.func180, Tryz.ntmps180
   go_wp2_with (go_at_call 208; refine (jaO _ _ (by omega)).mono ?_; rintro e w1 ⟨rfl, hb⟩)
   go_ret2; exact ⟨by rw [jkc, if_neg h]; rfl, Below.refl _ _⟩
def SB (w : World) (b : Nat) (s : Ses) (v lv : Value) : Prop := w.heap[b]? = some (.cells #[.int .i64 s.step, .string (S s.frm.1), .string (S s.frm.2), v, .string (S s.text), .bool s.large, lv] 179)
def SesW (w : World) (b B : Nat) (s : Ses) (lv : Value) : Prop := ∃ v, SB w b s v lv ∧ OwnL w B v s.to
theorem j5 {w : World} {p j : Nat} {cs : Array Value} {u : Value} {t : TypeId} (h : w.heap[p]? = some (.cells cs t)) : (w.setCell ⟨p, j, none⟩ u).heap[p]? = some (.cells (cs.setIfInBounds j u) t) := heap_setCell_same w p j cs t u h
theorem zx {w : World} {p : Nat} {v0 v1 v2 v3 v4 v5 v6 : Value} {t : TypeId} (h : w.heap[p]? = some (.cells #[v0, v1, v2, v3, v4, v5, v6] t)) :
 (w.cell? ⟨p, 0, none⟩ = some v0 ∧ w.cell? ⟨p, 1, none⟩ = some v1 ∧ w.cell? ⟨p, 2, none⟩ = some v2 ∧ w.cell? ⟨p, 3, none⟩ = some v3 ∧ w.cell? ⟨p, 4, none⟩ = some v4 ∧ w.cell? ⟨p, 5, none⟩ = some v5 ∧ w.cell? ⟨p, 6, none⟩ = some v6) ∧ ∀ j, w.frozen? ⟨p, j, none⟩ = false := by
 simp [World.cell?, World.frozen?, h]
theorem jm8 {w w' : World} {p n : Nat} {o : Obj} (hb : Below n w w') (h : w.heap[p]? = some o) (hn : p < n) : w'.heap[p]? = some o := (hb.block p hn).trans h
theorem jR {w w' : World} {p : Nat} {o : Obj} (hb : Below w.heap.size w w') (h : w.heap[p]? = some o) : w'.heap[p]? = some o := (hb.block p (Array.getElem?_eq_some_iff.1 h).1).trans h
theorem jQ {w w' : World} {B : Nat} {v : Value} {l : List Adr} (h : OwnL w B v l) (hb : Below w.heap.size w w') : OwnL w' B v l := by
 unfold OwnL at *; refine ⟨h.1, ?_⟩
 rcases h.2 with h' | ⟨g, cap, cur, hv, hB, hg, hr⟩
 · exact .inl h'
 · exact .inr ⟨g, cap, cur, hv, hB, (hb.block g (Array.getElem?_eq_some_iff.1 hg).1).trans hg, hr⟩
theorem zD {w : World} {B b j : Nat} {v u : Value} {l : List Adr} {cs : Array Value} (h : OwnL w B v l) (hb : w.heap[b]? = some (.cells cs 179)) : OwnL (w.setCell ⟨b, j, none⟩ u) B v l := by
 unfold OwnL at *; refine ⟨h.1, ?_⟩
 rcases h.2 with h' | ⟨g, cap, cur, hv, hB, hg, hr⟩
 · exact .inl h'
 · refine .inr ⟨g, cap, cur, hv, hB, ?_, hr⟩; have hne : g ≠ b := fun e => by rw [e, hb] at hg; simp at hg
   exact (Below.heap_setCell _ _ _ _ hne).trans hg
def ObP (n b B : Nat) (w : World) (r : Ses × Int) (lv : Value) (e : Ending) (w' : World) : Prop := e = .returned (.int .i64 r.2) ∧ SesW w' b B r.1 lv ∧ Below n w w'
def DoP' (n b B : Nat) (w : World) (r : Ses) (lv : Value) (e : Ending) (w' : World) : Prop := e = .returned (.tuple #[]) ∧ SesW w' b B r lv ∧ Below n w w'
theorem six7 {W : World} {p : Nat} {u0 u1 u2 u3 u4 u5 u6 v0 v1 v2 v3 v4 v5 : Value} {t : TypeId} (h : W.heap[p]? = some (.cells #[u0, u1, u2, u3, u4, u5, u6] t)) : ((((((W.setCell ⟨p, 0, none⟩ v0).setCell ⟨p, 1, none⟩ v1).setCell ⟨p, 2, none⟩ v2).setCell ⟨p, 3, none⟩ v3).setCell ⟨p, 4, none⟩ v4).setCell ⟨p, 5, none⟩ v5).heap[p]? = some (.cells #[v0, v1, v2, v3, v4, v5, u6] t) := by
 have := j5 (j := 5) (u := v5) (j5 (j := 4) (u := v4) (j5 (j := 3) (u := v3) (j5 (j := 2) (u := v2) (j5 (j := 1) (u := v1) (j5 (j := 0) (u := v0) h))))); simp only [List.setIfInBounds_toArray, List.set_cons_succ, List.set_cons_zero] at this; exact this
theorem low7 {B p : Nat} (W : World) (v0 v1 v2 v3 v4 v5 : Value) (hp : B ≤ p) : Below B W ((((((W.setCell ⟨p, 0, none⟩ v0).setCell ⟨p, 1, none⟩ v1).setCell ⟨p, 2, none⟩ v2).setCell ⟨p, 3, none⟩ v3).setCell ⟨p, 4, none⟩ v4).setCell ⟨p, 5, none⟩ v5) := by
 have h0 := (Below.refl B W).setCell (p := ⟨p, 0, none⟩) hp v0; have h1 := h0.setCell (p := ⟨p, 1, none⟩) hp v1; have h2 := h1.setCell (p := ⟨p, 2, none⟩) hp v2; have h3 := h2.setCell (p := ⟨p, 3, none⟩) hp v3; have h4 := h3.setCell (p := ⟨p, 4, none⟩) hp v4; exact h4.setCell (p := ⟨p, 5, none⟩) hp v5
def jfC (w : World) (b : Nat) (k : Int) : World := (((((w.setCell ⟨b, 0, none⟩ (.int .i64 k)).setCell ⟨b, 1, none⟩ (.string ⟨#[]⟩)).setCell ⟨b, 2, none⟩ (.string ⟨#[]⟩)).setCell ⟨b, 3, none⟩ (.slice none 0 0)).setCell ⟨b, 4, none⟩ (.string ⟨#[]⟩)).setCell ⟨b, 5, none⟩ (.bool false)
theorem jeD {w : World} {b : Nat} {s : Ses} {v lv : Value} (h : SB w b s v lv) (k : Int) : SB (jfC w b k) b (atS k) (.slice none 0 0) lv := six7 h
theorem jeE {n b : Nat} (w : World) (hn : n ≤ b) (k : Int) : Below n w (jfC w b k) := low7 _ _ _ _ _ _ _ hn
theorem jhD {w : World} {b g : Nat} (k : Int) (hg : g ≠ b) : (jfC w b k).heap[g]? = w.heap[g]? := by
 unfold jfC; rw [Below.heap_setCell _ _ _ _ hg, Below.heap_setCell _ _ _ _ hg, Below.heap_setCell _ _ _ _ hg, Below.heap_setCell _ _ _ _ hg, Below.heap_setCell _ _ _ _ hg, Below.heap_setCell _ _ _ _ hg]
theorem jcK (b : Nat) (k : Int) (s : Ses) (v lv : Value) (w : World) (h : SB w b s v lv) :
 Calls Tryz.prog 175 #[.pointer (some ⟨b, 0, none⟩), .int .i64 k] w fun e w' => e = .returned (.tuple #[]) ∧ w' = jfC w b k := by
 obtain ⟨⟨x0, x1, x2, x3, x4, x5, x6⟩, hfz⟩ := zx h; have f0 := hfz 0; have f1 := hfz 1; have f2 := hfz 2; have f3 := hfz 3; have f4 := hfz 4; have f5 := hfz 5; clear hfz h; go_enter Tryz.func175, Tryz.ntmps175; go_wp2; go_end0; exact ⟨rfl, rfl⟩
theorem jaU (n b B : Nat) (k : Int) (s : Ses) (v lv : Value) (w : World) (h : SB w b s v lv) (hn : n ≤ b) :
 Calls Tryz.prog 175 #[.pointer (some ⟨b, 0, none⟩), .int .i64 k] w (DoP' n b B w (atS k) lv) := by
 refine (jcK b k s v lv w h).mono ?_; rintro e u ⟨rfl, rfl⟩; exact ⟨rfl, ⟨_, jeD h k, OwnL.nil _ _⟩, jeE _ hn k⟩
theorem jgv (a l : ByteArray) (w : World) (ha : a.size ≤ 100) (hl : a.size ≤ l.size) :
 Calls Tryz.prog 140 #[.string a, .string l] w fun e w' => e = .returned (.tuple #[.string (l.extract a.size l.size), .bool ((low (l.extract 0 a.size)).toList == (low a).toList)]) ∧ Below w.heap.size w w' := by
 have h1 : ¬ (l.size : Int) < (a.size : Int) := by omega
 have h2 : (a.size : Int) ≤ (l.size : Int) := by omega
 have hz : (l.extract 0 a.size).size ≤ 2000 := by rw [ByteArray.size_extract]; omega
 have HM := hid (jks (l.extract 0 a.size) a w hz ha); obtain ⟨q, hq⟩ : ∃ q, q = ((low (l.extract 0 a.size)).toList == (low a).toList) := ⟨_, rfl⟩; rw [← hq] at HM ⊢; clear hq hz; go_enter Tryz.func140, Tryz.ntmps140; go_wp2_with fail; refine HM.out.mono ?_; rintro e u ⟨rfl, hb⟩; go_wp2; go_ret2; exact ⟨rfl, hb⟩
theorem jd1 (a l : ByteArray) (w : World) (hl : l.size < a.size) :
 Calls Tryz.prog 140 #[.string a, .string l] w fun e w' => e = .returned (.tuple #[.string ⟨#[]⟩, .bool false]) ∧ Below w.heap.size w w' := by
 have h1 : (l.size : Int) < (a.size : Int) := by omega
 go_enter Tryz.func140, Tryz.ntmps140; go_wp2; go_ret2; exact ⟨rfl, Below.refl _ _⟩
def BhP (w : World) (o : Option (List UInt8)) (e : Ending) (w' : World) : Prop :=
 match o with
 | some r => e = .returned (.tuple #[.string (S r), .bool true]) ∧ Below w.heap.size w w'
 | none => (∃ t, e = .returned (.tuple #[.string t, .bool false])) ∧ Below w.heap.size w w'
theorem jaV (wd line : List UInt8) (w : World) (hw : wd.length ≤ 100) (hl : lowL wd = wd) :
 Calls Tryz.prog 140 #[.string (S wd), .string (S line)] w (BhP w (zw wd line)) := by
 by_cases h : line.length < wd.length
 · refine (jd1 (S wd) (S line) w (by rw [jd, jd]; exact h)).mono ?_; rintro e u ⟨rfl, hb⟩; have : zw wd line = none := by
    unfold zw; rw [if_neg]; intro e; have e2 := congrArg List.length e; rw [lowL, List.length_map, List.length_take] at e2; omega
   rw [this]; exact ⟨⟨_, rfl⟩, hb⟩
 · refine (jgv (S wd) (S line) w (by rw [jd]; exact hw) (by rw [jd, jd]; omega)).mono ?_; rintro e u ⟨rfl, hb⟩; rw [zO, jd, jcH]; have hq : ((low (S (line.take wd.length))).toList == (low (S wd)).toList) = decide (lowL (line.take wd.length) = wd) := by
    rw [Lib.toList_data, Lib.toList_data, jf9, jf9, jj, jj, hl]
    by_cases e : lowL (line.take wd.length) = wd
    · rw [e]; simp
    · simp [e]
   rw [hq]; unfold zw
   by_cases e : lowL (line.take wd.length) = wd
   · rw [if_pos e]; exact ⟨by simp [e], hb⟩
   · rw [if_neg e]; exact ⟨⟨S (line.drop wd.length), by simp [e]⟩, hb⟩
theorem jgt (t : List UInt8) : jcI (60 :: t) = (t.getLast? == some 62) := by
 unfold jcI; cases t with
 | nil => simp
 | cons x t =>
   have e : (60 :: x :: t).getLast? = (x :: t).getLast? := List.getLast?_cons_cons; rw [e]; simp
theorem jhU {t : List UInt8} (h : (t.head? == some 60) = false) : jcI t = false := by
 unfold jcI; rw [h]; simp
def jiH : Option Adr → Value
 | none => .tuple #[.agg #[.string ⟨#[]⟩, .string ⟨#[]⟩], .bool false]
 | some a => .tuple #[.agg #[.string (S a.1), .string (S a.2)], .bool true]
def CuP (w : World) (t : List UInt8) (q : Bool) (e : Ending) (w' : World) : Prop := e = .returned (.tuple #[.string (S t), .bool q]) ∧ w' = w
theorem jl3 (t : List UInt8) (c : UInt8) (w : World) (ht : t.length ≤ 2000) :
 Calls Tryz.prog 211 #[.string (S t), .string ⟨#[c]⟩] w (CuP w (if (t.head? == some c) = true then t.drop 1 else t) (t.head? == some c)) := by
 have hp := jdw t c; cases h : (t.head? == some c) with
 | true =>
   rw [h] at hp; refine (jgH (S t) ⟨#[c]⟩ w (by rw [jd]; omega) (by rw [jj]; exact hp)).mono ?_; rintro e u ⟨rfl, rfl⟩; exact ⟨by rw [show (⟨#[c]⟩ : ByteArray).size = 1 from rfl, zO]; rfl, rfl⟩
 | false =>
   rw [h] at hp; refine (jh5 (S t) ⟨#[c]⟩ w (by rw [jd]; omega) (by rw [jj]; exact hp)).mono ?_; rintro e u ⟨rfl, rfl⟩; exact ⟨rfl, rfl⟩
theorem jl4 (t : List UInt8) (c : UInt8) (w : World) (ht : t.length ≤ 2000) :
 Calls Tryz.prog 212 #[.string (S t), .string ⟨#[c]⟩] w (CuP w (if (t.getLast? == some c) = true then t.dropLast else t) (t.getLast? == some c)) := by
 have hp := jmM t c; cases h : (t.getLast? == some c) with
 | true =>
   rw [h] at hp; refine (jgI (S t) ⟨#[c]⟩ w (by rw [jd]; omega) (by rw [jj]; exact hp)).mono ?_; rintro e u ⟨rfl, rfl⟩; exact ⟨by rw [show (⟨#[c]⟩ : ByteArray).size = 1 from rfl, jcH, jd, List.dropLast_eq_take]; rfl, rfl⟩
 | false =>
   rw [h] at hp; refine (jh6 (S t) ⟨#[c]⟩ w (by rw [jd]; omega) (by rw [jj]; exact hp)).mono ?_; rintro e u ⟨rfl, rfl⟩; exact ⟨rfl, rfl⟩
theorem jl6 (t : List UInt8) (c : UInt8) : (Lib.cut t [c]).1.length ≤ t.length ∧ (Lib.cut t [c]).2.1.length ≤ t.length := by
 by_cases h : c ∈ t
 · obtain ⟨a, b, rfl, ha⟩ := jfI h; rw [jh8 ha]
   simp
   omega
 · rw [jfc h]
   simp
theorem jhc {w u : World} {v0 v1 x0 x1 : Value} {t : TypeId} {n : Nat} (hb : Below (((w.alloc (.cells #[v0, v1] t)).drewN n).alloc (.cells #[x0, x1] t)).heap.size (((w.alloc (.cells #[v0, v1] t)).drewN n).alloc (.cells #[x0, x1] t)) u) :
 u.heap[w.heap.size]? = some (.cells #[v0, v1] t) ∧ u.heap[w.heap.size + 1]? = some (.cells #[x0, x1] t) := by
 have e : ((w.alloc (.cells #[v0, v1] t)).drewN n).heap.size = w.heap.size + 1 := by simp
 constructor
 · refine (hb.block _ ?_).trans ?_
   · simp
     omega
   · exact jby _ (show ((w.alloc (.cells #[v0, v1] t)).drewN n).heap[w.heap.size]? = _ from heap_alloc_new w _)
 · refine (hb.block _ ?_).trans ?_
   · simp
   · exact jdq _ e.symm
theorem jcW {w : World} {p : Nat} {cs : Array Value} {t : TypeId} (h : w.heap[p]? = some (.cells cs t)) (j : Nat) : w.frozen? ⟨p, j, none⟩ = false := by simp [World.frozen?, h]
theorem jaq (t : List UInt8) (w : World) (ht : t.length ≤ 2000) :
 Calls Tryz.prog 178 #[.string (S t)] w fun e w' => e = .returned (jiH (jaT t)) ∧ Below w.heap.size w w' := by
 obtain ⟨T1, hT1⟩ : ∃ T1, T1 = if (t.head? == some 60) = true then t.drop 1 else t := ⟨_, rfl⟩
 obtain ⟨T2, hT2⟩ : ∃ T2, T2 = if (T1.getLast? == some 62) = true then T1.dropLast else T1 := ⟨_, rfl⟩
 have hl1 : T1.length ≤ 2000 := by rw [hT1]; split <;> (try rw [List.length_drop]) <;> omega
 have hl2 : T2.length ≤ 2000 := by rw [hT2]; split <;> (try rw [List.length_dropLast]) <;> omega
 have HC1 := hid (fun u => jl3 t 60 u ht); have HC2 := hid (fun u => jl4 T1 62 u hl1); have HC3 := hid (fun u => cut1_any (S T2) 64 u (by rw [jd]; omega)); rw [jj] at HC3; rw [← hT1] at HC1; rw [← hT2] at HC2; obtain ⟨L, hL⟩ : ∃ L, L = (Lib.cut T2 [64]).1 := ⟨_, rfl⟩; obtain ⟨D, hD⟩ : ∃ D, D = (Lib.cut T2 [64]).2.1 := ⟨_, rfl⟩; obtain ⟨q3, hq3⟩ : ∃ q3, q3 = (Lib.cut T2 [64]).2.2 := ⟨_, rfl⟩; have hcl := jl6 T2 64; rw [← hL, ← hD] at hcl; have HK := hid (fun u => zR (S L) (S D) u (by rw [jd]; omega) (by rw [jd]; omega)); rw [jj, jj] at HK; have HZ3 := hid (jai L D); obtain ⟨q1, hq1⟩ : ∃ q1, q1 = (t.head? == some 60) := ⟨_, rfl⟩; obtain ⟨q2, hq2⟩ : ∃ q2, q2 = (T1.getLast? == some 62) := ⟨_, rfl⟩; have HR := hid (show jaT t = if (q1 && q2 && q3 && qr (L, D)) = true then some (L, D) else none by
  cases q1 with
  | false =>
    unfold jaT; rw [jhU hq1.symm]
    simp
  | true =>
    obtain ⟨t', rfl⟩ : ∃ t', t = 60 :: t' := by
        cases t with
        | nil => cases hq1
        | cons x t' => exact ⟨t', by simp at hq1; rw [hq1]⟩
    have e1 : T1 = t' := by rw [hT1]; simp
    have ea : jcI (60 :: t') = q2 := by rw [jgt, hq2, e1]
    unfold jaT; rw [ea]; cases q2 with
    | false => simp
    | true =>
      have e2 : jcT (60 :: t') = T2 := by rw [hT2, if_pos hq2.symm, e1]; rfl
      rw [e2, ← hL, ← hD, ← hq3]
      simp)
 rw [← hq1] at HC1; rw [← hq2] at HC2; rw [← hL, ← hD, ← hq3] at HC3; have HAD := hid (show qr (L, D) = decide (jS L D = 0) from rfl); obtain ⟨z, hz⟩ : ∃ z, z = jS L D := ⟨_, rfl⟩; rw [← hz] at HAD HZ3 HK; obtain ⟨A, hA⟩ : ∃ A, A = jaT t := ⟨_, rfl⟩; rw [← hA] at HR ⊢; have HB1 := hid (show Below w.heap.size w (w.alloc (.cells #[.string ⟨#[]⟩, .string ⟨#[]⟩] 76)) from nb0 _ _); have HB2 := hid (fun n o => show Below w.heap.size w (((w.alloc (.cells #[.string ⟨#[]⟩, .string ⟨#[]⟩] 76)).drewN n).alloc o) from (qa HB1.out n).alloc (by simp) o); have HB3 := hid (fun n o => show Below w.heap.size w (((((w.alloc (.cells #[.string ⟨#[]⟩, .string ⟨#[]⟩] 76)).drewN n).setCell ⟨w.heap.size, 0, none⟩ (.string ⟨#[]⟩)).setCell ⟨w.heap.size, 1, none⟩ (.string ⟨#[]⟩)).alloc o) from (((qa HB1.out n).setCell (p := ⟨w.heap.size, 0, none⟩) (Nat.le_refl _) _).setCell (p := ⟨w.heap.size, 1, none⟩) (Nat.le_refl _) _).alloc (by simp [World.setCell]) o); clear hT1 hT2 hl1 hl2 hL hD hq1 hq2 hq3 hcl hz hA ht; go_enter Tryz.func178, Tryz.ntmps178; go_wp2_with fail; refine (HC1.out _).mono ?_; rintro e u ⟨rfl, hu⟩; have hu' := hu.symm; subst hu'; clear hu; go_wp2_with fail; refine (HC2.out _).mono ?_; rintro e u ⟨rfl, hu⟩; have hu' := hu.symm; subst hu'; clear hu; go_wp2_with fail; refine (HC3.out _).mono ?_; rintro e u ⟨rfl, n, hu⟩; have hu' := hu.symm; subst hu'; clear hu; cases q1 with
 | false =>
   have HE := hid (show A = none by rw [HR.out]; simp); go_wp2; refine bodyPost_ret (v := .tuple #[.agg #[.string ⟨#[]⟩, .string ⟨#[]⟩], .bool false]) (by simp [results, Tryz.results178, go_sem, *]) rfl ?_; exact ⟨by rw [HE.out]; rfl, HB3.out n _⟩
 | true =>
   cases q2 with
   | false =>
     have HE := hid (show A = none by rw [HR.out]; simp); go_wp2; refine bodyPost_ret (v := .tuple #[.agg #[.string ⟨#[]⟩, .string ⟨#[]⟩], .bool false]) (by simp [results, Tryz.results178, go_sem, *]) rfl ?_; exact ⟨by rw [HE.out]; rfl, HB3.out n _⟩
   | true =>
     cases q3 with
     | false =>
       have HE := hid (show A = none by rw [HR.out]; simp); go_wp2; refine bodyPost_ret (v := .tuple #[.agg #[.string ⟨#[]⟩, .string ⟨#[]⟩], .bool false]) (by simp [results, Tryz.results178, go_sem, *]) rfl ?_; exact ⟨by rw [HE.out]; rfl, HB3.out n _⟩
     | true =>
       go_wp2_with fail; refine (HK.out _).mono ?_; rintro e u ⟨rfl, hb⟩; obtain ⟨hX0, hX1⟩ := jhc hb; obtain ⟨m0, m1⟩ := qB hX0; obtain ⟨m2, m3⟩ := qB hX1; have g0 := jcW hX0 0; have g1 := jcW hX0 1; have HB5 := hid (jfQ (HB2.out n _) hb (Nat.le_refl _)); have HB6 := hid (fun a b => (HB5.out.setCell (p := ⟨w.heap.size, 0, none⟩) (Nat.le_refl _) a).setCell (p := ⟨w.heap.size, 1, none⟩) (Nat.le_refl _) b); have hX2 := j5 (j := 1) (u := .string (S D)) (j5 (j := 0) (u := .string (S L)) hX0); have hX3 := j5 (j := 1) (u := .string ⟨#[]⟩) (j5 (j := 0) (u := .string ⟨#[]⟩) hX0); simp only [List.setIfInBounds_toArray, List.set_cons_succ, List.set_cons_zero] at hX2 hX3; obtain ⟨m4, m5⟩ := qB hX2; obtain ⟨m6, m7⟩ := qB hX3; clear hb hX0 hX1 hX2 hX3
       rcases HZ3.out with rfl | rfl | rfl
       · have HE := hid (show A = some (L, D) by rw [HR.out, HAD.out]; rfl); go_wp2; refine bodyPost_ret (v := .tuple #[.agg #[.string (S L), .string (S D)], .bool true]) (by simp [results, Tryz.results178, go_sem, *]; exact ⟨rfl, rfl⟩) rfl ?_; exact ⟨by rw [HE.out]; rfl, HB6.out _ _⟩
       · have HE := hid (show A = none by rw [HR.out, HAD.out]; rfl); go_wp2; refine bodyPost_ret (v := .tuple #[.agg #[.string ⟨#[]⟩, .string ⟨#[]⟩], .bool false]) (by simp [results, Tryz.results178, go_sem, *]) rfl ?_; exact ⟨by rw [HE.out]; rfl, HB6.out _ _⟩
       · have HE := hid (show A = none by rw [HR.out, HAD.out]; rfl); go_wp2; refine bodyPost_ret (v := .tuple #[.agg #[.string ⟨#[]⟩, .string ⟨#[]⟩], .bool false]) (by simp [results, Tryz.results178, go_sem, *]) rfl ?_; exact ⟨by rw [HE.out]; rfl, HB6.out _ _⟩
end Go.Proofs.YtmgdnhjemhhleaaGreatDoor
