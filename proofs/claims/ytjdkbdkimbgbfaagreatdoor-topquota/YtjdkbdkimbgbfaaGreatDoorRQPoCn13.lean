/-
  What the methods of a connection do, the room being in memory: the walks.
-/
import Derived.Test.YtjdkbdkimbgbfaaGreatDoorRQPoAk6
import Derived.Test.YtjdkbdkimbgbfaaGreatDoorRows
import Derived.Laws.Strings3
set_option maxHeartbeats 4000000
set_option maxRecDepth 100000
namespace Go.Proofs.YtjdkbdkimbgbfaaGreatDoor
open Go.RowKit Go.Proofs
variable {cs : Array Value} {s : ByteArray} {c : Con} {f : F} {Cs : List (List Cmd)} {K : List (List UInt8)} {l : List Adr} {fs : List F} {G : List Nat} {xs : List Value} {B b base cap g i j k n o p size : Nat} {Q : Nat -> Prop} {a : Option Addr} {R : Rom} {e t : TypeId} {lv u v v0 v1 v2 v3 v4 v5 : Value} {W w w' wr : World}
theorem RmB.put {cs : List Value} (h : RmB w b cs) (j : Nat) (v : Value) : RmB (w.setCell ⟨b, j, none⟩ v) b (cs.set j v) := by
 refine ⟨?_, by simpa using h.2⟩; have := aM w b j _ _ v h.1; rw [this]
 simp
theorem RmB.frz {cs : List Value} (h : RmB w b cs) (j : Nat) : w.frozen? ⟨b, j, none⟩ = false := by simp [World.frozen?, h.1]
theorem RmB.ty {cs cs' : List Value} (h : RmB w b cs) (e : cs = cs') : RmB w b cs' := e ▸ h
theorem jd2 (R : Rom) (X : Vals) (hi : i < 3) (hk : k < 9) : (vW R X)[7 + i * 9 + k]? = (conC (R.con i) (X.con i))[k]? := by
 match i, hi with
 | 0, _ | 1, _ | 2, _ =>
   match k, hk with
   | 0, _ | 1, _ | 2, _ | 3, _ | 4, _ | 5, _ | 6, _ | 7, _ | 8, _ => rfl
theorem jlO (R : Rom) (X : Vals) (hi : i < 3) (v : Value) (l : List Int) : (vW R X).set (7 + i * 9 + 8) v = vW (R.put i ⟨(R.con i).ses, (R.con i).held, (R.con i).due, l⟩) (X.put i ⟨(X.con i).t, (X.con i).d, v⟩) := by
 match i, hi with
 | 0, _ | 1, _ | 2, _ => rfl
theorem jnV (R : Rom) (X : Vals) (hi : i < 3) (v : Value) (l : List Int) : (vW R X).set (7 + i * 9 + 7) v = vW (R.put i (dueC (R.con i) l)) (X.put i ⟨(X.con i).t, v, (X.con i).l⟩) := by
 match i, hi with
 | 0, _ | 1, _ | 2, _ => rfl
theorem jlN (R : Rom) (X : Vals) (hi : i < 3) (h : List UInt8) : (vW R X).set (7 + i * 9 + 6) (.string (S h)) = vW (R.put i (ja7 (R.con i) h)) (X.put i (X.con i)) := by
 match i, hi with
 | 0, _ | 1, _ | 2, _ => rfl
theorem jau (R : Rom) (X : Vals) (hi : i < 3) : ∃ A Z, j2 R X = A ++ intR 3 (X.con i).l (R.con i).told :: Z /\ ∀ c x, j2 (R.put i c) (X.put i x) = A ++ intR 3 x.l c.told :: Z := by
 match i, hi with
 | 0, _ => exact ⟨[], _, rfl, fun _ _ => rfl⟩
 | 1, _ => exact ⟨[_], _, rfl, fun _ _ => rfl⟩
 | 2, _ => exact ⟨[_, _], _, rfl, fun _ _ => rfl⟩
theorem RoM.con {X : Vals} (h : RoM Q w K Cs R X) (hi : i < 3) : ConM Q w (R.con i) (X.con i) := by
 match i, hi with
 | 0, _ => exact h.k0
 | 1, _ => exact h.k1
 | 2, _ => exact h.k2
theorem RoM.put {X : Vals} (h : RoM Q w K Cs R X) (hi : i < 3) {x : Cv} (hc : ConM Q w c x) : RoM Q w K Cs (R.put i c) (X.put i x) := by
 match i, hi with
 | 0, _ => exact ⟨hc, h.k1, h.k2, h.lo, h.sc, h.sf, h.sv, h.os, h.td⟩
 | 1, _ => exact ⟨h.k0, hc, h.k2, h.lo, h.sc, h.sf, h.sv, h.os, h.td⟩
 | 2, _ => exact ⟨h.k0, h.k1, hc, h.lo, h.sc, h.sf, h.sv, h.os, h.td⟩
theorem je5 {X : Vals} (h : RmB w b (vW R X)) (hi : i < 3) (ho : o = 7 + i * 9) : w.cell? ⟨b, o, none⟩ = some (.int .i64 (R.con i).ses.step) /\ w.cell? ⟨b, o + 1, none⟩ = some (.string (S (R.con i).ses.frm.1)) /\ w.cell? ⟨b, o + 2, none⟩ = some (.string (S (R.con i).ses.frm.2)) /\ w.cell? ⟨b, o + 3, none⟩ = some (X.con i).t /\
 w.cell? ⟨b, o + 4, none⟩ = some (.string (S (R.con i).ses.text)) /\ w.cell? ⟨b, o + 5, none⟩ = some (.bool (R.con i).ses.large) /\ w.cell? ⟨b, o + 6, none⟩ = some (.string (S (R.con i).held)) /\ w.cell? ⟨b, o + 7, none⟩ = some (X.con i).d /\ w.cell? ⟨b, o + 8, none⟩ = some (X.con i).l := by
 subst ho; have hc : ∀ k, k < 9 -> ∀ v, (conC (R.con i) (X.con i))[k]? = some v -> w.cell? ⟨b, 7 + i * 9 + k, none⟩ = some v := fun k hk v hv => h.cell (by rw [jd2 R X hi hk]; exact hv)
 exact ⟨hc 0 (by omega) _ rfl, hc 1 (by omega) _ rfl, hc 2 (by omega) _ rfl, hc 3 (by omega) _ rfl, hc 4 (by omega) _ rfl, hc 5 (by omega) _ rfl, hc 6 (by omega) _ rfl, hc 7 (by omega) _ rfl, hc 8 (by omega) _ rfl⟩
theorem jpj {cs : List Value} (h : RmB w b cs) (o : Nat) : w.frozen? ⟨b, o, none⟩ = false /\ w.frozen? ⟨b, o + 1, none⟩ = false /\ w.frozen? ⟨b, o + 2, none⟩ = false /\ w.frozen? ⟨b, o + 3, none⟩ = false /\ w.frozen? ⟨b, o + 4, none⟩ = false /\ w.frozen? ⟨b, o + 5, none⟩ = false /\ w.frozen? ⟨b, o + 6, none⟩ = false /\ w.frozen? ⟨b, o + 7, none⟩ = false /\ w.frozen? ⟨b, o + 8, none⟩ = false :=
 ⟨h.frz _, h.frz _, h.frz _, h.frz _, h.frz _, h.frz _, h.frz _, h.frz _, h.frz _⟩
def RmQ (K : List (List UInt8)) (Cs : List (List Cmd)) (B b : Nat) (G : List Nat) (w : World) (R : Rom) (r : Value) (e : Ending) (w' : World) : Prop :=
 e = .returned r /\ ∃ G', RoomM K Cs B b G' R w' /\ Stp b G w G' w'
theorem joG : (Tryz.prog.info? 3).map (fun i => (i.zero, i.size, i.bytes)) = some (some (.int .i64 0), 1, 8) := by kernel_rfl
theorem vy (h : w.ownsRow B e k v n xs) : ∃ a c, v = .slice a n c /\ n <= c := by
 rcases h.2 with ⟨h1, h0⟩ | ⟨g, cap, _, h, _, _, hc, _⟩
 . exact ⟨none, 0, by rw [h1, h0], bJ h0⟩
 . exact ⟨_, _, h, hc⟩
theorem jfZ (K : List (List UInt8)) (Cs : List (List Cmd)) (B b : Nat) (G : List Nat) (R : Rom) (w : World) (hR : RoomM K Cs B b G R w) (i o : Nat) (hi : i < 3) (ho : o = 7 + i * 9) (ad : Addr) (c : Nat) (l : List Int) (hl : 0 < l.length) (hn : (R.con i).told.length + l.length <= 1000000000) (hc : ∀ j u, (l.map fun k => Value.int .i64 k)[j]? = some u -> w.cell? (ad.add j) = some u) :
 Calls Tryz.prog 57 #[.pointer (some ⟨b, o, none⟩), .slice (some ad) l.length c] w (RmQ K Cs B b G w (R.put i (jbC (R.con i) l)) (.tuple #[])) := by
 obtain ⟨X, hG, hB, hX, hM, hQ⟩ := hR; obtain ⟨A, Z, hA, hA'⟩ := jau R X hi; obtain ⟨i0, dE, hz0, hz1, hz2⟩ := info_parts joG; have hown := hM.own (intR 3 (X.con i).l (R.con i).told) (by rw [hA]; simp); have h8 : w.cell? ⟨b, o + 8, none⟩ = some (X.con i).l := hX.cell (by rw [ho, jd2 R X hi (by omega)]; rfl); have dk := hid (show ∀ (g cap : Nat) (w1 : World), w1.ownsRow B 3 1 (.slice (some ⟨g, 0, none⟩) ((R.con i).told.length + l.length) cap) ((R.con i).told.length + l.length) (((R.con i).told.map fun k => .int .i64 k) ++ l.map fun k => .int .i64 k) -> w.grownBy w1 (X.con i).l.ownBlock -> ((X.con i).l.ownBlock = some g ∨ g = w.heap.size) ->
  RmQ K Cs B b G w (R.put i (jbC (R.con i) l)) (.tuple #[]) (.returned (.tuple #[])) (w1.setCell ⟨b, o + 8, none⟩ (.slice (some ⟨g, 0, none⟩) ((R.con i).told.length + l.length) cap)) /\ w1.cell? ⟨b, o + 8, none⟩ = some (X.con i).l /\ w1.frozen? ⟨b, o + 8, none⟩ = false from fun g cap w1 h1 h2 h3 => by
  have kZ := hM; rw [hA] at kZ; obtain ⟨k1, k2⟩ := kZ.grow (H := w.heap.size) (r' := intR 3 (.slice (some ⟨g, 0, none⟩) ((R.con i).told.length + l.length) cap) ((R.con i).told ++ l)) h2 (by simpa [intR] using h1) (ai _) (fun g' e => by cases e; exact h3.imp id fun h => bJ h.symm); have gn : w1.heap[b]? = w.heap[b]? := h2.block b hM.lt fun e => hM.far (by rw [hA]; exact bu.2 ⟨intR 3 (X.con i).l (R.con i).told, by simp, e.symm⟩)
  have cI : RmB w1 b (vW R X) := ⟨gn.trans hX.1, hX.2⟩; refine ⟨⟨rfl, _, ⟨X.put i ⟨(X.con i).t, (X.con i).d, .slice (some ⟨g, 0, none⟩) ((R.con i).told.length + l.length) cap⟩, rfl, hB, ?_, ?_, ?_⟩, ?_⟩, ?_, ?_⟩
  . rw [ho]; exact (cI.put _ _).ty (jlO R X hi _ _)
  . rw [hA']; exact k1.box _ _
  . rw [hG] at hQ; rw [hA'] at *; rw [hA] at hQ; have ye := hQ.stp (k2.box (o + 8) (.slice (some ⟨g, 0, none⟩) ((R.con i).told.length + l.length) cap)); have hc2 := ye.con hi; exact ye.put hi ⟨hc2.gl, hc2.ry, hc2.du⟩
  . rw [hG, hA', hA]; exact k2.box _ _
  . exact (aP gn).trans h8
  . exact cI.frz _)
 have B6 : B <= w.heap.size := by have := hM.lt; omega
 obtain ⟨al, cl, cw, gp⟩ := vy hown; simp only [intR] at cw hown; rw [cw] at h8 hown dk; have HO := hid hown; clear hM hQ hX hA hA' hown hG cw ho; go_enter Tryz.func57, Tryz.ntmps57
 go_wp2_with (first
  | (at_builtin; refine wpList_append_lies _ rfl _ _ 37 rfl B 3 i0 _ 1 8 Tryz.underlying37 dE hz0 hz1 hz2 rfl (by decide) (.slice al (R.con i).told.length cl) (R.con i).told.length ((R.con i).told.map fun k => .int .i64 k) rfl HO.out ad l.length c (l.map fun k => .int .i64 k) rfl ?q1 hc ?q2 hl ?q3 ?q4 ?q5 w.heap.size rfl ?_)
  | fail)
 case q1 => simp
 case q2 =>
  intro u hu; obtain ⟨k, _, rfl⟩ := bE.1 hu; rfl
 case q3 => unfold maxLen; omega
 case q4 => omega
 case q5 => exact B6
 intro g cap w1 hown hgrow hat hlt; obtain ⟨HF, z0, z1⟩ := dk.out g cap w1 hown hgrow hat; have HF := hid HF; clear hown hgrow hat dk; go_wp2; go_end0; exact HF.out
theorem jh5 {A : Type} : ∀ {l : List A} {j : Nat} {v : A}, l[j]? = some v -> l.set j v = l
 | [], _, _, h => by simp at h
 | _ :: _, 0, _, h => by cases h; rfl
 | _ :: l, j + 1, _, h => congrArg _ (jh5 (l := l) h)
theorem jod (c : Con) : jbC c [] = c := by cases c; simp [jbC]
theorem jd3 (R : Rom) (i : Nat) (hi : i < 3) : R.put i (R.con i) = R := by
 match i, hi with
 | 0, _ | 1, _ | 2, _ => rfl
theorem jmc (K : List (List UInt8)) (Cs : List (List Cmd)) (B b : Nat) (G : List Nat) (R : Rom) (w : World) (hR : RoomM K Cs B b G R w) (i o : Nat) (hi : i < 3) (ho : o = 7 + i * 9) (a : Option Addr) (c : Nat) (hn : (R.con i).told.length <= 1000000000) :
 Calls Tryz.prog 57 #[.pointer (some ⟨b, o, none⟩), .slice a 0 c] w (RmQ K Cs B b G w R (.tuple #[])) := by
 obtain ⟨X, hG, hB, hX, hM, hQ⟩ := hR; obtain ⟨A, Z, hA, hA'⟩ := jau R X hi; have hown := hM.own (intR 3 (X.con i).l (R.con i).told) (by rw [hA]; simp); obtain ⟨al, cl, cw, gp⟩ := vy hown; simp only [intR] at cw hown gp; have uN : (vW R X)[o + 8]? = some (.slice al (R.con i).told.length cl) := by rw [ho, jd2 R X hi (by omega), <- cw]; rfl
 have h8 : w.cell? ⟨b, o + 8, none⟩ = some (.slice al (R.con i).told.length cl) := hX.cell uN; have z8 := hX.frz (o + 8); have dk := hid (show RmQ K Cs B b G w R (.tuple #[]) (.returned (.tuple #[])) (w.setCell ⟨b, o + 8, none⟩ (.slice al (R.con i).told.length cl)) from
  ⟨rfl, G, ⟨X, hG, hB, (hX.put _ _).ty (jh5 uN), hM.box _ _, hQ.stp ((Stp.refl b G w).box _ _)⟩, (Stp.refl b G w).box _ _⟩)
 generalize (R.con i).told.length = n at *; have gx : (n : Int) <= 1000000000 := by omega
 clear hM hQ hX hA hA' hown hG cw ho uN; cases a <;> cases al
 all_goals
  go_enter Tryz.func57, Tryz.ntmps57; go_wp2; go_end0; exact dk.out
theorem jjt (R : Rom) (X : Vals) (hi : i < 3) (k : Int) : (((((((((vW R X).set (7 + i * 9) (.int .i64 k)).set (7 + i * 9 + 1) (.string ⟨#[]⟩)).set (7 + i * 9 + 2) (.string ⟨#[]⟩)).set (7 + i * 9 + 3) (.slice none 0 0)).set (7 + i * 9 + 4) (.string ⟨#[]⟩)).set (7 + i * 9 + 5) (.bool false)).set (7 + i * 9 + 6) (.string ⟨#[]⟩)).set (7 + i * 9 + 7) (.slice none 0 0)).set (7 + i * 9 + 8) (X.con i).l = vW (R.put i (jbe (R.con i) k)) (X.put i ⟨.slice none 0 0, .slice none 0 0, (X.con i).l⟩) := by
 match i, hi with
 | 0, _ | 1, _ | 2, _ => rfl
theorem jcv (K : List (List UInt8)) (Cs : List (List Cmd)) (B b : Nat) (G : List Nat) (R : Rom) (w : World) (hR : RoomM K Cs B b G R w) (i o : Nat) (hi : i < 3) (ho : o = 7 + i * 9) (k : Int) :
 Calls Tryz.prog 36 #[.pointer (some ⟨b, o, none⟩), .int .i64 k] w (RmQ K Cs B b G w (R.put i (jbe (R.con i) k)) (.tuple #[])) := by
 obtain ⟨X, hG, hB, hX, hM, hQ⟩ := hR; obtain ⟨A, Z, hA, hA'⟩ := jau R X hi; have hown := hM.own (intR 3 (X.con i).l (R.con i).told) (by rw [hA]; simp); obtain ⟨al, cl, cw, gp⟩ := vy hown; simp only [intR] at cw; obtain ⟨c0, c1, c2, c3, c4, c5, c6, c7, c8⟩ := je5 hX hi ho; obtain ⟨z0, z1, z2, z3, z4, z5, z6, z7, z8⟩ := jpj hX o; rw [cw] at c8; have ux := jjt R X hi k; rw [<- ho, cw] at ux; have dk := hid (show ∀ w', RmB w' b (vW (R.put i (jbe (R.con i) k)) (X.put i ⟨.slice none 0 0, .slice none 0 0, (X.con i).l⟩)) -> MOk w' B b (j2 R X) -> Stp b G w G w' -> RmQ K Cs B b G w (R.put i (jbe (R.con i) k)) (.tuple #[]) (.returned (.tuple #[])) w' from fun w' h1 h2 h3 => by
  have e : j2 (R.put i (jbe (R.con i) k)) (X.put i ⟨.slice none 0 0, .slice none 0 0, (X.con i).l⟩) = j2 R X := by rw [hA', hA]; rfl
  exact ⟨rfl, G, ⟨_, by rw [e]; exact hG, hB, h1, by rw [e]; exact h2, (hQ.stp h3).put hi ⟨jh _ _ _ _ _ _, fun a n c h => by cases h; exact ai _, jh _ _ _ _ _ _⟩⟩, h3⟩)
 have tJ := hid ux; have HX := hid hX; have HM := hid hM; rw [cw] at dk; clear ux hM hQ hX hA hA' hG ho hown cw gp; go_enter Tryz.func36, Tryz.ntmps36; go_wp2; go_end0; exact dk.out _ ((((((((((HX.out.put _ _).put _ _).put _ _).put _ _).put _ _).put _ _).put _ _).put _ _).put _ _).ty tJ.out) (((((((((HM.out.box _ _).box _ _).box _ _).box _ _).box _ _).box _ _).box _ _).box _ _).box _ _) ((((((((((Stp.refl b G w).box _ _).box _ _).box _ _).box _ _).box _ _).box _ _).box _ _).box _ _).box _ _)
theorem jgQ (c : UInt8) : (jam c = true /\ ¬ (c.toNat : Int) < 33 /\ ¬ 126 < (c.toNat : Int) /\ ((c.toNat : Int) == 58) = false) ∨
 (jam c = false /\ ((c.toNat : Int) < 33 ∨ (¬ (c.toNat : Int) < 33 /\ 126 < (c.toNat : Int)) ∨ (¬ (c.toNat : Int) < 33 /\ ¬ 126 < (c.toNat : Int) /\ ((c.toNat : Int) == 58) = true))) := by
 have e : c = 58 ↔ c.toNat = 58 := ⟨fun h => by rw [h]; rfl, fun h => UInt8.toNat_inj.1 (by rw [h]; rfl)⟩
 by_cases h1 : c.toNat < 33
 . right; exact ⟨by simp [jam]; omega, .inl (by omega)⟩
 . by_cases h2 : 126 < c.toNat
   . right; exact ⟨by simp [jam]; omega, .inr (.inl ⟨by omega, by omega⟩)⟩
   . by_cases h3 : c = 58
     . right; exact ⟨by simp [jam, h3], .inr (.inr ⟨by omega, by omega, by subst h3; decide⟩)⟩
     . left; exact ⟨by simp [jam, h3]; omega, by omega, by omega, by rw [bA]; intro h; exact h3 (e.2 (by omega))⟩
theorem jpT (hk : k < s.size) (h : (s.data.toList.take k).all jam = true) (hc : jam s[k] = true) : (s.data.toList.take (k + 1)).all jam = true := by
 rw [jfX s k hk, List.all_append, h]; simp [hc]
theorem jle (hk : k < s.size) (hc : jam s[k] = false) : jal s.data.toList = false := by
 have hm : s[k] ∈ s.data.toList := aF (jcl s k hk); cases h : jal s.data.toList with
 | false => rfl
 | true => simp only [jal, aX, List.all_eq_true] at h; rw [h.2 _ hm] at hc; cases hc
theorem jnz (hk : ¬ k < s.size) (h : (s.data.toList.take k).all jam = true) : jal s.data.toList = !s.data.toList.isEmpty := by
 rw [aV (by rw [size_list]; omega)] at h
 simp [jal, h]
theorem jiV (s : ByteArray) (w : World) (hs : s.size <= maxLen) :
 Calls Tryz.prog 311 #[.string s] w fun e w' => e = .returned (.bool (jal s.data.toList)) /\ w' = w := by
 unfold maxLen at hs; go_enter Tryz.func311, Tryz.ntmps311; go_wp2
 go_loop [6] (fun i => ∃ k : Nat, k <= s.size /\ i = .int .i64 k /\ Hid ((s.data.toList.take k).all jam = true)) (fun i => s.size - (intOf i).toNat)
 case atStart => exact ⟨0, aQ _, rfl, by simp [Hid]⟩
 case round =>
  obtain ⟨k, hk, rfl, HA⟩ := hrel
  by_cases hlt : k < s.size
  . rcases jgQ s[k] with ⟨hc, h1, h2, h3⟩ | ⟨hc, h | ⟨h, h'⟩ | ⟨h, h', xA⟩⟩
    . have HC : Hid _ := hc; clear hc; go_wp2
      go_round
      case rel => exact ⟨k + 1, by omega, by go_num, jpT hlt HA.out HC.out⟩
      case measure => simp [intOf]; omega
    all_goals
        have HC : Hid _ := hc; clear hc; go_wp2; go_ret; exact ⟨jc (jle hlt HC.out).symm, rfl⟩
  . go_wp2; go_ret; exact ⟨jc (by rw [jnz hlt HA.out, aW]), rfl⟩
def FieldsAt (w : World) (a : Option Addr) (fs : List F) : Prop :=
 ∀ (i : Nat) f, fs[i]? = some f -> ∃ b off, a = some ⟨b, off, none⟩ /\ b < w.heap.size /\ w.cell? ⟨b, off + i * 2, none⟩ = some (.string (S f.1)) /\ w.cell? ⟨b, off + i * 2 + 1, none⟩ = some (.string (S f.2))
theorem FieldsAt.below (h : FieldsAt w a fs) (hb : Below w.heap.size w w') : FieldsAt w' a fs := by
 intro i f hf; obtain ⟨b, off, ha, hlt, h1, h2⟩ := h i f hf; exact ⟨b, off, ha, aK hlt hb.size, (hb.cell (p := ⟨b, off + i * 2, none⟩) hlt).trans h1, (hb.cell (p := ⟨b, off + i * 2 + 1, none⟩) hlt).trans h2⟩
theorem jj5 {p : Addr} (h : w.cell? p = some v) (hb : Below w.heap.size w w') : w'.cell? p = some v :=
 (hb.cell (aG w _ h)).trans h
theorem jjZ {a : World} (h : Below B a w) (n : Nat) : Below B a (w.drewN n) := h.trans ⟨rfl, rfl, rfl, ai _, fun _ _ => rfl⟩
theorem jkM : (Tryz.prog.info? 366).map (fun i => (i.zero, i.size, i.bytes)) = some (some (.agg #[.string ByteArray.empty, .string ByteArray.empty]), 2, 32) := by kernel_rfl
def zX (fs : List F) : List Value := fs.flatMap fun f => [.string (S f.1), .string (S f.2)]
theorem jdY (a b : List F) : zX (a ++ b) = zX a ++ zX b := by simp [zX]
theorem jiq (f : F) : zX [f] = [.string (S f.1), .string (S f.2)] := by simp [zX]
theorem jip (h : fs[i]? = some f) : (zX fs)[i * 2]? = some (.string (S f.1)) /\ (zX fs)[i * 2 + 1]? = some (.string (S f.2)) := by
 induction fs generalizing i with
 | nil => simp at h
 | cons g fs ih =>
   cases i with
   | zero => simp at h; subst h; simp [zX]
   | succ i =>
     have := ih (i := i) (by simpa using h); have e1 : (i + 1) * 2 = i * 2 + 2 := by omega
     rw [e1]
     simpa [zX] using this
theorem jiL (h : w.ownsRow base 366 2 (.slice (some ⟨g, 0, none⟩) fs.length cap) fs.length (zX fs)) (hg : g < w.heap.size) : FieldsAt w (some ⟨g, 0, none⟩) fs := by
 intro i f hf; have hi : i < fs.length := by
  rcases bz i fs.length with h | h
  . exact h
  . rw [List.getElem?_eq_none h] at hf; cases hf
 obtain ⟨h1, h2⟩ := jip hf; refine ⟨g, 0, rfl, hg, ?_, ?_⟩
 . rw [bc, h.cellAt _ (by omega)]; exact h1
 . rw [bc, h.cellAt _ (by omega)]; exact h2
theorem jb5 {p a : Addr} (h : p.block ≠ a.block) : (w.setCell p v).cell? a = w.cell? a :=
 aP (heap_setCell_other w p a.block v (fun e => h e.symm))
theorem FieldsAt.set (h : FieldsAt w (some ⟨g, 0, none⟩) fs) {p : Addr} (v : Value) (hp : p.block ≠ g) : FieldsAt (w.setCell p v) (some ⟨g, 0, none⟩) fs := by
 intro i f hf; obtain ⟨b, off, ha, hb, h1, h2⟩ := h i f hf; simp only [aS, Addr.mk.injEq, and_true] at ha; obtain ⟨rfl, rfl⟩ := ha; exact ⟨_, _, rfl, by simpa using hb, (jb5 hp).trans h1, (jb5 hp).trans h2⟩
theorem jiK (w : World) (a : Option Addr) : FieldsAt w a [] := by intro i f hf; simp at hf
def OwnF (w : World) (B : Nat) (v : Value) (fs : List F) : Prop := w.ownsRow B 366 2 v fs.length (zX fs)
theorem jp3 (h : w.ownsRow base e size (.slice (some ⟨g, 0, none⟩) n cap) n xs) (j : Nat) (u : Value) :
 (w.setCell ⟨g, j, none⟩ u).ownsRow base e size (.slice (some ⟨g, 0, none⟩) n cap) n (xs.set j u) := by
 refine ⟨by rw [List.length_set]; exact h.1, .inr ?_⟩
 rcases h.2 with ⟨h', _⟩ | ⟨g', cap', cur, h', hb, hg, h1, h2, h3, eU⟩
 . simp at h'
 . simp only [aE, aS, Addr.mk.injEq, and_true, true_and] at h'; obtain ⟨rfl, rfl⟩ := h'; refine ⟨g, cap, cur.setIfInBounds j u, rfl, hb, aM w g j cur e u hg, h1, h2, by simpa using h3, ?_⟩; rw [Array.toList_setIfInBounds, List.take_set, eU]
theorem OwnF.form {w : World} {B : Nat} {v : Value} {fs : List F} (h : OwnF w B v fs) (h0 : fs ≠ []) : ∃ g cap, v = .slice (some ⟨g, 0, none⟩) fs.length cap /\ B <= g /\ g < w.heap.size :=
 World.ownsRow.form h (List.length_pos_iff.2 h0)
theorem OwnF.any (h : OwnF w B v fs) : ∃ a cap, v = .slice a fs.length cap := by
 by_cases h0 : fs = []
 . rcases h.2 with ⟨rfl, hn⟩ | ⟨g, cap, cur, rfl, _⟩
   . subst h0; exact ⟨none, 0, rfl⟩
   . exact ⟨_, _, rfl⟩
 . obtain ⟨g, cap, rfl, _⟩ := h.form h0; exact ⟨_, _, rfl⟩
theorem OwnF.fields {c : Nat} (h : OwnF w B (.slice a fs.length c) fs) : FieldsAt w a fs := by
 by_cases h0 : fs = []
 . subst h0; exact jiK _ _
 . obtain ⟨g, cap, e, hb, hg⟩ := h.form h0; simp only [aE, true_and] at e; obtain ⟨rfl, rfl⟩ := e; exact jiL h hg
theorem jir (h : fs[i]? = some f) (v : List UInt8) : (zX fs).set (i * 2 + 1) (.string (S v)) = zX (fs.set i (f.1, v)) := by
 induction fs generalizing i with
 | nil => simp at h
 | cons g fs ih =>
   cases i with
   | zero => simp at h; subst h; simp [zX]
   | succ i =>
     have := ih (i := i) (by simpa using h); have e1 : (i + 1) * 2 + 1 = (i * 2 + 1) + 2 := by omega
     rw [e1]
     simpa [zX] using this
theorem jgi (c : UInt8) : (0 <= Lib.indexByte [32, 9] c) ↔ zo c = true := by
 unfold zo Lib.indexByte Lib.indexByte Lib.indexByte
 by_cases h1 : c = 32
 . subst h1; decide
 . by_cases h2 : c = 9
   . subst h2; decide
   . have e1 : (32 == c) = false := by simpa using fun h => h1 h.symm
     have e2 : (9 == c) = false := by simpa using fun h => h2 h.symm
     simp [e1, e2, h1, h2]
theorem jqk (c : UInt8) : ((c.toNat : Int)).toNat.toUInt8 = c := by simp
theorem index_none {c : UInt8} (h : zo c = false) : Lib.indexByte [32, 9] c = -1 := by
 have h1 : ¬ 0 <= Lib.indexByte [32, 9] c := fun h0 => by rw [(jgi c).1 h0] at h; cases h
 unfold zo at h; simp only [Bool.or_eq_false_iff, bA] at h; have e1 : (32 == c) = false := by simpa using fun e => h.1 e.symm
 have e2 : (9 == c) = false := by simpa using fun e => h.2 e.symm
 simp [Lib.indexByte, e1, e2]
theorem jqU {line : ByteArray} (hp : 0 < line.size) (h : jfi fs line.data.toList = false) : fs = [] ∨ (0 < fs.length /\ Hid (Lib.indexByte (⟨#[32, 9]⟩ : ByteArray).data.toList ((line[0].toNat : Int)).toNat.toUInt8 = -1)) := by
 by_cases h0 : fs = []
 . exact .inl h0
 . right
   refine ⟨List.length_pos_iff.2 h0, ?_⟩; have e : line.data.toList.head? = some line[0] := by rw [List.head?_eq_getElem?]; exact jcl line 0 hp
   have hb : zo line[0] = false := by
    simp only [jfi, e, Option.map_some, Option.getD_some, Bool.and_eq_false_iff] at h
    rcases h with h | h
    . cases fs with
      | nil => exact absurd rfl h0
      | cons a t => simp at h
    . exact h
   unfold Hid; rw [jqk]; exact index_none hb
theorem jbf (w : World) (x y : Value) (t : TypeId) : ∀ (j : Nat) u, [x, y][j]? = some u -> (w.alloc (.cells #[x, y] t)).cell? ((⟨w.heap.size, 0, none⟩ : Addr).add j) = some u := by
 intro j u hj; rw [bg, bc]
 match j, hj with
 | 0, hj => simp at hj; subst hj; simp
 | 1, hj => simp at hj; subst hj; simp
theorem jke (s : ByteArray) (l a b : List UInt8) (t : Bool) (sep : ByteArray) (hl : sep.data.toList = l) (h : Lib.cut s.data.toList l = (a, b, t)) :
 (⟨(Lib.cut s.data.toList sep.data.toList).1.toArray⟩ : ByteArray) = S a /\ (⟨(Lib.cut s.data.toList sep.data.toList).2.1.toArray⟩ : ByteArray) = S b /\ (Lib.cut s.data.toList sep.data.toList).2.2 = t := by
 rw [hl, h]; exact ⟨rfl, rfl, rfl⟩
theorem jbN (s sep : ByteArray) (l a b : List UInt8) (t : Bool) (hl : sep.data.toList = l) (h : Lib.cut s.data.toList l = (a, b, t)) (w : World) (hs : s.size < 4294967281) (hm : maxLenCell w) :
 Calls Tryz.prog 55 #[.string s, .string sep] w fun e w' => e = .returned (.tuple #[.string (S a), .string (S b), .bool t]) /\ ∃ n, w' = w.drewN n := by
 have := cutS_any s sep w hs hm; obtain ⟨e1, e2, e3⟩ := jke s l a b t sep hl h
 rwa [e1, e2, e3] at this
theorem jfn (l : List UInt8) (b : Bool) (h : jal l = b) (hl : l.length <= 5000) (w : World) :
 Calls Tryz.prog 311 #[.string (S l)] w fun e w' => e = .returned (.bool b) /\ w' = w := by
 have := jiV (S l) w (by rw [jb]; unfold maxLen; omega)
 rwa [ji, h] at this
theorem jn9 (B : Nat) (v : Value) (fs : List F) (line : ByteArray) (w : World) (hO : OwnF w B v fs) (cS : B <= w.heap.size) (hm : maxLenCell w) (hp : 0 < line.size) (hl : line.size <= 5000) (hn : fs.length < 30) (h : jfi fs line.data.toList = false)
 (a b : List UInt8) (hc : Lib.cut line.data.toList [58] = (a, b, true)) (ha : jal a = true) (cw : a.length <= 5000) :
 Calls Tryz.prog 290 #[v, .string line] w fun e w' => ∃ v', e = .returned (.tuple #[v', .int .i64 0]) /\ OwnF w' B v' (fs ++ [(a, b)]) /\ Below B w w' := by
 obtain ⟨i0, hi, hz0, hz1, hz2⟩ := info_parts jkM; obtain ⟨a0, cap, rfl⟩ := hO.any; have HC : Hid _ := hc; have HA : Hid _ := ha; have la : w.ownsRow B 366 2 (.slice a0 fs.length cap) fs.length (zX fs) := hO; clear hc ha
 rcases jqU hp h with h0 | ⟨h0, HI⟩
 . clear h hO; subst h0; have eL : w.ownsRow B 366 2 (.slice a0 0 cap) 0 [] := la; clear la; go_enter Tryz.func290, Tryz.ntmps290; go_wp2_with fail; refine (jbN line _ [58] a b true rfl HC.out _ (by omega) hm).mono ?_; rintro e u ⟨rfl, q, rfl⟩; go_wp2_with fail; refine (jfn a true HA.out cw _).mono ?_; rintro e u ⟨rfl, hu⟩; have b6 := hu.symm; subst b6
   go_wp2_with (at_builtin; refine wpList_append_own _ rfl _ _ 317 rfl B 366 i0 _ 2 32 Tryz.underlying317 hi hz0 hz1 hz2 rfl (by decide) (.slice a0 0 cap) 0 [] rfl (aO (show World.ownsRow (w.drewN q) _ _ _ _ _ _ from eL) _) ⟨w.heap.size, 0, none⟩ 1 1 [.string (S a), .string (S b)] rfl rfl (jbf _ _ _ _) ?c2 ?c3 ?c4 ?c5 ?_)
   case c2 => intro u hu; simp at hu; rcases hu with rfl | rfl <;> rfl
   case c3 => unfold maxLen; omega
   case c4 => omega
   case c5 => simp; omega
   intro v' w2 hown' hgrow _; have b7 := ((jjZ (ay B w) q).alloc (by simpa using cS) _).grown hgrow (by simp; omega) (fun j hj => (aA eL j hj).1); clear hgrow; go_wp2; go_ret2; exact ⟨v', rfl, by unfold OwnF; exact hown', b7⟩
 . clear h hO; go_enter Tryz.func290, Tryz.ntmps290; go_wp2_with fail; refine (indexByte_any _ _ _).mono ?_; rintro e u ⟨rfl, hu⟩; have b6 := hu.symm; subst b6; rw [HI.out]; go_wp2_with fail; refine (jbN line _ [58] a b true rfl HC.out _ (by omega) hm).mono ?_; rintro e u ⟨rfl, q, rfl⟩; go_wp2_with fail; refine (jfn a true HA.out cw _).mono ?_; rintro e u ⟨rfl, hu⟩; have b6 := hu.symm; subst b6
   go_wp2_with (at_builtin; refine wpList_append_own _ rfl _ _ 317 rfl B 366 i0 _ 2 32 Tryz.underlying317 hi hz0 hz1 hz2 rfl (by decide) (.slice a0 fs.length cap) fs.length (zX fs) rfl (aO (show World.ownsRow (w.drewN q) _ _ _ _ _ _ from la) _) ⟨w.heap.size, 0, none⟩ 1 1 [.string (S a), .string (S b)] rfl rfl (jbf _ _ _ _) ?c2 ?c3 ?c4 ?c5 ?_)
   case c2 => intro u hu; simp at hu; rcases hu with rfl | rfl <;> rfl
   case c3 => unfold maxLen; omega
   case c4 => omega
   case c5 => simp; omega
   intro v' w2 hown' hgrow _; have b7 := ((jjZ (ay B w) q).alloc (by simpa using cS) _).grown hgrow (by simp; omega) (fun j hj => (aA la j hj).1); clear hgrow; go_wp2; go_ret2; exact ⟨v', rfl, by unfold OwnF; rw [jdY, jiq, aB]; exact hown', b7⟩
theorem jlp (h : w.ownsRow base e size v n xs) (hb : Below w.heap.size w w') : w'.ownsRow base e size v n xs := by
 refine ⟨h.1, ?_⟩
 rcases h.2 with h' | ⟨g, cap, cur, h1, h2, hg, r⟩
 . exact .inl h'
 . refine .inr ⟨g, cap, cur, h1, h2, ?_, r⟩; rw [hb.block g (by
    rcases bz g w.heap.size with h' | h'
    . exact h'
    . rw [Array.getElem?_eq_none h'] at hg; cases hg)]
   exact hg
theorem OwnF.below (h : OwnF w B v fs) (hb : Below w.heap.size w w') : OwnF w' B v fs := jlp h hb
theorem OwnF.far (h : OwnF w B v fs) {p : Addr} (hp : p.block < B) (u : Value) : OwnF (w.setCell p u) B v fs := ownsRow_setCell_below h hp u
theorem OwnF.nil (w : World) (B : Nat) : OwnF w B (.slice none 0 0) [] := aR _ _ _ _
def j6 (fs : List F) (k : Nat) : List F := (fs.take k).map jhm ++ fs.drop k
theorem vU (fs : List F) (k : Nat) : (j6 fs k).length = fs.length := by simp [j6]; omega
theorem jeL (h : fs[k]? = some f) : (j6 fs k)[k]? = some f := by
 have hk : k < fs.length := (au.1 h).1; unfold j6; rw [bd (by simp; omega)]; have : k - ((fs.take k).map jhm).length = 0 := by simp; omega
 rw [this, List.getElem?_drop]
 simpa using h
theorem jdk (h : fs[k]? = some f) : (j6 fs k).set k (jhm f) = j6 fs (k + 1) := by
 have hk : k < fs.length := (au.1 h).1; unfold j6; rw [List.set_append_right _ _ (by simp; omega)]; have e : k - ((fs.take k).map jhm).length = 0 := by simp; omega
 have ed : fs.drop k = f :: fs.drop (k + 1) := by
  rw [aT hk]
  congr 1
  exact (au.1 h).2
 rw [e, ed, jax h]
 simp
theorem jdj (B : Nat) (v : Value) (fs : List F) (w : World) (hO : OwnF w B v fs) (hn : fs.length <= 30) (hb : ∀ f ∈ fs, f.2.length <= 5000) :
 Calls Tryz.prog 289 #[v] w fun e w' => e = .returned (.tuple #[]) /\ OwnF w' B v (fs.map jhm) /\ Below B w w' /\ w.heap.size <= w'.heap.size := by
 obtain ⟨a, cap, rfl⟩ := hO.any; have HB : Hid _ := hb; clear hb; go_enter Tryz.func289, Tryz.ntmps289; go_wp2
 go_loopw [5] (fun i wr => ∃ k : Nat, k <= fs.length /\ i = .int .i64 k /\ OwnF wr B (.slice a fs.length cap) (j6 fs k) /\ Below B w wr /\ w.heap.size <= wr.heap.size) (fun i _ => fs.length - (intOf i).toNat)
 case atStart => exact ⟨0, aQ _, rfl, by simpa [j6] using hO, ay _ _, ai _⟩
 case round =>
  obtain ⟨k, hk, rfl, eL, hB, hz⟩ := hrel
  by_cases hlt : k < fs.length
  . obtain ⟨f, hf⟩ : ∃ f, fs[k]? = some f := ⟨_, aw hlt⟩; have ff := HB.out f (aF hf); have hg := jeL hf; have dC : OwnF wr B (.slice a (j6 fs k).length cap) (j6 fs k) := by rw [vU]; exact eL
    obtain ⟨g, off, rfl, ip, h1, h2⟩ := (OwnF.fields dC) k f hg; obtain ⟨g', cap', e, ul, _⟩ := dC.form (by rintro e0; rw [e0] at hg; simp at hg); simp only [aE, aS, Addr.mk.injEq, and_true] at e; obtain ⟨⟨rfl, rfl⟩, -, rfl⟩ := e; rw [bc] at h1 h2; have hs2 : (S f.2).size <= 5000 := by rw [jb]; exact ff
    have HS : Hid (∀ u : World, Below wr.heap.size wr u -> ∀ x : ByteArray, x = S (jeK f.2) -> OwnF (u.setCell ⟨g, k * 2 + 1, none⟩ (.string x)) B (.slice (some ⟨g, 0, none⟩) fs.length cap) (j6 fs (k + 1))) := by
        intro u hu x hx; have := jp3 (dC.below hu) (k * 2 + 1) (.string x); rw [hx, jir hg] at this; have e2 : (f.1, jeK f.2) = jhm f := rfl; rw [e2, jdk hf] at this; unfold OwnF; rw [vU] at this ⊢; rw [hx]; exact this
    have HF : Hid (w.heap.size <= wr.heap.size) := hz; have HZ : Hid (∀ u : World, Below wr.heap.size wr u -> u.cell? ⟨g, k * 2 + 1, none⟩ = some (.string (S f.2)) /\ u.frozen? ⟨g, k * 2 + 1, none⟩ = false) := by
        intro u hu; exact ⟨jj5 h2 hu, (hu.frozen (p := ⟨g, k * 2 + 1, none⟩) ip).trans (World.ownsRow.frozenAt dC _)⟩
    clear hf hg eL dC; go_wp2_with fail; refine (trim_any _ _ (by omega)).mono ?_; rintro e u ⟨rfl, hu⟩; obtain ⟨z1, z2⟩ := HZ.out u hu; have HX : Hid ((⟨(Lib.trimS (S f.2).data.toList [32, 9]).toArray⟩ : ByteArray) = S (jeK f.2)) := by unfold Hid; rw [ji]; rfl
    rw [HX.out]; go_wp2
    go_roundw
    case rel => first | exact ⟨k + 1, by omega, by go_num, HS.out u hu _ rfl, ((hB.trans (hu.mono (by have := hB.size; omega))).setCell ul _), by have := hu.size; have := HF.out; simp; omega⟩ | ((repeat apply Exists.intro); exact ⟨⟨k + 1, by omega, by go_num, HS.out u hu _ rfl, ((hB.trans (hu.mono (by have := hB.size; omega))).setCell ul _), by have := hu.size; have := HF.out; simp; omega⟩, rfl⟩) | (refine ⟨trivial, ?_⟩; (repeat apply Exists.intro); exact ⟨⟨k + 1, by omega, by go_num, HS.out u hu _ rfl, ((hB.trans (hu.mono (by have := hB.size; omega))).setCell ul _), by have := hu.size; have := HF.out; simp; omega⟩, rfl⟩)
    case measure => simp [intOf]; omega
  . have HT : Hid (j6 fs k = fs.map jhm) := by
        unfold Hid j6; rw [aV (by omega), List.drop_of_length_le (by omega)]; simp
    go_wp2; go_end0; exact ⟨rfl, by rw [<- HT.out]; exact eL, hB, hz⟩
theorem jeU (l : List UInt8) : (S l).toList.isEmpty = l.isEmpty := by rw [aW, ji]
def FreshA (n : Nat) (a : Option Addr) : Prop := ∀ b o q, a = some ⟨b, o, q⟩ -> n <= b
theorem FreshA.nil (n : Nat) : FreshA n none := fun _ _ _ h => by cases h
theorem OwnF.fresh {c : Nat} (h : OwnF w B (.slice a k c) fs) (hn : n <= B) : FreshA n a := by
 intro b o q e; subst e
 rcases h.2 with ⟨h', _⟩ | ⟨g, cap, cur, h', hb, _⟩
 . simp at h'
 . simp only [aE, aS, Addr.mk.injEq] at h'; obtain ⟨⟨e, _⟩, _⟩ := h'; omega
def jU (n : Int) (m : Nat) : Nat := ((if n < 0 then -(n + 1) else n) % (m : Int)).toNat
theorem zR (n : Int) (m : Nat) (hm : 0 < m) : jU n m < m := by
 unfold jU; have h1 := Int.emod_nonneg (if n < 0 then -(n + 1) else n) (b := (m : Int)) (by omega); have h2 := Int.emod_lt_of_pos (if n < 0 then -(n + 1) else n) (b := (m : Int)) (by omega); omega
theorem jjl (n : Int) (m : Nat) (w : World) (hn : (Lit.int .i64 n).wf = true) (hm : 0 < m) (li : m <= 9223372036854775807) :
 Calls Tryz.prog 13 #[.int .i64 n, .int .i64 m] w fun e w' => e = .returned (.int .i64 (jU n m)) /\ w' = w := by
 have hb := bounds_i64 hn; obtain ⟨hb1, hb2⟩ := hb; clear hn; have HP : Hid ((jU n m : Int) = (if n < 0 then -(n + 1) else n) % (m : Int)) := by
  unfold Hid jU; have h1 := Int.emod_nonneg (if n < 0 then -(n + 1) else n) (b := (m : Int)) (by omega); omega
 have Dp : ((m : Int) == 0) = false := by simp; omega
 by_cases h : n < 0
 . have HQ : Hid ((jU n m : Int) = (-(n + 1)) % (m : Int)) := by unfold Hid; rw [HP.out, if_pos h]
   clear HP; go_enter Tryz.func13, Tryz.ntmps13; go_wp2; go_ret; exact ⟨jd (by rw [HQ.out, <- Int.neg_tmod]; exact Int.tmod_eq_emod_of_nonneg (by omega)), rfl⟩
 . have HQ : Hid ((jU n m : Int) = n % (m : Int)) := by unfold Hid; rw [HP.out, if_neg h]
   clear HP; go_enter Tryz.func13, Tryz.ntmps13; go_wp2; go_ret; exact ⟨jd (by rw [HQ.out]), rfl⟩
theorem qT (a b : List UInt8) : S a ++ S b = S (a ++ b) := by
 apply ByteArray.ext
 simp [S]
structure Gea where
 kind : Int
 conn : Int
 user : Int
 a : Int
 b : Int
 text : ByteArray
def geaW (g : Gea) : Prop := (Lit.int .i64 g.kind).wf = true /\ (Lit.int .i64 g.conn).wf = true /\ (Lit.int .i64 g.user).wf = true /\ (Lit.int .i64 g.a).wf = true /\ (Lit.int .i64 g.b).wf = true /\ g.text.size <= maxLen
def geaV (g : Gea) : Value := .agg #[.int .i64 g.kind, .int .i64 g.conn, .int .i64 g.user, .int .i64 g.a, .int .i64 g.b, .string g.text]
theorem zZ (n : Int) (m : Nat) (w : World) (hn : (Lit.int .i64 n).wf = true) (hm : 0 < m) (li : m <= 9223372036854775807) :
 Calls Tryz.prog 8 #[.int .i64 n, .int .i64 m] w fun e w' => e = .returned (.int .i64 (jU n m)) /\ w' = w := by
 have HP := hid (jjl n m w hn hm li); clear hn hm li; go_enter Tryz.func8, Tryz.ntmps8; go_wp2_with fail; refine HP.out.mono ?_; rintro e u ⟨rfl, hu⟩; subst hu; go_wp2; go_ret; exact ⟨rfl, rfl⟩
theorem jr (R : Rom) (i : Nat) (c : Con) : (R.put i c).con i = c := by
 match i with
 | 0 | 1 | _ + 2 => rfl
theorem zv (R : Rom) (i : Nat) (c d : Con) : (R.put i c).put i d = R.put i d := by
 match i with
 | 0 | 1 | _ + 2 => rfl
theorem RmQ.trans {K : List (List UInt8)} {Cs : List (List Cmd)} {B b : Nat} {G G' : List Nat} {w w1 w' : World} {R : Rom} {r : Value} {e : Ending} (hs : Stp b G w G' w1) (h : RmQ K Cs B b G' w1 R r e w') : RmQ K Cs B b G w R r e w' := by
 obtain ⟨h1, G2, h2, h3⟩ := h; exact ⟨h1, G2, h2, hs.trans h3⟩
theorem qx {l : List Int} (h : IntsM Q w v l) : ∃ a c, v = .slice a l.length c := RowM.slice h
theorem RoomM.cells (h : RoomM K Cs B b G R w) (hi : i < 3) (ho : o = 7 + i * 9) : ∃ at_ ct ad cd,
 w.cell? ⟨b, o, none⟩ = some (.int .i64 (R.con i).ses.step) /\ w.cell? ⟨b, o + 1, none⟩ = some (.string (S (R.con i).ses.frm.1)) /\ w.cell? ⟨b, o + 2, none⟩ = some (.string (S (R.con i).ses.frm.2)) /\ w.cell? ⟨b, o + 3, none⟩ = some (.slice at_ (R.con i).ses.to.length ct) /\
 w.cell? ⟨b, o + 4, none⟩ = some (.string (S (R.con i).ses.text)) /\ w.cell? ⟨b, o + 5, none⟩ = some (.bool (R.con i).ses.large) /\ w.cell? ⟨b, o + 6, none⟩ = some (.string (S (R.con i).held)) /\ w.cell? ⟨b, o + 7, none⟩ = some (.slice ad (R.con i).due.length cd) /\
 AdrsM (AvN B b G) w (.slice at_ (R.con i).ses.to.length ct) (R.con i).ses.to /\ jba (.slice at_ (R.con i).ses.to.length ct) /\ IntsM (AvN B b G) w (.slice ad (R.con i).due.length cd) (R.con i).due := by
 obtain ⟨X, hG, hB, hX, hM, hQ⟩ := h; obtain ⟨h1, h2, h3⟩ := hQ.con hi; obtain ⟨at_, ct, ht⟩ := RowM.slice h1; obtain ⟨ad, cd, hd⟩ := qx h3; obtain ⟨c0, c1, c2, c3, c4, c5, c6, c7, c8⟩ := je5 hX hi ho; rw [ht] at h1 h2 c3; rw [hd] at h3 c7; exact ⟨at_, ct, ad, cd, c0, c1, c2, c3, c4, c5, c6, c7, h1, h2, h3⟩
theorem RoomM.frz {K : List (List UInt8)} {Cs : List (List Cmd)} {B b : Nat} {G : List Nat} {R : Rom} {w : World} (h : RoomM K Cs B b G R w) (j : Nat) : w.frozen? ⟨b, j, none⟩ = false := by
 obtain ⟨X, hG, hB, hX, hM, hQ⟩ := h; exact hX.frz j
theorem jcR (R : Rom) (X : Vals) (hi : i < 3) {x : Cv} (hc : c.told = (R.con i).told) (hx : x.l = (X.con i).l) : j2 (R.put i c) (X.put i x) = j2 R X := by
 obtain ⟨A, Z, h1, h2⟩ := jau R X hi; rw [h1, h2, hc, hx]
theorem RoomM.held (h : RoomM K Cs B b G R w) (hi : i < 3) (ho : o = 7 + i * 9) (t : List UInt8) : RoomM K Cs B b G (R.put i (ja7 (R.con i) t)) (w.setCell ⟨b, o + 6, none⟩ (.string (S t))) /\ Stp b G w G (w.setCell ⟨b, o + 6, none⟩ (.string (S t))) := by
 obtain ⟨X, hG, hB, hX, hM, hQ⟩ := h; have hs : Stp b G w G (w.setCell ⟨b, o + 6, none⟩ (.string (S t))) := (Stp.refl b G w).box _ _; have e := jcR R X hi (c := ja7 (R.con i) t) (x := X.con i) rfl rfl; have hc := (hQ.stp hs).con hi; exact ⟨⟨_, by rw [e]; exact hG, hB, (hX.put _ _).ty (by rw [ho]; exact jlN R X hi t), by rw [e]; exact hM.box _ _, (hQ.stp hs).put hi ⟨hc.gl, hc.ry, hc.du⟩⟩, hs⟩
theorem RoomM.due (h : RoomM K Cs B b G R w) (hi : i < 3) (ho : o = 7 + i * 9) (v : Value) (l : List Int) (hv : IntsM (AvN B b G) w v l) : RoomM K Cs B b G (R.put i (dueC (R.con i) l)) (w.setCell ⟨b, o + 7, none⟩ v) /\ Stp b G w G (w.setCell ⟨b, o + 7, none⟩ v) := by
 obtain ⟨X, hG, hB, hX, hM, hQ⟩ := h; have hs : Stp b G w G (w.setCell ⟨b, o + 7, none⟩ v) := (Stp.refl b G w).box _ _; have e := jcR R X hi (c := dueC (R.con i) l) (x := ⟨(X.con i).t, v, (X.con i).l⟩) rfl rfl; have hc := (hQ.stp hs).con hi; exact ⟨⟨X.put i ⟨(X.con i).t, v, (X.con i).l⟩, by rw [e]; exact hG, hB, (hX.put _ _).ty (by rw [ho]; exact jnV R X hi v l), by rw [e]; exact hM.box _ _, (hQ.stp hs).put hi ⟨hc.gl, hc.ry, hv.stp hs⟩⟩, hs⟩
theorem jng (K : List (List UInt8)) (Cs : List (List Cmd)) (B b : Nat) (G : List Nat) (R : Rom) (w : World) (hR : RoomM K Cs B b G R w) (i o : Nat) (hi : i < 3) (ho : o = 7 + i * 9) (d : List UInt8) (hn : (R.con i).held.length + d.length <= 1000000000) :
 Calls Tryz.prog 23 #[.pointer (some ⟨b, o, none⟩), .string (S d)] w (RmQ K Cs B b G w (R.put i (jda (R.con i) d)) (.tuple #[])) := by
 obtain ⟨at_, ct, ad, cd, c0, c1, c2, c3, c4, c5, c6, c7, _⟩ := hR.cells hi ho; have hz := hR.frz (o + 6); have HR := hid hR; have HO := hid ho; clear hR ho
 by_cases h5 : (R.con i).ses.step = 5
 . have HB := hid (jcv K Cs B b G R w HR.out i o hi HO.out 0); have HE := hid (show jda (R.con i) d = ⟨atS 0, d, [], (R.con i).told⟩ by unfold jda; rw [if_pos h5]); rw [h5] at c0; clear h5 c1 c2 c3 c4 c5 c6 c7 hz; go_enter Tryz.func23, Tryz.ntmps23; go_wp2_with fail; refine HB.out.mono ?_; rintro e w1 ⟨rfl, G1, cz, hs1⟩; obtain ⟨_, _, _, _, _, _, _, _, _, _, d6, _⟩ := cz.cells hi HO.out; rw [jr, show (jbe (R.con i) 0).held = [] from rfl] at d6; have hz1 := cz.frz (o + 6); obtain ⟨k1, k2⟩ := cz.held hi HO.out d; rw [jr, zv] at k1; have HF := hid (show RmQ K Cs B b G w (R.put i (jda (R.con i) d)) (.tuple #[]) (.returned (.tuple #[])) (w1.setCell ⟨b, o + 6, none⟩ (.string (S d))) from ⟨rfl, G1, by rw [HE.out]; exact k1, hs1.trans k2⟩); have hsz : ¬ 9223372036854775807 < (S ([] : List UInt8)).size + (S d).size := by rw [jb, jb]; simp; omega
   have hap : S ([] : List UInt8) ++ S d = S d := by rw [qT]; rfl
   clear k1 k2 cz hs1; go_wp2; go_end0
   first | exact HF.out | (rw [hap]; exact HF.out)
 . have BO : ((R.con i).ses.step == 5) = false := by simpa using h5
   obtain ⟨k1, k2⟩ := HR.out.held hi HO.out ((R.con i).held ++ d); have HF := hid (show RmQ K Cs B b G w (R.put i (jda (R.con i) d)) (.tuple #[]) (.returned (.tuple #[])) (w.setCell ⟨b, o + 6, none⟩ (.string (S ((R.con i).held ++ d)))) from ⟨rfl, G, by unfold jda; rw [if_neg h5]; exact k1, k2⟩); have hsz : ¬ 9223372036854775807 < (S (R.con i).held).size + (S d).size := by rw [jb, jb]; omega
   have mH := hid (qT (R.con i).held d); clear k1 k2; go_enter Tryz.func23, Tryz.ntmps23; go_wp2; go_end0; rw [mH.out]; exact HF.out
theorem jf4 (K : List (List UInt8)) (Cs : List (List Cmd)) (B b : Nat) (G : List Nat) (R : Rom) (w : World) (hR : RoomM K Cs B b G R w) (i o : Nat) (hi : i < 3) (ho : o = 7 + i * 9) :
 Calls Tryz.prog 54 #[.pointer (some ⟨b, o, none⟩)] w fun e w' => e = .returned (.bool (decide (0 < (R.con i).due.length))) /\ w' = w := by
 obtain ⟨at_, ct, ad, cd, c0, c1, c2, c3, c4, c5, c6, c7, _⟩ := hR.cells hi ho; generalize (R.con i).due.length = n at *; clear ho hR c0 c1 c2 c3 c4 c5 c6; go_enter Tryz.func54, Tryz.ntmps54; go_wp2; go_ret
 simp
theorem jcs (w : World) : Stp b G w G w.drew := .of (ay _ _).drew
theorem vD (w : World) (n : Nat) : Below w.heap.size w (w.drewN n) :=
 ⟨rfl, rfl, rfl, ai _, fun _ _ => rfl⟩
theorem jnB (K : List (List UInt8)) (Cs : List (List Cmd)) (B b : Nat) (G : List Nat) (R : Rom) (w : World) (hR : RoomM K Cs B b G R w) (i o : Nat) (hi : i < 3) (ho : o = 7 + i * 9) (hm : maxLenCell w) (hn : (R.con i).held.length <= 1000000000) (hd : (R.con i).due = []) (x y : List UInt8) (hx : Lib.cut (R.con i).held [13, 10] = (x, y, true)) :
 Calls Tryz.prog 37 #[.pointer (some ⟨b, o, none⟩)] w (RmQ K Cs B b G w (R.put i (ja7 (R.con i) y)) (.tuple #[.string (S x), .bool true])) := by
 have HW := hid (jf4 K Cs B b G R w hR i o hi ho); rw [hd] at HW; obtain ⟨at_, ct, ad, cd, c0, c1, c2, c3, c4, c5, c6, c7, _⟩ := hR.cells hi ho; have HC := hid (jbN (S (R.con i).held) ⟨#[13, 10]⟩ [13, 10] x y true rfl (by rw [ji]; exact hx) w (by rw [jb]; omega) hm); have HR := hid hR; have HO := hid ho; clear hR ho hd c0 c1 c2 c3 c4 c5 c7 hm hx; go_enter Tryz.func37, Tryz.ntmps37; go_wp2_with fail; refine HW.out.mono ?_; rintro e w1 ⟨rfl, dw⟩; have kE := dw.symm; subst kE; clear dw; go_wp2_with fail; refine HC.out.mono ?_; rintro e w2 ⟨rfl, n, hw2⟩; have hb2 : Below w.heap.size w w2 := by rw [hw2]; exact vD _ _
 have cA := HR.out.next hb2; have hz := cA.frz (o + 6); obtain ⟨_, _, _, _, _, _, _, _, _, _, d6, _⟩ := cA.cells hi HO.out; obtain ⟨k1, k2⟩ := cA.held hi HO.out y; have HF := hid (show RmQ K Cs B b G w (R.put i (ja7 (R.con i) y)) (.tuple #[.string (S x), .bool true]) (.returned (.tuple #[.string (S x), .bool true])) (w2.setCell ⟨b, o + 6, none⟩ (.string (S y))) from ⟨rfl, G, k1, (Stp.of hb2).trans k2⟩); clear k1 k2 cA hw2 hb2 c6; go_wp2; go_ret2; exact HF.out
theorem jpU (K : List (List UInt8)) (Cs : List (List Cmd)) (B b : Nat) (G : List Nat) (R : Rom) (w : World) (hR : RoomM K Cs B b G R w) (i o : Nat) (hi : i < 3) (ho : o = 7 + i * 9) (hm : maxLenCell w) (hn : (R.con i).held.length <= 1000000000) (x y : List UInt8) (hx : (R.con i).due ≠ [] ∨ Lib.cut (R.con i).held [13, 10] = (x, y, false)) :
 Calls Tryz.prog 37 #[.pointer (some ⟨b, o, none⟩)] w (RmQ K Cs B b G w R (.tuple #[.string ⟨#[]⟩, .bool false])) := by
 have HW := hid (jf4 K Cs B b G R w hR i o hi ho); obtain ⟨at_, ct, ad, cd, c0, c1, c2, c3, c4, c5, c6, c7, _⟩ := hR.cells hi ho; have HR := hid hR; have HX := hid hx; have HM := hid hm; obtain ⟨q, hq⟩ : ∃ q, q = decide (0 < (R.con i).due.length) := ⟨_, rfl⟩; rw [<- hq] at HW; have HQ := hid hq; clear hR ho c0 c1 c2 c3 c4 c5 c7 hm hx hq; go_enter Tryz.func37, Tryz.ntmps37; go_wp2_with fail; refine HW.out.mono ?_; rintro e w1 ⟨rfl, dw⟩; have kE := dw.symm; subst kE; clear dw; cases q with
 | true =>
   go_wp2; go_ret2; exact ⟨rfl, G, HR.out, Stp.refl _ _ _⟩
 | false =>
   have yt : Lib.cut (R.con i).held [13, 10] = (x, y, false) := by
    rcases HX.out with h | h
    . have := HQ.out; have h0 : 0 < (R.con i).due.length := List.length_pos_iff.2 h; rw [decide_eq_true h0] at this; cases this
    . exact h
   have HC := hid (jbN (S (R.con i).held) ⟨#[13, 10]⟩ [13, 10] x y false rfl (by rw [ji]; exact yt) w (by rw [jb]; omega) HM.out); clear yt; go_wp2_with fail; refine HC.out.mono ?_; rintro e w2 ⟨rfl, n, hw2⟩; have bY := hid (show Below w.heap.size w w2 by rw [hw2]; exact vD _ _); clear hw2 c6; go_wp2; go_ret2; exact ⟨rfl, G, HR.out.next bY.out, .of bY.out⟩
def qI (s : ByteArray) (n B k : Nat) (wr : World) : Prop :=
 ∃ cur : Array Value, wr.heap[B]? = some (.cells cur 5 (n, n + 1)) /\ cur.size = n /\ s.size <= n /\
   (∀ j (h : j < s.size), j < k -> cur[j]? = some (.int .u8 (low1 s[j]).toNat)) /\ (∀ j (h : j < s.size), k <= j -> cur[j]? = some (.int .u8 s[j].toNat))
theorem jdd (s : ByteArray) (w : World) (cap : Nat) :
 qI s (bytesRow s cap).size w.heap.size 0 (w.drew.alloc (.cells (bytesRow s cap) 5 ((bytesRow s cap).size, (bytesRow s cap).size + 1))) := by
 refine ⟨bytesRow s cap, ?_, rfl, ?_, fun j h hj => by omega, fun j h _ => ?_⟩
 . show (w.heap.push _)[w.heap.size]? = _
   simp
 . simp [bytesRow]
 . unfold bytesRow; have hj : j < (s.data.map (fun b => Value.int .u8 b.toNat)).size := by simpa using h
   rw [Array.getElem?_append_left hj, aY hj]
   simp
   rfl
theorem jei (h : qI s n B k wr) (hk : k < s.size) : wr.cell? ⟨B, k, none⟩ = some (.int .u8 s[k].toNat) /\ wr.frozen? ⟨B, k, none⟩ = false := by
 obtain ⟨cur, h1, h2, h3, h4, h5⟩ := h; exact ⟨(cell_of_row _ _ _ _ _ _ h1).trans (h5 k hk (ai _)), jgB h1 (by omega)⟩
theorem jej (h : qI s n B k wr) (hk : k < s.size) (hl : low1 s[k] = s[k]) : qI s n B (k + 1) wr := by
 obtain ⟨cur, h1, h2, h3, h4, h5⟩ := h; refine ⟨cur, h1, h2, h3, fun j h hj => ?_, fun j h hj => h5 j h (by omega)⟩
 by_cases e : j = k
 . subst e; rw [h5 j h (ai _), hl]
 . exact h4 j h (by omega)
theorem jfy (h : qI s n B k wr) (hk : k < s.size) (x : Int) (hl : ((low1 s[k]).toNat : Int) = x) : qI s n B (k + 1) (wr.setCell ⟨B, k, none⟩ (.int .u8 x)) := by
 obtain ⟨cur, h1, h2, h3, h4, h5⟩ := h; refine ⟨_, jk _ h1, by simpa using h2, h3, fun j h hj => ?_, fun j h hj => ?_⟩
 . by_cases e : j = k
   . subst e; rw [Array.getElem?_setIfInBounds_self_of_lt (by omega), hl]
   . rw [Array.getElem?_setIfInBounds_ne (by omega)]; exact h4 j h (by omega)
 . rw [Array.getElem?_setIfInBounds_ne (by omega)]; exact h5 j h (by omega)
theorem jeh (h : qI s n B s.size wr) :
 (convert 66 9 (.slice (some ⟨B, 0, none⟩) s.size cap)).run Tryz.prog wr = .ok (.string (low s)) wr := by
 obtain ⟨cur, h1, h2, h3, h4, h5⟩ := h; have hlen : (lowL s.data.toList).length = s.size := by rw [lowL, bI]; exact size_list s
 have := run_convert_bytes_back (P := Tryz.prog) wr 66 9 5 ⟨B, 0, none⟩ cap (lowL s.data.toList) Tryz.underlying66 Tryz.underlying5 Tryz.underlying9 (fun j hj => by
  have hj' : j < s.size := by omega
  have e : (⟨B, 0, none⟩ : Addr).add j = ⟨B, j, none⟩ := by simp [Addr.add]; omega
  rw [e, cell_of_row _ _ _ _ _ _ h1, h4 j hj' hj']
  congr 2
  simp only [lowL, List.getElem_map]; rfl)
 rw [hlen] at this; exact this
theorem jbA (s : ByteArray) (w : World) (hs : s.size <= 4611686018427387904) :
 Calls Tryz.prog 208 #[.string s] w fun e w' => e = .returned (.string (low s)) /\ Below w.heap.size w w' := by
 have gJ := run_bytes_of_string (P := Tryz.prog) w 9 66 5 s Tryz.underlying9 Tryz.underlying66 Tryz.underlying5; have hst := jdd s w (grownCap w s.size 0 5); have yo : Below w.heap.size w (w.drew.alloc (.cells (bytesRow s (grownCap w s.size 0 5)) 5 ((bytesRow s (grownCap w s.size 0 5)).size, (bytesRow s (grownCap w s.size 0 5)).size + 1))) :=
  (ay _ _).drew.alloc (by simp) _
 generalize grownCap w s.size 0 5 = cap at *; generalize bytesRow s cap = C at *; go_enter Tryz.func208, Tryz.ntmps208; go_wp2
 go_loopw [10] (fun i wr => ∃ k : Nat, k <= s.size /\ i = .int .i64 k /\ qI s C.size w.heap.size k wr /\ Below w.heap.size w wr) (fun i _ => s.size - (intOf i).toNat)
 case atStart => exact ⟨0, aQ _, rfl, hst, yo⟩
 case round =>
  obtain ⟨k, hk, rfl, hL, hB⟩ := hrel; clear hst yo gJ
  by_cases hlt : k < s.size
  . obtain ⟨hc, hf⟩ := jei hL hlt; have hu := s[k].toNat_lt
    by_cases hg : 65 <= (s[k].toNat : Int) /\ (s[k].toNat : Int) <= 90
    . have mv := jfy hL hlt ((s[k].toNat : Int) - 65 + 97) (by have := jnr hg; omega); obtain ⟨hg1, hg2⟩ := hg; have uh := hB.setCell (p := ⟨w.heap.size, k, none⟩) (ai _) (.int .u8 ((s[k].toNat : Int) - 65 + 97)); have HN : Hid _ := mv; have HB : Hid _ := uh; clear mv uh; go_wp2
      go_roundw
      case rel => exact ⟨k + 1, by omega, by go_num, HN.out, HB.out⟩
      case measure => simp [intOf]; omega
    . have HN : Hid _ := jej hL hlt (jpM hg); go_wp2
      all_goals
       go_roundw
       case rel => exact ⟨k + 1, by omega, by go_num, HN.out, hB⟩
       case measure => simp [intOf]; omega
  . obtain rfl : k = s.size := by omega
    have hback := jeh (cap := cap) hL; go_wp2; go_ret; exact ⟨rfl, hB⟩
theorem jnt (s p : ByteArray) (w : World) (hs : s.size <= 2000) (hp : p.size <= 100) :
 Calls Tryz.prog 176 #[.int .i64 1, .string s, .string p] w fun e w' => e = .returned (.tuple #[.bool ((low s).toList == (low p).toList), .int .i64 0]) /\ Below w.heap.size w w' := by
 go_enter Tryz.func176, Tryz.ntmps176; go_wp2_with fail; refine (jbA s _ (by omega)).mono ?_; rintro e w1 ⟨rfl, hb1⟩; go_wp2_with fail; refine (jbA p _ (by omega)).mono ?_; rintro e w2 ⟨rfl, hb2⟩; go_wp2; go_ret2; exact ⟨rfl, hb1.trans (hb2.mono hb1.size)⟩
theorem jaJ (s p : ByteArray) (w : World) :
 Calls Tryz.prog 150 #[.string s, .string p] w fun e w' => e = .returned (.bool (Lib.hasPrefix s.data.toList p.data.toList)) /\ w' = w := by
 rw [<- Lib.hasPrefix_of_take, <- Lib.size_eq, <- Lib.size_eq]; go_enter Tryz.func150, Tryz.ntmps150; go_wp2
 . rename_i h; go_ret; refine ⟨?_, rfl⟩
   show Ending.returned (Value.bool ((s.extract 0 p.size).toList == p.toList)) = _
   rw [Lib.extract_toList, aW]
   simp [h]
 . rename_i h; go_ret; refine ⟨?_, rfl⟩
   show Ending.returned (Value.bool false) = _
   simp [h]
theorem jek (l : List UInt8) (c : UInt8) : Lib.hasPrefix l [c] = (l.head? == some c) := by
 cases l with
 | nil => rfl
 | cons x t =>
   have e : (x == c) = (c == x) := by
    by_cases h : x = c
    . subst h; rfl
    . have h' : ¬ c = x := fun e => h e.symm
      rw [bA.2 h, bA.2 h']
   simp [Lib.hasPrefix, List.isPrefixOf, e]
theorem ji3 (s p : ByteArray) (w : World) (_hs : s.size <= 9223372036854775807) (h : Lib.hasPrefix s.data.toList p.data.toList = false) :
 Calls Tryz.prog 237 #[.string s, .string p] w fun e w' => e = .returned (.tuple #[.string s, .bool false]) /\ w' = w := by
 have H : Hid _ := h; clear h; go_enter Tryz.func237, Tryz.ntmps237; go_wp2_with fail; refine (jaJ s p _).mono ?_; rintro e u ⟨rfl, hu⟩; have b6 := hu.symm; subst b6; rw [H.out]; go_wp2
 all_goals go_ret2
 all_goals exact ⟨rfl, rfl⟩
theorem jgI (s p : ByteArray) (w : World) (_hs : s.size <= 9223372036854775807) (h : Lib.hasPrefix s.data.toList p.data.toList = true) :
 Calls Tryz.prog 237 #[.string s, .string p] w fun e w' => e = .returned (.tuple #[.string (s.extract p.size s.size), .bool true]) /\ w' = w := by
 have hz : p.size <= s.size := by rw [Lib.size_eq, Lib.size_eq]; exact (List.isPrefixOf_iff_prefix.1 h).length_le
 have hz' : (p.size : Int) <= (s.size : Int) := by omega
 have H : Hid _ := h; clear h; go_enter Tryz.func237, Tryz.ntmps237; go_wp2_with fail; refine (jaJ s p _).mono ?_; rintro e u ⟨rfl, hu⟩; have b6 := hu.symm; subst b6; rw [H.out]; go_wp2
 all_goals go_ret2
 all_goals exact ⟨rfl, rfl⟩
theorem jkc (s p : ByteArray) (w : World) (_hs : s.size <= 9223372036854775807) (h : Lib.hasPrefix s.data.toList p.data.toList = false) :
 Calls Tryz.prog 211 #[.string s, .string p] w fun e w' => e = .returned (.tuple #[.string s, .bool false]) /\ w' = w := by
 go_enter Tryz.func211, Tryz.ntmps211; go_wp2_with fail; refine (ji3 s p _ _hs h).mono ?_; rintro e u ⟨rfl, hu⟩; have b6 := hu.symm; subst b6; go_wp2
 all_goals go_ret2
 all_goals exact ⟨rfl, rfl⟩
theorem jiw (s p : ByteArray) (w : World) (_hs : s.size <= 9223372036854775807) (h : Lib.hasPrefix s.data.toList p.data.toList = true) :
 Calls Tryz.prog 211 #[.string s, .string p] w fun e w' => e = .returned (.tuple #[.string (s.extract p.size s.size), .bool true]) /\ w' = w := by
 go_enter Tryz.func211, Tryz.ntmps211; go_wp2_with fail; refine (jgI s p _ _hs h).mono ?_; rintro e u ⟨rfl, hu⟩; have b6 := hu.symm; subst b6; go_wp2
 all_goals go_ret2
 all_goals exact ⟨rfl, rfl⟩
theorem jdA (s p : ByteArray) (w : World) (hs : s.size <= 9223372036854775807) :
 Calls Tryz.prog 258 #[.string s, .string p] w fun e w' => e = .returned (.bool (Lib.hasSuffix s.data.toList p.data.toList)) /\ w' = w := by
 rw [<- Lib.hasSuffix_raw]; have wg : p.size <= s.size -> ((s.size : Int) - (p.size : Int) + 9223372036854775808) % 18446744073709551616 - 9223372036854775808 = ((s.size - p.size : Nat) : Int) := fun _ => by omega
 go_enter Tryz.func258, Tryz.ntmps258; go_wp2
 . have h : p.size <= s.size := by assumption
   go_ret; refine ⟨?_, rfl⟩
   show Ending.returned (Value.bool ((s.extract (s.size - p.size) s.size).toList == p.toList)) = _
   simp [h]
 . have h : ¬ p.size <= s.size := by assumption
   go_ret; refine ⟨?_, rfl⟩
   show Ending.returned (Value.bool false) = _
   simp [h]
theorem ji4 (s p : ByteArray) (w : World) (_hs : s.size <= 9223372036854775807) (h : Lib.hasSuffix s.data.toList p.data.toList = false) :
 Calls Tryz.prog 238 #[.string s, .string p] w fun e w' => e = .returned (.tuple #[.string s, .bool false]) /\ w' = w := by
 have H : Hid _ := h; clear h; go_enter Tryz.func238, Tryz.ntmps238; go_wp2_with fail; refine (jdA s p _ _hs).mono ?_; rintro e u ⟨rfl, hu⟩; have b6 := hu.symm; subst b6; rw [H.out]; go_wp2
 all_goals go_ret2
 all_goals exact ⟨rfl, rfl⟩
theorem jgJ (s p : ByteArray) (w : World) (_hs : s.size <= 9223372036854775807) (h : Lib.hasSuffix s.data.toList p.data.toList = true) :
 Calls Tryz.prog 238 #[.string s, .string p] w fun e w' => e = .returned (.tuple #[.string (s.extract 0 (s.size - p.size)), .bool true]) /\ w' = w := by
 have hz : p.size <= s.size := by rw [Lib.size_eq, Lib.size_eq]; exact (List.isSuffixOf_iff_suffix.1 h).length_le
 have wg : ((s.size : Int) - (p.size : Int) + 9223372036854775808) % 18446744073709551616 - 9223372036854775808 = ((s.size - p.size : Nat) : Int) := by omega
 have Cn : IntKind.i64.wrap ((s.size : Int) - (p.size : Int)) = ((s.size - p.size : Nat) : Int) := by simp only [IntKind.wrap_i64]; omega
 have hz' : (p.size : Int) <= (s.size : Int) := by omega
 have H : Hid _ := h; clear h; go_enter Tryz.func238, Tryz.ntmps238; go_wp2_with fail; refine (jdA s p _ _hs).mono ?_; rintro e u ⟨rfl, hu⟩; have b6 := hu.symm; subst b6; rw [H.out]; go_wp2
 all_goals go_ret2
 all_goals exact ⟨rfl, rfl⟩
theorem jkd (s p : ByteArray) (w : World) (_hs : s.size <= 9223372036854775807) (h : Lib.hasSuffix s.data.toList p.data.toList = false) :
 Calls Tryz.prog 212 #[.string s, .string p] w fun e w' => e = .returned (.tuple #[.string s, .bool false]) /\ w' = w := by
 go_enter Tryz.func212, Tryz.ntmps212; go_wp2_with fail; refine (ji4 s p _ _hs h).mono ?_; rintro e u ⟨rfl, hu⟩; have b6 := hu.symm; subst b6; go_wp2
 all_goals go_ret2
 all_goals exact ⟨rfl, rfl⟩
theorem jix (s p : ByteArray) (w : World) (_hs : s.size <= 9223372036854775807) (h : Lib.hasSuffix s.data.toList p.data.toList = true) :
 Calls Tryz.prog 212 #[.string s, .string p] w fun e w' => e = .returned (.tuple #[.string (s.extract 0 (s.size - p.size)), .bool true]) /\ w' = w := by
 go_enter Tryz.func212, Tryz.ntmps212; go_wp2_with fail; refine (jgJ s p _ _hs h).mono ?_; rintro e u ⟨rfl, hu⟩; have b6 := hu.symm; subst b6; go_wp2
 all_goals go_ret2
 all_goals exact ⟨rfl, rfl⟩
theorem jqh (l : List UInt8) (c : UInt8) : Lib.hasSuffix l [c] = (l.getLast? == some c) := by
 have h : Lib.hasSuffix l [c] = Lib.hasPrefix l.reverse [c] := by
  simp [Lib.hasSuffix, Lib.hasPrefix, List.isSuffixOf]
 rw [h, jek, List.head?_reverse]
theorem jfz (s : ByteArray) (w : World) :
 Calls Tryz.prog 175 #[.string s, .string ⟨#[46]⟩] w fun e w' => e = .returned (.string (S (zD s.data.toList))) /\ w' = w := by
 have hp := jek s.data.toList 46; cases h : (s.data.toList.head? == some 46) with
 | false =>
   rw [h] at hp; have H : Hid _ := hp; have HU : Hid (S (zD s.data.toList) = s) := by
    unfold Hid; cases hl : s.data.toList with
    | nil => rw [show zD [] = s.data.toList by rw [hl]; rfl]; rfl
    | cons c t =>
      have hc : ¬ c = 46 := by rw [hl] at h; simpa using h
      rw [show zD (c :: t) = s.data.toList by rw [hl]; simp [zD, hc]]; rfl
   clear h hp; go_enter Tryz.func175, Tryz.ntmps175; go_wp2_with fail; refine (jaJ s _ _).mono ?_; rintro e u ⟨rfl, hu⟩; have b6 := hu.symm; subst b6; rw [H.out]; go_wp2; go_ret; exact ⟨by rw [HU.out]; rfl, rfl⟩
 | true =>
   rw [h] at hp; have H : Hid _ := hp; have HU : Hid (S (zD s.data.toList) = s.extract 1 s.size /\ 1 <= s.size) := by
    unfold Hid; cases hl : s.data.toList with
    | nil => rw [hl] at h; cases h
    | cons c t =>
      have hc : c = 46 := by rw [hl] at h; simpa using h
      have e : s = S (c :: t) := by rw [<- hl]; rfl
      have e2 : zD (c :: t) = (c :: t).drop 1 := by simp [zD, hc]
      constructor
      . rw [e, qe, e2]
      . rw [e, jb]; simp
   have hz : (1 : Int) <= (s.size : Int) := by have := HU.out.2; omega
   clear h hp; go_enter Tryz.func175, Tryz.ntmps175; go_wp2_with fail; refine (jaJ s _ _).mono ?_; rintro e u ⟨rfl, hu⟩; have b6 := hu.symm; subst b6; rw [H.out]; go_wp2; go_ret; exact ⟨by rw [HU.out.1]; rfl, rfl⟩
theorem jhl (s : ByteArray) (w : World) :
 Calls Tryz.prog 131 #[.string s, .string ⟨#[46]⟩] w fun e w' => e = .returned (.string (S (zD s.data.toList))) /\ w' = w := by
 go_enter Tryz.func131, Tryz.ntmps131; go_wp2_with fail; refine (jfz s _).mono ?_; rintro e u ⟨rfl, hu⟩; have b6 := hu.symm; subst b6; go_wp2; go_ret; exact ⟨rfl, rfl⟩
def jm6 (s : ByteArray) : Value := if s.size <= 2000 then .tuple #[.string (low s), .int .i64 0] else .tuple #[.string .empty, .int .i64 1]
theorem jm7 (s : ByteArray) (w : World) :
 Calls Tryz.prog 179 #[.string s] w fun e w' => e = .returned (jm6 s) /\ Below w.heap.size w w' := by
 by_cases h : s.size <= 2000
 . go_enter Tryz.func179, Tryz.ntmps179
   go_wp2_with (go_at_call 208; refine (jbA _ _ (by omega)).mono ?_; rintro e w1 ⟨rfl, hb⟩)
   go_ret2; exact ⟨by rw [jm6, if_pos h]; rfl, hb⟩
 . go_enter Tryz.func179, Tryz.ntmps179
   go_wp2_with (go_at_call 208; refine (jbA _ _ (by omega)).mono ?_; rintro e w1 ⟨rfl, hb⟩)
   go_ret2; exact ⟨by rw [jm6, if_neg h]; rfl, ay _ _⟩
def SB (w : World) (b : Nat) (s : Ses) (v lv : Value) : Prop := w.heap[b]? = some (.cells #[.int .i64 s.step, .string (S s.frm.1), .string (S s.frm.2), v, .string (S s.text), .bool s.large, lv] 163)
def SesW (w : World) (b B : Nat) (s : Ses) (lv : Value) : Prop := ∃ v, SB w b s v lv /\ OwnL w B v s.to
theorem za (h : w.heap[p]? = some (.cells cs t)) : (w.setCell ⟨p, j, none⟩ u).heap[p]? = some (.cells (cs.setIfInBounds j u) t) := aM w p j cs t u h
theorem zH {v6 : Value} (h : w.heap[p]? = some (.cells #[v0, v1, v2, v3, v4, v5, v6] t)) :
 (w.cell? ⟨p, 0, none⟩ = some v0 /\ w.cell? ⟨p, 1, none⟩ = some v1 /\ w.cell? ⟨p, 2, none⟩ = some v2 /\ w.cell? ⟨p, 3, none⟩ = some v3 /\ w.cell? ⟨p, 4, none⟩ = some v4 /\ w.cell? ⟨p, 5, none⟩ = some v5 /\ w.cell? ⟨p, 6, none⟩ = some v6) /\ ∀ j, w.frozen? ⟨p, j, none⟩ = false := by
 simp [World.cell?, World.frozen?, h]
theorem jqO {o : Obj} (hb : Below n w w') (h : w.heap[p]? = some o) (hn : p < n) : w'.heap[p]? = some o := (hb.block p hn).trans h
theorem jW {o : Obj} (hb : Below w.heap.size w w') (h : w.heap[p]? = some o) : w'.heap[p]? = some o := (hb.block p (aj.1 h).1).trans h
theorem jV (h : OwnL w B v l) (hb : Below w.heap.size w w') : OwnL w' B v l := by
 unfold OwnL at *; refine ⟨h.1, ?_⟩
 rcases h.2 with h' | ⟨g, cap, cur, hv, hB, hg, hr⟩
 . exact .inl h'
 . exact .inr ⟨g, cap, cur, hv, hB, (hb.block g (aj.1 hg).1).trans hg, hr⟩
theorem zQ (h : OwnL w B v l) (hb : w.heap[b]? = some (.cells cs 163)) : OwnL (w.setCell ⟨b, j, none⟩ u) B v l := by
 unfold OwnL at *; refine ⟨h.1, ?_⟩
 rcases h.2 with h' | ⟨g, cap, cur, hv, hB, hg, hr⟩
 . exact .inl h'
 . refine .inr ⟨g, cap, cur, hv, hB, ?_, hr⟩; have hne : g ≠ b := fun e => by rw [e, hb] at hg; simp at hg
   exact (aC _ _ _ _ hne).trans hg
def ObP (n b B : Nat) (w : World) (r : Ses × Int) (lv : Value) (e : Ending) (w' : World) : Prop := e = .returned (.int .i64 r.2) /\ SesW w' b B r.1 lv /\ Below n w w'
def DoP' (n b B : Nat) (w : World) (r : Ses) (lv : Value) (e : Ending) (w' : World) : Prop := e = .returned (.tuple #[]) /\ SesW w' b B r lv /\ Below n w w'
theorem six7 {u0 u1 u2 u3 u4 u5 u6 : Value} (h : W.heap[p]? = some (.cells #[u0, u1, u2, u3, u4, u5, u6] t)) : ((((((W.setCell ⟨p, 0, none⟩ v0).setCell ⟨p, 1, none⟩ v1).setCell ⟨p, 2, none⟩ v2).setCell ⟨p, 3, none⟩ v3).setCell ⟨p, 4, none⟩ v4).setCell ⟨p, 5, none⟩ v5).heap[p]? = some (.cells #[v0, v1, v2, v3, v4, v5, u6] t) := by
 have := za (j := 5) (u := v5) (za (j := 4) (u := v4) (za (j := 3) (u := v3) (za (j := 2) (u := v2) (za (j := 1) (u := v1) (za (j := 0) (u := v0) h))))); simp only [af, ag, ah] at this; exact this
theorem low7 (W : World) (v0 v1 v2 v3 v4 v5 : Value) (hp : B <= p) : Below B W ((((((W.setCell ⟨p, 0, none⟩ v0).setCell ⟨p, 1, none⟩ v1).setCell ⟨p, 2, none⟩ v2).setCell ⟨p, 3, none⟩ v3).setCell ⟨p, 4, none⟩ v4).setCell ⟨p, 5, none⟩ v5) := by
 have h0 := (ay B W).setCell (p := ⟨p, 0, none⟩) hp v0; have h1 := h0.setCell (p := ⟨p, 1, none⟩) hp v1; have h2 := h1.setCell (p := ⟨p, 2, none⟩) hp v2; have h3 := h2.setCell (p := ⟨p, 3, none⟩) hp v3; have h4 := h3.setCell (p := ⟨p, 4, none⟩) hp v4; exact h4.setCell (p := ⟨p, 5, none⟩) hp v5
def jg6 (w : World) (b : Nat) (k : Int) : World := (((((w.setCell ⟨b, 0, none⟩ (.int .i64 k)).setCell ⟨b, 1, none⟩ (.string ⟨#[]⟩)).setCell ⟨b, 2, none⟩ (.string ⟨#[]⟩)).setCell ⟨b, 3, none⟩ (.slice none 0 0)).setCell ⟨b, 4, none⟩ (.string ⟨#[]⟩)).setCell ⟨b, 5, none⟩ (.bool false)
theorem jfQ {s : Ses} (h : SB w b s v lv) (k : Int) : SB (jg6 w b k) b (atS k) (.slice none 0 0) lv := six7 h
theorem jfR (w : World) (hn : n <= b) (k : Int) : Below n w (jg6 w b k) := low7 _ _ _ _ _ _ _ hn
theorem jjz (k : Int) (hg : g ≠ b) : (jg6 w b k).heap[g]? = w.heap[g]? := by
 unfold jg6; rw [aC _ _ _ _ hg, aC _ _ _ _ hg, aC _ _ _ _ hg, aC _ _ _ _ hg, aC _ _ _ _ hg, aC _ _ _ _ hg]
theorem jds (b : Nat) (k : Int) (s : Ses) (v lv : Value) (w : World) (h : SB w b s v lv) :
 Calls Tryz.prog 174 #[.pointer (some ⟨b, 0, none⟩), .int .i64 k] w fun e w' => e = .returned (.tuple #[]) /\ w' = jg6 w b k := by
 obtain ⟨⟨x0, x1, x2, x3, x4, x5, x6⟩, dI⟩ := zH h; have f0 := dI 0; have f1 := dI 1; have f2 := dI 2; have f3 := dI 3; have f4 := dI 4; have f5 := dI 5; clear dI h; go_enter Tryz.func174, Tryz.ntmps174; go_wp2; go_end0; exact ⟨rfl, rfl⟩
theorem jbH (n b B : Nat) (k : Int) (s : Ses) (v lv : Value) (w : World) (h : SB w b s v lv) (hn : n <= b) :
 Calls Tryz.prog 174 #[.pointer (some ⟨b, 0, none⟩), .int .i64 k] w (DoP' n b B w (atS k) lv) := by
 refine (jds b k s v lv w h).mono ?_; rintro e u ⟨rfl, rfl⟩; exact ⟨rfl, ⟨_, jfQ h k, OwnL.nil _ _⟩, jfR _ hn k⟩
theorem jik (a l : ByteArray) (w : World) (ha : a.size <= 100) (hl : a.size <= l.size) :
 Calls Tryz.prog 132 #[.string a, .string l] w fun e w' => e = .returned (.tuple #[.string (l.extract a.size l.size), .bool ((low (l.extract 0 a.size)).toList == (low a).toList)]) /\ Below w.heap.size w w' := by
 have h1 : ¬ (l.size : Int) < (a.size : Int) := by omega
 have h2 : (a.size : Int) <= (l.size : Int) := by omega
 have hz : (l.extract 0 a.size).size <= 2000 := by rw [ByteArray.size_extract]; omega
 have HM := hid (jnt (l.extract 0 a.size) a w hz ha); obtain ⟨q, hq⟩ : ∃ q, q = ((low (l.extract 0 a.size)).toList == (low a).toList) := ⟨_, rfl⟩; rw [<- hq] at HM ⊢; clear hq hz; go_enter Tryz.func132, Tryz.ntmps132; go_wp2_with fail; refine HM.out.mono ?_; rintro e u ⟨rfl, hb⟩; go_wp2; go_ret2; exact ⟨rfl, hb⟩
theorem je1 (a l : ByteArray) (w : World) (hl : l.size < a.size) :
 Calls Tryz.prog 132 #[.string a, .string l] w fun e w' => e = .returned (.tuple #[.string ⟨#[]⟩, .bool false]) /\ Below w.heap.size w w' := by
 have h1 : (l.size : Int) < (a.size : Int) := by omega
 go_enter Tryz.func132, Tryz.ntmps132; go_wp2; go_ret2; exact ⟨rfl, ay _ _⟩
def BhP (w : World) (o : Option (List UInt8)) (e : Ending) (w' : World) : Prop :=
 match o with
 | some r => e = .returned (.tuple #[.string (S r), .bool true]) /\ Below w.heap.size w w'
 | none => (∃ t, e = .returned (.tuple #[.string t, .bool false])) /\ Below w.heap.size w w'
theorem jbI (wd line : List UInt8) (w : World) (hw : wd.length <= 100) (hl : lowL wd = wd) :
 Calls Tryz.prog 132 #[.string (S wd), .string (S line)] w (BhP w (zG wd line)) := by
 by_cases h : line.length < wd.length
 . refine (je1 (S wd) (S line) w (by rw [jb, jb]; exact h)).mono ?_; rintro e u ⟨rfl, hb⟩; have : zG wd line = none := by
    unfold zG; rw [if_neg]; intro e; have e2 := congrArg List.length e; rw [lowL, bI, bp] at e2; omega
   rw [this]; exact ⟨⟨_, rfl⟩, hb⟩
 . refine (jik (S wd) (S line) w (by rw [jb]; exact hw) (by rw [jb, jb]; omega)).mono ?_; rintro e u ⟨rfl, hb⟩; rw [qe, jb, jdp]; have hq : ((low (S (line.take wd.length))).toList == (low (S wd)).toList) = decide (lowL (line.take wd.length) = wd) := by
    rw [aW, aW, jhO, jhO, ji, ji, hl]
    by_cases e : lowL (line.take wd.length) = wd
    . rw [e]; simp
    . simp [e]
   rw [hq]; unfold zG
   by_cases e : lowL (line.take wd.length) = wd
   . rw [if_pos e]; exact ⟨by simp [e], hb⟩
   . rw [if_neg e]; exact ⟨⟨S (line.drop wd.length), by simp [e]⟩, hb⟩
theorem jih (t : List UInt8) : jdq (60 :: t) = (t.getLast? == some 62) := by
 unfold jdq; cases t with
 | nil => simp
 | cons x t =>
   have e : (60 :: x :: t).getLast? = (x :: t).getLast? := List.getLast?_cons_cons; rw [e]; simp
theorem jjW {t : List UInt8} (h : (t.head? == some 60) = false) : jdq t = false := by
 unfold jdq; rw [h]; simp
def jkU : Option Adr -> Value
 | none => .tuple #[.agg #[.string ⟨#[]⟩, .string ⟨#[]⟩], .bool false]
 | some a => .tuple #[.agg #[.string (S a.1), .string (S a.2)], .bool true]
def CuP (w : World) (t : List UInt8) (q : Bool) (e : Ending) (w' : World) : Prop := e = .returned (.tuple #[.string (S t), .bool q]) /\ w' = w
theorem jpl (t : List UInt8) (c : UInt8) (w : World) (ht : t.length <= 2000) :
 Calls Tryz.prog 211 #[.string (S t), .string ⟨#[c]⟩] w (CuP w (if (t.head? == some c) = true then t.drop 1 else t) (t.head? == some c)) := by
 have hp := jek t c; cases h : (t.head? == some c) with
 | true =>
   rw [h] at hp; refine (jiw (S t) ⟨#[c]⟩ w (by rw [jb]; omega) (by rw [ji]; exact hp)).mono ?_; rintro e u ⟨rfl, rfl⟩; exact ⟨by rw [show (⟨#[c]⟩ : ByteArray).size = 1 from rfl, qe]; rfl, rfl⟩
 | false =>
   rw [h] at hp; refine (jkc (S t) ⟨#[c]⟩ w (by rw [jb]; omega) (by rw [ji]; exact hp)).mono ?_; rintro e u ⟨rfl, rfl⟩; exact ⟨rfl, rfl⟩
theorem jpm (t : List UInt8) (c : UInt8) (w : World) (ht : t.length <= 2000) :
 Calls Tryz.prog 212 #[.string (S t), .string ⟨#[c]⟩] w (CuP w (if (t.getLast? == some c) = true then t.dropLast else t) (t.getLast? == some c)) := by
 have hp := jqh t c; cases h : (t.getLast? == some c) with
 | true =>
   rw [h] at hp; refine (jix (S t) ⟨#[c]⟩ w (by rw [jb]; omega) (by rw [ji]; exact hp)).mono ?_; rintro e u ⟨rfl, rfl⟩; exact ⟨by rw [show (⟨#[c]⟩ : ByteArray).size = 1 from rfl, jdp, jb, List.dropLast_eq_take]; rfl, rfl⟩
 | false =>
   rw [h] at hp; refine (jkd (S t) ⟨#[c]⟩ w (by rw [jb]; omega) (by rw [ji]; exact hp)).mono ?_; rintro e u ⟨rfl, rfl⟩; exact ⟨rfl, rfl⟩
theorem jpo (t : List UInt8) (c : UInt8) : (Lib.cut t [c]).1.length <= t.length /\ (Lib.cut t [c]).2.1.length <= t.length := by
 by_cases h : c ∈ t
 . obtain ⟨a, b, rfl, ha⟩ := jhe h; rw [je7 ha]
   simp
   omega
 . rw [jgw h]
   simp
theorem ji7 {u : World} {x0 x1 : Value} (hb : Below (((w.alloc (.cells #[v0, v1] t)).drewN n).alloc (.cells #[x0, x1] t)).heap.size (((w.alloc (.cells #[v0, v1] t)).drewN n).alloc (.cells #[x0, x1] t)) u) :
 u.heap[w.heap.size]? = some (.cells #[v0, v1] t) /\ u.heap[w.heap.size + 1]? = some (.cells #[x0, x1] t) := by
 have e : ((w.alloc (.cells #[v0, v1] t)).drewN n).heap.size = w.heap.size + 1 := by simp
 constructor
 . refine (hb.block _ ?_).trans ?_
   . simp
     omega
   . exact jco _ (show ((w.alloc (.cells #[v0, v1] t)).drewN n).heap[w.heap.size]? = _ from az w _)
 . refine (hb.block _ ?_).trans ?_
   . simp
   . exact jgC _ e.symm
theorem jdG (h : w.heap[p]? = some (.cells cs t)) (j : Nat) : w.frozen? ⟨p, j, none⟩ = false := by simp [World.frozen?, h]
theorem jbb (t : List UInt8) (w : World) (ht : t.length <= 2000) :
 Calls Tryz.prog 177 #[.string (S t)] w fun e w' => e = .returned (jkU (jbG t)) /\ Below w.heap.size w w' := by
 obtain ⟨T1, eR⟩ : ∃ T1, T1 = if (t.head? == some 60) = true then t.drop 1 else t := ⟨_, rfl⟩
 obtain ⟨T2, ld⟩ : ∃ T2, T2 = if (T1.getLast? == some 62) = true then T1.dropLast else T1 := ⟨_, rfl⟩
 have dy : T1.length <= 2000 := by rw [eR]; split <;> (try rw [List.length_drop]) <;> omega
 have hl2 : T2.length <= 2000 := by rw [ld]; split <;> (try rw [List.length_dropLast]) <;> omega
 have oI := hid (fun u => jpl t 60 u ht); have fZ := hid (fun u => jpm T1 62 u dy); have kK := hid (fun u => cut1_any (S T2) 64 u (by rw [jb]; omega)); rw [ji] at kK; rw [<- eR] at oI; rw [<- ld] at fZ; obtain ⟨L, hL⟩ : ∃ L, L = (Lib.cut T2 [64]).1 := ⟨_, rfl⟩; obtain ⟨D, hD⟩ : ∃ D, D = (Lib.cut T2 [64]).2.1 := ⟨_, rfl⟩; obtain ⟨q3, oy⟩ : ∃ q3, q3 = (Lib.cut T2 [64]).2.2 := ⟨_, rfl⟩; have km := jpo T2 64; rw [<- hL, <- hD] at km; have HK := hid (fun u => zM (S L) (S D) u (by rw [jb]; omega) (by rw [jb]; omega)); rw [ji, ji] at HK; have gF := hid (ja3 L D); obtain ⟨q1, dV⟩ : ∃ q1, q1 = (t.head? == some 60) := ⟨_, rfl⟩; obtain ⟨q2, dW⟩ : ∃ q2, q2 = (T1.getLast? == some 62) := ⟨_, rfl⟩; have HR := hid (show jbG t = if (q1 && q2 && q3 && qH (L, D)) = true then some (L, D) else none by
  cases q1 with
  | false =>
    unfold jbG; rw [jjW dV.symm]
    simp
  | true =>
    obtain ⟨t', rfl⟩ : ∃ t', t = 60 :: t' := by
        cases t with
        | nil => cases dV
        | cons x t' => exact ⟨t', by simp at dV; rw [dV]⟩
    have e1 : T1 = t' := by rw [eR]; simp
    have ea : jdq (60 :: t') = q2 := by rw [jih, dW, e1]
    unfold jbG; rw [ea]; cases q2 with
    | false => simp
    | true =>
      have e2 : jdB (60 :: t') = T2 := by rw [ld, if_pos dW.symm, e1]; rfl
      rw [e2, <- hL, <- hD, <- oy]
      simp)
 rw [<- dV] at oI; rw [<- dW] at fZ; rw [<- hL, <- hD, <- oy] at kK; have HAD := hid (show qH (L, D) = decide (jP L D = 0) from rfl); obtain ⟨z, hz⟩ : ∃ z, z = jP L D := ⟨_, rfl⟩; rw [<- hz] at HAD gF HK; obtain ⟨A, hA⟩ : ∃ A, A = jbG t := ⟨_, rfl⟩; rw [<- hA] at HR ⊢; have bX := hid (show Below w.heap.size w (w.alloc (.cells #[.string ⟨#[]⟩, .string ⟨#[]⟩] 73)) from nb0 _ _); have bY := hid (fun n o => show Below w.heap.size w (((w.alloc (.cells #[.string ⟨#[]⟩, .string ⟨#[]⟩] 73)).drewN n).alloc o) from (qG bX.out n).alloc (by simp) o); have bZ := hid (fun n o => show Below w.heap.size w (((((w.alloc (.cells #[.string ⟨#[]⟩, .string ⟨#[]⟩] 73)).drewN n).setCell ⟨w.heap.size, 0, none⟩ (.string ⟨#[]⟩)).setCell ⟨w.heap.size, 1, none⟩ (.string ⟨#[]⟩)).alloc o) from (((qG bX.out n).setCell (p := ⟨w.heap.size, 0, none⟩) (ai _) _).setCell (p := ⟨w.heap.size, 1, none⟩) (ai _) _).alloc (by simp [World.setCell]) o); clear eR ld dy hl2 hL hD dV dW oy km hz hA ht; go_enter Tryz.func177, Tryz.ntmps177; go_wp2_with fail; refine (oI.out _).mono ?_; rintro e u ⟨rfl, hu⟩; have b6 := hu.symm; subst b6; clear hu; go_wp2_with fail; refine (fZ.out _).mono ?_; rintro e u ⟨rfl, hu⟩; have b6 := hu.symm; subst b6; clear hu; go_wp2_with fail; refine (kK.out _).mono ?_; rintro e u ⟨rfl, n, hu⟩; have b6 := hu.symm; subst b6; clear hu; cases q1 with
 | false =>
   have HE := hid (show A = none by rw [HR.out]; simp); go_wp2; refine aD (v := .tuple #[.agg #[.string ⟨#[]⟩, .string ⟨#[]⟩], .bool false]) (by simp [results, Tryz.results177, go_sem, *]) rfl ?_; exact ⟨by rw [HE.out]; rfl, bZ.out n _⟩
 | true =>
   cases q2 with
   | false =>
     have HE := hid (show A = none by rw [HR.out]; simp); go_wp2; refine aD (v := .tuple #[.agg #[.string ⟨#[]⟩, .string ⟨#[]⟩], .bool false]) (by simp [results, Tryz.results177, go_sem, *]) rfl ?_; exact ⟨by rw [HE.out]; rfl, bZ.out n _⟩
   | true =>
     cases q3 with
     | false =>
       have HE := hid (show A = none by rw [HR.out]; simp); go_wp2; refine aD (v := .tuple #[.agg #[.string ⟨#[]⟩, .string ⟨#[]⟩], .bool false]) (by simp [results, Tryz.results177, go_sem, *]) rfl ?_; exact ⟨by rw [HE.out]; rfl, bZ.out n _⟩
     | true =>
       go_wp2_with fail; refine (HK.out _).mono ?_; rintro e u ⟨rfl, hb⟩; obtain ⟨gI, cI⟩ := ji7 hb; obtain ⟨m0, m1⟩ := qU gI; obtain ⟨m2, m3⟩ := qU cI; have g0 := jdG gI 0; have g1 := jdG gI 1; have dh := hid (jjL (bY.out n _) hb (ai _)); have dX := hid (fun a b => (dh.out.setCell (p := ⟨w.heap.size, 0, none⟩) (ai _) a).setCell (p := ⟨w.heap.size, 1, none⟩) (ai _) b); have eA := za (j := 1) (u := .string (S D)) (za (j := 0) (u := .string (S L)) gI); have df := za (j := 1) (u := .string ⟨#[]⟩) (za (j := 0) (u := .string ⟨#[]⟩) gI); simp only [af, ag, ah] at eA df; obtain ⟨m4, m5⟩ := qU eA; obtain ⟨m6, m7⟩ := qU df; clear hb gI cI eA df
       rcases gF.out with rfl | rfl | rfl
       . have HE := hid (show A = some (L, D) by rw [HR.out, HAD.out]; rfl); go_wp2; refine aD (v := .tuple #[.agg #[.string (S L), .string (S D)], .bool true]) (by simp [results, Tryz.results177, go_sem, *]; exact ⟨rfl, rfl⟩) rfl ?_; exact ⟨by rw [HE.out]; rfl, dX.out _ _⟩
       . have HE := hid (show A = none by rw [HR.out, HAD.out]; rfl); go_wp2; refine aD (v := .tuple #[.agg #[.string ⟨#[]⟩, .string ⟨#[]⟩], .bool false]) (by simp [results, Tryz.results177, go_sem, *]) rfl ?_; exact ⟨by rw [HE.out]; rfl, dX.out _ _⟩
       . have HE := hid (show A = none by rw [HR.out, HAD.out]; rfl); go_wp2; refine aD (v := .tuple #[.agg #[.string ⟨#[]⟩, .string ⟨#[]⟩], .bool false]) (by simp [results, Tryz.results177, go_sem, *]) rfl ?_; exact ⟨by rw [HE.out]; rfl, dX.out _ _⟩
theorem SesW.next {s : Ses} (h : SesW w b B s lv) (hb : Below w.heap.size w w') : SesW w' b B s lv := by
 obtain ⟨v, h1, h2⟩ := h; exact ⟨v, jW hb h1, jV h2 hb⟩
theorem SB.lt {s : Ses} (h : SB w b s v lv) : b < w.heap.size := (aj.1 h).1
theorem jge {s : Ses} (h : SB w b s v lv) (hn : n <= b) (hb : Below w.heap.size w w') : Below n w w' := hb.mono (by have := h.lt; omega)
theorem jkC (n b B : Nat) (t : List UInt8) (s : Ses) (lv : Value) (w : World) (h : SesW w b B s lv) (hn : n <= b) (ht : t.length <= 2000) :
 Calls Tryz.prog 133 #[.pointer (some ⟨b, 0, none⟩), .string (S t)] w (ObP n b B w (jbh s t) lv) := by
 obtain ⟨v, hs, ho⟩ := h; have HK := hid (zM ⟨#[120]⟩ (S t) w (by decide) (by rw [jb]; omega)); rw [ji] at HK; have gF := hid (ja3 [120] t); have HG := hid (show jbh s t = if jP [120] t = 0 then (atS 1, 250) else (s, 501) by unfold jbh qH; by_cases h : jP [120] t = 0 <;> simp [h]); have e120 : (⟨#[120]⟩ : ByteArray).data.toList = [120] := rfl; rw [e120] at HK; clear e120; obtain ⟨z, hz⟩ : ∃ z, z = jP [120] t := ⟨_, rfl⟩; rw [<- hz] at HK gF HG; have HS := hid hs; have HO := hid ho; clear hz hs ho ht; go_enter Tryz.func133, Tryz.ntmps133; go_wp2_with fail; refine HK.out.mono ?_; rintro e u ⟨rfl, hb⟩; have HB := hid (jge HS.out hn hb); have cJ := hid (jW hb HS.out); have dQ := hid (jV HO.out hb); clear hb
 rcases gF.out with rfl | rfl | rfl
 . have fO := hid (jbH n b B 1 s v lv u cJ.out hn); go_wp2_with fail; refine fO.out.mono ?_; rintro e u2 ⟨rfl, hw, hb2⟩; have HE := hid (show ObP n b B w (jbh s t) lv (.returned (.int .i64 250)) u2 by rw [HG.out]; exact ⟨rfl, hw, HB.out.trans hb2⟩); clear hw hb2; go_wp2; go_ret; exact HE.out
 . have HE := hid (show ObP n b B w (jbh s t) lv (.returned (.int .i64 501)) u by rw [HG.out]; exact ⟨rfl, ⟨v, cJ.out, dQ.out⟩, HB.out⟩); go_wp2; go_ret; exact HE.out
 . have HE := hid (show ObP n b B w (jbh s t) lv (.returned (.int .i64 501)) u by rw [HG.out]; exact ⟨rfl, ⟨v, cJ.out, dQ.out⟩, HB.out⟩); go_wp2; go_ret; exact HE.out
theorem jdV (n b B : Nat) (s : Ses) (lv : Value) (w : World) (h : SesW w b B s lv) (hn : n <= b) :
 Calls Tryz.prog 180 #[.pointer (some ⟨b, 0, none⟩)] w (ObP n b B w (jd4 s) lv) := by
 obtain ⟨v, hs, ho⟩ := h; obtain ⟨⟨x0, x1, x2, x3, x4, x5, x6⟩, dI⟩ := zH hs; have f0 := dI 0; obtain ⟨k, hk⟩ : ∃ k, k = s.step := ⟨_, rfl⟩; rw [<- hk] at x0
 by_cases h3 : k = 3
 . subst h3; have HE := hid (show ObP n b B w (jd4 s) lv (.returned (.int .i64 354)) (w.setCell ⟨b, 0, none⟩ (.int .i64 4)) by
    unfold jd4; rw [if_pos hk.symm]; refine ⟨rfl, ⟨v, ?_, zQ ho hs⟩, (ay _ _).setCell (p := ⟨b, 0, none⟩) hn _⟩; have := za (j := 0) (u := .int .i64 4) hs; simp only [af, ah] at this; exact this)
   clear hs ho dI hk; go_enter Tryz.func180, Tryz.ntmps180; go_wp2; go_ret; exact HE.out
 . have HE := hid (show ObP n b B w (jd4 s) lv (.returned (.int .i64 503)) w by
    unfold jd4; rw [if_neg (by rw [<- hk]; exact h3)]; exact ⟨rfl, ⟨v, hs, ho⟩, ay _ _⟩)
   clear hs ho dI hk; go_enter Tryz.func180, Tryz.ntmps180; go_wp2; go_ret; exact HE.out
theorem jlK (n b B : Nat) (s : Ses) (lv : Value) (w : World) (h : SesW w b B s lv) (hn : n <= b) :
 Calls Tryz.prog 181 #[.pointer (some ⟨b, 0, none⟩)] w (DoP' n b B w (jet s) lv) := by
 obtain ⟨v, hs, ho⟩ := h; obtain ⟨⟨x0, x1, x2, x3, x4, x5, x6⟩, dI⟩ := zH hs; have fO := hid (jbH n b B 1 s v lv w hs hn); obtain ⟨k, hk⟩ : ∃ k, k = s.step := ⟨_, rfl⟩; rw [<- hk] at x0
 by_cases h0 : k = 0
 . have HE := hid (show DoP' n b B w (jet s) lv (.returned (.tuple #[])) w by
    unfold jet; rw [if_pos (by rw [<- hk]; exact h0)]; exact ⟨rfl, ⟨v, hs, ho⟩, ay _ _⟩)
   subst h0; clear hs ho dI hk; go_enter Tryz.func181, Tryz.ntmps181; go_wp2; go_end0; exact HE.out
 . have HG := hid (show jet s = atS 1 by unfold jet; rw [if_neg (by rw [<- hk]; exact h0)]); clear hs ho dI hk; go_enter Tryz.func181, Tryz.ntmps181; go_wp2_with fail; refine fO.out.mono ?_; rintro e u2 ⟨rfl, hw, hb2⟩; have HE := hid (show DoP' n b B w (jet s) lv (.returned (.tuple #[])) u2 by rw [HG.out]; exact ⟨rfl, hw, hb2⟩); clear hw hb2; go_wp2; go_end0; exact HE.out
theorem jey (n b B : Nat) (t : List UInt8) (s : Ses) (lv : Value) (w : World) (h : SesW w b B s lv) (hn : n <= b) (ht : t.length <= 2000) :
 Calls Tryz.prog 134 #[.pointer (some ⟨b, 0, none⟩), .string (S t)] w (ObP n b B w (jde s t) lv) := by
 obtain ⟨v, hs, ho⟩ := h; obtain ⟨⟨x0, x1, x2, x3, x4, x5, x6⟩, dI⟩ := zH hs; have HA := hid (jbb t w ht); obtain ⟨k, hk⟩ : ∃ k, k = s.step := ⟨_, rfl⟩; rw [<- hk] at x0
 by_cases h1 : k = 1
 . have HG := hid (show jde s t = jk5 s (jbG t) by unfold jde; rw [if_pos (by rw [<- hk]; exact h1)]); subst h1; obtain ⟨A, hA⟩ : ∃ A, A = jbG t := ⟨_, rfl⟩; rw [<- hA] at HA HG; have HS := hid hs; have HO := hid ho; clear hs ho dI hk hA; go_enter Tryz.func134, Tryz.ntmps134; go_wp2_with fail; refine HA.out.mono ?_; rintro e u ⟨rfl, hb⟩; have HB := hid (jge HS.out hn hb); have cJ := hid (jW hb HS.out); have dQ := hid (jV HO.out hb); have nO := hid (show n <= u.heap.size from aN (aN hn (bi (SB.lt HS.out))) hb.size); clear hb x0 x1 x2 x3 x4 x5 x6; cases A with
   | none =>
     simp only [jkU]; have HE := hid (show ObP n b B w (jde s t) lv (.returned (.int .i64 501)) (u.alloc (.cells #[.string ⟨#[]⟩, .string ⟨#[]⟩] 73)) by
        have hq : Below u.heap.size u (u.alloc (.cells #[.string ⟨#[]⟩, .string ⟨#[]⟩] 73)) := nb0 _ _; rw [HG.out]; exact ⟨rfl, ⟨v, jW hq cJ.out, jV dQ.out hq⟩, HB.out.trans (hq.mono nO.out)⟩)
     go_wp2; go_ret; exact HE.out
   | some a =>
     simp only [jkU]; obtain ⟨W3, hW3⟩ : ∃ W3, W3 = u.alloc (.cells #[.string (S a.1), .string (S a.2)] 73) := ⟨_, rfl⟩; have cM := hid hW3; have hq : Below u.heap.size u W3 := by rw [hW3]; exact nb0 _ _
     have sd : SB W3 b s v lv := jW hq cJ.out; have dC := jV dQ.out hq; obtain ⟨⟨y0, y1, y2, y3, y4, y5, y6⟩, eC⟩ := zH sd; have g0 := eC 0; have g1 := eC 1; have g2 := eC 2; obtain ⟨m0, m1⟩ := qU (show W3.heap[u.heap.size]? = some (.cells #[.string (S a.1), .string (S a.2)] 73) by rw [hW3]; exact az u _); have HE := hid (show ObP n b B w (jde s t) lv (.returned (.int .i64 250)) (((W3.setCell ⟨b, 1, none⟩ (.string (S a.1))).setCell ⟨b, 2, none⟩ (.string (S a.2))).setCell ⟨b, 0, none⟩ (.int .i64 2)) by
        rw [HG.out]; have h1 := za (j := 1) (u := .string (S a.1)) sd; have h2 := za (j := 2) (u := .string (S a.2)) h1; have h3 := za (j := 0) (u := .int .i64 2) h2; simp only [af, ah, ag] at h3; refine ⟨rfl, ⟨v, h3, zQ (zQ (zQ dC sd) h1) h2⟩, ?_⟩; exact (((HB.out.trans (hq.mono nO.out)).setCell (p := ⟨b, 1, none⟩) hn _).setCell (p := ⟨b, 2, none⟩) hn _).setCell (p := ⟨b, 0, none⟩) hn _)
     clear hW3 hq sd dC eC; go_upto_region 4 with fail
     rw [<- cM.out]; go_wp2; go_ret; exact HE.out
 . have HE := hid (show ObP n b B w (jde s t) lv (.returned (.int .i64 503)) w by
    unfold jde; rw [if_neg (by rw [<- hk]; exact h1)]; exact ⟨rfl, ⟨v, hs, ho⟩, ay _ _⟩)
   clear hs ho dI hk; go_enter Tryz.func134, Tryz.ntmps134; go_wp2; go_ret; exact HE.out
theorem joO (h : OwnL w B v l) (hb : w.heap[b]? = some (.cells cs 163)) : some b ≠ v.ownBlock := by
 rcases h.2 with ⟨rfl, _⟩ | ⟨g, cap, cur, rfl, hB, hg, hr⟩
 . simp [Value.ownBlock]
 . intro e
   simp [Value.ownBlock] at e
   rw [<- e, hb] at hg
   simp at hg
theorem jpJ (h : OwnL w B v l) : ∀ k, v.ownBlock = some k -> B <= k := by
 intro k hk
 rcases h.2 with ⟨rfl, _⟩ | ⟨g, cap, cur, rfl, hB, hg, hr⟩
 . simp [Value.ownBlock] at hk
 . simp [Value.ownBlock] at hk
   omega
theorem jhP (w : World) (x y : Value) (t : TypeId) (H : Nat) (hH : w.heap.size = H) : ∀ (j : Nat) u, [x, y][j]? = some u -> (w.alloc (.cells #[x, y] t)).cell? ((⟨H, 0, none⟩ : Addr).add j) = some u := by
 intro j u hj; subst hH; rw [bg, bc]
 match j, hj with
 | 0, hj => simp at hj; subst hj; simp
 | 1, hj => simp at hj; subst hj; simp
theorem jnc {gm : Nat} {WA w5 : World} {s : Ses} {a : Adr} (hs : SB W b s v lv) (ho : OwnL W B v s.to) (hn : n <= b) (hB : n <= B) (h0 : Below n w W) (ie : Below W.heap.size W WA) (hg : WA.grownBy w5 v.ownBlock)
 (hown : w5.ownsRow B 73 2 (.slice (some ⟨gm, 0, none⟩) (s.to.length + 1) cap) (s.to.length + 1) (qs s.to ++ [.string (S a.1), .string (S a.2)])) :
 SesW ((w5.setCell ⟨b, 3, none⟩ (.slice (some ⟨gm, 0, none⟩) (s.to.length + 1) cap)).setCell ⟨b, 0, none⟩ (.int .i64 3)) b B ⟨3, s.frm, s.to ++ [a], s.text, s.large⟩ lv /\
  Below n w ((w5.setCell ⟨b, 3, none⟩ (.slice (some ⟨gm, 0, none⟩) (s.to.length + 1) cap)).setCell ⟨b, 0, none⟩ (.int .i64 3)) := by
 have hlt := SB.lt hs; have uK : WA.heap[b]? = _ := jW ie hs; have cV : w5.heap[b]? = _ := (hg.block b (aK hlt ie.size) (joO ho hs)).trans uK; have h1 := za (j := 3) (u := .slice (some ⟨gm, 0, none⟩) (s.to.length + 1) cap) cV; have h2 := za (j := 0) (u := .int .i64 3) h1; simp only [af, ah, ag] at h2; have hO : OwnL w5 B (.slice (some ⟨gm, 0, none⟩) (s.to.length + 1) cap) (s.to ++ [a]) := by
  unfold OwnL; rw [jgo, aB]; exact hown
 refine ⟨⟨_, h2, zQ (zQ hO cV) h1⟩, ?_⟩; have hbl : Below n w w5 := (h0.trans (ie.mono (by omega))).grown hg (by have := h0.size; have := ie.size; omega) (fun k hk => aN hB (jpJ ho k hk)); exact (hbl.setCell (p := ⟨b, 3, none⟩) hn _).setCell (p := ⟨b, 0, none⟩) hn _
theorem jgb (n b B : Nat) (t : List UInt8) (known : List (List UInt8)) (kv : Value) (s : Ses) (lv : Value) (w : World) (h : SesW w b B s lv) (hn : n <= b) (hB : n <= B) (ht : t.length <= 2000) (hk : TxtsM (· < n) w kv known) (h5 : s.to.length <= 1000) (cS : B <= w.heap.size) :
 Calls Tryz.prog 135 #[.pointer (some ⟨b, 0, none⟩), .string (S t), kv] w (ObP n b B w (jbs s known t) lv) := by
 obtain ⟨ak, ck, rfl⟩ : ∃ a c, kv = .slice a known.length c := by obtain ⟨a, c, h, _⟩ := hk; exact ⟨a, c, h⟩
 obtain ⟨v, hs, ho⟩ := h; obtain ⟨av, cv, rfl⟩ := ho.slice; obtain ⟨⟨x0, x1, x2, x3, x4, x5, x6⟩, dI⟩ := zH hs; have HA := hid (jbb t w ht); have HH := hid hk; have HS := hid hs; have HO := hid ho; obtain ⟨k, hk2⟩ : ∃ k, k = s.step := ⟨_, rfl⟩; rw [<- hk2] at x0
 by_cases mg : s.step = 2 ∨ s.step = 3
 . have HG := hid (show jbs s known t = jh1 s known (jbG t) by unfold jbs; rw [if_pos mg]); rw [<- hk2] at mg; obtain ⟨A, hA⟩ : ∃ A, A = jbG t := ⟨_, rfl⟩; rw [<- hA] at HA HG; have BO : (s.to.length : Int) <= 1000 := by omega
   obtain ⟨i0, hi', hz0, hz1, hz2⟩ := info_parts jhL; clear hs ho dI hk2 hA hk
   rcases mg with rfl | rfl
   all_goals
    go_enter Tryz.func135, Tryz.ntmps135; go_wp2_with fail; refine HA.out.mono ?_; rintro e u ⟨rfl, hb⟩; have HB := hid (jge HS.out hn hb); have cJ := hid (jW hb HS.out); have dQ := hid (jV HO.out hb); have nO := hid (show n <= u.heap.size from aN (aN hn (bi (SB.lt HS.out))) hb.size); clear hb x0 x1 x2 x3 x4 x5 x6; cases A with
    | none =>
      simp only [jkU]; have HE := hid (show ObP n b B w (jbs s known t) lv (.returned (.int .i64 501)) (u.alloc (.cells #[.string ⟨#[]⟩, .string ⟨#[]⟩] 73)) by
       have hq : Below u.heap.size u (u.alloc (.cells #[.string ⟨#[]⟩, .string ⟨#[]⟩] 73)) := nb0 _ _; rw [HG.out]; exact ⟨rfl, ⟨_, jW hq cJ.out, jV dQ.out hq⟩, HB.out.trans (hq.mono nO.out)⟩)
      go_wp2; go_ret; exact HE.out
    | some a =>
      simp only [jkU]; obtain ⟨W3, hW3⟩ : ∃ W3, W3 = u.alloc (.cells #[.string (S a.1), .string (S a.2)] 73) := ⟨_, rfl⟩; have cM := hid hW3; have hq : Below u.heap.size u W3 := by rw [hW3]; exact nb0 _ _
      have dv := hid (show SB W3 b s (.slice av s.to.length cv) lv from jW hq cJ.out); have db := hid (jV dQ.out hq); have bZ := hid (show Below n w W3 from HB.out.trans (hq.mono nO.out)); have df : W3.heap[u.heap.size]? = some (.cells #[.string (S a.1), .string (S a.2)] 73) := by rw [hW3]; exact az u _
      have fq := hid df; obtain ⟨m0, m1⟩ := qU df; have wX := hid (vF (· < n) known a.1 ak ck W3 (HH.out.nextB bZ.out)); obtain ⟨q, dV⟩ : ∃ q, q = known.contains a.1 := ⟨_, rfl⟩; have mN := hid (show jh1 s known (some a) = if q = false then (s, 550) else if s.to.contains a then (s, 250) else if 5 <= s.to.length then (s, 452) else (⟨3, s.frm, s.to ++ [a], s.text, s.large⟩, 250) by rw [dV]; rfl); rw [<- dV] at wX; clear hW3 hq df dV cJ dQ HB nO; go_upto_region 4 with fail
      rw [<- cM.out]; go_wp2_with fail; refine wX.out.mono ?_; rintro e W4 ⟨rfl, hb4⟩; have dK := hid (show SB W4 b s (.slice av s.to.length cv) lv from jW hb4 dv.out); have iT := hid (jV db.out hb4); have ch := hid (show Below n w W4 from bZ.out.trans (hb4.mono (aN hn (bi (SB.lt dv.out))))); have ft := hid (jW hb4 fq.out); clear hb4 m0 m1; cases q with
      | false =>
        have HE := hid (show ObP n b B w (jbs s known t) lv (.returned (.int .i64 550)) W4 by rw [HG.out, mN.out]; exact ⟨rfl, ⟨_, dK.out, iT.out⟩, ch.out⟩); go_wp2; go_ret; exact HE.out
      | true =>
        obtain ⟨⟨y0, y1, y2, y3, y4, y5, y6⟩, eC⟩ := zH dK.out; obtain ⟨m0, m1⟩ := qU ft.out; have oJ := hid (fun u (hu : Below W4.heap.size W4 u) => jbg (B <= ·) s.to a av cv u ((jV iT.out hu).row (by unfold maxLen; omega))); obtain ⟨r, hr⟩ : ∃ r, r = s.to.contains a := ⟨_, rfl⟩; rw [<- hr] at oJ mN; clear hr eC; go_upto_region 8 with fail
        go_cut [37] (fun c wx => c = .bool r /\ Below W4.heap.size W4 wx)
        case first =>
           go_region_held3 (fun w' => w'.cell? ⟨b, 3, none⟩ = some (.slice av s.to.length cv) /\ w'.cell? ⟨u.heap.size, 0, none⟩ = some (.string (S a.1)) /\ w'.cell? ⟨u.heap.size, 1, none⟩ = some (.string (S a.2))) (go_keep)
            (first
              | (go_at_call 178
                 with_reducible refine (oJ.out W4.drew ((ay _ _).drew)).mono ?_
                 rintro e w5 ⟨rfl, hb⟩; have hb2 : Below W4.heap.size W4 w5 := (ay _ _).drew.trans hb; have dh := hid hb2; have k0 := ja y3 hb2; have k1 := ja m0 hb2; have k2 := ja m1 hb2; clear hb hb2)
              | fail)
           all_goals
            go_wp2_with fail
            go_meet
            exact ⟨by first | rfl | simp, dh.out⟩
        case rest =>
           obtain ⟨rfl, hb⟩ := hcut; have kV := hid (show SB wc b s (.slice av s.to.length cv) lv from jW hb dK.out); have nS := hid (jV iT.out hb); have dX := hid (show Below n w wc from ch.out.trans (hb.mono (aN hn (bi (SB.lt dK.out))))); have iC := hid (jW hb ft.out); clear hb y0 y1 y2 y3 y4 y5 y6 m0 m1; cases r with
           | true =>
             have HE := hid (show ObP n b B w (jbs s known t) lv (.returned (.int .i64 250)) wc by rw [HG.out, mN.out]; exact ⟨rfl, ⟨_, kV.out, nS.out⟩, dX.out⟩); go_wp2; go_ret; exact HE.out
           | false =>
             obtain ⟨⟨y0, y1, y2, y3, y4, y5, y6⟩, eC⟩ := zH kV.out; obtain ⟨m0, m1⟩ := qU iC.out; have g0 := eC 0; have g3 := eC 3; clear eC
             by_cases nh : 5 <= s.to.length
             . have BP : (5 : Int) <= (s.to.length : Int) := by omega
               have HE := hid (show ObP n b B w (jbs s known t) lv (.returned (.int .i64 452)) wc by rw [HG.out, mN.out, if_neg (by simp), if_neg (by simp), if_pos nh]; exact ⟨rfl, ⟨_, kV.out, nS.out⟩, dX.out⟩); go_wp2; go_ret; exact HE.out
             . have BP : ¬ (5 : Int) <= (s.to.length : Int) := by omega
               have iy := hid (show jbs s known t = (⟨3, s.frm, s.to ++ [a], s.text, s.large⟩, 250) by rw [HG.out, mN.out, if_neg (by simp), if_neg (by simp), if_neg nh]); have gS := hid (SB.lt kV.out); have gD := hid (show B <= wc.heap.size from aN cS dX.out.size); have iS := hid (joO nS.out kV.out); have HLEN := hid (qv s.to); have y3a : ∀ o : Obj, (wc.alloc o).cell? ⟨b, 3, none⟩ = some (.slice av s.to.length cv) := fun o => jl y3 o
               have m0a : ∀ o : Obj, (wc.alloc o).cell? ⟨u.heap.size, 0, none⟩ = some (.string (S a.1)) := fun o => jl m0 o
               have m1a : ∀ o : Obj, (wc.alloc o).cell? ⟨u.heap.size, 1, none⟩ = some (.string (S a.2)) := fun o => jl m1 o
               clear nh; go_wp2
               go_region_law
                (first
                   | (refine step_append_lies _ (by rfl) _ _ _ (by rfl) B 73 i0 _ 2 32 Tryz.underlying74 hi' hz0 hz1 hz2 rfl (by omega) (.slice av s.to.length cv) s.to.length (qs s.to) (by rfl) (by first | exact aO (show World.ownsRow wc.drew _ _ _ _ _ _ from nS.out) _ | exact (aO nS.out _).drew)
                        ⟨wc.heap.size, 0, none⟩ 1 1 [.string (S a.1), .string (S a.2)] (by rfl) (by rfl) (by first | exact jhP wc.drew _ _ _ _ rfl | exact jhP wc _ _ _ _ rfl) (by simp [Value.oneCell']) (by omega) (by unfold maxLen; omega) (by omega) (by have := gD.out; simp; omega) _ rfl ?_
                      intro gm cap w5 dp hgrow hat fH; have z3 := hgrow.cell (a := ⟨b, 3, none⟩) (jl (w := wc.drew) y3 _) iS.out; have z0 := hgrow.cell (a := ⟨b, 0, none⟩) (jl (w := wc.drew) y0 _) iS.out; have iB := hid (show Below wc.heap.size wc (wc.drew.alloc (.cells #[.string (S a.1), .string (S a.2)] 73)) from (ay _ wc).drew.alloc (ai _) _); have cV := (hgrow.block b (aK gS.out iB.out.size) iS.out).trans (jW iB.out kV.out); have zf3 := jdG cV 3; have zf0 := jdG cV 0; have fR := hid (jnc kV.out nS.out hn hB dX.out iB.out hgrow dp); clear dp hgrow hat cV)
                   | fail)
               all_goals
                have HF := hid (show ObP n b B w (jbs s known t) lv (.returned (.int .i64 250)) ((w5.setCell ⟨b, 3, none⟩ (.slice (some ⟨gm, 0, none⟩) (s.to.length + 1) cap)).setCell ⟨b, 0, none⟩ (.int .i64 3)) by rw [iy.out]; exact ⟨rfl, fR.out.1, fR.out.2⟩); go_wp2; go_ret; exact HF.out
 . have HE := hid (show ObP n b B w (jbs s known t) lv (.returned (.int .i64 503)) w by
    unfold jbs; rw [if_neg mg]; exact ⟨rfl, ⟨_, hs, ho⟩, ay _ _⟩)
   rw [<- hk2] at mg; have h2 : (k != 2) = true := by simp; omega
   have h3 : (k != 3) = true := by simp; omega
   clear hs ho dI hk2 mg; go_enter Tryz.func135, Tryz.ntmps135; go_wp2; go_ret; exact HE.out
end Go.Proofs.YtjdkbdkimbgbfaaGreatDoor
