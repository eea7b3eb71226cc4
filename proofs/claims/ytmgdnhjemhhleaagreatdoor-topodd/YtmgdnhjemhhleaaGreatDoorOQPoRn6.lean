/-
  What post.Run does with acts that may be: the walk, over what each act does.
-/
import Derived.Test.YtmgdnhjemhhleaaGreatDoorOQPoLs4
import Derived.Test.YtmgdnhjemhhleaaGreatDoorRows
set_option maxHeartbeats 4000000
set_option maxRecDepth 100000
namespace Go.Proofs.YtmgdnhjemhhleaaGreatDoor
open Go.RowKit Go.Proofs
theorem AcsM.next {Q : Nat → Prop} {w w' : World} {v : Value} {l : List Acu} (h : AcsM Q w v l) (hb : Below w.heap.size w w') : AcsM Q w' v l := RowM.imp h (fun _ h => h) (Keeps.of_below hb) fun _ _ h => h
theorem AcsM.at {Q : Nat → Prop} {w : World} {a : Option Addr} {n c : Nat} {l : List Acu} (h : AcsM Q w (.slice a n c) l) {i : Nat} {x : Acu} (hx : l[i]? = some x) : ∃ b o, a = some ⟨b, o, none⟩ ∧ w.cell? ⟨b, o + i * 11, none⟩ = some (.int .i64 x.kind) ∧ w.cell? ⟨b, o + i * 11 + 1, none⟩ = some (.int .i64 x.conn) ∧ w.cell? ⟨b, o + i * 11 + 2, none⟩ = some (.int .i64 x.user) ∧ w.cell? ⟨b, o + i * 11 + 3, none⟩ = some (.int .i64 x.keep) ∧ w.cell? ⟨b, o + i * 11 + 4, none⟩ = some (.string (S x.data)) ∧
 w.cell? ⟨b, o + i * 11 + 5, none⟩ = some (.int .i64 x.ent.kind) ∧ w.cell? ⟨b, o + i * 11 + 6, none⟩ = some (.string (S x.ent.box)) ∧ w.cell? ⟨b, o + i * 11 + 7, none⟩ = some (.int .i64 x.ent.uid) ∧ w.cell? ⟨b, o + i * 11 + 8, none⟩ = some (.int .i64 x.ent.flags) ∧ w.cell? ⟨b, o + i * 11 + 9, none⟩ = some (.string (S x.ent.goal)) ∧ w.cell? ⟨b, o + i * 11 + 10, none⟩ = some (.string (S x.ent.text)) := by
 obtain ⟨a', c', hv, _, hr⟩ := h; simp only [Value.slice.injEq] at hv; obtain ⟨b, o, cs, ha, _, _, _, hc, hP⟩ := hr i x hx; have hcs : cs = acuC x := hP; subst hcs; exact ⟨b, o, by rw [hv.1, ha], hc 0 _ rfl, hc 1 _ rfl, hc 2 _ rfl, hc 3 _ rfl, hc 4 _ rfl, hc 5 _ rfl, hc 6 _ rfl, hc 7 _ rfl, hc 8 _ rfl, hc 9 _ rfl, hc 10 _ rfl⟩
theorem jfa (Q : Nat → Prop) (a : Option Addr) (c : Nat) (l : List Acu) (w : World) (hM : AcsM Q w (.slice a l.length c) l) (hl : l.length ≤ 10000)
 (hC : ∀ x ∈ l, ∀ u, Calls Tryz.prog 23 #[.agg (acuC x).toArray] u fun e u' => e = .returned (.int .i64 0) ∧ Below u.heap.size u u') :
 Calls Tryz.prog 14 #[.slice a l.length c] w fun e w' => e = .returned (.int .i64 0) ∧ Below w.heap.size w w' := by
 have HM := hid hM; have HC := hid hC; clear hM hC; go_enter Tryz.func14, Tryz.ntmps14; go_wp2
 go_loopw [11] (fun i wr => ∃ k : Nat, k ≤ l.length ∧ i = .int .i64 k ∧ Hid (Below w.heap.size w wr)) (fun i _ => l.length - (intOf i).toNat)
 case atStart => exact ⟨0, Nat.zero_le _, rfl, hid (Below.refl _ _)⟩
 case round =>
  obtain ⟨k, hk, rfl, HB⟩ := hrel
  by_cases hlt : k < l.length
  · have k1 : (k : Int) < (l.length : Int) := by omega
    have k0 : (0 : Int) ≤ (k : Int) := by omega
    have hx : l[k]? = some l[k] := List.getElem?_eq_getElem hlt; have hc := HC.out l[k] (List.getElem_mem hlt); generalize l[k] = x at hx hc; obtain ⟨b, o, rfl, x0, x1, x2, x3, x4, x5, x6, x7, x8, x9, x10⟩ := (HM.out.next HB.out).at hx; have HCX := hid hc; have hal : ∀ o, Below wr.heap.size wr (wr.alloc o) := fun o => (Below.refl _ _).alloc (Nat.le_refl _) o
    have HAL := hid hal; clear hx hc hal; unfold acuC at HCX; go_wp2_with fail; refine (HCX.out _).mono ?_; rintro e w2 ⟨rfl, hb2⟩; have HB2 := hid (HB.out.trans (((HAL.out _).trans (hb2.mono (HAL.out _).size)).mono HB.out.size)); clear hb2; go_wp2
    go_roundw
    case rel => first | exact ⟨k + 1, by omega, by go_num, HB2⟩ | ((repeat apply Exists.intro); exact ⟨⟨k + 1, by omega, by go_num, HB2⟩, rfl⟩)
    case measure => simp [intOf]; omega
  · have k1 : ¬ (k : Int) < (l.length : Int) := by omega
    go_wp2; go_ret; exact ⟨rfl, HB.out⟩
def RunP (w : World) (R : Rom) (e : Ending) (w' : World) : Prop := ∃ ac cc ao co as_ cs, e = .returned (.tuple #[.agg #[.bool R.up, .slice ac 3 cc, .slice ao R.orders.length co, .slice as_ R.safe.length cs, .int .i64 R.waits], .int .i64 0]) ∧ OutM w.heap.size w' R (.slice ac 3 cc) (.slice ao R.orders.length co) (.slice as_ R.safe.length cs) ∧ Below w.heap.size w w'
def OpO (K : List (List UInt8)) (Cs : List (List Cmd)) (v : World) (e : Ending) (v' : World) : Prop := ∃ b G, e = .returned (.tuple #[.pointer (some ⟨b, 0, none⟩), .int .i64 0]) ∧ RoomM K Cs v.heap.size b G rom0 v' ∧ Below v.heap.size v v'
theorem OutM.next {N : Nat} {w w' : World} {R : Rom} {vc vo vs : Value} (h : OutM N w R vc vo vs) (hb : ∀ g, g < w.heap.size → N ≤ g → w'.heap[g]? = w.heap[g]?) (hs : w.heap.size ≤ w'.heap.size) : OutM N w' R vc vo vs := by
 have hk : Keeps (N ≤ ·) w w' := ⟨hs, hb⟩; exact ⟨RowM.imp h.co (fun _ h => h) hk fun _ _ h => by
  obtain ⟨v, e, h⟩ := h; exact ⟨v, e, RowM.imp h (fun _ h => h) hk fun _ _ h => h⟩, RowM.imp h.od (fun _ h => h) hk fun _ _ h => by
  obtain ⟨v, e, h⟩ := h; exact ⟨v, e, RowM.imp h (fun _ h => h) hk fun _ _ h => h⟩, RowM.imp h.sf (fun _ h => h) hk fun _ _ h => by
  obtain ⟨vb, vs, e, h⟩ := h; exact ⟨vb, vs, e, h.imp (fun _ h => h) hk⟩⟩
theorem OutM.mono {N N' : Nat} {w : World} {R : Rom} {vc vo vs : Value} (hN : N' ≤ N) (h : OutM N w R vc vo vs) : OutM N' w R vc vo vs := by
 have hq : ∀ k, N ≤ k → N' ≤ k := fun k hk => Nat.le_trans hN hk
 have hk := Keeps.refl (N ≤ ·) w; exact ⟨RowM.imp h.co hq hk fun _ _ h => by
  obtain ⟨v, e, h⟩ := h; exact ⟨v, e, RowM.imp h hq hk fun _ _ h => h⟩, RowM.imp h.od hq hk fun _ _ h => by
  obtain ⟨v, e, h⟩ := h; exact ⟨v, e, RowM.imp h hq hk fun _ _ h => h⟩, RowM.imp h.sf hq hk fun _ _ h => by
  obtain ⟨vb, vs, e, h⟩ := h; exact ⟨vb, vs, e, h.imp hq hk⟩⟩
theorem jmH (K : List (List UInt8)) (Cs : List (List Cmd)) (us : Value) (Q : Nat → Prop) (a : Option Addr) (c : Nat) (l : List Acu) (w : World) (hM : AcsM Q w (.slice a l.length c) l) (hl : l.length ≤ 10000)
 (hC : ∀ x ∈ l, ∀ u, Calls Tryz.prog 23 #[.agg (acuC x).toArray] u fun e u' => e = .returned (.int .i64 0) ∧ Below u.heap.size u u')
 (hO : ∀ v, Below w.heap.size w v → Calls Tryz.prog 13 #[us] v (OpO K Cs v))
 (st : Nat → Rom) (h0 : st 0 = rom0)
 (hD : ∀ (k : Nat) (x : Acu), l[k]? = some x → ∀ (B b : Nat) (G : List Nat) (u : World), w.heap.size ≤ B → Below w.heap.size w u → RoomM K Cs B b G (st k) u → Calls Tryz.prog 15 #[.pointer (some ⟨b, 0, none⟩), .agg (acuC x).toArray] u (RmQ K Cs B b G u (st (k + 1)) (.tuple #[]))) :
 Calls Tryz.prog 9 #[us, .slice a l.length c] w (RunP w (st l.length)) := by
 have HM := hid hM; have HC := hid hC; have HO := hid (hO _ ((Below.refl _ w).alloc (Nat.le_refl _) (.cells #[.bool false, .slice none 0 0, .slice none 0 0, .slice none 0 0, .int .i64 0] 28))); have HD := hid hD; have HB1 := hid (show Below w.heap.size w (w.alloc (.cells #[.bool false, .slice none 0 0, .slice none 0 0, .slice none 0 0, .int .i64 0] 28)) from nb0 _ _); have HZ := hid (heap_alloc_new w (.cells #[.bool false, .slice none 0 0, .slice none 0 0, .slice none 0 0, .int .i64 0] 28)); clear hM hC hO hD; go_enter Tryz.func9, Tryz.ntmps9; go_wp2_with fail; refine HO.out.mono ?_; rintro e w1 ⟨b, G, rfl, hR, hb1⟩; obtain ⟨N, hN⟩ : ∃ N, N = (w.alloc (.cells #[.bool false, .slice none 0 0, .slice none 0 0, .slice none 0 0, .int .i64 0] 28)).heap.size := ⟨_, rfl⟩; have hN1 : N = w.heap.size + 1 := by rw [hN]; simp
 rw [← hN] at hR hb1; have HR := hid hR; have HBN := hid hb1; have HW1 := hid (show Below w.heap.size w w1 from HB1.out.trans (hb1.mono (by omega))); have HCA := hid (jfa Q a c l w1 (HM.out.next HW1.out) hl HC.out); have HZ1 := hid ((hb1.block w.heap.size (by omega)).trans HZ.out); clear hR hb1 hN HO HZ; go_wp2_with fail; refine HCA.out.mono ?_; rintro e w2 ⟨rfl, hb2⟩; have HR2 := hid (HR.out.next hb2); have HW2 := hid (HW1.out.trans (hb2.mono HW1.out.size)); have HZ2 := hid ((hb2.block w.heap.size (by have := HW1.out.size; have := (Array.getElem?_eq_some_iff.1 HZ1.out).1; omega)).trans HZ1.out); clear hb2 HCA HR HW1 HZ1 HBN; go_wp2
 go_loopw [25] (fun i wr => ∃ (k : Nat) (G' : List Nat), k ≤ l.length ∧ i = .int .i64 k ∧ Hid (RoomM K Cs N b G' (st k) wr) ∧ Hid (Below w.heap.size w wr) ∧ Hid (wr.heap[w.heap.size]? = some (.cells #[.bool false, .slice none 0 0, .slice none 0 0, .slice none 0 0, .int .i64 0] 28))) (fun i _ => l.length - (intOf i).toNat)
 case atStart => exact ⟨0, G, Nat.zero_le _, rfl, hid (by rw [h0]; exact HR2.out), HW2, HZ2⟩
 case round =>
  obtain ⟨k, G', hk, rfl, HRk, HBk, HZk⟩ := hrel
  by_cases hlt : k < l.length
  · have k1 : (k : Int) < (l.length : Int) := by omega
    have k0 : (0 : Int) ≤ (k : Int) := by omega
    have hx : l[k]? = some l[k] := List.getElem?_eq_getElem hlt; generalize l[k] = x at hx; obtain ⟨g, o, rfl, x0, x1, x2, x3, x4, x5, x6, x7, x8, x9, x10⟩ := (HM.out.next HBk.out).at hx; have hal : ∀ o, Below wr.heap.size wr (wr.alloc o) := fun o => (Below.refl _ _).alloc (Nat.le_refl _) o
    have HAL := hid hal; have HDX := hid (fun o => HD.out k x hx N b G' (wr.alloc o) (by omega) (HBk.out.trans ((hal o).mono HBk.out.size)) (HRk.out.next (hal o))); clear hx hal; unfold acuC at HDX; go_wp2_with fail; refine (HDX.out _).mono ?_; rintro e w3 ⟨rfl, G3, hR3, hs3⟩; have hlow := (HRk.out.next (HAL.out (.cells #[.int .i64 x.kind, .int .i64 x.conn, .int .i64 x.user, .int .i64 x.keep, .string (S x.data), .int .i64 x.ent.kind, .string (S x.ent.box), .int .i64 x.ent.uid, .int .i64 x.ent.flags, .string (S x.ent.goal), .string (S x.ent.text)] 34))).low hs3; have HR3 := hid hR3; have hzl := (Array.getElem?_eq_some_iff.1 HZk.out).1; have HB3 := hid (HBk.out.trans (((HAL.out _).mono HBk.out.size).trans (hlow.mono (by omega)))); have HZ3 := hid ((hlow.block w.heap.size (by omega)).trans (((HAL.out _).block w.heap.size hzl).trans HZk.out)); clear hR3 hs3 hlow hzl; go_wp2
    go_roundw
    case rel => first | exact ⟨k + 1, G3, by omega, by go_num, HR3, HB3, HZ3⟩ | ((repeat apply Exists.intro); exact ⟨⟨k + 1, G3, by omega, by go_num, HR3, HB3, HZ3⟩, rfl⟩)
    case measure => simp [intOf]; omega
  · have k1 : ¬ (k : Int) < (l.length : Int) := by omega
    obtain rfl : k = l.length := by omega
    have HOU := hid (jfv K Cs N b G' (st l.length) wr HRk.out); go_wp2_with fail; refine HOU.out.mono ?_; rintro e w3 ⟨ac, cc, ao, co, as_, cs, rfl, hO3, hb3⟩; have hr := (hb3.block w.heap.size (Array.getElem?_eq_some_iff.1 HZk.out).1).trans HZk.out; obtain ⟨r0, r1, r2, r3, r4⟩ := bx5 hr; have zf : ∀ o, w3.frozen? ⟨w.heap.size, o, none⟩ = false := fun o => by simp [World.frozen?, hr]
    have HR3 := hid hr; have HO3 := hid hO3; have HB3 := hid (HBk.out.trans (hb3.mono HBk.out.size)); clear hr hO3 hb3; have m := put5 (w := w3) (b := w.heap.size) (.bool (st l.length).up) (.slice ac 3 cc) (.slice ao (st l.length).orders.length co) (.slice as_ (st l.length).safe.length cs) (.int .i64 (st l.length).waits) HR3.out; have HM5 := hid m; clear m; go_wp2; obtain ⟨W6, hW6⟩ : ∃ W6, W6 = (((((w3.setCell ⟨w.heap.size, 0, none⟩ (.bool (st l.length).up)).setCell ⟨w.heap.size, 1, none⟩ (.slice ac 3 cc)).setCell ⟨w.heap.size, 2, none⟩ (.slice ao (st l.length).orders.length co)).setCell ⟨w.heap.size, 3, none⟩ (.slice as_ (st l.length).safe.length cs)).setCell ⟨w.heap.size, 4, none⟩ (.int .i64 (st l.length).waits)) := ⟨_, rfl⟩; have m := HM5.out; rw [← hW6] at m ⊢; obtain ⟨m0, m1, m2, m3, m4⟩ := bx5 m; refine bodyPost_ret (v := .tuple #[.agg #[.bool (st l.length).up, .slice ac 3 cc, .slice ao (st l.length).orders.length co, .slice as_ (st l.length).safe.length cs, .int .i64 (st l.length).waits], .int .i64 0]) (by simp only [results, Tryz.results9]; simp [go_sem, m0, m1, m2, m3, m4]) rfl ?_; have hB6 : Below w.heap.size w W6 := by
        rw [hW6]; exact (((((HB3.out.setCell (Nat.le_refl _) _).setCell (Nat.le_refl _) _).setCell (Nat.le_refl _) _).setCell (Nat.le_refl _) _).setCell (Nat.le_refl _) _)
    refine ⟨ac, cc, ao, co, as_, cs, rfl, OutM.mono (by omega) (OutM.next HO3.out (fun g hg hgN => ?_) ?_), hB6⟩
    · rw [hW6]; have hn : g ≠ w.heap.size := by omega
      exact (Below.heap_setCell _ _ _ _ hn).trans ((Below.heap_setCell _ _ _ _ hn).trans ((Below.heap_setCell _ _ _ _ hn).trans ((Below.heap_setCell _ _ _ _ hn).trans (Below.heap_setCell _ _ _ _ hn))))
    · rw [hW6]
      simp [World.setCell]
def usK : List (List UInt8) := [nmA, nmB, nmC]
def usCs : List (List Cmd) := [[], cmdB, cmdC]
theorem chA : jS nmA [120] = 0 := by kernel_rfl
theorem chB : jS nmB [120] = 0 := by kernel_rfl
theorem chC : jS nmC [120] = 0 := by kernel_rfl
theorem jmx (p : Nat) (v : World) (hm : TabsM v) (hp : v.heap[p]? = some (jgp nmA [] nmB scrB nmC scrC)) : Calls Tryz.prog 13 #[.slice (some ⟨p, 0, none⟩) 3 3] v (OpO usK usCs v) := by
 refine (jkB p nmA [] nmB scrB nmC scrC usCs 3 (by omega) 1 (by decide) v hp fun k u W1 b v5 v6 v36 hk hkf hu hb hI => ?_).mono fun e v' h => ?_
 · have hq : ∀ {e : Ending} {v' : World}, e = .returned (.int .i64 0) ∧ RoI W1 v.heap.size b v5 v6 v36 ([nmA, nmB, nmC].take (k + 1)) (usCs.take (k + 1)) v' → AdQ 3 1 W1 v.heap.size b v5 v6 v36 [nmA, nmB, nmC] usCs k u e v' := fun h => by
    unfold AdQ; rw [if_pos hk]; exact h
   obtain rfl | rfl | rfl : k = 0 ∨ k = 1 ∨ k = 2 := by omega
   · exact (hI.take hb (by decide) (by decide) nmA [] [] chA (by decide) rfl fun x hx => jnn x ((hm.next hu).next hx)).mono fun e w' h => hq h
   · exact (hI.take hb (by decide) (by decide) nmB scrB cmdB chB (by decide) rfl fun x hx => jno x ((hm.next hu).next hx)).mono fun e w' h => hq h
   · exact (hI.take hb (by decide) (by decide) nmC scrC cmdC chC (by decide) rfl fun x hx => jnp x ((hm.next hu).next hx)).mono fun e w' h => hq h
 · unfold OpnQ at h; rw [if_neg (by omega)] at h; obtain ⟨W1, b, v5, v6, v36, he, hRB, hb, hBW, hL, hO, hI⟩ := h; obtain ⟨G, hG⟩ := RoomM.of_open hRB hb hL hO hI hBW.size (by decide) (by decide); exact ⟨b, G, he, hG, hBW.trans (hI.low hb hBW.size)⟩
def RanP (w : World) (R : Rom) (e : Ending) (w' : World) : Prop := ∃ ac cc ao co as_ cs, e = .returned (.tuple #[.agg #[.bool R.up, .slice ac 3 cc, .slice ao 3 co, .slice as_ 3 cs, .int .i64 R.waits], .bool true]) ∧ OutM w.heap.size w' R (.slice ac 3 cc) (.slice ao 3 co) (.slice as_ 3 cs) ∧ Below w.heap.size w w'
theorem jmE (Q : Nat → Prop) (a : Option Addr) (c : Nat) (l : List Acu) (w : World) (hm : TabsM w) (hM : AcsM Q w (.slice a l.length c) l) (hl : l.length ≤ 10000)
 (hC : ∀ x ∈ l, ∀ u, Calls Tryz.prog 23 #[.agg (acuC x).toArray] u fun e u' => e = .returned (.int .i64 0) ∧ Below u.heap.size u u')
 (st : Nat → Rom) (h0 : st 0 = rom0) (hs3 : (st l.length).safe.length = 3) (ho3 : (st l.length).orders.length = 3)
 (hD : ∀ (k : Nat) (x : Acu), l[k]? = some x → ∀ (B b : Nat) (G : List Nat) (u : World), w.heap.size ≤ B → Below w.heap.size w u → RoomM usK usCs B b G (st k) u → Calls Tryz.prog 15 #[.pointer (some ⟨b, 0, none⟩), .agg (acuC x).toArray] u (RmQ usK usCs B b G u (st (k + 1)) (.tuple #[]))) :
 Calls Tryz.prog 5 #[.slice a l.length c] w (RanP w (st l.length)) := by
 obtain ⟨W1, hW1⟩ : ∃ W1, W1 = w.alloc (.cells #[.bool false, .slice none 0 0, .slice none 0 0, .slice none 0 0, .int .i64 0] 28) := ⟨_, rfl⟩; obtain ⟨W2, hW2⟩ : ∃ W2, W2 = W1.alloc (jgp nmA [] nmB scrB nmC scrC) := ⟨_, rfl⟩; have hb1 : Below w.heap.size w W1 := by rw [hW1]; exact nb0 _ _
 have hb2 : Below w.heap.size w W2 := by rw [hW2]; exact hb1.alloc hb1.size _
 have hz1 : W1.heap.size = w.heap.size + 1 := by rw [hW1]; simp
 have hz2 : W2.heap.size = w.heap.size + 2 := by rw [hW2]; simp [hz1]
 have hu : W2.heap[W1.heap.size]? = some (jgp nmA [] nmB scrB nmC scrC) := by rw [hW2]; exact heap_alloc_new W1 _
 have hr2 : W2.heap[w.heap.size]? = some (.cells #[.bool false, .slice none 0 0, .slice none 0 0, .slice none 0 0, .int .i64 0] 28) := by
  rw [hW2, hW1]; exact jby _ (heap_alloc_new w _)
 have HRUN := hid (jmH usK usCs (.slice (some ⟨W1.heap.size, 0, none⟩) 3 3) Q a c l W2 (hM.next hb2) hl hC (fun v hv => jmx W1.heap.size v ((hm.next hb2).next hv) ((hv.block _ (Array.getElem?_eq_some_iff.1 hu).1).trans hu)) st h0
  (fun k x hx B b G u hB hu' hR => hD k x hx B b G u (by omega) (hb2.trans (hu'.mono (by omega))) hR))
 rw [hz1] at HRUN; have HWE1 := hid hW1; have HWE2 := hid hW2; have HB2 := hid hb2; have HR2 := hid hr2; clear hM hC hD hm hb1 hb2 hu hr2 hW1 hW2; obtain ⟨R, hR⟩ : ∃ R, R = st l.length := ⟨_, rfl⟩; rw [← hR] at HRUN hs3 ho3 ⊢; clear hR; go_enter Tryz.func5, Tryz.ntmps5; go_wp2_with fail; rw [← HWE1.out]; refine (jjI W1).mono ?_; rintro e u ⟨rfl, hu⟩; rw [hz1]; rw [← HWE2.out] at hu; have hu' := hu.symm; subst hu'; clear hu; go_wp2_with fail; refine HRUN.out.mono ?_; rintro e w3 ⟨ac, cc, ao, co, as_, cs, rfl, hO3, hb3⟩; rw [ho3, hs3] at hO3; have hr3 := (hb3.block w.heap.size (by omega)).trans HR2.out; obtain ⟨W3, hW3⟩ : ∃ W3, W3 = w3.alloc (.cells #[.bool R.up, .slice ac 3 cc, .slice ao 3 co, .slice as_ 3 cs, .int .i64 R.waits] 28) := ⟨_, rfl⟩; have hb4 : Below w3.heap.size w3 W3 := by rw [hW3]; exact nb0 _ _
 have hr4 := (hb4.block w.heap.size (Array.getElem?_eq_some_iff.1 hr3).1).trans hr3; have hx4 : W3.heap[w3.heap.size]? = some (.cells #[.bool R.up, .slice ac 3 cc, .slice ao 3 co, .slice as_ 3 cs, .int .i64 R.waits] 28) := by rw [hW3]; exact heap_alloc_new w3 _
 have HW3 := hid hW3; have HX4 := hid hx4; have HR4 := hid hr4; have HO4 := hid (OutM.next hO3 (fun g hg _ => hb4.block g hg) hb4.size); have HB4 := hid (HB2.out.trans ((hb3.trans (hb4.mono hb3.size)).mono (by omega))); have HL := hid (show w.heap.size < w3.heap.size by have := hb3.size; omega); clear hr3 hb4 hr4 hx4 hW3 hO3 hb3; go_upto_region 2 with fail
 rw [← HW3.out]; have hx4 := HX4.out; have hr4 := HR4.out; obtain ⟨x0, x1, x2, x3, x4⟩ := bx5 hx4; obtain ⟨r0, r1, r2, r3, r4⟩ := bx5 hr4; have zf : ∀ o, W3.frozen? ⟨w.heap.size, o, none⟩ = false := fun o => by simp [World.frozen?, hr4]
 have hne : w.heap.size ≠ w3.heap.size := by have := HL.out; omega
 have hne' : w3.heap.size ≠ w.heap.size := by have := HL.out; omega
 clear hx4 hr4 hs3 ho3; refine wp_region_held_drew (S := fun u => u.cell? ⟨w3.heap.size, 0, none⟩ = some (.bool R.up) ∧ u.cell? ⟨w3.heap.size, 1, none⟩ = some (.slice ac 3 cc) ∧ u.cell? ⟨w3.heap.size, 2, none⟩ = some (.slice ao 3 co) ∧ u.cell? ⟨w3.heap.size, 3, none⟩ = some (.slice as_ 3 cs) ∧ u.cell? ⟨w3.heap.size, 4, none⟩ = some (.int .i64 R.waits)) (by kernel_rfl) ?_ (fun hHeld => ?_)
 · exact ⟨x0, x1, x2, x3, x4⟩
 refine wpAnyH_take (i := 0) (v := ?v1) rfl (by kernel_rfl) (by kernel_rfl) (by kernel_rfl) (fun _ _ _ h => h) (Or.inl ⟨by rfl, ?hy1⟩) (by assumption) ?_
 case hy1 =>
  intro w hSw
  (try dsimp only at hSw)
  go_simp
  all_goals with_reducible rfl
 change wpAnyH _ _ _ _ _ _ _ (Act.put _ (some 12) _) _
 try simp only [Act.put, List.setIfInBounds_toArray, List.set_cons_zero, List.set_cons_succ]
 refine wpAnyH_take (i := 1) (v := ?v2) rfl (by kernel_rfl) (by kernel_rfl) (by kernel_rfl) (fun _ _ _ h => h) (Or.inl ⟨by rfl, ?hy2⟩) (by assumption) ?_
 case hy2 =>
  intro w hSw
  (try dsimp only at hSw)
  go_simp
  all_goals with_reducible rfl
 change wpAnyH _ _ _ _ _ _ _ (Act.put _ (some 13) _) _
 try simp only [Act.put, List.setIfInBounds_toArray, List.set_cons_zero, List.set_cons_succ]
 refine wpAnyH_take (i := 2) (v := ?v3) rfl (by kernel_rfl) (by kernel_rfl) (by kernel_rfl) (fun _ _ _ h => h) (Or.inl ⟨by rfl, ?hy3⟩) (by assumption) ?_
 case hy3 =>
  intro w hSw
  (try dsimp only at hSw)
  go_simp
  all_goals with_reducible rfl
 change wpAnyH _ _ _ _ _ _ _ (Act.put _ (some 14) _) _
 try simp only [Act.put, List.setIfInBounds_toArray, List.set_cons_zero, List.set_cons_succ]
 refine wpAnyH_take (i := 3) (v := ?v4) rfl (by kernel_rfl) (by kernel_rfl) (by kernel_rfl) (fun _ _ _ h => h) (Or.inl ⟨by rfl, ?hy4⟩) (by assumption) ?_
 case hy4 =>
  intro w hSw
  (try dsimp only at hSw)
  go_simp
  all_goals with_reducible rfl
 change wpAnyH _ _ _ _ _ _ _ (Act.put _ (some 15) _) _
 try simp only [Act.put, List.setIfInBounds_toArray, List.set_cons_zero, List.set_cons_succ]
 refine wpAnyH_take (i := 4) (v := ?v5) rfl (by kernel_rfl) (by kernel_rfl) (by kernel_rfl) (fun _ _ _ h => h) (Or.inl ⟨by rfl, ?hy5⟩) (by assumption) ?_
 case hy5 =>
  intro w hSw
  (try dsimp only at hSw)
  go_simp
  all_goals with_reducible rfl
 change wpAnyH _ _ _ _ _ _ _ (Act.put _ (some 16) _) _
 try simp only [Act.put, List.setIfInBounds_toArray, List.set_cons_zero, List.set_cons_succ]
 refine wpAnyH_take (i := 5) (v := ?v6) rfl (by kernel_rfl) (by kernel_rfl) (by kernel_rfl) (fun _ _ _ h => h) (Or.inl ⟨by rfl, ?hy6⟩) (by assumption) ?_
 case hy6 =>
  intro w hSw
  (try dsimp only at hSw)
  go_simp
  all_goals with_reducible rfl
 change wpAnyH _ _ _ _ _ _ _ (Act.put _ (some 17) _) _
 try simp only [Act.put, List.setIfInBounds_toArray, List.set_cons_zero, List.set_cons_succ]
 refine wpAnyH_take (i := 6) (v := ?v7) rfl (by kernel_rfl) (by kernel_rfl) (by kernel_rfl) (fun _ _ _ h => h) (Or.inl ⟨by rfl, ?hy7⟩) (by assumption) ?_
 case hy7 =>
  intro w hSw
  (try dsimp only at hSw)
  go_simp
  all_goals with_reducible rfl
 change wpAnyH _ _ _ _ _ _ _ (Act.put _ (some 18) _) _
 try simp only [Act.put, List.setIfInBounds_toArray, List.set_cons_zero, List.set_cons_succ]
 refine wpAnyH_take (i := 7) (v := ?v8) rfl (by kernel_rfl) (by kernel_rfl) (by kernel_rfl) (fun _ _ _ h => h) (Or.inl ⟨by rfl, ?hy8⟩) (by assumption) ?_
 case hy8 =>
  intro w hSw
  (try dsimp only at hSw)
  go_simp
  all_goals with_reducible rfl
 change wpAnyH _ _ _ _ _ _ _ (Act.put _ (some 19) _) _
 try simp only [Act.put, List.setIfInBounds_toArray, List.set_cons_zero, List.set_cons_succ]
 refine wpAnyH_take (i := 8) (v := ?v9) rfl (by kernel_rfl) (by kernel_rfl) (by kernel_rfl) (fun _ _ _ h => h) (Or.inl ⟨by rfl, ?hy9⟩) (by assumption) ?_
 case hy9 =>
  intro w hSw
  (try dsimp only at hSw)
  go_simp
  all_goals with_reducible rfl
 change wpAnyH _ _ _ _ _ _ _ (Act.put _ (some 20) _) _
 try simp only [Act.put, List.setIfInBounds_toArray, List.set_cons_zero, List.set_cons_succ]
 refine wpAnyH_take (i := 9) (v := ?v10) rfl (by kernel_rfl) (by kernel_rfl) (by kernel_rfl) (fun _ _ _ h => h) (Or.inl ⟨by rfl, ?hy10⟩) (by assumption) ?_
 case hy10 =>
  intro w hSw
  (try dsimp only at hSw)
  go_simp
  all_goals with_reducible rfl
 change wpAnyH _ _ _ _ _ _ _ (Act.put _ (some 21) _) _
 try simp only [Act.put, List.setIfInBounds_toArray, List.set_cons_zero, List.set_cons_succ]
 refine wpAnyH_take (i := 10) (v := ?v11) rfl (by kernel_rfl) (by kernel_rfl) (by kernel_rfl) (fun _ _ _ h => h) (Or.inl ⟨by rfl, ?hy11⟩) (by assumption) ?_
 case hy11 =>
  intro w hSw
  (try dsimp only at hSw)
  go_simp
  all_goals with_reducible rfl
 change wpAnyH _ _ _ _ _ _ _ (Act.put _ (some 22) _) _
 try simp only [Act.put, List.setIfInBounds_toArray, List.set_cons_zero, List.set_cons_succ]
 refine wpAnyH_take (i := 11) (v := ?v12) rfl (by kernel_rfl) (by kernel_rfl) (by kernel_rfl) (fun _ _ _ h => h) (Or.inl ⟨by rfl, ?hy12⟩) (by assumption) ?_
 case hy12 =>
  intro w hSw
  (try dsimp only at hSw)
  go_simp
  all_goals with_reducible rfl
 change wpAnyH _ _ _ _ _ _ _ (Act.put _ (some 23) _) _
 try simp only [Act.put, List.setIfInBounds_toArray, List.set_cons_zero, List.set_cons_succ]
 refine wpAnyH_take (i := 12) (v := ?v13) rfl (by kernel_rfl) (by kernel_rfl) (by kernel_rfl) (fun _ _ _ h => h) (Or.inl ⟨by rfl, ?hy13⟩) (by assumption) ?_
 case hy13 =>
  intro w hSw
  (try dsimp only at hSw)
  go_simp
  all_goals with_reducible rfl
 change wpAnyH _ _ _ _ _ _ _ (Act.put _ (some 24) _) _
 try simp only [Act.put, List.setIfInBounds_toArray, List.set_cons_zero, List.set_cons_succ]
 refine wpAnyH_take (i := 13) (v := ?v14) rfl (by kernel_rfl) (by kernel_rfl) (by kernel_rfl) (fun _ _ _ h => h) (Or.inl ⟨by rfl, ?hy14⟩) (by assumption) ?_
 case hy14 =>
  intro w hSw
  (try dsimp only at hSw)
  go_simp
  all_goals with_reducible rfl
 change wpAnyH _ _ _ _ _ _ _ (Act.put _ (some 25) _) _
 try simp only [Act.put, List.setIfInBounds_toArray, List.set_cons_zero, List.set_cons_succ]
 refine wpAnyH_take (i := 14) (v := ?v15) rfl (by kernel_rfl) (by kernel_rfl) (by kernel_rfl) (fun _ _ _ h => h) (Or.inl ⟨by rfl, ?hy15⟩) (by assumption) ?_
 case hy15 =>
  intro w hSw
  (try dsimp only at hSw)
  go_simp
  all_goals with_reducible rfl
 change wpAnyH _ _ _ _ _ _ _ (Act.put _ (some 26) _) _
 try simp only [Act.put, List.setIfInBounds_toArray, List.set_cons_zero, List.set_cons_succ]
 refine wpAnyH_take (i := 15) (v := ?v16) rfl (by kernel_rfl) (by kernel_rfl) (by kernel_rfl) (fun _ _ _ h => h) (Or.inl ⟨by rfl, ?hy16⟩) (by assumption) ?_
 case hy16 =>
  intro w hSw
  (try dsimp only at hSw)
  go_simp
  all_goals with_reducible rfl
 change wpAnyH _ _ _ _ _ _ _ (Act.put _ (some 27) _) _
 try simp only [Act.put, List.setIfInBounds_toArray, List.set_cons_zero, List.set_cons_succ]
 refine wpAnyH_take (i := 16) (v := ?v17) rfl (by kernel_rfl) (by kernel_rfl) (by kernel_rfl) (fun _ _ _ h => h) (Or.inl ⟨by rfl, ?hy17⟩) (by assumption) ?_
 case hy17 =>
  intro w hSw
  (try dsimp only at hSw)
  go_simp
  all_goals with_reducible rfl
 change wpAnyH _ _ _ _ _ _ _ (Act.put _ (some 28) _) _
 try simp only [Act.put, List.setIfInBounds_toArray, List.set_cons_zero, List.set_cons_succ]
 refine wpAnyH_take (i := 17) (v := ?v18) rfl (by kernel_rfl) (by kernel_rfl) (by kernel_rfl) (fun _ _ _ h => h) (Or.inl ⟨by rfl, ?hy18⟩) (by assumption) ?_
 case hy18 =>
  intro w hSw
  (try dsimp only at hSw)
  go_simp
  all_goals with_reducible rfl
 change wpAnyH _ _ _ _ _ _ _ (Act.put _ (some 29) _) _
 try simp only [Act.put, List.setIfInBounds_toArray, List.set_cons_zero, List.set_cons_succ]
 refine wpAnyH_take (i := 18) (v := ?v19) rfl (by kernel_rfl) (by kernel_rfl) (by kernel_rfl) (fun _ _ _ h => h) (Or.inl ⟨by rfl, ?hy19⟩) (by assumption) ?_
 case hy19 =>
  intro w hSw
  (try dsimp only at hSw)
  go_simp
  all_goals with_reducible rfl
 change wpAnyH _ _ _ _ _ _ _ (Act.put _ (some 30) _) _
 try simp only [Act.put, List.setIfInBounds_toArray, List.set_cons_zero, List.set_cons_succ]
 refine wpAnyH_take (i := 19) (v := ?v20) rfl (by kernel_rfl) (by kernel_rfl) (by kernel_rfl) (fun _ _ _ h => h) (Or.inl ⟨by rfl, ?hy20⟩) (by assumption) ?_
 case hy20 =>
  intro w hSw
  (try dsimp only at hSw)
  go_simp
  all_goals with_reducible rfl
 change wpAnyH _ _ _ _ _ _ _ (Act.put _ (some 31) _) _
 try simp only [Act.put, List.setIfInBounds_toArray, List.set_cons_zero, List.set_cons_succ]
 refine wpAnyH_take (i := 20) (v := ?v21) rfl (by kernel_rfl) (by kernel_rfl) (by kernel_rfl) (fun _ _ _ h => h) (Or.inl ⟨by rfl, ?hy21⟩) (by assumption) ?_
 case hy21 =>
  intro w hSw
  (try dsimp only at hSw)
  go_simp
  all_goals with_reducible rfl
 change wpAnyH _ _ _ _ _ _ _ (Act.put _ (some 32) _) _
 try simp only [Act.put, List.setIfInBounds_toArray, List.set_cons_zero, List.set_cons_succ]
 refine wpAnyH_ready (rs := [21]) (by kernel_rfl) (by simp) ?_; refine AllReadyH.cons rfl (fun K hK => ?_) AllReadyH.nil
 go_simp
 refine hK.out _ _ ?_ (fun hHeld => ?_)
 · go_keep
 clear hK K
 try simp only [Act.put, List.setIfInBounds_toArray, List.set_cons_zero, List.set_cons_succ]
 refine wpAnyH_take (i := 22) (v := ?v22) rfl (by kernel_rfl) (by kernel_rfl) (by kernel_rfl) (fun _ _ _ h => h) (Or.inl ⟨by rfl, ?hy22⟩) (by assumption) ?_
 case hy22 =>
  intro w hSw
  (try dsimp only at hSw)
  go_simp
  all_goals with_reducible rfl
 change wpAnyH _ _ _ _ _ _ _ (Act.put _ (some 3) _) _
 try simp only [Act.put, List.setIfInBounds_toArray, List.set_cons_zero, List.set_cons_succ]
 refine wpAnyH_done (by kernel_rfl) ?_ _; go_wp2_with fail; obtain ⟨W6, hW6⟩ : ∃ W6, W6 = (((((W3.setCell ⟨w.heap.size, 0, none⟩ (.bool R.up)).setCell ⟨w.heap.size, 1, none⟩ (.slice ac 3 cc)).setCell ⟨w.heap.size, 2, none⟩ (.slice ao 3 co)).setCell ⟨w.heap.size, 3, none⟩ (.slice as_ 3 cs)).setCell ⟨w.heap.size, 4, none⟩ (.int .i64 R.waits)) := ⟨_, rfl⟩; have m := put5 (w := W3) (b := w.heap.size) (.bool R.up) (.slice ac 3 cc) (.slice ao 3 co) (.slice as_ 3 cs) (.int .i64 R.waits) HR4.out; rw [← hW6] at m; have md : W6.drew.heap[w.heap.size]? = some (.cells #[.bool R.up, .slice ac 3 cc, .slice ao 3 co, .slice as_ 3 cs, .int .i64 R.waits] 28) := m; obtain ⟨m0, m1, m2, m3, m4⟩ := bx5 md; have hB6 : Below w.heap.size w W6.drew := by
  rw [hW6]; exact ((((((HB4.out.setCell (Nat.le_refl _) _).setCell (Nat.le_refl _) _).setCell (Nat.le_refl _) _).setCell (Nat.le_refl _) _).setCell (Nat.le_refl _) _)).drew
 have hO6 : OutM w.heap.size W6.drew R (.slice ac 3 cc) (.slice ao 3 co) (.slice as_ 3 cs) := by
  refine OutM.mono (show w.heap.size ≤ W2.heap.size by omega) (OutM.next HO4.out (fun g hg hgN => ?_) ?_)
  · rw [hW6]; have hn : g ≠ w.heap.size := by omega
    exact (Below.heap_setCell _ _ _ _ hn).trans ((Below.heap_setCell _ _ _ _ hn).trans ((Below.heap_setCell _ _ _ _ hn).trans ((Below.heap_setCell _ _ _ _ hn).trans (Below.heap_setCell _ _ _ _ hn))))
  · rw [hW6]
    simp [World.setCell]
 have HF := hid (show RanP w R (.returned (.tuple #[.agg #[.bool R.up, .slice ac 3 cc, .slice ao 3 co, .slice as_ 3 cs, .int .i64 R.waits], .bool true])) W6.drew from ⟨ac, cc, ao, co, as_, cs, rfl, hO6, hB6⟩); rw [← hW6]; refine bodyPost_ret (v := .tuple #[.agg #[.bool R.up, .slice ac 3 cc, .slice ao 3 co, .slice as_ 3 cs, .int .i64 R.waits], .bool true]) (by simp only [results, Tryz.results5]; simp [go_sem, m0, m1, m2, m3, m4]) rfl HF.out
def odN (p : Nat) : List UInt8 := match p with | 0 => nmA | 1 => nmB | _ => nmC
def odX (q : Nat) : List (List UInt8) := match q with | 0 => [] | 1 => [[110, 111, 32, 99, 111, 108, 111, 110], []] | 2 => [[97, 58, 32, 98]] | 3 => [[32, 97, 58, 32, 98], []] | _ => [[58, 32, 120], []]
def odL (p q : Nat) : List (List UInt8) := [[76, 72, 76, 79, 32, 97], [77, 65, 73, 76, 32, 70, 82, 79, 77, 58, 60, 97, 64, 98, 62], [82, 67, 80, 84, 32, 84, 79, 58, 60] ++ odN p ++ [64, 98, 62], [68, 65, 84, 65]] ++ odX q ++ [[46]]
theorem jlE (p q : Nat) (hp : p < 3) (hq : q < 5) : qJ usK (atS 0) (odL p q) = (atS 1, [250, 250, 250, 354, 554]) ∧ qW usK (atS 0) (odL p q) = true ∧ (jO (odL p q)).length ≤ 3000 ∧ (odL p q).length ≤ 10 := by
 match p, hp with
 | 0, _ | 1, _ | 2, _ =>
   match q, hq with
   | 0, _ | 1, _ | 2, _ | 3, _ | 4, _ => exact ⟨by kernel_rfl, by kernel_rfl, by decide, by decide⟩
theorem od_rom : RomOk usK usCs rom0 where
 st3 := rfl
 cs3 := rfl
 ib := fun i hi => by match i, hi with | 0, _ | 1, _ | 2, _ => rfl
 scr := fun i hi => by
  match i, hi with
  | 0, _ => exact ⟨[], rfl, (fun x hx => by cases hx), rfl⟩
  | 1, _ => exact ⟨cmdB, rfl, fun x hx => (jin.2 x hx).1, jlH⟩
  | 2, _ => exact ⟨cmdC, rfl, fun x hx => (jio.2 x hx).1, jlI⟩
def odW (j : Nat) : Rom := rom0.put 0 (lnsC (if j = 0 then atS 0 else atS 1) [] (if j = 0 then [] else [250, 250, 250, 354, 554]))
def odA (p q : Nat) : List Acu := [linA 0 (odL p q), jcC]
theorem jfo : mayS (atS 0) = true := jcX (by decide) (.inl (by decide)) (by decide)
theorem jmm : mayS (atS 1) = true := jcX (by decide) (.inl (by decide)) (by decide)
theorem jkz : jag (odW 1) = odW 1 ∧ relR (odW 1) 1 = odW 1 ∧ relR (odW 1) 2 = odW 1 ∧ relR (odW 1) 3 = odW 1 := by
 refine ⟨rfl, ?_, ?_, ?_⟩ <;> kernel_rfl
theorem jhG (u : World) : Calls Tryz.prog 23 #[.agg (acuC jcC).toArray] u fun e u' => e = .returned (.int .i64 0) ∧ Below u.heap.size u u' := by
 refine (jkK 0 0 0 0 0 0 [] [] [] [] (by simp) u).mono ?_; rintro e u' ⟨⟨r, rfl, hA⟩, hb⟩; refine ⟨?_, hb⟩; have h0 : ActE 2 0 0 0 [] (entZ 0 0 0 [] [] []) 0 := by
  refine .inr ⟨by decide, .inr ⟨⟨fun h => by omega, fun h => by omega, fun h => by omega⟩, .inr ⟨fun h => by omega, .inr ⟨⟨.inr ⟨rfl, rfl⟩, .inr rfl, .inr ⟨rfl, rfl, rfl, rfl, rfl, rfl, rfl⟩⟩, rfl⟩⟩⟩⟩
 rw [jfT hA h0]
theorem jlD {p q j : Nat} {x : Acu} (h : (odA p q)[j]? = some x) : (j = 0 ∧ x = linA 0 (odL p q)) ∨ (j = 1 ∧ x = jcC) := by
 match j, h with
 | 0, h => cases h; exact .inl ⟨rfl, rfl⟩
 | 1, h => cases h; exact .inr ⟨rfl, rfl⟩
 | j + 2, h => simp [odA] at h
theorem jnE (p q : Nat) (hp : p < 3) (hq : q < 5) (w : World) (hM : TabsM w) (j : Nat) (x : Acu) (hx : (odA p q)[j]? = some x) (B b : Nat) (G : List Nat) (u : World) (hB : w.heap.size ≤ B) (hu : Below w.heap.size w u) (hR : RoomM usK usCs B b G (odW j) u) :
 Calls Tryz.prog 15 #[.pointer (some ⟨b, 0, none⟩), .agg (acuC x).toArray] u (RmQ usK usCs B b G u (odW (j + 1)) (.tuple #[])) := by
 have hml : ∀ w', Below B u w' → TabsM w' := fun w' hw' => hM.next (hu.trans (hw'.mono hB))
 obtain ⟨h1, h2, h3, h4⟩ := jlE p q hp hq
 rcases jlD hx with ⟨rfl, rfl⟩ | ⟨rfl, rfl⟩
 · have h := jj5 usK usCs B b G rom0 u 0 (by omega) (atS 0) (odL p q) [] hR rfl od_rom jfo (by decide) h2 (by unfold odL; simp) (by simp; omega) (by omega) hml; rw [h1] at h; exact h
 · have e : odW (1 + 1) = odW 1 := rfl; rw [e]; obtain ⟨s1, s2, s3, s4⟩ := jkz; have hO : RomOk usK usCs (odW 1) := od_rom.put _ _; refine jl8 usK usCs B b G (odW 1) u hR rfl _ fun w' hb' => ?_
   refine jjj usK usCs B b G (odW 1) w' (hR.next hb') rfl (show (0 : Int) ≤ 0 ∧ (0 : Int) ≤ 1000000 by decide) (show (0 : Int) ≤ 0 ∧ (0 : Int) ≤ 1000000 by decide) (show 0 < 3 ∧ 3 ≤ 1000 by decide) rfl ?_ (fun _ => odW 1) (by rw [s1, s4]) ?_
   · intro q hq; rw [s1]
     match q, hq with
     | 0, _ => show 5 + 0 ≤ _; omega
     | 1, _ => rw [s2]; show 0 + 0 ≤ _; omega
     | 2, _ => rw [s3]; show 0 + 0 ≤ _; omega
   · intro q G' w2 hq hb2 hR2; have hml2 : ∀ w3, Below B w2 w3 → TabsM w3 := fun w3 h3 => hml w3 (((hb'.mono (by have := hR.lt; omega)).trans hb2).trans h3)
     match q, hq with
     | 0, _ => exact jcn usK usCs B b G' _ w2 hR2 0 7 (by omega) rfl _ _ hO rfl jmm (by decide) hml2
     | 1, _ => exact jcn usK usCs B b G' _ w2 hR2 1 16 (by omega) rfl (atS 0) [] hO rfl jfo (by simp) hml2
     | 2, _ => exact jcn usK usCs B b G' _ w2 hR2 2 25 (by omega) rfl (atS 0) [] hO rfl jfo (by simp) hml2
theorem jnc (Q : Nat → Prop) (a : Option Addr) (c p q : Nat) (hp : p < 3) (hq : q < 5) (w : World) (hM : TabsM w) (hA : AcsM Q w (.slice a 2 c) (odA p q)) :
 Calls Tryz.prog 5 #[.slice a 2 c] w (RanP w (odW 2)) :=
 jmE Q a c (odA p q) w hM hA (show 2 ≤ _ by omega) (fun x hx u => by
  obtain ⟨j, hj⟩ := List.getElem?_of_mem hx
  rcases jlD hj with ⟨_, rfl⟩ | ⟨_, rfl⟩
  · exact jiI 0 (by omega) _ (jlE p q hp hq).2.2.1 u
  · exact jhG u) odW rfl rfl rfl fun j x hx B b G u hB hu hR => jnE p q hp hq w hM j x hx B b G u hB hu hR
theorem jmu : (odW 2).c0.told = [250, 250, 250, 354, 554] ∧ (odW 2).safe = [inbS, inbS, inbS] := ⟨rfl, rfl⟩
theorem jdH (s : Stt) (vb vs vb' vs' : Value) (w : World) (Q Q' : Nat → Prop) (hS : SttM Q w vb vs s) (hS' : SttM Q' w vb' vs' s) :
 Calls Tryz.prog 17 #[.agg #[vb, vs], .agg #[vb', vs']] w fun e w' => e = .returned (.bool true) ∧ Below w.heap.size w w' := by
 have hm := RowM.small hS.1; have hm2 := RowM.small hS.2.1; unfold maxLen at hm hm2; obtain ⟨ab, cb, rfl⟩ := RowM.slice hS.1; obtain ⟨aq, cq, rfl⟩ := RowM.slice hS.2.1; obtain ⟨ab', cb', rfl⟩ := RowM.slice hS'.1; obtain ⟨aq', cq', rfl⟩ := RowM.slice hS'.2.1; obtain ⟨W1, hW1⟩ : ∃ W1, W1 = (w.alloc (.cells #[.slice ab s.boxes.length cb, .slice aq s.spool.length cq] 49)).alloc (.cells #[.slice ab' s.boxes.length cb', .slice aq' s.spool.length cq'] 49) := ⟨_, rfl⟩; have HWE := hid hW1; have hB1 : Below w.heap.size w W1 := by rw [hW1]; exact (nb0 _ _).alloc (by simp) _
 have HB1 := hid hB1; have x0 : W1.cell? ⟨w.heap.size, 0, none⟩ = some (.slice ab s.boxes.length cb) := by rw [hW1]; exact jy (by simp) _
 have x1 : W1.cell? ⟨w.heap.size, 1, none⟩ = some (.slice aq s.spool.length cq) := by rw [hW1]; exact jy (by simp) _
 have x2 : W1.cell? ⟨w.heap.size + 1, 0, none⟩ = some (.slice ab' s.boxes.length cb') := by rw [hW1]; simp
 have x3 : W1.cell? ⟨w.heap.size + 1, 1, none⟩ = some (.slice aq' s.spool.length cq') := by rw [hW1]; simp
 have HS := hid (hS.next hB1); have HS' := hid (hS'.next hB1); clear hS hS' hW1 hB1; go_enter Tryz.func17, Tryz.ntmps17; go_wp2; rw [← HWE.out]
 go_loopw [5] (fun v wr => ∃ i : Nat, i ≤ s.spool.length ∧ v = .int .i64 i ∧ Hid (Below W1.heap.size W1 wr)) (fun v _ => s.spool.length - (intOf v).toNat)
 case atStart => exact ⟨0, Nat.zero_le _, rfl, Below.refl _ _⟩
 case round =>
  obtain ⟨i, hi, rfl, HB⟩ := hrel; have y0 := ja x0 HB.out; have y1 := ja x1 HB.out; have y2 := ja x2 HB.out; have y3 := ja x3 HB.out
  by_cases hlt : i < s.spool.length
  · have i1 : (i : Int) < (s.spool.length : Int) := by omega
    have i0 : (0 : Int) ≤ (i : Int) := by omega
    obtain ⟨x, hx⟩ : ∃ x, s.spool[i]? = some x := ⟨_, List.getElem?_eq_getElem hlt⟩; obtain ⟨b, o, rfl, _, e0, e1, e2, e3, e4, e5⟩ := (HS.out.2.1.next HB.out).at hx; obtain ⟨b', o', rfl, _, d0, d1, d2, d3, d4, d5⟩ := (HS'.out.2.1.next HB.out).at hx; clear hx; go_wp2
    go_quiet (fail)
    have HB2 := hid (qa HB.out nq); go_wp2
    go_roundw
    case rel => first | exact ⟨i + 1, by omega, by go_num, HB2⟩ | ((repeat apply Exists.intro); exact ⟨⟨i + 1, by omega, by go_num, HB2⟩, rfl⟩)
    case measure => simp [intOf]; omega
  · have i1 : ¬ (i : Int) < (s.spool.length : Int) := by omega
    obtain ⟨w0, rfl⟩ : ∃ W, W = wr := ⟨_, rfl⟩; go_wp2
    go_loopw [6] (fun v wr => ∃ i : Nat, i ≤ s.boxes.length ∧ v = .int .i64 i ∧ Hid (Below w0.heap.size w0 wr)) (fun v _ => s.boxes.length - (intOf v).toNat)
    case atStart => exact ⟨0, Nat.zero_le _, rfl, Below.refl _ _⟩
    case round =>
        obtain ⟨j, hj, rfl, HC⟩ := hrel; have u0 := ja y0 HC.out; have u2 := ja y2 HC.out
        by_cases hlj : j < s.boxes.length
        · have j1 : (j : Int) < (s.boxes.length : Int) := by omega
          have j0 : (0 : Int) ≤ (j : Int) := by omega
          obtain ⟨x, hx⟩ : ∃ x, s.boxes[j]? = some x := ⟨_, List.getElem?_eq_getElem hlj⟩; have hBC := HB.out.trans (HC.out.mono HB.out.size); obtain ⟨b, o, v, rfl, _, e0, e1, e2, hM⟩ := (HS.out.1.next hBC).at hx; obtain ⟨b', o', v', rfl, _, d0, d1, d2, hM'⟩ := (HS'.out.1.next hBC).at hx; obtain ⟨am, cm, rfl⟩ := RowM.slice hM; obtain ⟨am', cm', rfl⟩ := RowM.slice hM'; have hmm := RowM.small hM; unfold maxLen at hmm; obtain ⟨w1, rfl⟩ : ∃ W, W = wr := ⟨_, rfl⟩; obtain ⟨W2, hW2⟩ : ∃ W2, W2 = (w1.alloc (.cells #[.string (S x.name), .int .i64 x.next, .slice am x.mails.length cm] 67)).alloc (.cells #[.string (S x.name), .int .i64 x.next, .slice am' x.mails.length cm'] 67) := ⟨_, rfl⟩; have HWE2 := hid hW2; have hB2 : Below w1.heap.size w1 W2 := by rw [hW2]; exact (nb0 _ _).alloc (by simp) _
          have m2 : W2.cell? ⟨w1.heap.size, 2, none⟩ = some (.slice am x.mails.length cm) := by rw [hW2]; exact jy (by simp) _
          have m3 : W2.cell? ⟨w1.heap.size + 1, 2, none⟩ = some (.slice am' x.mails.length cm') := by rw [hW2]; simp
          have a2 := jy u2 (.cells #[.string (S x.name), .int .i64 x.next, .slice am x.mails.length cm] 67); have a3 := jy d0 (.cells #[.string (S x.name), .int .i64 x.next, .slice am x.mails.length cm] 67); have a4 := jy d1 (.cells #[.string (S x.name), .int .i64 x.next, .slice am x.mails.length cm] 67); have a5 := jy d2 (.cells #[.string (S x.name), .int .i64 x.next, .slice am x.mails.length cm] 67); have hn1 : w.heap.size + 1 ≠ w1.heap.size := Nat.ne_of_lt (World.block_lt_of_cell? _ _ u2); have hn2 : b' ≠ w1.heap.size := Nat.ne_of_lt (World.block_lt_of_cell? _ _ d0); have HM := hid (hM.next hB2); have HM' := hid (hM'.next hB2); have HB2 := hid hB2; clear hx hM hM' hW2 hB2 hBC; go_wp2; rw [← HWE2.out]
          go_loopw [9] (fun v wr => ∃ i : Nat, i ≤ x.mails.length ∧ v = .int .i64 i ∧ Hid (Below W2.heap.size W2 wr)) (fun v _ => x.mails.length - (intOf v).toNat)
          case atStart => exact ⟨0, Nat.zero_le _, rfl, Below.refl _ _⟩
          case round =>
            obtain ⟨k, hk, rfl, HD⟩ := hrel; have n2 := ja m2 HD.out; have n3 := ja m3 HD.out
            by_cases hlk : k < x.mails.length
            · have k1 : (k : Int) < (x.mails.length : Int) := by omega
              have k0 : (0 : Int) ≤ (k : Int) := by omega
              obtain ⟨m, hm'⟩ : ∃ m, x.mails[k]? = some m := ⟨_, List.getElem?_eq_getElem hlk⟩; obtain ⟨p, q, rfl, _, f0, f1, f2⟩ := (HM.out.next HD.out).at hm'; obtain ⟨p', q', rfl, _, g0, g1, g2⟩ := (HM'.out.next HD.out).at hm'; clear hm'; go_wp2
              go_quiet (fail)
              have HD2 := hid (qa HD.out nq); go_wp2
              go_roundw
              case rel => first | exact ⟨k + 1, by omega, by go_num, HD2⟩ | ((repeat apply Exists.intro); exact ⟨⟨k + 1, by omega, by go_num, HD2⟩, rfl⟩)
              case measure => simp [intOf]; omega
            · have k1 : ¬ (k : Int) < (x.mails.length : Int) := by omega
              have HC2 := hid (show Below w0.heap.size w0 wr from HC.out.trans ((HB2.out.trans (HD.out.mono HB2.out.size)).mono HC.out.size)); go_wp2
              go_roundw
              case rel => first | exact ⟨j + 1, by omega, by go_num, HC2⟩ | ((repeat apply Exists.intro); exact ⟨⟨j + 1, by omega, by go_num, HC2⟩, rfl⟩)
              case measure => simp [intOf]; omega
        · have j1 : ¬ (j : Int) < (s.boxes.length : Int) := by omega
          have HE := hid (show Below w.heap.size w wr from (HB1.out.trans (HB.out.mono HB1.out.size)).trans (HC.out.mono (Nat.le_trans HB1.out.size HB.out.size))); go_wp2; go_ret; exact ⟨rfl, HE.out⟩
def FrP (w : World) (e : Ending) (w' : World) : Prop := ∃ a c, e = .returned (.slice a 3 c) ∧ RowM anyB 2 (SttV anyB w') w' (.slice a 3 c) [inbS, inbS, inbS] ∧ Below w.heap.size w w'
theorem jir (w : World) : Calls Tryz.prog 7 #[] w (FrP w) := by
 have HF := hid (jf4 0 (by decide) w); go_enter Tryz.func7, Tryz.ntmps7; go_wp2_with fail; refine HF.out.mono ?_; rintro e w2 ⟨b, rfl, hbx, hbw, hb2⟩; have HX := hid hbx; have HB := hid hb2; have HBL := hid (show b < w2.heap.size from (Array.getElem?_eq_some_iff.1 hbx).1); clear hbx hb2; have HF := hid (show FrP w (.returned (.slice (some ⟨w2.heap.size + 1, 0, none⟩) 3 3)) ((w2.alloc (.cells #[.slice (some ⟨b, 0, none⟩) 1 1, .slice none 0 0] 49)).alloc (.cells #[.slice (some ⟨b, 0, none⟩) 1 1, .slice none 0 0, .slice (some ⟨b, 0, none⟩) 1 1, .slice none 0 0, .slice (some ⟨b, 0, none⟩) 1 1, .slice none 0 0] 49)) from by
  have hb1 : ∀ o, Below w2.heap.size w2 (w2.alloc o) := fun o => (Below.refl _ _).alloc (Nat.le_refl _) o
  have hb2 : ∀ o p, Below w2.heap.size w2 ((w2.alloc o).alloc p) := fun o p => (hb1 o).alloc (by simp) p
  have hs := fun o p => jiy (Q := anyB) (((hb2 o p).block b HBL.out).trans HX.out) trivial
  refine ⟨_, _, rfl, jdC (B := 0) (css := [[.slice (some ⟨b, 0, none⟩) 1 1, .slice none 0 0], [.slice (some ⟨b, 0, none⟩) 1 1, .slice none 0 0], [.slice (some ⟨b, 0, none⟩) 1 1, .slice none 0 0]]) ⟨rfl, .inr ⟨w2.heap.size + 1, 3, _, rfl, Nat.zero_le _, jdq _ (by simp), by decide, by unfold maxLen; decide, rfl, rfl⟩⟩ rfl (by unfold maxLen; decide) rfl (fun cs h => by simp at h; rw [h]; rfl) (fun i s cs h1 h2 => ?_) fun _ _ => trivial, HB.out.trans ((hb2 _ _).mono HB.out.size)⟩; have e1 : s = inbS := by simpa using List.mem_of_getElem? h1
  have e2 : cs = [.slice (some ⟨b, 0, none⟩) 1 1, .slice none 0 0] := by simpa using List.mem_of_getElem? h2
  subst e1; subst e2; exact ⟨_, _, rfl, hs _ _⟩)
 go_wp2; go_ret; exact HF.out
theorem jcB (s : Stt) (a1 a2 a3 a4 : Option Addr) (c1 c2 c3 c4 : Nat) (w : World) (Q Q' : Nat → Prop) (hS : SttM Q w (.slice a1 s.boxes.length c1) (.slice a2 s.spool.length c2) s) (hS' : SttM Q' w (.slice a3 s.boxes.length c3) (.slice a4 s.spool.length c4) s) :
 Calls Tryz.prog 11 #[.agg #[.slice a1 s.boxes.length c1, .slice a2 s.spool.length c2], .agg #[.slice a3 s.boxes.length c3, .slice a4 s.spool.length c4]] w fun e w' => e = .returned (.bool true) ∧ Below w.heap.size w w' := by
 have HS := hid (fun (u : World) (hu : Below w.heap.size w u) => jdH s (.slice a1 s.boxes.length c1) (.slice a2 s.spool.length c2) (.slice a3 s.boxes.length c3) (.slice a4 s.spool.length c4) u Q Q' (hS.next hu) (hS'.next hu)); clear hS hS'; have HB := hid (show ∀ a b : Obj, Below w.heap.size w ((w.alloc a).alloc b) from fun a b => ((Below.refl _ _).alloc (Nat.le_refl _) a).alloc (by simp) b); go_enter Tryz.func11, Tryz.ntmps11; go_wp2_with fail; refine (HS.out _ (HB.out _ _)).mono ?_; rintro e w2 ⟨rfl, hb2⟩; have HB2 := hid ((HB.out _ _).trans (hb2.mono (HB.out _ _).size)); clear hb2; go_wp2; go_ret; exact ⟨rfl, HB2.out⟩
theorem jjo (Q Q' : Nat → Prop) (a a' : Option Addr) (c c' : Nat) (l : List Stt) (w : World) (h : RowM Q 2 (SttV Q w) w (.slice a l.length c) l) (h' : RowM Q' 2 (SttV Q' w) w (.slice a' l.length c') l) :
 Calls Tryz.prog 6 #[.slice a l.length c, .slice a' l.length c'] w fun e w' => e = .returned (.bool true) ∧ Below w.heap.size w w' := by
 have hsm := RowM.small h; unfold maxLen at hsm; have HA := hid (show ∀ (i : Nat) s, l[i]? = some s → ∃ b o b' o' vb vs vb' vs', a = some ⟨b, o, none⟩ ∧ a' = some ⟨b', o', none⟩ ∧ w.cell? ⟨b, o + i * 2, none⟩ = some vb ∧ w.cell? ⟨b, o + i * 2 + 1, none⟩ = some vs ∧ w.cell? ⟨b', o' + i * 2, none⟩ = some vb' ∧ w.cell? ⟨b', o' + i * 2 + 1, none⟩ = some vs' ∧ SttM Q w vb vs s ∧ SttM Q' w vb' vs' s from fun i s hi => by
  obtain ⟨_, _, e, _, hr⟩ := h; obtain ⟨_, _, e', _, hr'⟩ := h'; simp only [Value.slice.injEq, true_and] at e e'; obtain ⟨rfl, rfl⟩ := e; obtain ⟨rfl, rfl⟩ := e'; obtain ⟨b, o, cs, h1, _, _, _, h5, vb, vs, rfl, h6⟩ := hr i s hi; obtain ⟨b', o', cs', g1, _, _, _, g5, vb', vs', rfl, g6⟩ := hr' i s hi; exact ⟨b, o, b', o', vb, vs, vb', vs', h1, g1, h5 0 _ rfl, h5 1 _ rfl, g5 0 _ rfl, g5 1 _ rfl, h6, g6⟩)
 clear h h'; go_enter Tryz.func6, Tryz.ntmps6; go_wp2
 go_loopw [5] (fun i wr => ∃ k : Nat, k ≤ l.length ∧ i = .int .i64 k ∧ Hid (Below w.heap.size w wr)) (fun i _ => l.length - (intOf i).toNat)
 case atStart => exact ⟨0, Nat.zero_le _, rfl, hid (Below.refl _ _)⟩
 case round =>
  obtain ⟨k, hk, rfl, HB⟩ := hrel
  by_cases hlt : k < l.length
  · have k1 : (k : Int) < (l.length : Int) := by omega
    have k0 : (0 : Int) ≤ (k : Int) := by omega
    have hx : l[k]? = some l[k] := List.getElem?_eq_getElem hlt; generalize l[k] = s at hx; obtain ⟨b, o, b', o', vb, vs, vb', vs', rfl, rfl, x0, x1, y0, y1, hS, hS'⟩ := HA.out k s hx; obtain ⟨ab, cb, rfl⟩ := RowM.slice hS.1; obtain ⟨aq, cq, rfl⟩ := RowM.slice hS.2.1; obtain ⟨ab', cb', rfl⟩ := RowM.slice hS'.1; obtain ⟨aq', cq', rfl⟩ := RowM.slice hS'.2.1; have HSS := hid (fun (u : World) (hu : Below w.heap.size w u) => jcB s ab aq ab' aq' cb cq cb' cq' u Q Q' (hS.next hu) (hS'.next hu)); have HC := hid (show ∀ u, Below w.heap.size w u → u.cell? ⟨b, o + k * 2, none⟩ = some (.slice ab s.boxes.length cb) ∧ u.cell? ⟨b, o + k * 2 + 1, none⟩ = some (.slice aq s.spool.length cq) ∧ u.cell? ⟨b', o' + k * 2, none⟩ = some (.slice ab' s.boxes.length cb') ∧ u.cell? ⟨b', o' + k * 2 + 1, none⟩ = some (.slice aq' s.spool.length cq') from fun u hu => ⟨ja x0 hu, ja x1 hu, ja y0 hu, ja y1 hu⟩); clear x0 x1 y0 y1 hS hS' hx; go_wp2
    go_region_held3 (fun u => u.cell? ⟨b, o + k * 2, none⟩ = some (.slice ab s.boxes.length cb) ∧ u.cell? ⟨b, o + k * 2 + 1, none⟩ = some (.slice aq s.spool.length cq) ∧ u.cell? ⟨b', o' + k * 2, none⟩ = some (.slice ab' s.boxes.length cb') ∧ u.cell? ⟨b', o' + k * 2 + 1, none⟩ = some (.slice aq' s.spool.length cq'))
        (first | exact HC.out _ HB2.out | exact HC.out _ HB.out.drew | exact HC.out _ HB.out | fail)
        (first
          | (go_at_call 11
             refine (HSS.out _ HB.out.drew).mono ?_; rintro e w2 ⟨rfl, hb2⟩; have HB2 := hid (HB.out.drew.trans (hb2.mono HB.out.drew.size)); clear hb2)
          | fail)
    all_goals
        go_wp2
        go_roundw
        case rel => first | exact ⟨k + 1, by omega, by go_num, HB2⟩ | ((repeat apply Exists.intro); exact ⟨⟨k + 1, by omega, by go_num, HB2⟩, rfl⟩)
        case measure => simp [intOf]; omega
  · have k1 : ¬ (k : Int) < (l.length : Int) := by omega
    go_wp2; go_ret; exact ⟨rfl, HB.out⟩
end Go.Proofs.YtmgdnhjemhhleaaGreatDoor
