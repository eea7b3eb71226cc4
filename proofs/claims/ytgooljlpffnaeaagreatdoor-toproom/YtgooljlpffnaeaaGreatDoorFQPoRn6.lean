/-
  What post.Run does with acts that may be: the walk, over what each act does.
-/
import Derived.Test.YtgooljlpffnaeaaGreatDoorFQPoChk3
set_option maxHeartbeats 4000000
set_option maxRecDepth 100000
namespace Go.Proofs.YtgooljlpffnaeaaGreatDoor
open Go.RowKit Go.Proofs
theorem AcsM.next {Q : Nat → Prop} {w w' : World} {v : Value} {l : List Acu} (h : AcsM Q w v l) (hb : Below w.heap.size w w') : AcsM Q w' v l := RowM.imp h (fun _ h => h) (Keeps.of_below hb) fun _ _ h => h
theorem AcsM.at {Q : Nat → Prop} {w : World} {a : Option Addr} {n c : Nat} {l : List Acu} (h : AcsM Q w (.slice a n c) l) {i : Nat} {x : Acu} (hx : l[i]? = some x) : ∃ b o, a = some ⟨b, o, none⟩ ∧ w.cell? ⟨b, o + i * 11, none⟩ = some (.int .i64 x.kind) ∧ w.cell? ⟨b, o + i * 11 + 1, none⟩ = some (.int .i64 x.conn) ∧ w.cell? ⟨b, o + i * 11 + 2, none⟩ = some (.int .i64 x.user) ∧ w.cell? ⟨b, o + i * 11 + 3, none⟩ = some (.int .i64 x.keep) ∧ w.cell? ⟨b, o + i * 11 + 4, none⟩ = some (.string (S x.data)) ∧
 w.cell? ⟨b, o + i * 11 + 5, none⟩ = some (.int .i64 x.ent.kind) ∧ w.cell? ⟨b, o + i * 11 + 6, none⟩ = some (.string (S x.ent.box)) ∧ w.cell? ⟨b, o + i * 11 + 7, none⟩ = some (.int .i64 x.ent.uid) ∧ w.cell? ⟨b, o + i * 11 + 8, none⟩ = some (.int .i64 x.ent.flags) ∧ w.cell? ⟨b, o + i * 11 + 9, none⟩ = some (.string (S x.ent.goal)) ∧ w.cell? ⟨b, o + i * 11 + 10, none⟩ = some (.string (S x.ent.text)) := by
 obtain ⟨a', c', hv, _, hr⟩ := h; simp only [Value.slice.injEq] at hv; obtain ⟨b, o, cs, ha, _, _, _, hc, hP⟩ := hr i x hx; have hcs : cs = acuC x := hP; subst hcs; exact ⟨b, o, by rw [hv.1, ha], hc 0 _ rfl, hc 1 _ rfl, hc 2 _ rfl, hc 3 _ rfl, hc 4 _ rfl, hc 5 _ rfl, hc 6 _ rfl, hc 7 _ rfl, hc 8 _ rfl, hc 9 _ rfl, hc 10 _ rfl⟩
theorem jeM (Q : Nat → Prop) (a : Option Addr) (c : Nat) (l : List Acu) (w : World) (hM : AcsM Q w (.slice a l.length c) l) (hl : l.length ≤ 10000)
 (hC : ∀ x ∈ l, ∀ u, Calls Tryz.prog 16 #[.agg (acuC x).toArray] u fun e u' => e = .returned (.int .i64 0) ∧ Below u.heap.size u u') :
 Calls Tryz.prog 11 #[.slice a l.length c] w fun e w' => e = .returned (.int .i64 0) ∧ Below w.heap.size w w' := by
 have HM := hid hM; have HC := hid hC; clear hM hC; go_enter Tryz.func11, Tryz.ntmps11; go_wp2
 go_loopw [11] (fun i wr => ∃ k : Nat, k ≤ l.length ∧ i = .int .i64 k ∧ Hid (Below w.heap.size w wr)) (fun i _ => l.length - (intOf i).toNat)
 case atStart => exact ⟨0, Nat.zero_le _, rfl, hid (Below.refl _ _)⟩
 case round =>
  obtain ⟨k, hk, rfl, HB⟩ := hrel
  by_cases hlt : k < l.length
  · have k1 : (k : Int) < (l.length : Int) := by omega
    have k0 : (0 : Int) ≤ (k : Int) := by omega
    have hx : l[k]? = some l[k] := List.getElem?_eq_getElem hlt; have hc := HC.out l[k] (List.getElem_mem hlt); generalize l[k] = x at hx hc; obtain ⟨b, o, rfl, x0, x1, x2, x3, x4, x5, x6, x7, x8, x9, x10⟩ := (HM.out.next HB.out).at hx; have HCX := hid hc; have hal : ∀ o, Below wr.heap.size wr (wr.alloc o) := fun o => (Below.refl _ _).alloc (Nat.le_refl _) o
    have HAL := hid hal; clear hx hc hal; unfold acuC at HCX; go_wp2_with fail; refine (HCX.out _).mono ?_; rintro e w2 ⟨rfl, hb2⟩; have HB2 := hid (HB.out.trans (((HAL.out _).trans (hb2.mono (HAL.out _).size)).mono HB.out.size)); clear hb2; go_wp2
    go_roundw
    case rel => first | exact ⟨k + 1, by omega, by go_num, HB2⟩ | ((repeat apply Exists.intro); exact ⟨⟨k + 1, by omega, by go_num, HB2⟩, rfl⟩)
    case measure => simp [intOf]; omega
  · have k1 : ¬ (k : Int) < (l.length : Int) := by omega
    go_wp2; go_ret; exact ⟨rfl, HB.out⟩
def RunP (w : World) (R : Rom) (e : Ending) (w' : World) : Prop := ∃ ac cc ao co as_ cs, e = .returned (.tuple #[.agg #[.bool R.up, .slice ac 3 cc, .slice ao R.orders.length co, .slice as_ R.safe.length cs, .int .i64 R.waits], .int .i64 0]) ∧ OutM w.heap.size w' R (.slice ac 3 cc) (.slice ao R.orders.length co) (.slice as_ R.safe.length cs) ∧ Below w.heap.size w w'
def OpO (K : List (List UInt8)) (Cs : List (List Cmd)) (v : World) (e : Ending) (v' : World) : Prop := ∃ b G, e = .returned (.tuple #[.pointer (some ⟨b, 0, none⟩), .int .i64 0]) ∧ RoomM K Cs v.heap.size b G rom0 v' ∧ Below v.heap.size v v'
theorem OutM.next {N : Nat} {w w' : World} {R : Rom} {vc vo vs : Value} (h : OutM N w R vc vo vs) (hb : ∀ g, g < w.heap.size → N ≤ g → w'.heap[g]? = w.heap[g]?) (hs : w.heap.size ≤ w'.heap.size) : OutM N w' R vc vo vs := by
 have hk : Keeps (N ≤ ·) w w' := ⟨hs, hb⟩; exact ⟨RowM.imp h.co (fun _ h => h) hk fun _ _ h => by
  obtain ⟨v, e, h⟩ := h; exact ⟨v, e, RowM.imp h (fun _ h => h) hk fun _ _ h => h⟩, RowM.imp h.od (fun _ h => h) hk fun _ _ h => by
  obtain ⟨v, e, h⟩ := h; exact ⟨v, e, RowM.imp h (fun _ h => h) hk fun _ _ h => h⟩, RowM.imp h.sf (fun _ h => h) hk fun _ _ h => by
  obtain ⟨vb, vs, e, h⟩ := h; exact ⟨vb, vs, e, h.imp (fun _ h => h) hk⟩⟩
theorem OutM.mono {N N' : Nat} {w : World} {R : Rom} {vc vo vs : Value} (hN : N' ≤ N) (h : OutM N w R vc vo vs) : OutM N' w R vc vo vs := by
 have hq : ∀ k, N ≤ k → N' ≤ k := fun k hk => Nat.le_trans hN hk
 have hk := Keeps.refl (N ≤ ·) w; exact ⟨RowM.imp h.co hq hk fun _ _ h => by
  obtain ⟨v, e, h⟩ := h; exact ⟨v, e, RowM.imp h hq hk fun _ _ h => h⟩, RowM.imp h.od hq hk fun _ _ h => by
  obtain ⟨v, e, h⟩ := h; exact ⟨v, e, RowM.imp h hq hk fun _ _ h => h⟩, RowM.imp h.sf hq hk fun _ _ h => by
  obtain ⟨vb, vs, e, h⟩ := h; exact ⟨vb, vs, e, h.imp hq hk⟩⟩
theorem jmh (K : List (List UInt8)) (Cs : List (List Cmd)) (us : Value) (Q : Nat → Prop) (a : Option Addr) (c : Nat) (l : List Acu) (w : World) (hM : AcsM Q w (.slice a l.length c) l) (hl : l.length ≤ 10000)
 (hC : ∀ x ∈ l, ∀ u, Calls Tryz.prog 16 #[.agg (acuC x).toArray] u fun e u' => e = .returned (.int .i64 0) ∧ Below u.heap.size u u')
 (hO : ∀ v, Below w.heap.size w v → Calls Tryz.prog 10 #[us] v (OpO K Cs v))
 (st : Nat → Rom) (h0 : st 0 = rom0)
 (hD : ∀ (k : Nat) (x : Acu), l[k]? = some x → ∀ (B b : Nat) (G : List Nat) (u : World), w.heap.size ≤ B → Below w.heap.size w u → RoomM K Cs B b G (st k) u → Calls Tryz.prog 12 #[.pointer (some ⟨b, 0, none⟩), .agg (acuC x).toArray] u (RmQ K Cs B b G u (st (k + 1)) (.tuple #[]))) :
 Calls Tryz.prog 8 #[us, .slice a l.length c] w (RunP w (st l.length)) := by
 have HM := hid hM; have HC := hid hC; have HO := hid (hO _ ((Below.refl _ w).alloc (Nat.le_refl _) (.cells #[.bool false, .slice none 0 0, .slice none 0 0, .slice none 0 0, .int .i64 0] 32))); have HD := hid hD; have HB1 := hid (show Below w.heap.size w (w.alloc (.cells #[.bool false, .slice none 0 0, .slice none 0 0, .slice none 0 0, .int .i64 0] 32)) from nb0 _ _); have HZ := hid (heap_alloc_new w (.cells #[.bool false, .slice none 0 0, .slice none 0 0, .slice none 0 0, .int .i64 0] 32)); clear hM hC hO hD; go_enter Tryz.func8, Tryz.ntmps8; go_wp2_with fail; refine HO.out.mono ?_; rintro e w1 ⟨b, G, rfl, hR, hb1⟩; obtain ⟨N, hN⟩ : ∃ N, N = (w.alloc (.cells #[.bool false, .slice none 0 0, .slice none 0 0, .slice none 0 0, .int .i64 0] 32)).heap.size := ⟨_, rfl⟩; have hN1 : N = w.heap.size + 1 := by rw [hN]; simp
 rw [← hN] at hR hb1; have HR := hid hR; have HBN := hid hb1; have HW1 := hid (show Below w.heap.size w w1 from HB1.out.trans (hb1.mono (by omega))); have HCA := hid (jeM Q a c l w1 (HM.out.next HW1.out) hl HC.out); have HZ1 := hid ((hb1.block w.heap.size (by omega)).trans HZ.out); clear hR hb1 hN HO HZ; go_wp2_with fail; refine HCA.out.mono ?_; rintro e w2 ⟨rfl, hb2⟩; have HR2 := hid (HR.out.next hb2); have HW2 := hid (HW1.out.trans (hb2.mono HW1.out.size)); have HZ2 := hid ((hb2.block w.heap.size (by have := HW1.out.size; have := (Array.getElem?_eq_some_iff.1 HZ1.out).1; omega)).trans HZ1.out); clear hb2 HCA HR HW1 HZ1 HBN; go_wp2
 go_loopw [25] (fun i wr => ∃ (k : Nat) (G' : List Nat), k ≤ l.length ∧ i = .int .i64 k ∧ Hid (RoomM K Cs N b G' (st k) wr) ∧ Hid (Below w.heap.size w wr) ∧ Hid (wr.heap[w.heap.size]? = some (.cells #[.bool false, .slice none 0 0, .slice none 0 0, .slice none 0 0, .int .i64 0] 32))) (fun i _ => l.length - (intOf i).toNat)
 case atStart => exact ⟨0, G, Nat.zero_le _, rfl, hid (by rw [h0]; exact HR2.out), HW2, HZ2⟩
 case round =>
  obtain ⟨k, G', hk, rfl, HRk, HBk, HZk⟩ := hrel
  by_cases hlt : k < l.length
  · have k1 : (k : Int) < (l.length : Int) := by omega
    have k0 : (0 : Int) ≤ (k : Int) := by omega
    have hx : l[k]? = some l[k] := List.getElem?_eq_getElem hlt; generalize l[k] = x at hx; obtain ⟨g, o, rfl, x0, x1, x2, x3, x4, x5, x6, x7, x8, x9, x10⟩ := (HM.out.next HBk.out).at hx; have hal : ∀ o, Below wr.heap.size wr (wr.alloc o) := fun o => (Below.refl _ _).alloc (Nat.le_refl _) o
    have HAL := hid hal; have HDX := hid (fun o => HD.out k x hx N b G' (wr.alloc o) (by omega) (HBk.out.trans ((hal o).mono HBk.out.size)) (HRk.out.next (hal o))); clear hx hal; unfold acuC at HDX; go_wp2_with fail; refine (HDX.out _).mono ?_; rintro e w3 ⟨rfl, G3, hR3, hs3⟩; have hlow := (HRk.out.next (HAL.out (.cells #[.int .i64 x.kind, .int .i64 x.conn, .int .i64 x.user, .int .i64 x.keep, .string (S x.data), .int .i64 x.ent.kind, .string (S x.ent.box), .int .i64 x.ent.uid, .int .i64 x.ent.flags, .string (S x.ent.goal), .string (S x.ent.text)] 27))).low hs3; have HR3 := hid hR3; have hzl := (Array.getElem?_eq_some_iff.1 HZk.out).1; have HB3 := hid (HBk.out.trans (((HAL.out _).mono HBk.out.size).trans (hlow.mono (by omega)))); have HZ3 := hid ((hlow.block w.heap.size (by omega)).trans (((HAL.out _).block w.heap.size hzl).trans HZk.out)); clear hR3 hs3 hlow hzl; go_wp2
    go_roundw
    case rel => first | exact ⟨k + 1, G3, by omega, by go_num, HR3, HB3, HZ3⟩ | ((repeat apply Exists.intro); exact ⟨⟨k + 1, G3, by omega, by go_num, HR3, HB3, HZ3⟩, rfl⟩)
    case measure => simp [intOf]; omega
  · have k1 : ¬ (k : Int) < (l.length : Int) := by omega
    obtain rfl : k = l.length := by omega
    have HOU := hid (je5 K Cs N b G' (st l.length) wr HRk.out); go_wp2_with fail; refine HOU.out.mono ?_; rintro e w3 ⟨ac, cc, ao, co, as_, cs, rfl, hO3, hb3⟩; have hr := (hb3.block w.heap.size (Array.getElem?_eq_some_iff.1 HZk.out).1).trans HZk.out; obtain ⟨r0, r1, r2, r3, r4⟩ := bx5 hr; have zf : ∀ o, w3.frozen? ⟨w.heap.size, o, none⟩ = false := fun o => by simp [World.frozen?, hr]
    have HR3 := hid hr; have HO3 := hid hO3; have HB3 := hid (HBk.out.trans (hb3.mono HBk.out.size)); clear hr hO3 hb3; have m := put5 (w := w3) (b := w.heap.size) (.bool (st l.length).up) (.slice ac 3 cc) (.slice ao (st l.length).orders.length co) (.slice as_ (st l.length).safe.length cs) (.int .i64 (st l.length).waits) HR3.out; have HM5 := hid m; clear m; go_wp2; obtain ⟨W6, hW6⟩ : ∃ W6, W6 = (((((w3.setCell ⟨w.heap.size, 0, none⟩ (.bool (st l.length).up)).setCell ⟨w.heap.size, 1, none⟩ (.slice ac 3 cc)).setCell ⟨w.heap.size, 2, none⟩ (.slice ao (st l.length).orders.length co)).setCell ⟨w.heap.size, 3, none⟩ (.slice as_ (st l.length).safe.length cs)).setCell ⟨w.heap.size, 4, none⟩ (.int .i64 (st l.length).waits)) := ⟨_, rfl⟩; have m := HM5.out; rw [← hW6] at m ⊢; obtain ⟨m0, m1, m2, m3, m4⟩ := bx5 m; refine bodyPost_ret (v := .tuple #[.agg #[.bool (st l.length).up, .slice ac 3 cc, .slice ao (st l.length).orders.length co, .slice as_ (st l.length).safe.length cs, .int .i64 (st l.length).waits], .int .i64 0]) (by simp only [results, Tryz.results8]; simp [go_sem, m0, m1, m2, m3, m4]) rfl ?_; have hB6 : Below w.heap.size w W6 := by
        rw [hW6]; exact (((((HB3.out.setCell (Nat.le_refl _) _).setCell (Nat.le_refl _) _).setCell (Nat.le_refl _) _).setCell (Nat.le_refl _) _).setCell (Nat.le_refl _) _)
    refine ⟨ac, cc, ao, co, as_, cs, rfl, OutM.mono (by omega) (OutM.next HO3.out (fun g hg hgN => ?_) ?_), hB6⟩
    · rw [hW6]; have hn : g ≠ w.heap.size := by omega
      exact (Below.heap_setCell _ _ _ _ hn).trans ((Below.heap_setCell _ _ _ _ hn).trans ((Below.heap_setCell _ _ _ _ hn).trans ((Below.heap_setCell _ _ _ _ hn).trans (Below.heap_setCell _ _ _ _ hn))))
    · rw [hW6]
      simp [World.setCell]
def usK : List (List UInt8) := [nmA, nmB, nmC]
def usCs : List (List Cmd) := [[], cmdB, cmdC]
theorem chA : zZ nmA [120] = 0 := by kernel_rfl
theorem chB : zZ nmB [120] = 0 := by kernel_rfl
theorem chC : zZ nmC [120] = 0 := by kernel_rfl
theorem jl2 (p : Nat) (v : World) (hm : TabsM v) (hp : v.heap[p]? = some (jfX nmA [] nmB scrB nmC scrC)) : Calls Tryz.prog 10 #[.slice (some ⟨p, 0, none⟩) 3 3] v (OpO usK usCs v) := by
 refine (jkb p nmA [] nmB scrB nmC scrC usCs 3 (by omega) 1 (by decide) v hp fun k u W1 b v5 v6 v36 hk hkf hu hb hI => ?_).mono fun e v' h => ?_
 · have hq : ∀ {e : Ending} {v' : World}, e = .returned (.int .i64 0) ∧ RoI W1 v.heap.size b v5 v6 v36 ([nmA, nmB, nmC].take (k + 1)) (usCs.take (k + 1)) v' → AdQ 3 1 W1 v.heap.size b v5 v6 v36 [nmA, nmB, nmC] usCs k u e v' := fun h => by
    unfold AdQ; rw [if_pos hk]; exact h
   obtain rfl | rfl | rfl : k = 0 ∨ k = 1 ∨ k = 2 := by omega
   · exact (hI.take hb (by decide) (by decide) nmA [] [] chA (by decide) rfl fun x hx => jmY x ((hm.next hu).next hx)).mono fun e w' h => hq h
   · exact (hI.take hb (by decide) (by decide) nmB scrB cmdB chB (by decide) rfl fun x hx => jmZ x ((hm.next hu).next hx)).mono fun e w' h => hq h
   · exact (hI.take hb (by decide) (by decide) nmC scrC cmdC chC (by decide) rfl fun x hx => jm0 x ((hm.next hu).next hx)).mono fun e w' h => hq h
 · unfold OpnQ at h; rw [if_neg (by omega)] at h; obtain ⟨W1, b, v5, v6, v36, he, hRB, hb, hBW, hL, hO, hI⟩ := h; obtain ⟨G, hG⟩ := RoomM.of_open hRB hb hL hO hI hBW.size (by decide) (by decide); exact ⟨b, G, he, hG, hBW.trans (hI.low hb hBW.size)⟩
def RanP (w : World) (R : Rom) (e : Ending) (w' : World) : Prop := ∃ ac cc ao co as_ cs, e = .returned (.tuple #[.agg #[.bool R.up, .slice ac 3 cc, .slice ao 3 co, .slice as_ 3 cs, .int .i64 R.waits], .bool true]) ∧ OutM w.heap.size w' R (.slice ac 3 cc) (.slice ao 3 co) (.slice as_ 3 cs) ∧ Below w.heap.size w w'
theorem jiE (Q : Nat → Prop) (a : Option Addr) (c : Nat) (l : List Acu) (w : World) (hm : TabsM w) (hM : AcsM Q w (.slice a l.length c) l) (hl : l.length ≤ 10000)
 (hC : ∀ x ∈ l, ∀ u, Calls Tryz.prog 16 #[.agg (acuC x).toArray] u fun e u' => e = .returned (.int .i64 0) ∧ Below u.heap.size u u')
 (st : Nat → Rom) (h0 : st 0 = rom0) (hs3 : (st l.length).safe.length = 3) (ho3 : (st l.length).orders.length = 3)
 (hD : ∀ (k : Nat) (x : Acu), l[k]? = some x → ∀ (B b : Nat) (G : List Nat) (u : World), w.heap.size ≤ B → Below w.heap.size w u → RoomM usK usCs B b G (st k) u → Calls Tryz.prog 12 #[.pointer (some ⟨b, 0, none⟩), .agg (acuC x).toArray] u (RmQ usK usCs B b G u (st (k + 1)) (.tuple #[]))) :
 Calls Tryz.prog 5 #[.slice a l.length c] w (RanP w (st l.length)) := by
 obtain ⟨W1, hW1⟩ : ∃ W1, W1 = w.alloc (.cells #[.bool false, .slice none 0 0, .slice none 0 0, .slice none 0 0, .int .i64 0] 32) := ⟨_, rfl⟩; obtain ⟨W2, hW2⟩ : ∃ W2, W2 = W1.alloc (jfX nmA [] nmB scrB nmC scrC) := ⟨_, rfl⟩; have hb1 : Below w.heap.size w W1 := by rw [hW1]; exact nb0 _ _
 have hb2 : Below w.heap.size w W2 := by rw [hW2]; exact hb1.alloc hb1.size _
 have hz1 : W1.heap.size = w.heap.size + 1 := by rw [hW1]; simp
 have hz2 : W2.heap.size = w.heap.size + 2 := by rw [hW2]; simp [hz1]
 have hu : W2.heap[W1.heap.size]? = some (jfX nmA [] nmB scrB nmC scrC) := by rw [hW2]; exact heap_alloc_new W1 _
 have hr2 : W2.heap[w.heap.size]? = some (.cells #[.bool false, .slice none 0 0, .slice none 0 0, .slice none 0 0, .int .i64 0] 32) := by
  rw [hW2, hW1]; exact jj2 _ (heap_alloc_new w _)
 have HRUN := hid (jmh usK usCs (.slice (some ⟨W1.heap.size, 0, none⟩) 3 3) Q a c l W2 (hM.next hb2) hl hC (fun v hv => jl2 W1.heap.size v ((hm.next hb2).next hv) ((hv.block _ (Array.getElem?_eq_some_iff.1 hu).1).trans hu)) st h0
  (fun k x hx B b G u hB hu' hR => hD k x hx B b G u (by omega) (hb2.trans (hu'.mono (by omega))) hR))
 rw [hz1] at HRUN; have HWE1 := hid hW1; have HWE2 := hid hW2; have HB2 := hid hb2; have HR2 := hid hr2; clear hM hC hD hm hb1 hb2 hu hr2 hW1 hW2; obtain ⟨R, hR⟩ : ∃ R, R = st l.length := ⟨_, rfl⟩; rw [← hR] at HRUN hs3 ho3 ⊢; clear hR; go_enter Tryz.func5, Tryz.ntmps5; go_wp2_with fail; rw [← HWE1.out]; refine (jjg W1).mono ?_; rintro e u ⟨rfl, hu⟩; rw [hz1]; rw [← HWE2.out] at hu; have hu' := hu.symm; subst hu'; clear hu; go_wp2_with fail; refine HRUN.out.mono ?_; rintro e w3 ⟨ac, cc, ao, co, as_, cs, rfl, hO3, hb3⟩; rw [ho3, hs3] at hO3; have hr3 := (hb3.block w.heap.size (by omega)).trans HR2.out; obtain ⟨W3, hW3⟩ : ∃ W3, W3 = w3.alloc (.cells #[.bool R.up, .slice ac 3 cc, .slice ao 3 co, .slice as_ 3 cs, .int .i64 R.waits] 32) := ⟨_, rfl⟩; have hb4 : Below w3.heap.size w3 W3 := by rw [hW3]; exact nb0 _ _
 have hr4 := (hb4.block w.heap.size (Array.getElem?_eq_some_iff.1 hr3).1).trans hr3; have hx4 : W3.heap[w3.heap.size]? = some (.cells #[.bool R.up, .slice ac 3 cc, .slice ao 3 co, .slice as_ 3 cs, .int .i64 R.waits] 32) := by rw [hW3]; exact heap_alloc_new w3 _
 have HW3 := hid hW3; have HX4 := hid hx4; have HR4 := hid hr4; have HO4 := hid (OutM.next hO3 (fun g hg _ => hb4.block g hg) hb4.size); have HB4 := hid (HB2.out.trans ((hb3.trans (hb4.mono hb3.size)).mono (by omega))); have HL := hid (show w.heap.size < w3.heap.size by have := hb3.size; omega); clear hr3 hb4 hr4 hx4 hW3 hO3 hb3; go_upto_region 2 with fail
 rw [← HW3.out]; have hx4 := HX4.out; have hr4 := HR4.out; obtain ⟨x0, x1, x2, x3, x4⟩ := bx5 hx4; obtain ⟨r0, r1, r2, r3, r4⟩ := bx5 hr4; have zf : ∀ o, W3.frozen? ⟨w.heap.size, o, none⟩ = false := fun o => by simp [World.frozen?, hr4]
 have hne : w.heap.size ≠ w3.heap.size := by have := HL.out; omega
 have hne' : w3.heap.size ≠ w.heap.size := by have := HL.out; omega
 clear hx4 hr4 hs3 ho3; refine wp_region_held_drew (S := fun u => u.cell? ⟨w3.heap.size, 0, none⟩ = some (.bool R.up) ∧ u.cell? ⟨w3.heap.size, 1, none⟩ = some (.slice ac 3 cc) ∧ u.cell? ⟨w3.heap.size, 2, none⟩ = some (.slice ao 3 co) ∧ u.cell? ⟨w3.heap.size, 3, none⟩ = some (.slice as_ 3 cs) ∧ u.cell? ⟨w3.heap.size, 4, none⟩ = some (.int .i64 R.waits)) (by kernel_rfl) ?_ (fun hHeld => ?_)
 · exact ⟨x0, x1, x2, x3, x4⟩
 refine wpAnyH_take (i := 0) (v := ?v1) rfl (by kernel_rfl) (by kernel_rfl) (by kernel_rfl) (fun _ _ _ h => h) (Or.inl ⟨by rfl, ?hy1⟩) (by assumption) ?_
 case hy1 =>
  intro w hSw
  (try dsimp only at hSw)
  go_simp
  all_goals with_reducible rfl
 change wpAnyH _ _ _ _ _ _ _ (Act.put _ (some 12) _) _
 try simp only [Act.put, List.setIfInBounds_toArray, List.set_cons_zero, List.set_cons_succ]
 refine wpAnyH_take (i := 1) (v := ?v2) rfl (by kernel_rfl) (by kernel_rfl) (by kernel_rfl) (fun _ _ _ h => h) (Or.inl ⟨by rfl, ?hy2⟩) (by assumption) ?_
 case hy2 =>
  intro w hSw
  (try dsimp only at hSw)
  go_simp
  all_goals with_reducible rfl
 change wpAnyH _ _ _ _ _ _ _ (Act.put _ (some 13) _) _
 try simp only [Act.put, List.setIfInBounds_toArray, List.set_cons_zero, List.set_cons_succ]
 refine wpAnyH_take (i := 2) (v := ?v3) rfl (by kernel_rfl) (by kernel_rfl) (by kernel_rfl) (fun _ _ _ h => h) (Or.inl ⟨by rfl, ?hy3⟩) (by assumption) ?_
 case hy3 =>
  intro w hSw
  (try dsimp only at hSw)
  go_simp
  all_goals with_reducible rfl
 change wpAnyH _ _ _ _ _ _ _ (Act.put _ (some 14) _) _
 try simp only [Act.put, List.setIfInBounds_toArray, List.set_cons_zero, List.set_cons_succ]
 refine wpAnyH_take (i := 3) (v := ?v4) rfl (by kernel_rfl) (by kernel_rfl) (by kernel_rfl) (fun _ _ _ h => h) (Or.inl ⟨by rfl, ?hy4⟩) (by assumption) ?_
 case hy4 =>
  intro w hSw
  (try dsimp only at hSw)
  go_simp
  all_goals with_reducible rfl
 change wpAnyH _ _ _ _ _ _ _ (Act.put _ (some 15) _) _
 try simp only [Act.put, List.setIfInBounds_toArray, List.set_cons_zero, List.set_cons_succ]
 refine wpAnyH_take (i := 4) (v := ?v5) rfl (by kernel_rfl) (by kernel_rfl) (by kernel_rfl) (fun _ _ _ h => h) (Or.inl ⟨by rfl, ?hy5⟩) (by assumption) ?_
 case hy5 =>
  intro w hSw
  (try dsimp only at hSw)
  go_simp
  all_goals with_reducible rfl
 change wpAnyH _ _ _ _ _ _ _ (Act.put _ (some 16) _) _
 try simp only [Act.put, List.setIfInBounds_toArray, List.set_cons_zero, List.set_cons_succ]
 refine wpAnyH_take (i := 5) (v := ?v6) rfl (by kernel_rfl) (by kernel_rfl) (by kernel_rfl) (fun _ _ _ h => h) (Or.inl ⟨by rfl, ?hy6⟩) (by assumption) ?_
 case hy6 =>
  intro w hSw
  (try dsimp only at hSw)
  go_simp
  all_goals with_reducible rfl
 change wpAnyH _ _ _ _ _ _ _ (Act.put _ (some 17) _) _
 try simp only [Act.put, List.setIfInBounds_toArray, List.set_cons_zero, List.set_cons_succ]
 refine wpAnyH_take (i := 6) (v := ?v7) rfl (by kernel_rfl) (by kernel_rfl) (by kernel_rfl) (fun _ _ _ h => h) (Or.inl ⟨by rfl, ?hy7⟩) (by assumption) ?_
 case hy7 =>
  intro w hSw
  (try dsimp only at hSw)
  go_simp
  all_goals with_reducible rfl
 change wpAnyH _ _ _ _ _ _ _ (Act.put _ (some 18) _) _
 try simp only [Act.put, List.setIfInBounds_toArray, List.set_cons_zero, List.set_cons_succ]
 refine wpAnyH_take (i := 7) (v := ?v8) rfl (by kernel_rfl) (by kernel_rfl) (by kernel_rfl) (fun _ _ _ h => h) (Or.inl ⟨by rfl, ?hy8⟩) (by assumption) ?_
 case hy8 =>
  intro w hSw
  (try dsimp only at hSw)
  go_simp
  all_goals with_reducible rfl
 change wpAnyH _ _ _ _ _ _ _ (Act.put _ (some 19) _) _
 try simp only [Act.put, List.setIfInBounds_toArray, List.set_cons_zero, List.set_cons_succ]
 refine wpAnyH_take (i := 8) (v := ?v9) rfl (by kernel_rfl) (by kernel_rfl) (by kernel_rfl) (fun _ _ _ h => h) (Or.inl ⟨by rfl, ?hy9⟩) (by assumption) ?_
 case hy9 =>
  intro w hSw
  (try dsimp only at hSw)
  go_simp
  all_goals with_reducible rfl
 change wpAnyH _ _ _ _ _ _ _ (Act.put _ (some 20) _) _
 try simp only [Act.put, List.setIfInBounds_toArray, List.set_cons_zero, List.set_cons_succ]
 refine wpAnyH_take (i := 9) (v := ?v10) rfl (by kernel_rfl) (by kernel_rfl) (by kernel_rfl) (fun _ _ _ h => h) (Or.inl ⟨by rfl, ?hy10⟩) (by assumption) ?_
 case hy10 =>
  intro w hSw
  (try dsimp only at hSw)
  go_simp
  all_goals with_reducible rfl
 change wpAnyH _ _ _ _ _ _ _ (Act.put _ (some 21) _) _
 try simp only [Act.put, List.setIfInBounds_toArray, List.set_cons_zero, List.set_cons_succ]
 refine wpAnyH_take (i := 10) (v := ?v11) rfl (by kernel_rfl) (by kernel_rfl) (by kernel_rfl) (fun _ _ _ h => h) (Or.inl ⟨by rfl, ?hy11⟩) (by assumption) ?_
 case hy11 =>
  intro w hSw
  (try dsimp only at hSw)
  go_simp
  all_goals with_reducible rfl
 change wpAnyH _ _ _ _ _ _ _ (Act.put _ (some 22) _) _
 try simp only [Act.put, List.setIfInBounds_toArray, List.set_cons_zero, List.set_cons_succ]
 refine wpAnyH_take (i := 11) (v := ?v12) rfl (by kernel_rfl) (by kernel_rfl) (by kernel_rfl) (fun _ _ _ h => h) (Or.inl ⟨by rfl, ?hy12⟩) (by assumption) ?_
 case hy12 =>
  intro w hSw
  (try dsimp only at hSw)
  go_simp
  all_goals with_reducible rfl
 change wpAnyH _ _ _ _ _ _ _ (Act.put _ (some 23) _) _
 try simp only [Act.put, List.setIfInBounds_toArray, List.set_cons_zero, List.set_cons_succ]
 refine wpAnyH_take (i := 12) (v := ?v13) rfl (by kernel_rfl) (by kernel_rfl) (by kernel_rfl) (fun _ _ _ h => h) (Or.inl ⟨by rfl, ?hy13⟩) (by assumption) ?_
 case hy13 =>
  intro w hSw
  (try dsimp only at hSw)
  go_simp
  all_goals with_reducible rfl
 change wpAnyH _ _ _ _ _ _ _ (Act.put _ (some 24) _) _
 try simp only [Act.put, List.setIfInBounds_toArray, List.set_cons_zero, List.set_cons_succ]
 refine wpAnyH_take (i := 13) (v := ?v14) rfl (by kernel_rfl) (by kernel_rfl) (by kernel_rfl) (fun _ _ _ h => h) (Or.inl ⟨by rfl, ?hy14⟩) (by assumption) ?_
 case hy14 =>
  intro w hSw
  (try dsimp only at hSw)
  go_simp
  all_goals with_reducible rfl
 change wpAnyH _ _ _ _ _ _ _ (Act.put _ (some 25) _) _
 try simp only [Act.put, List.setIfInBounds_toArray, List.set_cons_zero, List.set_cons_succ]
 refine wpAnyH_take (i := 14) (v := ?v15) rfl (by kernel_rfl) (by kernel_rfl) (by kernel_rfl) (fun _ _ _ h => h) (Or.inl ⟨by rfl, ?hy15⟩) (by assumption) ?_
 case hy15 =>
  intro w hSw
  (try dsimp only at hSw)
  go_simp
  all_goals with_reducible rfl
 change wpAnyH _ _ _ _ _ _ _ (Act.put _ (some 26) _) _
 try simp only [Act.put, List.setIfInBounds_toArray, List.set_cons_zero, List.set_cons_succ]
 refine wpAnyH_take (i := 15) (v := ?v16) rfl (by kernel_rfl) (by kernel_rfl) (by kernel_rfl) (fun _ _ _ h => h) (Or.inl ⟨by rfl, ?hy16⟩) (by assumption) ?_
 case hy16 =>
  intro w hSw
  (try dsimp only at hSw)
  go_simp
  all_goals with_reducible rfl
 change wpAnyH _ _ _ _ _ _ _ (Act.put _ (some 27) _) _
 try simp only [Act.put, List.setIfInBounds_toArray, List.set_cons_zero, List.set_cons_succ]
 refine wpAnyH_take (i := 16) (v := ?v17) rfl (by kernel_rfl) (by kernel_rfl) (by kernel_rfl) (fun _ _ _ h => h) (Or.inl ⟨by rfl, ?hy17⟩) (by assumption) ?_
 case hy17 =>
  intro w hSw
  (try dsimp only at hSw)
  go_simp
  all_goals with_reducible rfl
 change wpAnyH _ _ _ _ _ _ _ (Act.put _ (some 28) _) _
 try simp only [Act.put, List.setIfInBounds_toArray, List.set_cons_zero, List.set_cons_succ]
 refine wpAnyH_take (i := 17) (v := ?v18) rfl (by kernel_rfl) (by kernel_rfl) (by kernel_rfl) (fun _ _ _ h => h) (Or.inl ⟨by rfl, ?hy18⟩) (by assumption) ?_
 case hy18 =>
  intro w hSw
  (try dsimp only at hSw)
  go_simp
  all_goals with_reducible rfl
 change wpAnyH _ _ _ _ _ _ _ (Act.put _ (some 29) _) _
 try simp only [Act.put, List.setIfInBounds_toArray, List.set_cons_zero, List.set_cons_succ]
 refine wpAnyH_take (i := 18) (v := ?v19) rfl (by kernel_rfl) (by kernel_rfl) (by kernel_rfl) (fun _ _ _ h => h) (Or.inl ⟨by rfl, ?hy19⟩) (by assumption) ?_
 case hy19 =>
  intro w hSw
  (try dsimp only at hSw)
  go_simp
  all_goals with_reducible rfl
 change wpAnyH _ _ _ _ _ _ _ (Act.put _ (some 30) _) _
 try simp only [Act.put, List.setIfInBounds_toArray, List.set_cons_zero, List.set_cons_succ]
 refine wpAnyH_take (i := 19) (v := ?v20) rfl (by kernel_rfl) (by kernel_rfl) (by kernel_rfl) (fun _ _ _ h => h) (Or.inl ⟨by rfl, ?hy20⟩) (by assumption) ?_
 case hy20 =>
  intro w hSw
  (try dsimp only at hSw)
  go_simp
  all_goals with_reducible rfl
 change wpAnyH _ _ _ _ _ _ _ (Act.put _ (some 31) _) _
 try simp only [Act.put, List.setIfInBounds_toArray, List.set_cons_zero, List.set_cons_succ]
 refine wpAnyH_take (i := 20) (v := ?v21) rfl (by kernel_rfl) (by kernel_rfl) (by kernel_rfl) (fun _ _ _ h => h) (Or.inl ⟨by rfl, ?hy21⟩) (by assumption) ?_
 case hy21 =>
  intro w hSw
  (try dsimp only at hSw)
  go_simp
  all_goals with_reducible rfl
 change wpAnyH _ _ _ _ _ _ _ (Act.put _ (some 32) _) _
 try simp only [Act.put, List.setIfInBounds_toArray, List.set_cons_zero, List.set_cons_succ]
 refine wpAnyH_ready (rs := [21]) (by kernel_rfl) (by simp) ?_; refine AllReadyH.cons rfl (fun K hK => ?_) AllReadyH.nil
 go_simp
 refine hK.out _ _ ?_ (fun hHeld => ?_)
 · go_keep
 clear hK K
 try simp only [Act.put, List.setIfInBounds_toArray, List.set_cons_zero, List.set_cons_succ]
 refine wpAnyH_take (i := 22) (v := ?v22) rfl (by kernel_rfl) (by kernel_rfl) (by kernel_rfl) (fun _ _ _ h => h) (Or.inl ⟨by rfl, ?hy22⟩) (by assumption) ?_
 case hy22 =>
  intro w hSw
  (try dsimp only at hSw)
  go_simp
  all_goals with_reducible rfl
 change wpAnyH _ _ _ _ _ _ _ (Act.put _ (some 3) _) _
 try simp only [Act.put, List.setIfInBounds_toArray, List.set_cons_zero, List.set_cons_succ]
 refine wpAnyH_done (by kernel_rfl) ?_ _; go_wp2_with fail; obtain ⟨W6, hW6⟩ : ∃ W6, W6 = (((((W3.setCell ⟨w.heap.size, 0, none⟩ (.bool R.up)).setCell ⟨w.heap.size, 1, none⟩ (.slice ac 3 cc)).setCell ⟨w.heap.size, 2, none⟩ (.slice ao 3 co)).setCell ⟨w.heap.size, 3, none⟩ (.slice as_ 3 cs)).setCell ⟨w.heap.size, 4, none⟩ (.int .i64 R.waits)) := ⟨_, rfl⟩; have m := put5 (w := W3) (b := w.heap.size) (.bool R.up) (.slice ac 3 cc) (.slice ao 3 co) (.slice as_ 3 cs) (.int .i64 R.waits) HR4.out; rw [← hW6] at m; have md : W6.drew.heap[w.heap.size]? = some (.cells #[.bool R.up, .slice ac 3 cc, .slice ao 3 co, .slice as_ 3 cs, .int .i64 R.waits] 32) := m; obtain ⟨m0, m1, m2, m3, m4⟩ := bx5 md; have hB6 : Below w.heap.size w W6.drew := by
  rw [hW6]; exact ((((((HB4.out.setCell (Nat.le_refl _) _).setCell (Nat.le_refl _) _).setCell (Nat.le_refl _) _).setCell (Nat.le_refl _) _).setCell (Nat.le_refl _) _)).drew
 have hO6 : OutM w.heap.size W6.drew R (.slice ac 3 cc) (.slice ao 3 co) (.slice as_ 3 cs) := by
  refine OutM.mono (show w.heap.size ≤ W2.heap.size by omega) (OutM.next HO4.out (fun g hg hgN => ?_) ?_)
  · rw [hW6]; have hn : g ≠ w.heap.size := by omega
    exact (Below.heap_setCell _ _ _ _ hn).trans ((Below.heap_setCell _ _ _ _ hn).trans ((Below.heap_setCell _ _ _ _ hn).trans ((Below.heap_setCell _ _ _ _ hn).trans (Below.heap_setCell _ _ _ _ hn))))
  · rw [hW6]
    simp [World.setCell]
 have HF := hid (show RanP w R (.returned (.tuple #[.agg #[.bool R.up, .slice ac 3 cc, .slice ao 3 co, .slice as_ 3 cs, .int .i64 R.waits], .bool true])) W6.drew from ⟨ac, cc, ao, co, as_, cs, rfl, hO6, hB6⟩); rw [← hW6]; refine bodyPost_ret (v := .tuple #[.agg #[.bool R.up, .slice ac 3 cc, .slice ao 3 co, .slice as_ 3 cs, .int .i64 R.waits], .bool true]) (by simp only [results, Tryz.results5]; simp [go_sem, m0, m1, m2, m3, m4]) rfl HF.out
def rmX (t : List UInt8) : Ent := ⟨2, [73, 78, 66, 79, 88], 0, 0, [], t⟩
def ordA (t : List UInt8) : Acu := ⟨5, 0, 0, 0, [], rmX t⟩
def st0 (R : Rom) : Stt := R.states.getD 0 inbS
def ordS (x : Ent) (R : Rom) : Rom := match doM (st0 R) x with
 | .error _ => R
 | .ok s' => if R.waits < 8 then dueR (addR R 0 ⟨0, [x]⟩ s') (R.due ++ [0]) else tuR R 0 5
def synS (R : Rom) : Rom := dueR (vS (vq R) R.due) []
def okDo (s : Stt) (x : Ent) : Bool := match doM s x with
 | .error _ => false
 | .ok _ => true
def rmOk (R : Rom) : Bool := R.up && decide (R.states.length = 3) && decide (R.safe.length = 3) && decide (R.orders.length = 3) && mayN R.tape.length R.tsyn && decide (R.tape.length ≤ 3000) && decide (0 ≤ R.syn ∧ R.syn ≤ 1000) && decide (0 ≤ R.waits ∧ R.waits ≤ 1000) && (R.due.all fun x => decide (x = 0)) && decide (R.due.length ≤ 100) && (R.orders.all fun l => decide (l.length ≤ 100)) && okDo (st0 R) (rmX [97]) && okDo (st0 R) (rmX [98])
def rmN : Nat → Rom
 | 0 => rom0
 | j + 1 => ordS (rmX [97]) (rmN j)
def rmB (k j : Nat) : Rom := if j ≤ k then rmN j else if j = k + 1 then synS (rmN k) else if j = k + 2 then ordS (rmX [98]) (synS (rmN k)) else synS (ordS (rmX [98]) (synS (rmN k)))
def jlR (k : Nat) : Bool := decide ((rmN k).waits = min k 8) && decide (((rmN k).orders.getD 0 []).length = k - min k 8)
def jmR (R : Rom) : Nat := ((R.safe.getD 0 ⟨[], []⟩).boxes.getD 0 ⟨[], 0, []⟩).mails.length
def jjV (k : Nat) : Bool := let R := rmB k (k + 3); rmOk R && decide ((R.orders.getD 0 []).length = k + 1) && decide ((R.orders.getD 0 [])[k]? = some 0) && decide (jmR R = min k 8 + 1) && decide (0 < (R.safe.getD 0 ⟨[], []⟩).boxes.length)
def jm2 : Bool := (List.range 20).all fun k => rmOk (rmN k) && rmOk (rmB k (k + 1)) && rmOk (rmB k (k + 2)) && jlR k && jjV k
theorem jm3 : jm2 = true := by kernel_rfl
theorem jg2 {k : Nat} (hk : k < 20) : rmOk (rmN k) = true ∧ rmOk (rmB k (k + 1)) = true ∧ rmOk (rmB k (k + 2)) = true ∧ jlR k = true ∧ jjV k = true := by
 have h := jm3; unfold jm2 at h; rw [List.all_eq_true] at h; have := h k (List.mem_range.2 hk); simp only [Bool.and_eq_true] at this; exact ⟨this.1.1.1.1, this.1.1.1.2, this.1.1.2, this.1.2, this.2⟩
theorem jcH {t : List UInt8} (ht : t.length ≤ 10) : Formed (rmX t) :=
 ⟨⟨by show (1 : Int) ≤ 2; decide, by show (2 : Int) ≤ 6; decide⟩, ⟨(fun h => by rcases h with h | h <;> cases h), fun _ => ⟨rfl, rfl⟩, (fun h => by cases h), (fun h => by cases h), fun h => by cases h⟩,
   ⟨by show (0 : Int) ≤ 0; decide, by show (0 : Int) ≤ 31; decide⟩, ⟨by show (0 : Int) ≤ 0; decide, by show (0 : Int) ≤ 1048576; decide⟩, by show t.length ≤ 2000; omega, (fun h => by cases h), (fun _ => by show qI [73, 78, 66, 79, 88] = 0; decide), fun h => by cases h⟩
theorem jlU : May inbS :=
 ⟨by decide, by decide, fun b hb => by
  have e : b = ⟨[73, 78, 66, 79, 88], 1, []⟩ := by simpa [inbS] using hb
  subst e; exact ⟨by decide, by decide, by decide, trivial⟩, by decide, by decide, fun x hx => by cases hx⟩
structure RmI (R : Rom) : Prop where
 ok : rmOk R = true
 may : May (st0 R)
 c0 : R.c0 = con0
 c1 : R.c1 = con0
 c2 : R.c2 = con0
theorem jiq (x : Ent) (R : Rom) : (ordS x R).c0 = R.c0 ∧ (ordS x R).c1 = R.c1 ∧ (ordS x R).c2 = R.c2 := by
 unfold ordS; split
 · exact ⟨rfl, rfl, rfl⟩
 · split <;> exact ⟨rfl, rfl, rfl⟩
theorem ji8 (l : List Int) : ∀ R : Rom, (vS R l).c0 = R.c0 ∧ (vS R l).c1 = R.c1 ∧ (vS R l).c2 = R.c2 ∧ (vS R l).states = R.states := by
 induction l with
 | nil => exact fun R => ⟨rfl, rfl, rfl, rfl⟩
 | cons x t ih => exact fun R => ih (tuR R x.toNat 0)
theorem jiZ (R : Rom) : (synS R).c0 = R.c0 ∧ (synS R).c1 = R.c1 ∧ (synS R).c2 = R.c2 ∧ (synS R).states = R.states := ji8 R.due (vq R)
theorem jfK {s : Stt} {x : Ent} (h : okDo s x = true) : ∃ s', doM s x = .ok s' := by
 unfold okDo at h; cases hd : doM s x with
 | error e => rw [hd] at h; cases h
 | ok s' => exact ⟨s', rfl⟩
theorem jir {t : List UInt8} (ht : t.length ≤ 10) {R : Rom} (h3 : R.states.length = 3) (hM : May (st0 R)) : May (st0 (ordS (rmX t) R)) := by
 unfold ordS; cases hd : doM (st0 R) (rmX t) with
 | error e => exact hM
 | ok s' =>
   simp only
   by_cases h8 : R.waits < 8
   · rw [if_pos h8]; have e : st0 (dueR (addR R 0 ⟨0, [rmX t]⟩ s') (R.due ++ [0])) = s' := by
        show (R.states.set 0 s').getD 0 inbS = s'
        rw [List.getD_eq_getElem?_getD, List.getElem?_set_self (by omega)]; rfl
     rw [e]; exact jeR hM (jcH ht) hd
   · rw [if_neg h8]; exact hM
structure RmF (R : Rom) : Prop where
 up : R.up = true
 s3 : R.states.length = 3
 f3 : R.safe.length = 3
 o3 : R.orders.length = 3
 tp : mayN R.tape.length R.tsyn = true
 tl : R.tape.length ≤ 3000
 sy : 0 ≤ R.syn ∧ R.syn ≤ 1000
 wa : 0 ≤ R.waits ∧ R.waits ≤ 1000
 du : ∀ x ∈ R.due, x = 0
 dl : R.due.length ≤ 100
 ol : ∀ v, (R.orders.getD v []).length ≤ 100
 da : ∃ s', doM (st0 R) (rmX [97]) = .ok s'
 db : ∃ s', doM (st0 R) (rmX [98]) = .ok s'
theorem vN {R : Rom} (h : rmOk R = true) : RmF R := by
 unfold rmOk at h; simp only [Bool.and_eq_true, decide_eq_true_eq, List.all_eq_true] at h; obtain ⟨⟨⟨⟨⟨⟨⟨⟨⟨⟨⟨⟨h1, h2⟩, h3⟩, h4⟩, h5⟩, h6⟩, h7⟩, h8⟩, h9⟩, h10⟩, h11⟩, h12⟩, h13⟩ := h; refine ⟨h1, h2, h3, h4, h5, h6, h7, h8, h9, h10, fun v => ?_, jfK h12, jfK h13⟩; rw [List.getD_eq_getElem?_getD]; cases hv : R.orders[v]? with
 | none => simp
 | some l => exact h11 l (List.mem_of_getElem? hv)
theorem jdk : ∀ k, k ≤ 20 → May (st0 (rmN k)) ∧ (rmN k).c0 = con0 ∧ (rmN k).c1 = con0 ∧ (rmN k).c2 = con0
 | 0, _ => ⟨jlU, rfl, rfl, rfl⟩
 | k + 1, h => by
   obtain ⟨h1, h2, h3, h4⟩ := jdk k (by omega); obtain ⟨e1, e2, e3⟩ := jiq (rmX [97]) (rmN k); exact ⟨jir (by decide) (vN (jg2 (by omega)).1).s3 h1, e1.trans h2, e2.trans h3, e3.trans h4⟩
theorem jnq {k j : Nat} (hk : k < 20) (hj : j < k + 3) : RmI (rmB k j) := by
 obtain ⟨h1, h2, h3, _, _⟩ := jg2 hk; obtain ⟨m1, m2, m3, m4⟩ := jdk k (by omega); obtain ⟨c1, c2, c3, cs⟩ := jiZ (rmN k); have hs : May (st0 (synS (rmN k))) := by
  show May ((synS (rmN k)).states.getD 0 inbS)
  rw [cs]; exact m1
 unfold rmB at h2 h3 ⊢
 by_cases h : j ≤ k
 · rw [if_pos h]; obtain ⟨q1, q2, q3, q4⟩ := jdk j (by omega); exact ⟨(jg2 (by omega)).1, q1, q2, q3, q4⟩
 · rw [if_neg h]; rw [if_neg (by omega), if_pos rfl] at h2; rw [if_neg (by omega), if_neg (by omega), if_pos rfl] at h3
   by_cases h' : j = k + 1
   · rw [if_pos h']; exact ⟨h2, hs, c1.trans m2, c2.trans m3, c3.trans m4⟩
   · rw [if_neg h', if_pos (by omega)]; obtain ⟨e1, e2, e3⟩ := jiq (rmX [98]) (synS (rmN k)); exact ⟨h3, jir (by decide) (vN h2).s3 hs, e1.trans (c1.trans m2), e2.trans (c2.trans m3), e3.trans (c3.trans m4)⟩
theorem jkn {R : Rom} (h0 : R.c0 = con0) (h1 : R.c1 = con0) (h2 : R.c2 = con0) : relR R 1 = R ∧ relR R 2 = R ∧ relR R 3 = R := by
 obtain ⟨up, tape, tsyn, syn, waits, safe, states, d0, d1, d2, orders, due⟩ := R; have h0 : d0 = con0 := h0; have h1 : d1 = con0 := h1; have h2 : d2 = con0 := h2; subst h0 h1 h2; exact ⟨rfl, rfl, rfl⟩
theorem jch (K : List (List UInt8)) (Cs : List (List Cmd)) (B b : Nat) (G : List Nat) (R : Rom) (w : World) (hR : RoomM K Cs B b G R w) (i o : Nat) (hi : i < 3) (ho : o = 7 + i * 9) (hc : R.con i = con0) (hM : ∀ w', Below B w w' → maxLenCell w') :
 Calls Tryz.prog 19 #[.pointer (some ⟨b, 0, none⟩), .pointer (some ⟨b, o, none⟩)] w (RmQ K Cs B b G w R (.tuple #[])) := by
 have h := jkU K Cs B b G R w hR i o hi ho (fun R _ _ => R) (fun R' => R' = R) rfl hM (fun R' e => by rw [e, hc]; decide) (fun R' G' w' x y e _ hcut _ _ => by
  rw [e, hc] at hcut; have : Lib.cut con0.held [13, 10] = ([], [], false) := by decide
  rw [this] at hcut
  simp at hcut) 0 (by rw [hc]; decide)
 have e : runW (fun R _ _ => R) i 0 R = R := by
  show R.put i (endC (R.con i)) = R
  rw [hc, show endC con0 = con0 from rfl, ← hc]; exact jc1 R i hi
 rw [e] at h; exact h
theorem jk9 (B b : Nat) (G : List Nat) (R : Rom) (hI : RmI R) (w : World) (hR : RoomM usK usCs B b G R w) (hM : ∀ w', Below B w w' → maxLenCell w') :
 Calls Tryz.prog 12 #[.pointer (some ⟨b, 0, none⟩), .agg (acuC jau).toArray] w (RmQ usK usCs B b G w (synS R) (.tuple #[])) := by
 have hF := vN hI.ok; obtain ⟨e0, e1, e2, _⟩ := jiZ R; have q0 := e0.trans hI.c0; have q1 := e1.trans hI.c1; have q2 := e2.trans hI.c2; obtain ⟨r1, r2, r3⟩ := jkn q0 q1 q2; have hlw := hR.lt; refine jlN usK usCs B b G R w hR hF.up _ fun w' hb' => ?_
 refine jiO usK usCs B b G R w' (hR.next hb') hF.tp ⟨hF.sy.1, by have := hF.sy.2; omega⟩ ⟨hF.wa.1, by have := hF.wa.2; omega⟩ ⟨by rw [hF.s3]; decide, by rw [hF.s3]; decide⟩ (fun x hx => by rw [hF.du x hx]; decide) (fun v _ => by have := hF.ol v; have := hF.dl; omega) (synS R) rfl (fun k hk => ?_) (fun _ => synS R) r3.symm fun k G' w2 hk hb2 hR2 => ?_
 · match k, hk with
   | 0, _ => show ((synS R).c0).told.length + ((synS R).c0).due.length ≤ _; rw [q0]; decide
   | 1, _ => rw [r1]; show ((synS R).c1).told.length + ((synS R).c1).due.length ≤ _; rw [q1]; decide
   | 2, _ => rw [r2]; show ((synS R).c2).told.length + ((synS R).c2).due.length ≤ _; rw [q2]; decide
 · have hml2 : ∀ w3, Below B w2 w3 → maxLenCell w3 := fun w3 h3 => hM w3 (((hb'.mono (by omega)).trans hb2).trans h3)
   match k, hk with
   | 0, _ => exact jch usK usCs B b G' _ w2 hR2 0 7 (by omega) rfl q0 hml2
   | 1, _ => exact jch usK usCs B b G' _ w2 hR2 1 16 (by omega) rfl q1 hml2
   | 2, _ => exact jch usK usCs B b G' _ w2 hR2 2 25 (by omega) rfl q2 hml2
theorem jmF {t : List UInt8} (ht : t.length ≤ 10) : (frB ⟨(0 : Nat), [rmX t]⟩).length ≤ 1000 := by
 rw [jhY]
 show 3 + (beB _ 1 ++ (beB _ 1 ++ zA [rmX t])).length ≤ 1000
 have h := jfC (rmX t); have e : (zA [rmX t]).length = (entB (rmX t)).length := by simp [zA]
 have e1 : (rmX t).box.length = 5 := rfl; have e2 : (rmX t).goal.length = 0 := rfl; have e3 : (rmX t).text.length = t.length := rfl; simp only [List.length_append, ze, e]; omega
theorem jk8 (t : List UInt8) (ht : t.length ≤ 10) (B b : Nat) (G : List Nat) (R : Rom) (hI : RmI R) (hd : ∃ s', doM (st0 R) (rmX t) = .ok s') (w : World) (hR : RoomM usK usCs B b G R w) :
 Calls Tryz.prog 12 #[.pointer (some ⟨b, 0, none⟩), .agg (acuC (ordA t)).toArray] w (RmQ usK usCs B b G w (ordS (rmX t) R) (.tuple #[])) := by
 have hF := vN hI.ok; obtain ⟨s', hd⟩ := hd; have e : ordS (rmX t) R = je4 R 0 (rmX t) s' := by
  unfold ordS je4; rw [hd]; rfl
 rw [e]; have hs : R.states[0]? = some (st0 R) := by
  unfold st0; rw [List.getD_eq_getElem?_getD]; cases hh : R.states[0]? with
  | none => rw [List.getElem?_eq_none_iff] at hh; have := hF.s3; omega
  | some s => rfl
 refine jjP usK usCs B b G R w hR rfl (ordA t) rfl 0 rfl (by omega) _ fun w' hb => ?_
 have h1 := jmF ht; have h2 := hF.tl; have h3 := hF.dl; have h4 := hF.ol 0; exact jis usK usCs B b G R w' (hR.next hb) hF.up 0 (by omega) hF.s3 (rmX t) (jcH ht) (show (2 : Int) ≠ 6 by decide) (st0 R) s' hs hI.may hd hF.tp (by omega) hF.wa.1 (by omega) (by omega)
theorem jbY (t : List UInt8) (u : World) : Calls Tryz.prog 16 #[.agg (acuC (ordA t)).toArray] u fun e u' => e = .returned (.int .i64 0) ∧ Below u.heap.size u u' := by
 refine (jki 0 0 0 2 0 0 [] [73, 78, 66, 79, 88] [] t (by simp) u).mono ?_; rintro e u' ⟨⟨r, rfl, hA⟩, hb⟩; refine ⟨?_, hb⟩; have h0 : ActE 5 0 0 0 [] (entZ 2 0 0 [73, 78, 66, 79, 88] [] t) 0 := .inr ⟨by decide, .inr ⟨⟨fun h => by omega, fun h => by omega, fun _ => by omega⟩, .inr ⟨fun h => by omega, .inr ⟨⟨.inr ⟨rfl, rfl⟩, .inr rfl, .inl rfl⟩, rfl⟩⟩⟩⟩; rw [jfr hA h0]
theorem jcc (u : World) : Calls Tryz.prog 16 #[.agg (acuC jau).toArray] u fun e u' => e = .returned (.int .i64 0) ∧ Below u.heap.size u u' := by
 refine (jkh 0 0 0 0 0 0 [] [] [] [] (by simp) u).mono ?_; rintro e u' ⟨⟨r, rfl, hA⟩, hb⟩; refine ⟨?_, hb⟩; have h0 : ActE 2 0 0 0 [] (entZ 0 0 0 [] [] []) 0 := by
  refine .inr ⟨by decide, .inr ⟨⟨fun h => by omega, fun h => by omega, fun h => by omega⟩, .inr ⟨fun h => by omega, .inr ⟨⟨.inr ⟨rfl, rfl⟩, .inr rfl, .inr ⟨rfl, rfl, rfl, rfl, rfl, rfl, rfl⟩⟩, rfl⟩⟩⟩⟩
 rw [jfr hA h0]
def rmLA (k : Nat) : List Acu := List.replicate k (ordA [97])
def rmLB (k : Nat) : List Acu := rmLA k ++ [jau, ordA [98], jau]
theorem zd (k : Nat) : (rmLA k).length = k := by unfold rmLA; simp
theorem qy (k : Nat) : (rmLB k).length = k + 3 := by unfold rmLB; simp [zd]
theorem jfO {k j : Nat} (h : j ≤ k) : rmB k j = rmN j := by unfold rmB; rw [if_pos h]
theorem jmb {j : Nat} (hj : j < 20) : RmI (rmN j) := by
 obtain ⟨q1, q2, q3, q4⟩ := jdk j (by omega); exact ⟨(jg2 hj).1, q1, q2, q3, q4⟩
theorem jk7 (j : Nat) (hj : j < 20) (B b : Nat) (G : List Nat) (w : World) (hR : RoomM usK usCs B b G (rmN j) w) :
 Calls Tryz.prog 12 #[.pointer (some ⟨b, 0, none⟩), .agg (acuC (ordA [97])).toArray] w (RmQ usK usCs B b G w (rmN (j + 1)) (.tuple #[])) :=
 jk8 [97] (by decide) B b G (rmN j) (jmb hj) (vN (jmb hj).ok).da w hR
theorem jmc (Q : Nat → Prop) (a : Option Addr) (c k : Nat) (hk : k < 20) (w : World) (hM : TabsM w) (hA : AcsM Q w (.slice a (rmLA k).length c) (rmLA k)) :
 Calls Tryz.prog 5 #[.slice a (rmLA k).length c] w (RanP w (rmN (rmLA k).length)) := by
 have hF := vN (jmb hk).ok; refine jiE Q a c (rmLA k) w hM hA (by rw [zd]; omega) (fun x hx u => ?_) rmN rfl (by rw [zd]; exact hF.f3) (by rw [zd]; exact hF.o3) fun j x hx B b G u hB hu hR => ?_
 · rw [(List.mem_replicate.1 hx).2]; exact jbY [97] u
 · have hj : j < k := by have h := (List.getElem?_eq_some_iff.1 hx).1; rw [zd] at h; exact h
   unfold rmLA at hx; rw [List.getElem?_replicate, if_pos hj] at hx; cases hx; exact jk7 j (by omega) B b G u hR
theorem jiJ {k j : Nat} {x : Acu} (h : (rmLB k)[j]? = some x) : (j < k ∧ x = ordA [97]) ∨ (j = k ∧ x = jau) ∨ (j = k + 1 ∧ x = ordA [98]) ∨ (j = k + 2 ∧ x = jau) := by
 unfold rmLB at h
 rcases Nat.lt_or_ge j k with hj | hj
 · rw [List.getElem?_append_left (by rw [zd]; exact hj)] at h; unfold rmLA at h; rw [List.getElem?_replicate, if_pos hj] at h; cases h; exact .inl ⟨hj, rfl⟩
 · rw [List.getElem?_append_right (by rw [zd]; exact hj), zd] at h; obtain ⟨i, hi⟩ : ∃ i, j = k + i := ⟨j - k, by omega⟩; subst hi; rw [show k + i - k = i by omega] at h
   match i, h with
   | 0, h => cases h; exact .inr (.inl ⟨rfl, rfl⟩)
   | 1, h => cases h; exact .inr (.inr (.inl ⟨rfl, rfl⟩))
   | 2, h => cases h; exact .inr (.inr (.inr ⟨rfl, rfl⟩))
   | i + 3, h => simp at h
theorem jmd (Q : Nat → Prop) (a : Option Addr) (c k : Nat) (hk : k < 20) (w : World) (hM : TabsM w) (hA : AcsM Q w (.slice a (rmLB k).length c) (rmLB k)) :
 Calls Tryz.prog 5 #[.slice a (rmLB k).length c] w (RanP w (rmB k (rmLB k).length)) := by
 have hfb := (jg2 hk).2.2.2.2; unfold jjV at hfb; simp only [Bool.and_eq_true] at hfb; have hF := vN hfb.1.1.1.1; refine jiE Q a c (rmLB k) w hM hA (by rw [qy]; omega) (fun x hx u => ?_) (rmB k) (jfO (Nat.zero_le _)) (by rw [qy]; exact hF.f3) (by rw [qy]; exact hF.o3) fun j x hx B b G u hB hu hR => ?_
 · obtain ⟨j, hj⟩ := List.getElem?_of_mem hx
   rcases jiJ hj with ⟨_, rfl⟩ | ⟨_, rfl⟩ | ⟨_, rfl⟩ | ⟨_, rfl⟩
   · exact jbY [97] u
   · exact jcc u
   · exact jbY [98] u
   · exact jcc u
 · have hml : ∀ w', Below B u w' → maxLenCell w' := fun w' hw' => (hM.next (hu.trans (hw'.mono hB))).2
   have hI := jnq hk (j := j) (by have h := (List.getElem?_eq_some_iff.1 hx).1; rw [qy] at h; exact h)
   rcases jiJ hx with ⟨h, rfl⟩ | ⟨rfl, rfl⟩ | ⟨rfl, rfl⟩ | ⟨rfl, rfl⟩
   · rw [jfO (by omega)] at hR; rw [jfO (by omega)]; exact jk7 j (by omega) B b G u hR
   · have e : rmB j (j + 1) = synS (rmB j j) := by rw [jfO (Nat.le_refl _)]; unfold rmB; rw [if_neg (by omega), if_pos rfl]
     rw [e]; exact jk9 B b G _ hI u hR hml
   · have e : rmB k (k + 1 + 1) = ordS (rmX [98]) (rmB k (k + 1)) := by
        unfold rmB; rw [if_neg (by omega), if_neg (by omega), if_pos (by omega), if_neg (by omega), if_pos rfl]
     rw [e]; exact jk8 [98] (by decide) B b G _ hI (vN hI.ok).db u hR
   · have e : rmB k (k + 2 + 1) = synS (rmB k (k + 2)) := by
        unfold rmB; rw [if_neg (by omega), if_neg (by omega), if_neg (by omega), if_neg (by omega), if_neg (by omega), if_pos rfl]
     rw [e]; exact jk9 B b G _ hI u hR hml
theorem jfP {w : World} {B n : Nat} {a : Option Addr} {c : Nat} {l : List Acu} (h : w.ownsRow B 27 11 (.slice a n c) n (l.map acuC).flatten) (hn : n = l.length) (hm : l.length ≤ 100) : AcsM (fun _ => True) w (.slice a l.length c) l := by
 subst hn; exact qB (css := l.map acuC) h rfl (by unfold maxLen; omega) (by simp) (fun cs h => by
  obtain ⟨x, _, rfl⟩ := List.mem_map.1 h; rfl) (fun i x cs h1 h2 => by
  rw [List.getElem?_map, h1] at h2; cases h2; rfl) fun _ _ => trivial
theorem jex {l : List Acu} : ∀ u ∈ (l.map acuC).flatten, u.oneCell' = true := fun u hu => by
 obtain ⟨y, hy, hu⟩ := List.mem_flatten.1 hu; obtain ⟨x, _, rfl⟩ := List.mem_map.1 hy; simp only [acuC, List.mem_cons, List.not_mem_nil, or_false] at hu
 rcases hu with rfl | rfl | rfl | rfl | rfl | rfl | rfl | rfl | rfl | rfl | rfl <;> rfl
theorem jew (l : List Acu) : ((l.map acuC).flatten).length = l.length * 11 := by
 induction l with
 | nil => rfl
 | cons x t ih => simp only [List.map_cons, List.flatten_cons, List.length_append, ih, List.length_cons]; show 11 + t.length * 11 = _; omega
def WiP (w : World) (l : List Acu) (e : Ending) (w' : World) : Prop := ∃ a c, e = .returned (.slice a l.length c) ∧ w'.ownsRow w.heap.size 27 11 (.slice a l.length c) l.length (l.map acuC).flatten ∧ Below w.heap.size w w'
theorem jkR (l m : List Acu) (a : Option Addr) (c : Nat) (ad : Addr) (c2 : Nat) (w : World) (B : Nat) (hl : w.ownsRow B 27 11 (.slice a l.length c) l.length (l.map acuC).flatten) (hm0 : 0 < m.length) (hs : l.length + m.length ≤ 100) (hm : ∀ j u, ((m.map acuC).flatten)[j]? = some u → w.cell? (ad.add j) = some u) (hlt : ad.block < w.heap.size) :
 Calls Tryz.prog 6 #[.slice a l.length c, .slice (some ad) m.length c2] w (WiP w (l ++ m)) := by
 obtain ⟨i0, hi, hz0, hz1, hz2⟩ := info_parts jk0; have HL := hid hl; have HM := hid hm; have HS := hid hs; have HLT := hid hlt
 rcases Nat.eq_zero_or_pos l.length with h0 | h0
 · obtain rfl : l = [] := List.length_eq_zero_iff.1 h0; have HE := hid (fun (w1 : World) (g cap : Nat) (h1 : w1.ownsRow w.heap.size 27 11 (.slice (some ⟨g, 0, none⟩) m.length cap) m.length (m.map acuC).flatten) (h2 : w.grownBy w1 none) => show WiP w ([] ++ m) (.returned (.slice (some ⟨g, 0, none⟩) m.length cap)) w1 from ⟨_, cap, rfl, h1, (Below.refl _ _).grown h2 (Nat.le_refl _) (fun j hj => by cases hj)⟩); clear hl hm hs hlt h0; cases a
   all_goals
    go_enter Tryz.func6, Tryz.ntmps6
    go_wp2_with (first
        | (at_builtin; refine wpList_append_lies _ rfl _ _ 23 rfl w.heap.size 27 i0 _ 11 120 Tryz.underlying23 hi hz0 hz1 hz2 rfl (by decide) (.slice none 0 0) 0 [] rfl (World.ownsRow_nil _ _ _ _) ad m.length c2 ((m.map acuC).flatten) rfl (jew m) HM.out jex hm0 (by have := HS.out; simp only [List.length_nil] at this; unfold maxLen; omega) (by have := HS.out; simp only [List.length_nil] at this; omega) (Nat.le_refl _) _ rfl ?_)
        | fail)
    intro g cap w1 hown hgrow hat hlt1; have HF := hid (HE.out w1 g cap (by simpa using hown) hgrow)
    try simp only [Nat.zero_add] at *
    clear hown hgrow hat; go_wp2; go_ret; exact HF.out
 · obtain ⟨gl, rfl⟩ : ∃ gl, a = some ⟨gl, 0, none⟩ := by
    rcases hl.2 with ⟨h, h'⟩ | ⟨g, cap, cur, h, _⟩
    · omega
    · cases h; exact ⟨g, rfl⟩
   have HC := hid (fun (j : Nat) (u : Value) (h : ((l.map acuC).flatten)[j]? = some u) => World.ownsRow.cells hl (g := gl) rfl j u h); clear hl hm hs hlt; go_enter Tryz.func6, Tryz.ntmps6
   go_wp2_with (first
    | (at_builtin; refine wpList_append_lies _ rfl _ _ 23 rfl w.heap.size 27 i0 _ 11 120 Tryz.underlying23 hi hz0 hz1 hz2 rfl (by decide) (.slice none 0 0) 0 [] rfl (World.ownsRow_nil _ _ _ _) ⟨gl, 0, none⟩ l.length c ((l.map acuC).flatten) rfl (jew l) HC.out jex h0 (by have := HS.out; unfold maxLen; omega) (by have := HS.out; omega) (Nat.le_refl _) _ rfl ?_)
    | fail)
   intro g cap w1 hown hgrow hat hlt1; have HB1 := hid (show Below w.heap.size w w1 from (Below.refl _ _).grown hgrow (Nat.le_refl _) (fun j hj => by cases hj)); have HO1 := hid (show w1.ownsRow w.heap.size 27 11 (.slice (some ⟨g, 0, none⟩) l.length cap) l.length (l.map acuC).flatten by simpa using hown); have HM1 := hid (fun (j : Nat) (u : Value) (h : ((m.map acuC).flatten)[j]? = some u) => ja (HM.out j u h) HB1.out)
   try simp only [Nat.zero_add]
   clear hown hgrow hat HC
   go_wp2_with (first
    | (at_builtin; refine wpList_append_lies _ rfl _ _ 23 rfl w.heap.size 27 i0 _ 11 120 Tryz.underlying23 hi hz0 hz1 hz2 rfl (by decide) (.slice (some ⟨g, 0, none⟩) l.length cap) l.length ((l.map acuC).flatten) rfl HO1.out ad m.length c2 ((m.map acuC).flatten) rfl (jew m) HM1.out jex hm0 (by have := HS.out; unfold maxLen; omega) (by have := HS.out; omega) HB1.out.size _ rfl ?_)
    | fail)
   intro g2 cap2 w2 hown hgrow hat hlt2; have HF := hid (show WiP w (l ++ m) (.returned (.slice (some ⟨g2, 0, none⟩) (l.length + m.length) cap2)) w2 from ⟨_, cap2, by rw [List.length_append], by rw [List.map_append, List.flatten_append, List.length_append]; exact hown, HB1.out.grown hgrow HB1.out.size (fun j hj => (World.ownsRow.lt HO1.out j hj).1)⟩); clear hown hgrow hat; go_wp2; go_ret; exact HF.out
end Go.Proofs.YtgooljlpffnaeaaGreatDoor
