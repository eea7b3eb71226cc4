/-
  What has no room is refused, and is nowhere; what has room is taken: walked.
-/
import Derived.Test.YtjdkbdkimbgbfaaGreatDoorRPoQu
import Derived.Laws.OwnMore
namespace Go.Proofs.YtjdkbdkimbgbfaaGreatDoor
open Go.RowKit Go.Proofs
theorem jnO (k m : Nat) : quA k (m + 1) = quA k m ++ [linK 0 (quY k), jb2] := rfl
theorem jmy (l m : List Acu) : ((l ++ m).map acuC).flatten = (l.map acuC).flatten ++ (m.map acuC).flatten := by simp
theorem jnP (j : Nat) : S (quL j) ++ (⟨#[97]⟩ : ByteArray) = S (quL (j + 1)) := by
 show S (quL j) ++ S [97] = _
 rw [qT]; unfold quL; rw [List.replicate_succ']
set_option maxHeartbeats 8000000 in
set_option maxRecDepth 100000 in
theorem topQuota_walk (w : World) (hm : TabsM w) (n : Int) (wn : (Lit.int .i64 n).wf = true) (z : Int) (wz : (Lit.int .i64 z).wf = true) :
 Calls Tryz.prog 5 #[.int .i64 n, .int .i64 z] w fun e w' => e = .returned (.bool true) /\ Below w.heap.size w w' := by
 obtain ⟨i0, hi, hz0, hz1, hz2⟩ := info_parts jqz; have HM := hid hm; have h3 := zR z 300 (by decide); have h4 := zR n 40 (by decide); have Bc := hid (fun u => zZ z 300 u wz (by decide) (by decide)); have kT := hid (fun u => zZ n 40 u wn (by decide) (by decide)); generalize jU z 300 = p at *; generalize jU n 40 = m at *; obtain ⟨k, hk⟩ : ∃ k, k = p + 1 := ⟨_, rfl⟩; have pP : (1 : Int) + (p : Int) = (k : Int) := by omega
 have k1 : 1 <= k := by omega
 have k3 : k <= 300 := by omega
 have Aa : IntKind.i64.wrap ((1 : Int) + (p : Int)) = (k : Int) := by rw [IntKind.wrap_i64]; omega
 clear hm wn wz hk; go_enter Tryz.func5, Tryz.ntmps5; go_wp2_with fail; refine (Bc.out _).mono ?_; rintro e u ⟨rfl, hu⟩; have b6 := hu.symm; subst b6; clear hu; go_wp2
 go_loopw [6, 7] (fun s i wr => ∃ j : Nat, j <= k /\ s = .string (S (quL j)) /\ i = .int .i64 j /\ wr = w) (fun _ i _ => k - (intOf i).toNat)
 case atStart => exact ⟨0, aQ _, rfl, rfl, rfl⟩
 case round =>
  obtain ⟨j, hj, rfl, rfl, rfl⟩ := hrel; have hsz : (S (quL j)).size <= 300 := by rw [jb, jgY]; omega
  by_cases hlt : j < k
  . have j1 : (j : Int) < (k : Int) := by omega
    have tL := hid (jnP j); go_wp2
    go_roundw
    case rel => first | exact ⟨j + 1, by omega, by rw [<- tL.out], by go_num, by first | rfl | trivial⟩ | ((repeat apply Exists.intro); exact ⟨⟨j + 1, by omega, by rw [<- tL.out], by go_num, by first | rfl | trivial⟩, rfl⟩) | (refine ⟨trivial, ?_⟩; (repeat apply Exists.intro); exact ⟨⟨j + 1, by omega, by rw [<- tL.out], by go_num, by first | rfl | trivial⟩, rfl⟩)
    case measure => simp [intOf]; omega
  . have j1 : ¬ (j : Int) < (k : Int) := by omega
    obtain rfl : j = k := by omega
    obtain ⟨A, hA⟩ : ∃ A, A = wr := ⟨_, rfl⟩; subst hA; have Bg := hid (show (⟨#[115, 58, 32, 116, 13, 10, 13, 10]⟩ : ByteArray) ++ S (quL j) ++ ⟨#[13, 10]⟩ = S (quT j) by
        show S [115, 58, 32, 116, 13, 10, 13, 10] ++ S (quL j) ++ S [13, 10] = _
        rw [qT, qT]; rfl)
    have lz := hid (show (S (quT j)).size = j + 10 by rw [jb, jaq]); go_wp2_with fail; rw [Bg.out]; refine (kT.out _).mono ?_; rintro e u ⟨rfl, hu⟩; have b6 := hu.symm; subst b6; clear hu; obtain ⟨V, hV⟩ : ∃ V, V = A.alloc (.cells (acuC (linK 0 quH)).toArray 34) := ⟨_, rfl⟩; have dT := hid (show V = A.alloc (.cells #[.int .i64 1, .int .i64 0, .int .i64 0, .int .i64 0, .string ⟨#[76, 72, 76, 79, 32, 97, 13, 10]⟩, .int .i64 0, .string ⟨#[]⟩, .int .i64 0, .int .i64 0, .string ⟨#[]⟩, .string ⟨#[]⟩] 34) from hV); have cU := hid (show Below A.heap.size A V from by rw [hV]; exact nb0 _ _); have tC := hid (show V.ownsRow A.heap.size 34 11 (.slice (some ⟨A.heap.size, 0, none⟩) 1 1) 1 ((quA j 0).map acuC).flatten from by
        rw [hV]; exact World.ownsRow_lit A (acuC (linK 0 quH)).toArray 1 (ai _) (by unfold maxLen; decide) rfl)
    clear hV; go_wp2; rw [<- dT.out]
    go_loopw [10, 11] (fun l i wx => ∃ (q : Nat) (a9 : Option Addr) (c9 : Nat), q <= m /\ i = .int .i64 q /\ l = .slice a9 (1 + 2 * q) c9 /\ Hid (wx.ownsRow A.heap.size 34 11 (.slice a9 (1 + 2 * q) c9) (1 + 2 * q) ((quA j q).map acuC).flatten) /\ Hid (Below A.heap.size A wx)) (fun _ i _ => m - (intOf i).toNat)
    case atStart => exact ⟨0, _, _, aQ _, rfl, rfl, tC, cU⟩
    case round =>
        obtain ⟨q, a9, c9, hq, rfl, rfl, HO, HB⟩ := hrel; obtain ⟨U, hU⟩ : ∃ U, U = wr := ⟨_, rfl⟩; subst hU
        by_cases gR : q < m
        . have q1 : (q : Int) < (m : Int) := by omega
          have q0 : (0 : Int) <= (q : Int) := by omega
          have Bh := hid (show (⟨#[77, 65, 73, 76, 32, 70, 82, 79, 77, 58, 60, 97, 64, 98, 62, 13, 10, 82, 67, 80, 84, 32, 84, 79, 58, 60, 97, 110, 110, 64, 98, 62, 13, 10, 68, 65, 84, 65, 13, 10]⟩ : ByteArray) ++ S (quT j) ++ ⟨#[46, 13, 10]⟩ = S (jx (quY j)) by
           show S [77, 65, 73, 76, 32, 70, 82, 79, 77, 58, 60, 97, 64, 98, 62, 13, 10, 82, 67, 80, 84, 32, 84, 79, 58, 60, 97, 110, 110, 64, 98, 62, 13, 10, 68, 65, 84, 65, 13, 10] ++ S (quT j) ++ S [46, 13, 10] = _
           rw [qT, qT, jhY])
          have DB := lz.out
          go_wp2_with (first
           | (at_builtin; rw [Bh.out]; refine wpList_append_lies _ rfl _ _ 36 rfl A.heap.size 34 i0 _ 11 120 Tryz.underlying36 hi hz0 hz1 hz2 rfl (by omega) (.slice a9 (1 + 2 * q) c9) (1 + 2 * q) (((quA j q).map acuC).flatten) rfl (aO HO.out _) ⟨U.heap.size, 0, none⟩ 2 2 [.int .i64 1, .int .i64 0, .int .i64 0, .int .i64 0, .string (S (jx (quY j))), .int .i64 0, .string ⟨#[]⟩, .int .i64 0, .int .i64 0, .string ⟨#[]⟩, .string ⟨#[]⟩, .int .i64 2, .int .i64 0, .int .i64 0, .int .i64 0, .string ⟨#[]⟩, .int .i64 0, .string ⟨#[]⟩, .int .i64 0, .int .i64 0, .string ⟨#[]⟩, .string ⟨#[]⟩] rfl rfl (qk U _ _) ?c1 (by omega) ?c2 ?c3 ?c4 _ rfl ?_)
           | fail)
          case c1 => simp [Value.oneCell']
          case c2 => unfold maxLen; omega
          case c3 => omega
          case c4 => have := HB.out.size; simp; omega
          intro gm cap w4 hown hgrow hat ei; have ch := hid (show Below A.heap.size A w4 from (HB.out.alloc HB.out.size _).grown hgrow (by have := HB.out.size; simp; omega) (fun j hj => (aA HO.out j hj).1)); have iT := hid (show w4.ownsRow A.heap.size 34 11 (.slice (some ⟨gm, 0, none⟩) (1 + 2 * (q + 1)) cap) (1 + 2 * (q + 1)) ((quA j (q + 1)).map acuC).flatten by
           rw [jnO, jmy]; exact hown)
          clear hown hgrow hat; go_wp2
          go_roundw
          case rel => first | exact ⟨q + 1, _, cap, by omega, by go_num, rfl, iT, ch⟩ | ((repeat apply Exists.intro); exact ⟨⟨q + 1, _, cap, by omega, by go_num, rfl, iT, ch⟩, rfl⟩)
          case measure => simp [intOf]; omega
        . have q1 : ¬ (q : Int) < (m : Int) := by omega
          obtain rfl : q = m := by omega
          have Bi := hid (show Calls Tryz.prog 6 #[.slice a9 (1 + 2 * q) c9] U (RanP U (quU j q)) by
           have h := jq5 (fun _ => True) a9 c9 k3 (show q <= 40 by omega) U (HM.out.next HB.out) (by
            rw [qW]; exact jao (css := (quA j q).map acuC) HO.out (qW j q).symm (show 1 + 2 * q <= maxLen by unfold maxLen; omega) (by rw [bI, qW]) (fun cs h => by
              obtain ⟨x, _, rfl⟩ := bE.1 h; rfl) (fun i x cs h1 h2 => by
              rw [ba, h1] at h2; cases h2; rfl) fun _ _ => trivial)
           rw [qW] at h; exact h)
          go_wp2_with fail; refine Bi.out.mono ?_; rintro e w2 ⟨ac, cc, ao, co, as_, cs, rfl, hO, hb2⟩; have bY := hid (HB.out.trans (hb2.mono HB.out.size)); obtain ⟨g0, o0, rfl, fW⟩ := jlk hO; obtain ⟨a1, c1, y0, y1⟩ := fW 0 (quD (quR j) q) rfl; obtain ⟨b2, o2, b3, o3, c3, a4, c4, rfl, s0, s2⟩ := jll hO (s := quS j (quC j q)) rfl (bx := ⟨[73, 78, 66, 79, 88], (quC j q : Int) + 1, quM j (quC j q)⟩) rfl; rw [jap] at y0; rw [jlC] at s2; simp only [bC] at y0; clear hO hb2 fW; obtain ⟨W3, hW3⟩ : ∃ W3, W3 = w2.alloc (.cells #[.bool (quU j q).up, .slice (some ⟨g0, o0, none⟩) 3 cc, .slice ao 3 co, .slice (some ⟨b2, o2, none⟩) 3 cs, .int .i64 (quU j q).waits] 28) := ⟨_, rfl⟩; have hb3 : Below w2.heap.size w2 W3 := by rw [hW3]; exact nb0 _ _
          have hx3 : W3.heap[w2.heap.size]? = some (.cells #[.bool (quU j q).up, .slice (some ⟨g0, o0, none⟩) 3 cc, .slice ao 3 co, .slice (some ⟨b2, o2, none⟩) 3 cs, .int .i64 (quU j q).waits] 28) := by rw [hW3]; exact az w2 _
          have x1 : W3.cell? ⟨w2.heap.size, 1, none⟩ = some (.slice (some ⟨g0, o0, none⟩) 3 cc) := by simp [World.cell?, hx3]
          have x3 : W3.cell? ⟨w2.heap.size, 3, none⟩ = some (.slice (some ⟨b2, o2, none⟩) 3 cs) := by simp [World.cell?, hx3]
          have k0 := ja y0 hb3; have k1' := ja s0 hb3; have k2 := ja s2 hb3; have HY := hid (show ∀ (i : Nat) x, (quD (quR j) q)[i]? = some x -> ∃ b o, a1 = some ⟨b, o, none⟩ /\ W3.cell? ⟨b, o + i, none⟩ = some (.int .i64 x) from fun i x hx => by
           obtain ⟨b, o, e, h⟩ := y1 i x hx; exact ⟨b, o, e, ja h hb3⟩)
          have bZ := hid (bY.out.trans (hb3.mono bY.out.size)); have cM := hid hW3; have k1 : W3.cell? ⟨b2, o2, none⟩ = some (.slice (some ⟨b3, o3, none⟩) 1 c3) := k1'; clear hb3 hx3 hW3 y0 y1 s0 s2 k1'; have DC := lz.out; have hnz : ¬ ((S (quT j)).size : Int) = 0 := by omega
          have hR : min (6000 / ((j : Int) + 10)) 30 = ((quR j : Nat) : Int) := by
           have h : ((6000 / (j + 10) : Nat) : Int) = 6000 / ((j : Int) + 10) := by simp
           rw [<- h]; unfold quR; omega
          have hC : ((quC j q : Nat) : Int) = min (q : Int) ((quR j : Nat) : Int) := by unfold quC; omega
          go_upto_region 15 with fail
          rw [<- cM.out]; go_wp2
          go_loopw [15] (fun v wr => ∃ i : Nat, i <= q /\ v = .int .i64 i /\ wr = W3) (fun v _ => q - (intOf v).toNat)
          case atStart => exact ⟨0, aQ _, rfl, rfl⟩
          case round =>
           obtain ⟨i, sr, rfl, rfl⟩ := hrel
           by_cases fh : i < q
           . have j1 : (i : Int) < (q : Int) := by omega
             obtain ⟨b5, o5, rfl, e5⟩ := HY.out _ _ (joQ (quR j) q i fh); have i0' : (0 : Int) <= 4 + 4 * (i : Int) := by omega
             have i1' : 4 + 4 * (i : Int) < ((1 + 4 * q : Nat) : Int) := by omega
             have i2' : 4 + 4 * (i : Int) < 1 + 4 * (q : Int) := by omega
             have ht : (4 + 4 * (i : Int)).toNat = 4 + 4 * i := by omega
             by_cases hr3 : i < quR j
             . rw [if_pos hr3] at e5; have r1 : ¬ ((quR j : Nat) : Int) <= (i : Int) := by omega
               go_wp2
               go_roundw
               case rel => first | exact ⟨i + 1, by omega, by go_num, by first | rfl | trivial⟩ | ((repeat apply Exists.intro); exact ⟨⟨i + 1, by omega, by go_num, by first | rfl | trivial⟩, rfl⟩) | (refine ⟨trivial, ?_⟩; (repeat apply Exists.intro); exact ⟨⟨i + 1, by omega, by go_num, by first | rfl | trivial⟩, rfl⟩)
               case measure => simp [intOf]; omega
             . rw [if_neg hr3] at e5; have r1 : ((quR j : Nat) : Int) <= (i : Int) := by omega
               go_wp2
               go_roundw
               case rel => first | exact ⟨i + 1, by omega, by go_num, by first | rfl | trivial⟩ | ((repeat apply Exists.intro); exact ⟨⟨i + 1, by omega, by go_num, by first | rfl | trivial⟩, rfl⟩) | (refine ⟨trivial, ?_⟩; (repeat apply Exists.intro); exact ⟨⟨i + 1, by omega, by go_num, by first | rfl | trivial⟩, rfl⟩)
               case measure => simp [intOf]; omega
           . have j1 : ¬ (i : Int) < (q : Int) := by omega
             go_wp2; go_ret; exact ⟨rfl, bZ.out⟩
end Go.Proofs.YtjdkbdkimbgbfaaGreatDoor
