/-
  The state that entries make: the walk of the laws' State.
-/
import Derived.Test.YtgfbdgheencmaaaGreatDoorXQBoxKp5
import Derived.Test.YtgfbdgheencmaaaGreatDoorXBoxAp
namespace Go.Proofs.YtgfbdgheencmaaaGreatDoor
open Go.RowKit Go.Proofs
set_option maxHeartbeats 1000000 in
set_option maxRecDepth 100000 in
theorem jkc (l : List Chr) (a : Option Addr) (c : Nat) (w : World) (Q : Nat → Prop) (hL : ChsM Q w (.slice a l.length c) l) (hW : ∀ x ∈ l, chrW x) :
 Calls Tryz.prog 4 #[.slice a l.length c] w (StR w (jcv l)) := by
 have hm := RowM.small hL; unfold maxLen at hm; have HL := hid hL; have HCW := hid hW; obtain ⟨W0, hW0⟩ : ∃ W0, W0 = ((w.alloc (.cells #[.slice none 0 0, .slice none 0 0] 32)).alloc (.cells #[.string ⟨#[73, 78, 66, 79, 88]⟩, .int .i64 1, .slice none 0 0] 54)).alloc (.cells #[.slice (some ⟨w.heap.size + 1, 0, none⟩) 1 1, .slice none 0 0] 32) := ⟨_, rfl⟩; have HWE := hid hW0; have hB0 : Below w.heap.size w W0 := by rw [hW0]; exact ((nb0 _ _).alloc (by simp) _).alloc (by simp; omega) _
 have hi0 : StI (w.heap.size + 2) w.heap.size w W0 jaq := by
  refine ⟨some ⟨w.heap.size + 1, 0, none⟩, 1, 1, none, 0, 0, ?_, ?_, jlw W0 (w.heap.size + 1) _ _ ?_ (by omega), hB0⟩
  · rw [hW0]; have := heap_alloc_new ((w.alloc (.cells #[.slice none 0 0, .slice none 0 0] 32)).alloc (.cells #[.string ⟨#[73, 78, 66, 79, 88]⟩, .int .i64 1, .slice none 0 0] 54)) (.cells #[.slice (some ⟨w.heap.size + 1, 0, none⟩) 1 1, .slice none 0 0] 32); simpa using this
  · rw [hW0, heap_alloc_old _ _ (by simp; omega), heap_alloc_old _ _ (by simp), heap_alloc_new]
  · rw [hW0, heap_alloc_old _ _ (by simp)]; have := heap_alloc_new (w.alloc (.cells #[.slice none 0 0, .slice none 0 0] 32)) (.cells #[.string ⟨#[73, 78, 66, 79, 88]⟩, .int .i64 1, .slice none 0 0] 54); simpa using this
 have HI0 := hid hi0; clear hL hW hW0 hB0 hi0; go_enter Tryz.func4, Tryz.ntmps4; go_wp2; rw [← HWE.out]
 go_loopw [4] (fun v wr => ∃ k : Nat, k ≤ l.length ∧ k ≤ 40 ∧ v = .int .i64 k ∧ Hid (StI (w.heap.size + 2) w.heap.size w wr ((l.take k).foldl qb jaq))) (fun v _ => l.length - (intOf v).toNat)
 case atStart => exact ⟨0, Nat.zero_le _, by omega, rfl, HI0⟩
 case round =>
  obtain ⟨k, hk, hk4, rfl, HI⟩ := hrel
  by_cases hlt : k < l.length ∧ k < 40
  · obtain ⟨hl1, hl2⟩ := hlt; have k1 : (k : Int) < (l.length : Int) := by omega
    have k2 : (k : Int) < 40 := by omega
    have k0 : (0 : Int) ≤ (k : Int) := by omega
    obtain ⟨x, hx⟩ : ∃ x, l[k]? = some x := ⟨_, List.getElem?_eq_getElem hl1⟩; have HFS := hid (jhn hx jaq); have HMk := hid (jeu (l.take k) jaq jey); have HXW := hid (HCW.out x (List.mem_of_getElem? hx)); generalize (l.take k).foldl qb jaq = sk at *; obtain ⟨ab, nb, cb, as', ns, cs, h1, h2, h3, h4⟩ := HI.out; obtain ⟨b, o, rfl, e0, e1, e2, e3, e4, e5⟩ := (HL.out.next h4).at hx; obtain ⟨z0, z1, _, _⟩ := zr h1; have hwq : w.heap.size + 2 < wr.heap.size := (Array.getElem?_eq_some_iff.1 h1).1; have hne0 : w.heap.size + 2 ≠ wr.heap.size := by omega
    have hneb : b ≠ wr.heap.size := Nat.ne_of_lt (World.block_lt_of_cell? _ _ e0); have HEN := hid (fun u => jiM x u HXW.out); have HAP := hid (fun u (hu : Below wr.heap.size wr u) => jit sk (.slice ab nb cb) (.slice as' ns cs) (entP x) u _ (h3.next hu) HMk.out (jaA x)); have HAPc := hid (fun u (hu : Below wr.heap.size wr u) (_ : u.heap[wr.heap.size]? = some (.cells #[.slice none 0 0, .slice none 0 0] 32)) => HAP.out u hu); have HBA := hid (show Below wr.heap.size wr (wr.alloc (.cells #[.slice none 0 0, .slice none 0 0] 32)).drew from ((Below.refl wr.heap.size wr).alloc (Nat.le_refl _) _).drew); have HNA := hid (show (wr.alloc (.cells #[.slice none 0 0, .slice none 0 0] 32)).drew.heap[wr.heap.size]? = some (.cells #[.slice none 0 0, .slice none 0 0] 32) from heap_alloc_new wr _); clear hx h1 h2 h3 h4; go_wp2
    go_cut [5, 6] (fun p v wx => NxP wr (doM sk (entP x)) p v wx)
    case first =>
        go_region_held3 (fun w' => w'.cell? ⟨w.heap.size + 2, 0, none⟩ = some (.slice ab nb cb) ∧ w'.cell? ⟨w.heap.size + 2, 1, none⟩ = some (.slice as' ns cs) ∧ w'.cell? ⟨b, o + k * 6, none⟩ = some (.int .i64 x.kind) ∧ w'.cell? ⟨b, o + k * 6 + 1, none⟩ = some (.int .i64 x.box) ∧ w'.cell? ⟨b, o + k * 6 + 2, none⟩ = some (.int .i64 x.uid) ∧ w'.cell? ⟨b, o + k * 6 + 3, none⟩ = some (.int .i64 x.flags) ∧ w'.cell? ⟨b, o + k * 6 + 4, none⟩ = some (.int .i64 x.goal) ∧ w'.cell? ⟨b, o + k * 6 + 5, none⟩ = some (.string x.text))
         (first | (go_keep; done) | exact ⟨far2 hne2 r0, far2 hne2 r1, far2 hnb2 r2, far2 hnb2 r3, far2 hnb2 r4, far2 hnb2 r5, far2 hnb2 r6, far2 hnb2 r7⟩ | exact ⟨far2 hne0 r0, far2 hne0 r1, far2 hneb r2, far2 hneb r3, far2 hneb r4, far2 hneb r5, far2 hneb r6, far2 hneb r7⟩ | fail)
         (first
            | (go_at_call 11
               with_reducible refine (HAPc.out _ HBb.out HPc.out).mono ?_
               intro e w3 hA; have hb := hA.1; obtain ⟨a1, n1, c1, a2, n2, c2, z, rfl, hR⟩ := hA.form; have HAR := hid hR; have HBf := hid (HBb.out.trans (hb.mono HBb.out.size)); have HPe := hid (jY hb HPc.out); obtain ⟨t0, t1, f0, f1⟩ := zr HPe.out; have r0 := jb q0 hb; have r1 := jb q1 hb; have r2 := jb q2 hb; have r3 := jb q3 hb; have r4 := jb q4 hb; have r5 := jb q5 hb; have r6 := jb q6 hb; have r7 := jb q7 hb; clear hA hb hR)
            | (go_at_call 11
               with_reducible refine (HAP.out w2 HBb.out).mono ?_
               intro e w3 hA; have hb := hA.1; obtain ⟨a1, n1, c1, a2, n2, c2, z, rfl, hR⟩ := hA.form; have HAR := hid hR; have HBf := hid (HBb.out.trans (hb.mono HBb.out.size)); have r0 := jb q0 hb; have r1 := jb q1 hb; have r2 := jb q2 hb; have r3 := jb q3 hb; have r4 := jb q4 hb; have r5 := jb q5 hb; have r6 := jb q6 hb; have r7 := jb q7 hb; clear hA hb hR)
            | (go_at_call 11
               with_reducible refine (HAP.out (w2.alloc (.cells #[.slice none 0 0, .slice none 0 0] 32)) (HBb.out.alloc HBb.out.size _)).mono ?_
               intro e w3 hA; have hb := hA.1; obtain ⟨a1, n1, c1, a2, n2, c2, z, rfl, hR⟩ := hA.form; have HAR := hid hR; have hba : Below w2.heap.size w2 (w2.alloc (.cells #[.slice none 0 0, .slice none 0 0] 32)) := nb0 _ _; have hbb : Below w2.heap.size w2 w3 := hba.trans (hb.mono hba.size); have HBf := hid (HBb.out.trans (hbb.mono HBb.out.size)); have HPe := hid (jY hb (heap_alloc_new w2 (.cells #[.slice none 0 0, .slice none 0 0] 32))); obtain ⟨t0, t1, f0, f1⟩ := zr HPe.out; have r0 := jb q0 hbb; have r1 := jb q1 hbb; have r2 := jb q2 hbb; have r3 := jb q3 hbb; have r4 := jb q4 hbb; have r5 := jb q5 hbb; have r6 := jb q6 hbb; have r7 := jb q7 hbb; clear hA hb hR hba hbb)
            | (go_at_call 12
               with_reducible refine (HEN.out wr.drew).mono ?_
               rintro e w2 ⟨rfl, hb⟩; have hb2 : Below wr.heap.size wr w2 := (Below.refl _ _).drew.trans hb; have HBb := hid hb2; have q0 := jb z0 hb2; have q1 := jb z1 hb2; have q2 := jb e0 hb2; have q3 := jb e1 hb2; have q4 := jb e2 hb2; have q5 := jb e3 hb2; have q6 := jb e4 hb2; have q7 := jb e5 hb2; have hne2 := jlL (World.block_lt_of_cell? _ _ q0); have hnb2 := jlL (World.block_lt_of_cell? _ _ q2); clear hb hb2)
            | (go_at_call 12
               with_reducible refine (HEN.out ((wr.alloc (.cells #[.slice none 0 0, .slice none 0 0] 32)).drew)).mono ?_
               rintro e w2 ⟨rfl, hb⟩; have hb2 : Below wr.heap.size wr w2 := HBA.out.trans (hb.mono HBA.out.size); have HBb := hid hb2; have HPc := hid (jY hb HNA.out); have q0 := jb z0 hb2; have q1 := jb z1 hb2; have q2 := jb e0 hb2; have q3 := jb e1 hb2; have q4 := jb e2 hb2; have q5 := jb e3 hb2; have q6 := jb e4 hb2; have q7 := jb e5 hb2; have hne2 := jlL (World.block_lt_of_cell? _ _ q0); have hnb2 := jlL (World.block_lt_of_cell? _ _ q2); clear hb hb2)
            | fail)
        all_goals
         go_wp2_with fail
         go_meet
         have hs2 := HBb.out.size
         first
            | exact jjL (p := w3.heap.size) (heap_alloc_new w3 _) (fun k hk _ => heap_alloc_old w3 _ hk) (HBf.out.alloc HBf.out.size _) HAR.out hs2 HBf.out.size (fun vm s' hO hg => by have := (hO.lt hg).2; omega)
            | exact jjL (p := w2.heap.size) (jW HPe.out) (fun k hk hne => (jk hne).trans (jk hne)) ((HBf.out.setCell hs2 _).setCell hs2 _) HAR.out (by simp; omega) hs2 (fun vm s' hO hg => by have := (hO.lt hg).1; simp at this; omega)
            | exact jjL (p := wr.heap.size) (jW HPe.out) (fun k hk hne => (jk hne).trans (jk hne)) ((HBf.out.setCell (Nat.le_refl _) _).setCell (Nat.le_refl _) _) HAR.out hs2 (Nat.le_refl _) (fun vm s' hO hg => by have h1 := (hO.lt hg).1; have h2 := (Array.getElem?_eq_some_iff.1 HPc.out).1; omega)
            | fail
    case rest =>
        obtain ⟨pn, a1, n1, c1, a2, n2, c2, z, rfl, rfl, hp, hpn, hb, hr⟩ := hcut; obtain ⟨y0, y1, _, _⟩ := zr hp; cases hd : doM sk (entP x) with
        | error er =>
          rw [hd] at hr; have hz : z = er := hr; subst hz; have hzn : ¬ z = 0 := jfA hd; have hz' : (z == 0) = false := by simp [hzn]
          have HN := hid (show StI (w.heap.size + 2) w.heap.size w wc ((l.take (k + 1)).foldl qb jaq) by rw [HFS.out]; unfold qb; rw [hd]; exact HI.out.same hb); clear hb hp hd hr; go_wp2
          go_roundw
          case rel => first | exact ⟨k + 1, by omega, by omega, by go_num, HN⟩ | ((repeat apply Exists.intro); exact ⟨⟨k + 1, by omega, by omega, by go_num, HN⟩, rfl⟩)
          case measure => simp [intOf]; omega
        | ok s' =>
          rw [hd] at hr; obtain ⟨hz, vm, hO⟩ := hr; subst hz; have HN := hid (show StI (w.heap.size + 2) w.heap.size w ((wc.setCell ⟨w.heap.size + 2, 0, none⟩ (.slice a1 n1 c1)).setCell ⟨w.heap.size + 2, 1, none⟩ (.slice a2 n2 c2)) ((l.take (k + 1)).foldl qb jaq) by
            rw [HFS.out]; unfold qb; rw [hd]; exact HI.out.step (jfB HMk.out (jaA x) hd) hb hO (by omega) (by omega) hpn)
          obtain ⟨ab, nb, cb, as', ns, cs, h1, _⟩ := HI.out; obtain ⟨d0, d1, df0, df1⟩ := zr (jY hb h1); clear hb hp hd hO h1; go_wp2
          go_roundw
          case rel => first | exact ⟨k + 1, by omega, by omega, by go_num, HN⟩ | ((repeat apply Exists.intro); exact ⟨⟨k + 1, by omega, by omega, by go_num, HN⟩, rfl⟩)
          case measure => simp [intOf]; omega
  · have hE : (l.take k).foldl qb jaq = jcv l := by
        unfold jcv
        by_cases h4 : k = 40
        · rw [h4]
        · have hkl : k = l.length := by omega
          rw [List.take_of_length_le (by omega), List.take_of_length_le (by omega)]
    have HE := hid hE; obtain ⟨ab, nb, cb, as', ns, cs, h1, h2, h3, h4⟩ := HI.out; obtain ⟨z0, z1, _, _⟩ := zr h1; obtain ⟨u0, u1, g0, g1⟩ := zr h2; obtain ⟨v0, v1, j0, j1⟩ := zr (jW (u0 := .slice ab nb cb) (u1 := .slice as' ns cs) h2); have HF := hid (show StR w (jcv l) (.returned (.agg #[.slice ab nb cb, .slice as' ns cs])) ((wr.setCell ⟨w.heap.size, 0, none⟩ (.slice ab nb cb)).setCell ⟨w.heap.size, 1, none⟩ (.slice as' ns cs)) from
        ⟨_, _, _, _, _, _, rfl, by rw [← HE.out]; exact h3.imp (fun _ _ => trivial) ((Keeps.set wr (p := ⟨w.heap.size, 0, none⟩) _ fun b hb => hb.2).trans (Keeps.set _ (p := ⟨w.heap.size, 1, none⟩) _ fun b hb => hb.2)), (h4.setCell (Nat.le_refl _) _).setCell (Nat.le_refl _) _⟩)
    clear h1 h2 h3 h4 hE
    by_cases hkl : k < l.length
    · have k1 : (k : Int) < (l.length : Int) := by omega
      have k2 : ¬ (k : Int) < 40 := by omega
      go_wp2; refine bodyPost_ret (v := .agg #[.slice ab nb cb, .slice as' ns cs]) (by simp [results, Tryz.results4, go_sem, *]) rfl ?_; exact HF.out
    · have k1 : ¬ (k : Int) < (l.length : Int) := by omega
      go_wp2; refine bodyPost_ret (v := .agg #[.slice ab nb cb, .slice as' ns cs]) (by simp [results, Tryz.results4, go_sem, *]) rfl ?_; exact HF.out
end Go.Proofs.YtgfbdgheencmaaaGreatDoor
