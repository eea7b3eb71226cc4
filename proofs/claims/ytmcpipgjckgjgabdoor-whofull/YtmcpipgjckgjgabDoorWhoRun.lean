/-
  What the reader's run, beginsPlain and plain do: the walks.
-/
import Derived.Test.YtmcpipgjckgjgabDoorWhoMem
import Derived.Deep.RegionHeld3
namespace Go.Proofs.YtmcpipgjckgjgabDoor
open Go.RowKit

theorem wrun_yes {c : UInt8} {t : List UInt8} (h : runB c = true) : wrun (c :: t) = c :: wrun t := by unfold wrun; rw [List.takeWhile_cons, if_pos h]
theorem wrun_no {c : UInt8} {t : List UInt8} (h : runB c = false) : wrun (c :: t) = [] := by unfold wrun; rw [List.takeWhile_cons, h]; rfl
theorem run_of {c : UInt8} (h : c ≠ 46) : runB c = atomB c := by unfold runB; simp [h]

set_option maxHeartbeats 2000000 in
theorem runLength_any (s : ByteArray) (w : World) (hs : s.size ≤ maxLen) :
    Calls Tryd.prog 17 #[.string s] w fun e w' => e = .returned (.int .i64 ((wrun s.data.toList).length : Nat)) ∧ w' = w := by
  unfold maxLen at hs
  go_enter Tryd.func17, Tryd.ntmps17
  go_wp2
  go_loopw [3] (fun i wr => ∃ k : Nat, k ≤ s.size ∧ i = .int .i64 k ∧ Hid ((wrun s.data.toList).length = k + (wrun (s.data.toList.drop k)).length) ∧ wr = w) (fun i _ => s.size - (intOf i).toNat)
  case atStart => exact ⟨0, Nat.zero_le _, rfl, by unfold Hid; simp, rfl⟩
  case round =>
    obtain ⟨k, hk, rfl, HT, rfl⟩ := hrel
    by_cases hlt : k < s.size
    · have hdrop : s.data.toList.drop k = s[k] :: s.data.toList.drop (k + 1) := by
        rw [List.drop_eq_getElem_cons (by rw [size_list]; exact hlt)]; rfl
      by_cases hd : s[k] = 46
      · have hyi : (s[k].toNat : Int) = 46 := by rw [hd]; rfl
        have HN : Hid ((wrun s.data.toList).length = (k + 1) + (wrun (s.data.toList.drop (k + 1))).length) := by
          unfold Hid; rw [HT.out, hdrop, wrun_yes (by rw [hd]; decide)]; simp; omega
        clear hdrop hd
        go_wp2
        go_roundw
        case rel => first | exact ⟨k + 1, by omega, by go_num, HN, by first | rfl | trivial⟩ | ((repeat apply Exists.intro); exact ⟨⟨k + 1, by omega, by go_num, HN, by first | rfl | trivial⟩, rfl⟩) | (refine ⟨trivial, ?_⟩; (repeat apply Exists.intro); exact ⟨⟨k + 1, by omega, by go_num, HN, by first | rfl | trivial⟩, rfl⟩)
        case measure => simp [intOf]; omega
      · have hyi : ¬ (s[k].toNat : Int) = 46 := fun h => hd (UInt8.toNat_inj.1 (by show s[k].toNat = 46; omega))
        cases ha : atomB s[k] with
        | true =>
          have HN : Hid ((wrun s.data.toList).length = (k + 1) + (wrun (s.data.toList.drop (k + 1))).length) := by
            unfold Hid; rw [HT.out, hdrop, wrun_yes (by rw [run_of hd]; exact ha)]; simp; omega
          have HA : Hid _ := ha
          clear ha hdrop hd
          go_wp2_with fail
          refine (inAtom_any s[k] _).mono ?_
          rintro e u ⟨rfl, hu⟩
          have hu' := hu.symm
          subst hu'
          rw [HA.out]
          go_wp2
          go_roundw
          case rel => first | exact ⟨k + 1, by omega, by go_num, HN, by first | rfl | trivial⟩ | ((repeat apply Exists.intro); exact ⟨⟨k + 1, by omega, by go_num, HN, by first | rfl | trivial⟩, rfl⟩) | (refine ⟨trivial, ?_⟩; (repeat apply Exists.intro); exact ⟨⟨k + 1, by omega, by go_num, HN, by first | rfl | trivial⟩, rfl⟩)
          case measure => simp [intOf]; omega
        | false =>
          have HN : Hid ((wrun s.data.toList).length = k) := by
            unfold Hid; rw [HT.out, hdrop, wrun_no (by rw [run_of hd]; exact ha)]; rfl
          have HA : Hid _ := ha
          clear ha hdrop hd
          go_wp2_with fail
          refine (inAtom_any s[k] _).mono ?_
          rintro e u ⟨rfl, hu⟩
          have hu' := hu.symm
          subst hu'
          rw [HA.out]
          go_wp2
          go_ret
          exact ⟨ret_int (by rw [HN.out]), rfl⟩
    · have HN : Hid ((wrun s.data.toList).length = k) := by
        unfold Hid; rw [HT.out, List.drop_of_length_le (by rw [size_list]; omega)]; rfl
      go_wp2
      go_ret
      exact ⟨ret_int (by rw [HN.out]), rfl⟩

theorem take_wrun (s : List UInt8) : s.take (wrun s).length = wrun s := by
  conv => lhs; arg 2; rw [← wrun_rest s]
  rw [List.take_left]
theorem drop_wrun (s : List UInt8) : s.drop (wrun s).length = wrest s := by
  conv => lhs; arg 2; rw [← wrun_rest s]
  rw [List.drop_left]
theorem wrun_len (s : List UInt8) : (wrun s).length ≤ s.length := by
  have := congrArg List.length (wrun_rest s)
  simp at this; omega

set_option maxHeartbeats 2000000 in
theorem run_any (b : Nat) (s : List UInt8) (w : World) (hR : RB w b s) (hs : s.length ≤ 1048576) :
    Calls Tryd.prog 18 #[.pointer (some ⟨b, 0, none⟩)] w (Rd b w (some (.string (S (wrun s)), wrest s))) := by
  have hc := hR.cell
  have hf := hR.free
  have HR : Hid (RB w b s) := hR
  clear hR
  obtain ⟨n, hn⟩ : ∃ n, n = (wrun s).length := ⟨_, rfl⟩
  have hnl : n ≤ (S s).size := by rw [hn, size_S]; exact wrun_len s
  have i1 : (0 : Int) ≤ (n : Int) := by omega
  have i2 : (n : Int) ≤ ((S s).size : Int) := by omega
  have HZ : Hid ((S s).size ≤ maxLen) := by unfold Hid maxLen; rw [size_S]; omega
  have HN : Hid ((wrun (S s).data.toList).length = n) := by unfold Hid; rw [list_S, hn]
  have HT : Hid ((S s).extract 0 n = S (wrun s)) := by unfold Hid; rw [S_take, hn, take_wrun]
  have HD : Hid ((S s).extract n (S s).size = S (wrest s)) := by unfold Hid; rw [S_drop, hn, drop_wrun]
  clear hn hs
  go_enter Tryd.func18, Tryd.ntmps18
  go_wp2_with fail
  refine (runLength_any (S s) _ HZ.out).mono ?_
  rintro e u ⟨rfl, hu⟩
  have hu' := hu.symm
  subst hu'
  rw [HN.out]
  go_wp2
  go_ret
  refine ⟨?_, ?_, But.set _ _⟩
  · rw [← HT.out]; rfl
  · rw [HD.out]; exact HR.out.set _

theorem prefix_one (c : UInt8) (s : List UInt8) : Lib.hasPrefix s [c] = (takeP c s).isSome := by
  unfold Lib.hasPrefix
  cases s with
  | nil => rfl
  | cons x t =>
    show ([c].isPrefixOf (x :: t)) = (if x = c then some t else none).isSome
    by_cases h : x = c
    · subst h; simp [List.isPrefixOf]
    · rw [if_neg h]; simp [List.isPrefixOf]; exact fun e => h e.symm

set_option maxHeartbeats 4000000 in
set_option maxRecDepth 100000 in
theorem beginsPlain_any (b : Nat) (s : List UInt8) (w : World) (hR : RB w b s) (hs : s.length ≤ 1048576) :
    Calls Tryd.prog 11 #[.pointer (some ⟨b, 0, none⟩)] w (Rd b w (some (.bool (takeP 64 (wrest s)).isSome, s))) := by
  have hc := hR.cell
  have HR : Hid (RB w b s) := hR
  clear hR
  obtain ⟨n, hn⟩ : ∃ n, n = (wrun s).length := ⟨_, rfl⟩
  have hnl : n ≤ (S s).size := by rw [hn, size_S]; exact wrun_len s
  have i1 : (0 : Int) ≤ (n : Int) := by omega
  have i2 : (n : Int) ≤ ((S s).size : Int) := by omega
  have HZ : Hid ((S s).size ≤ maxLen) := by unfold Hid maxLen; rw [size_S]; omega
  have HN : Hid ((wrun (S s).data.toList).length = n) := by unfold Hid; rw [list_S, hn]
  have HP : Hid (Lib.hasPrefix ((S s).extract n (S s).size).data.toList (⟨#[64]⟩ : ByteArray).data.toList = (takeP 64 (wrest s)).isSome) := by
    unfold Hid; rw [S_drop, hn, drop_wrun, list_S]; exact prefix_one 64 _
  clear hn hs hnl
  go_enter Tryd.func11, Tryd.ntmps11
  go_wp2
  go_region_held3 (fun w' => w'.cell? ⟨b, 0, none⟩ = some (.string (S s))) (go_keep)
    (first
       | (go_at_call 17
          refine (runLength_any (S s) _ HZ.out).mono ?_
          rintro e u ⟨rfl, hu⟩
          have hu' := hu.symm
          subst hu'
          rw [HN.out])
       | (go_at_call 16
          refine (hasPrefix_any _ ⟨#[64]⟩ _).mono ?_
          rintro e u2 ⟨rfl, hu2⟩
          have hu2' := hu2.symm
          subst hu2'
          rw [HP.out]))
  go_wp2
  go_ret
  have hd : Below w.heap.size w w.drew := (Below.refl _ _).drew
  exact ⟨rfl, HR.out.below hd, But.of hd⟩
end Go.Proofs.YtmcpipgjckgjgabDoor
