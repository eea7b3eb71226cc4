/-
  What the laws' sameActions and sameCourse do at the same: the walk.
-/
import Derived.Test.YtlcnfpeabnnjoaaGreatDoorJudCrs
import Derived.Deep.QuietTactic
import Derived.BigQuiet
namespace Go.Proofs.YtlcnfpeabnnjoaaGreatDoor
open Go.RowKit Go.Proofs

set_option maxHeartbeats 4000000 in
set_option maxRecDepth 100000 in
theorem sameActs_any (a a' : Option Addr) (c c' : Nat) (l : List Atn) (w : World) (h1 : AtnsM anyB w (.slice a l.length c) l) (h2 : AtnsM anyB w (.slice a' l.length c') l) (hl : l.length ≤ 1000) :
    Calls Tryz.prog 21 #[.slice a l.length c, .slice a' l.length c'] w fun e w' => e = .returned (.bool true) ∧ Below w.heap.size w w' := by
  have H1 := hid h1
  have H2 := hid h2
  clear h1 h2
  go_enter Tryz.func21, Tryz.ntmps21
  go_wp2
  go_loopw [5] (fun i wr => ∃ (k n : Nat), k ≤ l.length ∧ i = .int .i64 k ∧ wr = w.drewN n) (fun i _ => l.length - (intOf i).toNat)
  case atStart => exact ⟨0, 0, Nat.zero_le _, rfl, rfl⟩
  case round =>
    obtain ⟨k, n, hk, rfl, rfl⟩ := hrel
    by_cases hlt : k < l.length
    · have i1 : (k : Int) < (l.length : Int) := by omega
      have i3 : (0 : Int) ≤ (k : Int) := by omega
      obtain ⟨t, ht⟩ : ∃ t, l[k]? = some t := ⟨_, List.getElem?_eq_getElem hlt⟩
      obtain ⟨b, o, rfl, d0, d1, d2⟩ := atn_at H1.out ht
      obtain ⟨b', o', rfl, e0, e1, e2⟩ := atn_at H2.out ht
      clear ht
      go_wp2
      go_quiet (fail)
      go_wp2
      go_roundw
      case rel => exact ⟨k + 1, n + nq, by omega, by go_num, by first | rfl | rw [World.drewN_drewN]⟩
      case measure => simp [intOf]; omega
    · have i1 : ¬ (k : Int) < (l.length : Int) := by omega
      go_wp2
      go_ret
      exact ⟨rfl, wdrew (Below.refl _ _) n⟩
set_option maxHeartbeats 4000000 in
set_option maxRecDepth 100000 in
theorem sameCourse_any (a a' : Option Addr) (k k' : Nat) (c : Crs) (w : World) (h1 : AtnsM anyB w (.slice a c.acts.length k) c.acts) (h2 : AtnsM anyB w (.slice a' c.acts.length k') c.acts) (hl : c.acts.length ≤ 6) :
    Calls Tryz.prog 17 #[.agg #[.slice a c.acts.length k, .int .i64 c.flags, .bool c.asked, .int .i64 c.fault], .agg #[.slice a' c.acts.length k', .int .i64 c.flags, .bool c.asked, .int .i64 c.fault]] w fun e w' => e = .returned (.bool true) ∧ Below w.heap.size w w' := by
  obtain ⟨W0, hW0⟩ : ∃ W0, W0 = (w.alloc (.cells #[.slice a c.acts.length k, .int .i64 c.flags, .bool c.asked, .int .i64 c.fault] 53)).alloc (.cells #[.slice a' c.acts.length k', .int .i64 c.flags, .bool c.asked, .int .i64 c.fault] 53) := ⟨_, rfl⟩
  have HWE := hid hW0
  have HB0 := hid (show Below w.heap.size w W0 by rw [hW0]; exact ((Below.refl _ _).alloc (Nat.le_refl _) _).alloc (by simp) _)
  have HC := hid (sameActs_any a a' k k' c.acts W0 (AtnsM.next h1 HB0.out) (AtnsM.next h2 HB0.out) (by omega))
  clear hW0 h1 h2
  go_enter Tryz.func17, Tryz.ntmps17
  go_wp2_with fail
  rw [← HWE.out]
  refine HC.out.mono ?_
  rintro e w1 ⟨rfl, hb1⟩
  have HB1 := hid (HB0.out.trans (hb1.mono HB0.out.size))
  go_wp2
  go_ret
  exact ⟨rfl, HB1.out⟩
end Go.Proofs.YtlcnfpeabnnjoaaGreatDoor
