/-
  A state that may not be is found so: one box with a Next below 1: the walks.
-/
import Derived.Test.YtilhjgdmolgmdaaDoorBoxCk
import Derived.Test.YtilhjgdmolgmdaaDoorBoxSo
import Derived.Deep.RegionLaw
namespace Go.Proofs.YtilhjgdmolgmdaaDoor
open Go.RowKit Go.Proofs

set_option maxHeartbeats 1000000 in
set_option maxRecDepth 100000 in
theorem boxMayBe_bad (nm : List UInt8) (z : Int) (w : World) (hn : nameP nm = 0) (hz : z < 1) :
    Calls Tryd.prog 22 #[.agg #[.string (S nm), .int .i64 z, .slice none 0 0]] w fun e w' => e = .returned (.bool false) ∧ Below w.heap.size w w' := by
  have HN := hid (show nameP (S nm).data.toList = 0 by rw [list_S]; exact hn)
  have HB := hid (show ∀ o : Obj, Below w.heap.size w (w.alloc o) from fun o => (Below.refl _ _).alloc (Nat.le_refl _) o)
  clear hn
  go_enter Tryd.func22, Tryd.ntmps22
  go_wp2_with fail
  refine (rname_any (S nm) _).mono ?_
  rintro e u ⟨rfl, hu⟩
  have hu' := hu.symm
  subst hu'
  rw [HN.out]
  clear hu
  go_wp2
  go_ret
  exact ⟨rfl, HB.out _⟩
set_option maxHeartbeats 1000000 in
set_option maxRecDepth 100000 in
theorem check_bad (nm : List UInt8) (z : Int) (p : Nat) (w : World) (hn : nameP nm = 0) (hz : z < 1) (hp : w.heap[p]? = some (.cells #[.string (S nm), .int .i64 z, .slice none 0 0] 33)) :
    Calls Tryd.prog 11 #[.agg #[.slice (some ⟨p, 0, none⟩) 1 1, .slice none 0 0]] w fun e w' => e = .returned (.int .i64 11) ∧ Below w.heap.size w w' := by
  have key : ∀ u : World, Below w.heap.size w u → Calls Tryd.prog 17 #[.agg #[.slice (some ⟨p, 0, none⟩) 1 1, .slice none 0 0]] u fun e u' => e = .returned (.bool false) ∧ Below u.heap.size u u' := by
    intro u hu
    obtain ⟨W1, hW1⟩ : ∃ W1, W1 = u.alloc (.cells #[.slice (some ⟨p, 0, none⟩) 1 1, .slice none 0 0] 26) := ⟨_, rfl⟩
    have HWE := hid hW1
    have hB1 : Below u.heap.size u W1 := by rw [hW1]; exact (Below.refl _ _).alloc (Nat.le_refl _) _
    have HB1 := hid hB1
    have x0 : W1.cell? ⟨u.heap.size, 0, none⟩ = some (.slice (some ⟨p, 0, none⟩) 1 1) := by rw [hW1]; simp
    obtain ⟨e0, e1, e2⟩ := box3 (low_obj hB1 (low_obj hu hp))
    obtain ⟨W2, hW2⟩ : ∃ W2, W2 = W1.alloc (.cells #[.string (S nm), .int .i64 z, .slice none 0 0] 33) := ⟨_, rfl⟩
    have HWE2 := hid hW2
    have hB2 : Below W1.heap.size W1 W2 := by rw [hW2]; exact (Below.refl _ _).alloc (Nat.le_refl _) _
    have hX2 : W2.heap[W1.heap.size]? = some (.cells #[.string (S nm), .int .i64 z, .slice none 0 0] 33) := by rw [hW2]; exact heap_alloc_new W1 _
    obtain ⟨m0, m1, m2⟩ := box3 hX2
    have HB2 := hid (show Below u.heap.size u W2 from hB1.trans (hB2.mono hB1.size))
    have HBM := hid (boxMayBe_bad nm z W2.drew hn hz)
    have HFin := hid (show ∀ v, Below W2.drew.heap.size W2.drew v → Below u.heap.size u v from fun v hv => HB2.out.trans (((Below.refl _ W2).drew.trans hv).mono HB2.out.size))
    clear hW1 hW2 hB1 hB2 hX2
    go_enter Tryd.func17, Tryd.ntmps17
    go_upto_region 1 with fail
    rw [← HWE.out]
    have y1 : W1.cell? ⟨u.heap.size, 1, none⟩ = some (.slice none 0 0) := by rw [HWE.out]; simp
    go_wp2
    go_loopw [18] (fun v wr => v = .int .i64 0 ∧ wr = W1) (fun _ _ => 0)
    case atStart => exact ⟨rfl, rfl⟩
    case round =>
      obtain ⟨rfl, hwr⟩ := hrel
      have hwr' := hwr.symm
      subst hwr'
      clear hwr
      go_wp2
      rw [← HWE2.out]
      first
        | go_region_law
            (first
              | (go_simp
                 go_at_call 22
                 refine HBM.out.mono ?_
                 rintro e w3 ⟨rfl, hb⟩
                 have HB3 := hid (HFin.out w3 hb)
                 clear hb)
              | fail)
        | fail
      all_goals
        go_wp2
        go_ret
        exact ⟨rfl, HB3.out⟩
  have HK := hid key
  have HB := hid (show ∀ o : Obj, Below w.heap.size w (w.alloc o) from fun o => (Below.refl _ _).alloc (Nat.le_refl _) o)
  clear key hp
  go_enter Tryd.func11, Tryd.ntmps11
  go_wp2_with fail
  refine (HK.out _ (HB.out _)).mono ?_
  rintro e w2 ⟨rfl, hb⟩
  have HB2 := hid (show Below w.heap.size w w2 from (HB.out _).trans (hb.mono (HB.out _).size))
  clear hb
  go_wp2
  go_ret
  exact ⟨rfl, HB2.out⟩
end Go.Proofs.YtilhjgdmolgmdaaDoor
