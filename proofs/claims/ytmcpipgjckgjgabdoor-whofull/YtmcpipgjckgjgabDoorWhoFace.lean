/-
  What who.List does: the walk. A panic of the reader goes through the door, where it is recovered.
-/
import Derived.Test.YtmcpipgjckgjgabDoorWhoList
import Derived.Defers
import Derived.Recover
import Derived.Tactics
import Derived.Tactics2
import Derived.Laws.Pointers
namespace Go.Proofs.YtmcpipgjckgjgabDoor
open Go.RowKit

theorem catch_idle (p q : Addr) (w : World) :
    CallsD Tryd.prog 6 #[.pointer (some p), .pointer (some q)] .returning w fun e u' w' => e = .returned (.tuple #[]) ∧ u' = .returning ∧ w' = w := by
  refine callsD_of_wpS Tryd.func6 rfl fun c₀ cs hu => ?_
  have hnil : ∀ w : World, (binOp BinOp.neq 20 .nilIface .nilIface).run Tryd.prog w = .ok (.bool false) w := fun _ => by kernel_rfl
  apply wpS_seq
  apply wpS_region
  simp [wpOpsS, go_sem, recoverD, hu, Tryd.ntmps6, Exit.thenS]
  apply wpS_seq
  apply wpS_region
  simp [wpOpsS, go_sem, Exit.thenS, hnil]
  refine wpS_cond (t := false) (by simp [Act.eval, Array.replicate]) ?_
  simp only [Bool.false_eq_true, if_false]
  refine wpS_of_wp (wp_skip ?_)
  cases c₀
  simp_all [bodyPostS, results, Tryd.results6]

theorem catch_form (p q : Addr) (v : Value) (n : Int) (w : World) (hp : w.cell? p = some v) (hpf : w.frozen? p = false) (hq : w.cell? q = some (.int .i64 n)) (hqf : w.frozen? q = false) (hpq : p ≠ q) :
    CallsD Tryd.prog 6 #[.pointer (some p), .pointer (some q)] (.panicking formPanic) w fun e u' w' => e = .returned (.tuple #[]) ∧ u' = .panicking [{ v := .iface 24 (.int .i64 3), recovered := true }] ∧ w' = ((w.setCell p (.slice none 0 0)).setCell q (.int .i64 3)).drew := by
  refine callsD_of_wpS Tryd.func6 rfl fun c₀ cs hu => ?_
  have hnil : ∀ w : World, (binOp BinOp.neq 20 (.iface 24 (.int .i64 3)) .nilIface).run Tryd.prog w = .ok (.bool true) w := fun _ => by kernel_rfl
  unfold formPanic at hu
  apply wpS_seq
  apply wpS_region
  simp [wpOpsS, go_sem, recoverD, hu, Tryd.ntmps6, Exit.thenS]
  apply wpS_seq
  apply wpS_region
  simp [wpOpsS, go_sem, Exit.thenS, hnil]
  refine wpS_cond (t := true) (by simp [Act.eval, Array.replicate]) ?_
  simp only [if_true]
  refine wpS_of_wp ?_
  have hass : ∀ w : World, (Instr.typeAssert (.iface 24 (.int .i64 3)) 20 24 false).run Tryd.prog w = .ok (.int .i64 3) w := fun _ => by kernel_rfl
  have hpf' : w.drew.frozen? p = false := hpf
  have hp' : w.drew.cell? p = some v := hp
  have hqf' : w.drew.frozen? q = false := hqf
  have hq' : w.drew.cell? q = some (.int .i64 n) := hq
  have hq2 : (w.drew.setCell p (.slice none 0 0)).cell? q = some (.int .i64 n) := (World.cell?_setCell_other _ _ _ _ (by first | exact hpq | exact hpq.symm)).trans hq
  have hqf2 : (w.drew.setCell p (.slice none 0 0)).frozen? q = false := by simpa using hqf
  show Code.wp _ _ _ { tmps := #[.pointer (some p), .pointer (some q), .iface 24 (.int .i64 3), .iface 24 (.int .i64 3), .iface 24 (.int .i64 3), .bool true, undef, undef], defers := [] } w
  clear hnil
  go_region_with (fail)
  all_goals exact ⟨rfl, _, rfl, .tuple #[], by simp [results, Tryd.results6], rfl, rfl, rfl⟩

/-- What who.List hands back. -/
def Faced (w : World) (o : List Adr × Int) (e : Ending) (w' : World) : Prop :=
  ∃ a c, e = .returned (.tuple #[.slice a o.1.length c, .int .i64 o.2]) ∧ AdrsAt w' a o.1 ∧ Below w.heap.size w w'
theorem adrs_nil (w : World) (a : Option Addr) : AdrsAt w a [] := fun i x h => by simp at h

set_option maxHeartbeats 8000000 in
set_option maxRecDepth 100000 in
theorem list_any (s : ByteArray) (w : World) (hs : s.size ≤ maxLen) :
    Calls Tryd.prog 5 #[.string s] w (Faced w (listM s.data.toList)) := by
  unfold maxLen at hs
  have hmf : ∀ (fn : Fn) (first cap : Array Value) (w : World), (Instr.makeFunc fn first cap).run Tryd.prog w = .ok (.func fn first cap) w := fun _ _ _ _ => rfl
  obtain ⟨W0, hW0⟩ : ∃ W0, W0 = (w.alloc (.cells #[.slice none 0 0] 23)).alloc (.cells #[.int .i64 0] 24) := ⟨_, rfl⟩
  have hB0 : Below w.heap.size w W0 := by rw [hW0]; exact ((Below.refl _ _).alloc (Nat.le_refl _) _).alloc (by simp) _
  have hz0 : W0.heap.size = w.heap.size + 2 := by rw [hW0]; simp
  have c0 : W0.cell? ⟨w.heap.size, 0, none⟩ = some (.slice none 0 0) := by rw [hW0]; simp
  have c1 : W0.cell? ⟨w.heap.size + 1, 0, none⟩ = some (.int .i64 0) := by rw [hW0]; simp
  have f0 : W0.frozen? ⟨w.heap.size, 0, none⟩ = false := by rw [hW0]; simp
  have f1 : W0.frozen? ⟨w.heap.size + 1, 0, none⟩ = false := by rw [hW0]; simp
  have HW : Hid _ := hW0
  clear hW0
  by_cases hbig : 2000 < s.size
  · have HM : Hid (listM s.data.toList = ([], 1)) := by unfold Hid listM; rw [size_list, if_pos hbig]
    have hbig' : (2000 : Int) < (s.size : Int) := by omega
    clear hbig
    go_enter_defers Tryd.func5, Tryd.ntmps5
    go_wp2
    refine ⟨.tuple #[.slice none 0 0, .int .i64 1], by simp [results, Tryd.results5, go_sem], ?_⟩
    rw [HM.out]
    exact ⟨none, 0, rfl, adrs_nil _ _, ((Below.refl _ _).alloc (Nat.le_refl _) _).alloc (by simp) _⟩
  · have hbig' : ¬ (2000 : Int) < (s.size : Int) := by omega
    have HS : Hid (S s.data.toList = s) := S_list s
    have HL : Hid (s.data.toList.length ≤ 2000) := by unfold Hid; rw [size_list]; omega
    go_enter_defers Tryd.func5, Tryd.ntmps5
    go_wp2_with fail
    rw [← HW.out]
    have hcall := readList_any s.data.toList W0 HL.out
    rw [HS.out] at hcall
    refine hcall.mono ?_
    have hpq : (⟨w.heap.size, 0, none⟩ : Addr) ≠ ⟨w.heap.size + 1, 0, none⟩ := by simp
    cases hl : listP s.data.toList with
    | none =>
      have HM : Hid (listM s.data.toList = ([], 3)) := by unfold Hid listM; rw [size_list, if_neg hbig, hl]
      clear hl hcall
      rintro e w1 ⟨rfl, hb⟩
      have d0 := wcell_next c0 hb
      have d1 := wcell_next c1 hb
      have g0 : w1.frozen? ⟨w.heap.size, 0, none⟩ = false := (hb.frozen (by simp [hz0])).trans f0
      have g1 : w1.frozen? ⟨w.heap.size + 1, 0, none⟩ = false := (hb.frozen (by simp [hz0])).trans f1
      have hB1 := wnext hB0 hb (Nat.le_refl _)
      refine leaves_cons (f := 6) (args := #[.pointer (some ⟨w.heap.size, 0, none⟩), .pointer (some ⟨w.heap.size + 1, 0, none⟩)]) (by simp) (by simp [go_sem]) ?_
      refine (catch_form _ _ _ _ _ d0 g0 d1 g1 hpq).mono ?_
      rintro e u' w2 ⟨rfl, rfl, rfl⟩
      have k0 : ((w1.setCell ⟨w.heap.size, 0, none⟩ (.slice none 0 0)).setCell ⟨w.heap.size + 1, 0, none⟩ (.int .i64 3)).drew.cell? ⟨w.heap.size, 0, none⟩ = some (.slice none 0 0) :=
        (World.cell?_setCell_other _ _ _ _ (by simp)).trans (World.cell?_setCell_same' w1 _ _ (by rw [d0]; rfl))
      have k1 : ((w1.setCell ⟨w.heap.size, 0, none⟩ (.slice none 0 0)).setCell ⟨w.heap.size + 1, 0, none⟩ (.int .i64 3)).drew.cell? ⟨w.heap.size + 1, 0, none⟩ = some (.int .i64 3) :=
        World.cell?_setCell_same' _ _ _ (by rw [World.cell?_setCell_other _ _ _ _ (by simp), d1]; rfl)
      show ∃ v, (results Tryd.f5 _).run Tryd.prog _ = .ok v _ ∧ Faced w _ (.returned v) _
      refine ⟨.tuple #[.slice none 0 0, .int .i64 3], by simp [results, Tryd.results5, go_sem, k0, k1], ?_⟩
      rw [HM.out]
      exact ⟨none, 0, rfl, adrs_nil _ _, ((hB1.setCell (Nat.le_refl _) _).setCell (by simp) _).drew⟩
    | some l =>
      clear hcall
      rintro e w1 ⟨a, c, rfl, hA, hF, hb⟩
      have d0 := wcell_next c0 hb
      have d1 := wcell_next c1 hb
      have g0 : w1.frozen? ⟨w.heap.size, 0, none⟩ = false := (hb.frozen (by simp [hz0])).trans f0
      have g1 : w1.frozen? ⟨w.heap.size + 1, 0, none⟩ = false := (hb.frozen (by simp [hz0])).trans f1
      have hB1 := wnext hB0 hb (Nat.le_refl _)
      have HB1 : Hid _ := hB1
      have HA : Hid (AdrsAt w1 a l) := hA
      have HF : Hid (AdrFar (w.heap.size + 2) a l) := by rw [← hz0]; exact hF
      have HLL : Hid _ := hl
      clear hl hA hF hB0 hB1 c0 c1 f0 f1
      by_cases hfull : 20 < l.length
      · have HM : Hid (listM s.data.toList = ([], 5)) := by unfold Hid listM; rw [size_list, if_neg hbig, HLL.out]; simp only; rw [if_pos hfull]
        have hfull' : (20 : Int) < (l.length : Int) := by omega
        clear hfull
        go_wp2
        refine leaves_cons (f := 6) (args := #[.pointer (some ⟨w.heap.size, 0, none⟩), .pointer (some ⟨w.heap.size + 1, 0, none⟩)]) (by simp) (by simp [go_sem]) ?_
        refine (catch_idle _ _ _).mono ?_
        rintro e u' w2 ⟨rfl, rfl, rfl⟩
        have k0 : (((w1.setCell ⟨w.heap.size, 0, none⟩ (.slice a l.length c)).setCell ⟨w.heap.size, 0, none⟩ (.slice none 0 0)).setCell ⟨w.heap.size + 1, 0, none⟩ (.int .i64 5)).cell? ⟨w.heap.size, 0, none⟩ = some (.slice none 0 0) :=
          (World.cell?_setCell_other _ _ _ _ (by simp)).trans (World.cell?_setCell_same' _ _ _ (by rw [World.cell?_setCell_same' w1 _ _ (by rw [d0]; rfl)]; rfl))
        have k1 : (((w1.setCell ⟨w.heap.size, 0, none⟩ (.slice a l.length c)).setCell ⟨w.heap.size, 0, none⟩ (.slice none 0 0)).setCell ⟨w.heap.size + 1, 0, none⟩ (.int .i64 5)).cell? ⟨w.heap.size + 1, 0, none⟩ = some (.int .i64 5) :=
          World.cell?_setCell_same' _ _ _ (by rw [World.cell?_setCell_other _ _ _ _ (by simp), World.cell?_setCell_other _ _ _ _ (by simp), d1]; rfl)
        show ∃ v, (results Tryd.f5 _).run Tryd.prog _ = .ok v _ ∧ Faced w _ (.returned v) _
        refine ⟨.tuple #[.slice none 0 0, .int .i64 5], by simp [results, Tryd.results5, go_sem, k0, k1], ?_⟩
        rw [HM.out]
        exact ⟨none, 0, rfl, adrs_nil _ _, ((HB1.out.setCell (Nat.le_refl _) _).setCell (Nat.le_refl _) _).setCell (by simp) _⟩
      · have HM : Hid (listM s.data.toList = (l, 0)) := by unfold Hid listM; rw [size_list, if_neg hbig, HLL.out]; simp only; rw [if_neg hfull]
        have hfull' : ¬ (20 : Int) < (l.length : Int) := by omega
        clear hfull
        go_wp2
        refine leaves_cons (f := 6) (args := #[.pointer (some ⟨w.heap.size, 0, none⟩), .pointer (some ⟨w.heap.size + 1, 0, none⟩)]) (by simp) (by simp [go_sem]) ?_
        refine (catch_idle _ _ _).mono ?_
        rintro e u' w2 ⟨rfl, rfl, rfl⟩
        have k0 : (((w1.setCell ⟨w.heap.size, 0, none⟩ (.slice a l.length c)).setCell ⟨w.heap.size, 0, none⟩ (.slice a l.length c)).setCell ⟨w.heap.size + 1, 0, none⟩ (.int .i64 0)).cell? ⟨w.heap.size, 0, none⟩ = some (.slice a l.length c) :=
          (World.cell?_setCell_other _ _ _ _ (by simp)).trans (World.cell?_setCell_same' _ _ _ (by rw [World.cell?_setCell_same' w1 _ _ (by rw [d0]; rfl)]; rfl))
        have k1 : (((w1.setCell ⟨w.heap.size, 0, none⟩ (.slice a l.length c)).setCell ⟨w.heap.size, 0, none⟩ (.slice a l.length c)).setCell ⟨w.heap.size + 1, 0, none⟩ (.int .i64 0)).cell? ⟨w.heap.size + 1, 0, none⟩ = some (.int .i64 0) :=
          World.cell?_setCell_same' _ _ _ (by rw [World.cell?_setCell_other _ _ _ _ (by simp), World.cell?_setCell_other _ _ _ _ (by simp), d1]; rfl)
        show ∃ v, (results Tryd.f5 _).run Tryd.prog _ = .ok v _ ∧ Faced w _ (.returned v) _
        refine ⟨.tuple #[.slice a l.length c, .int .i64 0], by simp [results, Tryd.results5, go_sem, k0, k1], ?_⟩
        rw [HM.out]
        exact ⟨a, c, rfl, ((HA.out.set HF.out (by simp) _).set HF.out (by simp) _).set HF.out (by simp) _, ((HB1.out.setCell (Nat.le_refl _) _).setCell (Nat.le_refl _) _).setCell (by simp) _⟩
end Go.Proofs.YtmcpipgjckgjgabDoor
