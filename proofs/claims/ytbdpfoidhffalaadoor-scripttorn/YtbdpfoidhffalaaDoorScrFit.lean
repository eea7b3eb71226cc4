/-
  What script's isNoTest, comparedFits, testFits, commandFits, checkOne, isElsif do: the walks.
-/
import Derived.Test.YtbdpfoidhffalaaDoorScrWords
namespace Go.Proofs.YtbdpfoidhffalaaDoor
open Go.RowKit Go.Proofs

theorem below_set {B : Nat} {w w' : World} {b o : Nat} (h : Below B w w') (hb : B ≤ b) (v : Value) : Below B w (w'.setCell ⟨b, o, none⟩ v) := h.setCell hb v
def noB (k m p : Int) (n1 n2 : Nat) (o : Bool) (l : Int) (n3 : Nat) : Bool := decide (k = 0) && decide (m = 0) && decide (p = 0) && decide (n1 = 0) && decide (n2 = 0) && !o && decide (l = 0) && decide (n3 = 0)
set_option maxHeartbeats 8000000 in
theorem isNo_any (k m p : Int) (n1 n2 n3 c1 c2 c3 : Nat) (a1 a2 a3 : Option Addr) (o : Bool) (l : Int) (w : World) :
    Calls Tryd.prog 79 #[.agg #[.int .i64 k, .int .i64 m, .int .i64 p, .slice a1 n1 c1, .slice a2 n2 c2, .bool o, .int .i64 l, .slice a3 n3 c3]] w fun e w' => e = .returned (.bool (noB k m p n1 n2 o l n3)) ∧ Below w.heap.size w w' := by
  go_enter Tryd.func79, Tryd.ntmps79
  go_wp2
  all_goals go_ret
  all_goals exact ⟨ret_bool (by simp [noB, *] <;> (rw [Bool.eq_iff_iff]; simp; try omega)), (Below.refl _ _).alloc (Nat.le_refl _) _⟩

def cmpN (m : Int) (n1 n2 : Nat) : Bool := isNumP 2 m && decide (0 < n1) && decide (0 < n2)
set_option maxHeartbeats 8000000 in
theorem cmp_any (k m p : Int) (n1 n2 n3 c1 c2 c3 : Nat) (a1 a2 a3 : Option Addr) (o : Bool) (l : Int) (w : World) (hw : WordsAt w) :
    Calls Tryd.prog 98 #[.agg #[.int .i64 k, .int .i64 m, .int .i64 p, .slice a1 n1 c1, .slice a2 n2 c2, .bool o, .int .i64 l, .slice a3 n3 c3]] w fun e w' => e = .returned (.bool (cmpN m n1 n2)) ∧ Below w.heap.size w w' := by
  have HW : Hid (WordsAt w) := hw
  clear hw
  go_enter Tryd.func98, Tryd.ntmps98
  go_wp2_with fail
  refine (isNum_any 2 (by omega) m _ (HW.out.next ((Below.refl _ _).alloc (Nat.le_refl _) _))).mono ?_
  rintro e u ⟨rfl, rfl⟩
  obtain ⟨q, hq⟩ : ∃ q, q = isNumP 2 m := ⟨_, rfl⟩
  have HQ : Hid (cmpN m n1 n2 = (q && decide (0 < n1) && decide (0 < n2))) := by unfold Hid cmpN; rw [hq]
  rw [← hq]
  clear hq
  go_wp2
  all_goals go_ret
  all_goals exact ⟨ret_bool (by rw [HQ.out]; simp [*]), (Below.refl _ _).alloc (Nat.le_refl _) _⟩

def fitB (k m p : Int) (n1 n2 : Nat) (o : Bool) (l : Int) (n3 : Nat) : Bool :=
  if k = 3 then decide (n3 = 1) && noB 0 m p n1 n2 o l 0
  else if k = 4 ∨ k = 5 then decide (0 < n3) && noB 0 m p n1 n2 o l 0
  else if k = 6 then cmpN m n1 n2 && noB 0 0 p 0 0 o l n3
  else if k = 7 ∨ k = 8 then cmpN m n1 n2 && isNumP 3 p && noB 0 0 0 0 0 o l n3
  else if k = 9 then decide (0 < n1) && noB 0 m p 0 n2 o l n3
  else if k = 10 then decide (0 ≤ l ∧ l ≤ 2147483647) && noB 0 m p n1 n2 false 0 n3
  else noB 0 m p n1 n2 o l n3
theorem fits_fitB (t : Tst) : fitsT t = fitB t.kind t.mat t.part t.names.length t.keys.length t.over t.limit t.tests.length := rfl

set_option maxHeartbeats 8000000 in
theorem testFits_any (k m p : Int) (n1 n2 n3 c1 c2 c3 : Nat) (a1 a2 a3 : Option Addr) (o : Bool) (l : Int) (w : World) (hw : WordsAt w) :
    Calls Tryd.prog 80 #[.agg #[.int .i64 k, .int .i64 m, .int .i64 p, .slice a1 n1 c1, .slice a2 n2 c2, .bool o, .int .i64 l, .slice a3 n3 c3]] w fun e w' => e = .returned (.bool (fitB k m p n1 n2 o l n3)) ∧ Below w.heap.size w w' := by
  have HW : Hid (WordsAt w) := hw
  clear hw
  by_cases h3 : k = 3
  · have HR : Hid (fitB k m p n1 n2 o l n3 = (decide (n3 = 1) && noB 0 m p n1 n2 o l 0)) := by unfold Hid fitB; simp [h3]
    subst h3
    go_enter Tryd.func80, Tryd.ntmps80
    go_wp2_with fail
    all_goals first
      | (refine (isNo_any _ _ _ _ _ _ _ _ _ _ _ _ _ _ _).mono ?_
         rintro e u ⟨rfl, hb⟩
         go_wp2
         go_ret
         exact ⟨ret_bool (by rw [HR.out]; simp [*] <;> (intros; omega)), ((Below.refl _ _).alloc (Nat.le_refl _) _).trans (hb.mono (by simp))⟩)
      | (go_ret
         exact ⟨ret_bool (by rw [HR.out]; simp [*] <;> (intros; omega)), (Below.refl _ _).alloc (Nat.le_refl _) _⟩)
  by_cases h4 : k = 4
  · have HR : Hid (fitB k m p n1 n2 o l n3 = (decide (0 < n3) && noB 0 m p n1 n2 o l 0)) := by unfold Hid fitB; simp [h4]
    subst h4
    go_enter Tryd.func80, Tryd.ntmps80
    go_wp2_with fail
    all_goals first
      | (refine (isNo_any _ _ _ _ _ _ _ _ _ _ _ _ _ _ _).mono ?_
         rintro e u ⟨rfl, hb⟩
         go_wp2
         go_ret
         exact ⟨ret_bool (by rw [HR.out]; simp [*] <;> (intros; omega)), ((Below.refl _ _).alloc (Nat.le_refl _) _).trans (hb.mono (by simp))⟩)
      | (go_ret
         exact ⟨ret_bool (by rw [HR.out]; simp [*] <;> (intros; omega)), (Below.refl _ _).alloc (Nat.le_refl _) _⟩)
  by_cases h5 : k = 5
  · have HR : Hid (fitB k m p n1 n2 o l n3 = (decide (0 < n3) && noB 0 m p n1 n2 o l 0)) := by unfold Hid fitB; simp [h5]
    subst h5
    go_enter Tryd.func80, Tryd.ntmps80
    go_wp2_with fail
    all_goals first
      | (refine (isNo_any _ _ _ _ _ _ _ _ _ _ _ _ _ _ _).mono ?_
         rintro e u ⟨rfl, hb⟩
         go_wp2
         go_ret
         exact ⟨ret_bool (by rw [HR.out]; simp [*] <;> (intros; omega)), ((Below.refl _ _).alloc (Nat.le_refl _) _).trans (hb.mono (by simp))⟩)
      | (go_ret
         exact ⟨ret_bool (by rw [HR.out]; simp [*] <;> (intros; omega)), (Below.refl _ _).alloc (Nat.le_refl _) _⟩)
  by_cases h6 : k = 6
  · have HR : Hid (fitB k m p n1 n2 o l n3 = (cmpN m n1 n2 && noB 0 0 p 0 0 o l n3)) := by unfold Hid fitB; simp [h6]
    subst h6
    go_enter Tryd.func80, Tryd.ntmps80
    go_wp2_with fail
    refine (cmp_any _ _ _ _ _ _ _ _ _ _ _ _ _ _ _ (HW.out.next ((Below.refl _ _).alloc (Nat.le_refl _) _))).mono ?_
    rintro e u ⟨rfl, hb⟩
    have hB : u.heap[w.heap.size]? = some (.cells #[.int .i64 6, .int .i64 m, .int .i64 p, .slice a1 n1 c1, .slice a2 n2 c2, .bool o, .int .i64 l, .slice a3 n3 c3] 44) := (hb.block _ (by simp)).trans (heap_alloc_new w _)
    have g0 : u.cell? ⟨w.heap.size, 0, none⟩ = some (.int .i64 6) := by simp [World.cell?, hB]
    have g1 : u.cell? ⟨w.heap.size, 1, none⟩ = some (.int .i64 m) := by simp [World.cell?, hB]
    have g2 : u.cell? ⟨w.heap.size, 2, none⟩ = some (.int .i64 p) := by simp [World.cell?, hB]
    have g3 : u.cell? ⟨w.heap.size, 3, none⟩ = some (.slice a1 n1 c1) := by simp [World.cell?, hB]
    have g4 : u.cell? ⟨w.heap.size, 4, none⟩ = some (.slice a2 n2 c2) := by simp [World.cell?, hB]
    have g5 : u.cell? ⟨w.heap.size, 5, none⟩ = some (.bool o) := by simp [World.cell?, hB]
    have g6 : u.cell? ⟨w.heap.size, 6, none⟩ = some (.int .i64 l) := by simp [World.cell?, hB]
    have g7 : u.cell? ⟨w.heap.size, 7, none⟩ = some (.slice a3 n3 c3) := by simp [World.cell?, hB]
    have f0 : u.frozen? ⟨w.heap.size, 0, none⟩ = false := by simp [World.frozen?, hB]
    have f1 : u.frozen? ⟨w.heap.size, 1, none⟩ = false := by simp [World.frozen?, hB]
    have f2 : u.frozen? ⟨w.heap.size, 2, none⟩ = false := by simp [World.frozen?, hB]
    have f3 : u.frozen? ⟨w.heap.size, 3, none⟩ = false := by simp [World.frozen?, hB]
    have f4 : u.frozen? ⟨w.heap.size, 4, none⟩ = false := by simp [World.frozen?, hB]
    have f5 : u.frozen? ⟨w.heap.size, 5, none⟩ = false := by simp [World.frozen?, hB]
    have f6 : u.frozen? ⟨w.heap.size, 6, none⟩ = false := by simp [World.frozen?, hB]
    have f7 : u.frozen? ⟨w.heap.size, 7, none⟩ = false := by simp [World.frozen?, hB]
    clear hB
    have HB : Hid (Below w.heap.size w u) := ((Below.refl _ _).alloc (Nat.le_refl _) _).trans (hb.mono (by simp))
    clear hb
    obtain ⟨q, hq⟩ : ∃ q, q = cmpN m n1 n2 := ⟨_, rfl⟩
    rw [← hq]
    have HR2 : Hid (fitB 6 m p n1 n2 o l n3 = (q && noB 0 0 p 0 0 o l n3)) := by unfold Hid; rw [HR.out, hq]
    clear hq HR
    go_wp2_with fail
    all_goals first
      | (refine (isNo_any _ _ _ _ _ _ _ _ _ _ _ _ _ _ _).mono ?_
         rintro e v ⟨rfl, hc⟩
         go_wp2
         go_ret
         refine ⟨ret_bool (by rw [HR2.out] <;> simp [*]), Below.trans ?_ (hc.mono ?_)⟩
         · repeat (refine below_set ?_ (Nat.le_refl _) _)
           exact HB.out
         · have := HB.out.size
           simpa [World.setCell] using this)
      | (go_ret
         refine ⟨ret_bool (by rw [HR2.out] <;> simp [*]), ?_⟩
         repeat (refine below_set ?_ (Nat.le_refl _) _)
         exact HB.out)
  by_cases h7 : k = 7
  · have HR : Hid (fitB k m p n1 n2 o l n3 = (cmpN m n1 n2 && isNumP 3 p && noB 0 0 0 0 0 o l n3)) := by unfold Hid fitB; simp [h7]
    subst h7
    go_enter Tryd.func80, Tryd.ntmps80
    go_wp2_with fail
    refine (cmp_any _ _ _ _ _ _ _ _ _ _ _ _ _ _ _ (HW.out.next ((Below.refl _ _).alloc (Nat.le_refl _) _))).mono ?_
    rintro e u ⟨rfl, hb⟩
    have hB : u.heap[w.heap.size]? = some (.cells #[.int .i64 7, .int .i64 m, .int .i64 p, .slice a1 n1 c1, .slice a2 n2 c2, .bool o, .int .i64 l, .slice a3 n3 c3] 44) := (hb.block _ (by simp)).trans (heap_alloc_new w _)
    have g0 : u.cell? ⟨w.heap.size, 0, none⟩ = some (.int .i64 7) := by simp [World.cell?, hB]
    have g1 : u.cell? ⟨w.heap.size, 1, none⟩ = some (.int .i64 m) := by simp [World.cell?, hB]
    have g2 : u.cell? ⟨w.heap.size, 2, none⟩ = some (.int .i64 p) := by simp [World.cell?, hB]
    have g3 : u.cell? ⟨w.heap.size, 3, none⟩ = some (.slice a1 n1 c1) := by simp [World.cell?, hB]
    have g4 : u.cell? ⟨w.heap.size, 4, none⟩ = some (.slice a2 n2 c2) := by simp [World.cell?, hB]
    have g5 : u.cell? ⟨w.heap.size, 5, none⟩ = some (.bool o) := by simp [World.cell?, hB]
    have g6 : u.cell? ⟨w.heap.size, 6, none⟩ = some (.int .i64 l) := by simp [World.cell?, hB]
    have g7 : u.cell? ⟨w.heap.size, 7, none⟩ = some (.slice a3 n3 c3) := by simp [World.cell?, hB]
    have f0 : u.frozen? ⟨w.heap.size, 0, none⟩ = false := by simp [World.frozen?, hB]
    have f1 : u.frozen? ⟨w.heap.size, 1, none⟩ = false := by simp [World.frozen?, hB]
    have f2 : u.frozen? ⟨w.heap.size, 2, none⟩ = false := by simp [World.frozen?, hB]
    have f3 : u.frozen? ⟨w.heap.size, 3, none⟩ = false := by simp [World.frozen?, hB]
    have f4 : u.frozen? ⟨w.heap.size, 4, none⟩ = false := by simp [World.frozen?, hB]
    have f5 : u.frozen? ⟨w.heap.size, 5, none⟩ = false := by simp [World.frozen?, hB]
    have f6 : u.frozen? ⟨w.heap.size, 6, none⟩ = false := by simp [World.frozen?, hB]
    have f7 : u.frozen? ⟨w.heap.size, 7, none⟩ = false := by simp [World.frozen?, hB]
    clear hB
    have HB : Hid (Below w.heap.size w u) := ((Below.refl _ _).alloc (Nat.le_refl _) _).trans (hb.mono (by simp))
    have HWu : Hid (WordsAt u) := (HW.out.next ((Below.refl _ _).alloc (Nat.le_refl _) _)).next hb
    clear hb
    cases hq : cmpN m n1 n2 with
    | false =>
      have HR2 : Hid (fitB 7 m p n1 n2 o l n3 = false) := by unfold Hid; rw [HR.out, hq]; rfl
      clear hq HR
      go_wp2_with fail
      all_goals first
        | (refine (isNo_any _ _ _ _ _ _ _ _ _ _ _ _ _ _ _).mono ?_
           rintro e v ⟨rfl, hc⟩
           go_wp2
           go_ret
           refine ⟨ret_bool (by rw [HR2.out] <;> simp [*]), Below.trans ?_ (hc.mono ?_)⟩
           · repeat (refine below_set ?_ (Nat.le_refl _) _)
             exact HB.out
           · have := HB.out.size
             simpa using this)
        | (go_ret
           refine ⟨ret_bool (by rw [HR2.out] <;> simp [*]), ?_⟩
           repeat (refine below_set ?_ (Nat.le_refl _) _)
           exact HB.out)
    | true =>
      obtain ⟨r, hr⟩ : ∃ r, r = isNumP 3 p := ⟨_, rfl⟩
      have HR2 : Hid (fitB 7 m p n1 n2 o l n3 = (r && noB 0 0 0 0 0 o l n3)) := by unfold Hid; rw [HR.out, hq, hr]; rfl
      clear hq HR
      go_wp2_with fail
      refine (isNum_any 3 (by omega) p _ HWu.out).mono ?_
      rintro e u' ⟨rfl, rfl⟩
      rw [← hr]
      clear hr
      go_wp2_with fail
      all_goals first
        | (refine (isNo_any _ _ _ _ _ _ _ _ _ _ _ _ _ _ _).mono ?_
           rintro e v ⟨rfl, hc⟩
           go_wp2
           go_ret
           refine ⟨ret_bool (by rw [HR2.out] <;> simp [*]), Below.trans ?_ (hc.mono ?_)⟩
           · repeat (refine below_set ?_ (Nat.le_refl _) _)
             exact HB.out
           · have := HB.out.size
             simpa using this)
        | (go_ret
           refine ⟨ret_bool (by rw [HR2.out] <;> simp [*]), ?_⟩
           repeat (refine below_set ?_ (Nat.le_refl _) _)
           exact HB.out)
  by_cases h8 : k = 8
  · have HR : Hid (fitB k m p n1 n2 o l n3 = (cmpN m n1 n2 && isNumP 3 p && noB 0 0 0 0 0 o l n3)) := by unfold Hid fitB; simp [h8]
    subst h8
    go_enter Tryd.func80, Tryd.ntmps80
    go_wp2_with fail
    refine (cmp_any _ _ _ _ _ _ _ _ _ _ _ _ _ _ _ (HW.out.next ((Below.refl _ _).alloc (Nat.le_refl _) _))).mono ?_
    rintro e u ⟨rfl, hb⟩
    have hB : u.heap[w.heap.size]? = some (.cells #[.int .i64 8, .int .i64 m, .int .i64 p, .slice a1 n1 c1, .slice a2 n2 c2, .bool o, .int .i64 l, .slice a3 n3 c3] 44) := (hb.block _ (by simp)).trans (heap_alloc_new w _)
    have g0 : u.cell? ⟨w.heap.size, 0, none⟩ = some (.int .i64 8) := by simp [World.cell?, hB]
    have g1 : u.cell? ⟨w.heap.size, 1, none⟩ = some (.int .i64 m) := by simp [World.cell?, hB]
    have g2 : u.cell? ⟨w.heap.size, 2, none⟩ = some (.int .i64 p) := by simp [World.cell?, hB]
    have g3 : u.cell? ⟨w.heap.size, 3, none⟩ = some (.slice a1 n1 c1) := by simp [World.cell?, hB]
    have g4 : u.cell? ⟨w.heap.size, 4, none⟩ = some (.slice a2 n2 c2) := by simp [World.cell?, hB]
    have g5 : u.cell? ⟨w.heap.size, 5, none⟩ = some (.bool o) := by simp [World.cell?, hB]
    have g6 : u.cell? ⟨w.heap.size, 6, none⟩ = some (.int .i64 l) := by simp [World.cell?, hB]
    have g7 : u.cell? ⟨w.heap.size, 7, none⟩ = some (.slice a3 n3 c3) := by simp [World.cell?, hB]
    have f0 : u.frozen? ⟨w.heap.size, 0, none⟩ = false := by simp [World.frozen?, hB]
    have f1 : u.frozen? ⟨w.heap.size, 1, none⟩ = false := by simp [World.frozen?, hB]
    have f2 : u.frozen? ⟨w.heap.size, 2, none⟩ = false := by simp [World.frozen?, hB]
    have f3 : u.frozen? ⟨w.heap.size, 3, none⟩ = false := by simp [World.frozen?, hB]
    have f4 : u.frozen? ⟨w.heap.size, 4, none⟩ = false := by simp [World.frozen?, hB]
    have f5 : u.frozen? ⟨w.heap.size, 5, none⟩ = false := by simp [World.frozen?, hB]
    have f6 : u.frozen? ⟨w.heap.size, 6, none⟩ = false := by simp [World.frozen?, hB]
    have f7 : u.frozen? ⟨w.heap.size, 7, none⟩ = false := by simp [World.frozen?, hB]
    clear hB
    have HB : Hid (Below w.heap.size w u) := ((Below.refl _ _).alloc (Nat.le_refl _) _).trans (hb.mono (by simp))
    have HWu : Hid (WordsAt u) := (HW.out.next ((Below.refl _ _).alloc (Nat.le_refl _) _)).next hb
    clear hb
    cases hq : cmpN m n1 n2 with
    | false =>
      have HR2 : Hid (fitB 8 m p n1 n2 o l n3 = false) := by unfold Hid; rw [HR.out, hq]; rfl
      clear hq HR
      go_wp2_with fail
      all_goals first
        | (refine (isNo_any _ _ _ _ _ _ _ _ _ _ _ _ _ _ _).mono ?_
           rintro e v ⟨rfl, hc⟩
           go_wp2
           go_ret
           refine ⟨ret_bool (by rw [HR2.out] <;> simp [*]), Below.trans ?_ (hc.mono ?_)⟩
           · repeat (refine below_set ?_ (Nat.le_refl _) _)
             exact HB.out
           · have := HB.out.size
             simpa using this)
        | (go_ret
           refine ⟨ret_bool (by rw [HR2.out] <;> simp [*]), ?_⟩
           repeat (refine below_set ?_ (Nat.le_refl _) _)
           exact HB.out)
    | true =>
      obtain ⟨r, hr⟩ : ∃ r, r = isNumP 3 p := ⟨_, rfl⟩
      have HR2 : Hid (fitB 8 m p n1 n2 o l n3 = (r && noB 0 0 0 0 0 o l n3)) := by unfold Hid; rw [HR.out, hq, hr]; rfl
      clear hq HR
      go_wp2_with fail
      refine (isNum_any 3 (by omega) p _ HWu.out).mono ?_
      rintro e u' ⟨rfl, rfl⟩
      rw [← hr]
      clear hr
      go_wp2_with fail
      all_goals first
        | (refine (isNo_any _ _ _ _ _ _ _ _ _ _ _ _ _ _ _).mono ?_
           rintro e v ⟨rfl, hc⟩
           go_wp2
           go_ret
           refine ⟨ret_bool (by rw [HR2.out] <;> simp [*]), Below.trans ?_ (hc.mono ?_)⟩
           · repeat (refine below_set ?_ (Nat.le_refl _) _)
             exact HB.out
           · have := HB.out.size
             simpa using this)
        | (go_ret
           refine ⟨ret_bool (by rw [HR2.out] <;> simp [*]), ?_⟩
           repeat (refine below_set ?_ (Nat.le_refl _) _)
           exact HB.out)
  by_cases h9 : k = 9
  · have HR : Hid (fitB k m p n1 n2 o l n3 = (decide (0 < n1) && noB 0 m p 0 n2 o l n3)) := by unfold Hid fitB; simp [h9]
    subst h9
    go_enter Tryd.func80, Tryd.ntmps80
    go_wp2_with fail
    all_goals first
      | (refine (isNo_any _ _ _ _ _ _ _ _ _ _ _ _ _ _ _).mono ?_
         rintro e u ⟨rfl, hb⟩
         go_wp2
         go_ret
         exact ⟨ret_bool (by rw [HR.out]; simp [*] <;> (intros; omega)), ((Below.refl _ _).alloc (Nat.le_refl _) _).trans (hb.mono (by simp))⟩)
      | (go_ret
         exact ⟨ret_bool (by rw [HR.out]; simp [*] <;> (intros; omega)), (Below.refl _ _).alloc (Nat.le_refl _) _⟩)
  by_cases h10 : k = 10
  · have HR : Hid (fitB k m p n1 n2 o l n3 = (decide (0 ≤ l ∧ l ≤ 2147483647) && noB 0 m p n1 n2 false 0 n3)) := by unfold Hid fitB; simp [h10]
    subst h10
    go_enter Tryd.func80, Tryd.ntmps80
    go_wp2_with fail
    all_goals first
      | (refine (isNo_any _ _ _ _ _ _ _ _ _ _ _ _ _ _ _).mono ?_
         rintro e u ⟨rfl, hb⟩
         go_wp2
         go_ret
         exact ⟨ret_bool (by rw [HR.out]; simp [*] <;> (intros; omega)), ((Below.refl _ _).alloc (Nat.le_refl _) _).trans (hb.mono (by simp))⟩)
      | (go_ret
         exact ⟨ret_bool (by rw [HR.out]; simp [*] <;> (intros; omega)), (Below.refl _ _).alloc (Nat.le_refl _) _⟩)
  have HR : Hid (fitB k m p n1 n2 o l n3 = noB 0 m p n1 n2 o l n3) := by unfold Hid fitB; simp [h3, h4, h5, h6, h7, h8, h9, h10]
  go_enter Tryd.func80, Tryd.ntmps80
  go_wp2_with fail
  refine (isNo_any _ _ _ _ _ _ _ _ _ _ _ _ _ _ _).mono ?_
  rintro e u ⟨rfl, hb⟩
  go_wp2
  go_ret
  exact ⟨ret_bool (by rw [HR.out]), ((Below.refl _ _).alloc (Nat.le_refl _) _).trans (hb.mono (by simp))⟩

def oneN (k : Bool) (d : Int) (f : Bool) : Int := if k = false then 2 else if 6 < d then 1 else if f = false then 3 else 0
set_option maxHeartbeats 2000000 in
theorem checkOne_any (k f : Bool) (d : Int) (w : World) :
    Calls Tryd.prog 58 #[.bool k, .int .i64 d, .bool f] w fun e w' => e = .returned (.int .i64 (oneN k d f)) ∧ w' = w := by
  cases k <;> cases f <;> by_cases h : 6 < d <;> go_enter Tryd.func58, Tryd.ntmps58 <;> go_wp2 <;> go_ret <;> exact ⟨ret_int (by simp [oneN, h]), rfl⟩
end Go.Proofs.YtbdpfoidhffalaaDoor
