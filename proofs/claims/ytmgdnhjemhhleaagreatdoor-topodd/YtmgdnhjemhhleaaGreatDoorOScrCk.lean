/-
  The table of words in memory, and what script.isNumberOf, script.numberOf and script.isNoTest do: the walks.
-/
import Derived.Test.YtmgdnhjemhhleaaGreatDoorOQTokMark6
import Derived.Deep.RegionHeld3
import Derived.Deep.AppendLies
set_option maxHeartbeats 8000000
set_option maxRecDepth 100000
namespace Go.Proofs.YtmgdnhjemhhleaaGreatDoor
open Go.RowKit Go.Proofs
def WordsAt (w : World) : Prop := ∀ k n : Nat, k < 4 → n < 11 → w.cell? ⟨3, k * 11 + n, none⟩ = some (.string (S (jJ k n)))
theorem WordsAt.keeps {Q : Nat → Prop} {w w' : World} (h : WordsAt w) (hk : Keeps Q w w') (hq : Q 3) : WordsAt w' := fun k n hk' hn =>
 (World.cell?_of_block (w := w) (hk.block _ (World.block_lt_of_cell? w _ (h k n hk' hn)) hq)).trans (h k n hk' hn)
theorem WordsAt.next {w w' : World} (h : WordsAt w) (hb : Below w.heap.size w w') : WordsAt w' := h.keeps (Q := anyB) (Keeps.of_below hb) trivial
theorem WordsAt.but {w w' : World} {r : Nat} (h : WordsAt w) (hb : But r w w') (hr : 3 < r) : WordsAt w' := h.keeps (Q := fun b => b ≠ r) (Keeps.of_but hb fun _ h => h) (by show 3 ≠ r; omega)
theorem WordsAt.pos {w : World} (h : WordsAt w) : 3 < w.heap.size := World.block_lt_of_cell? w _ (h 0 0 (by omega) (by omega))
theorem WordsAt.drew {w : World} (h : WordsAt w) : WordsAt w.drew := h
theorem jlO (l : List UInt8) : (S l).toList.isEmpty = l.isEmpty := by rw [Lib.toList_data, jj]
theorem S_ne {a b : List UInt8} (h : a ≠ b) : ((S a).toList == (S b).toList) = false := by rw [Lib.toList_data, Lib.toList_data, jj, jj]; simpa using h
theorem jmS {a b : List UInt8} (h : a = b) : ((S a).toList == (S b).toList) = true := by rw [h]; simp
theorem vH (k : Nat) (hk : k < 4) (n : Int) (w : World) (hw : WordsAt w) :
 Calls Tryz.prog 197 #[.int .i64 k, .int .i64 n] w fun e w' => e = .returned (.bool (jL k n)) ∧ w' = w := by
 by_cases h0 : 0 ≤ n
 · by_cases h1 : n < 11
   · obtain ⟨m, rfl⟩ := Int.eq_ofNat_of_zero_le h0; have hm : m < 11 := by omega
     have hc := hw k m hk hm; have k4 : (k : Int) < 4 := by omega
     have k0 : (0 : Int) ≤ (k : Int) := by omega
     have HR : Hid (jL k (m : Int) = !(S (jJ k m)).toList.isEmpty) := by unfold Hid jL; rw [jlO]; simp; omega
     clear hw; go_enter Tryz.func197, Tryz.ntmps197; go_wp2; go_ret; exact ⟨jb HR.out.symm, rfl⟩
   · have HR : Hid (jL k n = false) := by unfold Hid jL; simp [h1]
     go_enter Tryz.func197, Tryz.ntmps197; go_wp2; go_ret; exact ⟨jb HR.out.symm, rfl⟩
 · have HR : Hid (jL k n = false) := by unfold Hid jL; simp [h0]
   go_enter Tryz.func197, Tryz.ntmps197; go_wp2; go_ret; exact ⟨jb HR.out.symm, rfl⟩
theorem jhj (l : List (List UInt8)) (i n : Nat) (s : List UInt8) (h : i < l.length) : jfr (l.drop i) n s = if l[i] = s then n else jfr (l.drop (i + 1)) (n + 1) s := by
 rw [List.drop_eq_getElem_cons h]; rfl
theorem jjh (k : Nat) (hk : k < 4) : (wTabs.getD k []).length = 11 := by
 match k, hk with
 | 0, _ | 1, _ | 2, _ | 3, _ => rfl
theorem jlG (k i : Nat) (h : i < (wTabs.getD k []).length) : (wTabs.getD k [])[i] = jJ k i := by
 unfold jJ; rw [List.getD_eq_getElem?_getD (l := wTabs.getD k []), List.getElem?_eq_getElem h]; rfl
theorem zn {B : Nat} {w w' : World} {b o : Nat} (h : Below B w w') (hb : B ≤ b) (v : Value) : Below B w (w'.setCell ⟨b, o, none⟩ v) := h.setCell hb v
def noB (k m p : Int) (n1 n2 : Nat) (o : Bool) (l : Int) (n3 : Nat) : Bool := decide (k = 0) && decide (m = 0) && decide (p = 0) && decide (n1 = 0) && decide (n2 = 0) && !o && decide (l = 0) && decide (n3 = 0)
theorem zu (k m p : Int) (n1 n2 n3 c1 c2 c3 : Nat) (a1 a2 a3 : Option Addr) (o : Bool) (l : Int) (w : World) :
 Calls Tryz.prog 230 #[.agg #[.int .i64 k, .int .i64 m, .int .i64 p, .slice a1 n1 c1, .slice a2 n2 c2, .bool o, .int .i64 l, .slice a3 n3 c3]] w fun e w' => e = .returned (.bool (noB k m p n1 n2 o l n3)) ∧ Below w.heap.size w w' := by
 go_enter Tryz.func230, Tryz.ntmps230; go_wp2
 all_goals go_ret
 all_goals exact ⟨jb (by simp [noB, *] <;> (rw [Bool.eq_iff_iff]; simp; try omega)), nb0 _ _⟩
def cmpN (m : Int) (n1 n2 : Nat) : Bool := jL 2 m && decide (0 < n1) && decide (0 < n2)
theorem jfb (k m p : Int) (n1 n2 n3 c1 c2 c3 : Nat) (a1 a2 a3 : Option Addr) (o : Bool) (l : Int) (w : World) (hw : WordsAt w) :
 Calls Tryz.prog 255 #[.agg #[.int .i64 k, .int .i64 m, .int .i64 p, .slice a1 n1 c1, .slice a2 n2 c2, .bool o, .int .i64 l, .slice a3 n3 c3]] w fun e w' => e = .returned (.bool (cmpN m n1 n2)) ∧ Below w.heap.size w w' := by
 have HW : Hid (WordsAt w) := hw; clear hw; go_enter Tryz.func255, Tryz.ntmps255; go_wp2_with fail; refine (vH 2 (by omega) m _ (HW.out.next (nb0 _ _))).mono ?_; rintro e u ⟨rfl, rfl⟩; obtain ⟨q, hq⟩ : ∃ q, q = jL 2 m := ⟨_, rfl⟩; have HQ : Hid (cmpN m n1 n2 = (q && decide (0 < n1) && decide (0 < n2))) := by unfold Hid cmpN; rw [hq]
 rw [← hq]; clear hq; go_wp2
 all_goals go_ret
 all_goals exact ⟨jb (by rw [HQ.out]; simp [*]), nb0 _ _⟩
def fitB (k m p : Int) (n1 n2 : Nat) (o : Bool) (l : Int) (n3 : Nat) : Bool :=
 if k = 3 then decide (n3 = 1) && noB 0 m p n1 n2 o l 0
 else if k = 4 ∨ k = 5 then decide (0 < n3) && noB 0 m p n1 n2 o l 0
 else if k = 6 then cmpN m n1 n2 && noB 0 0 p 0 0 o l n3
 else if k = 7 ∨ k = 8 then cmpN m n1 n2 && jL 3 p && noB 0 0 0 0 0 o l n3
 else if k = 9 then decide (0 < n1) && noB 0 m p 0 n2 o l n3
 else if k = 10 then decide (0 ≤ l ∧ l ≤ 2147483647) && noB 0 m p n1 n2 false 0 n3
 else noB 0 m p n1 n2 o l n3
theorem jip (t : Tst) : jcq t = fitB t.kind t.mat t.part t.names.length t.keys.length t.over t.limit t.tests.length := rfl
theorem jeM (k m p : Int) (n1 n2 n3 c1 c2 c3 : Nat) (a1 a2 a3 : Option Addr) (o : Bool) (l : Int) (w : World) (hw : WordsAt w) :
 Calls Tryz.prog 231 #[.agg #[.int .i64 k, .int .i64 m, .int .i64 p, .slice a1 n1 c1, .slice a2 n2 c2, .bool o, .int .i64 l, .slice a3 n3 c3]] w fun e w' => e = .returned (.bool (fitB k m p n1 n2 o l n3)) ∧ Below w.heap.size w w' := by
 have HW : Hid (WordsAt w) := hw; clear hw
 by_cases h3 : k = 3
 · have HR : Hid (fitB k m p n1 n2 o l n3 = (decide (n3 = 1) && noB 0 m p n1 n2 o l 0)) := by unfold Hid fitB; simp [h3]
   subst h3; go_enter Tryz.func231, Tryz.ntmps231; go_wp2_with fail
   all_goals first
    | (refine (zu _ _ _ _ _ _ _ _ _ _ _ _ _ _ _).mono ?_
       rintro e u ⟨rfl, hb⟩; go_wp2; go_ret; exact ⟨jb (by rw [HR.out]; simp [*] <;> (intros; omega)), (nb0 _ _).trans (hb.mono (by simp))⟩)
    | (go_ret
       exact ⟨jb (by rw [HR.out]; simp [*] <;> (intros; omega)), nb0 _ _⟩)
 by_cases h4 : k = 4
 · have HR : Hid (fitB k m p n1 n2 o l n3 = (decide (0 < n3) && noB 0 m p n1 n2 o l 0)) := by unfold Hid fitB; simp [h4]
   subst h4; go_enter Tryz.func231, Tryz.ntmps231; go_wp2_with fail
   all_goals first
    | (refine (zu _ _ _ _ _ _ _ _ _ _ _ _ _ _ _).mono ?_
       rintro e u ⟨rfl, hb⟩; go_wp2; go_ret; exact ⟨jb (by rw [HR.out]; simp [*] <;> (intros; omega)), (nb0 _ _).trans (hb.mono (by simp))⟩)
    | (go_ret
       exact ⟨jb (by rw [HR.out]; simp [*] <;> (intros; omega)), nb0 _ _⟩)
 by_cases h5 : k = 5
 · have HR : Hid (fitB k m p n1 n2 o l n3 = (decide (0 < n3) && noB 0 m p n1 n2 o l 0)) := by unfold Hid fitB; simp [h5]
   subst h5; go_enter Tryz.func231, Tryz.ntmps231; go_wp2_with fail
   all_goals first
    | (refine (zu _ _ _ _ _ _ _ _ _ _ _ _ _ _ _).mono ?_
       rintro e u ⟨rfl, hb⟩; go_wp2; go_ret; exact ⟨jb (by rw [HR.out]; simp [*] <;> (intros; omega)), (nb0 _ _).trans (hb.mono (by simp))⟩)
    | (go_ret
       exact ⟨jb (by rw [HR.out]; simp [*] <;> (intros; omega)), nb0 _ _⟩)
 by_cases h6 : k = 6
 · have HR : Hid (fitB k m p n1 n2 o l n3 = (cmpN m n1 n2 && noB 0 0 p 0 0 o l n3)) := by unfold Hid fitB; simp [h6]
   subst h6; go_enter Tryz.func231, Tryz.ntmps231; go_wp2_with fail; refine (jfb _ _ _ _ _ _ _ _ _ _ _ _ _ _ _ (HW.out.next (nb0 _ _))).mono ?_; rintro e u ⟨rfl, hb⟩; have hB : u.heap[w.heap.size]? = some (.cells #[.int .i64 6, .int .i64 m, .int .i64 p, .slice a1 n1 c1, .slice a2 n2 c2, .bool o, .int .i64 l, .slice a3 n3 c3] 205) := (hb.block _ (by simp)).trans (heap_alloc_new w _); obtain ⟨g0, g1, g2, g3, g4, g5, g6, g7⟩ := bx8 hB; obtain ⟨f0, f1, f2, f3, f4, f5, f6, f7⟩ := bz8 hB; clear hB; have HB : Hid (Below w.heap.size w u) := (nb0 _ _).trans (hb.mono (by simp)); clear hb; obtain ⟨q, hq⟩ : ∃ q, q = cmpN m n1 n2 := ⟨_, rfl⟩; rw [← hq]; have HR2 : Hid (fitB 6 m p n1 n2 o l n3 = (q && noB 0 0 p 0 0 o l n3)) := by unfold Hid; rw [HR.out, hq]
   clear hq HR; go_wp2_with fail
   all_goals first
    | (refine (zu _ _ _ _ _ _ _ _ _ _ _ _ _ _ _).mono ?_
       rintro e v ⟨rfl, hc⟩; go_wp2; go_ret; refine ⟨jb (by rw [HR2.out] <;> simp [*]), Below.trans ?_ (hc.mono ?_)⟩
       · repeat (refine zn ?_ (Nat.le_refl _) _)
         exact HB.out
       · have := HB.out.size
         simpa [World.setCell] using this)
    | (go_ret
       refine ⟨jb (by rw [HR2.out] <;> simp [*]), ?_⟩
       repeat (refine zn ?_ (Nat.le_refl _) _)
       exact HB.out)
 by_cases h7 : k = 7
 · have HR : Hid (fitB k m p n1 n2 o l n3 = (cmpN m n1 n2 && jL 3 p && noB 0 0 0 0 0 o l n3)) := by unfold Hid fitB; simp [h7]
   subst h7; go_enter Tryz.func231, Tryz.ntmps231; go_wp2_with fail; refine (jfb _ _ _ _ _ _ _ _ _ _ _ _ _ _ _ (HW.out.next (nb0 _ _))).mono ?_; rintro e u ⟨rfl, hb⟩; have hB : u.heap[w.heap.size]? = some (.cells #[.int .i64 7, .int .i64 m, .int .i64 p, .slice a1 n1 c1, .slice a2 n2 c2, .bool o, .int .i64 l, .slice a3 n3 c3] 205) := (hb.block _ (by simp)).trans (heap_alloc_new w _); obtain ⟨g0, g1, g2, g3, g4, g5, g6, g7⟩ := bx8 hB; obtain ⟨f0, f1, f2, f3, f4, f5, f6, f7⟩ := bz8 hB; clear hB; have HB : Hid (Below w.heap.size w u) := (nb0 _ _).trans (hb.mono (by simp)); have HWu : Hid (WordsAt u) := (HW.out.next (nb0 _ _)).next hb; clear hb; cases hq : cmpN m n1 n2 with
   | false =>
     have HR2 : Hid (fitB 7 m p n1 n2 o l n3 = false) := by unfold Hid; rw [HR.out, hq]; rfl
     clear hq HR; go_wp2_with fail
     all_goals first
        | (refine (zu _ _ _ _ _ _ _ _ _ _ _ _ _ _ _).mono ?_
           rintro e v ⟨rfl, hc⟩; go_wp2; go_ret; refine ⟨jb (by rw [HR2.out] <;> simp [*]), Below.trans ?_ (hc.mono ?_)⟩
           · repeat (refine zn ?_ (Nat.le_refl _) _)
             exact HB.out
           · have := HB.out.size
             simpa using this)
        | (go_ret
           refine ⟨jb (by rw [HR2.out] <;> simp [*]), ?_⟩
           repeat (refine zn ?_ (Nat.le_refl _) _)
           exact HB.out)
   | true =>
     obtain ⟨r, hr⟩ : ∃ r, r = jL 3 p := ⟨_, rfl⟩; have HR2 : Hid (fitB 7 m p n1 n2 o l n3 = (r && noB 0 0 0 0 0 o l n3)) := by unfold Hid; rw [HR.out, hq, hr]; rfl
     clear hq HR; go_wp2_with fail; refine (vH 3 (by omega) p _ HWu.out).mono ?_; rintro e u' ⟨rfl, rfl⟩; rw [← hr]; clear hr; go_wp2_with fail
     all_goals first
        | (refine (zu _ _ _ _ _ _ _ _ _ _ _ _ _ _ _).mono ?_
           rintro e v ⟨rfl, hc⟩; go_wp2; go_ret; refine ⟨jb (by rw [HR2.out] <;> simp [*]), Below.trans ?_ (hc.mono ?_)⟩
           · repeat (refine zn ?_ (Nat.le_refl _) _)
             exact HB.out
           · have := HB.out.size
             simpa using this)
        | (go_ret
           refine ⟨jb (by rw [HR2.out] <;> simp [*]), ?_⟩
           repeat (refine zn ?_ (Nat.le_refl _) _)
           exact HB.out)
 by_cases h8 : k = 8
 · have HR : Hid (fitB k m p n1 n2 o l n3 = (cmpN m n1 n2 && jL 3 p && noB 0 0 0 0 0 o l n3)) := by unfold Hid fitB; simp [h8]
   subst h8; go_enter Tryz.func231, Tryz.ntmps231; go_wp2_with fail; refine (jfb _ _ _ _ _ _ _ _ _ _ _ _ _ _ _ (HW.out.next (nb0 _ _))).mono ?_; rintro e u ⟨rfl, hb⟩; have hB : u.heap[w.heap.size]? = some (.cells #[.int .i64 8, .int .i64 m, .int .i64 p, .slice a1 n1 c1, .slice a2 n2 c2, .bool o, .int .i64 l, .slice a3 n3 c3] 205) := (hb.block _ (by simp)).trans (heap_alloc_new w _); obtain ⟨g0, g1, g2, g3, g4, g5, g6, g7⟩ := bx8 hB; obtain ⟨f0, f1, f2, f3, f4, f5, f6, f7⟩ := bz8 hB; clear hB; have HB : Hid (Below w.heap.size w u) := (nb0 _ _).trans (hb.mono (by simp)); have HWu : Hid (WordsAt u) := (HW.out.next (nb0 _ _)).next hb; clear hb; cases hq : cmpN m n1 n2 with
   | false =>
     have HR2 : Hid (fitB 8 m p n1 n2 o l n3 = false) := by unfold Hid; rw [HR.out, hq]; rfl
     clear hq HR; go_wp2_with fail
     all_goals first
        | (refine (zu _ _ _ _ _ _ _ _ _ _ _ _ _ _ _).mono ?_
           rintro e v ⟨rfl, hc⟩; go_wp2; go_ret; refine ⟨jb (by rw [HR2.out] <;> simp [*]), Below.trans ?_ (hc.mono ?_)⟩
           · repeat (refine zn ?_ (Nat.le_refl _) _)
             exact HB.out
           · have := HB.out.size
             simpa using this)
        | (go_ret
           refine ⟨jb (by rw [HR2.out] <;> simp [*]), ?_⟩
           repeat (refine zn ?_ (Nat.le_refl _) _)
           exact HB.out)
   | true =>
     obtain ⟨r, hr⟩ : ∃ r, r = jL 3 p := ⟨_, rfl⟩; have HR2 : Hid (fitB 8 m p n1 n2 o l n3 = (r && noB 0 0 0 0 0 o l n3)) := by unfold Hid; rw [HR.out, hq, hr]; rfl
     clear hq HR; go_wp2_with fail; refine (vH 3 (by omega) p _ HWu.out).mono ?_; rintro e u' ⟨rfl, rfl⟩; rw [← hr]; clear hr; go_wp2_with fail
     all_goals first
        | (refine (zu _ _ _ _ _ _ _ _ _ _ _ _ _ _ _).mono ?_
           rintro e v ⟨rfl, hc⟩; go_wp2; go_ret; refine ⟨jb (by rw [HR2.out] <;> simp [*]), Below.trans ?_ (hc.mono ?_)⟩
           · repeat (refine zn ?_ (Nat.le_refl _) _)
             exact HB.out
           · have := HB.out.size
             simpa using this)
        | (go_ret
           refine ⟨jb (by rw [HR2.out] <;> simp [*]), ?_⟩
           repeat (refine zn ?_ (Nat.le_refl _) _)
           exact HB.out)
 by_cases h9 : k = 9
 · have HR : Hid (fitB k m p n1 n2 o l n3 = (decide (0 < n1) && noB 0 m p 0 n2 o l n3)) := by unfold Hid fitB; simp [h9]
   subst h9; go_enter Tryz.func231, Tryz.ntmps231; go_wp2_with fail
   all_goals first
    | (refine (zu _ _ _ _ _ _ _ _ _ _ _ _ _ _ _).mono ?_
       rintro e u ⟨rfl, hb⟩; go_wp2; go_ret; exact ⟨jb (by rw [HR.out]; simp [*] <;> (intros; omega)), (nb0 _ _).trans (hb.mono (by simp))⟩)
    | (go_ret
       exact ⟨jb (by rw [HR.out]; simp [*] <;> (intros; omega)), nb0 _ _⟩)
 by_cases h10 : k = 10
 · have HR : Hid (fitB k m p n1 n2 o l n3 = (decide (0 ≤ l ∧ l ≤ 2147483647) && noB 0 m p n1 n2 false 0 n3)) := by unfold Hid fitB; simp [h10]
   subst h10; go_enter Tryz.func231, Tryz.ntmps231; go_wp2_with fail
   all_goals first
    | (refine (zu _ _ _ _ _ _ _ _ _ _ _ _ _ _ _).mono ?_
       rintro e u ⟨rfl, hb⟩; go_wp2; go_ret; exact ⟨jb (by rw [HR.out]; simp [*] <;> (intros; omega)), (nb0 _ _).trans (hb.mono (by simp))⟩)
    | (go_ret
       exact ⟨jb (by rw [HR.out]; simp [*] <;> (intros; omega)), nb0 _ _⟩)
 have HR : Hid (fitB k m p n1 n2 o l n3 = noB 0 m p n1 n2 o l n3) := by unfold Hid fitB; simp [h3, h4, h5, h6, h7, h8, h9, h10]
 go_enter Tryz.func231, Tryz.ntmps231; go_wp2_with fail; refine (zu _ _ _ _ _ _ _ _ _ _ _ _ _ _ _).mono ?_; rintro e u ⟨rfl, hb⟩; go_wp2; go_ret; exact ⟨jb (by rw [HR.out]), (nb0 _ _).trans (hb.mono (by simp))⟩
def oneN (k : Bool) (d : Int) (f : Bool) : Int := if k = false then 2 else if 6 < d then 1 else if f = false then 3 else 0
theorem jbe (k f : Bool) (d : Int) (w : World) :
 Calls Tryz.prog 196 #[.bool k, .int .i64 d, .bool f] w fun e w' => e = .returned (.int .i64 (oneN k d f)) ∧ w' = w := by
 cases k <;> cases f <;> by_cases h : 6 < d <;> go_enter Tryz.func196, Tryz.ntmps196 <;> go_wp2 <;> go_ret <;> exact ⟨jc (by simp [oneN, h]), rfl⟩
theorem jgc (k f : Bool) (d : Nat) : oneN k (d : Int) f = oneP k d f := by
 unfold oneN oneP; cases k <;> cases f <;> simp <;> split <;> split <;> first | rfl | omega
theorem zF {Q : Nat → Prop} {n : Nat} {w : World} {t : Tst} {cs : List Value} (h : TstM Q n w t cs) : ∃ an cn ak ck at' ct m, n = m + 1 ∧
 cs = [.int .i64 t.kind, .int .i64 t.mat, .int .i64 t.part, .slice an t.names.length cn, .slice ak t.keys.length ck, .bool t.over, .int .i64 t.limit, .slice at' t.tests.length ct] ∧
 TxtsM Q w (.slice an t.names.length cn) t.names ∧ TxtsM Q w (.slice ak t.keys.length ck) t.keys ∧ TstsM Q m w (.slice at' t.tests.length ct) t.tests := by
 cases n with
 | zero => exact h.elim
 | succ m =>
   obtain ⟨vn, vk, vt, h0, h1, h2, h3⟩ := h; obtain ⟨an, cn, rfl⟩ := h1.slice; obtain ⟨ak, ck, rfl⟩ := h2.slice; obtain ⟨at', ct, rfl⟩ := h3.slice; exact ⟨an, cn, ak, ck, at', ct, m, rfl, h0, h1, h2, h3⟩
theorem jeO {Q : Nat → Prop} {n : Nat} {w : World} {a : Option Addr} {c : Nat} {l : List Tst} (h : TstsM Q n w (.slice a l.length c) l) {i : Nat} {x : Tst} (hx : l[i]? = some x) :
 ∃ b o an cn ak ck at' ct, a = some ⟨b, o, none⟩ ∧ b < w.heap.size ∧
   w.cell? ⟨b, o + i * 8, none⟩ = some (.int .i64 x.kind) ∧ w.cell? ⟨b, o + i * 8 + 1, none⟩ = some (.int .i64 x.mat) ∧ w.cell? ⟨b, o + i * 8 + 2, none⟩ = some (.int .i64 x.part) ∧
   w.cell? ⟨b, o + i * 8 + 3, none⟩ = some (.slice an x.names.length cn) ∧ w.cell? ⟨b, o + i * 8 + 4, none⟩ = some (.slice ak x.keys.length ck) ∧ w.cell? ⟨b, o + i * 8 + 5, none⟩ = some (.bool x.over) ∧
   w.cell? ⟨b, o + i * 8 + 6, none⟩ = some (.int .i64 x.limit) ∧ w.cell? ⟨b, o + i * 8 + 7, none⟩ = some (.slice at' x.tests.length ct) ∧
   TstM Q n w x [.int .i64 x.kind, .int .i64 x.mat, .int .i64 x.part, .slice an x.names.length cn, .slice ak x.keys.length ck, .bool x.over, .int .i64 x.limit, .slice at' x.tests.length ct] := by
 obtain ⟨a', c', hv, _, hr⟩ := h; simp only [Value.slice.injEq, true_and] at hv; obtain ⟨rfl, rfl⟩ := hv; obtain ⟨b, o, cs, ha, hb, _, _, hc, hP⟩ := hr i x hx; obtain ⟨an, cn, ak, ck, at', ct, m, _, rfl, _⟩ := zF hP; exact ⟨b, o, an, cn, ak, ck, at', ct, ha, hb, hc 0 _ rfl, hc 1 _ rfl, hc 2 _ rfl, hc 3 _ rfl, hc 4 _ rfl, hc 5 _ rfl, hc 6 _ rfl, hc 7 _ rfl, hP⟩
theorem jdj (n : Nat) : ∀ (t : Tst) (d : Nat) (w : World) (an ak at' : Option Addr) (cn ck ct : Nat), d ≤ 7 → WordsAt w →
 TstM anyB n w t [.int .i64 t.kind, .int .i64 t.mat, .int .i64 t.part, .slice an t.names.length cn, .slice ak t.keys.length ck, .bool t.over, .int .i64 t.limit, .slice at' t.tests.length ct] →
 Calls Tryz.prog 199 #[.agg #[.int .i64 t.kind, .int .i64 t.mat, .int .i64 t.part, .slice an t.names.length cn, .slice ak t.keys.length ck, .bool t.over, .int .i64 t.limit, .slice at' t.tests.length ct], .int .i64 d] w
  fun e w' => e = .returned (.int .i64 (jp n d t)) ∧ Below w.heap.size w w' := by
 induction n with
 | zero => intro t d w an ak at' cn ck ct _ _ h; exact h.elim
 | succ n ih =>
   intro t d w an ak at' cn ck ct hd hw hT; obtain ⟨_, _, _, _, _, _, m, hm, he, h1, h2, h3⟩ := zF hT; simp only [List.cons.injEq, Value.slice.injEq, true_and, and_true] at he; obtain ⟨⟨rfl, rfl⟩, ⟨rfl, rfl⟩, rfl, rfl⟩ := he; obtain rfl : n = m := by omega
   clear hm h1 h2 hT; have H3 : Hid (TstsM anyB n w (.slice at' t.tests.length ct) t.tests) := h3; have HIH : Hid _ := ih; have HW : Hid (WordsAt w) := hw; clear h3 ih hw; obtain ⟨W0, hW0⟩ : ∃ W0, W0 = w.alloc (.cells #[.int .i64 t.kind, .int .i64 t.mat, .int .i64 t.part, .slice an t.names.length cn, .slice ak t.keys.length ck, .bool t.over, .int .i64 t.limit, .slice at' t.tests.length ct] 205) := ⟨_, rfl⟩; have hB0 : Below w.heap.size w W0 := by rw [hW0]; exact nb0 _ _
   have hH : W0.heap[w.heap.size]? = some (.cells #[.int .i64 t.kind, .int .i64 t.mat, .int .i64 t.part, .slice an t.names.length cn, .slice ak t.keys.length ck, .bool t.over, .int .i64 t.limit, .slice at' t.tests.length ct] 205) := by rw [hW0]; exact heap_alloc_new w _
   have HW0 : Hid (WordsAt W0) := HW.out.next hB0; have HWE : Hid _ := hW0; have HB0 : Hid _ := hB0; clear hW0 hB0; obtain ⟨g0, g1, g2, g3, g4, g5, g6, g7⟩ := bx8 hH; clear hH; have HF := jip t; go_enter Tryz.func199, Tryz.ntmps199; go_wp2; rw [← HWE.out]
   go_region_held3 (fun w' => w'.cell? ⟨w.heap.size, 0, none⟩ = some (.int .i64 t.kind) ∧ w'.cell? ⟨w.heap.size, 1, none⟩ = some (.int .i64 t.mat) ∧ w'.cell? ⟨w.heap.size, 2, none⟩ = some (.int .i64 t.part) ∧
        w'.cell? ⟨w.heap.size, 3, none⟩ = some (.slice an t.names.length cn) ∧ w'.cell? ⟨w.heap.size, 4, none⟩ = some (.slice ak t.keys.length ck) ∧ w'.cell? ⟨w.heap.size, 5, none⟩ = some (.bool t.over) ∧
        w'.cell? ⟨w.heap.size, 6, none⟩ = some (.int .i64 t.limit) ∧ w'.cell? ⟨w.heap.size, 7, none⟩ = some (.slice at' t.tests.length ct)) (go_keep)
    (first
        | (go_at_call 197
           refine (vH 1 (by omega) t.kind _ (by first | exact HW0.out | exact HWu.out)).mono ?_; rintro e u ⟨rfl, hu⟩; have hu' := hu.symm; subst hu')
        | (go_at_call 231
           refine (jeM _ _ _ _ _ _ _ _ _ _ _ _ _ _ _ (by exact HW0.out)).mono ?_; rintro e u2 ⟨rfl, hb⟩; have HWu : Hid (WordsAt u2) := HW0.out.next (w := W0.drew) hb; have d0 : u2.cell? ⟨w.heap.size, 0, none⟩ = some (.int .i64 t.kind) := ja (w := W0.drew) g0 hb; have d1 : u2.cell? ⟨w.heap.size, 1, none⟩ = some (.int .i64 t.mat) := ja (w := W0.drew) g1 hb; have d2 : u2.cell? ⟨w.heap.size, 2, none⟩ = some (.int .i64 t.part) := ja (w := W0.drew) g2 hb; have d3 : u2.cell? ⟨w.heap.size, 3, none⟩ = some (.slice an t.names.length cn) := ja (w := W0.drew) g3 hb; have d4 : u2.cell? ⟨w.heap.size, 4, none⟩ = some (.slice ak t.keys.length ck) := ja (w := W0.drew) g4 hb; have d5 : u2.cell? ⟨w.heap.size, 5, none⟩ = some (.bool t.over) := ja (w := W0.drew) g5 hb; have d6 : u2.cell? ⟨w.heap.size, 6, none⟩ = some (.int .i64 t.limit) := ja (w := W0.drew) g6 hb; have d7 : u2.cell? ⟨w.heap.size, 7, none⟩ = some (.slice at' t.tests.length ct) := ja (w := W0.drew) g7 hb)
        | (go_at_call 196
           refine (jbe _ _ _ _).mono ?_; rintro e u ⟨rfl, hu⟩; have hu' := hu.symm; subst hu'))
   have HB2 : Hid (Below w.heap.size w u2) := (HB0.out.drew).trans (hb.mono HB0.out.drew.size); rw [← HF, jgc]; obtain ⟨x, hx⟩ : ∃ x, x = oneP (jL 1 t.kind) d (jcq t) := ⟨_, rfl⟩; rw [← hx]
   by_cases hx0 : x = 0
   · have hd6 : d ≤ 6 := by
        rw [hx0] at hx; unfold oneP at hx
        rcases Nat.lt_or_ge 6 d with h | h
        · rw [if_pos h] at hx; split at hx <;> cases hx
        · exact h
     have HR : Hid (jp (n + 1) d t = jh (jp n (d + 1)) t.tests) := by
        unfold Hid jp; rw [← hx, if_pos hx0]
     have hd' : (d : Int) ≤ 6 := by omega
     have hd0 : (0 : Int) ≤ (d : Int) := by omega
     subst hx0; have HH3 : Hid (TstsM anyB n u2 (.slice at' t.tests.length ct) t.tests) := RowM.imp H3.out (fun _ h => h) (Keeps.of_below HB2.out) fun _ _ h => TstM.imp (fun _ h => h) (Keeps.of_below HB2.out) _ _ _ h
     have hmx := HH3.out.small; unfold maxLen at hmx; clear hx HF hb H3 HB0 HW0 HW g0 g1 g2 g3 g4 g5 g6 g7 HWE; go_wp2
     go_loopw [22] (fun v wr => ∃ i : Nat, i ≤ t.tests.length ∧ v = .int .i64 i ∧ Below w.heap.size w wr ∧ Below u2.heap.size u2 wr ∧ Hid (jp (n + 1) d t = jh (jp n (d + 1)) (t.tests.drop i))) (fun v _ => t.tests.length - (intOf v).toNat)
     case atStart => exact ⟨0, Nat.zero_le _, rfl, HB2.out, Below.refl _ _, HR⟩
     case round =>
        obtain ⟨i, hi, rfl, hBw, hBu, hN⟩ := hrel; have HBw : Hid _ := hBw; have HBu : Hid _ := hBu
        by_cases hlt : i < t.tests.length
        · have i1 : (i : Int) < (t.tests.length : Int) := by omega
          have i3 : (0 : Int) ≤ (i : Int) := by omega
          obtain ⟨x, hx⟩ : ∃ x, t.tests[i]? = some x := ⟨_, List.getElem?_eq_getElem hlt⟩; obtain ⟨b, o, an', cn', ak', ck', at2, ct2, rfl, hbl, e0, e1, e2, e3, e4, e5, e6, e7, hT⟩ := jeO (HH3.out.next hBu) hx; have HN2 : Hid (jp (n + 1) d t = if jp n (d + 1) x = 0 then jh (jp n (d + 1)) (t.tests.drop (i + 1)) else jp n (d + 1) x) := by
            unfold Hid; rw [hN.out, List.drop_eq_getElem_cons hlt]; rw [List.getElem?_eq_getElem hlt] at hx; cases hx; rfl
          have HT : Hid _ := hT; have HWr : Hid (WordsAt wr) := HWu.out.next hBu; clear hx hT hN hBw hBu; have hal : Below wr.heap.size wr (wr.alloc (.cells #[.int .i64 x.kind, .int .i64 x.mat, .int .i64 x.part, .slice an' x.names.length cn', .slice ak' x.keys.length ck', .bool x.over, .int .i64 x.limit, .slice at2 x.tests.length ct2] 205)) := nb0 _ _; have HAL : Hid _ := hal; clear hal; go_wp2_with fail; rw [show ((d : Int) + 1) = ((d + 1 : Nat) : Int) from rfl]; refine (HIH.out x (d + 1) _ _ _ _ _ _ _ (by omega) (HWr.out.next HAL.out) (HT.out.next HAL.out)).mono ?_; rintro e w2 ⟨rfl, hb2⟩; have hBr : Below wr.heap.size wr w2 := HAL.out.trans (hb2.mono HAL.out.size); have HB3 : Hid (Below w.heap.size w w2) := HBw.out.trans (hBr.mono HBw.out.size); have HB4 : Hid (Below u2.heap.size u2 w2) := HBu.out.trans (hBr.mono HBu.out.size); obtain ⟨y, hy⟩ : ∃ y, y = jp n (d + 1) x := ⟨_, rfl⟩; rw [← hy]; have HN3 : Hid (jp (n + 1) d t = if y = 0 then jh (jp n (d + 1)) (t.tests.drop (i + 1)) else y) := by unfold Hid; rw [HN2.out, ← hy]
          clear hy HN2 hb2 hBr e0 e1 e2 e3 e4 e5 e6 e7
          by_cases hy : y = 0
          · have HN4 : Hid (jp (n + 1) d t = jh (jp n (d + 1)) (t.tests.drop (i + 1))) := by unfold Hid; rw [HN3.out, if_pos hy]
            subst hy; go_wp2; exact ⟨⟨i + 1, by omega, by go_num, HB3.out, HB4.out, HN4⟩, by simp [intOf]; omega⟩
          · have HN4 : Hid (jp (n + 1) d t = y) := by unfold Hid; rw [HN3.out, if_neg hy]
            go_wp2; go_ret; exact ⟨jc HN4.out.symm, HB3.out⟩
        · have i1 : ¬ (i : Int) < (t.tests.length : Int) := by omega
          have HE : Hid (jp (n + 1) d t = 0) := by unfold Hid; rw [hN.out, List.drop_eq_nil_of_le (by omega)]; rfl
          go_wp2; go_ret; exact ⟨jc HE.out.symm, HBw.out⟩
   · have HR : Hid (jp (n + 1) d t = x) := by
        unfold Hid jp; rw [← hx, if_neg hx0]
     clear hx HF; go_wp2; go_ret; exact ⟨jc HR.out.symm, HB2.out⟩
theorem zA {Q : Nat → Prop} {n : Nat} {w : World} {c : Cmd} {cs : List Value} (h : CmdM Q n w c cs) : ∃ ax cx an cn ak ck at' ct aa ca ae ce m, n = m + 1 ∧
 cs = [.int .i64 c.kind, .slice ax c.texts.length cx, .int .i64 c.test.kind, .int .i64 c.test.mat, .int .i64 c.test.part, .slice an c.test.names.length cn, .slice ak c.test.keys.length ck, .bool c.test.over, .int .i64 c.test.limit, .slice at' c.test.tests.length ct, .slice aa c.thn.length ca, .slice ae c.els.length ce] ∧
 TxtsM Q w (.slice ax c.texts.length cx) c.texts ∧ TstM Q m w c.test [.int .i64 c.test.kind, .int .i64 c.test.mat, .int .i64 c.test.part, .slice an c.test.names.length cn, .slice ak c.test.keys.length ck, .bool c.test.over, .int .i64 c.test.limit, .slice at' c.test.tests.length ct] ∧ CmdsM Q m w (.slice aa c.thn.length ca) c.thn ∧ CmdsM Q m w (.slice ae c.els.length ce) c.els := by
 cases n with
 | zero => exact h.elim
 | succ m =>
   obtain ⟨vx, vn, vk, vt, va, ve, h0, h1, h2, h3, h4⟩ := h; obtain ⟨ax, cx, rfl⟩ := h1.slice; obtain ⟨aa, ca, rfl⟩ := h3.slice; obtain ⟨ae, ce, rfl⟩ := h4.slice; obtain ⟨an, cn, ak, ck, at', ct, k, _, he, _⟩ := zF h2; simp only [List.cons.injEq, true_and, and_true] at he; obtain ⟨rfl, rfl, rfl⟩ := he; exact ⟨ax, cx, an, cn, ak, ck, at', ct, aa, ca, ae, ce, m, rfl, h0, h1, h2, h3, h4⟩
theorem jae {Q : Nat → Prop} {n : Nat} {w : World} {a : Option Addr} {c : Nat} {l : List Cmd} (h : CmdsM Q n w (.slice a l.length c) l) {i : Nat} {x : Cmd} (hx : l[i]? = some x) :
 ∃ b o ax cx an cn ak ck at' ct aa ca ae ce, a = some ⟨b, o, none⟩ ∧ b < w.heap.size ∧
   w.cell? ⟨b, o + i * 12, none⟩ = some (.int .i64 x.kind) ∧
   w.cell? ⟨b, o + i * 12 + 1, none⟩ = some (.slice ax x.texts.length cx) ∧
   w.cell? ⟨b, o + i * 12 + 2, none⟩ = some (.int .i64 x.test.kind) ∧
   w.cell? ⟨b, o + i * 12 + 3, none⟩ = some (.int .i64 x.test.mat) ∧
   w.cell? ⟨b, o + i * 12 + 4, none⟩ = some (.int .i64 x.test.part) ∧
   w.cell? ⟨b, o + i * 12 + 5, none⟩ = some (.slice an x.test.names.length cn) ∧
   w.cell? ⟨b, o + i * 12 + 6, none⟩ = some (.slice ak x.test.keys.length ck) ∧
   w.cell? ⟨b, o + i * 12 + 7, none⟩ = some (.bool x.test.over) ∧
   w.cell? ⟨b, o + i * 12 + 8, none⟩ = some (.int .i64 x.test.limit) ∧
   w.cell? ⟨b, o + i * 12 + 9, none⟩ = some (.slice at' x.test.tests.length ct) ∧
   w.cell? ⟨b, o + i * 12 + 10, none⟩ = some (.slice aa x.thn.length ca) ∧
   w.cell? ⟨b, o + i * 12 + 11, none⟩ = some (.slice ae x.els.length ce) ∧
   CmdM Q n w x [.int .i64 x.kind, .slice ax x.texts.length cx, .int .i64 x.test.kind, .int .i64 x.test.mat, .int .i64 x.test.part, .slice an x.test.names.length cn, .slice ak x.test.keys.length ck, .bool x.test.over, .int .i64 x.test.limit, .slice at' x.test.tests.length ct, .slice aa x.thn.length ca, .slice ae x.els.length ce] := by
 obtain ⟨a', c', hv, _, hr⟩ := h; simp only [Value.slice.injEq, true_and] at hv; obtain ⟨rfl, rfl⟩ := hv; obtain ⟨b, o, cs, ha, hb, _, _, hc, hP⟩ := hr i x hx; obtain ⟨ax, cx, an, cn, ak, ck, at', ct, aa, ca, ae, ce, m, _, rfl, _⟩ := zA hP; exact ⟨b, o, ax, cx, an, cn, ak, ck, at', ct, aa, ca, ae, ce, ha, hb, hc 0 _ rfl, hc 1 _ rfl, hc 2 _ rfl, hc 3 _ rfl, hc 4 _ rfl, hc 5 _ rfl, hc 6 _ rfl, hc 7 _ rfl, hc 8 _ rfl, hc 9 _ rfl, hc 10 _ rfl, hc 11 _ rfl, hP⟩
theorem jbT (c : Cmd) (ax an ak at' aa ae : Option Addr) (cx cn ck ct ca ce : Nat) (w : World) :
 Calls Tryz.prog 198 #[.agg #[.int .i64 c.kind, .slice ax c.texts.length cx, .int .i64 c.test.kind, .int .i64 c.test.mat, .int .i64 c.test.part, .slice an c.test.names.length cn, .slice ak c.test.keys.length ck, .bool c.test.over, .int .i64 c.test.limit, .slice at' c.test.tests.length ct, .slice aa c.thn.length ca, .slice ae c.els.length ce]] w fun e w' => e = .returned (.bool (vE c)) ∧ Below w.heap.size w w' := by
 by_cases h2 : c.kind = 2
 · have HR : Hid (vE c = decide (c.texts.length = 0)) := by unfold Hid vE; simp [h2]
   go_enter Tryz.func198, Tryz.ntmps198; go_wp2_with fail; go_ret; exact ⟨jb (by rw [HR.out]; rw [Bool.eq_iff_iff]; simp <;> omega), nb0 _ _⟩
 · obtain ⟨y, hy⟩ : ∃ y : Bool, y = decide (0 < c.thn.length ∨ 0 < c.els.length ∨ jdy c.test = false) := ⟨_, rfl⟩; have HR : Hid (vE c = if y = true then false else if c.kind = 1 ∨ c.kind = 8 ∨ c.kind = 9 then decide (0 < c.texts.length) else if c.kind = 5 ∨ c.kind = 6 ∨ c.kind = 7 then decide (c.texts.length = 1) else decide (c.texts.length = 0)) := by
    unfold Hid vE; rw [hy]; simp [h2]
   have HY : Hid (y = decide (0 < c.thn.length ∨ 0 < c.els.length ∨ noB c.test.kind c.test.mat c.test.part c.test.names.length c.test.keys.length c.test.over c.test.limit c.test.tests.length = false)) := hy; clear hy; generalize c.thn.length = l1 at *; generalize c.els.length = l2 at *; have hq2 : (c.kind != 2) = true := by simpa using h2
   rcases Nat.eq_zero_or_pos l1 with rfl | hl1
   · rcases Nat.eq_zero_or_pos l2 with rfl | hl2
     · go_enter Tryz.func198, Tryz.ntmps198; go_wp2_with fail; refine (zu _ _ _ _ _ _ _ _ _ _ _ _ _ _ _).mono ?_; rintro e u ⟨rfl, hb⟩; have hB : u.heap[w.heap.size]? = some (.cells #[.int .i64 c.kind, .slice ax c.texts.length cx, .int .i64 c.test.kind, .int .i64 c.test.mat, .int .i64 c.test.part, .slice an c.test.names.length cn, .slice ak c.test.keys.length ck, .bool c.test.over, .int .i64 c.test.limit, .slice at' c.test.tests.length ct, .slice aa 0 ca, .slice ae 0 ce] 207) := (hb.block _ (by simp)).trans (heap_alloc_new w _); have g0 : u.cell? ⟨w.heap.size, 0, none⟩ = some (.int .i64 c.kind) := by simp [World.cell?, hB]
       have g1 : u.cell? ⟨w.heap.size, 1, none⟩ = some (.slice ax c.texts.length cx) := by simp [World.cell?, hB]
       have HB : Hid (Below w.heap.size w u) := (nb0 _ _).trans (hb.mono (by simp)); obtain ⟨q, hq⟩ : ∃ q, q = noB c.test.kind c.test.mat c.test.part c.test.names.length c.test.keys.length c.test.over c.test.limit c.test.tests.length := ⟨_, rfl⟩; rw [← hq]; have HY2 : Hid (y = !q) := by unfold Hid; rw [HY.out, ← hq]; cases q <;> simp
       clear hq HY hB hb; cases q with
       | false =>
         go_wp2; go_ret; exact ⟨jb (by rw [HR.out, HY2.out]; rfl), HB.out⟩
       | true =>
         have HR2 : Hid (vE c = if c.kind = 1 ∨ c.kind = 8 ∨ c.kind = 9 then decide (0 < c.texts.length) else if c.kind = 5 ∨ c.kind = 6 ∨ c.kind = 7 then decide (c.texts.length = 1) else decide (c.texts.length = 0)) := by unfold Hid; rw [HR.out, HY2.out]; rfl
         clear HR HY2; generalize c.texts.length = l3 at *; generalize c.kind = kk at *; go_wp2
         all_goals go_ret
         all_goals refine ⟨jb ?_, HB.out⟩
         all_goals rw [HR2.out, Bool.eq_iff_iff]
         all_goals simp only [beq_iff_eq, beq_eq_false_iff_ne, ne_eq] at *
         all_goals (repeat' split) <;> simp <;> omega
     · have HR2 : Hid (vE c = false) := by unfold Hid; rw [HR.out, HY.out]; simp [hl2]
       have hl2' : (0 : Int) < (l2 : Int) := by omega
       go_enter Tryz.func198, Tryz.ntmps198; go_wp2_with fail; go_ret; exact ⟨jb (by rw [HR2.out]), nb0 _ _⟩
   · have HR2 : Hid (vE c = false) := by unfold Hid; rw [HR.out, HY.out]; simp [hl1]
     have hl1' : (0 : Int) < (l1 : Int) := by omega
     go_enter Tryz.func198, Tryz.ntmps198; go_wp2_with fail; go_ret; exact ⟨jb (by rw [HR2.out]), nb0 _ _⟩
theorem jie {l : List Cmd} (h : l.length ≠ 1) : zj l = none := by
 match l with
 | [] => rfl
 | [c] => simp at h
 | a :: b :: r => rfl
theorem jbZ (n : Nat) (l : List Cmd) (a : Option Addr) (c : Nat) (w : World) (h : CmdsM anyB n w (.slice a l.length c) l) :
 Calls Tryz.prog 200 #[.slice a l.length c] w fun e w' => e = .returned (.bool (zj l).isSome) ∧ w' = w := by
 by_cases h1 : l.length = 1
 · obtain ⟨x, rfl⟩ : ∃ x, l = [x] := List.length_eq_one_iff.1 h1; obtain ⟨b, o, ax, cx, an, cn, ak, ck, at', ct, aa, ca, ae, ce, rfl, hbl, e0, _⟩ := jae h (i := 0) (x := x) rfl; rw [Nat.zero_mul, Nat.add_zero] at e0; clear h; have HR : Hid ((zj [x]).isSome = decide (x.kind = 2)) := by unfold Hid zj; by_cases h : x.kind = 2 <;> simp [h]
   go_enter Tryz.func200, Tryz.ntmps200; go_wp2; go_ret; exact ⟨jb (by rw [HR.out, Bool.eq_iff_iff]; simp), rfl⟩
 · have HR : Hid ((zj l).isSome = false) := by unfold Hid; rw [jie h1]; rfl
   have h1' : ((l.length : Int) == 1) = false := by rw [beq_eq_false_iff_ne]; omega
   go_enter Tryz.func200, Tryz.ntmps200; go_wp2; go_ret; exact ⟨jb (by rw [HR.out]), rfl⟩
def ChkC (n : Nat) : Prop := ∀ (c : Cmd) (d : Nat) (w : World) (ax an ak at' aa ae : Option Addr) (cx cn ck ct ca ce : Nat), d ≤ 7 → WordsAt w → CmdM anyB n w c [.int .i64 c.kind, .slice ax c.texts.length cx, .int .i64 c.test.kind, .int .i64 c.test.mat, .int .i64 c.test.part, .slice an c.test.names.length cn, .slice ak c.test.keys.length ck, .bool c.test.over, .int .i64 c.test.limit, .slice at' c.test.tests.length ct, .slice aa c.thn.length ca, .slice ae c.els.length ce] →
    Calls Tryz.prog 162 #[.agg #[.int .i64 c.kind, .slice ax c.texts.length cx, .int .i64 c.test.kind, .int .i64 c.test.mat, .int .i64 c.test.part, .slice an c.test.names.length cn, .slice ak c.test.keys.length ck, .bool c.test.over, .int .i64 c.test.limit, .slice at' c.test.tests.length ct, .slice aa c.thn.length ca, .slice ae c.els.length ce], .int .i64 d] w fun e w' => e = .returned (.int .i64 (jn n d c)) ∧ Below w.heap.size w w'
theorem zW (n : Nat) (ih : ChkC n) (l : List Cmd) (d : Nat) (w : World) (a : Option Addr) (k : Nat) (hd : d ≤ 7) (hw : WordsAt w) (h : CmdsM anyB n w (.slice a l.length k) l) :
 Calls Tryz.prog 129 #[.slice a l.length k, .int .i64 d] w fun e w' => e = .returned (.int .i64 (jN n d l)) ∧ Below w.heap.size w w' := by
 have H3 : Hid (CmdsM anyB n w (.slice a l.length k) l) := h; have HIH : Hid (ChkC n) := ih; have HW : Hid (WordsAt w) := hw; have hmx := h.small; unfold maxLen at hmx; clear h ih hw; have HR : Hid (jN n d l = jh (jn n d) (l.drop 0)) := rfl; go_enter Tryz.func129, Tryz.ntmps129; go_wp2
 go_loopw [10] (fun v wr => ∃ i : Nat, i ≤ l.length ∧ v = .int .i64 i ∧ Below w.heap.size w wr ∧ Hid (jN n d l = jh (jn n d) (l.drop i))) (fun v _ => l.length - (intOf v).toNat)
 case atStart => exact ⟨0, Nat.zero_le _, rfl, Below.refl _ _, HR⟩
 case round =>
  obtain ⟨i, hi, rfl, hBw, hN⟩ := hrel; have HBw : Hid _ := hBw
  by_cases hlt : i < l.length
  · have i1 : (i : Int) < (l.length : Int) := by omega
    have i3 : (0 : Int) ≤ (i : Int) := by omega
    obtain ⟨x, hx⟩ : ∃ x, l[i]? = some x := ⟨_, List.getElem?_eq_getElem hlt⟩; obtain ⟨b, o, ax, cx, an, cn, ak, ck, at', ct, aa, ca, ae, ce, rfl, hbl, e0, e1, e2, e3, e4, e5, e6, e7, e8, e9, e10, e11, hT⟩ := jae (H3.out.next hBw) hx; have HN2 : Hid (jN n d l = if jn n d x = 0 then jh (jn n d) (l.drop (i + 1)) else jn n d x) := by
        unfold Hid; rw [hN.out, List.drop_eq_getElem_cons hlt]; rw [List.getElem?_eq_getElem hlt] at hx; cases hx; rfl
    have HT : Hid _ := hT; have HWr : Hid (WordsAt wr) := HW.out.next hBw; have hal : Below wr.heap.size wr (wr.alloc (.cells #[.int .i64 x.kind, .slice ax x.texts.length cx, .int .i64 x.test.kind, .int .i64 x.test.mat, .int .i64 x.test.part, .slice an x.test.names.length cn, .slice ak x.test.keys.length ck, .bool x.test.over, .int .i64 x.test.limit, .slice at' x.test.tests.length ct, .slice aa x.thn.length ca, .slice ae x.els.length ce] 207)) := nb0 _ _; have HAL : Hid _ := hal; clear hx hT hN hBw hal; go_wp2_with fail; refine (HIH.out x d _ _ _ _ _ _ _ _ _ _ _ _ _ hd (HWr.out.next HAL.out) (HT.out.next HAL.out)).mono ?_; rintro e w2 ⟨rfl, hb2⟩; have hBr : Below wr.heap.size wr w2 := HAL.out.trans (hb2.mono HAL.out.size); have HB3 : Hid (Below w.heap.size w w2) := HBw.out.trans (hBr.mono HBw.out.size); obtain ⟨y, hy⟩ : ∃ y, y = jn n d x := ⟨_, rfl⟩; rw [← hy]; have HN3 : Hid (jN n d l = if y = 0 then jh (jn n d) (l.drop (i + 1)) else y) := by unfold Hid; rw [HN2.out, ← hy]
    clear hy HN2 hb2 hBr e0 e1 e2 e3 e4 e5 e6 e7 e8 e9 e10 e11
    by_cases hy : y = 0
    · have HN4 : Hid (jN n d l = jh (jn n d) (l.drop (i + 1))) := by unfold Hid; rw [HN3.out, if_pos hy]
      subst hy; go_wp2; exact ⟨⟨i + 1, by omega, by go_num, HB3.out, HN4⟩, by simp [intOf]; omega⟩
    · have HN4 : Hid (jN n d l = y) := by unfold Hid; rw [HN3.out, if_neg hy]
      go_wp2; go_ret; exact ⟨jc HN4.out.symm, HB3.out⟩
  · have i1 : ¬ (i : Int) < (l.length : Int) := by omega
    have HE : Hid (jN n d l = 0) := by unfold Hid; rw [hN.out, List.drop_eq_nil_of_le (by omega)]; rfl
    go_wp2; go_ret; exact ⟨jc HE.out.symm, HBw.out⟩
theorem jbn (n : Nat) : ChkC n := by
 induction n with
 | zero => intro c d w ax an ak at' aa ae cx cn ck ct ca ce _ _ h; exact h.elim
 | succ n ih =>
   intro c d w ax an ak at' aa ae cx cn ck ct ca ce hd hw hC; obtain ⟨_, _, _, _, _, _, _, _, _, _, _, _, m, hm, he, h1, h2, h3, h4⟩ := zA hC; simp only [List.cons.injEq, Value.slice.injEq, true_and, and_true] at he; obtain ⟨⟨rfl, rfl⟩, ⟨rfl, rfl⟩, ⟨rfl, rfl⟩, ⟨rfl, rfl⟩, ⟨rfl, rfl⟩, rfl, rfl⟩ := he; obtain rfl : n = m := by omega
   clear hm hC; have H2 : Hid (TstM anyB n w c.test [.int .i64 c.test.kind, .int .i64 c.test.mat, .int .i64 c.test.part, .slice an c.test.names.length cn, .slice ak c.test.keys.length ck, .bool c.test.over, .int .i64 c.test.limit, .slice at' c.test.tests.length ct]) := h2; have H3 : Hid (CmdsM anyB n w (.slice aa c.thn.length ca) c.thn) := h3; have H4 : Hid (CmdsM anyB n w (.slice ae c.els.length ce) c.els) := h4; have HIH : Hid (ChkC n) := ih; have HW : Hid (WordsAt w) := hw; clear h1 h2 h3 h4 ih hw; obtain ⟨W0, hW0⟩ : ∃ W0, W0 = w.alloc (.cells #[.int .i64 c.kind, .slice ax c.texts.length cx, .int .i64 c.test.kind, .int .i64 c.test.mat, .int .i64 c.test.part, .slice an c.test.names.length cn, .slice ak c.test.keys.length ck, .bool c.test.over, .int .i64 c.test.limit, .slice at' c.test.tests.length ct, .slice aa c.thn.length ca, .slice ae c.els.length ce] 207) := ⟨_, rfl⟩; have hB0 : Below w.heap.size w W0 := by rw [hW0]; exact nb0 _ _
   have hH : W0.heap[w.heap.size]? = some (.cells #[.int .i64 c.kind, .slice ax c.texts.length cx, .int .i64 c.test.kind, .int .i64 c.test.mat, .int .i64 c.test.part, .slice an c.test.names.length cn, .slice ak c.test.keys.length ck, .bool c.test.over, .int .i64 c.test.limit, .slice at' c.test.tests.length ct, .slice aa c.thn.length ca, .slice ae c.els.length ce] 207) := by rw [hW0]; exact heap_alloc_new w _
   have HW0 : Hid (WordsAt W0) := HW.out.next hB0; have HWE : Hid _ := hW0; have HB0 : Hid _ := hB0; have hsz : w.heap.size < W0.heap.size := by rw [hW0]; simp
   clear hW0 hB0; obtain ⟨g0, g1, g2, g3, g4, g5, g6, g7, g8, g9, g10, g11⟩ := bx12 hH; clear hH; go_enter Tryz.func162, Tryz.ntmps162; go_wp2; rw [← HWE.out]
   go_region_held3 (fun w' => w'.cell? ⟨w.heap.size, 0, none⟩ = some (.int .i64 c.kind) ∧ w'.cell? ⟨w.heap.size, 1, none⟩ = some (.slice ax c.texts.length cx) ∧ w'.cell? ⟨w.heap.size, 2, none⟩ = some (.int .i64 c.test.kind) ∧ w'.cell? ⟨w.heap.size, 3, none⟩ = some (.int .i64 c.test.mat) ∧ w'.cell? ⟨w.heap.size, 4, none⟩ = some (.int .i64 c.test.part) ∧ w'.cell? ⟨w.heap.size, 5, none⟩ = some (.slice an c.test.names.length cn) ∧ w'.cell? ⟨w.heap.size, 6, none⟩ = some (.slice ak c.test.keys.length ck) ∧ w'.cell? ⟨w.heap.size, 7, none⟩ = some (.bool c.test.over) ∧ w'.cell? ⟨w.heap.size, 8, none⟩ = some (.int .i64 c.test.limit) ∧ w'.cell? ⟨w.heap.size, 9, none⟩ = some (.slice at' c.test.tests.length ct) ∧ w'.cell? ⟨w.heap.size, 10, none⟩ = some (.slice aa c.thn.length ca) ∧ w'.cell? ⟨w.heap.size, 11, none⟩ = some (.slice ae c.els.length ce)) (go_keep)
    (first
        | (go_at_call 197
           refine (vH 0 (by omega) c.kind _ (by first | exact HW0.out | exact HWu.out)).mono ?_; rintro e u ⟨rfl, hu⟩; have hu' := hu.symm; subst hu')
        | (go_at_call 198
           refine (jbT c _ _ _ _ _ _ _ _ _ _ _ _ _).mono ?_; rintro e u2 ⟨rfl, hb⟩; have HWu : Hid (WordsAt u2) := HW0.out.next (w := W0.drew) hb; have d0 : u2.cell? ⟨w.heap.size, 0, none⟩ = some (.int .i64 c.kind) := ja (w := W0.drew) g0 hb; have d1 : u2.cell? ⟨w.heap.size, 1, none⟩ = some (.slice ax c.texts.length cx) := ja (w := W0.drew) g1 hb; have d2 : u2.cell? ⟨w.heap.size, 2, none⟩ = some (.int .i64 c.test.kind) := ja (w := W0.drew) g2 hb; have d3 : u2.cell? ⟨w.heap.size, 3, none⟩ = some (.int .i64 c.test.mat) := ja (w := W0.drew) g3 hb; have d4 : u2.cell? ⟨w.heap.size, 4, none⟩ = some (.int .i64 c.test.part) := ja (w := W0.drew) g4 hb; have d5 : u2.cell? ⟨w.heap.size, 5, none⟩ = some (.slice an c.test.names.length cn) := ja (w := W0.drew) g5 hb; have d6 : u2.cell? ⟨w.heap.size, 6, none⟩ = some (.slice ak c.test.keys.length ck) := ja (w := W0.drew) g6 hb; have d7 : u2.cell? ⟨w.heap.size, 7, none⟩ = some (.bool c.test.over) := ja (w := W0.drew) g7 hb; have d8 : u2.cell? ⟨w.heap.size, 8, none⟩ = some (.int .i64 c.test.limit) := ja (w := W0.drew) g8 hb; have d9 : u2.cell? ⟨w.heap.size, 9, none⟩ = some (.slice at' c.test.tests.length ct) := ja (w := W0.drew) g9 hb; have d10 : u2.cell? ⟨w.heap.size, 10, none⟩ = some (.slice aa c.thn.length ca) := ja (w := W0.drew) g10 hb; have d11 : u2.cell? ⟨w.heap.size, 11, none⟩ = some (.slice ae c.els.length ce) := ja (w := W0.drew) g11 hb)
        | (go_at_call 196
           refine (jbe _ _ _ _).mono ?_; rintro e u ⟨rfl, hu⟩; have hu' := hu.symm; subst hu'))
   have HB2 : Hid (Below w.heap.size w u2) := (HB0.out.drew).trans (hb.mono HB0.out.drew.size); have hsz2 : w.heap.size < u2.heap.size := by have := hb.size; have h2 : W0.drew.heap.size = W0.heap.size := rfl; omega
   rw [jgc]; obtain ⟨x, hx⟩ : ∃ x, x = oneP (jL 0 c.kind) d (vE c) := ⟨_, rfl⟩; rw [← hx]
   by_cases hx0 : x = 0
   · have hd6 : d ≤ 6 := by
        rw [hx0] at hx; unfold oneP at hx
        rcases Nat.lt_or_ge 6 d with h | h
        · rw [if_pos h] at hx; split at hx <;> cases hx
        · exact h
     have HR0 := qT n d c; rw [← hx, if_neg (by simpa using hx0)] at HR0; have HR : Hid _ := HR0; clear HR0; have hd' : (d : Int) ≤ 6 := by omega
     have hd0 : (0 : Int) ≤ (d : Int) := by omega
     subst hx0; clear hx hb HB0 HW0 g0 g1 g2 g3 g4 g5 g6 g7 g8 g9 g10 g11 HWE hu
     by_cases hk : c.kind = 2
     · have hk' : (c.kind != 2) = false := by simp [hk]
       rw [if_neg (by simpa using hk)] at HR; go_wp2_with fail; have hT2 := jdj n c.test 1 u2 an ak at' cn ck ct (by omega) HWu.out (TstM.imp (fun _ h => h) (Keeps.of_below HB2.out) _ _ _ H2.out); refine hT2.mono ?_; clear hT2; rintro e w3 ⟨rfl, hb3⟩; have HWw3 : Hid (WordsAt w3) := HWu.out.next hb3; have HB3 : Hid (Below w.heap.size w w3) := HB2.out.trans (hb3.mono HB2.out.size); have k10 := ja d10 hb3; have k11 := ja d11 hb3; have hsz3 : w.heap.size < w3.heap.size := Nat.lt_of_lt_of_le hsz2 hb3.size; obtain ⟨y, hy⟩ : ∃ y, y = jp n 1 c.test := ⟨_, rfl⟩; rw [← hy]; rw [← hy] at HR; clear hy hb3
       by_cases hy : y = 0
       · rw [if_neg (by simpa using hy)] at HR; subst hy; go_wp2_with fail; rw [show ((d : Int) + 1) = ((d + 1 : Nat) : Int) from rfl]; have hT3 := zW n HIH.out c.thn (d + 1) w3 aa ca (by omega) HWw3.out (RowM.imp H3.out (fun _ h => h) (Keeps.of_below HB3.out) fun _ _ h => CmdM.imp (fun _ h => h) (Keeps.of_below HB3.out) _ _ _ h); refine hT3.mono ?_; clear hT3; rintro e w4 ⟨rfl, hb4⟩; have HWw4 : Hid (WordsAt w4) := HWw3.out.next hb4; have HB4 : Hid (Below w.heap.size w w4) := HB3.out.trans (hb4.mono HB3.out.size); have m11 := ja k11 hb4; obtain ⟨z, hz⟩ : ∃ z, z = jN n (d + 1) c.thn := ⟨_, rfl⟩; rw [← hz]; have hz' : z = jh (jn n (d + 1)) c.thn := hz; rw [← hz'] at HR; clear hz hz' hb4
         by_cases hz : z = 0
         · rw [if_neg (by simpa using hz)] at HR; subst hz; have H4' : CmdsM anyB n w4 (.slice ae c.els.length ce) c.els := RowM.imp H4.out (fun _ h => h) (Keeps.of_below HB4.out) fun _ _ h => CmdM.imp (fun _ h => h) (Keeps.of_below HB4.out) _ _ _ h
           have HH4 : Hid _ := H4'; clear H4'; go_wp2_with fail; have hT4 := jbZ n c.els ae ce w4 HH4.out; refine hT4.mono ?_; clear hT4; rintro e w5 ⟨rfl, hw5⟩; have hw5' := hw5.symm; subst hw5'; cases hel : zj c.els with
           | some x =>
             rw [hel] at HR; obtain ⟨hels, hkx⟩ := qS hel; have hq1 : c.els.length = 1 := by rw [hels]; rfl
             obtain ⟨b, o, ax2, cx2, an2, cn2, ak2, ck2, at2, ct2, aa2, ca2, ae2, ce2, rfl, hbl, e0, e1, e2, e3, e4, e5, e6, e7, e8, e9, e10, e11, hT⟩ := jae HH4.out (i := 0) (x := x) (by rw [hels]; rfl); rw [Nat.zero_mul, Nat.add_zero] at e0 e1 e2 e3 e4 e5 e6 e7 e8 e9 e10 e11; have HT : Hid _ := hT; clear hT hel hels hkx; rw [hq1]; rw [hq1] at m11; go_wp2_with fail; have hT5 := HIH.out x d w4 _ _ _ _ _ _ _ _ _ _ _ _ hd HWw4.out HT.out; refine hT5.mono ?_; clear hT5; rintro e w6 ⟨rfl, hb6⟩; go_wp2; go_ret; exact ⟨jc HR.out.symm, HB4.out.trans (hb6.mono HB4.out.size)⟩
           | none =>
             rw [hel] at HR; clear hel; go_wp2_with fail; rw [show ((d : Int) + 1) = ((d + 1 : Nat) : Int) from rfl]; have hT5 := zW n HIH.out c.els (d + 1) w4 ae ce (by omega) HWw4.out HH4.out; refine hT5.mono ?_; clear hT5; rintro e w6 ⟨rfl, hb6⟩; go_wp2; go_ret; exact ⟨jc HR.out.symm, HB4.out.trans (hb6.mono HB4.out.size)⟩
         · rw [if_pos hz] at HR; go_wp2; go_ret; exact ⟨jc HR.out.symm, HB4.out⟩
       · rw [if_pos hy] at HR; go_wp2; go_ret; exact ⟨jc HR.out.symm, HB3.out⟩
     · have hk' : (c.kind != 2) = true := by simpa using hk
       have HR2 : Hid (jn (n + 1) d c = 0) := by unfold Hid; rw [HR.out, if_pos hk]
       clear HR; go_wp2; go_ret; exact ⟨jc HR2.out.symm, HB2.out⟩
   · have HR : Hid (jn (n + 1) d c = x) := by
        unfold Hid; rw [qT, ← hx, if_pos hx0]
     clear hx; go_wp2; go_ret; exact ⟨jc HR.out.symm, HB2.out⟩
def setAll (w : World) (b : Nat) : Nat → List Value → World
 | _, [] => w
 | o, v :: vs => setAll (w.setCell ⟨b, o, none⟩ v) b (o + 1) vs
def qz (cs : Array Value) : Nat → List Value → Array Value
 | _, [] => cs
 | o, v :: vs => qz (cs.setIfInBounds o v) (o + 1) vs
theorem jt {b : Nat} {t : TypeId} {fr : Nat × Nat} : ∀ (vs : List Value) (o : Nat) (w : World) (cs : Array Value), w.heap[b]? = some (.cells cs t fr) → (setAll w b o vs).heap[b]? = some (.cells (qz cs o vs) t fr) := by
 intro vs
 induction vs with
 | nil => intro o w cs h; exact h
 | cons v vs ih => intro o w cs h; exact ih (o + 1) _ _ (ji (i := o) v h)
theorem jk {Q : Nat → Prop} {b : Nat} (hq : ∀ k, Q k → k ≠ b) : ∀ (vs : List Value) (o : Nat) (w w0 : World), Keeps Q w0 w → Keeps Q w0 (setAll w b o vs) := by
 intro vs
 induction vs with
 | nil => intro o w w0 h; exact h
 | cons v vs ih => intro o w w0 h; exact ih (o + 1) _ _ (h.trans (Keeps.set w v hq))
theorem jf {b B : Nat} (hb : B ≤ b) : ∀ (vs : List Value) (o : Nat) (w w0 : World), Below B w0 w → Below B w0 (setAll w b o vs) := by
 intro vs
 induction vs with
 | nil => intro o w w0 h; exact h
 | cons v vs ih => intro o w w0 h; exact ih (o + 1) _ _ (h.setCell hb v)
theorem zc {b : Nat} : ∀ (vs : List Value) (o : Nat) (w : World), (setAll w b o vs).heap.size = w.heap.size := by
 intro vs
 induction vs with
 | nil => intro o w; rfl
 | cons v vs ih => intro o w; exact (ih (o + 1) _).trans (by simp [World.setCell])
theorem jbC {A : Type} {Q : Nat → Prop} {k : Nat} {P : A → List Value → Prop} {w : World} {p : Nat} {cs : List Value} {t : TypeId} {fr : Nat × Nat} {x : A} (h : w.heap[p]? = some (.cells cs.toArray t fr)) (hk : cs.length = k) (hQ : Q p) (hP : P x cs) : RowM Q k P w (.slice (some ⟨p, 0, none⟩) 1 1) [x] := by
 refine ⟨some ⟨p, 0, none⟩, 1, rfl, by unfold maxLen; simp, fun i y hy => ?_⟩; cases i with
 | zero =>
   simp at hy
   subst hy; refine ⟨p, 0, cs, rfl, (Array.getElem?_eq_some_iff.1 h).1, hQ, hk, fun j u hj => ?_, hP⟩; have : w.cell? ⟨p, j, none⟩ = cs[j]? := by simp [World.cell?, h]
   simp only [Nat.zero_mul, Nat.zero_add]; rw [this]; exact hj
 | succ i => simp at hy
theorem jjU {b B : Nat} {t : TypeId} {fr : Nat × Nat} {w w0 : World} {cs : Array Value} (o : Nat) (vs : List Value) (obj : Obj) (h : w.heap[b]? = some (.cells cs t fr)) (hB : Below B w0 w) (hb : B ≤ b) (cs' : Array Value) (hcs : qz cs o vs = cs') :
 ((setAll w b o vs).alloc obj).heap[b]? = some (.cells cs' t fr) ∧ ((setAll w b o vs).alloc obj).heap[w.heap.size]? = some obj ∧ Keeps (fun k => b < k) w ((setAll w b o vs).alloc obj) ∧ Below B w0 ((setAll w b o vs).alloc obj) ∧ w.heap.size < ((setAll w b o vs).alloc obj).heap.size := by
 have hlt : b < w.heap.size := (Array.getElem?_eq_some_iff.1 h).1; have hz : (setAll w b o vs).heap.size = w.heap.size := zc vs o w; refine ⟨?_, ?_, ?_, ?_, ?_⟩
 · have e : ((setAll w b o vs).alloc obj).heap[b]? = (setAll w b o vs).heap[b]? := by
    show ((setAll w b o vs).heap.push obj)[b]? = _
    rw [Array.getElem?_push_lt (by omega), Array.getElem?_eq_getElem (by omega)]
   rw [e, ← hcs]; exact jt vs o w cs h
 · rw [← hz]; exact heap_alloc_new _ _
 · exact (jk (fun k hk => by omega) vs o w w (Keeps.refl _ _)).more obj
 · exact (jf hb vs o w w0 hB).alloc (by rw [hz]; omega) _
 · have : ((setAll w b o vs).alloc obj).heap.size = (setAll w b o vs).heap.size + 1 := by simp
   omega
theorem RowM.both {A : Type} {Q : Nat → Prop} {k : Nat} {P P' : A → List Value → Prop} {w : World} {v : Value} {l : List A} (h : RowM Q k P w v l) (hp : ∀ x cs, P x cs → P' x cs) : RowM (fun b => Q b ∧ b < w.heap.size) k P' w v l := by
 obtain ⟨a, c, hv, hm, hx⟩ := h; refine ⟨a, c, hv, hm, fun i x hi => ?_⟩; obtain ⟨b, o, cs, ha, hb, hq, hl, hc, hP⟩ := hx i x hi; exact ⟨b, o, cs, ha, hb, ⟨hq, hb⟩, hl, hc, hp x cs hP⟩
theorem TstM.both {Q : Nat → Prop} {w : World} : ∀ (n : Nat) (t : Tst) (cs : List Value), TstM Q n w t cs → TstM (fun b => Q b ∧ b < w.heap.size) n w t cs := by
 intro n
 induction n with
 | zero => intro t cs h; exact h
 | succ n ih =>
   intro t cs h; obtain ⟨vn, vk, vt, h0, h1, h2, h3⟩ := h; exact ⟨vn, vk, vt, h0, RowM.both h1 fun _ _ h => h, RowM.both h2 fun _ _ h => h, RowM.both h3 ih⟩
theorem CmdM.both {Q : Nat → Prop} {w : World} : ∀ (n : Nat) (t : Cmd) (cs : List Value), CmdM Q n w t cs → CmdM (fun b => Q b ∧ b < w.heap.size) n w t cs := by
 intro n
 induction n with
 | zero => intro t cs h; exact h
 | succ n ih =>
   intro t cs h; obtain ⟨vx, vn, vk, vt, va, ve, h0, h1, h2, h3, h4⟩ := h; exact ⟨vx, vn, vk, vt, va, ve, h0, RowM.both h1 fun _ _ h => h, TstM.both _ _ _ h2, RowM.both h3 ih, RowM.both h4 ih⟩
abbrev newB' (B : Nat) : Nat → Prop := fun k => B ≤ k
def Firm {A : Type} (P : (Nat → Prop) → World → A → List Value → Prop) : Prop := ∀ (Q Q' : Nat → Prop) (w w' : World) (x : A) (cs : List Value), (∀ b, Q b → Q' b) → Keeps Q w w' → P Q w x cs → P Q' w' x cs
theorem vU (n : Nat) : Firm (fun Q w (t : Tst) cs => TstM Q n w t cs) := fun _ _ _ _ _ _ hq hk h => TstM.imp hq hk _ _ _ h
theorem zM (n : Nat) : Firm (fun Q w (t : Cmd) cs => CmdM Q n w t cs) := fun _ _ _ _ _ _ hq hk h => CmdM.imp hq hk _ _ _ h
abbrev rowQ (B : Nat) (w : World) (v : Value) : Nat → Prop := fun b => B ≤ b ∧ b < w.heap.size ∧ some b ≠ v.ownBlock
def OwnRow {A : Type} (B k : Nat) (ty : TypeId) (P : (Nat → Prop) → World → A → List Value → Prop) (w : World) (v : Value) (l : List A) : Prop :=
 ∃ css : List (List Value), w.ownsRow B ty k v l.length css.flatten ∧ css.length = l.length ∧ (∀ cs ∈ css, cs.length = k) ∧ ∀ (i : Nat) (x : A) (cs : List Value), l[i]? = some x → css[i]? = some cs → P (rowQ B w v) w x cs
theorem jgT {k : Nat} : ∀ {css : List (List Value)} {i j : Nat} {cs : List Value}, (∀ c ∈ css, c.length = k) → css[i]? = some cs → j < k → css.flatten[i * k + j]? = cs[j]? := by
 intro css
 induction css with
 | nil => intro i j cs _ h _; simp at h
 | cons c css ih =>
   intro i j cs hk h hj; have hc : c.length = k := hk c (by simp); cases i with
   | zero =>
     simp at h
     subst h; simp only [Nat.zero_mul, Nat.zero_add, List.flatten_cons]; rw [List.getElem?_append_left (by omega)]
   | succ i =>
     have := ih (j := j) (fun c hc => hk c (by simp [hc])) (by simpa using h) hj; simp only [List.flatten_cons]; rw [List.getElem?_append_right (by rw [hc, Nat.add_mul]; omega), ← this]
     congr 1
     rw [hc, Nat.add_mul]; omega
theorem OwnRow.any {A : Type} {B k : Nat} {ty : TypeId} {P : (Nat → Prop) → World → A → List Value → Prop} {w : World} {v : Value} {l : List A} (h : OwnRow B k ty P w v l) : ∃ a c, v = .slice a l.length c := by
 obtain ⟨css, h1, _⟩ := h
 rcases h1.2 with ⟨rfl, hn⟩ | ⟨g, cap, cur, rfl, _⟩
 · exact ⟨none, 0, by rw [hn]⟩
 · exact ⟨_, _, rfl⟩
theorem OwnRow.rowM {A : Type} {B k : Nat} {ty : TypeId} {P : (Nat → Prop) → World → A → List Value → Prop} (hP : Firm P) {w : World} {v : Value} {l : List A} (h : OwnRow B k ty P w v l) (hm : l.length ≤ maxLen) : RowM (newB' B) k (P (newB' B) w) w v l := by
 obtain ⟨css, h1, h2, h3, h4⟩ := h
 rcases h1.2 with ⟨rfl, hn⟩ | ⟨g, cap, cur, rfl, hb, hg, hcap, hcm, hcs, htk⟩
 · have : l = [] := List.length_eq_zero_iff.1 hn; subst this; exact jg _ _ _ _ _ _
 · refine ⟨some ⟨g, 0, none⟩, cap, rfl, hm, fun i x hx => ?_⟩; have hi : i < l.length := (List.getElem?_eq_some_iff.1 hx).1; obtain ⟨cs, hcs'⟩ : ∃ cs, css[i]? = some cs := ⟨_, List.getElem?_eq_getElem (by omega)⟩; refine ⟨g, 0, cs, rfl, (Array.getElem?_eq_some_iff.1 hg).1, hb, h3 cs (List.mem_of_getElem? hcs'), fun j u hj => ?_, hP _ _ _ _ _ _ (fun b hb => hb.1) (Keeps.refl _ _) (h4 i x cs hx hcs')⟩; have hjk : j < k := by rw [← h3 cs (List.mem_of_getElem? hcs')]; exact (List.getElem?_eq_some_iff.1 hj).1
   have := World.ownsRow.cells h1 (g := g) rfl (i * k + j) u (by rw [jgT h3 hcs' hjk]; exact hj); rw [Addr.add_lit] at this
   simpa [Nat.add_assoc] using this
theorem OwnRow.nil {A : Type} (B k : Nat) (ty : TypeId) (P : (Nat → Prop) → World → A → List Value → Prop) (w : World) : OwnRow B k ty P w (.slice none 0 0) ([] : List A) :=
 ⟨[], by simpa using World.ownsRow_nil w B ty k, rfl, (fun cs h => by cases h), (fun i x cs h => by simp at h)⟩
theorem OwnRow.more {A : Type} {B k : Nat} {ty : TypeId} {P : (Nat → Prop) → World → A → List Value → Prop} (hP : Firm P) {w w' : World} {v v' : Value} {l : List A} {x : A} {cs : List Value} {css : List (List Value)} {H : Nat}
 (h2 : css.length = l.length) (h3 : ∀ cs ∈ css, cs.length = k) (h4 : ∀ (i : Nat) (x : A) (cs : List Value), l[i]? = some x → css[i]? = some cs → P (rowQ B w v) w x cs)
 (hx : P (rowQ B w v) w x cs) (hk : cs.length = k) (how : w'.ownsRow B ty k v' (l.length + 1) (css.flatten ++ cs)) (hg : w.grownBy w' v.ownBlock) (hat : v'.ownBlock = v.ownBlock ∨ v'.ownBlock = some H) (hH : w.heap.size ≤ H) : OwnRow B k ty P w' v' (l ++ [x]) := by
 have hq : ∀ b, rowQ B w v b → rowQ B w' v' b := by
  rintro b ⟨q1, q2, q3⟩; refine ⟨q1, Nat.lt_of_lt_of_le q2 hg.size, ?_⟩
  rcases hat with e | e
  · rw [e]; exact q3
  · rw [e]; intro e'; cases e'; omega
 have hkp : Keeps (rowQ B w v) w w' := ⟨hg.size, fun b hb hq => hg.block b hb hq.2.2⟩; refine ⟨css ++ [cs], by simpa [List.length_append] using how, by simp [h2], ?_, ?_⟩
 · intro c hc; cases List.mem_append.1 hc with
   | inl h => exact h3 c h
   | inr h => simp at h; rw [h]; exact hk
 · intro i y c hy hc
   rcases Nat.lt_or_ge i l.length with hi | hi
   · rw [List.getElem?_append_left hi] at hy; rw [List.getElem?_append_left (by omega)] at hc; exact hP _ _ _ _ _ _ hq hkp (h4 i y c hy hc)
   · rw [List.getElem?_append_right hi] at hy; rw [List.getElem?_append_right (by omega)] at hc; have hz : i - l.length = 0 := by
        rcases Nat.eq_zero_or_pos (i - l.length) with h | h
        · exact h
        · obtain ⟨m, hm⟩ : ∃ m, i - l.length = m + 1 := ⟨i - l.length - 1, by omega⟩; rw [hm] at hy; simp at hy
     rw [hz] at hy; rw [h2, hz] at hc
     simp at hy hc
     subst hy; subst hc; exact hP _ _ _ _ _ _ hq hkp hx
theorem OwnRow.keep {A : Type} {B k : Nat} {ty : TypeId} {P : (Nat → Prop) → World → A → List Value → Prop} (hP : Firm P) {w w' : World} {v : Value} {l : List A} {r : Nat} (h : OwnRow B k ty P w v l) (hb : But r w w') (hr : r < B) : OwnRow B k ty P w' v l := by
 obtain ⟨css, h1, h2, h3, h4⟩ := h; exact ⟨css, qE h1 hb hr, h2, h3, fun i x cs hx hc => hP _ _ _ _ _ _ (fun b hq => ⟨hq.1, Nat.lt_of_lt_of_le hq.2.1 hb.size, hq.2.2⟩) ⟨hb.size, fun b hb' hq => hb.block b hb' (by have := hq.1; omega)⟩ (h4 i x cs hx hc)⟩
abbrev newB (B : Nat) : Nat → Prop := fun k => B ≤ k
theorem jmg : (Tryz.prog.info? 205).map (fun i => (i.zero, i.size, i.bytes)) = some (some (.agg #[.int .i64 0, .int .i64 0, .int .i64 0, .slice none 0 0, .slice none 0 0, .bool false, .int .i64 0, .slice none 0 0]), 8, 112) := by kernel_rfl
abbrev OwnTs (B n : Nat) : World → Value → List Tst → Prop := OwnRow B 8 205 (fun Q w t cs => TstM Q n w t cs)
theorem jl9 (W : World) (cs : List Value) (t : TypeId) : ∀ (j : Nat) u, cs[j]? = some u → (W.alloc (.cells cs.toArray t)).cell? ((⟨W.heap.size, 0, none⟩ : Addr).add j) = some u := by
 intro j u hj; rw [Addr.add_lit, Nat.zero_add]
 simp [hj]
theorem jjF {Q : Nat → Prop} {n : Nat} {w : World} {t : Tst} {cs : List Value} (h : TstM Q n w t cs) : cs.length = 8 := by
 obtain ⟨_, _, _, _, _, _, _, _, rfl, _⟩ := zF h; rfl
theorem jmP {Q : Nat → Prop} {n : Nat} {w : World} {t : Tst} {cs : List Value} (h : TstM Q n w t cs) : ∀ u ∈ cs, u.oneCell' = true := by
 obtain ⟨_, _, _, _, _, _, _, _, rfl, _⟩ := zF h; intro u hu
 simp at hu
 rcases hu with rfl | rfl | rfl | rfl | rfl | rfl | rfl | rfl <;> rfl
theorem je5 {w : World} {b : Nat} {cs : Array Value} {t : TypeId} {fr : Nat × Nat} (h : w.heap[b]? = some (.cells cs t fr)) (j : Nat) : w.cell? ⟨b, j, none⟩ = cs[j]? := by simp [World.cell?, h]
theorem jiz : (Tryz.prog.info? 207).map (fun i => (i.zero, i.size, i.bytes)) = some (some (.agg #[.int .i64 0, .slice none 0 0, .int .i64 0, .int .i64 0, .int .i64 0, .slice none 0 0, .slice none 0 0, .bool false, .int .i64 0, .slice none 0 0, .slice none 0 0, .slice none 0 0]), 12, 192) := by kernel_rfl
def CmdR (Q : Nat → Prop) (n : Nat) (c : Cmd) (w : World) (v : Value) : Prop := ∃ cs : List Value, v = .agg cs.toArray ∧ CmdM Q n w c cs
abbrev OwnCs (B n : Nat) : World → Value → List Cmd → Prop := OwnRow B 12 207 (fun Q w t cs => CmdM Q n w t cs)
theorem jh2 {Q : Nat → Prop} {n : Nat} {w : World} {t : Cmd} {cs : List Value} (h : CmdM Q n w t cs) : ∀ u ∈ cs, u.oneCell' = true := by
 obtain ⟨_, _, _, _, _, _, _, _, _, _, _, _, _, _, rfl, _⟩ := zA h; intro u hu
 simp at hu
 rcases hu with rfl | rfl | rfl | rfl | rfl | rfl | rfl | rfl | rfl | rfl | rfl | rfl <;> rfl
theorem jdz (Q : Nat → Prop) (n : Nat) (w : World) : TstM Q (n + 1) w jT [.int .i64 0, .int .i64 0, .int .i64 0, .slice none 0 0, .slice none 0 0, .bool false, .int .i64 0, .slice none 0 0] := ⟨_, _, _, rfl, jg _ _ _ _ _ _, jg _ _ _ _ _ _, jg _ _ _ _ _ _⟩
end Go.Proofs.YtmgdnhjemhhleaaGreatDoor
