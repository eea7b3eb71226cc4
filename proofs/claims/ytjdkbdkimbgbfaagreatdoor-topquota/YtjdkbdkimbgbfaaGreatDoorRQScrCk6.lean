/-
  The table of words in memory, and what script.isNumberOf, script.numberOf and script.isNoTest do: the walks.
-/
import Derived.Test.YtjdkbdkimbgbfaaGreatDoorRQTokMark6
import Derived.Deep.RegionHeld3
import Derived.Deep.AppendLies
import Derived.Deep.QuietTactic
import Derived.BigQuiet
set_option maxHeartbeats 8000000
set_option maxRecDepth 100000
namespace Go.Proofs.YtjdkbdkimbgbfaaGreatDoor
open Go.RowKit Go.Proofs
variable {L r : List Tok} {s : List UInt8} {cs : List Value} {B C b c d i k m n : Nat} {fr : Nat × Nat} {Q : Nat -> Prop} {A a : Option Addr} {t ty : TypeId} {v : Value} {w w' : World}
def WordsAt (w : World) : Prop := ∀ k n : Nat, k < 4 -> n < 11 -> w.cell? ⟨3, k * 11 + n, none⟩ = some (.string (S (jN k n)))
theorem WordsAt.keeps (h : WordsAt w) (hk : Keeps Q w w') (hq : Q 3) : WordsAt w' := fun k n dF hn =>
 (aP (w := w) (hk.block _ (aG w _ (h k n dF hn)) hq)).trans (h k n dF hn)
theorem WordsAt.next (h : WordsAt w) (hb : Below w.heap.size w w') : WordsAt w' := h.keeps (Q := anyB) (Keeps.of_below hb) trivial
theorem WordsAt.but {r : Nat} (h : WordsAt w) (hb : But r w w') (hr : 3 < r) : WordsAt w' := h.keeps (Q := fun b => b ≠ r) (Keeps.of_but hb fun _ h => h) (by show 3 ≠ r; omega)
theorem WordsAt.pos (h : WordsAt w) : 3 < w.heap.size := aG w _ (h 0 0 (by omega) (by omega))
theorem WordsAt.drew (h : WordsAt w) : WordsAt w.drew := h
theorem joZ (l : List UInt8) : (S l).toList.isEmpty = l.isEmpty := by rw [aW, ji]
theorem S_ne {a b : List UInt8} (h : a ≠ b) : ((S a).toList == (S b).toList) = false := by rw [aW, aW, ji, ji]; simpa using h
theorem jqp {a b : List UInt8} (h : a = b) : ((S a).toList == (S b).toList) = true := by rw [h]; simp
theorem jag (k : Nat) (hk : k < 4) (n : Int) (w : World) (hw : WordsAt w) :
 Calls Tryz.prog 195 #[.int .i64 k, .int .i64 n] w fun e w' => e = .returned (.bool (jQ k n)) /\ w' = w := by
 by_cases h0 : 0 <= n
 . by_cases h1 : n < 11
   . obtain ⟨m, rfl⟩ := Int.eq_ofNat_of_zero_le h0; have hm : m < 11 := by omega
     have hc := hw k m hk hm; have k4 : (k : Int) < 4 := by omega
     have k0 : (0 : Int) <= (k : Int) := by omega
     have HR : Hid (jQ k (m : Int) = !(S (jN k m)).toList.isEmpty) := by unfold Hid jQ; rw [joZ]; simp; omega
     clear hw; go_enter Tryz.func195, Tryz.ntmps195; go_wp2; go_ret; exact ⟨jc HR.out.symm, rfl⟩
   . have HR : Hid (jQ k n = false) := by unfold Hid jQ; simp [h1]
     go_enter Tryz.func195, Tryz.ntmps195; go_wp2; go_ret; exact ⟨jc HR.out.symm, rfl⟩
 . have HR : Hid (jQ k n = false) := by unfold Hid jQ; simp [h0]
   go_enter Tryz.func195, Tryz.ntmps195; go_wp2; go_ret; exact ⟨jc HR.out.symm, rfl⟩
theorem jjd (l : List (List UInt8)) (i n : Nat) (s : List UInt8) (h : i < l.length) : jgT (l.drop i) n s = if l[i] = s then n else jgT (l.drop (i + 1)) (n + 1) s := by
 rw [aT h]; rfl
theorem jlP (k : Nat) (hk : k < 4) : (wTabs.getD k []).length = 11 := by
 match k, hk with
 | 0, _ | 1, _ | 2, _ | 3, _ => rfl
theorem joT (k i : Nat) (h : i < (wTabs.getD k []).length) : (wTabs.getD k [])[i] = jN k i := by
 unfold jN; rw [bU (l := wTabs.getD k []), aw h]; rfl
theorem zy {o : Nat} (h : Below B w w') (hb : B <= b) (v : Value) : Below B w (w'.setCell ⟨b, o, none⟩ v) := h.setCell hb v
def noB (k m p : Int) (n1 n2 : Nat) (o : Bool) (l : Int) (n3 : Nat) : Bool := decide (k = 0) && decide (m = 0) && decide (p = 0) && decide (n1 = 0) && decide (n2 = 0) && !o && decide (l = 0) && decide (n3 = 0)
theorem zE (k m p : Int) (n1 n2 n3 c1 c2 c3 : Nat) (a1 a2 a3 : Option Addr) (o : Bool) (l : Int) (w : World) :
 Calls Tryz.prog 225 #[.agg #[.int .i64 k, .int .i64 m, .int .i64 p, .slice a1 n1 c1, .slice a2 n2 c2, .bool o, .int .i64 l, .slice a3 n3 c3]] w fun e w' => e = .returned (.bool (noB k m p n1 n2 o l n3)) /\ Below w.heap.size w w' := by
 go_enter Tryz.func225, Tryz.ntmps225; go_wp2
 all_goals go_ret
 all_goals exact ⟨jc (by simp [noB, *] <;> (rw [Bool.eq_iff_iff]; simp; try omega)), nb0 _ _⟩
def cmpN (m : Int) (n1 n2 : Nat) : Bool := jQ 2 m && decide (0 < n1) && decide (0 < n2)
theorem jgu (k m p : Int) (n1 n2 n3 c1 c2 c3 : Nat) (a1 a2 a3 : Option Addr) (o : Bool) (l : Int) (w : World) (hw : WordsAt w) :
 Calls Tryz.prog 248 #[.agg #[.int .i64 k, .int .i64 m, .int .i64 p, .slice a1 n1 c1, .slice a2 n2 c2, .bool o, .int .i64 l, .slice a3 n3 c3]] w fun e w' => e = .returned (.bool (cmpN m n1 n2)) /\ Below w.heap.size w w' := by
 have HW : Hid (WordsAt w) := hw; clear hw; go_enter Tryz.func248, Tryz.ntmps248; go_wp2_with fail; refine (jag 2 (by omega) m _ (HW.out.next (nb0 _ _))).mono ?_; rintro e u ⟨rfl, rfl⟩; obtain ⟨q, hq⟩ : ∃ q, q = jQ 2 m := ⟨_, rfl⟩; have HQ : Hid (cmpN m n1 n2 = (q && decide (0 < n1) && decide (0 < n2))) := by unfold Hid cmpN; rw [hq]
 rw [<- hq]; clear hq; go_wp2
 all_goals go_ret
 all_goals exact ⟨jc (by rw [HQ.out]; simp [*]), nb0 _ _⟩
def fitB (k m p : Int) (n1 n2 : Nat) (o : Bool) (l : Int) (n3 : Nat) : Bool :=
 if k = 3 then decide (n3 = 1) && noB 0 m p n1 n2 o l 0
 else if k = 4 ∨ k = 5 then decide (0 < n3) && noB 0 m p n1 n2 o l 0
 else if k = 6 then cmpN m n1 n2 && noB 0 0 p 0 0 o l n3
 else if k = 7 ∨ k = 8 then cmpN m n1 n2 && jQ 3 p && noB 0 0 0 0 0 o l n3
 else if k = 9 then decide (0 < n1) && noB 0 m p 0 n2 o l n3
 else if k = 10 then decide (0 <= l /\ l <= 2147483647) && noB 0 m p n1 n2 false 0 n3
 else noB 0 m p n1 n2 o l n3
theorem jky (t : Tst) : jc8 t = fitB t.kind t.mat t.part t.names.length t.keys.length t.over t.limit t.tests.length := rfl
theorem jf0 (k m p : Int) (n1 n2 n3 c1 c2 c3 : Nat) (a1 a2 a3 : Option Addr) (o : Bool) (l : Int) (w : World) (hw : WordsAt w) :
 Calls Tryz.prog 226 #[.agg #[.int .i64 k, .int .i64 m, .int .i64 p, .slice a1 n1 c1, .slice a2 n2 c2, .bool o, .int .i64 l, .slice a3 n3 c3]] w fun e w' => e = .returned (.bool (fitB k m p n1 n2 o l n3)) /\ Below w.heap.size w w' := by
 have HW : Hid (WordsAt w) := hw; clear hw
 by_cases h3 : k = 3
 . have HR : Hid (fitB k m p n1 n2 o l n3 = (decide (n3 = 1) && noB 0 m p n1 n2 o l 0)) := by unfold Hid fitB; simp [h3]
   subst h3; go_enter Tryz.func226, Tryz.ntmps226; go_wp2_with fail
   all_goals first
    | (refine (zE _ _ _ _ _ _ _ _ _ _ _ _ _ _ _).mono ?_
       rintro e u ⟨rfl, hb⟩; go_wp2; go_ret; exact ⟨jc (by rw [HR.out]; simp [*] <;> (intros; omega)), (nb0 _ _).trans (hb.mono (by simp))⟩)
    | (go_ret
       exact ⟨jc (by rw [HR.out]; simp [*] <;> (intros; omega)), nb0 _ _⟩)
 by_cases h4 : k = 4
 . have HR : Hid (fitB k m p n1 n2 o l n3 = (decide (0 < n3) && noB 0 m p n1 n2 o l 0)) := by unfold Hid fitB; simp [h4]
   subst h4; go_enter Tryz.func226, Tryz.ntmps226; go_wp2_with fail
   all_goals first
    | (refine (zE _ _ _ _ _ _ _ _ _ _ _ _ _ _ _).mono ?_
       rintro e u ⟨rfl, hb⟩; go_wp2; go_ret; exact ⟨jc (by rw [HR.out]; simp [*] <;> (intros; omega)), (nb0 _ _).trans (hb.mono (by simp))⟩)
    | (go_ret
       exact ⟨jc (by rw [HR.out]; simp [*] <;> (intros; omega)), nb0 _ _⟩)
 by_cases h5 : k = 5
 . have HR : Hid (fitB k m p n1 n2 o l n3 = (decide (0 < n3) && noB 0 m p n1 n2 o l 0)) := by unfold Hid fitB; simp [h5]
   subst h5; go_enter Tryz.func226, Tryz.ntmps226; go_wp2_with fail
   all_goals first
    | (refine (zE _ _ _ _ _ _ _ _ _ _ _ _ _ _ _).mono ?_
       rintro e u ⟨rfl, hb⟩; go_wp2; go_ret; exact ⟨jc (by rw [HR.out]; simp [*] <;> (intros; omega)), (nb0 _ _).trans (hb.mono (by simp))⟩)
    | (go_ret
       exact ⟨jc (by rw [HR.out]; simp [*] <;> (intros; omega)), nb0 _ _⟩)
 by_cases h6 : k = 6
 . have HR : Hid (fitB k m p n1 n2 o l n3 = (cmpN m n1 n2 && noB 0 0 p 0 0 o l n3)) := by unfold Hid fitB; simp [h6]
   subst h6; go_enter Tryz.func226, Tryz.ntmps226; go_wp2_with fail; refine (jgu _ _ _ _ _ _ _ _ _ _ _ _ _ _ _ (HW.out.next (nb0 _ _))).mono ?_; rintro e u ⟨rfl, hb⟩; have hB : u.heap[w.heap.size]? = some (.cells #[.int .i64 6, .int .i64 m, .int .i64 p, .slice a1 n1 c1, .slice a2 n2 c2, .bool o, .int .i64 l, .slice a3 n3 c3] 199) := (hb.block _ (by simp)).trans (az w _); obtain ⟨g0, g1, g2, g3, g4, g5, g6, g7⟩ := bx8 hB; obtain ⟨f0, f1, f2, f3, f4, f5, f6, f7⟩ := bz8 hB; clear hB; have HB : Hid (Below w.heap.size w u) := (nb0 _ _).trans (hb.mono (by simp)); clear hb; obtain ⟨q, hq⟩ : ∃ q, q = cmpN m n1 n2 := ⟨_, rfl⟩; rw [<- hq]; have cD : Hid (fitB 6 m p n1 n2 o l n3 = (q && noB 0 0 p 0 0 o l n3)) := by unfold Hid; rw [HR.out, hq]
   clear hq HR; go_wp2_with fail
   all_goals first
    | (refine (zE _ _ _ _ _ _ _ _ _ _ _ _ _ _ _).mono ?_
       rintro e v ⟨rfl, hc⟩; go_wp2; go_ret; refine ⟨jc (by rw [cD.out] <;> simp [*]), Below.trans ?_ (hc.mono ?_)⟩
       . repeat (refine zy ?_ (ai _) _)
         exact HB.out
       . have := HB.out.size
         simpa [World.setCell] using this)
    | (go_ret
       refine ⟨jc (by rw [cD.out] <;> simp [*]), ?_⟩
       repeat (refine zy ?_ (ai _) _)
       exact HB.out)
 by_cases h7 : k = 7
 . have HR : Hid (fitB k m p n1 n2 o l n3 = (cmpN m n1 n2 && jQ 3 p && noB 0 0 0 0 0 o l n3)) := by unfold Hid fitB; simp [h7]
   subst h7; go_enter Tryz.func226, Tryz.ntmps226; go_wp2_with fail; refine (jgu _ _ _ _ _ _ _ _ _ _ _ _ _ _ _ (HW.out.next (nb0 _ _))).mono ?_; rintro e u ⟨rfl, hb⟩; have hB : u.heap[w.heap.size]? = some (.cells #[.int .i64 7, .int .i64 m, .int .i64 p, .slice a1 n1 c1, .slice a2 n2 c2, .bool o, .int .i64 l, .slice a3 n3 c3] 199) := (hb.block _ (by simp)).trans (az w _); obtain ⟨g0, g1, g2, g3, g4, g5, g6, g7⟩ := bx8 hB; obtain ⟨f0, f1, f2, f3, f4, f5, f6, f7⟩ := bz8 hB; clear hB; have HB : Hid (Below w.heap.size w u) := (nb0 _ _).trans (hb.mono (by simp)); have kX : Hid (WordsAt u) := (HW.out.next (nb0 _ _)).next hb; clear hb; cases hq : cmpN m n1 n2 with
   | false =>
     have cD : Hid (fitB 7 m p n1 n2 o l n3 = false) := by unfold Hid; rw [HR.out, hq]; rfl
     clear hq HR; go_wp2_with fail
     all_goals first
        | (refine (zE _ _ _ _ _ _ _ _ _ _ _ _ _ _ _).mono ?_
           rintro e v ⟨rfl, hc⟩; go_wp2; go_ret; refine ⟨jc (by rw [cD.out] <;> simp [*]), Below.trans ?_ (hc.mono ?_)⟩
           . repeat (refine zy ?_ (ai _) _)
             exact HB.out
           . have := HB.out.size
             simpa using this)
        | (go_ret
           refine ⟨jc (by rw [cD.out] <;> simp [*]), ?_⟩
           repeat (refine zy ?_ (ai _) _)
           exact HB.out)
   | true =>
     obtain ⟨r, hr⟩ : ∃ r, r = jQ 3 p := ⟨_, rfl⟩; have cD : Hid (fitB 7 m p n1 n2 o l n3 = (r && noB 0 0 0 0 0 o l n3)) := by unfold Hid; rw [HR.out, hq, hr]; rfl
     clear hq HR; go_wp2_with fail; refine (jag 3 (by omega) p _ kX.out).mono ?_; rintro e u' ⟨rfl, rfl⟩; rw [<- hr]; clear hr; go_wp2_with fail
     all_goals first
        | (refine (zE _ _ _ _ _ _ _ _ _ _ _ _ _ _ _).mono ?_
           rintro e v ⟨rfl, hc⟩; go_wp2; go_ret; refine ⟨jc (by rw [cD.out] <;> simp [*]), Below.trans ?_ (hc.mono ?_)⟩
           . repeat (refine zy ?_ (ai _) _)
             exact HB.out
           . have := HB.out.size
             simpa using this)
        | (go_ret
           refine ⟨jc (by rw [cD.out] <;> simp [*]), ?_⟩
           repeat (refine zy ?_ (ai _) _)
           exact HB.out)
 by_cases h8 : k = 8
 . have HR : Hid (fitB k m p n1 n2 o l n3 = (cmpN m n1 n2 && jQ 3 p && noB 0 0 0 0 0 o l n3)) := by unfold Hid fitB; simp [h8]
   subst h8; go_enter Tryz.func226, Tryz.ntmps226; go_wp2_with fail; refine (jgu _ _ _ _ _ _ _ _ _ _ _ _ _ _ _ (HW.out.next (nb0 _ _))).mono ?_; rintro e u ⟨rfl, hb⟩; have hB : u.heap[w.heap.size]? = some (.cells #[.int .i64 8, .int .i64 m, .int .i64 p, .slice a1 n1 c1, .slice a2 n2 c2, .bool o, .int .i64 l, .slice a3 n3 c3] 199) := (hb.block _ (by simp)).trans (az w _); obtain ⟨g0, g1, g2, g3, g4, g5, g6, g7⟩ := bx8 hB; obtain ⟨f0, f1, f2, f3, f4, f5, f6, f7⟩ := bz8 hB; clear hB; have HB : Hid (Below w.heap.size w u) := (nb0 _ _).trans (hb.mono (by simp)); have kX : Hid (WordsAt u) := (HW.out.next (nb0 _ _)).next hb; clear hb; cases hq : cmpN m n1 n2 with
   | false =>
     have cD : Hid (fitB 8 m p n1 n2 o l n3 = false) := by unfold Hid; rw [HR.out, hq]; rfl
     clear hq HR; go_wp2_with fail
     all_goals first
        | (refine (zE _ _ _ _ _ _ _ _ _ _ _ _ _ _ _).mono ?_
           rintro e v ⟨rfl, hc⟩; go_wp2; go_ret; refine ⟨jc (by rw [cD.out] <;> simp [*]), Below.trans ?_ (hc.mono ?_)⟩
           . repeat (refine zy ?_ (ai _) _)
             exact HB.out
           . have := HB.out.size
             simpa using this)
        | (go_ret
           refine ⟨jc (by rw [cD.out] <;> simp [*]), ?_⟩
           repeat (refine zy ?_ (ai _) _)
           exact HB.out)
   | true =>
     obtain ⟨r, hr⟩ : ∃ r, r = jQ 3 p := ⟨_, rfl⟩; have cD : Hid (fitB 8 m p n1 n2 o l n3 = (r && noB 0 0 0 0 0 o l n3)) := by unfold Hid; rw [HR.out, hq, hr]; rfl
     clear hq HR; go_wp2_with fail; refine (jag 3 (by omega) p _ kX.out).mono ?_; rintro e u' ⟨rfl, rfl⟩; rw [<- hr]; clear hr; go_wp2_with fail
     all_goals first
        | (refine (zE _ _ _ _ _ _ _ _ _ _ _ _ _ _ _).mono ?_
           rintro e v ⟨rfl, hc⟩; go_wp2; go_ret; refine ⟨jc (by rw [cD.out] <;> simp [*]), Below.trans ?_ (hc.mono ?_)⟩
           . repeat (refine zy ?_ (ai _) _)
             exact HB.out
           . have := HB.out.size
             simpa using this)
        | (go_ret
           refine ⟨jc (by rw [cD.out] <;> simp [*]), ?_⟩
           repeat (refine zy ?_ (ai _) _)
           exact HB.out)
 by_cases h9 : k = 9
 . have HR : Hid (fitB k m p n1 n2 o l n3 = (decide (0 < n1) && noB 0 m p 0 n2 o l n3)) := by unfold Hid fitB; simp [h9]
   subst h9; go_enter Tryz.func226, Tryz.ntmps226; go_wp2_with fail
   all_goals first
    | (refine (zE _ _ _ _ _ _ _ _ _ _ _ _ _ _ _).mono ?_
       rintro e u ⟨rfl, hb⟩; go_wp2; go_ret; exact ⟨jc (by rw [HR.out]; simp [*] <;> (intros; omega)), (nb0 _ _).trans (hb.mono (by simp))⟩)
    | (go_ret
       exact ⟨jc (by rw [HR.out]; simp [*] <;> (intros; omega)), nb0 _ _⟩)
 by_cases h10 : k = 10
 . have HR : Hid (fitB k m p n1 n2 o l n3 = (decide (0 <= l /\ l <= 2147483647) && noB 0 m p n1 n2 false 0 n3)) := by unfold Hid fitB; simp [h10]
   subst h10; go_enter Tryz.func226, Tryz.ntmps226; go_wp2_with fail
   all_goals first
    | (refine (zE _ _ _ _ _ _ _ _ _ _ _ _ _ _ _).mono ?_
       rintro e u ⟨rfl, hb⟩; go_wp2; go_ret; exact ⟨jc (by rw [HR.out]; simp [*] <;> (intros; omega)), (nb0 _ _).trans (hb.mono (by simp))⟩)
    | (go_ret
       exact ⟨jc (by rw [HR.out]; simp [*] <;> (intros; omega)), nb0 _ _⟩)
 have HR : Hid (fitB k m p n1 n2 o l n3 = noB 0 m p n1 n2 o l n3) := by unfold Hid fitB; simp [h3, h4, h5, h6, h7, h8, h9, h10]
 go_enter Tryz.func226, Tryz.ntmps226; go_wp2_with fail; refine (zE _ _ _ _ _ _ _ _ _ _ _ _ _ _ _).mono ?_; rintro e u ⟨rfl, hb⟩; go_wp2; go_ret; exact ⟨jc (by rw [HR.out]), (nb0 _ _).trans (hb.mono (by simp))⟩
def oneN (k : Bool) (d : Int) (f : Bool) : Int := if k = false then 2 else if 6 < d then 1 else if f = false then 3 else 0
theorem jb7 (k f : Bool) (d : Int) (w : World) :
 Calls Tryz.prog 194 #[.bool k, .int .i64 d, .bool f] w fun e w' => e = .returned (.int .i64 (oneN k d f)) /\ w' = w := by
 cases k <;> cases f <;> by_cases h : 6 < d <;> go_enter Tryz.func194, Tryz.ntmps194 <;> go_wp2 <;> go_ret <;> exact ⟨jd (by simp [oneN, h]), rfl⟩
theorem jhV (k f : Bool) (d : Nat) : oneN k (d : Int) f = oneP k d f := by
 unfold oneN oneP; cases k <;> cases f <;> simp <;> split <;> split <;> first | rfl | omega
theorem zV {t : Tst} (h : TstM Q n w t cs) : ∃ an cn ak ck at' ct m, n = m + 1 /\
 cs = [.int .i64 t.kind, .int .i64 t.mat, .int .i64 t.part, .slice an t.names.length cn, .slice ak t.keys.length ck, .bool t.over, .int .i64 t.limit, .slice at' t.tests.length ct] /\
 TxtsM Q w (.slice an t.names.length cn) t.names /\ TxtsM Q w (.slice ak t.keys.length ck) t.keys /\ TstsM Q m w (.slice at' t.tests.length ct) t.tests := by
 cases n with
 | zero => exact h.elim
 | succ m =>
   obtain ⟨vn, vk, vt, h0, h1, h2, h3⟩ := h; obtain ⟨an, cn, rfl⟩ := h1.slice; obtain ⟨ak, ck, rfl⟩ := h2.slice; obtain ⟨at', ct, rfl⟩ := h3.slice; exact ⟨an, cn, ak, ck, at', ct, m, rfl, h0, h1, h2, h3⟩
theorem jf2 {l : List Tst} (h : TstsM Q n w (.slice a l.length c) l) {x : Tst} (hx : l[i]? = some x) :
 ∃ b o an cn ak ck at' ct, a = some ⟨b, o, none⟩ /\ b < w.heap.size /\
   w.cell? ⟨b, o + i * 8, none⟩ = some (.int .i64 x.kind) /\ w.cell? ⟨b, o + i * 8 + 1, none⟩ = some (.int .i64 x.mat) /\ w.cell? ⟨b, o + i * 8 + 2, none⟩ = some (.int .i64 x.part) /\
   w.cell? ⟨b, o + i * 8 + 3, none⟩ = some (.slice an x.names.length cn) /\ w.cell? ⟨b, o + i * 8 + 4, none⟩ = some (.slice ak x.keys.length ck) /\ w.cell? ⟨b, o + i * 8 + 5, none⟩ = some (.bool x.over) /\
   w.cell? ⟨b, o + i * 8 + 6, none⟩ = some (.int .i64 x.limit) /\ w.cell? ⟨b, o + i * 8 + 7, none⟩ = some (.slice at' x.tests.length ct) /\
   TstM Q n w x [.int .i64 x.kind, .int .i64 x.mat, .int .i64 x.part, .slice an x.names.length cn, .slice ak x.keys.length ck, .bool x.over, .int .i64 x.limit, .slice at' x.tests.length ct] := by
 obtain ⟨a', c', hv, _, hr⟩ := h; simp only [aE, true_and] at hv; obtain ⟨rfl, rfl⟩ := hv; obtain ⟨b, o, cs, ha, hb, _, _, hc, hP⟩ := hr i x hx; obtain ⟨an, cn, ak, ck, at', ct, m, _, rfl, _⟩ := zV hP; exact ⟨b, o, an, cn, ak, ck, at', ct, ha, hb, hc 0 _ rfl, hc 1 _ rfl, hc 2 _ rfl, hc 3 _ rfl, hc 4 _ rfl, hc 5 _ rfl, hc 6 _ rfl, hc 7 _ rfl, hP⟩
theorem jdZ (n : Nat) : ∀ (t : Tst) (d : Nat) (w : World) (an ak at' : Option Addr) (cn ck ct : Nat), d <= 7 -> WordsAt w ->
 TstM anyB n w t [.int .i64 t.kind, .int .i64 t.mat, .int .i64 t.part, .slice an t.names.length cn, .slice ak t.keys.length ck, .bool t.over, .int .i64 t.limit, .slice at' t.tests.length ct] ->
 Calls Tryz.prog 197 #[.agg #[.int .i64 t.kind, .int .i64 t.mat, .int .i64 t.part, .slice an t.names.length cn, .slice ak t.keys.length ck, .bool t.over, .int .i64 t.limit, .slice at' t.tests.length ct], .int .i64 d] w
  fun e w' => e = .returned (.int .i64 (jt n d t)) /\ Below w.heap.size w w' := by
 induction n with
 | zero => intro t d w an ak at' cn ck ct _ _ h; exact h.elim
 | succ n ih =>
   intro t d w an ak at' cn ck ct hd hw hT; obtain ⟨_, _, _, _, _, _, m, hm, he, h1, h2, h3⟩ := zV hT; simp only [List.cons.injEq, aE, true_and, and_true] at he; obtain ⟨⟨rfl, rfl⟩, ⟨rfl, rfl⟩, rfl, rfl⟩ := he; obtain rfl : n = m := by omega
   clear hm h1 h2 hT; have H3 : Hid (TstsM anyB n w (.slice at' t.tests.length ct) t.tests) := h3; have cR : Hid _ := ih; have HW : Hid (WordsAt w) := hw; clear h3 ih hw; obtain ⟨W0, hW0⟩ : ∃ W0, W0 = w.alloc (.cells #[.int .i64 t.kind, .int .i64 t.mat, .int .i64 t.part, .slice an t.names.length cn, .slice ak t.keys.length ck, .bool t.over, .int .i64 t.limit, .slice at' t.tests.length ct] 199) := ⟨_, rfl⟩; have dc : Below w.heap.size w W0 := by rw [hW0]; exact nb0 _ _
   have hH : W0.heap[w.heap.size]? = some (.cells #[.int .i64 t.kind, .int .i64 t.mat, .int .i64 t.part, .slice an t.names.length cn, .slice ak t.keys.length ck, .bool t.over, .int .i64 t.limit, .slice at' t.tests.length ct] 199) := by rw [hW0]; exact az w _
   have kW : Hid (WordsAt W0) := HW.out.next dc; have b9 : Hid _ := hW0; have cj : Hid _ := dc; clear hW0 dc; obtain ⟨g0, g1, g2, g3, g4, g5, g6, g7⟩ := bx8 hH; clear hH; have HF := jky t; go_enter Tryz.func197, Tryz.ntmps197; go_wp2; rw [<- b9.out]
   go_region_held3 (fun w' => w'.cell? ⟨w.heap.size, 0, none⟩ = some (.int .i64 t.kind) /\ w'.cell? ⟨w.heap.size, 1, none⟩ = some (.int .i64 t.mat) /\ w'.cell? ⟨w.heap.size, 2, none⟩ = some (.int .i64 t.part) /\
        w'.cell? ⟨w.heap.size, 3, none⟩ = some (.slice an t.names.length cn) /\ w'.cell? ⟨w.heap.size, 4, none⟩ = some (.slice ak t.keys.length ck) /\ w'.cell? ⟨w.heap.size, 5, none⟩ = some (.bool t.over) /\
        w'.cell? ⟨w.heap.size, 6, none⟩ = some (.int .i64 t.limit) /\ w'.cell? ⟨w.heap.size, 7, none⟩ = some (.slice at' t.tests.length ct)) (go_keep)
    (first
        | (go_at_call 195
           refine (jag 1 (by omega) t.kind _ (by first | exact kW.out | exact kX.out)).mono ?_; rintro e u ⟨rfl, hu⟩; have b6 := hu.symm; subst b6)
        | (go_at_call 226
           refine (jf0 _ _ _ _ _ _ _ _ _ _ _ _ _ _ _ (by exact kW.out)).mono ?_; rintro e u2 ⟨rfl, hb⟩; have kX : Hid (WordsAt u2) := kW.out.next (w := W0.drew) hb; have d0 : u2.cell? ⟨w.heap.size, 0, none⟩ = some (.int .i64 t.kind) := ja (w := W0.drew) g0 hb; have d1 : u2.cell? ⟨w.heap.size, 1, none⟩ = some (.int .i64 t.mat) := ja (w := W0.drew) g1 hb; have d2 : u2.cell? ⟨w.heap.size, 2, none⟩ = some (.int .i64 t.part) := ja (w := W0.drew) g2 hb; have d3 : u2.cell? ⟨w.heap.size, 3, none⟩ = some (.slice an t.names.length cn) := ja (w := W0.drew) g3 hb; have d4 : u2.cell? ⟨w.heap.size, 4, none⟩ = some (.slice ak t.keys.length ck) := ja (w := W0.drew) g4 hb; have d5 : u2.cell? ⟨w.heap.size, 5, none⟩ = some (.bool t.over) := ja (w := W0.drew) g5 hb; have d6 : u2.cell? ⟨w.heap.size, 6, none⟩ = some (.int .i64 t.limit) := ja (w := W0.drew) g6 hb; have d7 : u2.cell? ⟨w.heap.size, 7, none⟩ = some (.slice at' t.tests.length ct) := ja (w := W0.drew) g7 hb)
        | (go_at_call 194
           refine (jb7 _ _ _ _).mono ?_; rintro e u ⟨rfl, hu⟩; have b6 := hu.symm; subst b6))
   have bY : Hid (Below w.heap.size w u2) := (cj.out.drew).trans (hb.mono cj.out.drew.size); rw [<- HF, jhV]; obtain ⟨x, hx⟩ : ∃ x, x = oneP (jQ 1 t.kind) d (jc8 t) := ⟨_, rfl⟩; rw [<- hx]
   by_cases hx0 : x = 0
   . have oq : d <= 6 := by
        rw [hx0] at hx; unfold oneP at hx
        rcases bz 6 d with h | h
        . rw [if_pos h] at hx; split at hx <;> cases hx
        . exact h
     have HR : Hid (jt (n + 1) d t = jj (jt n (d + 1)) t.tests) := by
        unfold Hid jt; rw [<- hx, if_pos hx0]
     have uO : (d : Int) <= 6 := by omega
     have uP : (0 : Int) <= (d : Int) := by omega
     subst hx0; have kP : Hid (TstsM anyB n u2 (.slice at' t.tests.length ct) t.tests) := RowM.imp H3.out (fun _ h => h) (Keeps.of_below bY.out) fun _ _ h => TstM.imp (fun _ h => h) (Keeps.of_below bY.out) _ _ _ h
     have hmx := kP.out.small; unfold maxLen at hmx; clear hx HF hb H3 cj kW HW g0 g1 g2 g3 g4 g5 g6 g7 b9; go_wp2
     go_loopw [22] (fun v wr => ∃ i : Nat, i <= t.tests.length /\ v = .int .i64 i /\ Below w.heap.size w wr /\ Below u2.heap.size u2 wr /\ Hid (jt (n + 1) d t = jj (jt n (d + 1)) (t.tests.drop i))) (fun v _ => t.tests.length - (intOf v).toNat)
     case atStart => exact ⟨0, aQ _, rfl, bY.out, ay _ _, HR⟩
     case round =>
        obtain ⟨i, hi, rfl, cS, fU, hN⟩ := hrel; have dA : Hid _ := cS; have l5 : Hid _ := fU
        by_cases hlt : i < t.tests.length
        . have i1 : (i : Int) < (t.tests.length : Int) := by omega
          have i3 : (0 : Int) <= (i : Int) := by omega
          obtain ⟨x, hx⟩ : ∃ x, t.tests[i]? = some x := ⟨_, aw hlt⟩; obtain ⟨b, o, an', cn', ak', ck', at2, ct2, rfl, hbl, e0, e1, e2, e3, e4, e5, e6, e7, hT⟩ := jf2 (kP.out.next fU) hx; have cY : Hid (jt (n + 1) d t = if jt n (d + 1) x = 0 then jj (jt n (d + 1)) (t.tests.drop (i + 1)) else jt n (d + 1) x) := by
            unfold Hid; rw [hN.out, aT hlt]; rw [aw hlt] at hx; cases hx; rfl
          have HT : Hid _ := hT; have dZ : Hid (WordsAt wr) := kX.out.next fU; clear hx hT hN cS fU; have cw : Below wr.heap.size wr (wr.alloc (.cells #[.int .i64 x.kind, .int .i64 x.mat, .int .i64 x.part, .slice an' x.names.length cn', .slice ak' x.keys.length ck', .bool x.over, .int .i64 x.limit, .slice at2 x.tests.length ct2] 199)) := nb0 _ _; have cu : Hid _ := cw; clear cw; go_wp2_with fail; rw [show ((d : Int) + 1) = ((d + 1 : Nat) : Int) from rfl]; refine (cR.out x (d + 1) _ _ _ _ _ _ _ (by omega) (dZ.out.next cu.out) (HT.out.next cu.out)).mono ?_; rintro e w2 ⟨rfl, hb2⟩; have dd : Below wr.heap.size wr w2 := cu.out.trans (hb2.mono cu.out.size); have bZ : Hid (Below w.heap.size w w2) := dA.out.trans (dd.mono dA.out.size); have ch : Hid (Below u2.heap.size u2 w2) := l5.out.trans (dd.mono l5.out.size); obtain ⟨y, hy⟩ : ∃ y, y = jt n (d + 1) x := ⟨_, rfl⟩; rw [<- hy]; have fm : Hid (jt (n + 1) d t = if y = 0 then jj (jt n (d + 1)) (t.tests.drop (i + 1)) else y) := by unfold Hid; rw [cY.out, <- hy]
          clear hy cY hb2 dd e0 e1 e2 e3 e4 e5 e6 e7
          by_cases hy : y = 0
          . have dY : Hid (jt (n + 1) d t = jj (jt n (d + 1)) (t.tests.drop (i + 1))) := by unfold Hid; rw [fm.out, if_pos hy]
            subst hy; go_wp2; exact ⟨⟨i + 1, by omega, by go_num, bZ.out, ch.out, dY⟩, by simp [intOf]; omega⟩
          . have dY : Hid (jt (n + 1) d t = y) := by unfold Hid; rw [fm.out, if_neg hy]
            go_wp2; go_ret; exact ⟨jd dY.out.symm, bZ.out⟩
        . have i1 : ¬ (i : Int) < (t.tests.length : Int) := by omega
          have HE : Hid (jt (n + 1) d t = 0) := by unfold Hid; rw [hN.out, aZ (by omega)]; rfl
          go_wp2; go_ret; exact ⟨jd HE.out.symm, dA.out⟩
   . have HR : Hid (jt (n + 1) d t = x) := by
        unfold Hid jt; rw [<- hx, if_neg hx0]
     clear hx HF; go_wp2; go_ret; exact ⟨jd HR.out.symm, bY.out⟩
theorem zN {c : Cmd} (h : CmdM Q n w c cs) : ∃ ax cx an cn ak ck at' ct aa ca ae ce m, n = m + 1 /\
 cs = [.int .i64 c.kind, .slice ax c.texts.length cx, .int .i64 c.test.kind, .int .i64 c.test.mat, .int .i64 c.test.part, .slice an c.test.names.length cn, .slice ak c.test.keys.length ck, .bool c.test.over, .int .i64 c.test.limit, .slice at' c.test.tests.length ct, .slice aa c.thn.length ca, .slice ae c.els.length ce] /\
 TxtsM Q w (.slice ax c.texts.length cx) c.texts /\ TstM Q m w c.test [.int .i64 c.test.kind, .int .i64 c.test.mat, .int .i64 c.test.part, .slice an c.test.names.length cn, .slice ak c.test.keys.length ck, .bool c.test.over, .int .i64 c.test.limit, .slice at' c.test.tests.length ct] /\ CmdsM Q m w (.slice aa c.thn.length ca) c.thn /\ CmdsM Q m w (.slice ae c.els.length ce) c.els := by
 cases n with
 | zero => exact h.elim
 | succ m =>
   obtain ⟨vx, vn, vk, vt, va, ve, h0, h1, h2, h3, h4⟩ := h; obtain ⟨ax, cx, rfl⟩ := h1.slice; obtain ⟨aa, ca, rfl⟩ := h3.slice; obtain ⟨ae, ce, rfl⟩ := h4.slice; obtain ⟨an, cn, ak, ck, at', ct, k, _, he, _⟩ := zV h2; simp only [List.cons.injEq, true_and, and_true] at he; obtain ⟨rfl, rfl, rfl⟩ := he; exact ⟨ax, cx, an, cn, ak, ck, at', ct, aa, ca, ae, ce, m, rfl, h0, h1, h2, h3, h4⟩
theorem jaX {l : List Cmd} (h : CmdsM Q n w (.slice a l.length c) l) {x : Cmd} (hx : l[i]? = some x) :
 ∃ b o ax cx an cn ak ck at' ct aa ca ae ce, a = some ⟨b, o, none⟩ /\ b < w.heap.size /\
   w.cell? ⟨b, o + i * 12, none⟩ = some (.int .i64 x.kind) /\
   w.cell? ⟨b, o + i * 12 + 1, none⟩ = some (.slice ax x.texts.length cx) /\
   w.cell? ⟨b, o + i * 12 + 2, none⟩ = some (.int .i64 x.test.kind) /\
   w.cell? ⟨b, o + i * 12 + 3, none⟩ = some (.int .i64 x.test.mat) /\
   w.cell? ⟨b, o + i * 12 + 4, none⟩ = some (.int .i64 x.test.part) /\
   w.cell? ⟨b, o + i * 12 + 5, none⟩ = some (.slice an x.test.names.length cn) /\
   w.cell? ⟨b, o + i * 12 + 6, none⟩ = some (.slice ak x.test.keys.length ck) /\
   w.cell? ⟨b, o + i * 12 + 7, none⟩ = some (.bool x.test.over) /\
   w.cell? ⟨b, o + i * 12 + 8, none⟩ = some (.int .i64 x.test.limit) /\
   w.cell? ⟨b, o + i * 12 + 9, none⟩ = some (.slice at' x.test.tests.length ct) /\
   w.cell? ⟨b, o + i * 12 + 10, none⟩ = some (.slice aa x.thn.length ca) /\
   w.cell? ⟨b, o + i * 12 + 11, none⟩ = some (.slice ae x.els.length ce) /\
   CmdM Q n w x [.int .i64 x.kind, .slice ax x.texts.length cx, .int .i64 x.test.kind, .int .i64 x.test.mat, .int .i64 x.test.part, .slice an x.test.names.length cn, .slice ak x.test.keys.length ck, .bool x.test.over, .int .i64 x.test.limit, .slice at' x.test.tests.length ct, .slice aa x.thn.length ca, .slice ae x.els.length ce] := by
 obtain ⟨a', c', hv, _, hr⟩ := h; simp only [aE, true_and] at hv; obtain ⟨rfl, rfl⟩ := hv; obtain ⟨b, o, cs, ha, hb, _, _, hc, hP⟩ := hr i x hx; obtain ⟨ax, cx, an, cn, ak, ck, at', ct, aa, ca, ae, ce, m, _, rfl, _⟩ := zN hP; exact ⟨b, o, ax, cx, an, cn, ak, ck, at', ct, aa, ca, ae, ce, ha, hb, hc 0 _ rfl, hc 1 _ rfl, hc 2 _ rfl, hc 3 _ rfl, hc 4 _ rfl, hc 5 _ rfl, hc 6 _ rfl, hc 7 _ rfl, hc 8 _ rfl, hc 9 _ rfl, hc 10 _ rfl, hc 11 _ rfl, hP⟩
theorem jcC (c : Cmd) (ax an ak at' aa ae : Option Addr) (cx cn ck ct ca ce : Nat) (w : World) :
 Calls Tryz.prog 196 #[.agg #[.int .i64 c.kind, .slice ax c.texts.length cx, .int .i64 c.test.kind, .int .i64 c.test.mat, .int .i64 c.test.part, .slice an c.test.names.length cn, .slice ak c.test.keys.length ck, .bool c.test.over, .int .i64 c.test.limit, .slice at' c.test.tests.length ct, .slice aa c.thn.length ca, .slice ae c.els.length ce]] w fun e w' => e = .returned (.bool (jad c)) /\ Below w.heap.size w w' := by
 by_cases h2 : c.kind = 2
 . have HR : Hid (jad c = decide (c.texts.length = 0)) := by unfold Hid jad; simp [h2]
   go_enter Tryz.func196, Tryz.ntmps196; go_wp2_with fail; go_ret; exact ⟨jc (by rw [HR.out]; rw [Bool.eq_iff_iff]; simp <;> omega), nb0 _ _⟩
 . obtain ⟨y, hy⟩ : ∃ y : Bool, y = decide (0 < c.thn.length ∨ 0 < c.els.length ∨ jem c.test = false) := ⟨_, rfl⟩; have HR : Hid (jad c = if y = true then false else if c.kind = 1 ∨ c.kind = 8 ∨ c.kind = 9 then decide (0 < c.texts.length) else if c.kind = 5 ∨ c.kind = 6 ∨ c.kind = 7 then decide (c.texts.length = 1) else decide (c.texts.length = 0)) := by
    unfold Hid jad; rw [hy]; simp [h2]
   have HY : Hid (y = decide (0 < c.thn.length ∨ 0 < c.els.length ∨ noB c.test.kind c.test.mat c.test.part c.test.names.length c.test.keys.length c.test.over c.test.limit c.test.tests.length = false)) := hy; clear hy; generalize c.thn.length = l1 at *; generalize c.els.length = l2 at *; have dW : (c.kind != 2) = true := by simpa using h2
   rcases Nat.eq_zero_or_pos l1 with rfl | dy
   . rcases Nat.eq_zero_or_pos l2 with rfl | hl2
     . go_enter Tryz.func196, Tryz.ntmps196; go_wp2_with fail; refine (zE _ _ _ _ _ _ _ _ _ _ _ _ _ _ _).mono ?_; rintro e u ⟨rfl, hb⟩; have hB : u.heap[w.heap.size]? = some (.cells #[.int .i64 c.kind, .slice ax c.texts.length cx, .int .i64 c.test.kind, .int .i64 c.test.mat, .int .i64 c.test.part, .slice an c.test.names.length cn, .slice ak c.test.keys.length ck, .bool c.test.over, .int .i64 c.test.limit, .slice at' c.test.tests.length ct, .slice aa 0 ca, .slice ae 0 ce] 201) := (hb.block _ (by simp)).trans (az w _); have g0 : u.cell? ⟨w.heap.size, 0, none⟩ = some (.int .i64 c.kind) := by simp [World.cell?, hB]
       have g1 : u.cell? ⟨w.heap.size, 1, none⟩ = some (.slice ax c.texts.length cx) := by simp [World.cell?, hB]
       have HB : Hid (Below w.heap.size w u) := (nb0 _ _).trans (hb.mono (by simp)); obtain ⟨q, hq⟩ : ∃ q, q = noB c.test.kind c.test.mat c.test.part c.test.names.length c.test.keys.length c.test.over c.test.limit c.test.tests.length := ⟨_, rfl⟩; rw [<- hq]; have i7 : Hid (y = !q) := by unfold Hid; rw [HY.out, <- hq]; cases q <;> simp
       clear hq HY hB hb; cases q with
       | false =>
         go_wp2; go_ret; exact ⟨jc (by rw [HR.out, i7.out]; rfl), HB.out⟩
       | true =>
         have cD : Hid (jad c = if c.kind = 1 ∨ c.kind = 8 ∨ c.kind = 9 then decide (0 < c.texts.length) else if c.kind = 5 ∨ c.kind = 6 ∨ c.kind = 7 then decide (c.texts.length = 1) else decide (c.texts.length = 0)) := by unfold Hid; rw [HR.out, i7.out]; rfl
         clear HR i7; generalize c.texts.length = l3 at *; generalize c.kind = kk at *; go_wp2
         all_goals go_ret
         all_goals refine ⟨jc ?_, HB.out⟩
         all_goals rw [cD.out, Bool.eq_iff_iff]
         all_goals simp only [beq_iff_eq, bA, ne_eq] at *
         all_goals (repeat' split) <;> simp <;> omega
     . have cD : Hid (jad c = false) := by unfold Hid; rw [HR.out, HY.out]; simp [hl2]
       have fG : (0 : Int) < (l2 : Int) := by omega
       go_enter Tryz.func196, Tryz.ntmps196; go_wp2_with fail; go_ret; exact ⟨jc (by rw [cD.out]), nb0 _ _⟩
   . have cD : Hid (jad c = false) := by unfold Hid; rw [HR.out, HY.out]; simp [dy]
     have eM : (0 : Int) < (l1 : Int) := by omega
     go_enter Tryz.func196, Tryz.ntmps196; go_wp2_with fail; go_ret; exact ⟨jc (by rw [cD.out]), nb0 _ _⟩
theorem jkm {l : List Cmd} (h : l.length ≠ 1) : zt l = none := by
 match l with
 | [] => rfl
 | [c] => simp at h
 | a :: b :: r => rfl
theorem jcI (n : Nat) (l : List Cmd) (a : Option Addr) (c : Nat) (w : World) (h : CmdsM anyB n w (.slice a l.length c) l) :
 Calls Tryz.prog 198 #[.slice a l.length c] w fun e w' => e = .returned (.bool (zt l).isSome) /\ w' = w := by
 by_cases h1 : l.length = 1
 . obtain ⟨x, rfl⟩ : ∃ x, l = [x] := List.length_eq_one_iff.1 h1; obtain ⟨b, o, ax, cx, an, cn, ak, ck, at', ct, aa, ca, ae, ce, rfl, hbl, e0, _⟩ := jaX h (i := 0) (x := x) rfl; rw [Nat.zero_mul, bC] at e0; clear h; have HR : Hid ((zt [x]).isSome = decide (x.kind = 2)) := by unfold Hid zt; by_cases h : x.kind = 2 <;> simp [h]
   go_enter Tryz.func198, Tryz.ntmps198; go_wp2; go_ret; exact ⟨jc (by rw [HR.out, Bool.eq_iff_iff]; simp), rfl⟩
 . have HR : Hid ((zt l).isSome = false) := by unfold Hid; rw [jkm h1]; rfl
   have pp : ((l.length : Int) == 1) = false := by rw [bA]; omega
   go_enter Tryz.func198, Tryz.ntmps198; go_wp2; go_ret; exact ⟨jc (by rw [HR.out]), rfl⟩
def ChkC (n : Nat) : Prop := ∀ (c : Cmd) (d : Nat) (w : World) (ax an ak at' aa ae : Option Addr) (cx cn ck ct ca ce : Nat), d <= 7 -> WordsAt w -> CmdM anyB n w c [.int .i64 c.kind, .slice ax c.texts.length cx, .int .i64 c.test.kind, .int .i64 c.test.mat, .int .i64 c.test.part, .slice an c.test.names.length cn, .slice ak c.test.keys.length ck, .bool c.test.over, .int .i64 c.test.limit, .slice at' c.test.tests.length ct, .slice aa c.thn.length ca, .slice ae c.els.length ce] ->
    Calls Tryz.prog 160 #[.agg #[.int .i64 c.kind, .slice ax c.texts.length cx, .int .i64 c.test.kind, .int .i64 c.test.mat, .int .i64 c.test.part, .slice an c.test.names.length cn, .slice ak c.test.keys.length ck, .bool c.test.over, .int .i64 c.test.limit, .slice at' c.test.tests.length ct, .slice aa c.thn.length ca, .slice ae c.els.length ce], .int .i64 d] w fun e w' => e = .returned (.int .i64 (jp n d c)) /\ Below w.heap.size w w'
theorem qm (n : Nat) (ih : ChkC n) (l : List Cmd) (d : Nat) (w : World) (a : Option Addr) (k : Nat) (hd : d <= 7) (hw : WordsAt w) (h : CmdsM anyB n w (.slice a l.length k) l) :
 Calls Tryz.prog 119 #[.slice a l.length k, .int .i64 d] w fun e w' => e = .returned (.int .i64 (jS n d l)) /\ Below w.heap.size w w' := by
 have H3 : Hid (CmdsM anyB n w (.slice a l.length k) l) := h; have cR : Hid (ChkC n) := ih; have HW : Hid (WordsAt w) := hw; have hmx := h.small; unfold maxLen at hmx; clear h ih hw; have HR : Hid (jS n d l = jj (jp n d) (l.drop 0)) := rfl; go_enter Tryz.func119, Tryz.ntmps119; go_wp2
 go_loopw [10] (fun v wr => ∃ i : Nat, i <= l.length /\ v = .int .i64 i /\ Below w.heap.size w wr /\ Hid (jS n d l = jj (jp n d) (l.drop i))) (fun v _ => l.length - (intOf v).toNat)
 case atStart => exact ⟨0, aQ _, rfl, ay _ _, HR⟩
 case round =>
  obtain ⟨i, hi, rfl, cS, hN⟩ := hrel; have dA : Hid _ := cS
  by_cases hlt : i < l.length
  . have i1 : (i : Int) < (l.length : Int) := by omega
    have i3 : (0 : Int) <= (i : Int) := by omega
    obtain ⟨x, hx⟩ : ∃ x, l[i]? = some x := ⟨_, aw hlt⟩; obtain ⟨b, o, ax, cx, an, cn, ak, ck, at', ct, aa, ca, ae, ce, rfl, hbl, e0, e1, e2, e3, e4, e5, e6, e7, e8, e9, e10, e11, hT⟩ := jaX (H3.out.next cS) hx; have cY : Hid (jS n d l = if jp n d x = 0 then jj (jp n d) (l.drop (i + 1)) else jp n d x) := by
        unfold Hid; rw [hN.out, aT hlt]; rw [aw hlt] at hx; cases hx; rfl
    have HT : Hid _ := hT; have dZ : Hid (WordsAt wr) := HW.out.next cS; have cw : Below wr.heap.size wr (wr.alloc (.cells #[.int .i64 x.kind, .slice ax x.texts.length cx, .int .i64 x.test.kind, .int .i64 x.test.mat, .int .i64 x.test.part, .slice an x.test.names.length cn, .slice ak x.test.keys.length ck, .bool x.test.over, .int .i64 x.test.limit, .slice at' x.test.tests.length ct, .slice aa x.thn.length ca, .slice ae x.els.length ce] 201)) := nb0 _ _; have cu : Hid _ := cw; clear hx hT hN cS cw; go_wp2_with fail; refine (cR.out x d _ _ _ _ _ _ _ _ _ _ _ _ _ hd (dZ.out.next cu.out) (HT.out.next cu.out)).mono ?_; rintro e w2 ⟨rfl, hb2⟩; have dd : Below wr.heap.size wr w2 := cu.out.trans (hb2.mono cu.out.size); have bZ : Hid (Below w.heap.size w w2) := dA.out.trans (dd.mono dA.out.size); obtain ⟨y, hy⟩ : ∃ y, y = jp n d x := ⟨_, rfl⟩; rw [<- hy]; have fm : Hid (jS n d l = if y = 0 then jj (jp n d) (l.drop (i + 1)) else y) := by unfold Hid; rw [cY.out, <- hy]
    clear hy cY hb2 dd e0 e1 e2 e3 e4 e5 e6 e7 e8 e9 e10 e11
    by_cases hy : y = 0
    . have dY : Hid (jS n d l = jj (jp n d) (l.drop (i + 1))) := by unfold Hid; rw [fm.out, if_pos hy]
      subst hy; go_wp2; exact ⟨⟨i + 1, by omega, by go_num, bZ.out, dY⟩, by simp [intOf]; omega⟩
    . have dY : Hid (jS n d l = y) := by unfold Hid; rw [fm.out, if_neg hy]
      go_wp2; go_ret; exact ⟨jd dY.out.symm, bZ.out⟩
  . have i1 : ¬ (i : Int) < (l.length : Int) := by omega
    have HE : Hid (jS n d l = 0) := by unfold Hid; rw [hN.out, aZ (by omega)]; rfl
    go_wp2; go_ret; exact ⟨jd HE.out.symm, dA.out⟩
theorem jcd (n : Nat) : ChkC n := by
 induction n with
 | zero => intro c d w ax an ak at' aa ae cx cn ck ct ca ce _ _ h; exact h.elim
 | succ n ih =>
   intro c d w ax an ak at' aa ae cx cn ck ct ca ce hd hw hC; obtain ⟨_, _, _, _, _, _, _, _, _, _, _, _, m, hm, he, h1, h2, h3, h4⟩ := zN hC; simp only [List.cons.injEq, aE, true_and, and_true] at he; obtain ⟨⟨rfl, rfl⟩, ⟨rfl, rfl⟩, ⟨rfl, rfl⟩, ⟨rfl, rfl⟩, ⟨rfl, rfl⟩, rfl, rfl⟩ := he; obtain rfl : n = m := by omega
   clear hm hC; have H2 : Hid (TstM anyB n w c.test [.int .i64 c.test.kind, .int .i64 c.test.mat, .int .i64 c.test.part, .slice an c.test.names.length cn, .slice ak c.test.keys.length ck, .bool c.test.over, .int .i64 c.test.limit, .slice at' c.test.tests.length ct]) := h2; have H3 : Hid (CmdsM anyB n w (.slice aa c.thn.length ca) c.thn) := h3; have H4 : Hid (CmdsM anyB n w (.slice ae c.els.length ce) c.els) := h4; have cR : Hid (ChkC n) := ih; have HW : Hid (WordsAt w) := hw; clear h1 h2 h3 h4 ih hw; obtain ⟨W0, hW0⟩ : ∃ W0, W0 = w.alloc (.cells #[.int .i64 c.kind, .slice ax c.texts.length cx, .int .i64 c.test.kind, .int .i64 c.test.mat, .int .i64 c.test.part, .slice an c.test.names.length cn, .slice ak c.test.keys.length ck, .bool c.test.over, .int .i64 c.test.limit, .slice at' c.test.tests.length ct, .slice aa c.thn.length ca, .slice ae c.els.length ce] 201) := ⟨_, rfl⟩; have dc : Below w.heap.size w W0 := by rw [hW0]; exact nb0 _ _
   have hH : W0.heap[w.heap.size]? = some (.cells #[.int .i64 c.kind, .slice ax c.texts.length cx, .int .i64 c.test.kind, .int .i64 c.test.mat, .int .i64 c.test.part, .slice an c.test.names.length cn, .slice ak c.test.keys.length ck, .bool c.test.over, .int .i64 c.test.limit, .slice at' c.test.tests.length ct, .slice aa c.thn.length ca, .slice ae c.els.length ce] 201) := by rw [hW0]; exact az w _
   have kW : Hid (WordsAt W0) := HW.out.next dc; have b9 : Hid _ := hW0; have cj : Hid _ := dc; have hsz : w.heap.size < W0.heap.size := by rw [hW0]; simp
   clear hW0 dc; obtain ⟨g0, g1, g2, g3, g4, g5, g6, g7, g8, g9, g10, g11⟩ := bx12 hH; clear hH; go_enter Tryz.func160, Tryz.ntmps160; go_wp2; rw [<- b9.out]
   go_region_held3 (fun w' => w'.cell? ⟨w.heap.size, 0, none⟩ = some (.int .i64 c.kind) /\ w'.cell? ⟨w.heap.size, 1, none⟩ = some (.slice ax c.texts.length cx) /\ w'.cell? ⟨w.heap.size, 2, none⟩ = some (.int .i64 c.test.kind) /\ w'.cell? ⟨w.heap.size, 3, none⟩ = some (.int .i64 c.test.mat) /\ w'.cell? ⟨w.heap.size, 4, none⟩ = some (.int .i64 c.test.part) /\ w'.cell? ⟨w.heap.size, 5, none⟩ = some (.slice an c.test.names.length cn) /\ w'.cell? ⟨w.heap.size, 6, none⟩ = some (.slice ak c.test.keys.length ck) /\ w'.cell? ⟨w.heap.size, 7, none⟩ = some (.bool c.test.over) /\ w'.cell? ⟨w.heap.size, 8, none⟩ = some (.int .i64 c.test.limit) /\ w'.cell? ⟨w.heap.size, 9, none⟩ = some (.slice at' c.test.tests.length ct) /\ w'.cell? ⟨w.heap.size, 10, none⟩ = some (.slice aa c.thn.length ca) /\ w'.cell? ⟨w.heap.size, 11, none⟩ = some (.slice ae c.els.length ce)) (go_keep)
    (first
        | (go_at_call 195
           refine (jag 0 (by omega) c.kind _ (by first | exact kW.out | exact kX.out)).mono ?_; rintro e u ⟨rfl, hu⟩; have b6 := hu.symm; subst b6)
        | (go_at_call 196
           refine (jcC c _ _ _ _ _ _ _ _ _ _ _ _ _).mono ?_; rintro e u2 ⟨rfl, hb⟩; have kX : Hid (WordsAt u2) := kW.out.next (w := W0.drew) hb; have d0 : u2.cell? ⟨w.heap.size, 0, none⟩ = some (.int .i64 c.kind) := ja (w := W0.drew) g0 hb; have d1 : u2.cell? ⟨w.heap.size, 1, none⟩ = some (.slice ax c.texts.length cx) := ja (w := W0.drew) g1 hb; have d2 : u2.cell? ⟨w.heap.size, 2, none⟩ = some (.int .i64 c.test.kind) := ja (w := W0.drew) g2 hb; have d3 : u2.cell? ⟨w.heap.size, 3, none⟩ = some (.int .i64 c.test.mat) := ja (w := W0.drew) g3 hb; have d4 : u2.cell? ⟨w.heap.size, 4, none⟩ = some (.int .i64 c.test.part) := ja (w := W0.drew) g4 hb; have d5 : u2.cell? ⟨w.heap.size, 5, none⟩ = some (.slice an c.test.names.length cn) := ja (w := W0.drew) g5 hb; have d6 : u2.cell? ⟨w.heap.size, 6, none⟩ = some (.slice ak c.test.keys.length ck) := ja (w := W0.drew) g6 hb; have d7 : u2.cell? ⟨w.heap.size, 7, none⟩ = some (.bool c.test.over) := ja (w := W0.drew) g7 hb; have d8 : u2.cell? ⟨w.heap.size, 8, none⟩ = some (.int .i64 c.test.limit) := ja (w := W0.drew) g8 hb; have d9 : u2.cell? ⟨w.heap.size, 9, none⟩ = some (.slice at' c.test.tests.length ct) := ja (w := W0.drew) g9 hb; have d10 : u2.cell? ⟨w.heap.size, 10, none⟩ = some (.slice aa c.thn.length ca) := ja (w := W0.drew) g10 hb; have d11 : u2.cell? ⟨w.heap.size, 11, none⟩ = some (.slice ae c.els.length ce) := ja (w := W0.drew) g11 hb)
        | (go_at_call 194
           refine (jb7 _ _ _ _).mono ?_; rintro e u ⟨rfl, hu⟩; have b6 := hu.symm; subst b6))
   have bY : Hid (Below w.heap.size w u2) := (cj.out.drew).trans (hb.mono cj.out.drew.size); have nG : w.heap.size < u2.heap.size := by have := hb.size; have h2 : W0.drew.heap.size = W0.heap.size := rfl; omega
   rw [jhV]; obtain ⟨x, hx⟩ : ∃ x, x = oneP (jQ 0 c.kind) d (jad c) := ⟨_, rfl⟩; rw [<- hx]
   by_cases hx0 : x = 0
   . have oq : d <= 6 := by
        rw [hx0] at hx; unfold oneP at hx
        rcases bz 6 d with h | h
        . rw [if_pos h] at hx; split at hx <;> cases hx
        . exact h
     have dj := vI n d c; rw [<- hx, if_neg (by simpa using hx0)] at dj; have HR : Hid _ := dj; clear dj; have uO : (d : Int) <= 6 := by omega
     have uP : (0 : Int) <= (d : Int) := by omega
     subst hx0; clear hx hb cj kW g0 g1 g2 g3 g4 g5 g6 g7 g8 g9 g10 g11 b9 hu
     by_cases hk : c.kind = 2
     . have dF : (c.kind != 2) = false := by simp [hk]
       rw [if_neg (by simpa using hk)] at HR; go_wp2_with fail; have ld := jdZ n c.test 1 u2 an ak at' cn ck ct (by omega) kX.out (TstM.imp (fun _ h => h) (Keeps.of_below bY.out) _ _ _ H2.out); refine ld.mono ?_; clear ld; rintro e w3 ⟨rfl, hb3⟩; have pm : Hid (WordsAt w3) := kX.out.next hb3; have bZ : Hid (Below w.heap.size w w3) := bY.out.trans (hb3.mono bY.out.size); have k10 := ja d10 hb3; have k11 := ja d11 hb3; have nH : w.heap.size < w3.heap.size := aK nG hb3.size; obtain ⟨y, hy⟩ : ∃ y, y = jt n 1 c.test := ⟨_, rfl⟩; rw [<- hy]; rw [<- hy] at HR; clear hy hb3
       by_cases hy : y = 0
       . rw [if_neg (by simpa using hy)] at HR; subst hy; go_wp2_with fail; rw [show ((d : Int) + 1) = ((d + 1 : Nat) : Int) from rfl]; have ee := qm n cR.out c.thn (d + 1) w3 aa ca (by omega) pm.out (RowM.imp H3.out (fun _ h => h) (Keeps.of_below bZ.out) fun _ _ h => CmdM.imp (fun _ h => h) (Keeps.of_below bZ.out) _ _ _ h); refine ee.mono ?_; clear ee; rintro e w4 ⟨rfl, hb4⟩; have pn : Hid (WordsAt w4) := pm.out.next hb4; have ch : Hid (Below w.heap.size w w4) := bZ.out.trans (hb4.mono bZ.out.size); have m11 := ja k11 hb4; obtain ⟨z, hz⟩ : ∃ z, z = jS n (d + 1) c.thn := ⟨_, rfl⟩; rw [<- hz]; have hz' : z = jj (jp n (d + 1)) c.thn := hz; rw [<- hz'] at HR; clear hz hz' hb4
         by_cases hz : z = 0
         . rw [if_neg (by simpa using hz)] at HR; subst hz; have wR : CmdsM anyB n w4 (.slice ae c.els.length ce) c.els := RowM.imp H4.out (fun _ h => h) (Keeps.of_below ch.out) fun _ _ h => CmdM.imp (fun _ h => h) (Keeps.of_below ch.out) _ _ _ h
           have oR : Hid _ := wR; clear wR; go_wp2_with fail; have dM := jcI n c.els ae ce w4 oR.out; refine dM.mono ?_; clear dM; rintro e w5 ⟨rfl, fM⟩; have wK := fM.symm; subst wK; cases pK : zt c.els with
           | some x =>
             rw [pK] at HR; obtain ⟨gr, ov⟩ := vH pK; have dV : c.els.length = 1 := by rw [gr]; rfl
             obtain ⟨b, o, ax2, cx2, an2, cn2, ak2, ck2, at2, ct2, aa2, ca2, ae2, ce2, rfl, hbl, e0, e1, e2, e3, e4, e5, e6, e7, e8, e9, e10, e11, hT⟩ := jaX oR.out (i := 0) (x := x) (by rw [gr]; rfl); rw [Nat.zero_mul, bC] at e0 e1 e2 e3 e4 e5 e6 e7 e8 e9 e10 e11; have HT : Hid _ := hT; clear hT pK gr ov; rw [dV]; rw [dV] at m11; go_wp2_with fail; have hJ := cR.out x d w4 _ _ _ _ _ _ _ _ _ _ _ _ hd pn.out HT.out; refine hJ.mono ?_; clear hJ; rintro e w6 ⟨rfl, oh⟩; go_wp2; go_ret; exact ⟨jd HR.out.symm, ch.out.trans (oh.mono ch.out.size)⟩
           | none =>
             rw [pK] at HR; clear pK; go_wp2_with fail; rw [show ((d : Int) + 1) = ((d + 1 : Nat) : Int) from rfl]; have hJ := qm n cR.out c.els (d + 1) w4 ae ce (by omega) pn.out oR.out; refine hJ.mono ?_; clear hJ; rintro e w6 ⟨rfl, oh⟩; go_wp2; go_ret; exact ⟨jd HR.out.symm, ch.out.trans (oh.mono ch.out.size)⟩
         . rw [if_pos hz] at HR; go_wp2; go_ret; exact ⟨jd HR.out.symm, ch.out⟩
       . rw [if_pos hy] at HR; go_wp2; go_ret; exact ⟨jd HR.out.symm, bZ.out⟩
     . have dF : (c.kind != 2) = true := by simpa using hk
       have cD : Hid (jp (n + 1) d c = 0) := by unfold Hid; rw [HR.out, if_pos hk]
       clear HR; go_wp2; go_ret; exact ⟨jd cD.out.symm, bY.out⟩
   . have HR : Hid (jp (n + 1) d c = x) := by
        unfold Hid; rw [vI, <- hx, if_pos hx0]
     clear hx; go_wp2; go_ret; exact ⟨jd HR.out.symm, bY.out⟩
def setAll (w : World) (b : Nat) : Nat -> List Value -> World
 | _, [] => w
 | o, v :: vs => setAll (w.setCell ⟨b, o, none⟩ v) b (o + 1) vs
def qR (cs : Array Value) : Nat -> List Value -> Array Value
 | _, [] => cs
 | o, v :: vs => qR (cs.setIfInBounds o v) (o + 1) vs
theorem jy : ∀ (vs : List Value) (o : Nat) (w : World) (cs : Array Value), w.heap[b]? = some (.cells cs t fr) -> (setAll w b o vs).heap[b]? = some (.cells (qR cs o vs) t fr) := by
 intro vs
 induction vs with
 | nil => intro o w cs h; exact h
 | cons v vs ih => intro o w cs h; exact ih (o + 1) _ _ (jk (i := o) v h)
theorem jm (hq : ∀ k, Q k -> k ≠ b) : ∀ (vs : List Value) (o : Nat) (w w0 : World), Keeps Q w0 w -> Keeps Q w0 (setAll w b o vs) := by
 intro vs
 induction vs with
 | nil => intro o w w0 h; exact h
 | cons v vs ih => intro o w w0 h; exact ih (o + 1) _ _ (h.trans (Keeps.set w v hq))
theorem jg (hb : B <= b) : ∀ (vs : List Value) (o : Nat) (w w0 : World), Below B w0 w -> Below B w0 (setAll w b o vs) := by
 intro vs
 induction vs with
 | nil => intro o w w0 h; exact h
 | cons v vs ih => intro o w w0 h; exact ih (o + 1) _ _ (h.setCell hb v)
theorem zk : ∀ (vs : List Value) (o : Nat) (w : World), (setAll w b o vs).heap.size = w.heap.size := by
 intro vs
 induction vs with
 | nil => intro o w; rfl
 | cons v vs ih => intro o w; exact (ih (o + 1) _).trans (by simp [World.setCell])
theorem jcr {A : Type} {P : A -> List Value -> Prop} {p : Nat} {x : A} (h : w.heap[p]? = some (.cells cs.toArray t fr)) (hk : cs.length = k) (hQ : Q p) (hP : P x cs) : RowM Q k P w (.slice (some ⟨p, 0, none⟩) 1 1) [x] := by
 refine ⟨some ⟨p, 0, none⟩, 1, rfl, by unfold maxLen; simp, fun i y hy => ?_⟩; cases i with
 | zero =>
   simp at hy
   subst hy; refine ⟨p, 0, cs, rfl, (aj.1 h).1, hQ, hk, fun j u hj => ?_, hP⟩; have : w.cell? ⟨p, j, none⟩ = cs[j]? := by simp [World.cell?, h]
   simp only [Nat.zero_mul, bc]; rw [this]; exact hj
 | succ i => simp at hy
theorem jmL {w0 : World} {cs : Array Value} (o : Nat) (vs : List Value) (obj : Obj) (h : w.heap[b]? = some (.cells cs t fr)) (hB : Below B w0 w) (hb : B <= b) (cs' : Array Value) (hcs : qR cs o vs = cs') :
 ((setAll w b o vs).alloc obj).heap[b]? = some (.cells cs' t fr) /\ ((setAll w b o vs).alloc obj).heap[w.heap.size]? = some obj /\ Keeps (fun k => b < k) w ((setAll w b o vs).alloc obj) /\ Below B w0 ((setAll w b o vs).alloc obj) /\ w.heap.size < ((setAll w b o vs).alloc obj).heap.size := by
 have hlt : b < w.heap.size := (aj.1 h).1; have hz : (setAll w b o vs).heap.size = w.heap.size := zk vs o w; refine ⟨?_, ?_, ?_, ?_, ?_⟩
 . have e : ((setAll w b o vs).alloc obj).heap[b]? = (setAll w b o vs).heap[b]? := by
    show ((setAll w b o vs).heap.push obj)[b]? = _
    rw [bm (by omega), aY (by omega)]
   rw [e, <- hcs]; exact jy vs o w cs h
 . rw [<- hz]; exact az _ _
 . exact (jm (fun k hk => by omega) vs o w w (Keeps.refl _ _)).more obj
 . exact (jg hb vs o w w0 hB).alloc (by rw [hz]; omega) _
 . have : ((setAll w b o vs).alloc obj).heap.size = (setAll w b o vs).heap.size + 1 := by simp
   omega
theorem RowM.both {A : Type} {P P' : A -> List Value -> Prop} {l : List A} (h : RowM Q k P w v l) (hp : ∀ x cs, P x cs -> P' x cs) : RowM (fun b => Q b /\ b < w.heap.size) k P' w v l := by
 obtain ⟨a, c, hv, hm, hx⟩ := h; refine ⟨a, c, hv, hm, fun i x hi => ?_⟩; obtain ⟨b, o, cs, ha, hb, hq, hl, hc, hP⟩ := hx i x hi; exact ⟨b, o, cs, ha, hb, ⟨hq, hb⟩, hl, hc, hp x cs hP⟩
theorem TstM.both {Q : Nat -> Prop} {w : World} : ∀ (n : Nat) (t : Tst) (cs : List Value), TstM Q n w t cs -> TstM (fun b => Q b /\ b < w.heap.size) n w t cs := by
 intro n
 induction n with
 | zero => intro t cs h; exact h
 | succ n ih =>
   intro t cs h; obtain ⟨vn, vk, vt, h0, h1, h2, h3⟩ := h; exact ⟨vn, vk, vt, h0, RowM.both h1 fun _ _ h => h, RowM.both h2 fun _ _ h => h, RowM.both h3 ih⟩
theorem CmdM.both {Q : Nat -> Prop} {w : World} : ∀ (n : Nat) (t : Cmd) (cs : List Value), CmdM Q n w t cs -> CmdM (fun b => Q b /\ b < w.heap.size) n w t cs := by
 intro n
 induction n with
 | zero => intro t cs h; exact h
 | succ n ih =>
   intro t cs h; obtain ⟨vx, vn, vk, vt, va, ve, h0, h1, h2, h3, h4⟩ := h; exact ⟨vx, vn, vk, vt, va, ve, h0, RowM.both h1 fun _ _ h => h, TstM.both _ _ _ h2, RowM.both h3 ih, RowM.both h4 ih⟩
abbrev newB' (B : Nat) : Nat -> Prop := fun k => B <= k
def Firm {A : Type} (P : (Nat -> Prop) -> World -> A -> List Value -> Prop) : Prop := ∀ (Q Q' : Nat -> Prop) (w w' : World) (x : A) (cs : List Value), (∀ b, Q b -> Q' b) -> Keeps Q w w' -> P Q w x cs -> P Q' w' x cs
theorem jaH (n : Nat) : Firm (fun Q w (t : Tst) cs => TstM Q n w t cs) := fun _ _ _ _ _ _ hq hk h => TstM.imp hq hk _ _ _ h
theorem qc (n : Nat) : Firm (fun Q w (t : Cmd) cs => CmdM Q n w t cs) := fun _ _ _ _ _ _ hq hk h => CmdM.imp hq hk _ _ _ h
abbrev rowQ (B : Nat) (w : World) (v : Value) : Nat -> Prop := fun b => B <= b /\ b < w.heap.size /\ some b ≠ v.ownBlock
def OwnRow {A : Type} (B k : Nat) (ty : TypeId) (P : (Nat -> Prop) -> World -> A -> List Value -> Prop) (w : World) (v : Value) (l : List A) : Prop :=
 ∃ css : List (List Value), w.ownsRow B ty k v l.length css.flatten /\ css.length = l.length /\ (∀ cs ∈ css, cs.length = k) /\ ∀ (i : Nat) (x : A) (cs : List Value), l[i]? = some x -> css[i]? = some cs -> P (rowQ B w v) w x cs
theorem jiO : ∀ {css : List (List Value)} {i j : Nat} {cs : List Value}, (∀ c ∈ css, c.length = k) -> css[i]? = some cs -> j < k -> css.flatten[i * k + j]? = cs[j]? := by
 intro css
 induction css with
 | nil => intro i j cs _ h _; simp at h
 | cons c css ih =>
   intro i j cs hk h hj; have hc : c.length = k := hk c (by simp); cases i with
   | zero =>
     simp at h
     subst h; simp only [Nat.zero_mul, bc, bw]; rw [bf (by omega)]
   | succ i =>
     have := ih (j := j) (fun c hc => hk c (by simp [hc])) (by simpa using h) hj; simp only [bw]; rw [bd (by rw [hc, Nat.add_mul]; omega), <- this]
     congr 1
     rw [hc, Nat.add_mul]; omega
theorem OwnRow.any {A : Type} {P : (Nat -> Prop) -> World -> A -> List Value -> Prop} {l : List A} (h : OwnRow B k ty P w v l) : ∃ a c, v = .slice a l.length c := by
 obtain ⟨css, h1, _⟩ := h
 rcases h1.2 with ⟨rfl, hn⟩ | ⟨g, cap, cur, rfl, _⟩
 . exact ⟨none, 0, by rw [hn]⟩
 . exact ⟨_, _, rfl⟩
theorem OwnRow.rowM {A : Type} {P : (Nat -> Prop) -> World -> A -> List Value -> Prop} (hP : Firm P) {l : List A} (h : OwnRow B k ty P w v l) (hm : l.length <= maxLen) : RowM (newB' B) k (P (newB' B) w) w v l := by
 obtain ⟨css, h1, h2, h3, h4⟩ := h
 rcases h1.2 with ⟨rfl, hn⟩ | ⟨g, cap, cur, rfl, hb, hg, gp, hcm, hcs, gC⟩
 . have : l = [] := bh.1 hn; subst this; exact jh _ _ _ _ _ _
 . refine ⟨some ⟨g, 0, none⟩, cap, rfl, hm, fun i x hx => ?_⟩; have hi : i < l.length := (au.1 hx).1; obtain ⟨cs, gq⟩ : ∃ cs, css[i]? = some cs := ⟨_, aw (by omega)⟩; refine ⟨g, 0, cs, rfl, (aj.1 hg).1, hb, h3 cs (aF gq), fun j u hj => ?_, hP _ _ _ _ _ _ (fun b hb => hb.1) (Keeps.refl _ _) (h4 i x cs hx gq)⟩; have hjk : j < k := by rw [<- h3 cs (aF gq)]; exact (au.1 hj).1
   have := bD h1 (g := g) rfl (i * k + j) u (by rw [jiO h3 gq hjk]; exact hj); rw [bg] at this
   simpa [Nat.add_assoc] using this
theorem OwnRow.nil {A : Type} (B k : Nat) (ty : TypeId) (P : (Nat -> Prop) -> World -> A -> List Value -> Prop) (w : World) : OwnRow B k ty P w (.slice none 0 0) ([] : List A) :=
 ⟨[], by simpa using aR w B ty k, rfl, (fun cs h => by cases h), (fun i x cs h => by simp at h)⟩
theorem OwnRow.more {A : Type} {P : (Nat -> Prop) -> World -> A -> List Value -> Prop} (hP : Firm P) {v' : Value} {l : List A} {x : A} {css : List (List Value)} {H : Nat}
 (h2 : css.length = l.length) (h3 : ∀ cs ∈ css, cs.length = k) (h4 : ∀ (i : Nat) (x : A) (cs : List Value), l[i]? = some x -> css[i]? = some cs -> P (rowQ B w v) w x cs)
 (hx : P (rowQ B w v) w x cs) (hk : cs.length = k) (how : w'.ownsRow B ty k v' (l.length + 1) (css.flatten ++ cs)) (hg : w.grownBy w' v.ownBlock) (hat : v'.ownBlock = v.ownBlock ∨ v'.ownBlock = some H) (hH : w.heap.size <= H) : OwnRow B k ty P w' v' (l ++ [x]) := by
 have hq : ∀ b, rowQ B w v b -> rowQ B w' v' b := by
  rintro b ⟨q1, q2, q3⟩; refine ⟨q1, aK q2 hg.size, ?_⟩
  rcases hat with e | e
  . rw [e]; exact q3
  . rw [e]; intro e'; cases e'; omega
 have pP : Keeps (rowQ B w v) w w' := ⟨hg.size, fun b hb hq => hg.block b hb hq.2.2⟩; refine ⟨css ++ [cs], by simpa [aB] using how, by simp [h2], ?_, ?_⟩
 . intro c hc; cases bo.1 hc with
   | inl h => exact h3 c h
   | inr h => simp at h; rw [h]; exact hk
 . intro i y c hy hc
   rcases bz i l.length with hi | hi
   . rw [bf hi] at hy; rw [bf (by omega)] at hc; exact hP _ _ _ _ _ _ hq pP (h4 i y c hy hc)
   . rw [bd hi] at hy; rw [bd (by omega)] at hc; have hz : i - l.length = 0 := by
        rcases Nat.eq_zero_or_pos (i - l.length) with h | h
        . exact h
        . obtain ⟨m, hm⟩ : ∃ m, i - l.length = m + 1 := ⟨i - l.length - 1, by omega⟩; rw [hm] at hy; simp at hy
     rw [hz] at hy; rw [h2, hz] at hc
     simp at hy hc
     subst hy; subst hc; exact hP _ _ _ _ _ _ hq pP hx
theorem OwnRow.keep {A : Type} {P : (Nat -> Prop) -> World -> A -> List Value -> Prop} (hP : Firm P) {l : List A} {r : Nat} (h : OwnRow B k ty P w v l) (hb : But r w w') (hr : r < B) : OwnRow B k ty P w' v l := by
 obtain ⟨css, h1, h2, h3, h4⟩ := h; exact ⟨css, vM h1 hb hr, h2, h3, fun i x cs hx hc => hP _ _ _ _ _ _ (fun b hq => ⟨hq.1, aK hq.2.1 hb.size, hq.2.2⟩) ⟨hb.size, fun b hb' hq => hb.block b hb' (by have := hq.1; omega)⟩ (h4 i x cs hx hc)⟩
abbrev newB (B : Nat) : Nat -> Prop := fun k => B <= k
theorem jpE : (Tryz.prog.info? 199).map (fun i => (i.zero, i.size, i.bytes)) = some (some (.agg #[.int .i64 0, .int .i64 0, .int .i64 0, .slice none 0 0, .slice none 0 0, .bool false, .int .i64 0, .slice none 0 0]), 8, 112) := by kernel_rfl
abbrev OwnTs (B n : Nat) : World -> Value -> List Tst -> Prop := OwnRow B 8 199 (fun Q w t cs => TstM Q n w t cs)
theorem jpr (W : World) (cs : List Value) (t : TypeId) : ∀ (j : Nat) u, cs[j]? = some u -> (W.alloc (.cells cs.toArray t)).cell? ((⟨W.heap.size, 0, none⟩ : Addr).add j) = some u := by
 intro j u hj; rw [bg, bc]
 simp [hj]
theorem jmj {t : Tst} (h : TstM Q n w t cs) : cs.length = 8 := by
 obtain ⟨_, _, _, _, _, _, _, _, rfl, _⟩ := zV h; rfl
theorem jqj {t : Tst} (h : TstM Q n w t cs) : ∀ u ∈ cs, u.oneCell' = true := by
 obtain ⟨_, _, _, _, _, _, _, _, rfl, _⟩ := zV h; intro u hu
 simp at hu
 rcases hu with rfl | rfl | rfl | rfl | rfl | rfl | rfl | rfl <;> rfl
theorem jgm {cs : Array Value} (h : w.heap[b]? = some (.cells cs t fr)) (j : Nat) : w.cell? ⟨b, j, none⟩ = cs[j]? := by simp [World.cell?, h]
theorem jkL : (Tryz.prog.info? 201).map (fun i => (i.zero, i.size, i.bytes)) = some (some (.agg #[.int .i64 0, .slice none 0 0, .int .i64 0, .int .i64 0, .int .i64 0, .slice none 0 0, .slice none 0 0, .bool false, .int .i64 0, .slice none 0 0, .slice none 0 0, .slice none 0 0]), 12, 192) := by kernel_rfl
def CmdR (Q : Nat -> Prop) (n : Nat) (c : Cmd) (w : World) (v : Value) : Prop := ∃ cs : List Value, v = .agg cs.toArray /\ CmdM Q n w c cs
abbrev OwnCs (B n : Nat) : World -> Value -> List Cmd -> Prop := OwnRow B 12 201 (fun Q w t cs => CmdM Q n w t cs)
theorem jj9 {t : Cmd} (h : CmdM Q n w t cs) : ∀ u ∈ cs, u.oneCell' = true := by
 obtain ⟨_, _, _, _, _, _, _, _, _, _, _, _, _, _, rfl, _⟩ := zN h; intro u hu
 simp at hu
 rcases hu with rfl | rfl | rfl | rfl | rfl | rfl | rfl | rfl | rfl | rfl | rfl | rfl <;> rfl
theorem jen (Q : Nat -> Prop) (n : Nat) (w : World) : TstM Q (n + 1) w jZ [.int .i64 0, .int .i64 0, .int .i64 0, .slice none 0 0, .slice none 0 0, .bool false, .int .i64 0, .slice none 0 0] := ⟨_, _, _, rfl, jh _ _ _ _ _ _, jh _ _ _ _ _ _, jh _ _ _ _ _ _⟩
theorem jbV (k : Nat) (hk : k < 4) (s : List UInt8) (w : World) (hw : WordsAt w) :
 Calls Tryz.prog 187 #[.int .i64 k, .string (S s)] w fun e w' => e = .returned (.int .i64 (jJ k s : Nat)) /\ w' = w := by
 have k4 : (k : Int) < 4 := by omega
 have k0 : (0 : Int) <= (k : Int) := by omega
 have q0 := hw k 0 hk (by omega); have q1 := hw k 1 hk (by omega); have q2 := hw k 2 hk (by omega); have q3 := hw k 3 hk (by omega); have q4 := hw k 4 hk (by omega); have q5 := hw k 5 hk (by omega); have q6 := hw k 6 hk (by omega); have q7 := hw k 7 hk (by omega); have q8 := hw k 8 hk (by omega); have q9 := hw k 9 hk (by omega); have q10 := hw k 10 hk (by omega); have hlen := jlP k hk; have HN : Hid (jJ k s = jgT ((wTabs.getD k []).drop 0) 0 s) := rfl; rw [bC] at q0; go_enter Tryz.func187, Tryz.ntmps187; go_wp2
 go_loopw [10] (fun v wr => ∃ i : Nat, i <= 11 /\ v = .int .i64 i /\ wr = w /\ Hid (jJ k s = jgT ((wTabs.getD k []).drop i) i s)) (fun v _ => 11 - (intOf v).toNat)
 case atStart => exact ⟨0, by omega, rfl, rfl, HN⟩
 case round =>
  obtain ⟨i, hi, rfl, rfl, hN⟩ := hrel
  by_cases hlt : i < 11
  . have i1 : (i : Int) < 11 := by omega
    have fD : ∀ w : World, (Instr.index 239 (.agg #[.string (S (jN k 0)), .string (S (jN k 1)), .string (S (jN k 2)), .string (S (jN k 3)), .string (S (jN k 4)), .string (S (jN k 5)), .string (S (jN k 6)), .string (S (jN k 7)), .string (S (jN k 8)), .string (S (jN k 9)), .string (S (jN k 10))]) (.int .i64 i)).run Tryz.prog w = .ok (.string (S (jN k i))) w := by
        intro w
        match i, hlt with
        | 0, _ | 1, _ | 2, _ | 3, _ | 4, _ | 5, _ | 6, _ | 7, _ | 8, _ | 9, _ | 10, _ => rfl
    have HS := jjd (wTabs.getD k []) i i s (by omega); rw [joT k i (by omega)] at HS
    by_cases hs : jN k i = s
    . have HE : Hid (jJ k s = i) := by unfold Hid; rw [hN.out, HS, if_pos hs]
      have hq : ((S (jN k i)).toList == (S s).toList) = true := by rw [hs]; simp
      clear HS hs; go_wp2; go_ret; exact ⟨jd (by rw [HE.out]), rfl⟩
    . have HE : Hid (jJ k s = jgT ((wTabs.getD k []).drop (i + 1)) (i + 1) s) := by unfold Hid; rw [hN.out, HS, if_neg hs]
      have hq : ((S (jN k i)).toList == (S s).toList) = false := S_ne hs; clear HS hs; go_wp2
      case roundEnd => exact ⟨⟨i + 1, by omega, by go_num, trivial, HE⟩, by simp [intOf]; omega⟩
  . have i1 : ¬ (i : Int) < 11 := by omega
    have HE : Hid (jJ k s = 0) := by unfold Hid; rw [hN.out, aZ (by omega)]; rfl
    go_wp2; go_ret; exact ⟨jd (by rw [HE.out]; rfl), rfl⟩
structure RdS (w : World) (b : Nat) (A : Option Addr) (C : Nat) (L r : List Tok) : Prop where
 heap : w.heap[b]? = some (.cells #[.slice A L.length C, .int .i64 (L.length - r.length : Nat)] 196)
 toks : ToksAt w A L
 low : ∀ (i : Nat) (x : Tok), L[i]? = some x -> ∀ q o, A = some ⟨q, o, none⟩ -> q < b
 rest : ∃ pre, L = pre ++ r
 small : L.length <= 400
theorem RdS.lt (h : RdS w b A C L r) : b < w.heap.size := (aj.1 h.heap).1
theorem RdS.len (h : RdS w b A C L r) : r.length <= L.length := by
 obtain ⟨pre, rfl⟩ := h.rest; simp
theorem RdS.c0 (h : RdS w b A C L r) : w.cell? ⟨b, 0, none⟩ = some (.slice A L.length C) := by simp [World.cell?, h.heap]
theorem RdS.c1 (h : RdS w b A C L r) : w.cell? ⟨b, 1, none⟩ = some (.int .i64 (L.length - r.length : Nat)) := by simp [World.cell?, h.heap]
theorem RdS.z1 (h : RdS w b A C L r) : w.frozen? ⟨b, 1, none⟩ = false := by simp [World.frozen?, h.heap]
theorem RdS.next (h : RdS w b A C L r) (hb : Below w.heap.size w w') : RdS w' b A C L r :=
 ⟨(hb.block b h.lt).trans h.heap, h.toks.below hb, h.low, h.rest, h.small⟩
theorem RdS.at {t : Tok} (h : RdS w b A C L (t :: r)) : ∃ q o, A = some ⟨q, o, none⟩ /\ q < b /\ L.length - (t :: r).length < L.length /\
 w.cell? ⟨q, o + (L.length - (t :: r).length) * 3, none⟩ = some (.int .i64 t.kind) /\ w.cell? ⟨q, o + (L.length - (t :: r).length) * 3 + 1, none⟩ = some (.string (S t.text)) /\ w.cell? ⟨q, o + (L.length - (t :: r).length) * 3 + 2, none⟩ = some (.int .i64 t.num) := by
 obtain ⟨pre, hp⟩ := h.rest; have hl : L.length - (t :: r).length = pre.length := by rw [hp]; simp
 have hx : L[L.length - (t :: r).length]? = some t := by rw [hl, hp]; simp
 obtain ⟨q, o, ha, _, h1, h2, h3⟩ := h.toks _ t hx; refine ⟨q, o, ha, h.low _ _ hx q o ha, ?_, h1, h2, h3⟩; have := (au.1 hx).1; exact this
theorem But.setO (w : World) (o : Nat) (v : Value) : But b w (w.setCell ⟨b, o, none⟩ v) :=
 ⟨rfl, rfl, rfl, by simp [World.setCell], fun k _ hn => aC _ _ _ _ hn⟩
theorem RdS.step {t : Tok} (h : RdS w b A C L (t :: r)) : RdS (w.setCell ⟨b, 1, none⟩ (.int .i64 (L.length - r.length : Nat))) b A C L r := by
 have hb : Below b w (w.setCell ⟨b, 1, none⟩ (.int .i64 (L.length - r.length : Nat)))   := (ay b w).setCell (p := ⟨b, 1, none⟩) (ai b) _; refine ⟨?_, ?_, h.low, ?_, h.small⟩
 . have := jk (i := 1) (.int .i64 (L.length - r.length : Nat)) h.heap
   simpa using this
 . intro i x hx; obtain ⟨q, o, ha, hq, h1, h2, h3⟩ := h.toks i x hx; have sF := h.low _ _ hx q o ha; exact ⟨q, o, ha, by simpa [World.setCell] using hq, (hb.cell sF).trans h1, (hb.cell sF).trans h2, (hb.cell sF).trans h3⟩
 . obtain ⟨pre, hp⟩ := h.rest; exact ⟨pre ++ [t], by rw [hp]; simp⟩
def jbU (r : List Tok) : Tok := match r with | [] => qq | t :: _ => t
theorem qC (b : Nat) (A : Option Addr) (C : Nat) (L r : List Tok) (w : World) (h : RdS w b A C L r) :
 Calls Tryz.prog 117 #[.pointer (some ⟨b, 0, none⟩)] w fun e w' => e = .returned (.bool r.isEmpty) /\ ∃ k, w' = w.drewN k := by
 have c0 := h.c0; have c1 := h.c1; have hlen := h.len; cases r with
 | nil =>
   simp at c1
   clear h; go_enter Tryz.func117, Tryz.ntmps117; go_wp2
   go_quiet (fail)
   go_wp2; go_ret; exact ⟨rfl, nq, rfl⟩
 | cons t r =>
   obtain ⟨i, dU⟩ : ∃ i, i = L.length - (t :: r).length := ⟨_, rfl⟩; rw [<- dU] at c1; have ss : ((i : Int) == (L.length : Int)) = false := by
    rw [bA]
    simp at hlen dU
    omega
   clear h dU; go_enter Tryz.func117, Tryz.ntmps117; go_wp2
   go_quiet (fail)
   go_wp2; go_ret; exact ⟨rfl, nq, rfl⟩
theorem jdJ (b : Nat) (A : Option Addr) (C : Nat) (L r : List Tok) (w : World) (h : RdS w b A C L r) :
 Calls Tryz.prog 117 #[.pointer (some ⟨b, 0, none⟩)] w fun e w' => e = .returned (.bool r.isEmpty) /\ Below w.heap.size w w' := by
 refine (qC b A C L r w h).mono ?_; rintro e w' ⟨he, k, rfl⟩; exact ⟨he, qG (ay _ _) k⟩
theorem qD (b : Nat) (A : Option Addr) (C : Nat) (L r : List Tok) (w : World) (h : RdS w b A C L r) :
 Calls Tryz.prog 188 #[.pointer (some ⟨b, 0, none⟩)] w fun e w' => e = .returned (tokV (jbU r)) /\ Below w.heap.size w w' := by
 have hbl := h.lt; have hne : b ≠ w.heap.size := by omega
 have c0 := h.c0; have c1 := h.c1; have hlen := h.len; have hsm := h.small; have H := hid h; obtain ⟨W0, hW0⟩ : ∃ W0, W0 = w.alloc (.cells #[.int .i64 0, .string ⟨#[]⟩, .int .i64 0] 147) := ⟨_, rfl⟩; have cw : Below w.heap.size w W0 := by rw [hW0]; exact nb0 _ _
 have b9 := hid hW0; have cu := hid cw; clear hW0 cw; cases r with
 | nil =>
   simp at c1
   clear h; go_enter Tryz.func188, Tryz.ntmps188; go_wp2_with fail; rw [<- b9.out]; refine (qC b A C L [] W0 (H.out.next cu.out)).mono ?_; rintro e w1 ⟨rfl, nq, dw⟩; rw [b9.out] at dw; subst dw; go_wp2; refine aD (v := tokV qq) (by simp [results, Tryz.results188, go_sem, tokV, qq, S]) rfl ⟨rfl, ?_⟩; exact (((qG (nb0 _ _) _).setCell (ai _) _).setCell (ai _) _).setCell (ai _) _
 | cons t r =>
   obtain ⟨q, o, rfl, hq, hi, e0, e1, e2⟩ := h.at; obtain ⟨i, dU⟩ : ∃ i, i = L.length - (t :: r).length := ⟨_, rfl⟩; rw [<- dU] at c1 hi e0 e1 e2; clear dU; have Dl : (i : Int) < (L.length : Int) := by omega
   have dE : (0 : Int) <= (i : Int) := by omega
   have pZ : q ≠ w.heap.size := by omega
   have Dx : q < w.heap.size := by omega
   clear h; go_enter Tryz.func188, Tryz.ntmps188; go_wp2_with fail; rw [<- b9.out]; refine (qC b _ C L (t :: r) W0 (H.out.next cu.out)).mono ?_; rintro e w1 ⟨rfl, nq, dw⟩; rw [b9.out] at dw; subst dw; go_wp2
   go_region
   all_goals go_wp2
   all_goals refine aD (v := tokV t) (by simp [results, Tryz.results188, go_sem, tokV]) rfl ⟨rfl, ?_⟩
   all_goals exact (((qG (nb0 _ _) _).setCell (ai _) _).setCell (ai _) _).setCell (ai _) _
def misV (p : Nat) (e : Int) : Value := .agg #[.int .i64 p, .int .i64 e]
def jhQ (L : List Tok) (m : Nat × Int) : List PanicEntry := [{ v := .iface 152 (misV (L.length - m.1) m.2), recovered := false }]
def Rp {A : Type} (b : Nat) (w : World) (a : Option Addr) (C : Nat) (L : List Tok) (V : A -> World -> Value -> Prop) (x : Rdg A) (e : Ending) (w' : World) : Prop :=
 match x with
 | .ok (y, q) => ∃ v, e = .returned v /\ V y w' v /\ RdS w' b a C L q /\ But b w w'
 | .error m => e = .panicked (jhQ L m) /\ But b w w'
theorem jnx : misP [] = (0, 4) := rfl
theorem jk9 (t : Tok) (r : List Tok) : misP (t :: r) = (r.length + 1, 3) := rfl
theorem RdS.under (h : RdS w b A C L r) (hb : Below B w w') (hB : b < B) : RdS w' b A C L r := by
 refine ⟨(hb.block b hB).trans h.heap, fun i x hx => ?_, h.low, h.rest, h.small⟩; obtain ⟨q, o, ha, hq, h1, h2, h3⟩ := h.toks i x hx; have sF := h.low _ _ hx q o ha; have gR : q < B := by omega
 exact ⟨q, o, ha, aK hq hb.size, (hb.cell gR).trans h1, (hb.cell gR).trans h2, (hb.cell gR).trans h3⟩
theorem But.low {w1 w2 : World} (h : But b w w1) (hb : Below w.heap.size w1 w2) : But b w w2 :=
 ⟨hb.os.trans h.os, hb.tape.trans h.tape, hb.output.trans h.output, aN h.size hb.size, fun k hk hn => (hb.block k hk).trans (h.block k hk hn)⟩
theorem qa (b : Nat) (A : Option Addr) (C : Nat) (L r : List Tok) (w : World) (h : RdS w b A C L r) :
 Calls Tryz.prog 189 #[.pointer (some ⟨b, 0, none⟩)] w fun e w' => e = .returned (misV (L.length - (misP r).1) (misP r).2) /\ Below w.heap.size w w' := by
 have hbl := h.lt; have hne : b ≠ w.heap.size := by omega
 have c1 := h.c1; have hlen := h.len; have H := hid h; obtain ⟨W0, hW0⟩ : ∃ W0, W0 = w.alloc (.cells #[.int .i64 0, .int .i64 0] 152) := ⟨_, rfl⟩; have cw : Below w.heap.size w W0 := by rw [hW0]; exact nb0 _ _
 have b9 := hid hW0; have cu := hid cw; clear hW0 cw; cases r with
 | nil =>
   simp at c1
   rw [jnx]; simp only [Nat.sub_zero]; clear h; go_enter Tryz.func189, Tryz.ntmps189; go_wp2_with fail; rw [<- b9.out]; refine (qC b A C L [] W0 (H.out.next cu.out)).mono ?_; rintro e w1 ⟨rfl, nq, dw⟩; rw [b9.out] at dw; subst dw; go_wp2; refine aD (v := misV L.length 4) (by simp [results, Tryz.results189, go_sem, misV]) rfl ⟨rfl, ?_⟩; exact ((qG (nb0 _ _) _).setCell (ai _) _).setCell (ai _) _
 | cons t r =>
   rw [jk9]; obtain ⟨i, dU⟩ : ∃ i, i = L.length - (t :: r).length := ⟨_, rfl⟩; have HI := hid (show L.length - (r.length + 1) = i by rw [dU]; rfl); simp only; rw [HI.out]; rw [<- dU] at c1; clear h dU; go_enter Tryz.func189, Tryz.ntmps189; go_wp2_with fail; rw [<- b9.out]; refine (qC b A C L (t :: r) W0 (H.out.next cu.out)).mono ?_; rintro e w1 ⟨rfl, nq, dw⟩; rw [b9.out] at dw; subst dw; go_wp2; refine aD (v := misV i 3) (by simp [results, Tryz.results189, go_sem, misV]) rfl ⟨rfl, ?_⟩; exact ((qG (nb0 _ _) _).setCell (ai _) _).setCell (ai _) _
def Sk (b : Nat) (w : World) (a : Option Addr) (C : Nat) (L r : List Tok) (x : Option (List Tok)) (e : Ending) (w' : World) : Prop :=
 match x with
 | some q => e = .returned (.bool true) /\ RdS w' b a C L q /\ But b w w'
 | none => e = .returned (.bool false) /\ RdS w' b a C L r /\ But b w w'
theorem jnZ {k : Int} {t : Tok} (h1 : t.kind = k) (h2 : t.text = s) : zl k s (t :: r) = some r := by unfold zl; simp only; rw [if_pos ⟨h1, h2⟩]
theorem jlY {k : Int} {t : Tok} (h : ¬ (t.kind = k /\ t.text = s)) : zl k s (t :: r) = none := by unfold zl; simp only; rw [if_neg h]
theorem zJ (t : Tok) (r : List Tok) : jbU (t :: r) = t := rfl
theorem jdK (b : Nat) (A : Option Addr) (C : Nat) (L r : List Tok) (k : Int) (s : List UInt8) (w : World) (h : RdS w b A C L r) (hk : k ≠ 0) :
 Calls Tryz.prog 224 #[.pointer (some ⟨b, 0, none⟩), .int .i64 k, .string (S s)] w fun e w' => e = .returned (.bool (zl k s r).isSome) /\ Below w.heap.size w w' := by
 have H := hid h; clear h; go_enter Tryz.func224, Tryz.ntmps224; go_wp2_with fail; refine (qD b A C L r w H.out).mono ?_; rintro e w1 ⟨rfl, hb1⟩; have bX := hid hb1; have iK := hid (fun o => hb1.alloc hb1.size o); clear hb1; cases r with
 | nil =>
   have fF : ((0 : Int) == k) = false := by rw [bA]; omega
   unfold jbU tokV qq; go_wp2; go_ret; exact ⟨rfl, iK.out _⟩
 | cons t r =>
   rw [zJ]; unfold tokV
   by_cases eD : t.kind = k
   . have q1 : (t.kind == k) = true := by simp [eD]
     by_cases lS : t.text = s
     . have q2 : ((S t.text).toList == (S s).toList) = true := jqp lS; have HS := hid (show (zl k s (t :: r)).isSome = true by rw [jnZ eD lS]; rfl); clear eD lS; go_wp2; go_ret; rw [HS.out]; exact ⟨rfl, iK.out _⟩
     . have q2 : ((S t.text).toList == (S s).toList) = false := S_ne lS; have HS := hid (show (zl k s (t :: r)).isSome = false by rw [jlY (fun h => lS h.2)]; rfl); clear eD lS; go_wp2; go_ret; rw [HS.out]; exact ⟨rfl, iK.out _⟩
   . have q1 : (t.kind == k) = false := by simpa using eD
     have HS := hid (show (zl k s (t :: r)).isSome = false by rw [jlY (fun h => eD h.1)]; rfl); clear eD; go_wp2; go_ret; rw [HS.out]; exact ⟨rfl, iK.out _⟩
theorem qE (b : Nat) (A : Option Addr) (C : Nat) (L r : List Tok) (k : Int) (s : List UInt8) (w : World) (h : RdS w b A C L r) (hk : k ≠ 0) :
 Calls Tryz.prog 192 #[.pointer (some ⟨b, 0, none⟩), .int .i64 k, .string (S s)] w (Sk b w A C L r (zl k s r)) := by
 have H := hid h; have hbl := h.lt; have hsm := h.small; have hlen := h.len; clear h; go_enter Tryz.func192, Tryz.ntmps192; go_wp2_with fail; refine (jdK b A C L r k s w H.out hk).mono ?_; rintro e w1 ⟨rfl, hb1⟩; have cz := H.out.next hb1; have cC := hid cz; have bX := hid (show But b w w1 from But.of hb1); have d1 := cz.c1; have y1 := cz.z1; clear hb1 cz; cases hs : zl k s r with
 | none =>
   have HS := hid hs; clear hs; simp only [Option.isSome]; go_wp2; go_ret; rw [HS.out]; exact ⟨rfl, cC.out, bX.out⟩
 | some q =>
   obtain ⟨t, rfl, _⟩ := jdN hs; have HS := hid hs; clear hs; simp only [Option.isSome]; obtain ⟨i, dU⟩ : ∃ i, i = L.length - (t :: q).length := ⟨_, rfl⟩; have HI := hid (show i + 1 = L.length - q.length by rw [dU]; simp at hlen ⊢; omega); rw [<- dU] at d1; have ko : (i : Int) <= 400 := by omega
   have dE : (0 : Int) <= (i : Int) := by omega
   have HST := hid (show RdS (w1.setCell ⟨b, 1, none⟩ (.int .i64 ((i : Int) + 1))) b A C L q by
    have := cC.out.step; rw [<- HI.out] at this; exact this)
   clear dU; go_wp2; go_ret; rw [HS.out]; exact ⟨rfl, HST.out, bX.out.trans (But.setO _ 1 _)⟩
theorem zB (b : Nat) (A : Option Addr) (C : Nat) (L r : List Tok) (k : Int) (s : List UInt8) (w : World) (h : RdS w b A C L r) (hk : k ≠ 0) :
 Calls Tryz.prog 159 #[.pointer (some ⟨b, 0, none⟩), .int .i64 k, .string (S s)] w (Rp b w A C L (fun (_ : Unit) _ v => v = .tuple #[]) (jI k s r)) := by
 have H := hid h; clear h; go_enter Tryz.func159, Tryz.ntmps159; go_wp2_with fail; refine (qE b A C L r k s w H.out hk).mono ?_; cases hs : zl k s r with
 | some q =>
   have HE := hid (show jI k s r = .ok ((), q) by unfold jI; rw [hs]); clear hs; rintro e w1 ⟨rfl, cz, b8⟩; have cC := hid cz; have bX := hid b8; clear cz b8; go_wp2; go_end0; rw [HE.out]; exact ⟨_, rfl, rfl, cC.out, bX.out⟩
 | none =>
   have HE := hid (show jI k s r = .error (misP r) by unfold jI; rw [hs]); clear hs; rintro e w1 ⟨rfl, cz, b8⟩; have cC := hid cz; have bX := hid b8; clear cz b8; go_wp2_with fail; refine (qa b A C L r w1 cC.out).mono ?_; rintro e w2 ⟨rfl, hb2⟩; have bY := hid (bX.out.trans (But.of hb2)); clear hb2; unfold misV; go_wp2; rw [HE.out]; exact ⟨rfl, rfl, bY.out⟩
theorem jl6 {k : Int} {t : Tok} (h : t.kind = k) : qS k (t :: r) = .ok (t, r) := by unfold qS; simp only; rw [if_pos h]
theorem jn8 {k : Int} {t : Tok} (h : ¬ t.kind = k) : qS k (t :: r) = .error (misP (t :: r)) := by unfold qS; simp only; rw [if_neg h]
theorem jaw (b : Nat) (A : Option Addr) (C : Nat) (L r : List Tok) (k : Int) (w : World) (h : RdS w b A C L r) (hk : k ≠ 0) :
 Calls Tryz.prog 193 #[.pointer (some ⟨b, 0, none⟩), .int .i64 k] w (Rp b w A C L (fun t _ v => v = tokV t) (qS k r)) := by
 have H := hid h; have hbl := h.lt; have hsm := h.small; have hlen := h.len; clear h; obtain ⟨W0, hW0⟩ : ∃ W0, W0 = w.alloc (.cells #[.int .i64 0, .string ⟨#[]⟩, .int .i64 0] 147) := ⟨_, rfl⟩; have cw : Below w.heap.size w W0 := by rw [hW0]; exact nb0 _ _
 have hz0 : w.heap.size < W0.heap.size := by rw [hW0]; simp
 have kc : TokB W0 w.heap.size qq := by rw [hW0]; exact vN w qq
 have b9 := hid hW0; have cu := hid cw; have fo := hid kc; clear hW0 cw kc; go_enter Tryz.func193, Tryz.ntmps193; go_wp2_with fail; rw [<- b9.out]; refine (qD b A C L r W0 (H.out.next cu.out)).mono ?_; rintro e w1 ⟨rfl, hb1⟩; have cz := (H.out.next cu.out).next hb1; have eR := fo.out.next hb1; have im := cz.lt; have hne : b ≠ w1.heap.size := by omega
 have Dq : w.heap.size ≠ w1.heap.size := by have := hb1.size; omega
 have sH : w.heap.size < w1.heap.size := by have := hb1.size; omega
 have pI : b ≠ w.heap.size := by omega
 have cC := hid cz; have eW := hid eR; have bX := hid (show But b w w1 from (But.of cu.out).trans (But.of hb1)); have d1 := cz.c1; have y1 := cz.z1; have t0 := eR.c0; have t1 := eR.c1; have t2 := eR.c2; have u0 := eR.free 0; have u1 := eR.free 1; have u2 := eR.free 2; clear hb1 cz eR; cases r with
 | nil =>
   have fF : ((0 : Int) != k) = true := by simp; omega
   have HE := hid (show qS k [] = .error (misP []) from rfl); unfold jbU tokV qq; go_wp2_with fail; refine (qa b A C L [] _ (cC.out.next (nb0 _ _))).mono ?_; rintro e w2 ⟨rfl, hb2⟩; have bY := hid ((bX.out.trans (But.of (nb0 _ _))).trans (But.of hb2)); clear hb2; unfold misV; go_wp2; exact ⟨rfl, rfl, bY.out⟩
 | cons t r =>
   rw [zJ]; unfold tokV
   by_cases eD : t.kind = k
   . have q1 : (t.kind != k) = false := by simp [eD]
     obtain ⟨i, dU⟩ : ∃ i, i = L.length - (t :: r).length := ⟨_, rfl⟩; have HI := hid (show i + 1 = L.length - r.length by rw [dU]; simp at hlen ⊢; omega); rw [<- dU] at d1; have ko : (i : Int) <= 400 := by omega
     have dE : (0 : Int) <= (i : Int) := by omega
     have HS := hid (jl6 (r := r) eD); have HST := hid (show RdS (w1.setCell ⟨b, 1, none⟩ (.int .i64 ((i : Int) + 1))) b A C L r by
        have := cC.out.step; rw [<- HI.out] at this; exact this)
     clear eD dU; go_wp2; have fg : Below w.heap.size (w1.setCell ⟨b, 1, none⟩ (.int .i64 ((i : Int) + 1))) (((((w1.setCell ⟨b, 1, none⟩ (.int .i64 ((i : Int) + 1))).setCell ⟨w.heap.size, 0, none⟩ (.int .i64 t.kind)).setCell ⟨w.heap.size, 1, none⟩ (.string (S t.text))).setCell ⟨w.heap.size, 2, none⟩ (.int .i64 t.num)).alloc (.cells #[.int .i64 t.kind, .string (S t.text), .int .i64 t.num] 147)) :=
        ((((ay _ _).setCell (p := ⟨w.heap.size, 0, none⟩) (ai _) _).setCell (p := ⟨w.heap.size, 1, none⟩) (ai _) _).setCell (p := ⟨w.heap.size, 2, none⟩) (ai _) _).alloc (by simp [World.setCell]; omega) _
     have se : TokB (((((w1.setCell ⟨b, 1, none⟩ (.int .i64 ((i : Int) + 1))).setCell ⟨w.heap.size, 0, none⟩ (.int .i64 t.kind)).setCell ⟨w.heap.size, 1, none⟩ (.string (S t.text))).setCell ⟨w.heap.size, 2, none⟩ (.int .i64 t.num)).alloc (.cells #[.int .i64 t.kind, .string (S t.text), .int .i64 t.num] 147)) w.heap.size t := by
        have a0 : TokB (w1.setCell ⟨b, 1, none⟩ (.int .i64 ((i : Int) + 1))) w.heap.size qq := eW.out.far (p := ⟨b, 1, none⟩) pI.symm _; have a1 := jk (i := 0) (.int .i64 t.kind) a0; have a2 := jk (i := 1) (.string (S t.text)) a1; have a3 := jk (i := 2) (.int .i64 t.num) a2; unfold TokB; rw [show ∀ (W : World) (o : Obj), w.heap.size < W.heap.size -> (W.alloc o).heap[w.heap.size]? = W.heap[w.heap.size]? from fun W o h => by
         show (W.heap.push o)[w.heap.size]? = _
         rw [bm h, aY h]]
        . rw [a3]; simp
        . simpa [World.setCell] using sH
     have m0 := se.c0; have m1 := se.c1; have m2 := se.c2; refine aD (v := tokV t) (by simp only [results, Tryz.results193]; simp [go_sem, tokV, m0, m1, m2]) rfl ?_; rw [HS.out]; exact ⟨_, rfl, rfl, HST.out.under fg hbl, (bX.out.trans (But.setO _ 1 _)).low fg⟩
   . have q1 : (t.kind != k) = true := by simpa using eD
     have HE := hid (jn8 (r := r) eD); clear eD; go_wp2_with fail; refine (qa b A C L (t :: r) _ (cC.out.next (nb0 _ _))).mono ?_; rintro e w2 ⟨rfl, hb2⟩; have bY := hid ((bX.out.trans (But.of (nb0 _ _))).trans (But.of hb2)); clear hb2; unfold misV; go_wp2; rw [HE.out]; exact ⟨rfl, rfl, bY.out⟩
theorem joV (t : Tok) : ∀ w : World, (Instr.field 147 (.agg #[.int .i64 t.kind, .string (S t.text), .int .i64 t.num]) 0).run Tryz.prog w = .ok (.int .i64 t.kind) w := fun _ => by kernel_rfl
theorem jmd (t : Tok) : ∀ w : World, (Instr.field 147 (.agg #[.int .i64 t.kind, .string (S t.text), .int .i64 t.num]) 1).run Tryz.prog w = .ok (.string (S t.text)) w := fun _ => by kernel_rfl
theorem joW (t : Tok) : ∀ w : World, (Instr.field 147 (.agg #[.int .i64 t.kind, .string (S t.text), .int .i64 t.num]) 2).run Tryz.prog w = .ok (.int .i64 t.num) w := fun _ => by kernel_rfl
theorem jbw (b : Nat) (A : Option Addr) (C : Nat) (L r : List Tok) (w : World) (h : RdS w b A C L r) :
 Calls Tryz.prog 158 #[.pointer (some ⟨b, 0, none⟩)] w (Rp b w A C L (fun x _ v => v = .string (S x)) (qX r)) := by
 have H := hid h; clear h; go_enter Tryz.func158, Tryz.ntmps158; go_wp2_with fail; refine (jaw b A C L r 4 w H.out (by omega)).mono ?_; cases hs : qS 4 r with
 | ok x =>
   obtain ⟨t, q⟩ := x; have HE := hid (show qX r = .ok (t.text, q) by unfold qX; rw [hs]; rfl); clear hs; rintro e w1 ⟨v, rfl, rfl, cz, b8⟩; have cC := hid cz; have bX := hid b8; clear cz b8; unfold tokV; have pL := jmd t; go_wp2; go_ret; rw [HE.out]; exact ⟨_, rfl, rfl, cC.out, bX.out⟩
 | error m =>
   have HE := hid (show qX r = .error m by unfold qX; rw [hs]; rfl); clear hs; rintro e w1 ⟨rfl, b8⟩; have bX := hid b8; clear b8; go_wp2; rw [HE.out]; exact ⟨rfl, rfl, bX.out⟩
theorem jiZ (h : 6 < d) : jaS k d r = .error (r.length, 1) := by unfold jaS; rw [if_pos h]
theorem jkS (h : ¬ 6 < d) : jaS k d [] = .error (misP []) := by unfold jaS; rw [if_neg h]
theorem jkT {t : Tok} (h : ¬ 6 < d) (h1 : t.kind = 1) (h2 : jJ k t.text ≠ 0) : jaS k d (t :: r) = .ok (jJ k t.text, r) := by unfold jaS; rw [if_neg h]; simp only; rw [if_pos ⟨h1, h2⟩]
theorem jhM {t : Tok} (h : ¬ 6 < d) (h1 : ¬ (t.kind = 1 /\ jJ k t.text ≠ 0)) : jaS k d (t :: r) = .error (misP (t :: r)) := by unfold jaS; rw [if_neg h]; simp only; rw [if_neg h1]
theorem jfL (b : Nat) (A : Option Addr) (C : Nat) (L r : List Tok) (k d : Nat) (w : World) (h : RdS w b A C L r) (hk : k < 4) (hw : WordsAt w) :
 Calls Tryz.prog 155 #[.pointer (some ⟨b, 0, none⟩), .int .i64 k, .int .i64 d] w (Rp b w A C L (fun n _ v => v = .int .i64 (n : Nat)) (jaS k d r)) := by
 have H := hid h; have HW := hid hw; have hbl := h.lt; have hsm := h.small; have hlen := h.len; have c1 := h.c1; clear h hw
 by_cases hd : 6 < d
 . have HE := hid (jiZ (k := k) (r := r) hd); have uO : (6 : Int) < (d : Int) := by omega
   clear hd; go_enter Tryz.func155, Tryz.ntmps155; go_wp2; rw [HE.out]; exact ⟨rfl, rfl, But.refl _ _⟩
 . have uO : ¬ (6 : Int) < (d : Int) := by omega
   have HD := hid hd; clear hd c1; go_enter Tryz.func155, Tryz.ntmps155; go_wp2_with fail; refine (qD b A C L r w H.out).mono ?_; rintro e w1 ⟨rfl, hb1⟩; have cC := hid (H.out.next hb1); have bX := hid (show But b w w1 from But.of hb1); have cO := hid (HW.out.next hb1); clear hb1; have pL := jmd (jbU r); rw [tokV]; go_wp2_with fail; refine (jbV k hk (jbU r).text w1 cO.out).mono ?_; rintro e w1' ⟨rfl, dw⟩; have kE := dw.symm; subst kE; clear pL; go_wp2_with fail; refine (qD b A C L r w1 cC.out).mono ?_; rintro e w2 ⟨rfl, hb2⟩; have cA := cC.out.next hb2; have cD := hid cA; have bY := hid (show But b w w2 from bX.out.trans (But.of hb2)); have d1 := cA.c1; have y1 := cA.z1; clear hb2 cA; have lG := joV (jbU r); rw [tokV]; cases r with
   | nil =>
     have hz : (((jbU []).kind : Int) != 1) = true := by rfl
     have HE := hid (jkS (k := k) HD.out); go_wp2_with fail; refine (qa b A C L [] w2 cD.out).mono ?_; rintro e w3 ⟨rfl, hb3⟩; have bZ := hid (bY.out.trans (But.of hb3)); clear hb3; unfold misV; go_wp2; rw [HE.out]; exact ⟨rfl, rfl, bZ.out⟩
   | cons t r =>
     rw [zJ]; rw [zJ] at lG
     by_cases ht : t.kind = 1
     . have q1 : (t.kind != 1) = false := by simp [ht]
       by_cases hn : jJ k t.text = 0
       . have HE := hid (jhM (r := r) HD.out (fun (h : t.kind = 1 /\ jJ k t.text ≠ 0) => h.2 hn)); rw [hn]; clear ht hn; go_wp2_with fail; refine (qa b A C L (t :: r) w2 cD.out).mono ?_; rintro e w3 ⟨rfl, hb3⟩; have bZ := hid (bY.out.trans (But.of hb3)); clear hb3; unfold misV; go_wp2; rw [HE.out]; exact ⟨rfl, rfl, bZ.out⟩
       . have HE := hid (jkT (r := r) HD.out ht hn); obtain ⟨m, hm⟩ : ∃ m, m = jJ k t.text := ⟨_, rfl⟩; rw [<- hm]; have HM := hid hm; have nA : ((m : Int) == 0) = false := by rw [bA, hm]; omega
         obtain ⟨i, dU⟩ : ∃ i, i = L.length - (t :: r).length := ⟨_, rfl⟩; have HI := hid (show i + 1 = L.length - r.length by rw [dU]; simp at hlen ⊢; omega); rw [<- dU] at d1; have ko : (i : Int) <= 400 := by omega
         have dE : (0 : Int) <= (i : Int) := by omega
         have HST := hid (show RdS (w2.setCell ⟨b, 1, none⟩ (.int .i64 ((i : Int) + 1))) b A C L r by
            have := cD.out.step; rw [<- HI.out] at this; exact this)
         clear ht hn hm dU; go_wp2; go_ret; rw [HE.out, <- HM.out]; exact ⟨_, rfl, rfl, HST.out, bY.out.trans (But.setO _ 1 _)⟩
     . have q1 : (t.kind != 1) = true := by simpa using ht
       have HE := hid (jhM (r := r) HD.out (fun (h : t.kind = 1 /\ jJ k t.text ≠ 0) => ht h.1)); clear ht; go_wp2_with fail; refine (qa b A C L (t :: r) w2 cD.out).mono ?_; rintro e w3 ⟨rfl, hb3⟩; have bZ := hid (bY.out.trans (But.of hb3)); clear hb3; unfold misV; go_wp2; rw [HE.out]; exact ⟨rfl, rfl, bZ.out⟩
theorem jjm (b : Nat) (A : Option Addr) (C : Nat) (L r : List Tok) (w : World) (h : RdS w b A C L r) :
 Calls Tryz.prog 223 #[.pointer (some ⟨b, 0, none⟩)] w (Rp b w A C L (fun (x : Bool × Int) _ v => v = .tuple #[.bool x.1, .int .i64 x.2]) (qr r)) := by
 have H := hid h; clear h; go_enter Tryz.func223, Tryz.ntmps223; go_wp2_with fail; refine (qE b A C L r 2 jjf w H.out (by omega)).mono ?_; cases hs : zl 2 jjf r with
 | some q =>
   rintro e w1 ⟨rfl, cz, b8⟩; have cC := hid cz; have bX := hid b8; clear cz b8; go_wp2_with fail; refine (jaw b A C L q 3 w1 cC.out (by omega)).mono ?_; cases hk : qS 3 q with
   | ok x =>
     obtain ⟨t, q2⟩ := x; have HE := hid (show qr r = .ok ((true, t.num), q2) by unfold qr; rw [hs]; simp only; rw [hk]; rfl); clear hs hk; rintro e w2 ⟨v, rfl, rfl, cA, b7⟩; have cD := hid cA; have bY := hid (bX.out.trans b7); clear cA b7; rw [tokV]; have hf2 := joW t; go_wp2; go_ret2; rw [HE.out]; exact ⟨_, rfl, rfl, cD.out, bY.out⟩
   | error m =>
     have HE := hid (show qr r = .error m by unfold qr; rw [hs]; simp only; rw [hk]; rfl); clear hs hk; rintro e w2 ⟨rfl, b7⟩; have bY := hid (bX.out.trans b7); clear b7; go_wp2; rw [HE.out]; exact ⟨rfl, rfl, bY.out⟩
 | none =>
   rintro e w1 ⟨rfl, cz, b8⟩; have cC := hid cz; have bX := hid b8; clear cz b8; go_wp2_with fail; refine (zB b A C L r 2 jdP w1 cC.out (by omega)).mono ?_; cases hu : jI 2 jdP r with
   | error m =>
     have HE := hid (show qr r = .error m by unfold qr; rw [hs]; simp only; rw [hu]; rfl); clear hs hu; rintro e w2 ⟨rfl, b7⟩; have bY := hid (bX.out.trans b7); clear b7; go_wp2; rw [HE.out]; exact ⟨rfl, rfl, bY.out⟩
   | ok x =>
     obtain ⟨u, q⟩ := x; rintro e w2 ⟨v, rfl, rfl, cA, b7⟩; have cD := hid cA; have bY := hid (bX.out.trans b7); clear cA b7; go_wp2_with fail; refine (jaw b A C L q 3 w2 cD.out (by omega)).mono ?_; cases hk : qS 3 q with
     | ok x =>
       obtain ⟨t, q2⟩ := x; have HE := hid (show qr r = .ok ((false, t.num), q2) by unfold qr; rw [hs]; simp only; rw [hu]; unfold jo; simp only; rw [hk]); clear hs hk hu; rintro e w3 ⟨v, rfl, rfl, cB, cy⟩; have cT := hid cB; have bZ := hid (bY.out.trans cy); clear cB cy; rw [tokV]; have hf2 := joW t; go_wp2; go_ret2; rw [HE.out]; exact ⟨_, rfl, rfl, cT.out, bZ.out⟩
     | error m =>
       have HE := hid (show qr r = .error m by unfold qr; rw [hs]; simp only; rw [hu]; unfold jo; simp only; rw [hk]); clear hs hk hu; rintro e w3 ⟨rfl, cy⟩; have bZ := hid (bY.out.trans cy); clear cy; go_wp2; rw [HE.out]; exact ⟨rfl, rfl, bZ.out⟩
theorem jpD : (Tryz.prog.info? 9).map (fun i => (i.zero, i.size, i.bytes)) = some (some (.string ByteArray.empty), 1, 16) := by kernel_rfl
def jb6 (l : List (List UInt8)) : List Value := l.map fun x => .string (S x)
theorem jnI {l : List (List UInt8)} (h : w.ownsRow B 9 1 v l.length (jb6 l)) (hm : l.length <= maxLen) : TxtsM (newB B) w v l := by
 rcases h.2 with ⟨rfl, hn⟩ | ⟨g, cap, cur, rfl, hb, hg, q⟩
 . have : l = [] := bh.1 hn; subst this; exact jh _ _ _ _ _ _
 . refine ⟨some ⟨g, 0, none⟩, cap, rfl, hm, fun i x hx => ?_⟩; refine ⟨g, 0, [.string (S x)], rfl, (aj.1 hg).1, hb, rfl, fun j u hj => ?_, rfl⟩; cases j with
   | succ j => simp at hj
   | zero =>
     simp at hj
     subst hj; have hi : i < l.length := (au.1 hx).1; rw [bc, Nat.mul_one, bC, bv h i (by omega)]
     simp [jb6, hx]
def jat (b n : Nat) (w : World) : Nat := match w.cell? ⟨b, 1, none⟩ with | some (.int _ k) => ((n : Int) - k).toNat | _ => 0
theorem qd (h : RdS w b A C L r) : jat b L.length w = r.length := by
 unfold jat; rw [h.c1]; have := h.len; simp only; omega
theorem jfw {A : Type} {f : List Tok -> Rdg A} {acc : List A} (h : zl 5 [44] r = none) : vV f m acc r = .ok (acc, r) := by
 cases m with
 | zero => rfl
 | succ m => unfold vV; rw [h]
theorem jhN {A : Type} {f : List Tok -> Rdg A} {acc : List A} {q : List Tok} (h : zl 5 [44] r = some q) : vV f (m + 1) acc r = jo (f q) fun x q' => vV f m (acc ++ [x]) q' := by
 rw [vV, h]
theorem jpY (W : World) (x : Value) (t : TypeId) : ∀ (j : Nat) u, [x][j]? = some u -> (W.alloc (.cells #[x] t)).cell? ((⟨W.heap.size, 0, none⟩ : Addr).add j) = some u := by
 intro j u hj; rw [bg, bc]
 match j, hj with
 | 0, hj => simp at hj; subst hj; simp
theorem vw (b : Nat) (A : Option Addr) (C : Nat) (L r : List Tok) (w : World) (h : RdS w b A C L r) :
 Calls Tryz.prog 157 #[.pointer (some ⟨b, 0, none⟩)] w (Rp b w A C L (fun l w' v => TxtsM (newB w.heap.size) w' v l) (ze r)) := by
 have H := hid h; have hbl := h.lt; have hsm := h.small; obtain ⟨i0, hi, hz0, hz1, hz2⟩ := info_parts jpD; clear h; go_enter Tryz.func157, Tryz.ntmps157; go_wp2_with fail; refine (qE b A C L r 5 [91] w H.out (by omega)).mono ?_; cases hs : zl 5 [91] r with
 | none =>
   rintro e w1 ⟨rfl, cz, b8⟩; have cC := hid cz; have bX := hid b8; clear cz b8; go_wp2_with fail; refine (jbw b A C L r w1 cC.out).mono ?_; cases hk : qX r with
   | error m =>
     have HE := hid (show ze r = .error m by unfold ze; rw [hs]; simp only; rw [hk]; rfl); clear hs hk; rintro e w2 ⟨rfl, b7⟩; have bY := hid (bX.out.trans b7); clear b7; go_wp2; rw [HE.out]; exact ⟨rfl, rfl, bY.out⟩
   | ok y =>
     obtain ⟨x, q⟩ := y; have HE := hid (show ze r = .ok ([x], q) by unfold ze; rw [hs]; simp only; rw [hk]; rfl); clear hs hk; rintro e w2 ⟨v, rfl, rfl, cA, b7⟩; have bY := hid (bX.out.trans b7); have cD := hid cA; have hsz := bY.out.size; clear cA b7; have cw : Below w2.heap.size w2 (w2.alloc (.cells #[.string (S x)] 9)) := nb0 _ _; have HV := hid (show TxtsM (newB w.heap.size) (w2.alloc (.cells #[.string (S x)] 9)) (.slice (some ⟨w2.heap.size, 0, none⟩) 1 1) [x] from jcr (cs := [.string (S x)]) (az w2 _) rfl hsz rfl); have cu := hid cw; clear cw; go_wp2; go_ret; rw [HE.out]; exact ⟨_, rfl, HV.out, cD.out.next cu.out, bY.out.trans (But.of cu.out)⟩
 | some q0 =>
   rintro e w1 ⟨rfl, cz, b8⟩; have cC := hid cz; have bX := hid b8; clear cz b8; go_wp2_with fail; refine (jbw b A C L q0 w1 cC.out).mono ?_; cases hk : qX q0 with
   | error m =>
     have HE := hid (show ze r = .error m by unfold ze; rw [hs]; simp only; rw [hk]; rfl); clear hs hk; rintro e w2 ⟨rfl, b7⟩; have bY := hid (bX.out.trans b7); clear b7; go_wp2; rw [HE.out]; exact ⟨rfl, rfl, bY.out⟩
   | ok y =>
     obtain ⟨x, q1⟩ := y; have HL := hid (show ze r = jo (vV qX q1.length [x] q1) fun l q2 => jo (jI 5 [93] q2) fun _ q3 => .ok (l, q3) by unfold ze; rw [hs]; simp only; rw [hk]; rfl); clear hs hk; rintro e w2 ⟨v, rfl, rfl, cA, b7⟩; have bY := hid (bX.out.trans b7); have hsz := bY.out.size; obtain ⟨W0, hW0⟩ : ∃ W0, W0 = w2.alloc (.cells #[.string (S x)] 9) := ⟨_, rfl⟩; have cw : Below w2.heap.size w2 W0 := by rw [hW0]; exact nb0 _ _
     have mR := hid (show W0.ownsRow w.heap.size 9 1 (.slice (some ⟨w2.heap.size, 0, none⟩) [x].length 1) [x].length (jb6 [x]) by
        rw [hW0]; exact ⟨rfl, .inr ⟨w2.heap.size, 1, #[.string (S x)], rfl, hsz, az w2 _, by simp, by unfold maxLen; omega, rfl, rfl⟩⟩)
     have dj := hid (cA.next cw); have cj := hid (show But b w W0 from bY.out.trans (But.of cw)); have b9 := hid hW0; clear cA b7 hW0 cw; go_wp2; rw [<- b9.out]
     go_loopw [3] (fun v wr => ∃ (acc : List (List UInt8)) (q : List Tok) (a0 : Option Addr) (c0 m : Nat), v = .slice a0 acc.length c0 /\ wr.ownsRow w.heap.size 9 1 (.slice a0 acc.length c0) acc.length (jb6 acc) /\ RdS wr b A C L q /\ q.length <= m /\ acc.length + q.length <= 401 /\
      Hid (ze r = jo (vV qX m acc q) fun l q2 => jo (jI 5 [93] q2) fun _ q3 => .ok (l, q3)) /\ But b w wr) (fun _ wr => jat b L.length wr)
     case atStart => exact ⟨[x], q1, _, _, q1.length, rfl, mR.out, dj.out, ai _, by have := dj.out.len; simp; omega, HL, cj.out⟩
     case round =>
        obtain ⟨acc, q, a0, c0, m, rfl, hO, de, oz, kh, hN, dd⟩ := hrel; have HO := hid hO; have dR := hid de; have iN := hid dd; have HM := hid (qd de); clear hO de dd; go_wp2_with fail; refine (qE b A C L q 5 [44] wr dR.out (by omega)).mono ?_; cases hs : zl 5 [44] q with
        | none =>
          have HE := hid (show ze r = jo (jI 5 [93] q) fun _ q3 => .ok (acc, q3) by rw [hN.out, jfw hs]; rfl); clear hs; rintro e w3 ⟨rfl, cB, cy⟩; have cT := hid cB; have bZ := hid (iN.out.trans cy); have db := hid (vM HO.out cy hbl); clear cB cy; go_wp2_with fail; refine (zB b A C L q 5 [93] w3 cT.out (by omega)).mono ?_; cases ht : jI 5 [93] q with
          | error mm =>
            have HF := hid (show ze r = .error mm by rw [HE.out, ht]; rfl); clear ht; rintro e w4 ⟨rfl, cf⟩; have ch := hid (bZ.out.trans cf); clear cf; go_wp2; rw [HF.out]; exact ⟨rfl, rfl, ch.out⟩
          | ok y =>
            obtain ⟨u, q3⟩ := y; have HF := hid (show ze r = .ok (acc, q3) by rw [HE.out, ht]; rfl); clear ht; rintro e w4 ⟨v, rfl, rfl, cK, cf⟩; have dm := hid cK; have ch := hid (bZ.out.trans cf); have HV := hid (jnI (vM db.out cf hbl) (by unfold maxLen; omega)); clear cK cf; go_wp2; go_ret; rw [HF.out]; exact ⟨_, rfl, HV.out, dm.out, ch.out⟩
        | some q' =>
          have gR := jH hs; obtain ⟨m', rfl⟩ : ∃ m', m = m' + 1 := ⟨m - 1, by omega⟩; have HE := hid (show ze r = jo (jo (qX q') fun x q2 => vV qX m' (acc ++ [x]) q2) fun l q2 => jo (jI 5 [93] q2) fun _ q3 => .ok (l, q3) by rw [hN.out, jhN hs]); clear hs; rintro e w3 ⟨rfl, cB, cy⟩; have cT := hid cB; have bZ := hid (iN.out.trans cy); have db := hid (vM HO.out cy hbl); clear cB cy; go_wp2_with fail; refine (jbw b A C L q' w3 cT.out).mono ?_; cases ht : qX q' with
          | error mm =>
            have HF := hid (show ze r = .error mm by rw [HE.out, ht]; rfl); clear ht; rintro e w4 ⟨rfl, cf⟩; have ch := hid (bZ.out.trans cf); clear cf; go_wp2; rw [HF.out]; exact ⟨rfl, rfl, ch.out⟩
          | ok y =>
            obtain ⟨x2, q2⟩ := y; have dW := jaz ht; have HF := hid (show ze r = jo (vV qX m' (acc ++ [x2]) q2) fun l q2 => jo (jI 5 [93] q2) fun _ q3 => .ok (l, q3) by rw [HE.out, ht]; rfl); clear ht; rintro e w4 ⟨v, rfl, rfl, cK, cf⟩; have dm := hid cK; have ch := hid (bZ.out.trans cf); have iF : w4.ownsRow w.heap.size 9 1 (.slice a0 acc.length c0) acc.length (jb6 acc) := vM db.out cf hbl; have gB := ch.out.size; clear cK cf
            go_wp2_with (at_builtin; refine wpList_append_own _ rfl _ _ 56 rfl w.heap.size 9 i0 _ 1 16 Tryz.underlying56 hi hz0 hz1 hz2 rfl (by decide) (.slice a0 acc.length c0) acc.length (jb6 acc) rfl (aO iF _) ⟨w4.heap.size, 0, none⟩ 1 1 [.string (S x2)] rfl rfl (jpY _ _ _) ?c2 ?c3 ?c4 ?c5 ?_)
            case c2 => intro u hu; simp at hu; subst hu; rfl
            case c3 => unfold maxLen; omega
            case c4 => omega
            case c5 => simp; omega
            intro v' w5 hown' hgrow _; have dO : Below w.heap.size w4 w5 := ((ay _ _).alloc gB _).grown hgrow (by simp; omega) (fun j hj => (aA iF j hj).1); have fw := hid (dm.out.under dO hbl); have dh := hid (ch.out.low dO); have eO := hid (show w5.ownsRow w.heap.size 9 1 v' (acc ++ [x2]).length (jb6 (acc ++ [x2])) by
              have := hown'; rw [aB]; unfold jb6 at this ⊢; rw [bK]; exact this)
            obtain ⟨a5, c5, CL⟩ : ∃ a c, v' = .slice a (acc ++ [x2]).length c := by
              rcases eO.out.2 with ⟨rfl, hn⟩ | ⟨g, cap, cur, rfl, _⟩
              . exact ⟨none, 0, by rw [hn]⟩
              . exact ⟨_, _, rfl⟩
            subst CL; have HD := hid (show jat b L.length w5 < jat b L.length wr by rw [qd fw.out, HM.out]; omega); clear hown' hgrow dO iF; go_wp2; exact ⟨⟨acc ++ [x2], q2, a5, c5, m', by first | rfl | simp, eO.out, fw.out, by omega, by simp; omega, HF, dh.out⟩, HD.out⟩
end Go.Proofs.YtjdkbdkimbgbfaaGreatDoor
