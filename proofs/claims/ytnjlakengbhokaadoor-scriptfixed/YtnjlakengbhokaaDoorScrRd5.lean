/-
  What the reader's tags does: the walk.
-/
import Derived.Test.YtnjlakengbhokaaDoorScrNum
import Derived.Test.YtnjlakengbhokaaDoorScrRd4
namespace Go.Proofs.YtnjlakengbhokaaDoor
open Go.RowKit Go.Proofs

def finT (hp : Bool) (m p : Nat) : Nat × Nat := (if m = 0 then 1 else m, if p = 0 ∧ hp = true then 1 else p)
theorem tags_end {hp : Bool} {r : List Tok} {m p : Nat} (h : ¬ (nextT r).kind = 2) : tagsF hp r m p = .ok (finT hp m p, r) := by
  cases r with
  | nil => rfl
  | cons t r => unfold tagsF; rw [if_neg (show ¬ t.kind = 2 from h)]; rfl
theorem tags_mat {hp : Bool} {t : Tok} {r : List Tok} {m p : Nat} (h : t.kind = 2) (h1 : numberP 2 t.text ≠ 0 ∧ m = 0) : tagsF hp (t :: r) m p = tagsF hp r (numberP 2 t.text) p := by
  rw [tagsF, if_pos h, if_pos h1]
theorem tags_part {hp : Bool} {t : Tok} {r : List Tok} {m p : Nat} (h : t.kind = 2) (h1 : ¬ (numberP 2 t.text ≠ 0 ∧ m = 0)) (h2 : numberP 3 t.text ≠ 0 ∧ p = 0 ∧ hp = true) : tagsF hp (t :: r) m p = tagsF hp r m (numberP 3 t.text) := by
  rw [tagsF, if_pos h, if_neg h1, if_pos h2]
theorem tags_odd {hp : Bool} {t : Tok} {r : List Tok} {m p : Nat} (h : t.kind = 2) (h1 : ¬ (numberP 2 t.text ≠ 0 ∧ m = 0)) (h2 : ¬ (numberP 3 t.text ≠ 0 ∧ p = 0 ∧ hp = true)) : tagsF hp (t :: r) m p = .error (misP (t :: r)) := by
  rw [tagsF, if_pos h, if_neg h1, if_neg h2]

set_option maxHeartbeats 16000000 in
set_option maxRecDepth 100000 in
theorem rtags_any (b : Nat) (A : Option Addr) (C : Nat) (L r : List Tok) (hp : Bool) (w : World) (h : RdS w b A C L r) (hw : WordsAt w) (hG : 3 < b) :
    Calls Tryd.prog 93 #[.pointer (some ⟨b, 0, none⟩), .bool hp] w (Rp b w A C L (fun (x : Nat × Nat) _ v => v = .tuple #[.int .i64 (x.1 : Nat), .int .i64 (x.2 : Nat)]) (tagsF hp r 0 0)) := by
  have H := hid h
  have HW := hid hw
  have hsm := h.small
  clear h hw
  go_enter Tryd.func93, Tryd.ntmps93
  go_wp2
  go_loopw [4, 5] (fun v4 v5 wr => ∃ (m p : Nat) (q : List Tok), v4 = .int .i64 m ∧ v5 = .int .i64 p ∧ RdS wr b A C L q ∧ But b w wr ∧ Hid (tagsF hp r 0 0 = tagsF hp q m p)) (fun _ _ wr => restS b L.length wr)
  case atStart => exact ⟨0, 0, r, rfl, rfl, H.out, But.refl _ _, rfl⟩
  case round =>
    obtain ⟨m, p, q, rfl, rfl, hRr, hBr, hN⟩ := hrel
    have HRr := hid hRr
    have HBr := hid hBr
    have HWr := hid (HW.out.but hBr hG)
    have HM := hid (restS_is hRr)
    have hlen := hRr.len
    clear hRr hBr
    go_wp2_with fail
    refine (rnext_any b A C L q wr HRr.out).mono ?_
    rintro e w1 ⟨rfl, hb1⟩
    have HR1 := hid (HRr.out.next hb1)
    have HB1 := hid (HBr.out.trans (But.of hb1))
    have HW1 := hid (HWr.out.next hb1)
    clear hb1
    rw [tokV]
    have hf0 := tok_f0 (nextT q)
    by_cases hk : (nextT q).kind = 2
    · have q1 : ((nextT q).kind == 2) = true := by simp [hk]
      cases q with
      | nil => exact absurd hk (by decide)
      | cons t q =>
        rw [nextT_cons] at hk q1 hf0
        rw [nextT_cons]
        have HK := hid hk
        clear hk
        go_wp2_with fail
        refine (rnext_any b A C L (t :: q) w1 HR1.out).mono ?_
        rintro e w2 ⟨rfl, hb2⟩
        have HR2 := hid (HR1.out.next hb2)
        have HB2 := hid (HB1.out.trans (But.of hb2))
        have HW2 := hid (HW1.out.next hb2)
        clear hb2
        rw [tokV, nextT_cons]
        have hf1 := tok_f1 t
        go_wp2_with fail
        refine (number_any 2 (by omega) t.text w2 HW2.out).mono ?_
        rintro e w2' ⟨rfl, hw2⟩
        have hw2' := hw2.symm
        subst hw2'
        go_wp2_with fail
        refine (rnext_any b A C L (t :: q) w2 HR2.out).mono ?_
        rintro e w3 ⟨rfl, hb3⟩
        have hR3 := HR2.out.next hb3
        have HR3 := hid hR3
        have HB3 := hid (HB2.out.trans (But.of hb3))
        have HW3 := hid (HW2.out.next hb3)
        have d1 := hR3.c1
        have y1 := hR3.z1
        clear hb3 hR3
        rw [tokV, nextT_cons]
        go_wp2_with fail
        refine (number_any 3 (by omega) t.text w3 HW3.out).mono ?_
        rintro e w3' ⟨rfl, hw3⟩
        have hw3' := hw3.symm
        subst hw3'
        obtain ⟨n2, hn2⟩ : ∃ n2, n2 = numberP 2 t.text := ⟨_, rfl⟩
        obtain ⟨n3, hn3⟩ : ∃ n3, n3 = numberP 3 t.text := ⟨_, rfl⟩
        rw [← hn2, ← hn3]
        obtain ⟨i, hie⟩ : ∃ i, i = L.length - (t :: q).length := ⟨_, rfl⟩
        have HI := hid (show i + 1 = L.length - q.length by rw [hie]; simp at hlen ⊢; omega)
        rw [← hie] at d1
        have hi4 : (i : Int) ≤ 400 := by omega
        have hi0 : (0 : Int) ≤ (i : Int) := by omega
        have HST := hid (show RdS (w3.setCell ⟨b, 1, none⟩ (.int .i64 ((i : Int) + 1))) b A C L q by
          have := HR3.out.step
          rw [← HI.out] at this
          exact this)
        have HD := hid (show restS b L.length (w3.setCell ⟨b, 1, none⟩ (.int .i64 ((i : Int) + 1))) < restS b L.length wr by rw [restS_is HST.out, HM.out]; simp)
        have HBS := hid (show But b w (w3.setCell ⟨b, 1, none⟩ (.int .i64 ((i : Int) + 1))) from HB3.out.trans (But.setO _ 1 _))
        clear hie hf0 hf1 q1
        by_cases c1 : n2 ≠ 0 ∧ m = 0
        · have HE := hid (show tagsF hp r 0 0 = tagsF hp q n2 p by rw [hN.out, hn2]; exact tags_mat HK.out (by rw [← hn2]; exact c1))
          have e1 : ((n2 : Int) != 0) = true := by simp; exact c1.1
          have e2 : m = 0 := c1.2
          subst e2
          clear hn2 hn3 c1
          go_wp2
          exact ⟨⟨n2, p, q, rfl, rfl, HST.out, HBS.out, HE⟩, HD.out⟩
        · have HC1 := hid c1
          have e1 : n2 = 0 ∨ m ≠ 0 := by omega
          by_cases c2 : n3 ≠ 0 ∧ p = 0 ∧ hp = true
          · have HE := hid (show tagsF hp r 0 0 = tagsF hp q m n3 by rw [hN.out, hn3]; exact tags_part HK.out (by rw [← hn2]; exact c1) (by rw [← hn3]; exact c2))
            obtain ⟨g1, g2, g3⟩ := c2
            have e3 : ((n3 : Int) != 0) = true := by simp; exact g1
            subst g2
            subst g3
            clear hn2 hn3 c1 g1
            rcases e1 with e1 | e1
            · subst e1
              go_wp2
              exact ⟨⟨m, n3, q, rfl, rfl, HST.out, HBS.out, HE⟩, HD.out⟩
            · have e4 : ((m : Int) == 0) = false := by rw [beq_eq_false_iff_ne]; omega
              clear e1
              by_cases z : n2 = 0
              · subst z
                go_wp2
                exact ⟨⟨m, n3, q, rfl, rfl, HST.out, HBS.out, HE⟩, HD.out⟩
              · have e5 : ((n2 : Int) != 0) = true := by simp; exact z
                clear z
                go_wp2
                exact ⟨⟨m, n3, q, rfl, rfl, HST.out, HBS.out, HE⟩, HD.out⟩
          · have HE := hid (show tagsF hp r 0 0 = .error (misP (t :: q)) by rw [hN.out]; exact tags_odd HK.out (by rw [← hn2]; exact c1) (by rw [← hn3]; exact c2))
            have HC2 := hid c2
            clear hn2 hn3 c1 c2 e1
            have s1 : (((n2 : Int) != 0) && ((m : Int) == 0)) = false := by
              have := HC1.out
              rw [Bool.eq_false_iff]
              simp
              omega
            have s2 : (((n3 : Int) != 0) && ((p : Int) == 0) && hp) = false := by
              have := HC2.out
              rw [Bool.eq_false_iff]
              simp only [Bool.and_eq_true, bne_iff_ne, beq_iff_eq, ne_eq, not_and]
              intro u hh
              exact this ⟨by omega, by omega, hh⟩
            go_wp2_with fail
            all_goals first
              | (refine (misfit_any b A C L (t :: q) w3 HR3.out).mono ?_
                 rintro e w4 ⟨rfl, hb4⟩
                 have HB4 := hid (HB3.out.trans (But.of hb4))
                 clear hb4
                 unfold misV
                 go_wp2
                 rw [HE.out]
                 exact ⟨rfl, rfl, HB4.out⟩)
              | (exfalso; simp_all)
    · have q1 : ((nextT q).kind == 2) = false := by simp [hk]
      have HE := hid (show tagsF hp r 0 0 = .ok (finT hp m p, q) by rw [hN.out]; exact tags_end hk)
      clear hk
      by_cases hm : m = 0
      · have HF := hid (show (finT hp m p).1 = 1 by unfold finT; rw [if_pos hm])
        subst hm
        by_cases hpp : p = 0 ∧ hp = true
        · have HG := hid (show (finT hp 0 p).2 = 1 by unfold finT; simp only; rw [if_pos hpp])
          obtain ⟨g1, g2⟩ := hpp
          subst g1
          subst g2
          go_wp2
          go_ret2
          rw [HE.out]
          exact ⟨_, rfl, by simp only [HF.out, HG.out]; rfl, HR1.out, HB1.out⟩
        · have HG := hid (show (finT hp 0 p).2 = p by unfold finT; simp only; rw [if_neg hpp])
          by_cases z : p = 0
          · have hh : hp = false := by cases hp <;> simp_all
            subst hh
            subst z
            clear hpp
            go_wp2
            go_ret2
            rw [HE.out]
            exact ⟨_, rfl, by simp only [HF.out, HG.out]; rfl, HR1.out, HB1.out⟩
          · have e4 : ((p : Int) == 0) = false := by rw [beq_eq_false_iff_ne]; omega
            clear z hpp
            go_wp2
            go_ret2
            rw [HE.out]
            exact ⟨_, rfl, by simp only [HF.out, HG.out]; rfl, HR1.out, HB1.out⟩
      · have HF := hid (show (finT hp m p).1 = m by unfold finT; simp only; rw [if_neg hm])
        have e3 : ((m : Int) == 0) = false := by rw [beq_eq_false_iff_ne]; omega
        clear hm
        by_cases hpp : p = 0 ∧ hp = true
        · have HG := hid (show (finT hp m p).2 = 1 by unfold finT; simp only; rw [if_pos hpp])
          obtain ⟨g1, g2⟩ := hpp
          subst g1
          subst g2
          go_wp2
          go_ret2
          rw [HE.out]
          exact ⟨_, rfl, by simp only [HF.out, HG.out]; rfl, HR1.out, HB1.out⟩
        · have HG := hid (show (finT hp m p).2 = p by unfold finT; simp only; rw [if_neg hpp])
          by_cases z : p = 0
          · have hh : hp = false := by cases hp <;> simp_all
            subst hh
            subst z
            clear hpp
            go_wp2
            go_ret2
            rw [HE.out]
            exact ⟨_, rfl, by simp only [HF.out, HG.out]; rfl, HR1.out, HB1.out⟩
          · have e4 : ((p : Int) == 0) = false := by rw [beq_eq_false_iff_ne]; omega
            clear z hpp
            go_wp2
            go_ret2
            rw [HE.out]
            exact ⟨_, rfl, by simp only [HF.out, HG.out]; rfl, HR1.out, HB1.out⟩
end Go.Proofs.YtnjlakengbhokaaDoor
