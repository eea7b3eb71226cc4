/-
  What the reader's kind, bound, list do: the walks.
-/
import Derived.Test.YtnjlakengbhokaaDoorScrNum
import Derived.Test.YtnjlakengbhokaaDoorScrRd2
import Derived.Deep.AppendLies
namespace Go.Proofs.YtnjlakengbhokaaDoor
open Go.RowKit Go.Proofs

theorem kindP_deep {k d : Nat} {r : List Tok} (h : 6 < d) : kindP k d r = .error (r.length, 1) := by unfold kindP; rw [if_pos h]
theorem kindP_end {k d : Nat} (h : ¬ 6 < d) : kindP k d [] = .error (misP []) := by unfold kindP; rw [if_neg h]
theorem kindP_yes {k d : Nat} {t : Tok} {r : List Tok} (h : ¬ 6 < d) (h1 : t.kind = 1) (h2 : numberP k t.text ≠ 0) : kindP k d (t :: r) = .ok (numberP k t.text, r) := by unfold kindP; rw [if_neg h]; simp only; rw [if_pos ⟨h1, h2⟩]
theorem kindP_no {k d : Nat} {t : Tok} {r : List Tok} (h : ¬ 6 < d) (h1 : ¬ (t.kind = 1 ∧ numberP k t.text ≠ 0)) : kindP k d (t :: r) = .error (misP (t :: r)) := by unfold kindP; rw [if_neg h]; simp only; rw [if_neg h1]

set_option maxHeartbeats 8000000 in
set_option maxRecDepth 100000 in
theorem rkind_any (b : Nat) (A : Option Addr) (C : Nat) (L r : List Tok) (k d : Nat) (w : World) (h : RdS w b A C L r) (hk : k < 4) (hw : WordsAt w) :
    Calls Tryd.prog 54 #[.pointer (some ⟨b, 0, none⟩), .int .i64 k, .int .i64 d] w (Rp b w A C L (fun n _ v => v = .int .i64 (n : Nat)) (kindP k d r)) := by
  have H := hid h
  have HW := hid hw
  have hbl := h.lt
  have hsm := h.small
  have hlen := h.len
  have c1 := h.c1
  clear h hw
  by_cases hd : 6 < d
  · have HE := hid (kindP_deep (k := k) (r := r) hd)
    have hd' : (6 : Int) < (d : Int) := by omega
    clear hd
    go_enter Tryd.func54, Tryd.ntmps54
    go_wp2
    rw [HE.out]
    exact ⟨rfl, rfl, But.refl _ _⟩
  · have hd' : ¬ (6 : Int) < (d : Int) := by omega
    have HD := hid hd
    clear hd c1
    go_enter Tryd.func54, Tryd.ntmps54
    go_wp2_with fail
    refine (rnext_any b A C L r w H.out).mono ?_
    rintro e w1 ⟨rfl, hb1⟩
    have HR1 := hid (H.out.next hb1)
    have HB1 := hid (show But b w w1 from But.of hb1)
    have HW1 := hid (HW.out.next hb1)
    clear hb1
    have hf1 := tok_f1 (nextT r)
    rw [tokV]
    go_wp2_with fail
    refine (number_any k hk (nextT r).text w1 HW1.out).mono ?_
    rintro e w1' ⟨rfl, hw1⟩
    have hw1' := hw1.symm
    subst hw1'
    clear hf1
    go_wp2_with fail
    refine (rnext_any b A C L r w1 HR1.out).mono ?_
    rintro e w2 ⟨rfl, hb2⟩
    have hR2 := HR1.out.next hb2
    have HR2 := hid hR2
    have HB2 := hid (show But b w w2 from HB1.out.trans (But.of hb2))
    have d1 := hR2.c1
    have y1 := hR2.z1
    clear hb2 hR2
    have hf0 := tok_f0 (nextT r)
    rw [tokV]
    cases r with
    | nil =>
      have hz : (((nextT []).kind : Int) != 1) = true := by rfl
      have HE := hid (kindP_end (k := k) HD.out)
      go_wp2_with fail
      refine (misfit_any b A C L [] w2 HR2.out).mono ?_
      rintro e w3 ⟨rfl, hb3⟩
      have HB3 := hid (HB2.out.trans (But.of hb3))
      clear hb3
      unfold misV
      go_wp2
      rw [HE.out]
      exact ⟨rfl, rfl, HB3.out⟩
    | cons t r =>
      rw [nextT_cons]
      rw [nextT_cons] at hf0
      by_cases ht : t.kind = 1
      · have q1 : (t.kind != 1) = false := by simp [ht]
        by_cases hn : numberP k t.text = 0
        · have HE := hid (kindP_no (r := r) HD.out (fun (h : t.kind = 1 ∧ numberP k t.text ≠ 0) => h.2 hn))
          rw [hn]
          clear ht hn
          go_wp2_with fail
          refine (misfit_any b A C L (t :: r) w2 HR2.out).mono ?_
          rintro e w3 ⟨rfl, hb3⟩
          have HB3 := hid (HB2.out.trans (But.of hb3))
          clear hb3
          unfold misV
          go_wp2
          rw [HE.out]
          exact ⟨rfl, rfl, HB3.out⟩
        · have HE := hid (kindP_yes (r := r) HD.out ht hn)
          obtain ⟨m, hm⟩ : ∃ m, m = numberP k t.text := ⟨_, rfl⟩
          rw [← hm]
          have HM := hid hm
          have hm0 : ((m : Int) == 0) = false := by rw [beq_eq_false_iff_ne, hm]; omega
          obtain ⟨i, hie⟩ : ∃ i, i = L.length - (t :: r).length := ⟨_, rfl⟩
          have HI := hid (show i + 1 = L.length - r.length by rw [hie]; simp at hlen ⊢; omega)
          rw [← hie] at d1
          have hi4 : (i : Int) ≤ 400 := by omega
          have hi0 : (0 : Int) ≤ (i : Int) := by omega
          have HST := hid (show RdS (w2.setCell ⟨b, 1, none⟩ (.int .i64 ((i : Int) + 1))) b A C L r by
            have := HR2.out.step
            rw [← HI.out] at this
            exact this)
          clear ht hn hm hie
          go_wp2
          go_ret
          rw [HE.out, ← HM.out]
          exact ⟨_, rfl, rfl, HST.out, HB2.out.trans (But.setO _ 1 _)⟩
      · have q1 : (t.kind != 1) = true := by simpa using ht
        have HE := hid (kindP_no (r := r) HD.out (fun (h : t.kind = 1 ∧ numberP k t.text ≠ 0) => ht h.1))
        clear ht
        go_wp2_with fail
        refine (misfit_any b A C L (t :: r) w2 HR2.out).mono ?_
        rintro e w3 ⟨rfl, hb3⟩
        have HB3 := hid (HB2.out.trans (But.of hb3))
        clear hb3
        unfold misV
        go_wp2
        rw [HE.out]
        exact ⟨rfl, rfl, HB3.out⟩

set_option maxHeartbeats 4000000 in
set_option maxRecDepth 100000 in
theorem rbound_any (b : Nat) (A : Option Addr) (C : Nat) (L r : List Tok) (w : World) (h : RdS w b A C L r) :
    Calls Tryd.prog 94 #[.pointer (some ⟨b, 0, none⟩)] w (Rp b w A C L (fun (x : Bool × Int) _ v => v = .tuple #[.bool x.1, .int .i64 x.2]) (boundR r)) := by
  have H := hid h
  clear h
  go_enter Tryd.func94, Tryd.ntmps94
  go_wp2_with fail
  refine (skips_any b A C L r 2 overW w H.out (by omega)).mono ?_
  cases hs : skipP 2 overW r with
  | some q =>
    rintro e w1 ⟨rfl, hR1, hB1⟩
    have HR1 := hid hR1
    have HB1 := hid hB1
    clear hR1 hB1
    go_wp2_with fail
    refine (takeKind_any b A C L q 3 w1 HR1.out (by omega)).mono ?_
    cases hk : takeKP 3 q with
    | ok x =>
      obtain ⟨t, q2⟩ := x
      have HE := hid (show boundR r = .ok ((true, t.num), q2) by unfold boundR; rw [hs]; simp only; rw [hk]; rfl)
      clear hs hk
      rintro e w2 ⟨v, rfl, rfl, hR2, hB2⟩
      have HR2 := hid hR2
      have HB2 := hid (HB1.out.trans hB2)
      clear hR2 hB2
      rw [tokV]
      have hf2 := tok_f2 t
      go_wp2
      go_ret2
      rw [HE.out]
      exact ⟨_, rfl, rfl, HR2.out, HB2.out⟩
    | error m =>
      have HE := hid (show boundR r = .error m by unfold boundR; rw [hs]; simp only; rw [hk]; rfl)
      clear hs hk
      rintro e w2 ⟨rfl, hB2⟩
      have HB2 := hid (HB1.out.trans hB2)
      clear hB2
      go_wp2
      rw [HE.out]
      exact ⟨rfl, rfl, HB2.out⟩
  | none =>
    rintro e w1 ⟨rfl, hR1, hB1⟩
    have HR1 := hid hR1
    have HB1 := hid hB1
    clear hR1 hB1
    go_wp2_with fail
    refine (rtake_any b A C L r 2 underW w1 HR1.out (by omega)).mono ?_
    cases hu : takeTP 2 underW r with
    | error m =>
      have HE := hid (show boundR r = .error m by unfold boundR; rw [hs]; simp only; rw [hu]; rfl)
      clear hs hu
      rintro e w2 ⟨rfl, hB2⟩
      have HB2 := hid (HB1.out.trans hB2)
      clear hB2
      go_wp2
      rw [HE.out]
      exact ⟨rfl, rfl, HB2.out⟩
    | ok x =>
      obtain ⟨u, q⟩ := x
      rintro e w2 ⟨v, rfl, rfl, hR2, hB2⟩
      have HR2 := hid hR2
      have HB2 := hid (HB1.out.trans hB2)
      clear hR2 hB2
      go_wp2_with fail
      refine (takeKind_any b A C L q 3 w2 HR2.out (by omega)).mono ?_
      cases hk : takeKP 3 q with
      | ok x =>
        obtain ⟨t, q2⟩ := x
        have HE := hid (show boundR r = .ok ((false, t.num), q2) by unfold boundR; rw [hs]; simp only; rw [hu]; unfold thenR; simp only; rw [hk])
        clear hs hk hu
        rintro e w3 ⟨v, rfl, rfl, hR3, hB3⟩
        have HR3 := hid hR3
        have HB3 := hid (HB2.out.trans hB3)
        clear hR3 hB3
        rw [tokV]
        have hf2 := tok_f2 t
        go_wp2
        go_ret2
        rw [HE.out]
        exact ⟨_, rfl, rfl, HR3.out, HB3.out⟩
      | error m =>
        have HE := hid (show boundR r = .error m by unfold boundR; rw [hs]; simp only; rw [hu]; unfold thenR; simp only; rw [hk])
        clear hs hk hu
        rintro e w3 ⟨rfl, hB3⟩
        have HB3 := hid (HB2.out.trans hB3)
        clear hB3
        go_wp2
        rw [HE.out]
        exact ⟨rfl, rfl, HB3.out⟩
end Go.Proofs.YtnjlakengbhokaaDoor
