/-
  What a session does with a line of a letter: the walk.
-/
import Derived.Test.YtkdmccgfehmoaaaLmHov
import Derived.Test.YtkdmccgfehmoaaaLmWrd
namespace Go.Proofs.Ytkdmccgfehmoaaa
open Go.RowKit Go.Proofs

theorem S_app3 (a b : List UInt8) : S a ++ (S b ++ ⟨#[13, 10]⟩) = S (a ++ b ++ [13, 10]) := by
  have h : ∀ x y : List UInt8, S x ++ S y = S (x ++ y) := fun x y => by
    apply ByteArray.ext
    rw [ByteArray.data_append]
    simp [S]
  rw [show (⟨#[13, 10]⟩ : ByteArray) = S [13, 10] from rfl, h, h, List.append_assoc]
theorem undot_len (l : List UInt8) : (undot l).length ≤ l.length := by
  cases l with
  | nil => simp [undot]
  | cons c t => simp only [undot]; split <;> simp
set_option maxHeartbeats 2000000 in
set_option maxRecDepth 100000 in
theorem read_any (n b B : Nat) (line : List UInt8) (s : Ses) (w : World) (h : SesW w b B s (.slice none 0 0)) (hn : n ≤ b) (h5 : s.to.length ≤ 1000) (hl : line.length ≤ 140737488355328) (ht : s.text.length ≤ 2000) :
    Calls Try.prog 18 #[.pointer (some ⟨b, 0, none⟩), .string (S line)] w (RdP n b B w.heap.size w (bodyM s line)) := by
  have e1 := lm_lit line [46]
  by_cases hd : line = [46]
  · have HG := hid (show bodyM s line = (atS 1, lettersM s) by unfold bodyM; rw [if_pos hd])
    have HX := hid (handOver_any n b B s w h hn h5)
    rw [show decide (line = [46]) = true by simp [hd]] at e1
    clear hd h
    go_enter Try.func18, Try.ntmps18
    go_wp2_with fail
    refine HX.out.mono ?_
    intro e u hp
    have HP := hid hp
    obtain ⟨rfl, _⟩ := hp
    have HE := hid (show RdP n b B w.heap.size w (bodyM s line) (.returned (.tuple #[])) u by rw [HG.out]; exact HP.out)
    go_wp2
    go_end0
    exact HE.out
  · have HG := hid (show bodyM s line = (readM s line, []) by unfold bodyM; rw [if_neg hd])
    rw [show decide (line = [46]) = false by simp [hd]] at e1
    clear hd
    obtain ⟨v, hs, ho⟩ := h
    obtain ⟨⟨x0, x1, x2, x3, x4, x5, x6⟩, hfz⟩ := lm_box7 hs
    have f4 := hfz 4
    have f5 := hfz 5
    have HTD := hid (trimDot_any (S line) w)
    rw [list_S] at HTD
    have HZ1 := hid (size_S s.text)
    have HZ2 := hid (size_S (undot line))
    have hul := undot_len line
    have HE1 := hid (show s.large = true ∨ 2000 < s.text.length + (undot line).length + 2 → RdP n b B w.heap.size w (bodyM s line) (.returned (.tuple #[])) (w.setCell ⟨b, 5, none⟩ (.bool true)) by
      intro hc
      rw [HG.out]
      unfold readM
      rw [if_pos hc]
      have h1 := lm_put (j := 5) (u := .bool true) hs
      simp only [List.setIfInBounds_toArray, List.set_cons_zero, List.set_cons_succ] at h1
      exact ⟨rfl, _, ⟨v, h1, own_other ho hs⟩, OwnT.nil _ _, (Below.refl _ _).setCell (p := ⟨b, 5, none⟩) hn _⟩)
    have HE2 := hid (show ¬ (s.large = true ∨ 2000 < s.text.length + (undot line).length + 2) → RdP n b B w.heap.size w (bodyM s line) (.returned (.tuple #[])) (w.setCell ⟨b, 4, none⟩ (.string (S s.text ++ (S (undot line) ++ ⟨#[13, 10]⟩)))) by
      intro hc
      rw [HG.out]
      unfold readM
      rw [if_neg hc]
      have h1 := lm_put (j := 4) (u := .string (S s.text ++ (S (undot line) ++ ⟨#[13, 10]⟩))) hs
      simp only [List.setIfInBounds_toArray, List.set_cons_zero, List.set_cons_succ] at h1
      rw [S_app3] at h1 ⊢
      exact ⟨rfl, _, ⟨v, h1, own_other ho (by exact hs)⟩, OwnT.nil _ _, (Below.refl _ _).setCell (p := ⟨b, 4, none⟩) hn _⟩)
    obtain ⟨g, hg⟩ : ∃ g, g = s.large := ⟨_, rfl⟩
    rw [← hg] at x5 HE1 HE2
    clear hs ho hfz hg
    obtain ⟨U, hU⟩ : ∃ U, U = undot line := ⟨_, rfl⟩
    rw [← hU] at HTD HZ2 hul HE1 HE2
    clear hU
    cases g with
    | true =>
      go_enter Try.func18, Try.ntmps18
      go_wp2_with fail
      refine HTD.out.mono ?_
      rintro e u ⟨rfl, hu⟩
      have hu' := hu.symm
      subst hu'
      go_wp2
      go_end0
      exact HE1.out (by simp)
    | false =>
      have hz1 := HZ1.out
      have hz2 := HZ2.out
      by_cases hc : 2000 < s.text.length + U.length + 2
      · have hc' : (2000 : Int) < ((S s.text).size : Int) + ((S U).size : Int) + 2 := by omega
        have hw1 : ((S s.text).size : Int) + ((S U).size : Int) + 2 < 9223372036854775808 := by omega
        clear hz1 hz2
        go_enter Try.func18, Try.ntmps18
        go_wp2_with fail
        refine HTD.out.mono ?_
        rintro e u ⟨rfl, hu⟩
        have hu' := hu.symm
        subst hu'
        go_wp2
        go_end0
        exact HE1.out (.inr hc)
      · have hc' : ¬ (2000 : Int) < ((S s.text).size : Int) + ((S U).size : Int) + 2 := by omega
        have hw1 : ((S s.text).size : Int) + ((S U).size : Int) + 2 < 9223372036854775808 := by omega
        have hw2 : (S U).size ≤ 2000 := by omega
        have hw3 : (S s.text).size ≤ 2000 := by omega
        clear hz1 hz2 hul hl ht
        clear hw1
        go_enter Try.func18, Try.ntmps18
        go_wp2_with fail
        refine HTD.out.mono ?_
        rintro e u ⟨rfl, hu⟩
        have hu' := hu.symm
        subst hu'
        go_wp2
        go_end0
        exact HE2.out (by simp; omega)
end Go.Proofs.Ytkdmccgfehmoaaa
