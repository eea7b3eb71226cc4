/-
  What script.Show does: the walk.
-/
import Derived.Test.YtaelgmibjiocfaaDoorScrW
namespace Go.Proofs.YtaelgmibjiocfaaDoor
open Go.RowKit Go.Proofs

/-- What script.Show hands back. -/
def Shown (w : World) (n : Nat) (l : List Cmd) (e : Ending) (w' : World) : Prop :=
  if checkM n l = 0 then ∃ a' c', e = .returned (.tuple #[.slice a' (cmdsT n l).length c', .int .i64 0]) ∧ ToksAt w' a' (cmdsT n l) ∧ Below w.heap.size w w'
  else e = .returned (.tuple #[.slice none 0 0, .int .i64 (checkM n l)]) ∧ Below w.heap.size w w'
theorem checkM_zero {n : Nat} {l : List Cmd} (h : checkM n l = 0) : faultCmds n 0 l = 0 ∧ (cmdsT n l).length ≤ 400 := by
  unfold checkM at h
  by_cases h1 : faultCmds n 0 l = 0
  · rw [if_neg (by simpa using h1)] at h
    refine ⟨h1, ?_⟩
    rcases Nat.lt_or_ge 400 (cmdsT n l).length with h2 | h2
    · rw [if_pos h2] at h; simp at h
    · exact h2
  · rw [if_pos h1] at h; exact absurd h h1

set_option maxHeartbeats 4000000 in
theorem sshow_any (n : Nat) (l : List Cmd) (a : Option Addr) (k : Nat) (w : World) (hw : WordsAt w) (h : CmdsM anyB n w (.slice a l.length k) l) :
    Calls Tryd.prog 5 #[.slice a l.length k] w (Shown w n l) := by
  have HT := hid h
  have HW := hid hw
  clear h hw
  go_enter Tryd.func5, Tryd.ntmps5
  go_wp2_with fail
  refine (scheck_any n l a k w HW.out HT.out).mono ?_
  rintro e w1 ⟨rfl, hb1⟩
  have HB1 := hid hb1
  obtain ⟨x, hx⟩ : ∃ x, x = checkM n l := ⟨_, rfl⟩
  rw [← hx]
  have HX := hid hx
  clear hx hb1
  by_cases hx : x = 0
  · have hc0 : checkM n l = 0 := by rw [← HX.out, hx]
    have HC0 := hid hc0
    obtain ⟨hF, hlen⟩ := checkM_zero hc0
    have HF := hid hF
    have HTk := hid (show (cmdsT n l).take 401 = cmdsT n l from List.take_of_length_le (by omega))
    subst hx
    clear hc0 hF
    go_wp2_with fail
    refine (tokensOf_any n l a k w1 (HW.out.next HB1.out) HF.out (HT.out.next HB1.out)).mono ?_
    rw [HTk.out]
    rintro e w2 ⟨a', c', rfl, ht, hb2⟩
    have HE := hid (show Shown w n l (.returned (.tuple #[.slice a' (cmdsT n l).length c', .int .i64 0])) w2 by
      unfold Shown; rw [if_pos HC0.out]; exact ⟨a', c', rfl, ht, HB1.out.trans (hb2.mono HB1.out.size)⟩)
    clear hb2 ht
    go_wp2
    go_ret2
    exact HE.out
  · have HE := hid (show Shown w n l (.returned (.tuple #[.slice none 0 0, .int .i64 x])) w1 by
      unfold Shown; rw [if_neg (by rw [← HX.out]; exact hx), ← HX.out]; exact ⟨rfl, HB1.out⟩)
    go_wp2
    go_ret2
    exact HE.out
end Go.Proofs.YtaelgmibjiocfaaDoor
