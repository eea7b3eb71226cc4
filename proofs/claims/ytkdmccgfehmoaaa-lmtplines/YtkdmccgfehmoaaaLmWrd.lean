/-
  What a session's commands do that are just a word: the walk.
-/
import Derived.Test.YtkdmccgfehmoaaaLmCmd
namespace Go.Proofs.Ytkdmccgfehmoaaa
open Go.RowKit Go.Proofs

theorem lm_lit (a : List UInt8) (l : List UInt8) : ((S a).toList == l) = decide (a = l) := by
  rw [Lib.toList_data, list_S]
  by_cases h : a = l
  · subst h; simp
  · simp [h]
set_option maxHeartbeats 1000000 in
set_option maxRecDepth 100000 in
theorem obeyWord_any (n b B : Nat) (line : List UInt8) (s : Ses) (lv : Value) (w : World) (h : SesW w b B s lv) (hn : n ≤ b) (ht : line.length ≤ 2000) :
    Calls Try.prog 33 #[.pointer (some ⟨b, 0, none⟩), .string (S line)] w (ObP n b B w (wordM s line) lv) := by
  have HF := hid (show Calls Try.prog 46 #[.string (S line)] w fun e w' => e = .returned (.tuple #[.string (S (lowL line)), .int .i64 0]) ∧ Below w.heap.size w w' by
    refine (fold_any (S line) w).mono ?_
    rintro e u ⟨rfl, hb⟩
    refine ⟨?_, hb⟩
    unfold foldV
    rw [if_pos (by rw [size_S]; exact ht), low, list_S]
    rfl)
  have HG := hid (show wordM s line = if lowL line = wData then dataM s else if lowL line = wRset then (rsetM s, 250) else if lowL line = wNoop then (s, 250) else if lowL line = wQuit then (atS 5, 221) else (s, 500) from rfl)
  obtain ⟨L, hL⟩ : ∃ L, L = lowL line := ⟨_, rfl⟩
  rw [← hL] at HF HG
  have HH := hid h
  have hlt : b < w.heap.size := by obtain ⟨v, h1, _⟩ := h; exact SB.lt h1
  have HNW := hid (show n ≤ w.heap.size by omega)
  have e1 := lm_lit L [100, 97, 116, 97]
  have e2 := lm_lit L [114, 115, 101, 116]
  have e3 := lm_lit L [110, 111, 111, 112]
  have e4 := lm_lit L [113, 117, 105, 116]
  clear h hL hlt
  go_enter Try.func33, Try.ntmps33
  go_wp2_with fail
  refine HF.out.mono ?_
  rintro e u ⟨rfl, hb⟩
  have HB := hid (hb.mono HNW.out)
  have HU := hid (HH.out.next hb)
  clear hb
  by_cases h1 : L = wData
  · rw [if_pos h1] at HG
    rw [show decide (L = [100, 97, 116, 97]) = true by rw [h1]; rfl] at e1
    clear h1 e2 e3 e4
    have HC := hid (beginBody_any n b B s lv u HU.out hn)
    go_wp2_with fail
    refine HC.out.mono ?_
    rintro e u2 ⟨rfl, hw, hb2⟩
    have HE := hid (show ObP n b B w (wordM s line) lv (.returned (.int .i64 (dataM s).2)) u2 by rw [HG.out]; exact ⟨rfl, hw, HB.out.trans hb2⟩)
    clear hw hb2
    go_wp2
    go_ret
    exact HE.out
  rw [if_neg h1] at HG
  rw [show decide (L = [100, 97, 116, 97]) = false by simpa [wData] using h1] at e1
  clear h1
  by_cases h2 : L = wRset
  · rw [if_pos h2] at HG
    rw [show decide (L = [114, 115, 101, 116]) = true by rw [h2]; rfl] at e2
    clear h2 e3 e4
    have HC := hid (reset_any n b B s lv u HU.out hn)
    go_wp2_with fail
    refine HC.out.mono ?_
    rintro e u2 ⟨rfl, hw, hb2⟩
    have HE := hid (show ObP n b B w (wordM s line) lv (.returned (.int .i64 250)) u2 by rw [HG.out]; exact ⟨rfl, hw, HB.out.trans hb2⟩)
    clear hw hb2
    go_wp2
    go_ret
    exact HE.out
  rw [if_neg h2] at HG
  rw [show decide (L = [114, 115, 101, 116]) = false by simpa [wRset] using h2] at e2
  clear h2
  by_cases h3 : L = wNoop
  · rw [if_pos h3] at HG
    rw [show decide (L = [110, 111, 111, 112]) = true by rw [h3]; rfl] at e3
    clear h3 e4
    have HE := hid (show ObP n b B w (wordM s line) lv (.returned (.int .i64 250)) u by rw [HG.out]; exact ⟨rfl, HU.out, HB.out⟩)
    go_wp2
    go_ret
    exact HE.out
  rw [if_neg h3] at HG
  rw [show decide (L = [110, 111, 111, 112]) = false by simpa [wNoop] using h3] at e3
  clear h3
  by_cases h4 : L = wQuit
  · rw [if_pos h4] at HG
    rw [show decide (L = [113, 117, 105, 116]) = true by rw [h4]; rfl] at e4
    clear h4
    obtain ⟨v, hv1, hv2⟩ := HU.out
    have HC := hid (become_any n b B 5 s v lv u hv1 hn)
    clear hv1 hv2
    go_wp2_with fail
    refine HC.out.mono ?_
    rintro e u2 ⟨rfl, hw, hb2⟩
    have HE := hid (show ObP n b B w (wordM s line) lv (.returned (.int .i64 221)) u2 by rw [HG.out]; exact ⟨rfl, hw, HB.out.trans hb2⟩)
    clear hw hb2
    go_wp2
    go_ret
    exact HE.out
  rw [if_neg h4] at HG
  rw [show decide (L = [113, 117, 105, 116]) = false by simpa [wQuit] using h4] at e4
  clear h4
  have HE := hid (show ObP n b B w (wordM s line) lv (.returned (.int .i64 500)) u by rw [HG.out]; exact ⟨rfl, HU.out, HB.out⟩)
  go_wp2
  go_ret
  exact HE.out
end Go.Proofs.Ytkdmccgfehmoaaa
