/-
  Plain facts that single laws on sessions lean on. No program is named here.
-/
import Derived.Test.YtdjdmlcmjdapaaaDoorLmLaw
namespace Go.Proofs.YtdjdmlcmjdapaaaDoor
open Go.RowKit

/- LineDots. -/
theorem line_body {s : Ses} (h4 : s.step = 4) (known : List (List UInt8)) (line : List UInt8) : lineM s known line = ((bodyM s line).1, 0, (bodyM s line).2) := by
  unfold lineM
  rw [if_neg (by omega), if_pos h4]
theorem body_ends {s : Ses} (h4 : s.step = 4) (known : List (List UInt8)) : lineM s known [46] = (atS 1, 0, lettersM s) := by
  rw [line_body h4]
  rfl
theorem body_reads {s : Ses} (h4 : s.step = 4) (hl : s.large = false) {line : List UInt8} (hn : line ≠ [46]) (hs : s.text.length + (undot line).length + 2 ≤ 2000) (known : List (List UInt8)) :
    lineM s known line = (⟨4, s.frm, s.to, s.text ++ undot line ++ [13, 10], false⟩, 0, []) := by
  rw [line_body h4]
  unfold bodyM readM
  rw [if_neg hn, if_neg (by rw [hl]; simp; omega), hl, h4]
theorem body_large {s : Ses} (h4 : s.step = 4) {line : List UInt8} (hn : line ≠ [46]) (hs : s.large = true ∨ 2000 < s.text.length + (undot line).length + 2) (known : List (List UInt8)) :
    lineM s known line = (⟨4, s.frm, s.to, s.text, true⟩, 0, []) := by
  rw [line_body h4]
  unfold bodyM readM
  rw [if_neg hn, if_pos hs, h4]
def dotsL (k : Nat) (t : List UInt8) : List UInt8 := List.replicate k 46 ++ t
def wantD (k : Nat) (t : List UInt8) : List UInt8 := dotsL (k - 1) t
theorem wordy_head {t : List UInt8} (h : wordy t) : ∃ c r, t = c :: r ∧ c ≠ 46 := by
  obtain ⟨h1, _, h2⟩ := h
  cases t with
  | nil => simp at h1
  | cons c r => exact ⟨c, r, rfl, fun e => by have := h2 c (by simp); rw [e] at this; simp at this⟩
theorem dots_not {k : Nat} {t : List UInt8} (h : wordy t) : dotsL k t ≠ [46] := by
  obtain ⟨c, r, rfl, hc⟩ := wordy_head h
  intro e
  have h1 : c ∈ dotsL k (c :: r) := by simp [dotsL]
  rw [e] at h1
  simp at h1
  exact hc h1
theorem undot_dots {k : Nat} {t : List UInt8} (h : wordy t) : undot (dotsL k t) = wantD k t := by
  obtain ⟨c, r, rfl, hc⟩ := wordy_head h
  cases k with
  | zero => simp [dotsL, wantD, undot, hc]
  | succ k => simp [dotsL, wantD, undot, List.replicate_succ]
/- LineLarge. -/
theorem zeros_not (k : Nat) : List.replicate k (0 : UInt8) ≠ [46] := by
  intro e
  cases k with
  | zero => simp at e
  | succ k => simp [List.replicate_succ] at e
theorem undot_zeros (k : Nat) : undot (List.replicate k (0 : UInt8)) = List.replicate k 0 := by
  cases k with
  | zero => rfl
  | succ k => simp [List.replicate_succ, undot]
/-- A session behind i lines of k bytes. -/
def LgI (f t : Adr) (k i : Nat) (s : Ses) : Prop := s.step = 4 ∧ s.frm = f ∧ s.to = [t] ∧ mayS s = true ∧ (i * (k + 2) ≤ 2000 → s.large = false ∧ s.text.length = i * (k + 2)) ∧ (2000 < i * (k + 2) → s.large = true ∧ s.text.length = 2000 / (k + 2) * (k + 2))
theorem lg_zero {f t : Adr} (hf : lawful f) (ht : lawful t) (k : Nat) : LgI f t k 0 (rdS f t 4) := by
  refine ⟨rfl, rfl, rfl, rd_may hf ht 4 (by omega), fun _ => ⟨rfl, by simp [rdS]⟩, fun h => by omega⟩
theorem lg_step {f t : Adr} {k i : Nat} {s : Ses} (h : LgI f t k i s) (known : List (List UInt8)) : ∃ s', lineM s known (List.replicate k 0) = (s', 0, []) ∧ LgI f t k (i + 1) s' := by
  obtain ⟨h1, h2, h3, h4, h5, h6⟩ := h
  have e : (i + 1) * (k + 2) = i * (k + 2) + (k + 2) := by rw [Nat.add_mul]; omega
  have hm := may_line h4 known (List.replicate k 0)
  by_cases hs : s.large = true ∨ 2000 < s.text.length + (undot (List.replicate k (0 : UInt8))).length + 2
  · have hl := body_large h1 (zeros_not k) hs known
    rw [hl] at hm ⊢
    refine ⟨_, rfl, rfl, h2, h3, hm, fun h => ?_, fun _ => ⟨rfl, ?_⟩⟩
    · obtain ⟨g1, g2⟩ := h5 (by omega)
      rw [undot_zeros, List.length_replicate, g1, g2] at hs
      simp at hs
      omega
    · show s.text.length = _
      by_cases hi : i * (k + 2) ≤ 2000
      · obtain ⟨g1, g2⟩ := h5 hi
        rw [undot_zeros, List.length_replicate, g1, g2] at hs
        simp at hs
        rw [g2]
        have : 2000 / (k + 2) = i := by
          apply Nat.div_eq_of_lt_le
          · omega
          · rw [Nat.succ_mul]; omega
        rw [this]
      · exact (h6 (by omega)).2
  · have hs1 : s.large = false := by cases hx : s.large <;> simp_all
    have hs2 : s.text.length + (undot (List.replicate k (0 : UInt8))).length + 2 ≤ 2000 := by omega
    have hl := body_reads h1 hs1 (zeros_not k) hs2 known
    rw [hl] at hm ⊢
    have hi : i * (k + 2) ≤ 2000 := by
      rcases Nat.lt_or_ge 2000 (i * (k + 2)) with g | g
      · rw [(h6 g).1] at hs1; cases hs1
      · exact g
    obtain ⟨g1, g2⟩ := h5 hi
    rw [undot_zeros, List.length_replicate] at hs2
    refine ⟨_, rfl, rfl, h2, h3, hm, fun _ => ⟨rfl, ?_⟩, fun h => ?_⟩
    · show (s.text ++ undot (List.replicate k 0) ++ [13, 10]).length = _
      rw [undot_zeros]; simp; omega
    · omega
/- LineMany. -/
def uL : List UInt8 := [117]
def mnA (i : Nat) : Adr := ([117], [100, UInt8.ofNat (97 + i)])
def mnL (i : Nat) : List UInt8 := rcptU ++ [60, 117, 64, 100, UInt8.ofNat (97 + i), 62]
def mnT (i : Nat) : List Adr := ((List.range 5).take i).map mnA
def mnS (a : Adr) (i : Nat) : Ses := ⟨if i = 0 then 2 else 3, a, mnT i, [], false⟩
theorem mn_step (a : Adr) (i : Nat) (hi : i < 10) : lineM (mnS a i) [uL] (mnL i) = (mnS a (i + 1), if 5 ≤ i then 452 else 250, []) := by
  obtain rfl | rfl | rfl | rfl | rfl | rfl | rfl | rfl | rfl | rfl : i = 0 ∨ i = 1 ∨ i = 2 ∨ i = 3 ∨ i = 4 ∨ i = 5 ∨ i = 6 ∨ i = 7 ∨ i = 8 ∨ i = 9 := by omega
  all_goals rfl
theorem mn_may {a : Adr} (h : lawful a) : ∀ i, i ≤ 10 → mayS (mnS a i) = true
  | 0, _ => by simp [mayS, mnS, senderS, goalsS, textS, h.ok, mnT]
  | i + 1, hi => by
    have h1 := may_line (mn_may h i (by omega)) [uL] (mnL i)
    rw [mn_step a i (by omega)] at h1
    exact h1
theorem mn_len (a : Adr) (i : Nat) : (mnS a i).to.length = min i 5 := by simp [mnS, mnT]
theorem mn_first (a : Adr) (i : Nat) (hi : i < 10) : ∃ s, lineM (mnS a i) [uL] (mnL 0) = (s, 250, []) ∧ s.to.length = max 1 (min i 5) := by
  obtain rfl | rfl | rfl | rfl | rfl | rfl | rfl | rfl | rfl | rfl : i = 0 ∨ i = 1 ∨ i = 2 ∨ i = 3 ∨ i = 4 ∨ i = 5 ∨ i = 6 ∨ i = 7 ∨ i = 8 ∨ i = 9 := by omega
  all_goals exact ⟨_, rfl, rfl⟩
def mnV : List UInt8 := rcptU ++ [60, 118, 64, 100, 97, 62]
theorem mn_bad (a : Adr) (i : Nat) (hi : i < 10) : lineM (mnS a i) [uL] mnV = (mnS a i, 550, []) := by
  obtain rfl | rfl | rfl | rfl | rfl | rfl | rfl | rfl | rfl | rfl : i = 0 ∨ i = 1 ∨ i = 2 ∨ i = 3 ∨ i = 4 ∨ i = 5 ∨ i = 6 ∨ i = 7 ∨ i = 8 ∨ i = 9 := by omega
  all_goals rfl
end Go.Proofs.YtdjdmlcmjdapaaaDoor
