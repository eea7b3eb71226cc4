/-
  Plain facts on messages: what is parsed may be; a torn text; lines that are none. No program is named here.
-/
import Derived.Test.YtgbhaphgojlhaaaDoorLetParse
namespace Go.Proofs.YtgbhaphgojlhaaaDoor
open Go.RowKit

theorem cut_yes {a : List UInt8} (h : (Lib.cut a [58]).2.2 = true) : a = (Lib.cut a [58]).1 ++ 58 :: (Lib.cut a [58]).2.1 := by
  by_cases hm : (58 : UInt8) ∈ a
  · obtain ⟨n, v, rfl, hn⟩ := split_colon hm
    rw [cut_colon hn]
  · rw [cut_nocolon hm] at h; cases h
theorem last_split {raw : List F} (h0 : raw ≠ []) : raw = raw.dropLast ++ [raw.getLast?.getD ([], [])] := by
  rw [List.getLast?_eq_some_getLast h0]
  exact (List.dropLast_concat_getLast h0).symm
theorem takeF_all {raw : List F} {a : List UInt8} (P Q : F → Prop) (hr : ∀ f ∈ raw, P f) (hPQ : ∀ f, P f → Q f) (h1 : ∀ f, P f → (a.head?.map blankB).getD false = true → Q (f.1, f.2 ++ a))
    (h2 : (Lib.cut a [58]).2.2 = true → nameB (Lib.cut a [58]).1 = true → Q ((Lib.cut a [58]).1, (Lib.cut a [58]).2.1)) : ∀ f ∈ (takeF raw a).1, Q f := by
  unfold takeF
  split
  · rename_i hg
    have h0 : raw ≠ [] := by rintro rfl; simp [goesOn] at hg
    have hb : (a.head?.map blankB).getD false = true := by unfold goesOn at hg; simp only [Bool.and_eq_true] at hg; exact hg.2
    have hs := last_split h0
    intro f hf
    unfold addLast at hf
    rcases List.mem_append.1 hf with h | h
    · exact hPQ f (hr f ((List.dropLast_sublist raw).subset h))
    · simp only [List.mem_singleton] at h
      subst h
      exact h1 _ (hr _ (by rw [hs]; simp)) hb
  · split
    · simp
    · rename_i hc
      simp only [not_or, Bool.not_eq_false] at hc
      split
      · simp
      · intro f hf
        rcases List.mem_append.1 hf with h | h
        · exact hPQ f (hr f h)
        · simp only [List.mem_singleton] at h
          subst h
          exact h2 hc.1 hc.2
theorem takeF_len {raw : List F} {a : List UInt8} (hr : raw.length ≤ 30) : (takeF raw a).1.length ≤ 30 := by
  unfold takeF
  split
  · rename_i hg
    have h0 : raw ≠ [] := by rintro rfl; simp [goesOn] at hg
    have := List.length_pos_iff.2 h0
    simp [addLast]; omega
  · split
    · simp
    · split
      · simp
      · simp; omega
theorem takeF_raw {raw : List F} {a : List UInt8} (hr : ∀ f ∈ raw, rawB f = true) (ha : hasEnd a = false) : ∀ f ∈ (takeF raw a).1, rawB f = true := by
  refine takeF_all (fun f => rawB f = true) (fun f => rawB f = true) hr (fun _ h => h) ?_ ?_
  · intro f hf hb
    simp [rawB] at hf ⊢
    refine ⟨hf.1, hasEnd_app hf.2 ha ?_⟩
    intro h
    rw [h] at hb
    exact absurd hb (by decide)
  · intro h1 h2
    have e := cut_yes h1
    simp only [rawB, h2, Bool.true_and, Bool.not_eq_true']
    rw [e] at ha
    have : hasEnd (((Lib.cut a [58]).1 ++ [58]) ++ (Lib.cut a [58]).2.1 ++ []) = false := by simpa using ha
    exact hasEnd_mid this
/-- What is parsed may be; what is refused is empty. -/
theorem parse_inv : ∀ (n : Nat) (s : List UInt8), s.length ≤ n → ∀ (p : Int) (raw : List F), (∀ f ∈ raw, rawB f = true) → raw.length ≤ 30 →
    ((parseR p raw s).2.2.2 = 0 → (∀ f ∈ (parseR p raw s).1, mayF f = true) ∧ (parseR p raw s).1.length ≤ 30 ∧ (parseR p raw s).2.2.1 = 0) ∧
    ((parseR p raw s).2.2.2 ≠ 0 → (parseR p raw s).1 = [] ∧ (parseR p raw s).2.1 = [] ∧ p ≤ (parseR p raw s).2.2.1) := by
  intro n
  induction n with
  | zero =>
    intro s hs p raw _ _
    have : s = [] := List.length_eq_zero_iff.1 (by omega)
    subst this
    rw [parse_short hasEnd_nil]
    exact ⟨fun h => (by cases h), fun _ => ⟨rfl, rfl, Int.le_refl _⟩⟩
  | succ n ih =>
    intro s hs p raw hr hl
    cases hE : hasEnd s with
    | false =>
      rw [parse_short hE]
      exact ⟨fun h => (by cases h), fun _ => ⟨rfl, rfl, Int.le_refl _⟩⟩
    | true =>
      obtain ⟨a, b, rfl, ha⟩ := cut_some hE
      by_cases h0 : a = []
      · subst h0
        rw [List.nil_append, parse_end]
        refine ⟨fun _ => ⟨?_, by simpa using hl, rfl⟩, fun h => absurd rfl h⟩
        intro f hf
        obtain ⟨g, hg, rfl⟩ := List.mem_map.1 hf
        have := hr g hg
        simp only [rawB, Bool.and_eq_true, Bool.not_eq_true'] at this
        simp only [mayF, valueB, trimF, this.1, trim_end this.2, trim_idem, Bool.true_and, Bool.not_false, beq_self_eq_true]
      · by_cases ht : (takeF raw a).2 = 0
        · rw [parse_go ha h0 ht]
          have := ih b (by simp at hs; omega) (p + 1) (takeF raw a).1 (takeF_raw hr ha) (takeF_len hl)
          exact ⟨this.1, fun h => by obtain ⟨h1, h2, h3⟩ := this.2 h; exact ⟨h1, h2, by omega⟩⟩
        · rw [parse_bad ha h0 ht]
          exact ⟨fun h => absurd h ht, fun _ => ⟨rfl, rfl, Int.le_refl _⟩⟩
/-- How long what is parsed is. -/
theorem parse_size (N : Nat) : ∀ (n : Nat) (s : List UInt8), s.length ≤ n → ∀ (p : Int) (raw : List F), s.length ≤ N → (∀ f ∈ raw, f.1.length ≤ N ∧ f.2.length + s.length ≤ N) →
    (∀ f ∈ (parseR p raw s).1, f.1.length ≤ N ∧ f.2.length ≤ N) ∧ (parseR p raw s).2.1.length ≤ N := by
  intro n
  induction n with
  | zero =>
    intro s hs p raw _ _
    have : s = [] := List.length_eq_zero_iff.1 (by omega)
    subst this
    rw [parse_short hasEnd_nil]
    simp
  | succ n ih =>
    intro s hs p raw hN hr
    cases hE : hasEnd s with
    | false => rw [parse_short hE]; simp
    | true =>
      obtain ⟨a, b, rfl, ha⟩ := cut_some hE
      have hlen : (a ++ [13, 10] ++ b).length = a.length + 2 + b.length := by simp; omega
      by_cases h0 : a = []
      · subst h0
        rw [List.nil_append, parse_end]
        refine ⟨?_, by simp at hN ⊢; omega⟩
        intro f hf
        obtain ⟨g, hg, rfl⟩ := List.mem_map.1 hf
        have := hr g hg
        have ht := trim_len g.2
        exact ⟨this.1, by simp only [trimF]; omega⟩
      · by_cases ht : (takeF raw a).2 = 0
        · rw [parse_go ha h0 ht]
          refine ih b (by omega) (p + 1) _ (by omega) ?_
          refine takeF_all (fun f => f.1.length ≤ N ∧ f.2.length + (a ++ [13, 10] ++ b).length ≤ N) (fun f => f.1.length ≤ N ∧ f.2.length + b.length ≤ N) hr (fun f h => ⟨h.1, by omega⟩) ?_ ?_
          · intro f h _
            exact ⟨h.1, by simp only [List.length_append]; omega⟩
          · intro h1 _
            have e := congrArg List.length (cut_yes h1)
            simp only [List.length_append, List.length_cons] at e
            exact ⟨by simp only; omega, by simp only; omega⟩
        · rw [parse_bad ha h0 ht]; simp
end Go.Proofs.YtgbhaphgojlhaaaDoor
