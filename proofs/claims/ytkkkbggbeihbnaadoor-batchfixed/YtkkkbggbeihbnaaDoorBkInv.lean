/-
  Plain facts on batches: what is read whole is what would be written. No program is named here.
-/
import Derived.Test.YtkkkbggbeihbnaaDoorBkPur
namespace Go.Proofs.YtkkkbggbeihbnaaDoor
open Go.RowKit

/- What is read whole is what would be written. -/
theorem beB_beN : ∀ (l : List UInt8), l.length ≤ 3 → beB (beN l) l.length = l := by
  intro l h
  match l, h with
  | [], _ => rfl
  | [a], _ =>
    have := a.toNat_lt
    simp only [beN, List.foldl, beB, List.length]
    simp
  | [a, b], _ =>
    have ha := a.toNat_lt
    have hb := b.toNat_lt
    simp only [beN, List.foldl, beB, List.length]
    have e1 : UInt8.ofNat (((0 * 256 + a.toNat) * 256 + b.toNat) / 256 ^ 1) = a := by
      apply UInt8.toNat.inj; rw [u8_val]; omega
    have e2 : UInt8.ofNat (((0 * 256 + a.toNat) * 256 + b.toNat) / 256 ^ 0) = b := by
      apply UInt8.toNat.inj; rw [u8_val]; omega
    rw [e1, e2]
  | [a, b, c], _ =>
    have ha := a.toNat_lt
    have hb := b.toNat_lt
    have hc := c.toNat_lt
    simp only [beN, List.foldl, beB, List.length]
    have e1 : UInt8.ofNat ((((0 * 256 + a.toNat) * 256 + b.toNat) * 256 + c.toNat) / 256 ^ 2) = a := by
      apply UInt8.toNat.inj; rw [u8_val]; omega
    have e2 : UInt8.ofNat ((((0 * 256 + a.toNat) * 256 + b.toNat) * 256 + c.toNat) / 256 ^ 1) = b := by
      apply UInt8.toNat.inj; rw [u8_val]; omega
    have e3 : UInt8.ofNat ((((0 * 256 + a.toNat) * 256 + b.toNat) * 256 + c.toNat) / 256 ^ 0) = c := by
      apply UInt8.toNat.inj; rw [u8_val]; omega
    rw [e1, e2, e3]
theorem takeR_inv {k : Nat} {r : List UInt8 × Bool} (h : (takeR k r).2.2 = false) : r.2 = false ∧ r.1 = (takeR k r).1 ++ (takeR k r).2.1 ∧ (takeR k r).1.length = k := by
  obtain ⟨l, s⟩ := r
  unfold takeR at h ⊢
  split at h
  · rename_i hk
    rw [if_pos hk]
    simp only at hk h ⊢
    exact ⟨h, (List.take_append_drop k l).symm, by rw [List.length_take]; omega⟩
  · cases h
theorem numR_inv {k : Nat} (hk : k ≤ 3) {r : List UInt8 × Bool} (h : (numR k r).2.2 = false) : r.2 = false ∧ r.1 = beB (numR k r).1 k ++ (numR k r).2.1 := by
  obtain ⟨h1, h2, h3⟩ := takeR_inv (k := k) (r := r) h
  refine ⟨h1, ?_⟩
  have := beB_beN (takeR k r).1 (by omega)
  rw [h3] at this
  show r.1 = beB (beN (takeR k r).1) k ++ (takeR k r).2.1
  rw [this]
  exact h2
theorem txR_inv {r : List UInt8 × Bool} (h : (txR r).2.2 = false) : r.2 = false ∧ r.1 = txB (txR r).1 ++ (txR r).2.1 := by
  have hx : txR r = takeR (numR 2 r).1 (numR 2 r).2 := by simp only [txR]
  rw [hx] at h ⊢
  obtain ⟨h1, h2, h3⟩ := takeR_inv h
  obtain ⟨h4, h5⟩ := numR_inv (by decide) h1
  refine ⟨h4, ?_⟩
  unfold txB
  rw [h3, List.append_assoc, ← h2]
  exact h5
theorem entR_fst (r : List UInt8 × Bool) : (entR r).1 = ⟨(numR 1 r).1, (txR (numR 3 (numR 1 (numR 1 r).2).2).2).1, (numR 3 (numR 1 (numR 1 r).2).2).1, (numR 1 (numR 1 r).2).1, (txR (txR (numR 3 (numR 1 (numR 1 r).2).2).2).2).1, (txR (txR (txR (numR 3 (numR 1 (numR 1 r).2).2).2).2).2).1⟩ := by simp only [entR]
theorem entR_inv {r : List UInt8 × Bool} (h : (entR r).2.2 = false) : r.2 = false ∧ r.1 = entB (entR r).1 ++ (entR r).2.1 := by
  rw [entR_snd] at h ⊢
  rw [entR_fst]
  obtain ⟨h6, e6⟩ := txR_inv h
  obtain ⟨h5, e5⟩ := txR_inv h6
  obtain ⟨h4, e4⟩ := txR_inv h5
  obtain ⟨h3, e3⟩ := numR_inv (by decide) h4
  obtain ⟨h2, e2⟩ := numR_inv (by decide) h3
  obtain ⟨h1, e1⟩ := numR_inv (by decide) h2
  refine ⟨h1, ?_⟩
  unfold entB
  simp only [Int.toNat_natCast, List.append_assoc]
  rw [← e6, ← e5, ← e4, ← e3, ← e2]
  exact e1
theorem entsR_inv : ∀ (n : Nat) {r : List UInt8 × Bool}, (entsR n r).2.2 = false → r.2 = false ∧ r.1 = entsB (entsR n r).1 ++ (entsR n r).2.1 ∧ (entsR n r).1.length = n := by
  intro n
  induction n with
  | zero => intro r h; exact ⟨h, rfl, rfl⟩
  | succ n ih =>
    intro r h
    simp only [entsR] at h ⊢
    obtain ⟨h1, h2, h3⟩ := ih h
    obtain ⟨h4, h5⟩ := entR_inv h1
    refine ⟨h4, ?_, by simp [h3]⟩
    simp only [entsB, List.append_assoc]
    rw [← h2]
    exact h5
theorem batR_inv {l : List UInt8} {s : Bool} (h : (batR (l, s)).2 = ([], false)) : l = batB (batR (l, s)).1 := by
  have hx : batR (l, s) = (⟨(numR 1 (l, s)).1, (entsR (numR 1 (numR 1 (l, s)).2).1 (numR 1 (numR 1 (l, s)).2).2).1⟩, (entsR (numR 1 (numR 1 (l, s)).2).1 (numR 1 (numR 1 (l, s)).2).2).2) := by simp only [batR]
  rw [hx] at h ⊢
  simp only at h ⊢
  obtain ⟨h1, h2, h3⟩ := entsR_inv _ (r := (numR 1 (numR 1 (l, s)).2).2) (by rw [h])
  obtain ⟨h4, h5⟩ := numR_inv (by decide) h1
  obtain ⟨h6, h7⟩ := numR_inv (by decide) h4
  rw [h, List.append_nil] at h2
  unfold batB
  simp only [Int.toNat_natCast]
  rw [h3, ← h2, ← h5]
  exact h7
end Go.Proofs.YtkkkbggbeihbnaaDoor
