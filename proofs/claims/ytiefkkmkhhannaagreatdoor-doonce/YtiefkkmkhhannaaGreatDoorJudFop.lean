/-
  Courses that may be: plain facts.
-/
import Derived.Test.YtiefkkmkhhannaaGreatDoorJudStep
namespace Go.Proofs.YtiefkkmkhhannaaGreatDoor
open Go.RowKit Go.Proofs

def crsOk (c : Crs) : Prop := c.acts.length ≤ 6 ∧ 0 ≤ c.flags ∧ c.flags ≤ 31
theorem ask_flags' (c : Crs) (a : Atn) : (askP c a).1.flags = c.flags := by
  unfold askP
  split
  · rfl
  · split
    · rfl
    · split <;> rfl
theorem lor32 {a b : Nat} (ha : a < 32) (hb : b < 32) : a ||| b < 32 := Nat.or_lt_two_pow (n := 5) ha hb
theorem do_ok {c : Crs} (h : crsOk c) (x : Cmd) : crsOk (doP c x).1 := by
  obtain ⟨h1, h2, h3⟩ := h
  refine ⟨doP_len c x h1, ?_⟩
  unfold doP
  split
  · exact ⟨h2, h3⟩
  · split
    · exact ⟨h2, h3⟩
    · split
      · have := flagsZ_lt x.texts
        exact ⟨by show (0 : Int) ≤ (flagsZ x.texts : Nat); omega, by show ((flagsZ x.texts : Nat) : Int) ≤ 31; omega⟩
      · split
        · have h := lor32 (a := c.flags.toNat) (b := flagsZ x.texts) (by omega) (flagsZ_lt x.texts)
          exact ⟨by show (0 : Int) ≤ ((c.flags.toNat ||| flagsZ x.texts : Nat) : Int); omega, by show ((c.flags.toNat ||| flagsZ x.texts : Nat) : Int) ≤ 31; omega⟩
        · rw [ask_flags']
          exact ⟨h2, h3⟩
def newC : Crs := ⟨[], 0, false, 0⟩
theorem new_ok : crsOk newC := ⟨by simp [newC], by simp [newC], by simp [newC]⟩
end Go.Proofs.YtiefkkmkhhannaaGreatDoor
