/-
  The letter that a law makes of raw bytes: what it is, and that it may be, as far as no judge is named.
-/
import Derived.Test.YtkciflocpelhiaaGreatDoorKeepLtr
import Derived.Test.YtkciflocpelhiaaGreatDoorLetLines
namespace Go.Proofs.YtkciflocpelhiaaGreatDoor
open Go.RowKit Go.Proofs

def ltrM (fs : List F) : List F := (msgK fs 6).map ltrF
def ltrB (body : ByteArray) : ByteArray := cutB (cutB body 100) 200
theorem ltrName_ok (n : Nat) : nameB (ltrName n) = true ∧ (ltrName n).length ≤ 8 := by
  unfold ltrName
  have h : n % 5 < 5 := Nat.mod_lt _ (by omega)
  generalize n % 5 = q at *
  match q, h with
  | 0, _ | 1, _ | 2, _ | 3, _ | 4, _ => decide
theorem ann_ok : valueB annL = true := by decide +kernel
theorem ltrF_may {f : F} (h : mayF f = true) : mayF (ltrF f) = true := by
  unfold mayF ltrF at *
  simp only [Bool.and_eq_true] at *
  refine ⟨(ltrName_ok _).1, ?_⟩
  split
  · exact ann_ok
  · exact h.2
theorem ltr_may (fs : List F) : ∀ f ∈ ltrM fs, mayF f = true := by
  intro f hf
  obtain ⟨g, hg, rfl⟩ := List.mem_map.1 hf
  exact ltrF_may (msg_may fs g hg)
theorem ltr_size (fs : List F) : ∀ f ∈ ltrM fs, f.1.length ≤ 8 ∧ f.2.length ≤ 40 := by
  intro f hf
  obtain ⟨g, hg, rfl⟩ := List.mem_map.1 hf
  refine ⟨(ltrName_ok _).2, ?_⟩
  unfold ltrF
  simp only
  split
  · decide
  · exact (msg_size fs g hg).2
theorem ltr_len (fs : List F) : (ltrM fs).length ≤ 6 := by
  have := msg_len fs
  unfold ltrM
  rw [List.length_map]; exact this
theorem ltr_sum (fs : List F) : sumF (ltrM fs) ≤ 312 := by
  have key : ∀ l : List F, (∀ f ∈ l, f.1.length ≤ 8 ∧ f.2.length ≤ 40) → sumF l ≤ l.length * 52 := by
    intro l
    induction l with
    | nil => intro _; simp [sumF]
    | cons f l ih =>
      intro h
      have h1 := h f (by simp)
      have h2 := ih fun g hg => h g (by simp [hg])
      have e : sumF (f :: l) = sizeF f + sumF l := by simp [sumF]
      rw [e]; simp only [sizeF, List.length_cons]; omega
  have := key _ (ltr_size fs)
  have := ltr_len fs
  omega
theorem ltrB_size (body : ByteArray) : (ltrB body).size ≤ 100 := by unfold ltrB; rw [cutB_size, cutB_size]; omega
theorem ltr_fault (fs : List F) (body : ByteArray) : faultM (ltrM fs) (ltrB body).data.toList = 0 := by
  have h1 := ltr_len fs
  have h2 := ltr_sum fs
  have h3 := ltrB_size body
  rw [← size_list] at h3
  unfold faultM
  rw [if_neg (by omega), if_neg (by simpa using ltr_may fs), if_neg (by omega)]
theorem ltr_text (fs : List F) (body : ByteArray) : 2 ≤ (textM (ltrM fs) (ltrB body).data.toList).length ∧ (textM (ltrM fs) (ltrB body).data.toList).length ≤ 500 := by
  have h2 := ltr_sum fs
  have h3 := ltrB_size body
  rw [← size_list] at h3
  rw [length_textM]; omega
theorem ltr_parse (fs : List F) (body : ByteArray) : parseM (textM (ltrM fs) (ltrB body).data.toList) = (ltrM fs, (ltrB body).data.toList, 0, 0) := by
  have h := ltr_text fs body
  have h1 := ltr_len fs
  unfold parseM
  rw [if_neg (by omega)]
  exact parse_text (ltr_may fs) (by omega)
end Go.Proofs.YtkciflocpelhiaaGreatDoor
