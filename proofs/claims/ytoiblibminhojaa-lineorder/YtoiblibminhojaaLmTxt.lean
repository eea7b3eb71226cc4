/-
  Texts of commands, put together. 
-/
import Derived.Test.YtoiblibminhojaaLmLw3
import Derived.Test.YtoiblibminhojaaLmLn
namespace Go.Proofs.Ytoiblibminhojaa
open Go.RowKit Go.Proofs

theorem ang_text (a : Adr) : (⟨#[60]⟩ : ByteArray) ++ S a.1 ++ ⟨#[64]⟩ ++ S a.2 ++ ⟨#[62]⟩ = S (angA a) := by
  rw [← S_list ((⟨#[60]⟩ : ByteArray) ++ S a.1 ++ ⟨#[64]⟩ ++ S a.2 ++ ⟨#[62]⟩)]
  simp [list_S, angA, textA]
theorem mailU_text (t : List UInt8) : (⟨#[77, 65, 73, 76, 32, 70, 82, 79, 77, 58]⟩ : ByteArray) ++ S t = S (mailU ++ t) := by
  rw [← S_list ((⟨#[77, 65, 73, 76, 32, 70, 82, 79, 77, 58]⟩ : ByteArray) ++ S t)]
  simp [list_S, mailU]
theorem mailB_text (t : List UInt8) : (⟨#[77, 65, 73, 76, 32, 70, 82, 79, 77, 58, 32]⟩ : ByteArray) ++ S t = S (mailU ++ 32 :: t) := by
  rw [← S_list ((⟨#[77, 65, 73, 76, 32, 70, 82, 79, 77, 58, 32]⟩ : ByteArray) ++ S t)]
  simp [list_S, mailU]
theorem rcptU_text (t : List UInt8) : (⟨#[82, 67, 80, 84, 32, 84, 79, 58]⟩ : ByteArray) ++ S t = S (rcptU ++ t) := by
  rw [← S_list ((⟨#[82, 67, 80, 84, 32, 84, 79, 58]⟩ : ByteArray) ++ S t)]
  simp [list_S, rcptU]
end Go.Proofs.Ytoiblibminhojaa
