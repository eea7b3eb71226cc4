/-
  What postroomref.messageText and MessageShown do: the walks.
-/
import Derived.Test.YtpkfafglpilkoaaDoorRefFault
import Derived.Test.YtpkfafglpilkoaaDoorLetShow
namespace Go.Proofs.YtpkfafglpilkoaaDoor
open Go.RowKit

theorem S_append (a b : List UInt8) : S a ++ S b = S (a ++ b) := by
  have := app_list (S a) (S b)
  rw [list_S, list_S] at this
  rw [← S_list (S a ++ S b), this]
theorem S_lit2 (x y : UInt8) : (⟨#[x, y]⟩ : ByteArray) = S [x, y] := rfl
theorem text_step (l : List UInt8) (f : F) : S l ++ S f.1 ++ ⟨#[58, 32]⟩ ++ S f.2 ++ ⟨#[13, 10]⟩ = S (l ++ textF f) := by
  rw [S_lit2, S_lit2, S_append, S_append, S_append, S_append]
  simp [textF]

set_option maxHeartbeats 2000000 in
theorem messageText_any (a : Option Addr) (c : Nat) (fs : List F) (body : ByteArray) (w : World) (hF : FieldsAt w a fs) (hl : fs.length ≤ 2000000) (hsz : 2 + body.data.toList.length + sumF fs ≤ 2000) :
    Calls Tryd.prog 30 #[.agg #[.slice a fs.length c, .string body]] w fun e w' => e = .returned (.string (S (textM fs body.data.toList))) ∧ Below w.heap.size w w' := by
  rw [size_list] at hsz
  go_enter Tryd.func30, Tryd.ntmps30
  go_wp2
  go_loopw [3, 4] (fun v i wr => ∃ k : Nat, k ≤ fs.length ∧ i = .int .i64 k ∧ v = .string (S (linesF (fs.take k))) ∧ ∃ q, wr = (w.alloc (.cells #[.slice a fs.length c, .string body] 24)).drewN q) (fun _ i _ => fs.length - (intOf i).toNat)
  case atStart => exact ⟨0, Nat.zero_le _, rfl, rfl, 0, rfl⟩
  case round =>
    obtain ⟨k, hk, rfl, rfl, q, rfl⟩ := hrel
    have hz : (S (linesF (fs.take k))).size ≤ 2000 := by rw [size_S, length_linesF]; have := sumF_le fs k; omega
    by_cases hlt : k < fs.length
    · obtain ⟨f, hf⟩ : ∃ f, fs[k]? = some f := ⟨_, List.getElem?_eq_getElem hlt⟩
      obtain ⟨b, off, rfl, hb, h1, h2⟩ := hF k f hf
      have h3 := sumF_le fs (k + 1)
      rw [sumF_take hf] at h3
      have hs1 : (S f.1).size ≤ 2000 := by rw [size_S]; unfold sizeF at h3; omega
      have hs2 : (S f.2).size ≤ 2000 := by rw [size_S]; unfold sizeF at h3; omega
      have HL : Hid (linesF (fs.take (k + 1)) = linesF (fs.take k) ++ textF f) := by unfold Hid; rw [take_some hf, linesF_snoc]
      clear hf h3
      go_wp2
      go_quiet (fail)
      go_wp2
      go_roundw
      case rel => first | exact ⟨k + 1, by omega, by go_num, by rw [HL.out, text_step], _, rfl⟩ | ((repeat apply Exists.intro); exact ⟨⟨k + 1, by omega, by go_num, by rw [HL.out, text_step], _, rfl⟩, rfl⟩) | (refine ⟨trivial, ?_⟩; (repeat apply Exists.intro); exact ⟨⟨k + 1, by omega, by go_num, by rw [HL.out, text_step], _, rfl⟩, rfl⟩)
      case measure => simp [intOf]; omega
    · have HT : Hid (fs.take k = fs) := List.take_of_length_le (by omega)
      go_wp2
      go_ret
      refine ⟨?_, bdrew ((Below.refl w.heap.size w).alloc (Nat.le_refl _) _) _⟩
      have e : S (linesF (fs.take k)) ++ ⟨#[13, 10]⟩ ++ body = S (textM fs body.data.toList) := by
        rw [HT.out]
        conv => lhs; rw [← S_list body]
        rw [S_lit2, S_append, S_append]
        rfl
      exact congrArg (fun x => Ending.returned (.string x)) e

set_option maxHeartbeats 1000000 in
theorem shown_bad (a : Option Addr) (c : Nat) (fs : List F) (body : ByteArray) (w : World) (hF : FieldsAt w a fs) (hM : Mild fs body) (n : Int) (hf : faultM fs body.data.toList = n) (hn : (n == 0) = false) :
    Calls Tryd.prog 14 #[.agg #[.slice a fs.length c, .string body]] w fun e w' => e = .returned (.tuple #[.string ByteArray.empty, .int .i64 n]) ∧ Below w.heap.size w w' := by
  have hB0 : ∀ o, Below w.heap.size w (w.alloc o) := fun o => (Below.refl _ _).alloc (Nat.le_refl _) o
  have HF : Hid _ := hf
  clear hf
  go_enter Tryd.func14, Tryd.ntmps14
  go_wp2_with fail
  refine (fault_any a c fs body _ (hF.below (hB0 _)) hM).mono ?_
  rintro e w1 ⟨rfl, hb1⟩
  rw [HF.out]
  go_wp2
  go_ret2
  exact ⟨rfl, bnext (hB0 _) hb1 (Nat.le_refl _)⟩
set_option maxHeartbeats 1000000 in
theorem shown_ok (a : Option Addr) (c : Nat) (fs : List F) (body : ByteArray) (w : World) (hF : FieldsAt w a fs) (hM : Mild fs body) (hf : faultM fs body.data.toList = 0) :
    Calls Tryd.prog 14 #[.agg #[.slice a fs.length c, .string body]] w fun e w' => e = .returned (.tuple #[.string (S (textM fs body.data.toList)), .int .i64 0]) ∧ Below w.heap.size w w' := by
  have hB0 : ∀ o, Below w.heap.size w (w.alloc o) := fun o => (Below.refl _ _).alloc (Nat.le_refl _) o
  have HX : Hid _ := fault_few hf
  have HF : Hid _ := hf
  clear hf
  go_enter Tryd.func14, Tryd.ntmps14
  go_wp2_with fail
  refine (fault_any a c fs body _ (hF.below (hB0 _)) hM).mono ?_
  rintro e w1 ⟨rfl, hb1⟩
  have p0 : w1.cell? ⟨w.heap.size, 0, none⟩ = some (.slice a fs.length c) := cell_next (by simp) hb1
  have p1 : w1.cell? ⟨w.heap.size, 1, none⟩ = some (.string body) := cell_next (by simp) hb1
  have hB1 := bnext (hB0 _) hb1 (Nat.le_refl _)
  rw [HF.out]
  go_wp2_with fail
  refine (messageText_any a c fs body _ (hF.below hB1) hM.1 HX.out.2.2).mono ?_
  rintro e w2 ⟨rfl, hb2⟩
  go_wp2
  go_ret2
  exact ⟨rfl, bnext hB1 hb2 (Nat.le_refl _)⟩
end Go.Proofs.YtpkfafglpilkoaaDoor
