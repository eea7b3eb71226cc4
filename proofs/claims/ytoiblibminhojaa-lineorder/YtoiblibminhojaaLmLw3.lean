/-
  Plain facts that LineOdd and LineOrder lean on. No program is named here.
-/
import Derived.Test.YtoiblibminhojaaLmLaw
namespace Go.Proofs.Ytoiblibminhojaa
open Go.RowKit

/- LineOdd. -/
def lhloA : List UInt8 := [76, 72, 76, 79, 32, 97]
def odL (f : Adr) : Nat → List UInt8
  | 0 => lhloA
  | 1 => mailU ++ angA f
  | _ => rcptU ++ angA f
theorem od_step {f : Adr} (hf : lawful f) (i : Nat) (hi : i < 3) : lineM (rdS f f i) [f.1] (odL f i) = (rdS f f (i + 1), 250, []) := by
  obtain rfl | rfl | rfl : i = 0 ∨ i = 1 ∨ i = 2 := by omega
  · show lineM (atS 0) [f.1] lhloA = _
    rw [line_cmd (by simp [atS]) (by simp [atS])]
    rfl
  · exact mail_ok hf _
  · exact rcpt_new (Or.inl rfl) hf
theorem od_len {f : Adr} (hf : lawful f) (i : Nat) : (odL f i).length ≤ 40 := by
  have := angA_len hf
  match i with
  | 0 => simp [odL, lhloA]
  | 1 => simp [odL, mailU]; omega
  | _ + 2 => simp [odL, rcptU]; omega
def oddL (f : Adr) : Nat → List UInt8
  | 0 => []
  | 1 => [72, 69, 76, 79, 32, 97]
  | 2 => [76, 72, 76, 79]
  | 3 => [76, 72, 76, 79, 32]
  | 4 => [76, 72, 76, 79, 32, 97, 32, 98]
  | 5 => mailU ++ 32 :: angA f
  | 6 => mailU ++ [60, 62]
  | 7 => rcptU ++ [60, 97, 64, 98, 62, 32]
  | 8 => rcptU ++ [60, 110, 48, 110, 101, 64, 98, 62]
  | 9 => [100, 97, 116, 97, 32]
  | 10 => [78, 79, 79, 80, 32, 120]
  | 11 => [113, 117, 105, 116, 46]
  | 12 => rcptU ++ [120, 32, 60, 97, 64, 98, 62]
  | _ => List.replicate 400 0
theorem odd_len {f : Adr} (hf : lawful f) (o : Nat) : (oddL f o).length ≤ 400 := by
  have := angA_len hf
  unfold oddL
  split
  all_goals first | exact Nat.le_of_eq List.length_replicate | (simp only [List.length_append, List.length_cons, List.length_nil, mailU, rcptU]; omega)
theorem addr_blank (t : List UInt8) : addrM (32 :: t) = none := by
  unfold addrM angleM
  simp
theorem lawful.none0 {f : Adr} (hf : lawful f) : [f.1].contains ([110, 48, 110, 101] : List UInt8) = false := by
  have h : ([110, 48, 110, 101] : List UInt8) ≠ f.1 := fun e => by
    have := hf.1.2.2 48 (by rw [← e]; simp)
    simp at this
  simp
  exact fun e => h e
theorem odd_all {f : Adr} (hf : lawful f) (i : Nat) (hi : i < 4) (o : Nat) (ho : o < 14) : ∃ c : Int, lineM (rdS f f i) [f.1] (oddL f o) = (rdS f f i, c, []) ∧ 500 ≤ c := by
  have h5 : (rdS f f i).step ≠ 5 := by obtain rfl | rfl | rfl | rfl : i = 0 ∨ i = 1 ∨ i = 2 ∨ i = 3 := by omega
                                       all_goals simp [rdS, atS]
  have h4 : (rdS f f i).step ≠ 4 := by obtain rfl | rfl | rfl | rfl : i = 0 ∨ i = 1 ∨ i = 2 ∨ i = 3 := by omega
                                       all_goals simp [rdS, atS]
  have hl := angA_len hf
  rw [line_cmd h5 h4]
  have key : ∃ c : Int, cmdM (rdS f f i) [f.1] (oddL f o) = (rdS f f i, c) ∧ 500 ≤ c := by
    by_cases e5 : o = 5
    · subst e5
      show ∃ c : Int, cmdM (rdS f f i) [f.1] (mailU ++ 32 :: angA f) = (rdS f f i, c) ∧ 500 ≤ c
      rw [cmd_mail (by simp; omega)]
      unfold mailM
      rw [addr_blank]
      split
      · exact ⟨501, rfl, by decide⟩
      · exact ⟨503, rfl, by decide⟩
    · by_cases e8 : o = 8
      · subst e8
        show ∃ c : Int, cmdM (rdS f f i) [f.1] (rcptU ++ [60, 110, 48, 110, 101, 64, 98, 62]) = (rdS f f i, c) ∧ 500 ≤ c
        rw [cmd_rcpt (Or.inl rfl) (by simp)]
        unfold rcptM
        rw [show addrM [60, 110, 48, 110, 101, 64, 98, 62] = some ([110, 48, 110, 101], [98]) from rfl]
        split
        · have e : rcptTo (rdS f f i) [f.1] (some ([110, 48, 110, 101], [98])) = (rdS f f i, 550) := by
            simp only [rcptTo]
            rw [if_pos hf.none0]
          exact ⟨550, e, by decide⟩
        · exact ⟨503, rfl, by decide⟩
      · by_cases e7 : o = 7 ∨ o = 12
        · have e : ∃ t : List UInt8, oddL f o = rcptU ++ t ∧ t.length ≤ 200 ∧ addrM t = none := by
            rcases e7 with rfl | rfl
            · exact ⟨_, rfl, by decide, rfl⟩
            · exact ⟨_, rfl, by decide, rfl⟩
          obtain ⟨t, e1, e2, e3⟩ := e
          rw [e1, cmd_rcpt (Or.inl rfl) e2]
          unfold rcptM
          rw [e3]
          split
          · exact ⟨501, rfl, by decide⟩
          · exact ⟨503, rfl, by decide⟩
        · by_cases e6 : o = 6
          · subst e6
            show ∃ c : Int, cmdM (rdS f f i) [f.1] (mailU ++ [60, 62]) = (rdS f f i, c) ∧ 500 ≤ c
            rw [cmd_mail (by simp)]
            unfold mailM
            rw [show addrM [60, 62] = none from rfl]
            split
            · exact ⟨501, rfl, by decide⟩
            · exact ⟨503, rfl, by decide⟩
          · by_cases e13 : o = 13
            · subst e13
              refine ⟨500, ?_, by decide⟩
              show cmdM (rdS f f i) [f.1] (List.replicate 400 0) = (rdS f f i, 500)
              unfold cmdM
              rw [if_pos (by rw [List.length_replicate]; decide)]
            · obtain rfl | rfl | rfl | rfl | rfl | rfl | rfl | rfl : o = 0 ∨ o = 1 ∨ o = 2 ∨ o = 3 ∨ o = 4 ∨ o = 9 ∨ o = 10 ∨ o = 11 := by omega
              all_goals exact ⟨_, rfl, by decide⟩
  obtain ⟨c, h1, h2⟩ := key
  exact ⟨c, by rw [h1], h2⟩
/- LineOrder. -/
def orL (f : Adr) : Nat → List UInt8
  | 0 => mailU ++ angA f
  | 1 => rcptU ++ angA f
  | _ => dataU
def canO (i k : Nat) : Bool := (i == 1 && k == 0) || (i == 2 && k == 1) || (i == 3 && decide (0 < k))
theorem or_all {f : Adr} (hf : lawful f) (i : Nat) (hi : i < 4) (k : Nat) (hk : k < 3) : ∃ (r : Ses) (c : Int), lineM (rdS f f i) [f.1] (orL f k) = (r, c, []) ∧ (c == 503) = !canO i k := by
  have h5 : (rdS f f i).step ≠ 5 := by obtain rfl | rfl | rfl | rfl : i = 0 ∨ i = 1 ∨ i = 2 ∨ i = 3 := by omega
                                       all_goals simp [rdS, atS]
  have h4 : (rdS f f i).step ≠ 4 := by obtain rfl | rfl | rfl | rfl : i = 0 ∨ i = 1 ∨ i = 2 ∨ i = 3 := by omega
                                       all_goals simp [rdS, atS]
  have hl := angA_len hf
  rw [line_cmd h5 h4]
  obtain rfl | rfl | rfl : k = 0 ∨ k = 1 ∨ k = 2 := by omega
  · show ∃ (r : Ses) (c : Int), ((cmdM (rdS f f i) [f.1] (mailU ++ angA f)).1, (cmdM (rdS f f i) [f.1] (mailU ++ angA f)).2, ([] : List Ltr)) = (r, c, []) ∧ (c == 503) = !canO i 0
    rw [cmd_mail (by omega)]
    unfold mailM
    rw [addrM_text hf]
    obtain rfl | rfl | rfl | rfl : i = 0 ∨ i = 1 ∨ i = 2 ∨ i = 3 := by omega
    all_goals exact ⟨_, _, rfl, rfl⟩
  · show ∃ (r : Ses) (c : Int), ((cmdM (rdS f f i) [f.1] (rcptU ++ angA f)).1, (cmdM (rdS f f i) [f.1] (rcptU ++ angA f)).2, ([] : List Ltr)) = (r, c, []) ∧ (c == 503) = !canO i 1
    rw [cmd_rcpt (Or.inl rfl) (by omega)]
    unfold rcptM
    rw [addrM_text hf]
    obtain rfl | rfl | rfl | rfl : i = 0 ∨ i = 1 ∨ i = 2 ∨ i = 3 := by omega
    · exact ⟨_, _, rfl, rfl⟩
    · exact ⟨_, _, rfl, rfl⟩
    · exact ⟨⟨3, f, [f], [], false⟩, 250, by simp [rdS, rcptTo], rfl⟩
    · exact ⟨⟨3, f, [f], [], false⟩, 250, by simp [rdS, rcptTo], rfl⟩
  · obtain rfl | rfl | rfl | rfl : i = 0 ∨ i = 1 ∨ i = 2 ∨ i = 3 := by omega
    all_goals exact ⟨_, _, rfl, rfl⟩
def nxL (f : Adr) : Nat → List UInt8
  | 0 => [108, 104, 108, 111, 32, 97]
  | 1 => mailU ++ angA f
  | 2 => rcptU ++ angA f
  | _ => [78, 79, 79, 80]
theorem nx_step {f : Adr} (hf : lawful f) (i : Nat) (hi : i < 4) : lineM (rdS f f i) [f.1] (nxL f i) = (rdS f f (min (i + 1) 3), 250, []) := by
  obtain rfl | rfl | rfl | rfl : i = 0 ∨ i = 1 ∨ i = 2 ∨ i = 3 := by omega
  · show lineM (atS 0) [f.1] [108, 104, 108, 111, 32, 97] = _
    rw [line_cmd (by simp [atS]) (by simp [atS])]
    rfl
  · exact mail_ok hf _
  · exact rcpt_new (Or.inl rfl) hf
  · show lineM ⟨3, f, [f], [], false⟩ [f.1] [78, 79, 79, 80] = _
    rw [line_cmd (by simp) (by simp)]
    rfl
def enL : Nat → List UInt8
  | 0 => [82, 83, 69, 84]
  | _ => [81, 85, 73, 84]
theorem en_step (f : Adr) (i : Nat) (hi : i < 2) : lineM (rdS f f 3) [f.1] (enL i) = (atS (if i = 0 then 1 else 5), if i = 0 then 250 else 221, []) := by
  obtain rfl | rfl : i = 0 ∨ i = 1 := by omega
  · show lineM ⟨3, f, [f], [], false⟩ [f.1] [82, 83, 69, 84] = _
    rw [line_cmd (by simp) (by simp)]
    rfl
  · show lineM ⟨3, f, [f], [], false⟩ [f.1] [81, 85, 73, 84] = _
    rw [line_cmd (by simp) (by simp)]
    rfl
end Go.Proofs.Ytoiblibminhojaa
