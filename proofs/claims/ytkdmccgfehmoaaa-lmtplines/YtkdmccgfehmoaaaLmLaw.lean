/-
  Plain facts that the laws on sessions lean on. No program is named here.
-/
import Derived.Test.YtkdmccgfehmoaaaLmPur
namespace Go.Proofs.Ytkdmccgfehmoaaa
open Go.RowKit

theorem lawful.ok {a : Adr} (h : lawful a) : adrOk a = true := by unfold adrOk; rw [h.check]; rfl
theorem lawful.noAt {a : Adr} (h : lawful a) : (64 : UInt8) ∉ a.1 := fun hc => by
  have := h.1.2.2 64 hc
  simp at this
/-- An address between its two signs. -/
def angA (a : Adr) : List UInt8 := 60 :: (textA a ++ [62])
theorem addrM_text {a : Adr} (h : lawful a) : addrM (angA a) = some a := by
  have h1 : angleM (angA a) = true := by
    have hl : (angA a).getLast? = some 62 := by
      exact List.getLast?_concat (l := 60 :: textA a)
    unfold angleM
    rw [hl]
    simp [angA]
  have h2 : innerM (angA a) = textA a := by
    unfold innerM angA
    simp
  have h3 : Lib.cut (textA a) [64] = (a.1, a.2, true) := cut_colon h.noAt
  unfold addrM
  rw [h1, h2, h3]
  simp [h.ok]
theorem behind_of {wd pre : List UInt8} (t : List UInt8) (h : lowL pre = wd) : behindM wd (pre ++ t) = some t := by
  have hl : pre.length = wd.length := by rw [← h]; simp [lowL]
  unfold behindM
  rw [← hl]
  simp [h]
theorem behind_no {wd line : List UInt8} (h : lowL (line.take wd.length) ≠ wd) : behindM wd line = none := by
  unfold behindM
  rw [if_neg h]

def mailU : List UInt8 := [77, 65, 73, 76, 32, 70, 82, 79, 77, 58]
def rcptU : List UInt8 := [82, 67, 80, 84, 32, 84, 79, 58]
def rcptL : List UInt8 := [114, 99, 112, 116, 32, 116, 111, 58]
theorem cmd_mail {s : Ses} {known : List (List UInt8)} {t : List UInt8} (ht : t.length ≤ 200) : cmdM s known (mailU ++ t) = mailM s t := by
  unfold cmdM
  rw [if_neg (by simp [mailU]; omega), behind_no (by simp [mailU, wLhlo, lowL]; decide)]
  show cmd2 s known (mailU ++ t) (behindM wMail (mailU ++ t)) = _
  rw [behind_of t (by decide)]
  rfl
theorem cmd_rcpt {s : Ses} {known : List (List UInt8)} {p t : List UInt8} (hp : p = rcptU ∨ p = rcptL) (ht : t.length ≤ 200) : cmdM s known (p ++ t) = rcptM s known t := by
  have h1 : behindM wLhlo (p ++ t) = none := by
    rcases hp with rfl | rfl
    · exact behind_no (by simp [rcptU, wLhlo, lowL]; decide)
    · exact behind_no (by simp [rcptL, wLhlo, lowL]; decide)
  have h2 : behindM wMail (p ++ t) = none := by
    rcases hp with rfl | rfl
    · refine behind_no ?_
      intro e
      have := congrArg List.head? e
      revert this
      simp [rcptU, wMail, lowL]
      decide
    · refine behind_no ?_
      intro e
      have := congrArg List.head? e
      revert this
      simp [rcptL, wMail, lowL]
      decide
  have h3 : behindM wRcpt (p ++ t) = some t := by
    rcases hp with rfl | rfl
    · exact behind_of t (by decide)
    · exact behind_of t (by decide)
  unfold cmdM
  rw [if_neg (by rcases hp with rfl | rfl <;> simp [rcptU, rcptL] <;> omega), h1]
  show cmd2 s known (p ++ t) (behindM wMail (p ++ t)) = _
  rw [h2]
  show cmd3 s known (p ++ t) (behindM wRcpt (p ++ t)) = _
  rw [h3]
  rfl
theorem line_cmd {s : Ses} (h5 : s.step ≠ 5) (h4 : s.step ≠ 4) (known : List (List UInt8)) (line : List UInt8) : lineM s known line = ((cmdM s known line).1, (cmdM s known line).2, []) := by
  unfold lineM
  rw [if_neg h5, if_neg h4]
theorem angA_len {a : Adr} (h : lawful a) : (angA a).length ≤ 23 := by
  have := h.size
  unfold angA
  simp; omega

/- What is ready for a letter. -/
def lhloXY : List UInt8 := [76, 72, 76, 79, 32, 120, 46, 121]
def dataU : List UInt8 := [68, 65, 84, 65]
def rdS (f t : Adr) : Nat → Ses
  | 0 => atS 0
  | 1 => atS 1
  | 2 => ⟨2, f, [], [], false⟩
  | 3 => ⟨3, f, [t], [], false⟩
  | _ => ⟨4, f, [t], [], false⟩
def rdL (f t : Adr) : Nat → List UInt8
  | 0 => lhloXY
  | 1 => mailU ++ angA f
  | 2 => rcptL ++ angA t
  | _ => dataU
def rdC : Nat → Int
  | 3 => 354
  | _ => 250
theorem lhlo_xy (known : List (List UInt8)) : lineM (atS 0) known lhloXY = (atS 1, 250, []) := by
  rw [line_cmd (by simp [atS]) (by simp [atS])]
  rfl
theorem mail_ok {a : Adr} (h : lawful a) (known : List (List UInt8)) : lineM (atS 1) known (mailU ++ angA a) = (⟨2, a, [], [], false⟩, 250, []) := by
  have hl := angA_len h
  rw [line_cmd (by simp [atS]) (by simp [atS]), cmd_mail (by omega)]
  unfold mailM
  rw [if_pos (show (atS 1).step = 1 from rfl), addrM_text h]
  rfl
theorem rcpt_new {f a : Adr} {p : List UInt8} (hp : p = rcptU ∨ p = rcptL) (h : lawful a) : lineM ⟨2, f, [], [], false⟩ [a.1] (p ++ angA a) = (⟨3, f, [a], [], false⟩, 250, []) := by
  have hl := angA_len h
  rw [line_cmd (by simp) (by simp), cmd_rcpt hp (by omega)]
  unfold rcptM
  rw [if_pos (by simp), addrM_text h]
  simp [rcptTo]
theorem data_ok {f a : Adr} (known : List (List UInt8)) : lineM ⟨3, f, [a], [], false⟩ known dataU = (⟨4, f, [a], [], false⟩, 354, []) := by
  rw [line_cmd (by simp) (by simp)]
  rfl
theorem rd_step {f t : Adr} (hf : lawful f) (ht : lawful t) (i : Nat) (hi : i < 4) : lineM (rdS f t i) [t.1] (rdL f t i) = (rdS f t (i + 1), rdC i, []) := by
  obtain rfl | rfl | rfl | rfl : i = 0 ∨ i = 1 ∨ i = 2 ∨ i = 3 := by omega
  · exact lhlo_xy _
  · exact mail_ok hf _
  · exact rcpt_new (Or.inr rfl) ht
  · exact data_ok _
theorem rd_may {f t : Adr} (hf : lawful f) (ht : lawful t) : ∀ i, i ≤ 4 → mayS (rdS f t i) = true
  | 0, _ => may_at (by omega) (by omega) (by omega)
  | i + 1, h => by
    have h1 := may_line (rd_may hf ht i (by omega)) [t.1] (rdL f t i)
    rw [rd_step hf ht i (by omega)] at h1
    exact h1
end Go.Proofs.Ytkdmccgfehmoaaa
