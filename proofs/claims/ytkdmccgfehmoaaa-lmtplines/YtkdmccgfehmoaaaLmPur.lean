/-
  Plain facts on sessions (chapter 12). No program is named here.
-/
import Derived.Test.YtkdmccgfehmoaaaWhoPure
import Derived.Test.YtkdmccgfehmoaaaPure
namespace Go.Proofs.Ytkdmccgfehmoaaa
open Go.RowKit

structure Ses where
  step : Int
  frm : Adr
  to : List Adr
  text : List UInt8
  large : Bool

abbrev Ltr := Adr × Adr × List UInt8

/-- P3.2 of an address. -/
def adrOk (a : Adr) : Bool := decide (checkA a.1 a.2 = 0)
/-- Addresses that may be, and differ, those ahead of them too. -/
def diffA : List Adr → List Adr → Bool
  | _, [] => true
  | pre, x :: t => adrOk x && !(pre.contains x) && diffA (pre ++ [x]) t
/-- P12.1. -/
def senderS (s : Ses) : Bool := if s.step < 2 ∨ 4 < s.step then s.frm.1.isEmpty && s.frm.2.isEmpty else adrOk s.frm
def goalsS (s : Ses) : Bool := if s.step < 3 ∨ 4 < s.step then s.to.isEmpty else decide (1 ≤ s.to.length) && decide (s.to.length ≤ 5) && diffA [] s.to
def textS (s : Ses) : Bool := if s.step = 4 then decide (s.text.length ≤ 2000) else s.text.isEmpty && !s.large
def mayS (s : Ses) : Bool := decide (0 ≤ s.step) && decide (s.step ≤ 5) && (senderS s && goalsS s && textS s)
/-- A session that has a Step, and nothing else. -/
def atS (k : Int) : Ses := ⟨k, ([], []), [], [], false⟩

/- P12.2, P12.3. -/
def behindM (word line : List UInt8) : Option (List UInt8) := if lowL (line.take word.length) = word then some (line.drop word.length) else none
def angleM (t : List UInt8) : Bool := decide (2 ≤ t.length) && t.head? == some 60 && t.getLast? == some 62
def innerM (t : List UInt8) : List UInt8 := (t.drop 1).dropLast
def addrM (t : List UInt8) : Option Adr :=
  if angleM t && (Lib.cut (innerM t) [64]).2.2 && adrOk ((Lib.cut (innerM t) [64]).1, (Lib.cut (innerM t) [64]).2.1) then some ((Lib.cut (innerM t) [64]).1, (Lib.cut (innerM t) [64]).2.1) else none
def wLhlo : List UInt8 := [108, 104, 108, 111, 32]
def wMail : List UInt8 := [109, 97, 105, 108, 32, 102, 114, 111, 109, 58]
def wRcpt : List UInt8 := [114, 99, 112, 116, 32, 116, 111, 58]
def wData : List UInt8 := [100, 97, 116, 97]
def wRset : List UInt8 := [114, 115, 101, 116]
def wNoop : List UInt8 := [110, 111, 111, 112]
def wQuit : List UInt8 := [113, 117, 105, 116]
def greetM (s : Ses) (t : List UInt8) : Ses × Int := if adrOk ([120], t) then (atS 1, 250) else (s, 501)
def mailTo (s : Ses) : Option Adr → Ses × Int
  | none => (s, 501)
  | some a => (⟨2, a, s.to, s.text, s.large⟩, 250)
def mailM (s : Ses) (t : List UInt8) : Ses × Int := if s.step = 1 then mailTo s (addrM t) else (s, 503)
def rcptTo (s : Ses) (known : List (List UInt8)) : Option Adr → Ses × Int
  | none => (s, 501)
  | some a => if known.contains a.1 = false then (s, 550) else if s.to.contains a then (s, 250) else if 5 ≤ s.to.length then (s, 452) else (⟨3, s.frm, s.to ++ [a], s.text, s.large⟩, 250)
def rcptM (s : Ses) (known : List (List UInt8)) (t : List UInt8) : Ses × Int := if s.step = 2 ∨ s.step = 3 then rcptTo s known (addrM t) else (s, 503)
def dataM (s : Ses) : Ses × Int := if s.step = 3 then (⟨4, s.frm, s.to, s.text, s.large⟩, 354) else (s, 503)
def rsetM (s : Ses) : Ses := if s.step = 0 then s else atS 1
def wordM (s : Ses) (line : List UInt8) : Ses × Int :=
  if lowL line = wData then dataM s else if lowL line = wRset then (rsetM s, 250) else if lowL line = wNoop then (s, 250) else if lowL line = wQuit then (atS 5, 221) else (s, 500)
def cmd3 (s : Ses) (known : List (List UInt8)) (line : List UInt8) : Option (List UInt8) → Ses × Int
  | some t => rcptM s known t
  | none => wordM s line
def cmd2 (s : Ses) (known : List (List UInt8)) (line : List UInt8) : Option (List UInt8) → Ses × Int
  | some t => mailM s t
  | none => cmd3 s known line (behindM wRcpt line)
def cmd1 (s : Ses) (known : List (List UInt8)) (line : List UInt8) : Option (List UInt8) → Ses × Int
  | some t => greetM s t
  | none => cmd2 s known line (behindM wMail line)
def cmdM (s : Ses) (known : List (List UInt8)) (line : List UInt8) : Ses × Int := if 300 < line.length then (s, 500) else cmd1 s known line (behindM wLhlo line)
/- P12.4. -/
def undot : List UInt8 → List UInt8
  | [] => []
  | c :: t => if c = 46 then t else c :: t
def lettersM (s : Ses) : List Ltr := s.to.map fun a => (s.frm, a, s.text)
def readM (s : Ses) (line : List UInt8) : Ses :=
  if s.large = true ∨ 2000 < s.text.length + (undot line).length + 2 then ⟨s.step, s.frm, s.to, s.text, true⟩ else ⟨s.step, s.frm, s.to, s.text ++ undot line ++ [13, 10], s.large⟩
def bodyM (s : Ses) (line : List UInt8) : Ses × List Ltr := if line = [46] then (atS 1, lettersM s) else (readM s line, [])
def lineM (s : Ses) (known : List (List UInt8)) (line : List UInt8) : Ses × Int × List Ltr :=
  if s.step = 5 then (s, 0, []) else if s.step = 4 then ((bodyM s line).1, 0, (bodyM s line).2) else ((cmdM s known line).1, (cmdM s known line).2, [])

theorem adrOk_len {a : Adr} (h : adrOk a = true) : a.1.length + 1 + a.2.length ≤ 100 := by
  unfold adrOk checkA at h
  simp only [decide_eq_true_eq] at h
  split at h
  · cases h
  · split at h
    · cases h
    · omega
theorem diffA_snoc {a : Adr} : ∀ {l pre : List Adr}, diffA pre l = true → adrOk a = true → (pre ++ l).contains a = false → diffA pre (l ++ [a]) = true
  | [], pre, _, h2, h3 => by
    simp only [List.append_nil] at h3
    show (adrOk a && !(pre.contains a) && true) = true
    rw [h2, h3]; rfl
  | x :: l, pre, h1, h2, h3 => by
    simp only [diffA, Bool.and_eq_true] at h1
    have h3' : (pre ++ [x] ++ l).contains a = false := by simpa using h3
    simp only [List.cons_append, diffA, Bool.and_eq_true]
    exact ⟨h1.1, diffA_snoc h1.2 h2 h3'⟩
theorem diffA_mem {a : Adr} : ∀ {l pre : List Adr}, diffA pre l = true → a ∈ l → adrOk a = true
  | [], _, _, h => by simp at h
  | x :: l, pre, h1, h => by
    simp only [diffA, Bool.and_eq_true] at h1
    rcases List.mem_cons.1 h with rfl | h
    · exact h1.1.1
    · exact diffA_mem h1.2 h
theorem diffA_step {l : List Adr} {i : Nat} {x : Adr} (h : l[i]? = some x) : diffA (l.take i) (l.drop i) = (adrOk x && !((l.take i).contains x) && diffA (l.take (i + 1)) (l.drop (i + 1))) := by
  have hi : i < l.length := (List.getElem?_eq_some_iff.1 h).1
  have e : l[i] = x := (List.getElem?_eq_some_iff.1 h).2
  rw [List.drop_eq_getElem_cons hi, e, take_some h]
  rfl
theorem addrM_ok {t : List UInt8} {a : Adr} (h : addrM t = some a) : adrOk a = true := by
  unfold addrM at h
  split at h
  · rename_i hc
    simp only [Bool.and_eq_true] at hc
    cases h
    exact hc.2
  · cases h
theorem may_at {k : Int} (h0 : 0 ≤ k) (h1 : k ≤ 1 ∨ k = 5) (h5 : k ≤ 5) : mayS (atS k) = true := by
  unfold mayS senderS goalsS textS atS
  have e4 : ¬ k = 4 := by omega
  have e2 : k < 2 ∨ 4 < k := by omega
  have e3 : k < 3 ∨ 4 < k := by omega
  simp [h0, h5, e4, e2, e3]
theorem mayS_parts {s : Ses} : mayS s = true ↔ 0 ≤ s.step ∧ s.step ≤ 5 ∧ senderS s = true ∧ goalsS s = true ∧ textS s = true := by
  unfold mayS
  simp only [Bool.and_eq_true, decide_eq_true_eq, and_assoc]
theorem may_cmd {s : Ses} (h : mayS s = true) (h4 : s.step ≠ 4) (known : List (List UInt8)) (line : List UInt8) : mayS (cmdM s known line).1 = true := by
  obtain ⟨p0, p5, ps, pg, pt⟩ := mayS_parts.1 h
  have hT : s.text = [] ∧ s.large = false := by
    unfold textS at pt
    rw [if_neg h4] at pt
    simpa using pt
  unfold cmdM
  split
  · exact h
  · unfold cmd1
    split
    · unfold greetM
      split
      · exact may_at (by omega) (by omega) (by omega)
      · exact h
    · unfold cmd2
      split
      · unfold mailM
        split
        · rename_i h1
          unfold mailTo
          split
          · exact h
          · rename_i a ha
            have hto : s.to = [] := by
              unfold goalsS at pg
              rw [if_pos (by omega)] at pg
              simpa using pg
            refine mayS_parts.2 ⟨by simp, by simp, ?_, ?_, ?_⟩
            · simp [senderS, addrM_ok ha]
            · simp [goalsS, hto]
            · simp [textS, hT]
        · exact h
      · unfold cmd3
        split
        · unfold rcptM
          split
          · rename_i h23
            unfold rcptTo
            split
            · exact h
            · rename_i a ha
              split
              · exact h
              · split
                · exact h
                · split
                  · exact h
                  · rename_i hn h5
                    have hd : diffA [] s.to = true := by
                      unfold goalsS at pg
                      rcases h23 with h2 | h3
                      · rw [if_pos (by omega)] at pg
                        have : s.to = [] := by simpa using pg
                        rw [this]; rfl
                      · rw [if_neg (by omega)] at pg
                        simp only [Bool.and_eq_true] at pg
                        exact pg.2
                    have hs : adrOk s.frm = true := by
                      unfold senderS at ps
                      rw [if_neg (by omega)] at ps
                      exact ps
                    refine mayS_parts.2 ⟨by simp, by simp, ?_, ?_, ?_⟩
                    · simp [senderS, hs]
                    · have := diffA_snoc (a := a) (pre := []) hd (addrM_ok ha) (by simpa using hn)
                      simp [goalsS, this]
                      omega
                    · simp [textS, hT]
          · exact h
        · unfold wordM
          split
          · unfold dataM
            split
            · rename_i h3
              have hs : adrOk s.frm = true := by
                unfold senderS at ps
                rw [if_neg (by omega)] at ps
                exact ps
              have hg : (decide (1 ≤ s.to.length) && decide (s.to.length ≤ 5) && diffA [] s.to) = true := by
                unfold goalsS at pg
                rw [if_neg (by omega)] at pg
                exact pg
              refine mayS_parts.2 ⟨by simp, by simp, ?_, ?_, ?_⟩
              · simp [senderS, hs]
              · simp only [goalsS]
                rw [if_neg (by simp)]
                exact hg
              · simp [textS, hT]
            · exact h
          · split
            · unfold rsetM
              split
              · exact h
              · exact may_at (by omega) (by omega) (by omega)
            · split
              · exact h
              · split
                · exact may_at (by omega) (by omega) (by omega)
                · exact h
theorem may_body {s : Ses} (h : mayS s = true) (h4 : s.step = 4) (line : List UInt8) : mayS (bodyM s line).1 = true := by
  obtain ⟨p0, p5, ps, pg, pt⟩ := mayS_parts.1 h
  unfold bodyM
  split
  · exact may_at (by omega) (by omega) (by omega)
  · show mayS (readM s line) = true
    unfold readM
    split
    · exact mayS_parts.2 ⟨p0, p5, ps, pg, by unfold textS at pt ⊢; rw [if_pos h4] at pt; simpa [h4] using pt⟩
    · rename_i hl
      refine mayS_parts.2 ⟨p0, p5, ps, pg, ?_⟩
      unfold textS
      simp only [h4, if_true]
      simp
      omega
/-- What goes on of a session that may be may be. -/
theorem may_line {s : Ses} (h : mayS s = true) (known : List (List UInt8)) (line : List UInt8) : mayS (lineM s known line).1 = true := by
  unfold lineM
  split
  · exact h
  · split
    · rename_i h4; exact may_body h h4 line
    · rename_i h4; exact may_cmd h h4 known line
end Go.Proofs.Ytkdmccgfehmoaaa
