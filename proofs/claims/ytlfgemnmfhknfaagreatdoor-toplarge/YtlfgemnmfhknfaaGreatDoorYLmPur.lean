/-
  Plain facts on sessions (chapter 12). No program is named here.
-/
import Derived.Test.YtlfgemnmfhknfaaGreatDoorYQScrRd135
import Derived.Test.YtlfgemnmfhknfaaGreatDoorYQPure5
namespace Go.Proofs.YtlfgemnmfhknfaaGreatDoor
open Go.RowKit
structure Ses where
  step : Int
  frm : Adr
  to : List Adr
  text : List UInt8
  large : Bool
abbrev Ltr := Adr × Adr × List UInt8
def qz (a : Adr) : Bool := decide (j7 a.1 a.2 = 0)
def jan : List Adr → List Adr → Bool
  | _, [] => true
  | pre, x :: t => qz x && !(pre.contains x) && jan (pre ++ [x]) t
def zo (s : Ses) : Bool := if s.step < 2 ∨ 4 < s.step then s.frm.1.isEmpty && s.frm.2.isEmpty else qz s.frm
def zZ (s : Ses) : Bool := if s.step < 3 ∨ 4 < s.step then s.to.isEmpty else decide (1 ≤ s.to.length) && decide (s.to.length ≤ 5) && jan [] s.to
def vv (s : Ses) : Bool := if s.step = 4 then decide (s.text.length ≤ 2000) else s.text.isEmpty && !s.large
def mayS (s : Ses) : Bool := decide (0 ≤ s.step) && decide (s.step ≤ 5) && (zo s && zZ s && vv s)
def atS (k : Int) : Ses := ⟨k, ([], []), [], [], false⟩
def zA (word line : List UInt8) : Option (List UInt8) := if lowL (line.take word.length) = word then some (line.drop word.length) else none
def jcM (t : List UInt8) : Bool := decide (2 ≤ t.length) && t.head? == some 60 && t.getLast? == some 62
def jcI (t : List UInt8) : List UInt8 := (t.drop 1).dropLast
def ja5 (t : List UInt8) : Option Adr :=
  if jcM t && (Lib.cut (jcI t) [64]).2.2 && qz ((Lib.cut (jcI t) [64]).1, (Lib.cut (jcI t) [64]).2.1) then some ((Lib.cut (jcI t) [64]).1, (Lib.cut (jcI t) [64]).2.1) else none
def jkI : List UInt8 := [108, 104, 108, 111, 32]
def jjV : List UInt8 := [109, 97, 105, 108, 32, 102, 114, 111, 109, 58]
def jkz : List UInt8 := [114, 99, 112, 116, 32, 116, 111, 58]
def jjZ : List UInt8 := [100, 97, 116, 97]
def jkT : List UInt8 := [114, 115, 101, 116]
def jjG : List UInt8 := [110, 111, 111, 112]
def jkY : List UInt8 := [113, 117, 105, 116]
def jaP (s : Ses) (t : List UInt8) : Ses × Int := if qz ([120], t) then (atS 1, 250) else (s, 501)
def jiZ (s : Ses) : Option Adr → Ses × Int
  | none => (s, 501)
  | some a => (⟨2, a, s.to, s.text, s.large⟩, 250)
def jcv (s : Ses) (t : List UInt8) : Ses × Int := if s.step = 1 then jiZ s (ja5 t) else (s, 503)
def jgg (s : Ses) (known : List (List UInt8)) : Option Adr → Ses × Int
  | none => (s, 501)
  | some a => if known.contains a.1 = false then (s, 550) else if s.to.contains a then (s, 250) else if 5 ≤ s.to.length then (s, 452) else (⟨3, s.frm, s.to ++ [a], s.text, s.large⟩, 250)
def jaF (s : Ses) (known : List (List UInt8)) (t : List UInt8) : Ses × Int := if s.step = 2 ∨ s.step = 3 then jgg s known (ja5 t) else (s, 503)
def jdN (s : Ses) : Ses × Int := if s.step = 3 then (⟨4, s.frm, s.to, s.text, s.large⟩, 354) else (s, 503)
def jdE (s : Ses) : Ses := if s.step = 0 then s else atS 1
def jcp (s : Ses) (line : List UInt8) : Ses × Int :=
  if lowL line = jjZ then jdN s else if lowL line = jkT then (jdE s, 250) else if lowL line = jjG then (s, 250) else if lowL line = jkY then (atS 5, 221) else (s, 500)
def cmd3 (s : Ses) (known : List (List UInt8)) (line : List UInt8) : Option (List UInt8) → Ses × Int
  | some t => jaF s known t
  | none => jcp s line
def cmd2 (s : Ses) (known : List (List UInt8)) (line : List UInt8) : Option (List UInt8) → Ses × Int
  | some t => jcv s t
  | none => cmd3 s known line (zA jkz line)
def cmd1 (s : Ses) (known : List (List UInt8)) (line : List UInt8) : Option (List UInt8) → Ses × Int
  | some t => jaP s t
  | none => cmd2 s known line (zA jjV line)
def cmdM (s : Ses) (known : List (List UInt8)) (line : List UInt8) : Ses × Int := if 300 < line.length then (s, 500) else cmd1 s known line (zA jkI line)
def qm : List UInt8 → List UInt8
  | [] => []
  | c :: t => if c = 46 then t else c :: t
def jL (s : Ses) : List Ltr := s.to.map fun a => (s.frm, a, s.text)
def jak (s : Ses) (line : List UInt8) : Ses :=
  if s.large = true ∨ 2000 < s.text.length + (qm line).length + 2 then ⟨s.step, s.frm, s.to, s.text, true⟩ else ⟨s.step, s.frm, s.to, s.text ++ qm line ++ [13, 10], s.large⟩
def qK (s : Ses) (line : List UInt8) : Ses × List Ltr := if line = [46] then (atS 1, jL s) else (jak s line, [])
def jI (s : Ses) (known : List (List UInt8)) (line : List UInt8) : Ses × Int × List Ltr :=
  if s.step = 5 then (s, 0, []) else if s.step = 4 then ((qK s line).1, 0, (qK s line).2) else ((cmdM s known line).1, (cmdM s known line).2, [])
theorem jdW {a : Adr} (h : qz a = true) : a.1.length + 1 + a.2.length ≤ 100 := by
  unfold qz j7 at h; simp only [decide_eq_true_eq] at h; split at h
  · cases h
  · split at h
    · cases h
    · omega
theorem jcZ {a : Adr} : ∀ {l pre : List Adr}, jan pre l = true → qz a = true → (pre ++ l).contains a = false → jan pre (l ++ [a]) = true
  | [], pre, _, h2, h3 => by
    simp only [List.append_nil] at h3
    show (qz a && !(pre.contains a) && true) = true
    rw [h2, h3]; rfl
  | x :: l, pre, h1, h2, h3 => by
    simp only [jan, Bool.and_eq_true] at h1; have h3' : (pre ++ [x] ++ l).contains a = false := by simpa using h3
    simp only [List.cons_append, jan, Bool.and_eq_true]; exact ⟨h1.1, jcZ h1.2 h2 h3'⟩
theorem jek {a : Adr} : ∀ {l pre : List Adr}, jan pre l = true → a ∈ l → qz a = true
  | [], _, _, h => by simp at h
  | x :: l, pre, h1, h => by
    simp only [jan, Bool.and_eq_true] at h1
    rcases List.mem_cons.1 h with rfl | h
    · exact h1.1.1
    · exact jek h1.2 h
theorem jhk {l : List Adr} {i : Nat} {x : Adr} (h : l[i]? = some x) : jan (l.take i) (l.drop i) = (qz x && !((l.take i).contains x) && jan (l.take (i + 1)) (l.drop (i + 1))) := by
  have hi : i < l.length := (List.getElem?_eq_some_iff.1 h).1; have e : l[i] = x := (List.getElem?_eq_some_iff.1 h).2; rw [List.drop_eq_getElem_cons hi, e, jcd h]; rfl
theorem jfO {t : List UInt8} {a : Adr} (h : ja5 t = some a) : qz a = true := by
  unfold ja5 at h; split at h
  · rename_i hc; simp only [Bool.and_eq_true] at hc; cases h; exact hc.2
  · cases h
theorem jd2 {k : Int} (h0 : 0 ≤ k) (h1 : k ≤ 1 ∨ k = 5) (h5 : k ≤ 5) : mayS (atS k) = true := by
  unfold mayS zo zZ vv atS; have e4 : ¬ k = 4 := by omega
  have e2 : k < 2 ∨ 4 < k := by omega
  have e3 : k < 3 ∨ 4 < k := by omega
  simp [h0, h5, e4, e2, e3]
theorem zc {s : Ses} : mayS s = true ↔ 0 ≤ s.step ∧ s.step ≤ 5 ∧ zo s = true ∧ zZ s = true ∧ vv s = true := by
  unfold mayS; simp only [Bool.and_eq_true, decide_eq_true_eq, and_assoc]
theorem jl4 {s : Ses} (h : mayS s = true) (h4 : s.step ≠ 4) (known : List (List UInt8)) (line : List UInt8) : mayS (cmdM s known line).1 = true := by
  obtain ⟨p0, p5, ps, pg, pt⟩ := zc.1 h; have hT : s.text = [] ∧ s.large = false := by
    unfold vv at pt; rw [if_neg h4] at pt
    simpa using pt
  unfold cmdM; split
  · exact h
  · unfold cmd1; split
    · unfold jaP; split
      · exact jd2 (by omega) (by omega) (by omega)
      · exact h
    · unfold cmd2; split
      · unfold jcv; split
        · rename_i h1; unfold jiZ; split
          · exact h
          · rename_i a ha; have hto : s.to = [] := by
              unfold zZ at pg; rw [if_pos (by omega)] at pg
              simpa using pg
            refine zc.2 ⟨by simp, by simp, ?_, ?_, ?_⟩
            · simp [zo, jfO ha]
            · simp [zZ, hto]
            · simp [vv, hT]
        · exact h
      · unfold cmd3; split
        · unfold jaF; split
          · rename_i h23; unfold jgg; split
            · exact h
            · rename_i a ha; split
              · exact h
              · split
                · exact h
                · split
                  · exact h
                  · rename_i hn h5; have hd : jan [] s.to = true := by
                      unfold zZ at pg
                      rcases h23 with h2 | h3
                      · rw [if_pos (by omega)] at pg; have : s.to = [] := by simpa using pg
                        rw [this]; rfl
                      · rw [if_neg (by omega)] at pg; simp only [Bool.and_eq_true] at pg; exact pg.2
                    have hs : qz s.frm = true := by
                      unfold zo at ps; rw [if_neg (by omega)] at ps; exact ps
                    refine zc.2 ⟨by simp, by simp, ?_, ?_, ?_⟩
                    · simp [zo, hs]
                    · have := jcZ (a := a) (pre := []) hd (jfO ha) (by simpa using hn)
                      simp [zZ, this]
                      omega
                    · simp [vv, hT]
          · exact h
        · unfold jcp; split
          · unfold jdN; split
            · rename_i h3; have hs : qz s.frm = true := by
                unfold zo at ps; rw [if_neg (by omega)] at ps; exact ps
              have hg : (decide (1 ≤ s.to.length) && decide (s.to.length ≤ 5) && jan [] s.to) = true := by
                unfold zZ at pg; rw [if_neg (by omega)] at pg; exact pg
              refine zc.2 ⟨by simp, by simp, ?_, ?_, ?_⟩
              · simp [zo, hs]
              · simp only [zZ]; rw [if_neg (by simp)]; exact hg
              · simp [vv, hT]
            · exact h
          · split
            · unfold jdE; split
              · exact h
              · exact jd2 (by omega) (by omega) (by omega)
            · split
              · exact h
              · split
                · exact jd2 (by omega) (by omega) (by omega)
                · exact h
theorem jkq {s : Ses} (h : mayS s = true) (h4 : s.step = 4) (line : List UInt8) : mayS (qK s line).1 = true := by
  obtain ⟨p0, p5, ps, pg, pt⟩ := zc.1 h; unfold qK; split
  · exact jd2 (by omega) (by omega) (by omega)
  · show mayS (jak s line) = true
    unfold jak; split
    · exact zc.2 ⟨p0, p5, ps, pg, by unfold vv at pt ⊢; rw [if_pos h4] at pt; simpa [h4] using pt⟩
    · rename_i hl; refine zc.2 ⟨p0, p5, ps, pg, ?_⟩; unfold vv; simp only [h4, if_true]
      simp
      omega
theorem jfM {s : Ses} (h : mayS s = true) (known : List (List UInt8)) (line : List UInt8) : mayS (jI s known line).1 = true := by
  unfold jI; split
  · exact h
  · split
    · rename_i h4; exact jkq h h4 line
    · rename_i h4; exact jl4 h h4 known line
end Go.Proofs.YtlfgemnmfhknfaaGreatDoor
