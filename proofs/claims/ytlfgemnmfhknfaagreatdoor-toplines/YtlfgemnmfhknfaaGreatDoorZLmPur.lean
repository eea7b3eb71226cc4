/-
  Plain facts on sessions (chapter 12). No program is named here.
-/
import Derived.Test.YtlfgemnmfhknfaaGreatDoorZQScrRd135
import Derived.Test.YtlfgemnmfhknfaaGreatDoorZQPure5
namespace Go.Proofs.YtlfgemnmfhknfaaGreatDoor
open Go.RowKit
structure Ses where
  step : Int
  frm : Adr
  to : List Adr
  text : List UInt8
  large : Bool
abbrev Ltr := Adr × Adr × List UInt8
def qr (a : Adr) : Bool := decide (jZ a.1 a.2 = 0)
def jaf : List Adr → List Adr → Bool
  | _, [] => true
  | pre, x :: t => qr x && !(pre.contains x) && jaf (pre ++ [x]) t
def zj (s : Ses) : Bool := if s.step < 2 ∨ 4 < s.step then s.frm.1.isEmpty && s.frm.2.isEmpty else qr s.frm
def zT (s : Ses) : Bool := if s.step < 3 ∨ 4 < s.step then s.to.isEmpty else decide (1 ≤ s.to.length) && decide (s.to.length ≤ 5) && jaf [] s.to
def jac (s : Ses) : Bool := if s.step = 4 then decide (s.text.length ≤ 2000) else s.text.isEmpty && !s.large
def mayS (s : Ses) : Bool := decide (0 ≤ s.step) && decide (s.step ≤ 5) && (zj s && zT s && jac s)
def atS (k : Int) : Ses := ⟨k, ([], []), [], [], false⟩
def zy (word line : List UInt8) : Option (List UInt8) := if lowL (line.take word.length) = word then some (line.drop word.length) else none
def jcy (t : List UInt8) : Bool := decide (2 ≤ t.length) && t.head? == some 60 && t.getLast? == some 62
def jcO (t : List UInt8) : List UInt8 := (t.drop 1).dropLast
def jaP (t : List UInt8) : Option Adr :=
  if jcy t && (Lib.cut (jcO t) [64]).2.2 && qr ((Lib.cut (jcO t) [64]).1, (Lib.cut (jcO t) [64]).2.1) then some ((Lib.cut (jcO t) [64]).1, (Lib.cut (jcO t) [64]).2.1) else none
def jkv : List UInt8 := [108, 104, 108, 111, 32]
def jkh : List UInt8 := [109, 97, 105, 108, 32, 102, 114, 111, 109, 58]
def jju : List UInt8 := [114, 99, 112, 116, 32, 116, 111, 58]
def jce : List UInt8 := [100, 97, 116, 97]
def jkA : List UInt8 := [114, 115, 101, 116]
def jjr : List UInt8 := [110, 111, 111, 112]
def jcm : List UInt8 := [113, 117, 105, 116]
def vr (s : Ses) (t : List UInt8) : Ses × Int := if qr ([120], t) then (atS 1, 250) else (s, 501)
def jec (s : Ses) : Option Adr → Ses × Int
  | none => (s, 501)
  | some a => (⟨2, a, s.to, s.text, s.large⟩, 250)
def jbc (s : Ses) (t : List UInt8) : Ses × Int := if s.step = 1 then jec s (jaP t) else (s, 503)
def jct (s : Ses) (known : List (List UInt8)) : Option Adr → Ses × Int
  | none => (s, 501)
  | some a => if known.contains a.1 = false then (s, 550) else if s.to.contains a then (s, 250) else if 5 ≤ s.to.length then (s, 452) else (⟨3, s.frm, s.to ++ [a], s.text, s.large⟩, 250)
def jaa (s : Ses) (known : List (List UInt8)) (t : List UInt8) : Ses × Int := if s.step = 2 ∨ s.step = 3 then jct s known (jaP t) else (s, 503)
def jdb (s : Ses) : Ses × Int := if s.step = 3 then (⟨4, s.frm, s.to, s.text, s.large⟩, 354) else (s, 503)
def jcj (s : Ses) : Ses := if s.step = 0 then s else atS 1
def jbh (s : Ses) (line : List UInt8) : Ses × Int :=
  if lowL line = jce then jdb s else if lowL line = jkA then (jcj s, 250) else if lowL line = jjr then (s, 250) else if lowL line = jcm then (atS 5, 221) else (s, 500)
def cmd3 (s : Ses) (known : List (List UInt8)) (line : List UInt8) : Option (List UInt8) → Ses × Int
  | some t => jaa s known t
  | none => jbh s line
def cmd2 (s : Ses) (known : List (List UInt8)) (line : List UInt8) : Option (List UInt8) → Ses × Int
  | some t => jbc s t
  | none => cmd3 s known line (zy jju line)
def cmd1 (s : Ses) (known : List (List UInt8)) (line : List UInt8) : Option (List UInt8) → Ses × Int
  | some t => vr s t
  | none => cmd2 s known line (zy jkh line)
def cmdM (s : Ses) (known : List (List UInt8)) (line : List UInt8) : Ses × Int := if 300 < line.length then (s, 500) else cmd1 s known line (zy jkv line)
def qE : List UInt8 → List UInt8
  | [] => []
  | c :: t => if c = 46 then t else c :: t
def jI (s : Ses) : List Ltr := s.to.map fun a => (s.frm, a, s.text)
def jjo (s : Ses) (line : List UInt8) : Ses :=
  if s.large = true ∨ 2000 < s.text.length + (qE line).length + 2 then ⟨s.step, s.frm, s.to, s.text, true⟩ else ⟨s.step, s.frm, s.to, s.text ++ qE line ++ [13, 10], s.large⟩
def jak (s : Ses) (line : List UInt8) : Ses × List Ltr := if line = [46] then (atS 1, jI s) else (jjo s line, [])
def qs (s : Ses) (known : List (List UInt8)) (line : List UInt8) : Ses × Int × List Ltr :=
  if s.step = 5 then (s, 0, []) else if s.step = 4 then ((jak s line).1, 0, (jak s line).2) else ((cmdM s known line).1, (cmdM s known line).2, [])
theorem jd1 {a : Adr} (h : qr a = true) : a.1.length + 1 + a.2.length ≤ 100 := by
  unfold qr jZ at h; simp only [decide_eq_true_eq] at h; split at h
  · cases h
  · split at h
    · cases h
    · omega
theorem jcS {a : Adr} : ∀ {l pre : List Adr}, jaf pre l = true → qr a = true → (pre ++ l).contains a = false → jaf pre (l ++ [a]) = true
  | [], pre, _, h2, h3 => by
    simp only [List.append_nil] at h3
    show (qr a && !(pre.contains a) && true) = true
    rw [h2, h3]; rfl
  | x :: l, pre, h1, h2, h3 => by
    simp only [jaf, Bool.and_eq_true] at h1; have h3' : (pre ++ [x] ++ l).contains a = false := by simpa using h3
    simp only [List.cons_append, jaf, Bool.and_eq_true]; exact ⟨h1.1, jcS h1.2 h2 h3'⟩
theorem jdF {a : Adr} : ∀ {l pre : List Adr}, jaf pre l = true → a ∈ l → qr a = true
  | [], _, _, h => by simp at h
  | x :: l, pre, h1, h => by
    simp only [jaf, Bool.and_eq_true] at h1
    rcases List.mem_cons.1 h with rfl | h
    · exact h1.1.1
    · exact jdF h1.2 h
theorem jgX {l : List Adr} {i : Nat} {x : Adr} (h : l[i]? = some x) : jaf (l.take i) (l.drop i) = (qr x && !((l.take i).contains x) && jaf (l.take (i + 1)) (l.drop (i + 1))) := by
  have hi : i < l.length := (List.getElem?_eq_some_iff.1 h).1; have e : l[i] = x := (List.getElem?_eq_some_iff.1 h).2; rw [List.drop_eq_getElem_cons hi, e, jbE h]; rfl
theorem jfp {t : List UInt8} {a : Adr} (h : jaP t = some a) : qr a = true := by
  unfold jaP at h; split at h
  · rename_i hc; simp only [Bool.and_eq_true] at hc; cases h; exact hc.2
  · cases h
theorem jfQ {k : Int} (h0 : 0 ≤ k) (h1 : k ≤ 1 ∨ k = 5) (h5 : k ≤ 5) : mayS (atS k) = true := by
  unfold mayS zj zT jac atS; have e4 : ¬ k = 4 := by omega
  have e2 : k < 2 ∨ 4 < k := by omega
  have e3 : k < 3 ∨ 4 < k := by omega
  simp [h0, h5, e4, e2, e3]
theorem zC {s : Ses} : mayS s = true ↔ 0 ≤ s.step ∧ s.step ≤ 5 ∧ zj s = true ∧ zT s = true ∧ jac s = true := by
  unfold mayS; simp only [Bool.and_eq_true, decide_eq_true_eq, and_assoc]
theorem jlu {s : Ses} (h : mayS s = true) (h4 : s.step ≠ 4) (known : List (List UInt8)) (line : List UInt8) : mayS (cmdM s known line).1 = true := by
  obtain ⟨p0, p5, ps, pg, pt⟩ := zC.1 h; have hT : s.text = [] ∧ s.large = false := by
    unfold jac at pt; rw [if_neg h4] at pt
    simpa using pt
  unfold cmdM; split
  · exact h
  · unfold cmd1; split
    · unfold vr; split
      · exact jfQ (by omega) (by omega) (by omega)
      · exact h
    · unfold cmd2; split
      · unfold jbc; split
        · rename_i h1; unfold jec; split
          · exact h
          · rename_i a ha; have hto : s.to = [] := by
              unfold zT at pg; rw [if_pos (by omega)] at pg
              simpa using pg
            refine zC.2 ⟨by simp, by simp, ?_, ?_, ?_⟩
            · simp [zj, jfp ha]
            · simp [zT, hto]
            · simp [jac, hT]
        · exact h
      · unfold cmd3; split
        · unfold jaa; split
          · rename_i h23; unfold jct; split
            · exact h
            · rename_i a ha; split
              · exact h
              · split
                · exact h
                · split
                  · exact h
                  · rename_i hn h5; have hd : jaf [] s.to = true := by
                      unfold zT at pg
                      rcases h23 with h2 | h3
                      · rw [if_pos (by omega)] at pg; have : s.to = [] := by simpa using pg
                        rw [this]; rfl
                      · rw [if_neg (by omega)] at pg; simp only [Bool.and_eq_true] at pg; exact pg.2
                    have hs : qr s.frm = true := by
                      unfold zj at ps; rw [if_neg (by omega)] at ps; exact ps
                    refine zC.2 ⟨by simp, by simp, ?_, ?_, ?_⟩
                    · simp [zj, hs]
                    · have := jcS (a := a) (pre := []) hd (jfp ha) (by simpa using hn)
                      simp [zT, this]
                      omega
                    · simp [jac, hT]
          · exact h
        · unfold jbh; split
          · unfold jdb; split
            · rename_i h3; have hs : qr s.frm = true := by
                unfold zj at ps; rw [if_neg (by omega)] at ps; exact ps
              have hg : (decide (1 ≤ s.to.length) && decide (s.to.length ≤ 5) && jaf [] s.to) = true := by
                unfold zT at pg; rw [if_neg (by omega)] at pg; exact pg
              refine zC.2 ⟨by simp, by simp, ?_, ?_, ?_⟩
              · simp [zj, hs]
              · simp only [zT]; rw [if_neg (by simp)]; exact hg
              · simp [jac, hT]
            · exact h
          · split
            · unfold jcj; split
              · exact h
              · exact jfQ (by omega) (by omega) (by omega)
            · split
              · exact h
              · split
                · exact jfQ (by omega) (by omega) (by omega)
                · exact h
end Go.Proofs.YtlfgemnmfhknfaaGreatDoor
