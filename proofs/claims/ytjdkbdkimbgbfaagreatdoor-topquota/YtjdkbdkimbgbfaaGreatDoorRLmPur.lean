/-
  Plain facts on sessions (chapter 12). No program is named here.
-/
import Derived.Test.YtjdkbdkimbgbfaaGreatDoorRQScrRd117
namespace Go.Proofs.YtjdkbdkimbgbfaaGreatDoor
open Go.RowKit
variable {a : Adr}
structure Ses where
 step : Int
 frm : Adr
 to : List Adr
 text : List UInt8
 large : Bool
abbrev Ltr := Adr × Adr × List UInt8
def qH (a : Adr) : Bool := decide (jP a.1 a.2 = 0)
def ja4 : List Adr -> List Adr -> Bool
 | _, [] => true
 | pre, x :: t => qH x && !(pre.contains x) && ja4 (pre ++ [x]) t
def zw (s : Ses) : Bool := if s.step < 2 ∨ 4 < s.step then s.frm.1.isEmpty && s.frm.2.isEmpty else qH s.frm
def qi (s : Ses) : Bool := if s.step < 3 ∨ 4 < s.step then s.to.isEmpty else decide (1 <= s.to.length) && decide (s.to.length <= 5) && ja4 [] s.to
def vX (s : Ses) : Bool := if s.step = 4 then decide (s.text.length <= 2000) else s.text.isEmpty && !s.large
def mayS (s : Ses) : Bool := decide (0 <= s.step) && decide (s.step <= 5) && (zw s && qi s && vX s)
def atS (k : Int) : Ses := ⟨k, ([], []), [], [], false⟩
def zG (word line : List UInt8) : Option (List UInt8) := if lowL (line.take word.length) = word then some (line.drop word.length) else none
def jdq (t : List UInt8) : Bool := decide (2 <= t.length) && t.head? == some 60 && t.getLast? == some 62
def jdB (t : List UInt8) : List UInt8 := (t.drop 1).dropLast
def jbG (t : List UInt8) : Option Adr :=
 if jdq t && (Lib.cut (jdB t) [64]).2.2 && qH ((Lib.cut (jdB t) [64]).1, (Lib.cut (jdB t) [64]).2.1) then some ((Lib.cut (jdB t) [64]).1, (Lib.cut (jdB t) [64]).2.1) else none
def jom : List UInt8 := [108, 104, 108, 111, 32]
def jon : List UInt8 := [109, 97, 105, 108, 32, 102, 114, 111, 109, 58]
def joq : List UInt8 := [114, 99, 112, 116, 32, 116, 111, 58]
def jol : List UInt8 := [100, 97, 116, 97]
def jor : List UInt8 := [114, 115, 101, 116]
def joo : List UInt8 := [110, 111, 111, 112]
def jop : List UInt8 := [113, 117, 105, 116]
def jbh (s : Ses) (t : List UInt8) : Ses × Int := if qH ([120], t) then (atS 1, 250) else (s, 501)
def jk5 (s : Ses) : Option Adr -> Ses × Int
 | none => (s, 501)
 | some a => (⟨2, a, s.to, s.text, s.large⟩, 250)
def jde (s : Ses) (t : List UInt8) : Ses × Int := if s.step = 1 then jk5 s (jbG t) else (s, 503)
def jh1 (s : Ses) (known : List (List UInt8)) : Option Adr -> Ses × Int
 | none => (s, 501)
 | some a => if known.contains a.1 = false then (s, 550) else if s.to.contains a then (s, 250) else if 5 <= s.to.length then (s, 452) else (⟨3, s.frm, s.to ++ [a], s.text, s.large⟩, 250)
def jbs (s : Ses) (known : List (List UInt8)) (t : List UInt8) : Ses × Int := if s.step = 2 ∨ s.step = 3 then jh1 s known (jbG t) else (s, 503)
def jd4 (s : Ses) : Ses × Int := if s.step = 3 then (⟨4, s.frm, s.to, s.text, s.large⟩, 354) else (s, 503)
def jet (s : Ses) : Ses := if s.step = 0 then s else atS 1
def jdn (s : Ses) (line : List UInt8) : Ses × Int :=
 if lowL line = jol then jd4 s else if lowL line = jor then (jet s, 250) else if lowL line = joo then (s, 250) else if lowL line = jop then (atS 5, 221) else (s, 500)
def cmd3 (s : Ses) (known : List (List UInt8)) (line : List UInt8) : Option (List UInt8) -> Ses × Int
 | some t => jbs s known t
 | none => jdn s line
def cmd2 (s : Ses) (known : List (List UInt8)) (line : List UInt8) : Option (List UInt8) -> Ses × Int
 | some t => jde s t
 | none => cmd3 s known line (zG joq line)
def cmd1 (s : Ses) (known : List (List UInt8)) (line : List UInt8) : Option (List UInt8) -> Ses × Int
 | some t => jbh s t
 | none => cmd2 s known line (zG jon line)
def cmdM (s : Ses) (known : List (List UInt8)) (line : List UInt8) : Ses × Int := if 300 < line.length then (s, 500) else cmd1 s known line (zG jom line)
def zD : List UInt8 -> List UInt8
 | [] => []
 | c :: t => if c = 46 then t else c :: t
def jM (s : Ses) : List Ltr := s.to.map fun a => (s.frm, a, s.text)
def jg0 (s : Ses) (line : List UInt8) : Ses :=
 if s.large = true ∨ 2000 < s.text.length + (zD line).length + 2 then ⟨s.step, s.frm, s.to, s.text, true⟩ else ⟨s.step, s.frm, s.to, s.text ++ zD line ++ [13, 10], s.large⟩
def vY (s : Ses) (line : List UInt8) : Ses × List Ltr := if line = [46] then (atS 1, jM s) else (jg0 s line, [])
def js (s : Ses) (known : List (List UInt8)) (line : List UInt8) : Ses × Int × List Ltr :=
 if s.step = 5 then (s, 0, []) else if s.step = 4 then ((vY s line).1, 0, (vY s line).2) else ((cmdM s known line).1, (cmdM s known line).2, [])
theorem jeY (h : qH a = true) : a.1.length + 1 + a.2.length <= 100 := by
 unfold qH jP at h; simp only [decide_eq_true_eq] at h; split at h
 . cases h
 . split at h
   . cases h
   . omega
theorem jdv {a : Adr} : ∀ {l pre : List Adr}, ja4 pre l = true -> qH a = true -> (pre ++ l).contains a = false -> ja4 pre (l ++ [a]) = true
 | [], pre, _, h2, h3 => by
   simp only [bO] at h3
   show (qH a && !(pre.contains a) && true) = true
   rw [h2, h3]; rfl
 | x :: l, pre, h1, h2, h3 => by
   simp only [ja4, aX] at h1; have ue : (pre ++ [x] ++ l).contains a = false := by simpa using h3
   simp only [bL, ja4, aX]; exact ⟨h1.1, jdv h1.2 h2 ue⟩
theorem je9 {a : Adr} : ∀ {l pre : List Adr}, ja4 pre l = true -> a ∈ l -> qH a = true
 | [], _, _, h => by simp at h
 | x :: l, pre, h1, h => by
   simp only [ja4, aX] at h1
   rcases bV.1 h with rfl | h
   . exact h1.1.1
   . exact je9 h1.2 h
theorem jiz {l : List Adr} {i : Nat} {x : Adr} (h : l[i]? = some x) : ja4 (l.take i) (l.drop i) = (qH x && !((l.take i).contains x) && ja4 (l.take (i + 1)) (l.drop (i + 1))) := by
 have hi : i < l.length := (au.1 h).1; have e : l[i] = x := (au.1 h).2; rw [aT hi, e, jax h]; rfl
theorem jhu {t : List UInt8} (h : jbG t = some a) : qH a = true := by
 unfold jbG at h; split at h
 . rename_i hc; simp only [aX] at hc; cases h; exact hc.2
 . cases h
theorem jbm {k : Int} (h0 : 0 <= k) (h1 : k <= 1 ∨ k = 5) (h5 : k <= 5) : mayS (atS k) = true := by
 unfold mayS zw qi vX atS; have e4 : ¬ k = 4 := by omega
 have e2 : k < 2 ∨ 4 < k := by omega
 have e3 : k < 3 ∨ 4 < k := by omega
 simp [h0, h5, e4, e2, e3]
theorem zb {s : Ses} : mayS s = true ↔ 0 <= s.step /\ s.step <= 5 /\ zw s = true /\ qi s = true /\ vX s = true := by
 unfold mayS; simp only [aX, decide_eq_true_eq, and_assoc]
theorem jpQ {s : Ses} (h : mayS s = true) (h4 : s.step ≠ 4) (known : List (List UInt8)) (line : List UInt8) : mayS (cmdM s known line).1 = true := by
 obtain ⟨p0, p5, ps, pg, pt⟩ := zb.1 h; have hT : s.text = [] /\ s.large = false := by
  unfold vX at pt; rw [if_neg h4] at pt
  simpa using pt
 unfold cmdM; split
 . exact h
 . unfold cmd1; split
   . unfold jbh; split
     . exact jbm (by omega) (by omega) (by omega)
     . exact h
   . unfold cmd2; split
     . unfold jde; split
       . rename_i h1; unfold jk5; split
         . exact h
         . rename_i a ha; have wG : s.to = [] := by
            unfold qi at pg; rw [if_pos (by omega)] at pg
            simpa using pg
           refine zb.2 ⟨by simp, by simp, ?_, ?_, ?_⟩
           . simp [zw, jhu ha]
           . simp [qi, wG]
           . simp [vX, hT]
       . exact h
     . unfold cmd3; split
       . unfold jbs; split
         . rename_i mg; unfold jh1; split
           . exact h
           . rename_i a ha; split
             . exact h
             . split
               . exact h
               . split
                 . exact h
                 . rename_i hn h5; have hd : ja4 [] s.to = true := by
                     unfold qi at pg
                     rcases mg with h2 | h3
                     . rw [if_pos (by omega)] at pg; have : s.to = [] := by simpa using pg
                       rw [this]; rfl
                     . rw [if_neg (by omega)] at pg; simp only [aX] at pg; exact pg.2
                   have hs : qH s.frm = true := by
                     unfold zw at ps; rw [if_neg (by omega)] at ps; exact ps
                   refine zb.2 ⟨by simp, by simp, ?_, ?_, ?_⟩
                   . simp [zw, hs]
                   . have := jdv (a := a) (pre := []) hd (jhu ha) (by simpa using hn)
                     simp [qi, this]
                     omega
                   . simp [vX, hT]
         . exact h
       . unfold jdn; split
         . unfold jd4; split
           . rename_i h3; have hs : qH s.frm = true := by
              unfold zw at ps; rw [if_neg (by omega)] at ps; exact ps
             have hg : (decide (1 <= s.to.length) && decide (s.to.length <= 5) && ja4 [] s.to) = true := by
              unfold qi at pg; rw [if_neg (by omega)] at pg; exact pg
             refine zb.2 ⟨by simp, by simp, ?_, ?_, ?_⟩
             . simp [zw, hs]
             . simp only [qi]; rw [if_neg (by simp)]; exact hg
             . simp [vX, hT]
           . exact h
         . split
           . unfold jet; split
             . exact h
             . exact jbm (by omega) (by omega) (by omega)
           . split
             . exact h
             . split
               . exact jbm (by omega) (by omega) (by omega)
               . exact h
theorem jnv {s : Ses} (h : mayS s = true) (h4 : s.step = 4) (line : List UInt8) : mayS (vY s line).1 = true := by
 obtain ⟨p0, p5, ps, pg, pt⟩ := zb.1 h; unfold vY; split
 . exact jbm (by omega) (by omega) (by omega)
 . show mayS (jg0 s line) = true
   unfold jg0; split
   . exact zb.2 ⟨p0, p5, ps, pg, by unfold vX at pt ⊢; rw [if_pos h4] at pt; simpa [h4] using pt⟩
   . rename_i hl; refine zb.2 ⟨p0, p5, ps, pg, ?_⟩; unfold vX; simp only [h4, if_true]
     simp
     omega
theorem jnw {s : Ses} (h : mayS s = true) (known : List (List UInt8)) (line : List UInt8) : mayS (js s known line).1 = true := by
 unfold js; split
 . exact h
 . split
   . rename_i h4; exact jnv h h4 line
   . rename_i h4; exact jpQ h h4 known line
end Go.Proofs.YtjdkbdkimbgbfaaGreatDoor
