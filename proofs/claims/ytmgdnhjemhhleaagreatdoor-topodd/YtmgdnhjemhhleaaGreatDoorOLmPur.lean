/-
  Plain facts on sessions (chapter 12). No program is named here.
-/
import Derived.Test.YtmgdnhjemhhleaaGreatDoorOQScrRd135
namespace Go.Proofs.YtmgdnhjemhhleaaGreatDoor
open Go.RowKit
structure Ses where
 step : Int
 frm : Adr
 to : List Adr
 text : List UInt8
 large : Bool
abbrev Ltr := Adr × Adr × List UInt8
def qr (a : Adr) : Bool := decide (jS a.1 a.2 = 0)
def jaj : List Adr → List Adr → Bool
 | _, [] => true
 | pre, x :: t => qr x && !(pre.contains x) && jaj (pre ++ [x]) t
def zl (s : Ses) : Bool := if s.step < 2 ∨ 4 < s.step then s.frm.1.isEmpty && s.frm.2.isEmpty else qr s.frm
def zS (s : Ses) : Bool := if s.step < 3 ∨ 4 < s.step then s.to.isEmpty else decide (1 ≤ s.to.length) && decide (s.to.length ≤ 5) && jaj [] s.to
def vv (s : Ses) : Bool := if s.step = 4 then decide (s.text.length ≤ 2000) else s.text.isEmpty && !s.large
def mayS (s : Ses) : Bool := decide (0 ≤ s.step) && decide (s.step ≤ 5) && (zl s && zS s && vv s)
def atS (k : Int) : Ses := ⟨k, ([], []), [], [], false⟩
def zw (word line : List UInt8) : Option (List UInt8) := if lowL (line.take word.length) = word then some (line.drop word.length) else none
def jcI (t : List UInt8) : Bool := decide (2 ≤ t.length) && t.head? == some 60 && t.getLast? == some 62
def jcT (t : List UInt8) : List UInt8 := (t.drop 1).dropLast
def jaT (t : List UInt8) : Option Adr :=
 if jcI t && (Lib.cut (jcT t) [64]).2.2 && qr ((Lib.cut (jcT t) [64]).1, (Lib.cut (jcT t) [64]).2.1) then some ((Lib.cut (jcT t) [64]).1, (Lib.cut (jcT t) [64]).2.1) else none
def jli : List UInt8 := [108, 104, 108, 111, 32]
def jlj : List UInt8 := [109, 97, 105, 108, 32, 102, 114, 111, 109, 58]
def jlm : List UInt8 := [114, 99, 112, 116, 32, 116, 111, 58]
def jlh : List UInt8 := [100, 97, 116, 97]
def jln : List UInt8 := [114, 115, 101, 116]
def jlk : List UInt8 := [110, 111, 111, 112]
def jll : List UInt8 := [113, 117, 105, 116]
def jay (s : Ses) (t : List UInt8) : Ses × Int := if qr ([120], t) then (atS 1, 250) else (s, 501)
def jiQ (s : Ses) : Option Adr → Ses × Int
 | none => (s, 501)
 | some a => (⟨2, a, s.to, s.text, s.large⟩, 250)
def jcw (s : Ses) (t : List UInt8) : Ses × Int := if s.step = 1 then jiQ s (jaT t) else (s, 503)
def jge (s : Ses) (known : List (List UInt8)) : Option Adr → Ses × Int
 | none => (s, 501)
 | some a => if known.contains a.1 = false then (s, 550) else if s.to.contains a then (s, 250) else if 5 ≤ s.to.length then (s, 452) else (⟨3, s.frm, s.to ++ [a], s.text, s.large⟩, 250)
def jaH (s : Ses) (known : List (List UInt8)) (t : List UInt8) : Ses × Int := if s.step = 2 ∨ s.step = 3 then jge s known (jaT t) else (s, 503)
def jdo (s : Ses) : Ses × Int := if s.step = 3 then (⟨4, s.frm, s.to, s.text, s.large⟩, 354) else (s, 503)
def jdG (s : Ses) : Ses := if s.step = 0 then s else atS 1
def jcE (s : Ses) (line : List UInt8) : Ses × Int :=
 if lowL line = jlh then jdo s else if lowL line = jln then (jdG s, 250) else if lowL line = jlk then (s, 250) else if lowL line = jll then (atS 5, 221) else (s, 500)
def cmd3 (s : Ses) (known : List (List UInt8)) (line : List UInt8) : Option (List UInt8) → Ses × Int
 | some t => jaH s known t
 | none => jcE s line
def cmd2 (s : Ses) (known : List (List UInt8)) (line : List UInt8) : Option (List UInt8) → Ses × Int
 | some t => jcw s t
 | none => cmd3 s known line (zw jlm line)
def cmd1 (s : Ses) (known : List (List UInt8)) (line : List UInt8) : Option (List UInt8) → Ses × Int
 | some t => jay s t
 | none => cmd2 s known line (zw jlj line)
def cmdM (s : Ses) (known : List (List UInt8)) (line : List UInt8) : Ses × Int := if 300 < line.length then (s, 500) else cmd1 s known line (zw jli line)
def qO : List UInt8 → List UInt8
 | [] => []
 | c :: t => if c = 46 then t else c :: t
def jF (s : Ses) : List Ltr := s.to.map fun a => (s.frm, a, s.text)
def jhv (s : Ses) (line : List UInt8) : Ses :=
 if s.large = true ∨ 2000 < s.text.length + (qO line).length + 2 then ⟨s.step, s.frm, s.to, s.text, true⟩ else ⟨s.step, s.frm, s.to, s.text ++ qO line ++ [13, 10], s.large⟩
def vy (s : Ses) (line : List UInt8) : Ses × List Ltr := if line = [46] then (atS 1, jF s) else (jhv s line, [])
def jH (s : Ses) (known : List (List UInt8)) (line : List UInt8) : Ses × Int × List Ltr :=
 if s.step = 5 then (s, 0, []) else if s.step = 4 then ((vy s line).1, 0, (vy s line).2) else ((cmdM s known line).1, (cmdM s known line).2, [])
theorem jdZ {a : Adr} (h : qr a = true) : a.1.length + 1 + a.2.length ≤ 100 := by
 unfold qr jS at h; simp only [decide_eq_true_eq] at h; split at h
 · cases h
 · split at h
   · cases h
   · omega
theorem jcN {a : Adr} : ∀ {l pre : List Adr}, jaj pre l = true → qr a = true → (pre ++ l).contains a = false → jaj pre (l ++ [a]) = true
 | [], pre, _, h2, h3 => by
   simp only [List.append_nil] at h3
   show (qr a && !(pre.contains a) && true) = true
   rw [h2, h3]; rfl
 | x :: l, pre, h1, h2, h3 => by
   simp only [jaj, Bool.and_eq_true] at h1; have h3' : (pre ++ [x] ++ l).contains a = false := by simpa using h3
   simp only [List.cons_append, jaj, Bool.and_eq_true]; exact ⟨h1.1, jcN h1.2 h2 h3'⟩
theorem jd6 {a : Adr} : ∀ {l pre : List Adr}, jaj pre l = true → a ∈ l → qr a = true
 | [], _, _, h => by simp at h
 | x :: l, pre, h1, h => by
   simp only [jaj, Bool.and_eq_true] at h1
   rcases List.mem_cons.1 h with rfl | h
   · exact h1.1.1
   · exact jd6 h1.2 h
theorem jgJ {l : List Adr} {i : Nat} {x : Adr} (h : l[i]? = some x) : jaj (l.take i) (l.drop i) = (qr x && !((l.take i).contains x) && jaj (l.take (i + 1)) (l.drop (i + 1))) := by
 have hi : i < l.length := (List.getElem?_eq_some_iff.1 h).1; have e : l[i] = x := (List.getElem?_eq_some_iff.1 h).2; rw [List.drop_eq_getElem_cons hi, e, jcj h]; rfl
theorem jfU {t : List UInt8} {a : Adr} (h : jaT t = some a) : qr a = true := by
 unfold jaT at h; split at h
 · rename_i hc; simp only [Bool.and_eq_true] at hc; cases h; exact hc.2
 · cases h
theorem jcX {k : Int} (h0 : 0 ≤ k) (h1 : k ≤ 1 ∨ k = 5) (h5 : k ≤ 5) : mayS (atS k) = true := by
 unfold mayS zl zS vv atS; have e4 : ¬ k = 4 := by omega
 have e2 : k < 2 ∨ 4 < k := by omega
 have e3 : k < 3 ∨ 4 < k := by omega
 simp [h0, h5, e4, e2, e3]
theorem j6 {s : Ses} : mayS s = true ↔ 0 ≤ s.step ∧ s.step ≤ 5 ∧ zl s = true ∧ zS s = true ∧ vv s = true := by
 unfold mayS; simp only [Bool.and_eq_true, decide_eq_true_eq, and_assoc]
theorem jmn {s : Ses} (h : mayS s = true) (h4 : s.step ≠ 4) (known : List (List UInt8)) (line : List UInt8) : mayS (cmdM s known line).1 = true := by
 obtain ⟨p0, p5, ps, pg, pt⟩ := j6.1 h; have hT : s.text = [] ∧ s.large = false := by
  unfold vv at pt; rw [if_neg h4] at pt
  simpa using pt
 unfold cmdM; split
 · exact h
 · unfold cmd1; split
   · unfold jay; split
     · exact jcX (by omega) (by omega) (by omega)
     · exact h
   · unfold cmd2; split
     · unfold jcw; split
       · rename_i h1; unfold jiQ; split
         · exact h
         · rename_i a ha; have hto : s.to = [] := by
            unfold zS at pg; rw [if_pos (by omega)] at pg
            simpa using pg
           refine j6.2 ⟨by simp, by simp, ?_, ?_, ?_⟩
           · simp [zl, jfU ha]
           · simp [zS, hto]
           · simp [vv, hT]
       · exact h
     · unfold cmd3; split
       · unfold jaH; split
         · rename_i h23; unfold jge; split
           · exact h
           · rename_i a ha; split
             · exact h
             · split
               · exact h
               · split
                 · exact h
                 · rename_i hn h5; have hd : jaj [] s.to = true := by
                     unfold zS at pg
                     rcases h23 with h2 | h3
                     · rw [if_pos (by omega)] at pg; have : s.to = [] := by simpa using pg
                       rw [this]; rfl
                     · rw [if_neg (by omega)] at pg; simp only [Bool.and_eq_true] at pg; exact pg.2
                   have hs : qr s.frm = true := by
                     unfold zl at ps; rw [if_neg (by omega)] at ps; exact ps
                   refine j6.2 ⟨by simp, by simp, ?_, ?_, ?_⟩
                   · simp [zl, hs]
                   · have := jcN (a := a) (pre := []) hd (jfU ha) (by simpa using hn)
                     simp [zS, this]
                     omega
                   · simp [vv, hT]
         · exact h
       · unfold jcE; split
         · unfold jdo; split
           · rename_i h3; have hs : qr s.frm = true := by
              unfold zl at ps; rw [if_neg (by omega)] at ps; exact ps
             have hg : (decide (1 ≤ s.to.length) && decide (s.to.length ≤ 5) && jaj [] s.to) = true := by
              unfold zS at pg; rw [if_neg (by omega)] at pg; exact pg
             refine j6.2 ⟨by simp, by simp, ?_, ?_, ?_⟩
             · simp [zl, hs]
             · simp only [zS]; rw [if_neg (by simp)]; exact hg
             · simp [vv, hT]
           · exact h
         · split
           · unfold jdG; split
             · exact h
             · exact jcX (by omega) (by omega) (by omega)
           · split
             · exact h
             · split
               · exact jcX (by omega) (by omega) (by omega)
               · exact h
theorem jkt {s : Ses} (h : mayS s = true) (h4 : s.step = 4) (line : List UInt8) : mayS (vy s line).1 = true := by
 obtain ⟨p0, p5, ps, pg, pt⟩ := j6.1 h; unfold vy; split
 · exact jcX (by omega) (by omega) (by omega)
 · show mayS (jhv s line) = true
   unfold jhv; split
   · exact j6.2 ⟨p0, p5, ps, pg, by unfold vv at pt ⊢; rw [if_pos h4] at pt; simpa [h4] using pt⟩
   · rename_i hl; refine j6.2 ⟨p0, p5, ps, pg, ?_⟩; unfold vv; simp only [h4, if_true]
     simp
     omega
theorem jku {s : Ses} (h : mayS s = true) (known : List (List UInt8)) (line : List UInt8) : mayS (jH s known line).1 = true := by
 unfold jH; split
 · exact h
 · split
   · rename_i h4; exact jkt h h4 line
   · rename_i h4; exact jmn h h4 known line
end Go.Proofs.YtmgdnhjemhhleaaGreatDoor
