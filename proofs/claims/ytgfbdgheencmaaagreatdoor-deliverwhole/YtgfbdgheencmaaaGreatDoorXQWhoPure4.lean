/-
  Plain facts on addresses: what may be in an atom, what is dotted, how a list of addresses is read. No program is named here.
-/
import Derived.Test.YtgfbdgheencmaaaGreatDoorXQBx3
import Derived.Lib.Strings
import Derived.Deep.Draws
import Derived.Test.YtgfbdgheencmaaaGreatDoorRows
namespace Go.Proofs.YtgfbdgheencmaaaGreatDoor
open Go.RowKit
def marksL : List UInt8 := [33, 35, 36, 37, 38, 39, 42, 43, 45, 47, 61, 63, 94, 95, 96, 123, 124, 125, 126]
def qp (c : UInt8) : Bool := (decide (97 ≤ c.toNat) && decide (c.toNat ≤ 122)) || (decide (65 ≤ c.toNat) && decide (c.toNat ≤ 90)) || (decide (48 ≤ c.toNat) && decide (c.toNat ≤ 57)) || marksL.contains c
def runB (c : UInt8) : Bool := c == 46 || qp c
def dotS : Bool → List UInt8 → Bool
 | b, [] => !b
 | b, c :: t => if c = 46 then !b && dotS true t else qp c && dotS false t
def za (l : List UInt8) : Bool := dotS true l
def jaG (l : List UInt8) : Bool := !l.isEmpty && l.all qp
theorem jhh {p : List UInt8} (h : 46 ∉ p) (b : Bool) : dotS b p = if p.isEmpty then !b else p.all qp := by
 induction p generalizing b with
 | nil => simp [dotS]
 | cons c t ih =>
   simp only [List.mem_cons, not_or] at h; have hc : ¬ c = 46 := fun e => h.1 e.symm
   simp only [dotS, if_neg hc, ih h.2, List.isEmpty_cons, List.all_cons]; cases t <;> simp
theorem jk1 {p : List UInt8} (h : 46 ∉ p) (b : Bool) (t : List UInt8) : dotS b (p ++ 46 :: t) = ((if p.isEmpty then !b else p.all qp) && dotS true t) := by
 induction p generalizing b with
 | nil => simp [dotS]
 | cons c u ih =>
   simp only [List.mem_cons, not_or] at h; have hc : ¬ c = 46 := fun e => h.1 e.symm
   simp only [List.cons_append, dotS, if_neg hc, ih h.2, List.isEmpty_cons, List.all_cons]; cases u <;> simp [Bool.and_assoc]
theorem vL {p : List UInt8} (h : 46 ∉ p) : za p = jaG p := by
 unfold za jaG; rw [jhh h]; cases p <;> simp
theorem jc0 {p : List UInt8} (h : 46 ∉ p) (t : List UInt8) : za (p ++ 46 :: t) = (jaG p && za t) := by
 unfold za jaG; rw [jk1 h]; cases p <;> simp
def jK (l d : List UInt8) : Int := if (za l && za d) = false then 3 else if 100 < l.length + 1 + d.length then 1 else 0
def jH (s : List UInt8) : List UInt8 := s.dropWhile jD
def wrun (s : List UInt8) : List UInt8 := s.takeWhile runB
def ze (s : List UInt8) : List UInt8 := s.dropWhile runB
theorem jaa (s : List UInt8) : wrun s ++ ze s = s := List.takeWhile_append_dropWhile
theorem j9 (s : List UInt8) : (jH s).length ≤ s.length := (List.dropWhile_suffix _).length_le
theorem qX (s : List UInt8) : (ze s).length ≤ s.length := (List.dropWhile_suffix _).length_le
abbrev Adr := List UInt8 × List UInt8
def zG (c : UInt8) : List UInt8 → Option (List UInt8)
 | [] => none
 | x :: t => if x = c then some t else none
theorem zP {c : UInt8} {s r : List UInt8} (h : zG c s = some r) : s = c :: r := by
 cases s with
 | nil => cases h
 | cons x t =>
   by_cases e : x = c
   · simp only [zG, if_pos e, Option.some.injEq] at h; rw [e, h]
   · simp only [zG, if_neg e] at h; cases h
def zf : Bool → List UInt8 → Option (List UInt8)
 | _, [] => none
 | true, c :: t => if c = 34 ∨ c = 92 then zf false t else none
 | false, c :: t => if c = 34 then some t else if c = 92 then zf true t else zf false t
theorem jaj {b : Bool} {s r : List UInt8} (h : zf b s = some r) : r.length < s.length := by
 induction s generalizing b with
 | nil => cases b <;> cases h
 | cons c t ih =>
   cases b with
   | true =>
     unfold zf at h; split at h
     · have := ih h; simp; omega
     · cases h
   | false =>
     unfold zf at h; split at h
     · cases h; simp
     · split at h <;> (have := ih h; simp; omega)
def zO (s : List UInt8) : Option (Adr × List UInt8) :=
 match zG 64 (ze s) with
 | none => none
 | some r => if jK (wrun s) (wrun r) = 0 then some ((wrun s, wrun r), ze r) else none
theorem jdc {s r : List UInt8} {a : Adr} (h : zO s = some (a, r)) : r.length ≤ s.length := by
 unfold zO at h; split at h
 · cases h
 · rename_i r' hr; split at h
   · cases h; have h1 := zP hr; have h2 := qX s; rw [h1] at h2; have h3 := qX r'
     simp at h2; omega
   · cases h
def vD : Nat → List UInt8 → Option (List UInt8)
 | 0, s => some s
 | _ + 1, [] => some []
 | n + 1, c :: t =>
   if c = 34 then (zf false t).bind fun r => vD n (jH r)
   else if runB c then vD n (jH (ze t)) else some (c :: t)
theorem jcD : ∀ (n m : Nat) (s : List UInt8), s.length ≤ n → s.length ≤ m → vD n s = vD m s := by
 intro n
 induction n with
 | zero =>
   intro m s h1 _; have e : s = [] := List.length_eq_zero_iff.1 (by omega); subst e; cases m <;> rfl
 | succ n ih =>
   intro m s h1 h2; cases s with
   | nil => cases m <;> rfl
   | cons c t =>
     cases m with
     | zero => simp at h2
     | succ m =>
       simp only [List.length_cons] at h1 h2; have h3 := qX t; have h4 := j9 (ze t); simp only [vD]; rw [ih m (jH (ze t)) (by omega) (by omega)]; cases hq : zf false t with
       | none => rfl
       | some q =>
         have k1 := jaj hq; have k2 := j9 q; simp only [Option.bind_some]; rw [ih m (jH q) (by omega) (by omega)]
def zV (s : List UInt8) : Option (List UInt8) := vD s.length s
theorem jbi : zV [] = some [] := rfl
theorem jbu (t : List UInt8) : zV (34 :: t) = (zf false t).bind fun r => zV (jH r) := by
 show vD (t.length + 1) (34 :: t) = _
 simp only [vD, if_true]; cases hq : zf false t with
 | none => rfl
 | some q =>
   have k1 := jaj hq; have k2 := j9 q; exact jcD _ _ _ (by omega) (Nat.le_refl _)
theorem jdo {c : UInt8} {t : List UInt8} (h : c ≠ 34) (hr : runB c = true) : zV (c :: t) = zV (jH (ze (c :: t))) := by
 have e : ze (c :: t) = ze t := by unfold ze; rw [List.dropWhile_cons, if_pos hr]
 have h3 := qX t; have h4 := j9 (ze t); rw [e]
 show vD (t.length + 1) (c :: t) = _
 simp only [vD, if_neg h, if_pos hr]; exact jcD _ _ _ (by omega) (Nat.le_refl _)
theorem jcE {c : UInt8} {t : List UInt8} (h : c ≠ 34) (hr : runB c = false) : zV (c :: t) = some (c :: t) := by
 show vD (t.length + 1) (c :: t) = _
 simp [vD, if_neg h, hr]
theorem jdn (n : Nat) : ∀ (s r : List UInt8), s.length ≤ n → zV s = some r → r.length ≤ s.length := by
 induction n with
 | zero =>
   intro s r hn h; cases s with
   | nil => rw [jbi] at h; cases h; simp
   | cons c t => simp at hn
 | succ n ih =>
   intro s r hn h; cases s with
   | nil => rw [jbi] at h; cases h; simp
   | cons c t =>
     simp only [List.length_cons] at hn
     by_cases hc : c = 34
     · subst hc; rw [jbu] at h; cases hq : zf false t with
       | none => rw [hq] at h; cases h
       | some q =>
         rw [hq] at h; have h1 := jaj hq; have h2 := j9 q; have h3 := ih _ _ (by omega) h
         simp; omega
     · cases hr : runB c with
       | true =>
         rw [jdo hc hr] at h; have e : ze (c :: t) = ze t := by unfold ze; rw [List.dropWhile_cons, if_pos hr]
         rw [e] at h; have h1 := qX t; have h2 := j9 (ze t); have h3 := ih _ _ (by omega) h
         simp; omega
       | false =>
         rw [jcE hc hr] at h; cases h; simp
def jbp (s : List UInt8) : Option (Adr × List UInt8) :=
 (zV s).bind fun r => (zG 60 r).bind fun r => (zO r).bind fun x => (zG 62 x.2).map fun r => (x.1, r)
theorem jhP {s r : List UInt8} {a : Adr} (h : jbp s = some (a, r)) : r.length ≤ s.length := by
 unfold jbp at h; simp only [Option.bind_eq_some_iff, Option.map_eq_some_iff] at h; obtain ⟨r1, h1, r2, h2, ⟨a3, r3⟩, h3, r4, h4, h5⟩ := h; cases h5; have k1 := jdn _ _ _ (Nat.le_refl _) h1; have k2 := congrArg List.length (zP h2); have k3 := jdc h3; have k4 := congrArg List.length (zP h4)
 simp at k2 k4 k3; omega
def jJ (s : List UInt8) : Option (Adr × List UInt8) :=
 (if (zG 64 (ze (jH s))).isSome then zO (jH s) else jbp (jH s)).map fun x => (x.1, jH x.2)
theorem vF {s r : List UInt8} {a : Adr} (h : jJ s = some (a, r)) : r.length ≤ s.length := by
 unfold jJ at h; rw [Option.map_eq_some_iff] at h; obtain ⟨⟨a1, r1⟩, h1, h2⟩ := h; cases h2; have k1 := j9 s; have k2 := j9 r1; split at h1
 · have := jdc h1; simp only at *; omega
 · have := jhP h1; simp only at *; omega
def jbe : Nat → List UInt8 → Option (List Adr)
 | 0, _ => none
 | n + 1, s => (jJ s).bind fun x => if x.2 = [] then some [x.1] else (zG 44 x.2).bind fun r => (jbe n r).map (x.1 :: ·)
theorem jhF : ∀ (n m : Nat) (s : List UInt8), s.length < n → s.length < m → jbe n s = jbe m s := by
 intro n
 induction n with
 | zero => intro m s h1; omega
 | succ n ih =>
   intro m s h1 h2; cases m with
   | zero => omega
   | succ m =>
     simp only [jbe]; cases ha : jJ s with
     | none => rfl
     | some x =>
       have k1 := vF (a := x.1) (r := x.2) ha; simp only [Option.bind_some]; split
       · rfl
       · cases ht : zG 44 x.2 with
         | none => rfl
         | some r =>
           have k2 := congrArg List.length (zP ht); simp only [List.length_cons] at k2; simp only [Option.bind_some]; rw [ih m r (by omega) (by omega)]
def vl (s : List UInt8) : Option (List Adr) := jbe (s.length + 1) s
theorem jhH {s : List UInt8} (h : jJ s = none) : vl s = none := by
 unfold vl; simp only [jbe, h]; rfl
theorem jeG {s : List UInt8} {a : Adr} (h : jJ s = some (a, [])) : vl s = some [a] := by
 unfold vl; simp only [jbe, h]; rfl
theorem jjs {s r : List UInt8} {a : Adr} (h : jJ s = some (a, r)) (hr : r ≠ []) (h3 : zG 44 r = none) : vl s = none := by
 unfold vl; simp only [jbe, h, Option.bind_some, if_neg hr, h3]; rfl
theorem jhG {s r : List UInt8} {a : Adr} (h : jJ s = some (a, 44 :: r)) : vl s = (vl r).map (a :: ·) := by
 have k1 := vF h; simp only [List.length_cons] at k1
 show jbe (s.length + 1) s = (jbe (r.length + 1) r).map _
 have e : zG 44 (44 :: r) = some r := by simp [zG]
 rw [jbe, h, Option.bind_some, if_neg (by simp), e, Option.bind_some, jhF s.length (r.length + 1) r (by omega) (by omega)]
def zg (s : List UInt8) : List Adr × Int :=
 if 2000 < s.length then ([], 1) else match vl s with
    | none => ([], 3)
    | some l => if 20 < l.length then ([], 5) else (l, 0)
def wordy (l : List UInt8) : Prop := l ≠ [] ∧ l.length ≤ 8 ∧ ∀ c ∈ l, 97 ≤ c.toNat ∧ c.toNat ≤ 122
theorem jfL {c : UInt8} (h : 97 ≤ c.toNat ∧ c.toNat ≤ 122) : qp c = true := by unfold qp; simp [h.1, h.2]
def orgL : List UInt8 := [46, 111, 114, 103]
def letters (l : List UInt8) : Prop := ∀ c ∈ l, (97 ≤ c.toNat ∧ c.toNat ≤ 122) ∨ c = 46
theorem wordy.letters {l : List UInt8} (h : wordy l) : letters l := fun c hc => Or.inl (h.2.2 c hc)
theorem wordy.org {l : List UInt8} (h : wordy l) : Go.Proofs.YtgfbdgheencmaaaGreatDoor.letters (l ++ orgL) := by
 intro c hc
 rcases List.mem_append.1 hc with hc | hc
 · exact Or.inl (h.2.2 c hc)
 · simp [orgL] at hc
   rcases hc with rfl | rfl | rfl | rfl <;> decide
theorem jbv {l : List UInt8} (h : wordy l) : za l = true := by
 rw [vL (fun hc => by have := h.2.2 46 hc; simp at this)]; unfold jaG; obtain ⟨h1, _, h2⟩ := h; have e : l.isEmpty = false := by cases l <;> simp_all
 rw [e]; simp only [Bool.not_false, Bool.true_and, List.all_eq_true]; exact fun c hc => jfL (h2 c hc)
theorem jkC {l : List UInt8} (h : wordy l) : za (l ++ orgL) = true := by
 have e := jbv h; have h0 : 46 ∉ l := fun hc => by have := h.2.2 46 hc; simp at this
 rw [vL h0] at e
 show za (l ++ 46 :: [111, 114, 103]) = true
 rw [jc0 h0, e]
 decide
def lawful (a : Adr) : Prop := wordy a.1 ∧ ∃ d, wordy d ∧ a.2 = d ++ orgL
theorem lawful.check {a : Adr} (h : lawful a) : jK a.1 a.2 = 0 := by
 obtain ⟨h1, d, h2, h3⟩ := h; unfold jK; rw [h3, jbv h1, jkC h2]; have l1 := h1.2.1; have l2 := h2.2.1
 simp [orgL]
 omega
theorem lawful.len {a : Adr} (h : lawful a) : a.1.length ≤ 8 ∧ a.2.length ≤ 12 := by
 obtain ⟨h1, d, h2, h3⟩ := h; have l1 := h1.2.1; have l2 := h2.2.1; rw [h3]; simp [orgL]; omega
theorem lawful.letters {a : Adr} (h : lawful a) : letters a.1 ∧ Go.Proofs.YtgfbdgheencmaaaGreatDoor.letters a.2 := by
 obtain ⟨h1, d, h2, h3⟩ := h; rw [h3]; exact ⟨h1.letters, h2.org⟩
def jaD (a : Adr) : List UInt8 := a.1 ++ 64 :: a.2
theorem lawful.size {a : Adr} (h : lawful a) : (jaD a).length ≤ 21 := by
 have := h.len
 simp [jaD]; omega
structure Man where
 adr : Adr
 word : List UInt8
 kind : Nat
 sep : Nat
def Man.ok (x : Man) : Prop := lawful x.adr ∧ wordy x.word
open Go.Proofs
theorem jeP {s r : List UInt8} {a : Adr} (h : zO s = some (a, r)) : jK a.1 a.2 = 0 := by
 unfold zO at h; split at h
 · cases h
 · split at h
   · next hc => cases h; exact hc
   · cases h
theorem jbS {s r : List UInt8} {a : Adr} (h : jJ s = some (a, r)) : jK a.1 a.2 = 0 := by
 unfold jJ at h; rw [Option.map_eq_some_iff] at h; obtain ⟨⟨a1, r1⟩, h1, h2⟩ := h; cases h2; split at h1
 · exact jeP h1
 · unfold jbp at h1; simp only [Option.bind_eq_some_iff, Option.map_eq_some_iff] at h1; obtain ⟨r1, _, r2, _, ⟨a3, r3⟩, h3, r4, _, h5⟩ := h1; cases h5; exact jeP h3
theorem jeE : ∀ (n : Nat) (s : List UInt8) (l : List Adr), jbe n s = some l → ∀ x ∈ l, jK x.1 x.2 = 0 := by
 intro n
 induction n with
 | zero => intro s l h; cases h
 | succ n ih =>
   intro s l h x hx; simp only [jbe, Option.bind_eq_some_iff] at h; obtain ⟨⟨a, r⟩, h1, h2⟩ := h; split at h2
   · cases h2; rw [List.mem_singleton.1 hx]; exact jbS h1
   · simp only [Option.bind_eq_some_iff, Option.map_eq_some_iff] at h2; obtain ⟨r', _, l', h3, h4⟩ := h2; cases h4
     rcases List.mem_cons.1 hx with e | e
     · rw [e]; exact jbS h1
     · exact ih r' l' h3 x e
theorem jaQ {l d : List UInt8} (h : jK l d = 0) : l.length ≤ 100 ∧ d.length ≤ 100 := by
 unfold jK at h; split at h
 · cases h
 · split at h
   · cases h
   · omega
theorem jeF {s : List UInt8} {x : Adr} (h : x ∈ (zg s).1) : jK x.1 x.2 = 0 := by
 unfold zg at h; split at h
 · cases h
 · split at h
   · cases h
   · next l hl =>
     split at h
     · cases h
     · exact jeE _ _ _ hl x h
def flagTab : List (List UInt8 × Nat) := [([92, 83, 101, 101, 110], 1), ([92, 65, 110, 115, 119, 101, 114, 101, 100], 2), ([92, 70, 108, 97, 103, 103, 101, 100], 4), ([92, 68, 101, 108, 101, 116, 101, 100], 8), ([92, 68, 114, 97, 102, 116], 16)]
def jes : List (List UInt8 × Nat) → List UInt8 → Nat
 | [], _ => 0
 | x :: r, s => if x.1 = s then x.2 else jes r s
def ja9 (s : List UInt8) : Nat := jes flagTab s
def jaK : Nat → List (List UInt8) → Option Nat
 | n, [] => some n
 | n, s :: r => if ja9 s = 0 then none else jaK (n ||| ja9 s) r
def zR (l : List (List UInt8)) : Option Nat := jaK 0 l
theorem ji0 : ∀ (t : List (List UInt8 × Nat)) (s : List UInt8), (∀ x ∈ t, x.2 < 32) → jes t s < 32 := by
 intro t
 induction t with
 | nil => intro s _; show 0 < 32; omega
 | cons x t ih =>
   intro s h; unfold jes; split
   · exact h x (by simp)
   · exact ih s fun y hy => h y (by simp [hy])
theorem jgj (s : List UInt8) : ja9 s < 32 := ji0 _ _ (by decide)
theorem jmy {a b : Nat} (ha : a < 32) (hb : b < 32) : a ||| b < 32 := Nat.or_lt_two_pow (n := 5) ha hb
theorem ji1 : ∀ (l : List (List UInt8)) (n m : Nat), n < 32 → jaK n l = some m → m < 32 := by
 intro l
 induction l with
 | nil => intro n m hn h; cases h; exact hn
 | cons s l ih =>
   intro n m hn h; unfold jaK at h
   by_cases hf : ja9 s = 0
   · rw [if_pos hf] at h; cases h
   · rw [if_neg hf] at h; exact ih _ _ (jmy hn (jgj s)) h
def vR (c : UInt8) : Bool := decide (33 ≤ c.toNat) && decide (c.toNat ≤ 126)
def zQ (s : List UInt8) : Int := if s.length < 1 ∨ 12 < s.length then 1 else if s.all vR then 0 else 3
def jhl : List UInt8 := [102, 105, 108, 101, 105, 110, 116, 111]
def rejW : List UInt8 := [114, 101, 106, 101, 99, 116]
def envW : List UInt8 := [101, 110, 118, 101, 108, 111, 112, 101]
def flgW : List UInt8 := [105, 109, 97, 112, 52, 102, 108, 97, 103, 115]
def jnh : List UInt8 := [102, 114, 111, 109]
def toW : List UInt8 := [116, 111]
def extP (s : List UInt8) : Bool := decide (s = jhl) || decide (s = rejW) || decide (s = envW) || decide (s = flgW)
def zY (s : List UInt8) : Bool := decide (s = jnh) || decide (s = toW)
def jdN (k : Int) : List UInt8 := if k = 5 then jhl else if k = 7 then rejW else if k = 8 ∨ k = 9 then flgW else []
def hasP (H : List (List UInt8)) (s : List UInt8) : Bool := s.isEmpty || H.contains s
def zI (l : List (List UInt8)) : Bool := l.any fun s => decide (100 < s.length)
def envP (H : List (List UInt8)) (t : Tst) : Int := if hasP H envW = false then 8 else if t.names.all zY then 0 else 7
def tstA (H : List (List UInt8)) : Nat → Tst → Int
 | 0, _ => 0
 | n + 1, t => if t.kind = 8 ∧ envP H t ≠ 0 then envP H t else if zI t.names ∨ zI t.keys then 1 else jl (tstA H n) t.tests
def qk (s : List UInt8) : Int := if (zg s).2 = 0 ∧ (zg s).1.length = 1 then 0 else 3
def cmdA (H : List (List UInt8)) : Nat → Cmd → Int
 | 0, _ => 0
 | n + 1, c =>
   if hasP H (jdN c.kind) = false then 8
   else if c.kind = 1 then 3
   else if c.kind = 5 then zQ (c.texts.getD 0 [])
   else if c.kind = 8 ∨ c.kind = 9 then (if zR c.texts = none then 7 else 0)
   else if c.kind = 6 then qk (c.texts.getD 0 [])
   else if c.kind = 2 then
     (if tstA H n c.test ≠ 0 then tstA H n c.test
      else if jl (cmdA H n) c.thn ≠ 0 then jl (cmdA H n) c.thn
      else jl (cmdA H n) c.els)
   else 0
def zl : List Cmd → Nat
 | [] => 0
 | c :: r => if c.kind = 1 then zl r + 1 else 0
def jeT (l : List Cmd) : List (List UInt8) := (l.take (zl l)).flatMap (·.texts)
def jdV (n : Nat) (l : List Cmd) : Int :=
 if jZ n l ≠ 0 then jZ n l
 else if (jeT l).all extP = false then 7
 else jl (cmdA (jeT l) n) (l.drop (zl l))
def jgO : Nat → Tst → Prop
 | 0, _ => True
 | n + 1, t => zI t.names = false ∧ zI t.keys = false ∧ (t.kind = 8 → t.names.all zY = true) ∧ ∀ u ∈ t.tests, jgO n u
def jbw : Nat → Cmd → Prop
 | 0, _ => True
 | n + 1, c => c.kind ≠ 1 ∧ (c.kind = 5 → zQ (c.texts.getD 0 []) = 0) ∧ (c.kind = 8 ∨ c.kind = 9 → zR c.texts ≠ none) ∧ (c.kind = 6 → qk (c.texts.getD 0 []) = 0) ∧ jgO n c.test ∧ (∀ x ∈ c.thn, jbw n x) ∧ ∀ x ∈ c.els, jbw n x
theorem qs {A : Type} {f : A → Int} {l : List A} (h : ∀ x ∈ l, f x = 0) : jl f l = 0 := by
 induction l with
 | nil => rfl
 | cons x l ih =>
   unfold jl; rw [if_pos (h x (by simp))]; exact ih fun y hy => h y (by simp [hy])
theorem jmg {H : List (List UInt8)} (hH : hasP H envW = true) : ∀ (n : Nat) (t : Tst), jgO n t → tstA H n t = 0 := by
 intro n
 induction n with
 | zero => intro t _; rfl
 | succ n ih =>
   intro t h; obtain ⟨h1, h2, h3, h4⟩ := h; unfold tstA; have e1 : ¬(t.kind = 8 ∧ envP H t ≠ 0) := by
    rintro ⟨hk, he⟩
    apply he
    unfold envP; rw [if_neg (by rw [hH]; simp), if_pos (h3 hk)]
   rw [if_neg e1, if_neg (by rw [h1, h2]; simp)]; exact qs fun u hu => ih u (h4 u hu)
theorem jkR {H : List (List UInt8)} (h0 : hasP H envW = true) (h1 : hasP H jhl = true) (h2 : hasP H rejW = true) (h3 : hasP H flgW = true) : ∀ (n : Nat) (c : Cmd), jbw n c → cmdA H n c = 0 := by
 intro n
 induction n with
 | zero => intro t _; rfl
 | succ n ih =>
   intro c h; obtain ⟨k1, k2, k3, k4, k5, k6, k7⟩ := h; unfold cmdA; have hn : hasP H (jdN c.kind) = true := by
    unfold jdN; split
    · exact h1
    · split
      · exact h2
      · split
        · exact h3
        · rfl
   rw [if_neg (by rw [hn]; simp), if_neg k1]
   by_cases c5 : c.kind = 5
   · rw [if_pos c5]; exact k2 c5
   · rw [if_neg c5]
     by_cases c8 : c.kind = 8 ∨ c.kind = 9
     · rw [if_pos c8, if_neg (k3 c8)]
     · rw [if_neg c8]
       by_cases c6 : c.kind = 6
       · rw [if_pos c6]; exact k4 c6
       · rw [if_neg c6]
         by_cases c2 : c.kind = 2
         · rw [if_pos c2, if_neg (by rw [jmg h0 n _ k5]; simp), if_neg (by rw [qs fun u hu => ih u (k6 u hu)]; simp)]; exact qs fun u hu => ih u (k7 u hu)
         · rw [if_neg c2]
def reqT : List (List UInt8) := [[102, 105, 108, 101, 105, 110, 116, 111], [114, 101, 106, 101, 99, 116], [101, 110, 118, 101, 108, 111, 112, 101], [105, 109, 97, 112, 52, 102, 108, 97, 103, 115]]
def reqC : Cmd := ⟨1, reqT, jfS, [], []⟩
theorem jiP {n d : Nat} {l : List Cmd} (h : jO n d l = 0) : ∀ x ∈ l, jw n d x = 0 := by
 intro x hx; unfold jO at h
 induction l with
 | nil => cases hx
 | cons y l ih =>
   unfold jl at h
   by_cases hy : jw n d y = 0
   · rw [if_pos hy] at h
     rcases List.mem_cons.1 hx with e | e
     · rw [e]; exact hy
     · exact ih h e
   · rw [if_neg hy] at h; exact absurd h hy
theorem jlh {n d : Nat} {l : List Cmd} (h : ∀ x ∈ l, jw n d x = 0) : jO n d l = 0 := qs h
theorem jiz {n : Nat} {l : List Cmd} (h : ∀ x ∈ l, jw n 0 x = 0) : jZ n l = if 400 < (zt n l).length then 5 else 0 := by
 unfold jZ; rw [if_neg (by rw [jlh h]; simp)]
theorem jei {n : Nat} {l : List Cmd} (h : jZ n l = 0) : (∀ x ∈ l, jw n 0 x = 0) ∧ (zt n l).length ≤ 400 := by
 unfold jZ at h
 by_cases h1 : jO n 0 l = 0
 · rw [if_neg (by simpa using h1)] at h; refine ⟨jiP h1, ?_⟩
   rcases Nat.lt_or_ge 400 (zt n l).length with h2 | h2
   · rw [if_pos h2] at h; simp at h
   · exact h2
 · rw [if_pos h1] at h; exact absurd h h1
theorem jiR (n : Nat) : jw n 0 reqC = 0 := by cases n <;> rfl
theorem jgU {n : Nat} {r : List Cmd} (h : ∀ x ∈ r, jbw (n + 1) x) : zl r = 0 := by
 cases r with
 | nil => rfl
 | cons c r =>
   unfold zl; rw [if_neg (h c (by simp)).1]
theorem jeY {n : Nat} {r : List Cmd} (hc : jZ (n + 1) (reqC :: r) = 0) (hN : ∀ x ∈ r, jbw (n + 1) x) : jdV (n + 1) (reqC :: r) = 0 := by
 have ha : zl (reqC :: r) = 1 := by show zl r + 1 = 1; rw [jgU hN]
 have hr : jeT (reqC :: r) = reqT := by unfold jeT; rw [ha]; rfl
 unfold jdV; rw [if_neg (by rw [hc]; simp), hr, if_neg (by decide), ha]; exact qs fun x hx => jkR (by decide) (by decide) (by decide) (by decide) _ _ (hN x hx)
def fitH (t : Tst) : Bool := decide (1 ≤ t.kind) && decide (t.kind ≤ 10) && jaJ t && decide (t.names.length ≤ 2) && decide (t.keys.length ≤ 2) && decide (t.tests.length ≤ 3)
def FitT : Nat → Tst → Prop
 | 0, _ => True
 | n + 1, t => fitH t = true ∧ ∀ u ∈ t.tests, FitT n u
def jer (c : Cmd) : Bool := decide (2 ≤ c.kind) && decide (c.kind ≤ 10) && qK c && decide (c.texts.length ≤ 1 ∧ (c.kind = 7 → (c.texts.getD 0 []).length ≤ 12)) && decide (c.thn.length ≤ 4) && decide (c.els.length ≤ 4)
def FitC : Nat → Cmd → Prop
 | 0, _ => True
 | n + 1, c => jer c = true ∧ (c.kind = 2 → FitT n c.test) ∧ (∀ x ∈ c.thn, FitC n x) ∧ ∀ x ∈ c.els, FitC n x
theorem jfC {k ma p : Int} {nm : List UInt8} {keys : List (List UInt8)} (hm : ma = 1 ∨ ma = 2 ∨ ma = 3) (hp : k = 6 ∧ p = 0 ∨ (k = 7 ∨ k = 8) ∧ (p = 1 ∨ p = 2 ∨ p = 3)) (hk : ∃ k1, keys = [k1]) : fitH ⟨k, ma, p, [nm], keys, false, 0, []⟩ = true := by
 obtain ⟨k1, rfl⟩ := hk
 rcases hp with ⟨rfl, rfl⟩ | ⟨rfl | rfl, rfl | rfl | rfl⟩ <;> rcases hm with rfl | rfl | rfl <;> rfl
theorem jfD {k ma p : Int} {nm k1 k2 : List UInt8} (hm : ma = 1 ∨ ma = 2 ∨ ma = 3) (hp : k = 6 ∧ p = 0 ∨ (k = 7 ∨ k = 8) ∧ (p = 1 ∨ p = 2 ∨ p = 3)) : fitH ⟨k, ma, p, [nm], [k1, k2], false, 0, []⟩ = true := by
 rcases hp with ⟨rfl, rfl⟩ | ⟨rfl | rfl, rfl | rfl | rfl⟩ <;> rcases hm with rfl | rfl | rfl <;> rfl
theorem jiX {k : Int} {l : List Tst} (hk : k = 4 ∨ k = 5) (h0 : 0 < l.length) (h3 : l.length ≤ 3) : fitH ⟨k, 0, 0, [], [], false, 0, l⟩ = true := by
 rcases hk with rfl | rfl <;> simp [fitH, jaJ, jbB, h3] <;> omega
theorem jnf {k : Int} {t : Tst} (hk : k = 3 ∨ k = 4 ∨ k = 5) : fitH ⟨k, 0, 0, [], [], false, 0, [t]⟩ = true := by
 rcases hk with rfl | rfl | rfl <;> rfl
theorem jne {nm wd : List UInt8} {q : Nat} (h0 : 0 < q) (h2 : q ≤ 2) : fitH ⟨9, 0, 0, [nm, wd].take q, [], false, 0, []⟩ = true := by
 match q, h0, h2 with
 | 1, _, _ => rfl
 | 2, _, _ => rfl
theorem jlj {o : Bool} {l : Int} (h0 : 0 ≤ l) (h1 : l ≤ 400) : fitH ⟨10, 0, 0, [], [], o, l, []⟩ = true := by
 simp [fitH, jaJ, jbB]; omega
theorem jmt {q : Nat} (h : q < 2) : fitH ⟨1 + (q : Int), 0, 0, [], [], false, 0, []⟩ = true := by
 match q, h with
 | 0, _ => rfl
 | 1, _ => rfl
theorem jiW {t : Tst} {a b : List Cmd} (ha : a.length ≤ 4) (hb : b.length ≤ 4) : jer ⟨2, [], t, a, b⟩ = true := by
 simp [jer, qK, ha, hb]
theorem jip (c : UInt8) (t : List UInt8) : (S (c :: t)).toList.isEmpty = false := by rw [Lib.toList_data, jt]; rfl
theorem jio : (S []).toList.isEmpty = true := by rw [Lib.toList_data, jt]; rfl
theorem joF (c : UInt8) (t : List UInt8) : 0 < (S (c :: t)).size := by rw [ju]; simp
theorem jin (s : List UInt8) (k : Nat) : (S s).extract k (S s).size = S (s.drop k) := by
 rw [Lib.extract_eq, jt, ju, List.take_of_length_le (by simp)]; rfl
theorem jml (s : List UInt8) (k : Nat) : (S s).extract 0 k = S (s.take k) := by
 rw [Lib.extract_eq, jt]; rfl
theorem jg3 (c : UInt8) : ((c.toNat : Int)).toNat.toUInt8 = c := by simp
theorem jz {w : World} {p : Addr} {v : Value} (h : w.cell? p = some v) (o : Obj) : (w.alloc o).cell? p = some v :=
 (((Below.refl w.heap.size w).alloc (Nat.le_refl _) o).cell (World.block_lt_of_cell? w _ h)).trans h
theorem jb {w w' : World} {p : Addr} {v : Value} (h : w.cell? p = some v) (hb : Below w.heap.size w w') : w'.cell? p = some v :=
 (hb.cell (World.block_lt_of_cell? w _ h)).trans h
theorem jaE {B : Nat} {a w : World} (h : Below B a w) (n : Nat) : Below B a (w.drewN n) := h.trans ⟨rfl, rfl, rfl, Nat.le_refl _, fun _ _ => rfl⟩
theorem jd7 {B : Nat} {a b c : World} (h : Below B a b) (k : Below b.heap.size b c) (hB : B ≤ a.heap.size) : Below B a c := h.trans (k.mono (Nat.le_trans hB h.size))
theorem jdt {l : List UInt8} {k : Nat} {c : UInt8} (f : UInt8 → Bool) (h : l[k]? = some c) : (l.take (k + 1)).all f = ((l.take k).all f && f c) := by
 have hk : k < l.length := (List.getElem?_eq_some_iff.1 h).1; have e : l[k] = c := (List.getElem?_eq_some_iff.1 h).2; rw [List.take_succ_eq_append_getElem hk, List.all_append, e]
 simp
theorem jje {c : UInt8} (h : vR c = false) : c.toNat < 33 ∨ 126 < c.toNat := by
 unfold vR at h; simp at h; omega
theorem jht {c : UInt8} (h : vR c = true) : 33 ≤ c.toNat ∧ c.toNat ≤ 126 := by
 unfold vR at h; simpa using h
theorem jjG {s : ByteArray} {c : UInt8} (hc : c ∈ s.data.toList) (h1 : 1 ≤ s.size) (h2 : s.size ≤ 12) (h : vR c = false) : zQ s.data.toList = 3 := by
 unfold zQ; rw [if_neg (by rw [size_list]; omega), if_neg]; intro ha; have := List.all_eq_true.1 ha c hc; rw [h] at this; cases this
theorem jhO {s : ByteArray} (h1 : 1 ≤ s.size) (h2 : s.size ≤ 12) (h : s.data.toList.all vR = true) : zQ s.data.toList = 0 := by
 unfold zQ; rw [if_neg (by rw [size_list]; omega), if_pos h]
theorem jc9 {s : ByteArray} (h : s.size < 1 ∨ 12 < s.size) : zQ s.data.toList = 1 := by
 unfold zQ; rw [if_pos (by rw [size_list]; exact h)]
set_option maxHeartbeats 2000000 in
theorem vW (s : ByteArray) (w : World) :
 Calls Tryz.prog 80 #[.string s] w fun e w' => e = .returned (.int .i64 (zQ s.data.toList)) ∧ w' = w := by
 by_cases h0 : s.size < 1
 · have HR : Hid _ := jc9 (Or.inl h0); have i0 : (s.size : Int) < 1 := by omega
   go_enter Tryz.func80, Tryz.ntmps80; go_wp2; go_ret; exact ⟨jh HR.out.symm, rfl⟩
 · by_cases h12 : 12 < s.size
   · have HR : Hid _ := jc9 (Or.inr h12); have i0 : ¬ (s.size : Int) < 1 := by omega
     have i1 : (12 : Int) < (s.size : Int) := by omega
     go_enter Tryz.func80, Tryz.ntmps80; go_wp2; go_ret; exact ⟨jh HR.out.symm, rfl⟩
   · have i0 : ¬ (s.size : Int) < 1 := by omega
     have i1 : ¬ (12 : Int) < (s.size : Int) := by omega
     go_enter Tryz.func80, Tryz.ntmps80; go_wp2
     go_loopw [14] (fun i wr => ∃ k : Nat, k ≤ s.size ∧ i = .int .i64 k ∧ Hid ((s.data.toList.take k).all vR = true) ∧ wr = w) (fun i _ => s.size - (intOf i).toNat)
     case atStart => exact ⟨0, Nat.zero_le _, rfl, rfl, rfl⟩
     case round =>
        obtain ⟨k, hk, rfl, HT, rfl⟩ := hrel
        by_cases hlt : k < s.size
        · have hg := qG s k hlt; have HS : Hid _ := jdt vR hg; have hlt' : (k : Int) < (s.size : Int) := by omega
          have hk0 : (0 : Int) ≤ (k : Int) := by omega
          cases ha : vR s[k] with
          | true =>
            have HN : Hid ((s.data.toList.take (k + 1)).all vR = true) := by unfold Hid; rw [HS.out, HT.out, ha]; rfl
            obtain ⟨b1, b2⟩ := jht ha; have c1 : ¬ ((s[k].toNat : Int) < 33) := by omega
            have c2 : ¬ ((126 : Int) < (s[k].toNat : Int)) := by omega
            clear HS hg ha; go_wp2
            go_roundw
            case rel => first | exact ⟨k + 1, by omega, by go_num, HN, by first | rfl | trivial⟩ | ((repeat apply Exists.intro); exact ⟨⟨k + 1, by omega, by go_num, HN, by first | rfl | trivial⟩, rfl⟩) | (refine ⟨trivial, ?_⟩; (repeat apply Exists.intro); exact ⟨⟨k + 1, by omega, by go_num, HN, by first | rfl | trivial⟩, rfl⟩)
            case measure => simp [intOf]; omega
          | false =>
            have HN : Hid _ := jjG (List.mem_of_getElem? hg) (by omega) (by omega) ha
            rcases jje ha with b | b
            · have c1 : ((s[k].toNat : Int) < 33) := by omega
              clear HS hg ha; go_wp2; go_ret; exact ⟨jh HN.out.symm, rfl⟩
            · have c1 : ¬ ((s[k].toNat : Int) < 33) := by omega
              have c2 : ((126 : Int) < (s[k].toNat : Int)) := by omega
              clear HS hg ha; go_wp2; go_ret; exact ⟨jh HN.out.symm, rfl⟩
        · have hk' : k = s.size := by omega
          have HN : Hid (zQ s.data.toList = 0) := jhO (by omega) (by omega) (by have := HT.out; rwa [List.take_of_length_le (by rw [size_list]; omega)] at this); have hlt' : ¬ (k : Int) < (s.size : Int) := by omega
          go_wp2; go_ret; exact ⟨jh HN.out.symm, rfl⟩
end Go.Proofs.YtgfbdgheencmaaaGreatDoor
