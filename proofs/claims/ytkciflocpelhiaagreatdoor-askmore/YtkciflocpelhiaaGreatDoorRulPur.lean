
/-
  Plain facts on scripts that are allowed: flags, names of boxes, what is required. No program is named here.
  Plain facts on the tests and commands that the laws make: they may be, and are short.
-/
import Derived.Test.YtkciflocpelhiaaGreatDoorScrMem
import Derived.Test.YtkciflocpelhiaaGreatDoorWhoPure
namespace Go.Proofs.YtkciflocpelhiaaGreatDoor
open Go.RowKit

/- P6.1. -/
def flagTab : List (List UInt8 × Nat) := [([92, 83, 101, 101, 110], 1), ([92, 65, 110, 115, 119, 101, 114, 101, 100], 2), ([92, 70, 108, 97, 103, 103, 101, 100], 4), ([92, 68, 101, 108, 101, 116, 101, 100], 8), ([92, 68, 114, 97, 102, 116], 16)]
def flagIn : List (List UInt8 × Nat) → List UInt8 → Nat
  | [], _ => 0
  | x :: r, s => if x.1 = s then x.2 else flagIn r s
/-- The flag of a name; 0: none. -/
def flagP (s : List UInt8) : Nat := flagIn flagTab s
/-- The flags of names, some of them told already. -/
def flagsG : Nat → List (List UInt8) → Option Nat
  | n, [] => some n
  | n, s :: r => if flagP s = 0 then none else flagsG (n ||| flagP s) r
def flagsP (l : List (List UInt8)) : Option Nat := flagsG 0 l
theorem flagIn_lt : ∀ (t : List (List UInt8 × Nat)) (s : List UInt8), (∀ x ∈ t, x.2 < 32) → flagIn t s < 32 := by
  intro t
  induction t with
  | nil => intro s _; show 0 < 32; omega
  | cons x t ih =>
    intro s h
    unfold flagIn
    split
    · exact h x (by simp)
    · exact ih s fun y hy => h y (by simp [hy])
theorem flagP_lt (s : List UInt8) : flagP s < 32 := flagIn_lt _ _ (by decide)
theorem lor_lt {a b : Nat} (ha : a < 32) (hb : b < 32) : a ||| b < 32 := Nat.or_lt_two_pow (n := 5) ha hb
theorem flagsG_lt : ∀ (l : List (List UInt8)) (n m : Nat), n < 32 → flagsG n l = some m → m < 32 := by
  intro l
  induction l with
  | nil => intro n m hn h; cases h; exact hn
  | cons s l ih =>
    intro n m hn h
    unfold flagsG at h
    by_cases hf : flagP s = 0
    · rw [if_pos hf] at h; cases h
    · rw [if_neg hf] at h; exact ih _ _ (lor_lt hn (flagP_lt s)) h
/- P6.2. -/
def inName (c : UInt8) : Bool := decide (33 ≤ c.toNat) && decide (c.toNat ≤ 126)
def nameP (s : List UInt8) : Int := if s.length < 1 ∨ 12 < s.length then 1 else if s.all inName then 0 else 3

/- P6.3, P6.4. -/
def fileW : List UInt8 := [102, 105, 108, 101, 105, 110, 116, 111]
def rejW : List UInt8 := [114, 101, 106, 101, 99, 116]
def envW : List UInt8 := [101, 110, 118, 101, 108, 111, 112, 101]
def flgW : List UInt8 := [105, 109, 97, 112, 52, 102, 108, 97, 103, 115]
def fromW : List UInt8 := [102, 114, 111, 109]
def toW : List UInt8 := [116, 111]
def extP (s : List UInt8) : Bool := decide (s = fileW) || decide (s = rejW) || decide (s = envW) || decide (s = flgW)
def partP (s : List UInt8) : Bool := decide (s = fromW) || decide (s = toW)
def needP (k : Int) : List UInt8 := if k = 5 then fileW else if k = 7 then rejW else if k = 8 ∨ k = 9 then flgW else []
def hasP (H : List (List UInt8)) (s : List UInt8) : Bool := s.isEmpty || H.contains s
def longP (l : List (List UInt8)) : Bool := l.any fun s => decide (100 < s.length)
def envP (H : List (List UInt8)) (t : Tst) : Int := if hasP H envW = false then 8 else if t.names.all partP then 0 else 7
def tstA (H : List (List UInt8)) : Nat → Tst → Int
  | 0, _ => 0
  | n + 1, t => if t.kind = 8 ∧ envP H t ≠ 0 then envP H t else if longP t.names ∨ longP t.keys then 1 else firstP (tstA H n) t.tests
def goalP (s : List UInt8) : Int := if (listM s).2 = 0 ∧ (listM s).1.length = 1 then 0 else 3
def cmdA (H : List (List UInt8)) : Nat → Cmd → Int
  | 0, _ => 0
  | n + 1, c =>
    if hasP H (needP c.kind) = false then 8
    else if c.kind = 1 then 3
    else if c.kind = 5 then nameP (c.texts.getD 0 [])
    else if c.kind = 8 ∨ c.kind = 9 then (if flagsP c.texts = none then 7 else 0)
    else if c.kind = 6 then goalP (c.texts.getD 0 [])
    else if c.kind = 2 then
      (if tstA H n c.test ≠ 0 then tstA H n c.test
       else if firstP (cmdA H n) c.thn ≠ 0 then firstP (cmdA H n) c.thn
       else firstP (cmdA H n) c.els)
    else 0
/-- How many Requires stand ahead. -/
def aheadP : List Cmd → Nat
  | [] => 0
  | c :: r => if c.kind = 1 then aheadP r + 1 else 0
def reqsP (l : List Cmd) : List (List UInt8) := (l.take (aheadP l)).flatMap (·.texts)
def ruleM (n : Nat) (l : List Cmd) : Int :=
  if checkM n l ≠ 0 then checkM n l
  else if (reqsP l).all extP = false then 7
  else firstP (cmdA (reqsP l) n) (l.drop (aheadP l))

/- What the laws make. -/
def NiceT : Nat → Tst → Prop
  | 0, _ => True
  | n + 1, t => longP t.names = false ∧ longP t.keys = false ∧ (t.kind = 8 → t.names.all partP = true) ∧ ∀ u ∈ t.tests, NiceT n u
def NiceC : Nat → Cmd → Prop
  | 0, _ => True
  | n + 1, c => c.kind ≠ 1 ∧ (c.kind = 5 → nameP (c.texts.getD 0 []) = 0) ∧ (c.kind = 8 ∨ c.kind = 9 → flagsP c.texts ≠ none) ∧ (c.kind = 6 → goalP (c.texts.getD 0 []) = 0) ∧ NiceT n c.test ∧ (∀ x ∈ c.thn, NiceC n x) ∧ ∀ x ∈ c.els, NiceC n x
theorem firstP_zero {A : Type} {f : A → Int} {l : List A} (h : ∀ x ∈ l, f x = 0) : firstP f l = 0 := by
  induction l with
  | nil => rfl
  | cons x l ih =>
    unfold firstP
    rw [if_pos (h x (by simp))]
    exact ih fun y hy => h y (by simp [hy])
theorem tstA_all {H : List (List UInt8)} (hH : hasP H envW = true) : ∀ (n : Nat) (t : Tst), NiceT n t → tstA H n t = 0 := by
  intro n
  induction n with
  | zero => intro t _; rfl
  | succ n ih =>
    intro t h
    obtain ⟨h1, h2, h3, h4⟩ := h
    unfold tstA
    have e1 : ¬(t.kind = 8 ∧ envP H t ≠ 0) := by
      rintro ⟨hk, he⟩
      apply he
      unfold envP
      rw [if_neg (by rw [hH]; simp), if_pos (h3 hk)]
    rw [if_neg e1, if_neg (by rw [h1, h2]; simp)]
    exact firstP_zero fun u hu => ih u (h4 u hu)
theorem cmdA_all {H : List (List UInt8)} (h0 : hasP H envW = true) (h1 : hasP H fileW = true) (h2 : hasP H rejW = true) (h3 : hasP H flgW = true) : ∀ (n : Nat) (c : Cmd), NiceC n c → cmdA H n c = 0 := by
  intro n
  induction n with
  | zero => intro t _; rfl
  | succ n ih =>
    intro c h
    obtain ⟨k1, k2, k3, k4, k5, k6, k7⟩ := h
    unfold cmdA
    have hn : hasP H (needP c.kind) = true := by
      unfold needP
      split
      · exact h1
      · split
        · exact h2
        · split
          · exact h3
          · rfl
    rw [if_neg (by rw [hn]; simp), if_neg k1]
    by_cases c5 : c.kind = 5
    · rw [if_pos c5]; exact k2 c5
    · rw [if_neg c5]
      by_cases c8 : c.kind = 8 ∨ c.kind = 9
      · rw [if_pos c8, if_neg (k3 c8)]
      · rw [if_neg c8]
        by_cases c6 : c.kind = 6
        · rw [if_pos c6]; exact k4 c6
        · rw [if_neg c6]
          by_cases c2 : c.kind = 2
          · rw [if_pos c2, if_neg (by rw [tstA_all h0 n _ k5]; simp), if_neg (by rw [firstP_zero fun u hu => ih u (k6 u hu)]; simp)]
            exact firstP_zero fun u hu => ih u (k7 u hu)
          · rw [if_neg c2]
/- The laws' own scripts. -/
def reqT : List (List UInt8) := [[102, 105, 108, 101, 105, 110, 116, 111], [114, 101, 106, 101, 99, 116], [101, 110, 118, 101, 108, 111, 112, 101], [105, 109, 97, 112, 52, 102, 108, 97, 103, 115]]
def reqC : Cmd := ⟨1, reqT, noneT, [], []⟩
theorem fault_all {n d : Nat} {l : List Cmd} (h : faultCmds n d l = 0) : ∀ x ∈ l, faultCmd n d x = 0 := by
  intro x hx
  unfold faultCmds at h
  induction l with
  | nil => cases hx
  | cons y l ih =>
    unfold firstP at h
    by_cases hy : faultCmd n d y = 0
    · rw [if_pos hy] at h
      rcases List.mem_cons.1 hx with e | e
      · rw [e]; exact hy
      · exact ih h e
    · rw [if_neg hy] at h; exact absurd h hy
theorem fault_of {n d : Nat} {l : List Cmd} (h : ∀ x ∈ l, faultCmd n d x = 0) : faultCmds n d l = 0 := firstP_zero h
theorem checkM_of {n : Nat} {l : List Cmd} (h : ∀ x ∈ l, faultCmd n 0 x = 0) : checkM n l = if 400 < (cmdsT n l).length then 5 else 0 := by
  unfold checkM
  rw [if_neg (by rw [fault_of h]; simp)]
theorem checkM_or {n : Nat} {l : List Cmd} (h : ∀ x ∈ l, faultCmd n 0 x = 0) : checkM n l = 0 ∨ checkM n l = 5 := by
  rw [checkM_of h]; split
  · exact Or.inr rfl
  · exact Or.inl rfl
theorem checkM_ok {n : Nat} {l : List Cmd} (h : checkM n l = 0) : (∀ x ∈ l, faultCmd n 0 x = 0) ∧ (cmdsT n l).length ≤ 400 := by
  unfold checkM at h
  by_cases h1 : faultCmds n 0 l = 0
  · rw [if_neg (by simpa using h1)] at h
    refine ⟨fault_all h1, ?_⟩
    rcases Nat.lt_or_ge 400 (cmdsT n l).length with h2 | h2
    · rw [if_pos h2] at h; simp at h
    · exact h2
  · rw [if_pos h1] at h; exact absurd h h1
theorem fault_req (n : Nat) : faultCmd n 0 reqC = 0 := by cases n <;> rfl
theorem ahead_nice {n : Nat} {r : List Cmd} (h : ∀ x ∈ r, NiceC (n + 1) x) : aheadP r = 0 := by
  cases r with
  | nil => rfl
  | cons c r =>
    unfold aheadP
    rw [if_neg (h c (by simp)).1]
theorem rule_allowed {n : Nat} {r : List Cmd} (hc : checkM (n + 1) (reqC :: r) = 0) (hN : ∀ x ∈ r, NiceC (n + 1) x) : ruleM (n + 1) (reqC :: r) = 0 := by
  have ha : aheadP (reqC :: r) = 1 := by show aheadP r + 1 = 1; rw [ahead_nice hN]
  have hr : reqsP (reqC :: r) = reqT := by unfold reqsP; rw [ha]; rfl
  unfold ruleM
  rw [if_neg (by rw [hc]; simp), hr, if_neg (by decide), ha]
  exact firstP_zero fun x hx => cmdA_all (by decide) (by decide) (by decide) (by decide) _ _ (hN x hx)
end Go.Proofs.YtkciflocpelhiaaGreatDoor

namespace Go.Proofs.YtkciflocpelhiaaGreatDoor
open Go.RowKit

/-- A test has just what its kind has, and not much of it. -/
def fitH (t : Tst) : Bool := decide (1 ≤ t.kind) && decide (t.kind ≤ 10) && fitsT t && decide (t.names.length ≤ 2) && decide (t.keys.length ≤ 2) && decide (t.tests.length ≤ 3)
def FitT : Nat → Tst → Prop
  | 0, _ => True
  | n + 1, t => fitH t = true ∧ ∀ u ∈ t.tests, FitT n u
def fitHC (c : Cmd) : Bool := decide (2 ≤ c.kind) && decide (c.kind ≤ 10) && fitsC c && decide (c.texts.length ≤ 1 ∧ (c.kind = 7 → (c.texts.getD 0 []).length ≤ 12)) && decide (c.thn.length ≤ 4) && decide (c.els.length ≤ 4)
def FitC : Nat → Cmd → Prop
  | 0, _ => True
  | n + 1, c => fitHC c = true ∧ (c.kind = 2 → FitT n c.test) ∧ (∀ x ∈ c.thn, FitC n x) ∧ ∀ x ∈ c.els, FitC n x
theorem fit_cmp {k ma p : Int} {nm : List UInt8} {keys : List (List UInt8)} (hm : ma = 1 ∨ ma = 2 ∨ ma = 3) (hp : k = 6 ∧ p = 0 ∨ (k = 7 ∨ k = 8) ∧ (p = 1 ∨ p = 2 ∨ p = 3)) (hk : ∃ k1, keys = [k1]) : fitH ⟨k, ma, p, [nm], keys, false, 0, []⟩ = true := by
  obtain ⟨k1, rfl⟩ := hk
  rcases hp with ⟨rfl, rfl⟩ | ⟨rfl | rfl, rfl | rfl | rfl⟩ <;> rcases hm with rfl | rfl | rfl <;> rfl
theorem fit_two {k ma p : Int} {nm k1 k2 : List UInt8} (hm : ma = 1 ∨ ma = 2 ∨ ma = 3) (hp : k = 6 ∧ p = 0 ∨ (k = 7 ∨ k = 8) ∧ (p = 1 ∨ p = 2 ∨ p = 3)) : fitH ⟨k, ma, p, [nm], [k1, k2], false, 0, []⟩ = true := by
  rcases hp with ⟨rfl, rfl⟩ | ⟨rfl | rfl, rfl | rfl | rfl⟩ <;> rcases hm with rfl | rfl | rfl <;> rfl
theorem fit_tests {k : Int} {l : List Tst} (hk : k = 4 ∨ k = 5) (h0 : 0 < l.length) (h3 : l.length ≤ 3) : fitH ⟨k, 0, 0, [], [], false, 0, l⟩ = true := by
  rcases hk with rfl | rfl <;> simp [fitH, fitsT, noTst, h3] <;> omega
theorem fit_one {k : Int} {t : Tst} (hk : k = 3 ∨ k = 4 ∨ k = 5) : fitH ⟨k, 0, 0, [], [], false, 0, [t]⟩ = true := by
  rcases hk with rfl | rfl | rfl <;> rfl
theorem fit_exi {nm wd : List UInt8} {q : Nat} (h0 : 0 < q) (h2 : q ≤ 2) : fitH ⟨9, 0, 0, [nm, wd].take q, [], false, 0, []⟩ = true := by
  match q, h0, h2 with
  | 1, _, _ => rfl
  | 2, _, _ => rfl
theorem fit_size {o : Bool} {l : Int} (h0 : 0 ≤ l) (h1 : l ≤ 400) : fitH ⟨10, 0, 0, [], [], o, l, []⟩ = true := by
  simp [fitH, fitsT, noTst]; omega
theorem fit_tf {q : Nat} (h : q < 2) : fitH ⟨1 + (q : Int), 0, 0, [], [], false, 0, []⟩ = true := by
  match q, h with
  | 0, _ => rfl
  | 1, _ => rfl
theorem fit_if {t : Tst} {a b : List Cmd} (ha : a.length ≤ 4) (hb : b.length ≤ 4) : fitHC ⟨2, [], t, a, b⟩ = true := by
  simp [fitHC, fitsC, ha, hb]
end Go.Proofs.YtkciflocpelhiaaGreatDoor
