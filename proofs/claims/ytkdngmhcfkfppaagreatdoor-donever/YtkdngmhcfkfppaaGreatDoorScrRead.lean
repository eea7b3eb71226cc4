/-
  Plain facts on scripts: how tokens are read. No program is named here.
-/
import Derived.Test.YtkdngmhcfkfppaaGreatDoorScrPure
namespace Go.Proofs.YtkdngmhcfkfppaaGreatDoor
open Go.RowKit

/-- What reading gives: something and the rest, or how many tokens were left where it gave up, and why. -/
abbrev Rdg (A : Type) := Except (Nat × Int) (A × List Tok)
def thenR {A B : Type} (x : Rdg A) (f : A → List Tok → Rdg B) : Rdg B := match x with | .error e => .error e | .ok (a, r) => f a r
def misP (r : List Tok) : Nat × Int := (r.length, if r.isEmpty then 4 else 3)
def takeKP (k : Int) (r : List Tok) : Rdg Tok := match r with | [] => .error (misP []) | t :: q => if t.kind = k then .ok (t, q) else .error (misP (t :: q))
def skipP (k : Int) (s : List UInt8) (r : List Tok) : Option (List Tok) := match r with | [] => none | t :: q => if t.kind = k ∧ t.text = s then some q else none
def takeTP (k : Int) (s : List UInt8) (r : List Tok) : Rdg Unit := match skipP k s r with | some q => .ok ((), q) | none => .error (misP r)
def textR (r : List Tok) : Rdg (List UInt8) := thenR (takeKP 4 r) fun t q => .ok (t.text, q)
/-- As long as a comma comes: one more. -/
def loopF {A : Type} (f : List Tok → Rdg A) : Nat → List A → List Tok → Rdg (List A)
  | 0, acc, r => .ok (acc, r)
  | n + 1, acc, r => match skipP 5 [44] r with
    | none => .ok (acc, r)
    | some q => thenR (f q) fun x q' => loopF f n (acc ++ [x]) q'
def listR (r : List Tok) : Rdg (List (List UInt8)) :=
  match skipP 5 [91] r with
  | none => thenR (textR r) fun x q => .ok ([x], q)
  | some q => thenR (textR q) fun x q1 => thenR (loopF textR q1.length [x] q1) fun l q2 => thenR (takeTP 5 [93] q2) fun _ q3 => .ok (l, q3)
def kindP (k d : Nat) (r : List Tok) : Rdg Nat :=
  if 6 < d then .error (r.length, 1) else
    match r with
    | [] => .error (misP [])
    | t :: q => if t.kind = 1 ∧ numberP k t.text ≠ 0 then .ok (numberP k t.text, q) else .error (misP (t :: q))
def tagsF (b : Bool) : List Tok → Nat → Nat → Rdg (Nat × Nat)
  | [], m, p => .ok ((if m = 0 then 1 else m, if p = 0 ∧ b = true then 1 else p), [])
  | t :: q, m, p =>
    if t.kind = 2 then
      if numberP 2 t.text ≠ 0 ∧ m = 0 then tagsF b q (numberP 2 t.text) p
      else if numberP 3 t.text ≠ 0 ∧ p = 0 ∧ b = true then tagsF b q m (numberP 3 t.text)
      else .error (misP (t :: q))
    else .ok ((if m = 0 then 1 else m, if p = 0 ∧ b = true then 1 else p), t :: q)
def boundR (r : List Tok) : Rdg (Bool × Int) :=
  match skipP 2 overW r with
  | some q => thenR (takeKP 3 q) fun t q => .ok ((true, t.num), q)
  | none => thenR (takeTP 2 underW r) fun _ q => thenR (takeKP 3 q) fun t q => .ok ((false, t.num), q)
def testsR (f : List Tok → Rdg Tst) (r : List Tok) : Rdg (List Tst) :=
  thenR (takeTP 5 [40] r) fun _ q => thenR (f q) fun x q => thenR (loopF f q.length [x] q) fun l q => thenR (takeTP 5 [41] q) fun _ q => .ok (l, q)
def testP : Nat → Nat → List Tok → Rdg Tst
  | 0, _, _ => .error (0, 0)
  | n + 1, d, r => thenR (kindP 1 d r) fun k q =>
    if k = 3 then thenR (testP n (d + 1) q) fun x q => .ok ({ noneT with kind := 3, tests := [x] }, q)
    else if k = 4 ∨ k = 5 then thenR (testsR (testP n (d + 1)) q) fun l q => .ok ({ noneT with kind := k, tests := l }, q)
    else if k = 6 ∨ k = 7 ∨ k = 8 then thenR (tagsF (decide (k ≠ 6)) q 0 0) fun mp q => thenR (listR q) fun a q => thenR (listR q) fun b q => .ok ({ noneT with kind := k, mat := mp.1, part := mp.2, names := a, keys := b }, q)
    else if k = 9 then thenR (listR q) fun a q => .ok ({ noneT with kind := 9, names := a }, q)
    else if k = 10 then thenR (boundR q) fun b q => .ok ({ noneT with kind := 10, over := b.1, limit := b.2 }, q)
    else .ok ({ noneT with kind := k }, q)
def blockF (f : List Tok → Rdg Cmd) : Nat → List Cmd → List Tok → Rdg (List Cmd)
  | 0, _, _ => .error (0, 0)
  | n + 1, acc, r => match skipP 5 [125] r with
    | some q => .ok (acc, q)
    | none => if r.isEmpty then .error (misP r) else thenR (f r) fun c q => blockF f n (acc ++ [c]) q
def blockR (f : List Tok → Rdg Cmd) (r : List Tok) : Rdg (List Cmd) := thenR (takeTP 5 [123] r) fun _ q => blockF f (q.length + 1) [] q
/-- A command (true), or what stands behind its if (false). -/
def cmdP : Nat → Bool → Nat → List Tok → Rdg Cmd
  | 0, _, _, _ => .error (0, 0)
  | n + 1, true, d, r => thenR (kindP 0 d r) fun k q =>
    if k = 2 then cmdP n false d q
    else if k = 1 ∨ k = 8 ∨ k = 9 then thenR (listR q) fun l q => thenR (takeTP 5 [59] q) fun _ q => .ok (⟨k, l, noneT, [], []⟩, q)
    else if k = 5 ∨ k = 6 ∨ k = 7 then thenR (textR q) fun x q => thenR (takeTP 5 [59] q) fun _ q => .ok (⟨k, [x], noneT, [], []⟩, q)
    else thenR (takeTP 5 [59] q) fun _ q => .ok (⟨k, [], noneT, [], []⟩, q)
  | n + 1, false, d, r => thenR (testP n 1 r) fun t q => thenR (blockR (cmdP n true (d + 1)) q) fun th q =>
    match skipP 1 elsifW q with
    | some q => thenR (cmdP n false d q) fun c q => .ok (⟨2, [], t, th, [c]⟩, q)
    | none => match skipP 1 elseW q with
      | some q => thenR (blockR (cmdP n true (d + 1)) q) fun el q => .ok (⟨2, [], t, th, el⟩, q)
      | none => .ok (⟨2, [], t, th, []⟩, q)
def scriptF (f : List Tok → Rdg Cmd) : Nat → List Cmd → List Tok → Rdg (List Cmd)
  | 0, acc, r => .ok (acc, r)
  | n + 1, acc, r => if r.isEmpty then .ok (acc, r) else thenR (f r) fun c q => scriptF f n (acc ++ [c]) q
def scriptR (r : List Tok) : Rdg (List Cmd) := scriptF (cmdP (r.length + 2) true 0) r.length [] r
def badTok : List Tok → Nat → Option (Nat × Int)
  | [], _ => none
  | t :: r, i => if faultT t = 0 then badTok r (i + 1) else some (i, faultT t)
/-- P5.5. -/
def parseS (l : List Tok) : List Cmd × Int × Int :=
  if 400 < l.length then ([], 0, 5) else
    match badTok l 0 with
    | some (i, e) => ([], i, e)
    | none => match scriptR l with
      | .ok (cs, _) => (cs, 0, 0)
      | .error (m, e) => ([], (l.length - m : Nat), e)

/- What is read is taken. -/
theorem thenR_ok {A B : Type} {x : Rdg A} {f : A → List Tok → Rdg B} {y : B × List Tok} (h : thenR x f = .ok y) : ∃ a q, x = .ok (a, q) ∧ f a q = .ok y := by
  unfold thenR at h
  split at h
  · cases h
  · exact ⟨_, _, rfl, h⟩
theorem skipP_some {k : Int} {s : List UInt8} {r q : List Tok} (h : skipP k s r = some q) : ∃ t, r = t :: q ∧ t.kind = k ∧ t.text = s := by
  cases r with
  | nil => cases h
  | cons t u =>
    unfold skipP at h
    simp only at h
    split at h
    · rename_i hk; cases h; exact ⟨t, rfl, hk⟩
    · cases h
theorem takeTP_ok {k : Int} {s : List UInt8} {r q : List Tok} {u : Unit} (h : takeTP k s r = .ok (u, q)) : skipP k s r = some q := by
  unfold takeTP at h
  split at h
  · rename_i hs; cases h; exact hs
  · cases h
theorem takeKP_ok {k : Int} {r q : List Tok} {t : Tok} (h : takeKP k r = .ok (t, q)) : r = t :: q ∧ t.kind = k := by
  unfold takeKP at h
  split at h
  · cases h
  · split at h
    · rename_i hk; cases h; exact ⟨rfl, hk⟩
    · cases h
theorem skipP_len {k : Int} {s : List UInt8} {r q : List Tok} (h : skipP k s r = some q) : q.length < r.length := by
  obtain ⟨t, rfl, _⟩ := skipP_some h; simp
theorem textR_ok {r q : List Tok} {x : List UInt8} (h : textR r = .ok (x, q)) : ∃ t, r = t :: q ∧ t.kind = 4 ∧ t.text = x := by
  obtain ⟨t, q', h1, h2⟩ := thenR_ok h
  cases h2
  obtain ⟨rfl, hk⟩ := takeKP_ok h1
  exact ⟨t, rfl, hk, rfl⟩
theorem textR_len {r q : List Tok} {x : List UInt8} (h : textR r = .ok (x, q)) : q.length < r.length := by
  obtain ⟨t, rfl, _⟩ := textR_ok h; simp
theorem loopF_len {A : Type} {f : List Tok → Rdg A} (hf : ∀ r x q, f r = .ok (x, q) → q.length ≤ r.length) : ∀ (n : Nat) (acc l : List A) (r q : List Tok), loopF f n acc r = .ok (l, q) → q.length ≤ r.length := by
  intro n
  induction n with
  | zero => intro acc l r q h; cases h; exact Nat.le_refl _
  | succ n ih =>
    intro acc l r q h
    unfold loopF at h
    split at h
    · cases h; exact Nat.le_refl _
    · rename_i q0 hs
      obtain ⟨x, q1, h1, h2⟩ := thenR_ok h
      have a := skipP_len hs
      have b := hf _ _ _ h1
      have c := ih _ _ _ _ h2
      omega
theorem listR_len {r q : List Tok} {l : List (List UInt8)} (h : listR r = .ok (l, q)) : q.length < r.length := by
  unfold listR at h
  split at h
  · obtain ⟨x, q1, h1, h2⟩ := thenR_ok h
    cases h2
    exact textR_len h1
  · rename_i q0 hs
    obtain ⟨x, q1, h1, h2⟩ := thenR_ok h
    obtain ⟨l2, q2, h3, h4⟩ := thenR_ok h2
    obtain ⟨u, q3, h5, h6⟩ := thenR_ok h4
    cases h6
    have a := skipP_len hs
    have b := textR_len h1
    have c := loopF_len (fun _ _ _ h => Nat.le_of_lt (textR_len h)) _ _ _ _ _ h3
    have d := skipP_len (takeTP_ok h5)
    omega
theorem kindP_ok {k d : Nat} {r q : List Tok} {n : Nat} (h : kindP k d r = .ok (n, q)) : d ≤ 6 ∧ n ≠ 0 ∧ ∃ t, r = t :: q ∧ t.kind = 1 ∧ numberP k t.text = n := by
  unfold kindP at h
  split at h
  · cases h
  · rename_i hd
    split at h
    · cases h
    · split at h
      · rename_i hk; cases h; exact ⟨by omega, hk.2, _, rfl, hk.1, rfl⟩
      · cases h
theorem kindP_len {k d : Nat} {r q : List Tok} {n : Nat} (h : kindP k d r = .ok (n, q)) : q.length < r.length := by
  obtain ⟨_, _, t, rfl, _⟩ := kindP_ok h; simp
theorem tagsF_len {b : Bool} : ∀ (r : List Tok) (m p : Nat) (x : Nat × Nat) (q : List Tok), tagsF b r m p = .ok (x, q) → q.length ≤ r.length := by
  intro r
  induction r with
  | nil => intro m p x q h; unfold tagsF at h; cases h; exact Nat.le_refl _
  | cons t r ih =>
    intro m p x q h
    unfold tagsF at h
    split at h
    · split at h
      · have := ih _ _ _ _ h; simp; omega
      · split at h
        · have := ih _ _ _ _ h; simp; omega
        · cases h
    · cases h; exact Nat.le_refl _
theorem boundR_len {r q : List Tok} {x : Bool × Int} (h : boundR r = .ok (x, q)) : q.length < r.length := by
  unfold boundR at h
  split at h
  · rename_i q0 hs
    obtain ⟨t, q1, h1, h2⟩ := thenR_ok h
    cases h2
    have a := skipP_len hs
    obtain ⟨rfl, _⟩ := takeKP_ok h1
    simp at a; omega
  · obtain ⟨u, q0, h0, h'⟩ := thenR_ok h
    obtain ⟨t, q1, h1, h2⟩ := thenR_ok h'
    cases h2
    have a := skipP_len (takeTP_ok h0)
    obtain ⟨rfl, _⟩ := takeKP_ok h1
    simp at a; omega
theorem testsR_len {f : List Tok → Rdg Tst} (hf : ∀ r x q, f r = .ok (x, q) → q.length ≤ r.length) {r q : List Tok} {l : List Tst} (h : testsR f r = .ok (l, q)) : q.length < r.length := by
  obtain ⟨u, q1, h1, h2⟩ := thenR_ok h
  obtain ⟨x, q2, h3, h4⟩ := thenR_ok h2
  obtain ⟨l', q3, h5, h6⟩ := thenR_ok h4
  obtain ⟨u', q4, h7, h8⟩ := thenR_ok h6
  cases h8
  have a := skipP_len (takeTP_ok h1)
  have b := hf _ _ _ h3
  have c := loopF_len hf _ _ _ _ _ h5
  have d := skipP_len (takeTP_ok h7)
  omega
theorem testP_len : ∀ (n d : Nat) (r : List Tok) (t : Tst) (q : List Tok), testP n d r = .ok (t, q) → q.length < r.length := by
  intro n
  induction n with
  | zero => intro d r t q h; cases h
  | succ n ih =>
    intro d r t q h
    unfold testP at h
    obtain ⟨k, q1, h1, h2⟩ := thenR_ok h
    have a := kindP_len h1
    simp only at h2
    split at h2
    · obtain ⟨x, q2, h3, h4⟩ := thenR_ok h2
      cases h4
      have := ih _ _ _ _ h3
      omega
    · split at h2
      · obtain ⟨x, q2, h3, h4⟩ := thenR_ok h2
        cases h4
        have := testsR_len (fun _ _ _ h => Nat.le_of_lt (ih _ _ _ _ h)) h3
        omega
      · split at h2
        · obtain ⟨x, q2, h3, h4⟩ := thenR_ok h2
          obtain ⟨y, q3, h5, h6⟩ := thenR_ok h4
          obtain ⟨z, q4, h7, h8⟩ := thenR_ok h6
          cases h8
          have b := tagsF_len _ _ _ _ _ h3
          have c := listR_len h5
          have e := listR_len h7
          omega
        · split at h2
          · obtain ⟨x, q2, h3, h4⟩ := thenR_ok h2
            cases h4
            have := listR_len h3
            omega
          · split at h2
            · obtain ⟨x, q2, h3, h4⟩ := thenR_ok h2
              cases h4
              have := boundR_len h3
              omega
            · cases h2
              omega
theorem blockF_len {f : List Tok → Rdg Cmd} (hf : ∀ r x q, f r = .ok (x, q) → q.length ≤ r.length) : ∀ (n : Nat) (acc l : List Cmd) (r q : List Tok), blockF f n acc r = .ok (l, q) → q.length ≤ r.length := by
  intro n
  induction n with
  | zero => intro acc l r q h; cases h
  | succ n ih =>
    intro acc l r q h
    unfold blockF at h
    split at h
    · rename_i q0 hs; cases h; exact Nat.le_of_lt (skipP_len hs)
    · split at h
      · cases h
      obtain ⟨x, q1, h1, h2⟩ := thenR_ok h
      have b := hf _ _ _ h1
      have c := ih _ _ _ _ h2
      omega
theorem blockR_len {f : List Tok → Rdg Cmd} (hf : ∀ r x q, f r = .ok (x, q) → q.length ≤ r.length) {r q : List Tok} {l : List Cmd} (h : blockR f r = .ok (l, q)) : q.length < r.length := by
  obtain ⟨u, q1, h1, h2⟩ := thenR_ok h
  have a := skipP_len (takeTP_ok h1)
  have b := blockF_len hf _ _ _ _ _ h2
  omega
theorem cmdP_len : ∀ (n : Nat) (b : Bool) (d : Nat) (r : List Tok) (c : Cmd) (q : List Tok), cmdP n b d r = .ok (c, q) → q.length < r.length := by
  intro n
  induction n with
  | zero => intro b d r t q h; cases h
  | succ n ih =>
    intro b d r t q h
    have ih' : ∀ b d r x q, cmdP n b d r = .ok (x, q) → q.length ≤ r.length := fun _ _ _ _ _ h => Nat.le_of_lt (ih _ _ _ _ _ h)
    cases b with
    | true =>
      unfold cmdP at h
      obtain ⟨k, q1, h1, h2⟩ := thenR_ok h
      have a := kindP_len h1
      split at h2
      · have := ih _ _ _ _ _ h2; omega
      · split at h2
        · obtain ⟨x, q2, h3, h4⟩ := thenR_ok h2
          obtain ⟨y, q3, h5, h6⟩ := thenR_ok h4
          cases h6
          have := listR_len h3
          have := skipP_len (takeTP_ok h5)
          omega
        · split at h2
          · obtain ⟨x, q2, h3, h4⟩ := thenR_ok h2
            obtain ⟨y, q3, h5, h6⟩ := thenR_ok h4
            cases h6
            have := textR_len h3
            have := skipP_len (takeTP_ok h5)
            omega
          · obtain ⟨y, q3, h5, h6⟩ := thenR_ok h2
            cases h6
            have := skipP_len (takeTP_ok h5)
            omega
    | false =>
      unfold cmdP at h
      obtain ⟨x, q1, h1, h2⟩ := thenR_ok h
      obtain ⟨y, q2, h3, h4⟩ := thenR_ok h2
      have a := testP_len _ _ _ _ _ h1
      have b := blockR_len (ih' _ _) h3
      split at h4
      · rename_i q0 hs
        obtain ⟨z, q3, h5, h6⟩ := thenR_ok h4
        cases h6
        have := skipP_len hs
        have := ih _ _ _ _ _ h5
        omega
      · split at h4
        · rename_i q0 hs
          obtain ⟨z, q3, h5, h6⟩ := thenR_ok h4
          cases h6
          have := skipP_len hs
          have := blockR_len (ih' _ _) h5
          omega
        · cases h4; omega
end Go.Proofs.YtkdngmhcfkfppaaGreatDoor
