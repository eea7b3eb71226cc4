/-
  Scripts as lists of ops: the plain meaning of P8.1 and P8.2.
-/
import Derived.Test.YtlcnfpeabnnjoaaGreatDoorScrMem
namespace Go.Proofs.YtlcnfpeabnnjoaaGreatDoor
open Go.RowKit Go.Proofs

/-- An op. -/
structure Opr where
  kind : Int
  to : Int
  test : Tst
  what : Cmd
def noneC : Cmd := ⟨0, [], noneT, [], []⟩
def bareC (c : Cmd) : Cmd := ⟨c.kind, c.texts, noneT, [], []⟩
def bareT (t : Tst) : Tst := ⟨t.kind, t.mat, t.part, t.names, t.keys, t.over, t.limit, []⟩
def doO (c : Cmd) : Opr := ⟨6, 0, noneT, bareC c⟩
def askO (t : Tst) : Opr := ⟨1, 0, bareT t, noneC⟩
def flipO : Opr := ⟨2, 0, noneT, noneC⟩
def jumpO (k : Int) (to : Nat) : Opr := ⟨k, to, noneT, noneC⟩
def oRest (f : Tst → Nat → List Opr) (k : Int) (E : Nat) : List Tst → Nat → List Opr
  | [], _ => []
  | y :: r, a => jumpO k E :: (f y (a + 1) ++ oRest f k E r (a + 1 + (f y (a + 1)).length))
def oTsts (f : Tst → Nat → List Opr) (k : Int) : List Tst → Nat → List Opr
  | [], _ => []
  | x :: r, a => f x a ++ oRest f k (a + (f x a).length + (oRest f k 0 r (a + (f x a).length)).length) r (a + (f x a).length)
/-- P8.2: the ops of a test that stands at a place. -/
def oTst : Nat → Tst → Nat → List Opr
  | 0, _, _ => []
  | n + 1, t, a =>
    if t.kind = 3 then (match t.tests with | [] => [] | x :: _ => oTst n x a) ++ [flipO]
    else if t.kind = 4 then oTsts (oTst n) 4 t.tests a
    else if t.kind = 5 then oTsts (oTst n) 3 t.tests a
    else [askO t]
def oCmds (f : Cmd → Nat → List Opr) : List Cmd → Nat → List Opr
  | [], _ => []
  | c :: r, a => f c a ++ oCmds f r (a + (f c a).length)
/-- An If's ops, of those of its test, Then and Else. -/
def oIf (a : Nat) (T A : List Opr) (els : Bool) (B : List Opr) : List Opr :=
  if els = true then T ++ (jumpO 4 (a + T.length + 1 + A.length + 1) :: (A ++ (jumpO 5 (a + T.length + 1 + A.length + 1 + B.length) :: B)))
  else T ++ (jumpO 4 (a + T.length + 1 + A.length) :: A)
/-- P8.1: the ops of a command that stands at a place. -/
def oCmd : Nat → Cmd → Nat → List Opr
  | 0, _, _ => []
  | n + 1, c, a =>
    if c.kind = 2 then
      oIf a (oTst n c.test a) (oCmds (oCmd n) c.thn (a + (oTst n c.test a).length + 1)) (decide (0 < c.els.length)) (oCmds (oCmd n) c.els (a + (oTst n c.test a).length + 1 + (oCmds (oCmd n) c.thn (a + (oTst n c.test a).length + 1)).length + 1))
    else [doO c]
theorem jump_to (k : Int) (n : Nat) : (jumpO k n).to.toNat = n := Int.toNat_natCast n
theorem jump_kind (k : Int) (n : Nat) : (jumpO k n).kind = k := rfl
theorem rest_len (f : Tst → Nat → List Opr) (k : Int) (E E' : Nat) : ∀ (r : List Tst) (a : Nat), (oRest f k E r a).length = (oRest f k E' r a).length := by
  intro r
  induction r with
  | nil => intro a; rfl
  | cons y r ih => intro a; simp only [oRest, List.length_cons, List.length_append, ih (a + 1 + (f y (a + 1)).length)]

/-- P8.3: the ops of a script. -/
def compM (n : Nat) (l : List Cmd) : List Opr := oCmds (oCmd n) l 0
/- Writing. -/
def places (f : Tst → Nat → List Opr) : List Tst → Nat → List Nat
  | [], _ => []
  | y :: r, a => a :: places f r (a + 1 + (f y (a + 1)).length)
/-- Ops of some tests, whose jumps go nowhere yet; and where these stand. -/
def parT (f : Tst → Nat → List Opr) (k : Int) : List Tst → Nat → List Opr
  | [], _ => []
  | x :: r, a => f x a ++ oRest f k 0 r (a + (f x a).length)
def plT (f : Tst → Nat → List Opr) : List Tst → Nat → List Nat
  | [], _ => []
  | x :: r, a => places f r (a + (f x a).length)
def sendTo (N : Nat) (x : Opr) : Opr := ⟨x.kind, N, x.test, x.what⟩
def sendO (N : Nat) (L : List Opr) (p : Nat) : List Opr := L.modify p (sendTo N)
theorem rest_snoc (f : Tst → Nat → List Opr) (k : Int) (E : Nat) (y : Tst) : ∀ (r : List Tst) (a : Nat), oRest f k E (r ++ [y]) a = oRest f k E r a ++ (jumpO k E :: f y (a + (oRest f k E r a).length + 1)) := by
  intro r
  induction r with
  | nil => intro a; simp [oRest]
  | cons x r ih =>
    intro a
    simp only [List.cons_append, oRest, ih, List.append_assoc, List.length_cons, List.length_append]
    rw [show a + 1 + (f x (a + 1)).length + (oRest f k E r (a + 1 + (f x (a + 1)).length)).length + 1 = a + ((f x (a + 1)).length + (oRest f k E r (a + 1 + (f x (a + 1)).length)).length + 1) + 1 by omega]
theorem places_snoc (f : Tst → Nat → List Opr) (k : Int) (y : Tst) : ∀ (r : List Tst) (a : Nat), places f (r ++ [y]) a = places f r a ++ [a + (oRest f k 0 r a).length] := by
  intro r
  induction r with
  | nil => intro a; simp [places, oRest]
  | cons x r ih =>
    intro a
    simp only [List.cons_append, places, ih, oRest, List.length_cons, List.length_append]
    rw [show a + 1 + (f x (a + 1)).length + (oRest f k 0 r (a + 1 + (f x (a + 1)).length)).length = a + ((f x (a + 1)).length + (oRest f k 0 r (a + 1 + (f x (a + 1)).length)).length + 1) by omega]
theorem par_snoc (f : Tst → Nat → List Opr) (k : Int) (y : Tst) {l : List Tst} (hl : l ≠ []) (a : Nat) : parT f k (l ++ [y]) a = parT f k l a ++ (jumpO k 0 :: f y (a + (parT f k l a).length + 1)) := by
  cases l with
  | nil => exact absurd rfl hl
  | cons x r => simp only [List.cons_append, parT, rest_snoc, List.append_assoc, List.length_append, Nat.add_assoc]
theorem pl_snoc (f : Tst → Nat → List Opr) (k : Int) (y : Tst) {l : List Tst} (hl : l ≠ []) (a : Nat) : plT f (l ++ [y]) a = plT f l a ++ [a + (parT f k l a).length] := by
  cases l with
  | nil => exact absurd rfl hl
  | cons x r => simp only [List.cons_append, plT, parT, places_snoc f k, List.length_append, Nat.add_assoc]
theorem send_len (N : Nat) : ∀ (ps : List Nat) (L : List Opr), (ps.foldl (sendO N) L).length = L.length := by
  intro ps
  induction ps with
  | nil => intro L; rfl
  | cons p ps ih => intro L; rw [List.foldl_cons, ih]; simp [sendO]
theorem send_at (N : Nat) (L R : List Opr) (x : Opr) : sendO N (L ++ x :: R) L.length = L ++ sendTo N x :: R := by
  unfold sendO
  induction L with
  | nil => rfl
  | cons y L ih => simpa using ih
theorem send_jump (N : Nat) (k : Int) (e : Nat) : sendTo N (jumpO k e) = jumpO k N := rfl
theorem patch (f : Tst → Nat → List Opr) (k : Int) (N : Nat) : ∀ (r : List Tst) (L : List Opr), (places f r L.length).foldl (sendO N) (L ++ oRest f k 0 r L.length) = L ++ oRest f k N r L.length := by
  intro r
  induction r with
  | nil => intro L; rfl
  | cons y r ih =>
    intro L
    simp only [places, oRest, List.foldl_cons]
    rw [send_at, send_jump]
    have := ih (L ++ jumpO k N :: f y (L.length + 1))
    rw [show (L ++ jumpO k N :: f y (L.length + 1)).length = L.length + 1 + (f y (L.length + 1)).length by simp only [List.length_append, List.length_cons]; omega] at this
    simpa only [List.append_assoc, List.cons_append] using this
theorem patch_all (f : Tst → Nat → List Opr) (k : Int) (l : List Tst) (acc : List Opr) : (plT f l acc.length).foldl (sendO (acc ++ parT f k l acc.length).length) (acc ++ parT f k l acc.length) = acc ++ oTsts f k l acc.length := by
  cases l with
  | nil => rfl
  | cons x r =>
    simp only [plT, parT, oTsts]
    have := patch f k (acc ++ (f x acc.length ++ oRest f k 0 r (acc.length + (f x acc.length).length))).length r (acc ++ f x acc.length)
    rw [show (acc ++ f x acc.length).length = acc.length + (f x acc.length).length from List.length_append, List.append_assoc] at this
    rw [this]
    simp only [List.append_assoc, List.length_append, Nat.add_assoc]
theorem places_lt (f : Tst → Nat → List Opr) (k : Int) : ∀ (r : List Tst) (a : Nat), ∀ p ∈ places f r a, p < a + (oRest f k 0 r a).length := by
  intro r
  induction r with
  | nil => intro a p h; cases h
  | cons y r ih =>
    intro a p h
    simp only [places, List.mem_cons] at h
    simp only [oRest, List.length_cons, List.length_append]
    rcases h with rfl | h
    · omega
    · have := ih _ p h
      omega
theorem pl_lt (f : Tst → Nat → List Opr) (k : Int) (l : List Tst) (acc : List Opr) : ∀ p ∈ plT f l acc.length, p < (acc ++ parT f k l acc.length).length := by
  cases l with
  | nil => intro p h; cases h
  | cons x r =>
    intro p h
    have := places_lt f k r _ p h
    simp only [parT, List.length_append]
    omega
theorem pl_short (f : Tst → Nat → List Opr) : ∀ (l : List Tst) (a : Nat), (plT f l a).length ≤ l.length := by
  have hp : ∀ (r : List Tst) (a : Nat), (places f r a).length = r.length := by
    intro r
    induction r with
    | nil => intro a; rfl
    | cons y r ih => intro a; simp [places, ih]
  intro l a
  cases l with
  | nil => simp [plT]
  | cons x r => simp [plT, hp]

/- What ops are. -/
def OpGood (Pt : Tst → Prop) (Pc : Cmd → Prop) (a N : Nat) (x : Opr) : Prop :=
  (∃ (k : Int) (to : Nat), (k = 3 ∨ k = 4 ∨ k = 5) ∧ x = jumpO k to ∧ a < to ∧ to ≤ N) ∨ x = flipO ∨ (∃ t, Pt t ∧ x = askO t) ∨ ∃ c, Pc c ∧ x = doO c
def AllGood (Pt : Tst → Prop) (Pc : Cmd → Prop) (a N : Nat) (l : List Opr) : Prop := ∀ (i : Nat) (x : Opr), l[i]? = some x → OpGood Pt Pc (a + i) N x
theorem AllGood.app {Pt : Tst → Prop} {Pc : Cmd → Prop} {a b N : Nat} {l m : List Opr} (h : AllGood Pt Pc a N l) (k : AllGood Pt Pc b N m) (e : b = a + l.length) : AllGood Pt Pc a N (l ++ m) := by
  subst e
  intro i x hx
  rcases Nat.lt_or_ge i l.length with hi | hi
  · rw [List.getElem?_append_left hi] at hx
    exact h i x hx
  · rw [List.getElem?_append_right hi] at hx
    have := k _ x hx
    rwa [show a + l.length + (i - l.length) = a + i by omega] at this
theorem AllGood.cons {Pt : Tst → Prop} {Pc : Cmd → Prop} {a b N : Nat} {x : Opr} {m : List Opr} (h : OpGood Pt Pc a N x) (k : AllGood Pt Pc b N m) (e : b = a + 1) : AllGood Pt Pc a N (x :: m) := by
  subst e
  intro i y hy
  cases i with
  | zero => simp at hy; subst hy; exact h
  | succ i =>
    have := k i y (by simpa using hy)
    rwa [show a + 1 + i = a + (i + 1) by omega] at this
theorem AllGood.nil (Pt : Tst → Prop) (Pc : Cmd → Prop) (a N : Nat) : AllGood Pt Pc a N [] := fun i x h => by simp at h
theorem OpGood.more {Pt : Tst → Prop} {Pc : Cmd → Prop} {a N M : Nat} {x : Opr} (h : OpGood Pt Pc a N x) (hN : N ≤ M) : OpGood Pt Pc a M x := by
  rcases h with ⟨k, to, hk, e, h1, h2⟩ | h
  · exact .inl ⟨k, to, hk, e, h1, by omega⟩
  · exact .inr h
theorem AllGood.more {Pt : Tst → Prop} {Pc : Cmd → Prop} {a N M : Nat} {l : List Opr} (h : AllGood Pt Pc a N l) (hN : N ≤ M) : AllGood Pt Pc a M l := fun i x hx => (h i x hx).more hN
def allT (Pt : Tst → Prop) : Nat → Tst → Prop
  | 0, _ => True
  | n + 1, t => (t.kind ≠ 3 → t.kind ≠ 4 → t.kind ≠ 5 → Pt t) ∧ ∀ x ∈ t.tests, allT Pt n x
def allC (Pt : Tst → Prop) (Pc : Cmd → Prop) : Nat → Cmd → Prop
  | 0, _ => True
  | n + 1, c => (c.kind ≠ 2 → Pc c) ∧ (c.kind = 2 → allT Pt n c.test ∧ (∀ x ∈ c.thn, allC Pt Pc n x) ∧ ∀ x ∈ c.els, allC Pt Pc n x)
theorem rest_good {Pt : Tst → Prop} {Pc : Cmd → Prop} {f : Tst → Nat → List Opr} {k : Int} (hk : k = 3 ∨ k = 4 ∨ k = 5) (E : Nat) : ∀ (r : List Tst) (a : Nat), (∀ y ∈ r, ∀ b, AllGood Pt Pc b (b + (f y b).length) (f y b)) → E = a + (oRest f k E r a).length → AllGood Pt Pc a E (oRest f k E r a) := by
  intro r
  induction r with
  | nil => intro a _ _; exact AllGood.nil _ _ _ _
  | cons y r ih =>
    intro a h hE
    have hE' := hE
    simp only [oRest, List.length_cons, List.length_append] at hE
    simp only [oRest]
    refine AllGood.cons (.inl ⟨k, E, hk, rfl, by omega, Nat.le_refl _⟩) (b := a + 1) ?_ rfl
    refine AllGood.app ((h y (by simp) (a + 1)).more (by omega)) (b := a + 1 + (f y (a + 1)).length) ?_ rfl
    exact ih _ (fun z hz => h z (by simp [hz])) (by omega)
theorem tsts_good {Pt : Tst → Prop} {Pc : Cmd → Prop} {f : Tst → Nat → List Opr} {k : Int} (hk : k = 3 ∨ k = 4 ∨ k = 5) (l : List Tst) (a : Nat) (h : ∀ y ∈ l, ∀ b, AllGood Pt Pc b (b + (f y b).length) (f y b)) : AllGood Pt Pc a (a + (oTsts f k l a).length) (oTsts f k l a) := by
  cases l with
  | nil => exact AllGood.nil _ _ _ _
  | cons x r =>
    have hl0 := rest_len f k (a + (f x a).length + (oRest f k 0 r (a + (f x a).length)).length) 0 r (a + (f x a).length)
    simp only [oTsts, List.length_append, hl0]
    rw [← Nat.add_assoc]
    exact AllGood.app ((h x (by simp) a).more (by omega)) (rest_good hk _ r _ (fun y hy => h y (by simp [hy])) (by rw [hl0])) rfl
theorem tst_good {Pt : Tst → Prop} {Pc : Cmd → Prop} : ∀ (n : Nat) (t : Tst), allT Pt n t → ∀ a, AllGood Pt Pc a (a + (oTst n t a).length) (oTst n t a) := by
  intro n
  induction n with
  | zero => intro t _ a; exact AllGood.nil _ _ _ _
  | succ n ih =>
    intro t h a
    obtain ⟨h1, h2⟩ := h
    simp only [oTst]
    by_cases k3 : t.kind = 3
    · rw [if_pos k3]
      have hf : ∀ b, AllGood Pt Pc b (b + 1) [flipO] := fun b => AllGood.cons (.inr (.inl rfl)) (AllGood.nil _ _ _ _) rfl
      cases ht : t.tests with
      | nil => exact hf a
      | cons x r =>
        simp only [List.length_append, List.length_cons, List.length_nil]
        exact AllGood.app ((ih x (h2 x (by rw [ht]; simp)) a).more (by omega)) ((hf _).more (by omega)) rfl
    · rw [if_neg k3]
      by_cases k4 : t.kind = 4
      · rw [if_pos k4]
        exact tsts_good (.inr (.inl rfl)) t.tests a fun y hy b => ih y (h2 y hy) b
      · rw [if_neg k4]
        by_cases k5 : t.kind = 5
        · rw [if_pos k5]
          exact tsts_good (.inl rfl) t.tests a fun y hy b => ih y (h2 y hy) b
        · rw [if_neg k5]
          exact AllGood.cons (.inr (.inr (.inl ⟨t, h1 k3 k4 k5, rfl⟩))) (AllGood.nil _ _ _ _) rfl
theorem cmds_good {Pt : Tst → Prop} {Pc : Cmd → Prop} {f : Cmd → Nat → List Opr} : ∀ (l : List Cmd) (a : Nat), (∀ y ∈ l, ∀ b, AllGood Pt Pc b (b + (f y b).length) (f y b)) → AllGood Pt Pc a (a + (oCmds f l a).length) (oCmds f l a) := by
  intro l
  induction l with
  | nil => intro a _; exact AllGood.nil _ _ _ _
  | cons c l ih =>
    intro a h
    simp only [oCmds, List.length_append]
    exact AllGood.app ((h c (by simp) a).more (by omega)) ((ih _ fun y hy => h y (by simp [hy])).more (by omega)) rfl
theorem cmd_good {Pt : Tst → Prop} {Pc : Cmd → Prop} : ∀ (n : Nat) (c : Cmd), allC Pt Pc n c → ∀ a, AllGood Pt Pc a (a + (oCmd n c a).length) (oCmd n c a) := by
  intro n
  induction n with
  | zero => intro t _ a; exact AllGood.nil _ _ _ _
  | succ n ih =>
    intro c h a
    obtain ⟨h1, h2⟩ := h
    rw [oCmd]
    by_cases k2 : c.kind = 2
    · obtain ⟨hT, hA, hB⟩ := h2 k2
      rw [if_pos k2]
      have gT := tst_good (Pc := Pc) n c.test hT a
      have gA := cmds_good c.thn (a + (oTst n c.test a).length + 1) fun y hy b => ih y (hA y hy) b
      have gB := cmds_good c.els (a + (oTst n c.test a).length + 1 + (oCmds (oCmd n) c.thn (a + (oTst n c.test a).length + 1)).length + 1) fun y hy b => ih y (hB y hy) b
      unfold oIf
      split
      · simp only [List.length_append, List.length_cons]
        refine AllGood.app (gT.more (by omega)) (b := a + (oTst n c.test a).length) ?_ rfl
        refine AllGood.cons (.inl ⟨4, _, .inr (.inl rfl), rfl, by omega, by omega⟩) (b := a + (oTst n c.test a).length + 1) ?_ rfl
        refine AllGood.app (gA.more (by omega)) (b := a + (oTst n c.test a).length + 1 + (oCmds (oCmd n) c.thn (a + (oTst n c.test a).length + 1)).length) ?_ rfl
        exact AllGood.cons (.inl ⟨5, _, .inr (.inr rfl), rfl, by omega, by omega⟩) (gB.more (by omega)) rfl
      · simp only [List.length_append, List.length_cons]
        refine AllGood.app (gT.more (by omega)) (b := a + (oTst n c.test a).length) ?_ rfl
        exact AllGood.cons (.inl ⟨4, _, .inr (.inl rfl), rfl, by omega, by omega⟩) (gA.more (by omega)) rfl
    · rw [if_neg k2]
      exact AllGood.cons (.inr (.inr (.inr ⟨c, h1 k2, rfl⟩))) (AllGood.nil _ _ _ _) rfl
theorem comp_good {Pt : Tst → Prop} {Pc : Cmd → Prop} (n : Nat) (l : List Cmd) (h : ∀ c ∈ l, allC Pt Pc n c) : AllGood Pt Pc 0 (compM n l).length (compM n l) := by
  have := cmds_good (Pt := Pt) (Pc := Pc) (f := oCmd n) l 0 fun y hy b => cmd_good n y (h y hy) b
  rwa [Nat.zero_add] at this
/- Counting. -/
def asksN (l : List Opr) : Nat := l.countP fun x => decide (x.kind = 1)
def doesN (l : List Opr) : Nat := l.countP fun x => decide (x.kind = 6)
def leavesP : Nat → Tst → Nat
  | 0, _ => 0
  | n + 1, t => if t.tests.length = 0 then 1 else (t.tests.map (leavesP n)).sum
def cntD : Nat → Cmd → Nat
  | 0, _ => 0
  | n + 1, c => if c.kind = 2 then (c.thn.map (cntD n)).sum + (c.els.map (cntD n)).sum else 1
def cntA : Nat → Cmd → Nat
  | 0, _ => 0
  | n + 1, c => if c.kind = 2 then (c.thn.map (cntA n)).sum + (c.els.map (cntA n)).sum + leavesP n c.test else 0
/-- A test has as many others in it as its kind has. -/
def shT : Nat → Tst → Prop
  | 0, _ => False
  | n + 1, t => (t.kind = 3 → t.tests.length = 1) ∧ (t.kind = 4 ∨ t.kind = 5 → t.tests ≠ []) ∧ (t.kind ≠ 3 → t.kind ≠ 4 → t.kind ≠ 5 → t.tests = []) ∧ ∀ x ∈ t.tests, shT n x
def shC : Nat → Cmd → Prop
  | 0, _ => False
  | n + 1, c => c.kind = 2 → shT n c.test ∧ (∀ x ∈ c.thn, shC n x) ∧ ∀ x ∈ c.els, shC n x
theorem asks_app (l m : List Opr) : asksN (l ++ m) = asksN l + asksN m := List.countP_append
theorem does_app (l m : List Opr) : doesN (l ++ m) = doesN l + doesN m := List.countP_append
theorem asks_jump {k : Int} (hk : k = 3 ∨ k = 4 ∨ k = 5) (e : Nat) (m : List Opr) : asksN (jumpO k e :: m) = asksN m := by
  rcases hk with rfl | rfl | rfl <;> simp [asksN, jump_kind]
theorem does_jump {k : Int} (hk : k = 3 ∨ k = 4 ∨ k = 5) (e : Nat) (m : List Opr) : doesN (jumpO k e :: m) = doesN m := by
  rcases hk with rfl | rfl | rfl <;> simp [doesN, jump_kind]
theorem rest_count {f : Tst → Nat → List Opr} {g : Tst → Nat} {k : Int} (hk : k = 3 ∨ k = 4 ∨ k = 5) (E : Nat) : ∀ (r : List Tst) (a : Nat), (∀ y ∈ r, ∀ b, asksN (f y b) = g y ∧ doesN (f y b) = 0) → asksN (oRest f k E r a) = (r.map g).sum ∧ doesN (oRest f k E r a) = 0 := by
  intro r
  induction r with
  | nil => intro a _; exact ⟨rfl, rfl⟩
  | cons y r ih =>
    intro a h
    have h1 := h y (by simp) (a + 1)
    have h2 := ih (a + 1 + (f y (a + 1)).length) fun z hz => h z (by simp [hz])
    simp only [oRest, asks_jump hk, does_jump hk, asks_app, does_app, h1, h2, List.map_cons, List.sum_cons, and_self]
theorem tsts_count {f : Tst → Nat → List Opr} {g : Tst → Nat} {k : Int} (hk : k = 3 ∨ k = 4 ∨ k = 5) (l : List Tst) (a : Nat) (h : ∀ y ∈ l, ∀ b, asksN (f y b) = g y ∧ doesN (f y b) = 0) : asksN (oTsts f k l a) = (l.map g).sum ∧ doesN (oTsts f k l a) = 0 := by
  cases l with
  | nil => exact ⟨rfl, rfl⟩
  | cons x r =>
    have h1 := h x (by simp) a
    have h2 := rest_count (f := f) (g := g) hk (a + (f x a).length + (oRest f k 0 r (a + (f x a).length)).length) r (a + (f x a).length) fun z hz => h z (by simp [hz])
    simp only [oTsts, asks_app, does_app, h1, h2, List.map_cons, List.sum_cons, and_self]
theorem tst_count : ∀ (n : Nat) (t : Tst), shT n t → ∀ a, asksN (oTst n t a) = leavesP n t ∧ doesN (oTst n t a) = 0 := by
  intro n
  induction n with
  | zero => intro t h; exact h.elim
  | succ n ih =>
    intro t h a
    obtain ⟨h1, h2, h3, h4⟩ := h
    simp only [oTst, leavesP]
    by_cases k3 : t.kind = 3
    · rw [if_pos k3]
      have hl := h1 k3
      cases ht : t.tests with
      | nil => rw [ht] at hl; simp at hl
      | cons x r =>
        have hr : r = [] := by rw [ht] at hl; simpa using hl
        have := ih x (h4 x (by rw [ht]; simp)) a
        subst hr
        simp only [asks_app, does_app, this]
        simp [asksN, doesN, flipO]
    · rw [if_neg k3]
      by_cases k4 : t.kind = 4
      · rw [if_pos k4, if_neg (by have := h2 (.inl k4); intro e; exact this (List.length_eq_zero_iff.1 e))]
        exact tsts_count (.inr (.inl rfl)) t.tests a fun y hy b => ih y (h4 y hy) b
      · rw [if_neg k4]
        by_cases k5 : t.kind = 5
        · rw [if_pos k5, if_neg (by have := h2 (.inr k5); intro e; exact this (List.length_eq_zero_iff.1 e))]
          exact tsts_count (.inl rfl) t.tests a fun y hy b => ih y (h4 y hy) b
        · rw [if_neg k5, if_pos (by rw [h3 k3 k4 k5]; rfl)]
          simp [asksN, doesN, askO]
theorem cmds_count {f : Cmd → Nat → List Opr} {g d : Cmd → Nat} : ∀ (l : List Cmd) (a : Nat), (∀ y ∈ l, ∀ b, asksN (f y b) = g y ∧ doesN (f y b) = d y) → asksN (oCmds f l a) = (l.map g).sum ∧ doesN (oCmds f l a) = (l.map d).sum := by
  intro l
  induction l with
  | nil => intro a _; exact ⟨rfl, rfl⟩
  | cons c l ih =>
    intro a h
    have h1 := h c (by simp) a
    have h2 := ih (a + (f c a).length) fun z hz => h z (by simp [hz])
    simp only [oCmds, asks_app, does_app, h1, h2, List.map_cons, List.sum_cons, and_self]
theorem cmd_count : ∀ (n : Nat) (c : Cmd), shC n c → ∀ a, asksN (oCmd n c a) = cntA n c ∧ doesN (oCmd n c a) = cntD n c := by
  intro n
  induction n with
  | zero => intro t h; exact h.elim
  | succ n ih =>
    intro c h a
    rw [oCmd, cntA, cntD]
    by_cases k2 : c.kind = 2
    · obtain ⟨hT, hA, hB⟩ := h k2
      rw [if_pos k2, if_pos k2, if_pos k2]
      have gT := tst_count n c.test hT a
      have gA := cmds_count (f := oCmd n) (g := cntA n) (d := cntD n) c.thn (a + (oTst n c.test a).length + 1) fun y hy b => ih y (hA y hy) b
      have gB := cmds_count (f := oCmd n) (g := cntA n) (d := cntD n) c.els (a + (oTst n c.test a).length + 1 + (oCmds (oCmd n) c.thn (a + (oTst n c.test a).length + 1)).length + 1) fun y hy b => ih y (hB y hy) b
      unfold oIf
      split
      · simp only [asks_app, does_app, asks_jump (.inr (.inl rfl)), asks_jump (.inr (.inr rfl)), does_jump (.inr (.inl rfl)), does_jump (.inr (.inr rfl)), gT, gA, gB]
        omega
      · rename_i he
        have : c.els = [] := by
          cases hc : c.els with
          | nil => rfl
          | cons y r => rw [hc] at he; simp at he
        rw [this]
        simp only [asks_app, does_app, asks_jump (.inr (.inl rfl)), does_jump (.inr (.inl rfl)), gT, gA, List.map_nil, List.sum_nil]
        omega
    · rw [if_neg k2, if_neg k2, if_neg k2]
      simp [asksN, doesN, doO]
theorem comp_count (n : Nat) (l : List Cmd) (h : ∀ c ∈ l, shC n c) : asksN (compM n l) = (l.map (cntA n)).sum ∧ doesN (compM n l) = (l.map (cntD n)).sum := cmds_count l 0 fun y hy b => cmd_count n y (h y hy) b
/- No op is without a token. -/
theorem rest_tok {f : Tst → Nat → List Opr} {g : Tst → List Tok} {k : Int} (E : Nat) : ∀ (r : List Tst) (a : Nat), (∀ y ∈ r, ∀ b, (f y b).length ≤ (g y).length) → (oRest f k E r a).length ≤ (r.flatMap fun y => markT 44 :: g y).length := by
  intro r
  induction r with
  | nil => intro a _; exact Nat.le_refl _
  | cons y r ih =>
    intro a h
    have h1 := h y (by simp) (a + 1)
    have h2 := ih (a + 1 + (f y (a + 1)).length) fun z hz => h z (by simp [hz])
    simp only [oRest, List.length_cons, List.length_append, List.flatMap_cons]
    omega
theorem tsts_tok {f : Tst → Nat → List Opr} {g : Tst → List Tok} {k : Int} (l : List Tst) (a : Nat) (h : ∀ y ∈ l, ∀ b, (f y b).length ≤ (g y).length) : (oTsts f k l a).length ≤ (sepT g l).length := by
  cases l with
  | nil => exact Nat.le_refl _
  | cons x r =>
    have h1 := h x (by simp) a
    have h2 := rest_tok (f := f) (g := g) (k := k) (a + (f x a).length + (oRest f k 0 r (a + (f x a).length)).length) r (a + (f x a).length) fun z hz => h z (by simp [hz])
    simp only [oTsts, sepT, List.length_append]
    omega
theorem tst_tok : ∀ (n : Nat) (t : Tst) (a : Nat), (oTst n t a).length ≤ (testT n t).length := by
  intro n
  induction n with
  | zero => intro t a; exact Nat.le_refl _
  | succ n ih =>
    intro t a
    simp only [oTst, testT]
    by_cases k3 : t.kind = 3
    · rw [if_pos k3, if_pos k3]
      cases ht : t.tests with
      | nil => simp
      | cons x r =>
        have := ih x a
        simp only [List.head?_cons, Option.map_some, Option.getD_some, List.length_append, List.length_cons, List.length_nil]
        omega
    · rw [if_neg k3, if_neg k3]
      by_cases k4 : t.kind = 4
      · rw [if_pos k4, if_pos (.inl k4)]
        have := tsts_tok (f := oTst n) (g := testT n) (k := 4) t.tests a fun y _ b => ih y b
        simp only [List.length_cons, List.length_append, List.length_nil]
        omega
      · rw [if_neg k4]
        by_cases k5 : t.kind = 5
        · rw [if_pos k5, if_pos (.inr k5)]
          have := tsts_tok (f := oTst n) (g := testT n) (k := 3) t.tests a fun y _ b => ih y b
          simp only [List.length_cons, List.length_append, List.length_nil]
          omega
        · rw [if_neg k5]
          simp only [List.length_cons, List.length_nil]
          omega
theorem cmds_tok {f : Cmd → Nat → List Opr} {g : Cmd → List Tok} : ∀ (l : List Cmd) (a : Nat), (∀ y ∈ l, ∀ b, (f y b).length ≤ (g y).length) → (oCmds f l a).length ≤ (l.flatMap g).length := by
  intro l
  induction l with
  | nil => intro a _; exact Nat.le_refl _
  | cons c l ih =>
    intro a h
    have h1 := h c (by simp) a
    have h2 := ih (a + (f c a).length) fun z hz => h z (by simp [hz])
    simp only [oCmds, List.flatMap_cons, List.length_append]
    omega
theorem cmd_tok : ∀ (n : Nat) (c : Cmd) (a : Nat), (oCmd n c a).length ≤ (cmdT n c).length := by
  intro n
  induction n with
  | zero => intro c a; simp [oCmd]
  | succ n ih =>
    intro c a
    unfold cmdT
    rw [oCmd, restT]
    by_cases k2 : c.kind = 2
    · rw [if_pos k2, if_pos k2]
      have gT := tst_tok n c.test a
      have gA := cmds_tok (f := oCmd n) (g := cmdT n) c.thn (a + (oTst n c.test a).length + 1) fun y _ b => ih y b
      have gB := cmds_tok (f := oCmd n) (g := cmdT n) c.els (a + (oTst n c.test a).length + 1 + (oCmds (oCmd n) c.thn (a + (oTst n c.test a).length + 1)).length + 1) fun y _ b => ih y b
      have eA : (c.thn.flatMap (cmdT n)).length = (c.thn.flatMap fun x => wordT (wordOf 0 x.kind.toNat) :: restT n x).length := rfl
      have eB : (c.els.flatMap (cmdT n)).length = (c.els.flatMap fun x => wordT (wordOf 0 x.kind.toNat) :: restT n x).length := rfl
      unfold oIf
      split
      · rename_i he
        simp only [decide_eq_true_eq] at he
        simp only [List.length_append, List.length_cons, List.length_nil]
        cases hq : elsifP c.els with
        | some x =>
          obtain ⟨h1, h2⟩ := elsifP_some hq
          rw [h1] at gB ⊢
          simp only [List.flatMap_cons, List.flatMap_nil, List.append_nil] at gB
          unfold cmdT at gB
          simp only [List.length_cons] at gB ⊢
          omega
        | none =>
          simp only
          rw [if_neg (by omega)]
          simp only [List.length_append, List.length_cons, List.length_nil]
          omega
      · simp only [List.length_append, List.length_cons, List.length_nil]
        omega
    · rw [if_neg k2]
      simp only [List.length_cons, List.length_nil]
      omega
theorem comp_tok (n : Nat) (l : List Cmd) : (compM n l).length ≤ (cmdsT n l).length := cmds_tok l 0 fun y _ b => cmd_tok n y b
end Go.Proofs.YtlcnfpeabnnjoaaGreatDoor
