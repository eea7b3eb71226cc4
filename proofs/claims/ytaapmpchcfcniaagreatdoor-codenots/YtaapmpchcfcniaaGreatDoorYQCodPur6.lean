/-
  Scripts as lists of ops: the plain meaning of P8.1 and P8.2.
  Boxes of some cells: what each cell holds, and that none is frozen.
  What the library's search by a function does, whatever the function: the walks.
  slices.IndexFunc and ContainsFunc on actions: the walks.
  Plain facts on texts of lists of bytes (empty or not, their pieces) and on worlds. No program is named here.
  A token in a block of its own, as the walks of package token make it.
  Rows of tokens in memory, and those that a call has made.
-/
import Derived.Test.YtaapmpchcfcniaaGreatDoorYQPure2
import Derived.WalkKit
import Derived.ProofKit
import Derived.Test.YtaapmpchcfcniaaGreatDoorRows
import Derived.Shelf.Abstract
import Derived.Lib.Strings
import Derived.Below
import Derived.Deep.Draws
import Derived.WalkSpells
import Derived.WalkLawsBesides
import Derived.Laws.IdiomStrings
namespace Go.Proofs.YtaapmpchcfcniaaGreatDoor
open Go.RowKit Go.Proofs
structure Opr where
  kind : Int
  to : Int
  test : Tst
  what : Cmd
def zY : Cmd := ⟨0, [], zd, [], []⟩
def qG (c : Cmd) : Cmd := ⟨c.kind, c.texts, zd, [], []⟩
def qH (t : Tst) : Tst := ⟨t.kind, t.mat, t.part, t.names, t.keys, t.over, t.limit, []⟩
def doO (c : Cmd) : Opr := ⟨6, 0, zd, qG c⟩
def askO (t : Tst) : Opr := ⟨1, 0, qH t, zY⟩
def jaa : Opr := ⟨2, 0, zd, zY⟩
def zk (k : Int) (to : Nat) : Opr := ⟨k, to, zd, zY⟩
def zt (f : Tst → Nat → List Opr) (k : Int) (E : Nat) : List Tst → Nat → List Opr
  | [], _ => []
  | y :: r, a => zk k E :: (f y (a + 1) ++ zt f k E r (a + 1 + (f y (a + 1)).length))
def jaO (f : Tst → Nat → List Opr) (k : Int) : List Tst → Nat → List Opr
  | [], _ => []
  | x :: r, a => f x a ++ zt f k (a + (f x a).length + (zt f k 0 r (a + (f x a).length)).length) r (a + (f x a).length)
def oTst : Nat → Tst → Nat → List Opr
  | 0, _, _ => []
  | n + 1, t, a =>
    if t.kind = 3 then (match t.tests with | [] => [] | x :: _ => oTst n x a) ++ [jaa]
    else if t.kind = 4 then jaO (oTst n) 4 t.tests a
    else if t.kind = 5 then jaO (oTst n) 3 t.tests a
    else [askO t]
def zL (f : Cmd → Nat → List Opr) : List Cmd → Nat → List Opr
  | [], _ => []
  | c :: r, a => f c a ++ zL f r (a + (f c a).length)
def oIf (a : Nat) (T A : List Opr) (els : Bool) (B : List Opr) : List Opr :=
  if els = true then T ++ (zk 4 (a + T.length + 1 + A.length + 1) :: (A ++ (zk 5 (a + T.length + 1 + A.length + 1 + B.length) :: B)))
  else T ++ (zk 4 (a + T.length + 1 + A.length) :: A)
def oCmd : Nat → Cmd → Nat → List Opr
  | 0, _, _ => []
  | n + 1, c, a =>
    if c.kind = 2 then
      oIf a (oTst n c.test a) (zL (oCmd n) c.thn (a + (oTst n c.test a).length + 1)) (decide (0 < c.els.length)) (zL (oCmd n) c.els (a + (oTst n c.test a).length + 1 + (zL (oCmd n) c.thn (a + (oTst n c.test a).length + 1)).length + 1))
    else [doO c]
theorem jjY (f : Tst → Nat → List Opr) (k : Int) (E E' : Nat) : ∀ (r : List Tst) (a : Nat), (zt f k E r a).length = (zt f k E' r a).length := by
  intro r
  induction r with
  | nil => intro a; rfl
  | cons y r ih => intro a; simp only [zt, List.length_cons, List.length_append, ih (a + 1 + (f y (a + 1)).length)]
def vv (n : Nat) (l : List Cmd) : List Opr := zL (oCmd n) l 0
def places (f : Tst → Nat → List Opr) : List Tst → Nat → List Nat
  | [], _ => []
  | y :: r, a => a :: places f r (a + 1 + (f y (a + 1)).length)
def parT (f : Tst → Nat → List Opr) (k : Int) : List Tst → Nat → List Opr
  | [], _ => []
  | x :: r, a => f x a ++ zt f k 0 r (a + (f x a).length)
def plT (f : Tst → Nat → List Opr) : List Tst → Nat → List Nat
  | [], _ => []
  | x :: r, a => places f r (a + (f x a).length)
def jdO (N : Nat) (x : Opr) : Opr := ⟨x.kind, N, x.test, x.what⟩
def qF (N : Nat) (L : List Opr) (p : Nat) : List Opr := L.modify p (jdO N)
theorem jii (f : Tst → Nat → List Opr) (k : Int) (E : Nat) (y : Tst) : ∀ (r : List Tst) (a : Nat), zt f k E (r ++ [y]) a = zt f k E r a ++ (zk k E :: f y (a + (zt f k E r a).length + 1)) := by
  intro r
  induction r with
  | nil => intro a; simp [zt]
  | cons x r ih =>
    intro a; simp only [List.cons_append, zt, ih, List.append_assoc, List.length_cons, List.length_append]; rw [show a + 1 + (f x (a + 1)).length + (zt f k E r (a + 1 + (f x (a + 1)).length)).length + 1 = a + ((f x (a + 1)).length + (zt f k E r (a + 1 + (f x (a + 1)).length)).length + 1) + 1 by omega]
theorem jew (f : Tst → Nat → List Opr) (k : Int) (y : Tst) : ∀ (r : List Tst) (a : Nat), places f (r ++ [y]) a = places f r a ++ [a + (zt f k 0 r a).length] := by
  intro r
  induction r with
  | nil => intro a; simp [places, zt]
  | cons x r ih =>
    intro a; simp only [List.cons_append, places, ih, zt, List.length_cons, List.length_append]; rw [show a + 1 + (f x (a + 1)).length + (zt f k 0 r (a + 1 + (f x (a + 1)).length)).length = a + ((f x (a + 1)).length + (zt f k 0 r (a + 1 + (f x (a + 1)).length)).length + 1) by omega]
theorem jjR (f : Tst → Nat → List Opr) (k : Int) (y : Tst) {l : List Tst} (hl : l ≠ []) (a : Nat) : parT f k (l ++ [y]) a = parT f k l a ++ (zk k 0 :: f y (a + (parT f k l a).length + 1)) := by
  cases l with
  | nil => exact absurd rfl hl
  | cons x r => simp only [List.cons_append, parT, jii, List.append_assoc, List.length_append, Nat.add_assoc]
theorem jlE (f : Tst → Nat → List Opr) (k : Int) (y : Tst) {l : List Tst} (hl : l ≠ []) (a : Nat) : plT f (l ++ [y]) a = plT f l a ++ [a + (parT f k l a).length] := by
  cases l with
  | nil => exact absurd rfl hl
  | cons x r => simp only [List.cons_append, plT, parT, jew f k, List.length_append, Nat.add_assoc]
theorem jey (N : Nat) (L R : List Opr) (x : Opr) : qF N (L ++ x :: R) L.length = L ++ jdO N x :: R := by
  unfold qF
  induction L with
  | nil => rfl
  | cons y L ih => simpa using ih
theorem jio (N : Nat) (k : Int) (e : Nat) : jdO N (zk k e) = zk k N := rfl
theorem jm1 (f : Tst → Nat → List Opr) (k : Int) (N : Nat) : ∀ (r : List Tst) (L : List Opr), (places f r L.length).foldl (qF N) (L ++ zt f k 0 r L.length) = L ++ zt f k N r L.length := by
  intro r
  induction r with
  | nil => intro L; rfl
  | cons y r ih =>
    intro L; simp only [places, zt, List.foldl_cons]; rw [jey, jio]; have := ih (L ++ zk k N :: f y (L.length + 1)); rw [show (L ++ zk k N :: f y (L.length + 1)).length = L.length + 1 + (f y (L.length + 1)).length by simp only [List.length_append, List.length_cons]; omega] at this
    simpa only [List.append_assoc, List.cons_append] using this
theorem jh9 (f : Tst → Nat → List Opr) (k : Int) (l : List Tst) (acc : List Opr) : (plT f l acc.length).foldl (qF (acc ++ parT f k l acc.length).length) (acc ++ parT f k l acc.length) = acc ++ jaO f k l acc.length := by
  cases l with
  | nil => rfl
  | cons x r =>
    simp only [plT, parT, jaO]; have := jm1 f k (acc ++ (f x acc.length ++ zt f k 0 r (acc.length + (f x acc.length).length))).length r (acc ++ f x acc.length); rw [show (acc ++ f x acc.length).length = acc.length + (f x acc.length).length from List.length_append, List.append_assoc] at this; rw [this]; simp only [List.append_assoc, List.length_append, Nat.add_assoc]
theorem jid (f : Tst → Nat → List Opr) (k : Int) : ∀ (r : List Tst) (a : Nat), ∀ p ∈ places f r a, p < a + (zt f k 0 r a).length := by
  intro r
  induction r with
  | nil => intro a p h; cases h
  | cons y r ih =>
    intro a p h; simp only [places, List.mem_cons] at h; simp only [zt, List.length_cons, List.length_append]
    rcases h with rfl | h
    · omega
    · have := ih _ p h; omega
theorem jm2 (f : Tst → Nat → List Opr) (k : Int) (l : List Tst) (acc : List Opr) : ∀ p ∈ plT f l acc.length, p < (acc ++ parT f k l acc.length).length := by
  cases l with
  | nil => intro p h; cases h
  | cons x r =>
    intro p h; have := jid f k r _ p h; simp only [parT, List.length_append]; omega
theorem jfc (f : Tst → Nat → List Opr) : ∀ (l : List Tst) (a : Nat), (plT f l a).length ≤ l.length := by
  have hp : ∀ (r : List Tst) (a : Nat), (places f r a).length = r.length := by
    intro r
    induction r with
    | nil => intro a; rfl
    | cons y r ih => intro a; simp [places, ih]
  intro l a; cases l with
  | nil => simp [plT]
  | cons x r => simp [plT, hp]
def OpGood (Pt : Tst → Prop) (Pc : Cmd → Prop) (a N : Nat) (x : Opr) : Prop :=
  (∃ (k : Int) (to : Nat), (k = 3 ∨ k = 4 ∨ k = 5) ∧ x = zk k to ∧ a < to ∧ to ≤ N) ∨ x = jaa ∨ (∃ t, Pt t ∧ x = askO t) ∨ ∃ c, Pc c ∧ x = doO c
def AllGood (Pt : Tst → Prop) (Pc : Cmd → Prop) (a N : Nat) (l : List Opr) : Prop := ∀ (i : Nat) (x : Opr), l[i]? = some x → OpGood Pt Pc (a + i) N x
theorem AllGood.app {Pt : Tst → Prop} {Pc : Cmd → Prop} {a b N : Nat} {l m : List Opr} (h : AllGood Pt Pc a N l) (k : AllGood Pt Pc b N m) (e : b = a + l.length) : AllGood Pt Pc a N (l ++ m) := by
  subst e; intro i x hx
  rcases Nat.lt_or_ge i l.length with hi | hi
  · rw [List.getElem?_append_left hi] at hx; exact h i x hx
  · rw [List.getElem?_append_right hi] at hx; have := k _ x hx
    rwa [show a + l.length + (i - l.length) = a + i by omega] at this
theorem AllGood.cons {Pt : Tst → Prop} {Pc : Cmd → Prop} {a b N : Nat} {x : Opr} {m : List Opr} (h : OpGood Pt Pc a N x) (k : AllGood Pt Pc b N m) (e : b = a + 1) : AllGood Pt Pc a N (x :: m) := by
  subst e; intro i y hy; cases i with
  | zero => simp at hy; subst hy; exact h
  | succ i =>
    have := k i y (by simpa using hy)
    rwa [show a + 1 + i = a + (i + 1) by omega] at this
theorem AllGood.nil (Pt : Tst → Prop) (Pc : Cmd → Prop) (a N : Nat) : AllGood Pt Pc a N [] := fun i x h => by simp at h
theorem OpGood.more {Pt : Tst → Prop} {Pc : Cmd → Prop} {a N M : Nat} {x : Opr} (h : OpGood Pt Pc a N x) (hN : N ≤ M) : OpGood Pt Pc a M x := by
  rcases h with ⟨k, to, hk, e, h1, h2⟩ | h
  · exact .inl ⟨k, to, hk, e, h1, by omega⟩
  · exact .inr h
theorem AllGood.more {Pt : Tst → Prop} {Pc : Cmd → Prop} {a N M : Nat} {l : List Opr} (h : AllGood Pt Pc a N l) (hN : N ≤ M) : AllGood Pt Pc a M l := fun i x hx => (h i x hx).more hN
def allT (Pt : Tst → Prop) : Nat → Tst → Prop
  | 0, _ => True
  | n + 1, t => (t.kind ≠ 3 → t.kind ≠ 4 → t.kind ≠ 5 → Pt t) ∧ ∀ x ∈ t.tests, allT Pt n x
def allC (Pt : Tst → Prop) (Pc : Cmd → Prop) : Nat → Cmd → Prop
  | 0, _ => True
  | n + 1, c => (c.kind ≠ 2 → Pc c) ∧ (c.kind = 2 → allT Pt n c.test ∧ (∀ x ∈ c.thn, allC Pt Pc n x) ∧ ∀ x ∈ c.els, allC Pt Pc n x)
theorem jih {Pt : Tst → Prop} {Pc : Cmd → Prop} {f : Tst → Nat → List Opr} {k : Int} (hk : k = 3 ∨ k = 4 ∨ k = 5) (E : Nat) : ∀ (r : List Tst) (a : Nat), (∀ y ∈ r, ∀ b, AllGood Pt Pc b (b + (f y b).length) (f y b)) → E = a + (zt f k E r a).length → AllGood Pt Pc a E (zt f k E r a) := by
  intro r
  induction r with
  | nil => intro a _ _; exact AllGood.nil _ _ _ _
  | cons y r ih =>
    intro a h hE; have hE' := hE; simp only [zt, List.length_cons, List.length_append] at hE; simp only [zt]; refine AllGood.cons (.inl ⟨k, E, hk, rfl, by omega, Nat.le_refl _⟩) (b := a + 1) ?_ rfl; refine AllGood.app ((h y (by simp) (a + 1)).more (by omega)) (b := a + 1 + (f y (a + 1)).length) ?_ rfl; exact ih _ (fun z hz => h z (by simp [hz])) (by omega)
theorem jdZ {Pt : Tst → Prop} {Pc : Cmd → Prop} {f : Tst → Nat → List Opr} {k : Int} (hk : k = 3 ∨ k = 4 ∨ k = 5) (l : List Tst) (a : Nat) (h : ∀ y ∈ l, ∀ b, AllGood Pt Pc b (b + (f y b).length) (f y b)) : AllGood Pt Pc a (a + (jaO f k l a).length) (jaO f k l a) := by
  cases l with
  | nil => exact AllGood.nil _ _ _ _
  | cons x r =>
    have hl0 := jjY f k (a + (f x a).length + (zt f k 0 r (a + (f x a).length)).length) 0 r (a + (f x a).length); simp only [jaO, List.length_append, hl0]; rw [← Nat.add_assoc]; exact AllGood.app ((h x (by simp) a).more (by omega)) (jih hk _ r _ (fun y hy => h y (by simp [hy])) (by rw [hl0])) rfl
theorem jko {Pt : Tst → Prop} {Pc : Cmd → Prop} : ∀ (n : Nat) (t : Tst), allT Pt n t → ∀ a, AllGood Pt Pc a (a + (oTst n t a).length) (oTst n t a) := by
  intro n
  induction n with
  | zero => intro t _ a; exact AllGood.nil _ _ _ _
  | succ n ih =>
    intro t h a; obtain ⟨h1, h2⟩ := h; simp only [oTst]
    by_cases k3 : t.kind = 3
    · rw [if_pos k3]; have hf : ∀ b, AllGood Pt Pc b (b + 1) [jaa] := fun b => AllGood.cons (.inr (.inl rfl)) (AllGood.nil _ _ _ _) rfl
      cases ht : t.tests with
      | nil => exact hf a
      | cons x r =>
        simp only [List.length_append, List.length_cons, List.length_nil]; exact AllGood.app ((ih x (h2 x (by rw [ht]; simp)) a).more (by omega)) ((hf _).more (by omega)) rfl
    · rw [if_neg k3]
      by_cases k4 : t.kind = 4
      · rw [if_pos k4]; exact jdZ (.inr (.inl rfl)) t.tests a fun y hy b => ih y (h2 y hy) b
      · rw [if_neg k4]
        by_cases k5 : t.kind = 5
        · rw [if_pos k5]; exact jdZ (.inl rfl) t.tests a fun y hy b => ih y (h2 y hy) b
        · rw [if_neg k5]; exact AllGood.cons (.inr (.inr (.inl ⟨t, h1 k3 k4 k5, rfl⟩))) (AllGood.nil _ _ _ _) rfl
theorem jbx {Pt : Tst → Prop} {Pc : Cmd → Prop} {f : Cmd → Nat → List Opr} : ∀ (l : List Cmd) (a : Nat), (∀ y ∈ l, ∀ b, AllGood Pt Pc b (b + (f y b).length) (f y b)) → AllGood Pt Pc a (a + (zL f l a).length) (zL f l a) := by
  intro l
  induction l with
  | nil => intro a _; exact AllGood.nil _ _ _ _
  | cons c l ih =>
    intro a h; simp only [zL, List.length_append]; exact AllGood.app ((h c (by simp) a).more (by omega)) ((ih _ fun y hy => h y (by simp [hy])).more (by omega)) rfl
theorem ji7 {Pt : Tst → Prop} {Pc : Cmd → Prop} : ∀ (n : Nat) (c : Cmd), allC Pt Pc n c → ∀ a, AllGood Pt Pc a (a + (oCmd n c a).length) (oCmd n c a) := by
  intro n
  induction n with
  | zero => intro t _ a; exact AllGood.nil _ _ _ _
  | succ n ih =>
    intro c h a; obtain ⟨h1, h2⟩ := h; rw [oCmd]
    by_cases k2 : c.kind = 2
    · obtain ⟨hT, hA, hB⟩ := h2 k2; rw [if_pos k2]; have gT := jko (Pc := Pc) n c.test hT a; have gA := jbx c.thn (a + (oTst n c.test a).length + 1) fun y hy b => ih y (hA y hy) b
      have gB := jbx c.els (a + (oTst n c.test a).length + 1 + (zL (oCmd n) c.thn (a + (oTst n c.test a).length + 1)).length + 1) fun y hy b => ih y (hB y hy) b
      unfold oIf; split
      · simp only [List.length_append, List.length_cons]; refine AllGood.app (gT.more (by omega)) (b := a + (oTst n c.test a).length) ?_ rfl; refine AllGood.cons (.inl ⟨4, _, .inr (.inl rfl), rfl, by omega, by omega⟩) (b := a + (oTst n c.test a).length + 1) ?_ rfl; refine AllGood.app (gA.more (by omega)) (b := a + (oTst n c.test a).length + 1 + (zL (oCmd n) c.thn (a + (oTst n c.test a).length + 1)).length) ?_ rfl; exact AllGood.cons (.inl ⟨5, _, .inr (.inr rfl), rfl, by omega, by omega⟩) (gB.more (by omega)) rfl
      · simp only [List.length_append, List.length_cons]; refine AllGood.app (gT.more (by omega)) (b := a + (oTst n c.test a).length) ?_ rfl; exact AllGood.cons (.inl ⟨4, _, .inr (.inl rfl), rfl, by omega, by omega⟩) (gA.more (by omega)) rfl
    · rw [if_neg k2]; exact AllGood.cons (.inr (.inr (.inr ⟨c, h1 k2, rfl⟩))) (AllGood.nil _ _ _ _) rfl
theorem jg4 {Pt : Tst → Prop} {Pc : Cmd → Prop} (n : Nat) (l : List Cmd) (h : ∀ c ∈ l, allC Pt Pc n c) : AllGood Pt Pc 0 (vv n l).length (vv n l) := by
  have := jbx (Pt := Pt) (Pc := Pc) (f := oCmd n) l 0 fun y hy b => ji7 n y (h y hy) b
  rwa [Nat.zero_add] at this
theorem jfe {f : Tst → Nat → List Opr} {g : Tst → List Tok} {k : Int} (E : Nat) : ∀ (r : List Tst) (a : Nat), (∀ y ∈ r, ∀ b, (f y b).length ≤ (g y).length) → (zt f k E r a).length ≤ (r.flatMap fun y => jG 44 :: g y).length := by
  intro r
  induction r with
  | nil => intro a _; exact Nat.le_refl _
  | cons y r ih =>
    intro a h; have h1 := h y (by simp) (a + 1); have h2 := ih (a + 1 + (f y (a + 1)).length) fun z hz => h z (by simp [hz])
    simp only [zt, List.length_cons, List.length_append, List.flatMap_cons]; omega
theorem jfo {f : Tst → Nat → List Opr} {g : Tst → List Tok} {k : Int} (l : List Tst) (a : Nat) (h : ∀ y ∈ l, ∀ b, (f y b).length ≤ (g y).length) : (jaO f k l a).length ≤ (sepT g l).length := by
  cases l with
  | nil => exact Nat.le_refl _
  | cons x r =>
    have h1 := h x (by simp) a; have h2 := jfe (f := f) (g := g) (k := k) (a + (f x a).length + (zt f k 0 r (a + (f x a).length)).length) r (a + (f x a).length) fun z hz => h z (by simp [hz])
    simp only [jaO, sepT, List.length_append]; omega
theorem jc7 : ∀ (n : Nat) (t : Tst) (a : Nat), (oTst n t a).length ≤ (jD n t).length := by
  intro n
  induction n with
  | zero => intro t a; exact Nat.le_refl _
  | succ n ih =>
    intro t a; simp only [oTst, jD]
    by_cases k3 : t.kind = 3
    · rw [if_pos k3, if_pos k3]; cases ht : t.tests with
      | nil => simp
      | cons x r =>
        have := ih x a; simp only [List.head?_cons, Option.map_some, Option.getD_some, List.length_append, List.length_cons, List.length_nil]; omega
    · rw [if_neg k3, if_neg k3]
      by_cases k4 : t.kind = 4
      · rw [if_pos k4, if_pos (.inl k4)]; have := jfo (f := oTst n) (g := jD n) (k := 4) t.tests a fun y _ b => ih y b
        simp only [List.length_cons, List.length_append, List.length_nil]; omega
      · rw [if_neg k4]
        by_cases k5 : t.kind = 5
        · rw [if_pos k5, if_pos (.inr k5)]; have := jfo (f := oTst n) (g := jD n) (k := 3) t.tests a fun y _ b => ih y b
          simp only [List.length_cons, List.length_append, List.length_nil]; omega
        · rw [if_neg k5]; simp only [List.length_cons, List.length_nil]; omega
theorem vH {f : Cmd → Nat → List Opr} {g : Cmd → List Tok} : ∀ (l : List Cmd) (a : Nat), (∀ y ∈ l, ∀ b, (f y b).length ≤ (g y).length) → (zL f l a).length ≤ (l.flatMap g).length := by
  intro l
  induction l with
  | nil => intro a _; exact Nat.le_refl _
  | cons c l ih =>
    intro a h; have h1 := h c (by simp) a; have h2 := ih (a + (f c a).length) fun z hz => h z (by simp [hz])
    simp only [zL, List.flatMap_cons, List.length_append]; omega
theorem jcM : ∀ (n : Nat) (c : Cmd) (a : Nat), (oCmd n c a).length ≤ (cmdT n c).length := by
  intro n
  induction n with
  | zero => intro c a; simp [oCmd]
  | succ n ih =>
    intro c a; unfold cmdT; rw [oCmd, j4]
    by_cases k2 : c.kind = 2
    · rw [if_pos k2, if_pos k2]; have gT := jc7 n c.test a; have gA := vH (f := oCmd n) (g := cmdT n) c.thn (a + (oTst n c.test a).length + 1) fun y _ b => ih y b
      have gB := vH (f := oCmd n) (g := cmdT n) c.els (a + (oTst n c.test a).length + 1 + (zL (oCmd n) c.thn (a + (oTst n c.test a).length + 1)).length + 1) fun y _ b => ih y b
      have eA : (c.thn.flatMap (cmdT n)).length = (c.thn.flatMap fun x => zw (jQ 0 x.kind.toNat) :: j4 n x).length := rfl; have eB : (c.els.flatMap (cmdT n)).length = (c.els.flatMap fun x => zw (jQ 0 x.kind.toNat) :: j4 n x).length := rfl; unfold oIf; split
      · rename_i he; simp only [decide_eq_true_eq] at he; simp only [List.length_append, List.length_cons, List.length_nil]; cases hq : jP c.els with
        | some x =>
          obtain ⟨h1, h2⟩ := zP hq; rw [h1] at gB ⊢; simp only [List.flatMap_cons, List.flatMap_nil, List.append_nil] at gB; unfold cmdT at gB; simp only [List.length_cons] at gB ⊢; omega
        | none =>
          simp only; rw [if_neg (by omega)]; simp only [List.length_append, List.length_cons, List.length_nil]; omega
      · simp only [List.length_append, List.length_cons, List.length_nil]; omega
    · rw [if_neg k2]; simp only [List.length_cons, List.length_nil]; omega
theorem jeO (n : Nat) (l : List Cmd) : (vv n l).length ≤ (jK n l).length := vH l 0 fun y _ b => jcM n y b
end Go.Proofs.YtaapmpchcfcniaaGreatDoor
namespace Go.Proofs.YtaapmpchcfcniaaGreatDoor
open Go.RowKit
theorem bx3 {w : World} {b : Nat} {t : TypeId} {v0 v1 v2 : Value} (h : w.heap[b]? = some (.cells #[v0, v1, v2] t)) : w.cell? ⟨b, 0, none⟩ = some v0 ∧ w.cell? ⟨b, 1, none⟩ = some v1 ∧ w.cell? ⟨b, 2, none⟩ = some v2 := by
  refine ⟨?_, ?_, ?_⟩ <;> simp [World.cell?, h]
theorem bx4 {w : World} {b : Nat} {t : TypeId} {v0 v1 v2 v3 : Value} (h : w.heap[b]? = some (.cells #[v0, v1, v2, v3] t)) : w.cell? ⟨b, 0, none⟩ = some v0 ∧ w.cell? ⟨b, 1, none⟩ = some v1 ∧ w.cell? ⟨b, 2, none⟩ = some v2 ∧ w.cell? ⟨b, 3, none⟩ = some v3 := by
  refine ⟨?_, ?_, ?_, ?_⟩ <;> simp [World.cell?, h]
theorem bx5 {w : World} {b : Nat} {t : TypeId} {v0 v1 v2 v3 v4 : Value} (h : w.heap[b]? = some (.cells #[v0, v1, v2, v3, v4] t)) : w.cell? ⟨b, 0, none⟩ = some v0 ∧ w.cell? ⟨b, 1, none⟩ = some v1 ∧ w.cell? ⟨b, 2, none⟩ = some v2 ∧ w.cell? ⟨b, 3, none⟩ = some v3 ∧ w.cell? ⟨b, 4, none⟩ = some v4 := by
  refine ⟨?_, ?_, ?_, ?_, ?_⟩ <;> simp [World.cell?, h]
theorem bx6 {w : World} {b : Nat} {t : TypeId} {v0 v1 v2 v3 v4 v5 : Value} (h : w.heap[b]? = some (.cells #[v0, v1, v2, v3, v4, v5] t)) : w.cell? ⟨b, 0, none⟩ = some v0 ∧ w.cell? ⟨b, 1, none⟩ = some v1 ∧ w.cell? ⟨b, 2, none⟩ = some v2 ∧ w.cell? ⟨b, 3, none⟩ = some v3 ∧ w.cell? ⟨b, 4, none⟩ = some v4 ∧ w.cell? ⟨b, 5, none⟩ = some v5 := by
  refine ⟨?_, ?_, ?_, ?_, ?_, ?_⟩ <;> simp [World.cell?, h]
theorem bx8 {w : World} {b : Nat} {t : TypeId} {v0 v1 v2 v3 v4 v5 v6 v7 : Value} (h : w.heap[b]? = some (.cells #[v0, v1, v2, v3, v4, v5, v6, v7] t)) : w.cell? ⟨b, 0, none⟩ = some v0 ∧ w.cell? ⟨b, 1, none⟩ = some v1 ∧ w.cell? ⟨b, 2, none⟩ = some v2 ∧ w.cell? ⟨b, 3, none⟩ = some v3 ∧ w.cell? ⟨b, 4, none⟩ = some v4 ∧ w.cell? ⟨b, 5, none⟩ = some v5 ∧ w.cell? ⟨b, 6, none⟩ = some v6 ∧ w.cell? ⟨b, 7, none⟩ = some v7 := by
  refine ⟨?_, ?_, ?_, ?_, ?_, ?_, ?_, ?_⟩ <;> simp [World.cell?, h]
theorem bx12 {w : World} {b : Nat} {t : TypeId} {v0 v1 v2 v3 v4 v5 v6 v7 v8 v9 v10 v11 : Value} (h : w.heap[b]? = some (.cells #[v0, v1, v2, v3, v4, v5, v6, v7, v8, v9, v10, v11] t)) : w.cell? ⟨b, 0, none⟩ = some v0 ∧ w.cell? ⟨b, 1, none⟩ = some v1 ∧ w.cell? ⟨b, 2, none⟩ = some v2 ∧ w.cell? ⟨b, 3, none⟩ = some v3 ∧ w.cell? ⟨b, 4, none⟩ = some v4 ∧ w.cell? ⟨b, 5, none⟩ = some v5 ∧ w.cell? ⟨b, 6, none⟩ = some v6 ∧ w.cell? ⟨b, 7, none⟩ = some v7 ∧ w.cell? ⟨b, 8, none⟩ = some v8 ∧ w.cell? ⟨b, 9, none⟩ = some v9 ∧ w.cell? ⟨b, 10, none⟩ = some v10 ∧ w.cell? ⟨b, 11, none⟩ = some v11 := by
  refine ⟨?_, ?_, ?_, ?_, ?_, ?_, ?_, ?_, ?_, ?_, ?_, ?_⟩ <;> simp [World.cell?, h]
theorem bz5 {w : World} {b : Nat} {t : TypeId} {c : Array Value} (h : w.heap[b]? = some (.cells c t)) : w.frozen? ⟨b, 0, none⟩ = false ∧ w.frozen? ⟨b, 1, none⟩ = false ∧ w.frozen? ⟨b, 2, none⟩ = false ∧ w.frozen? ⟨b, 3, none⟩ = false ∧ w.frozen? ⟨b, 4, none⟩ = false := by
  refine ⟨?_, ?_, ?_, ?_, ?_⟩ <;> simp [World.frozen?, h]
theorem bz8 {w : World} {b : Nat} {t : TypeId} {c : Array Value} (h : w.heap[b]? = some (.cells c t)) : w.frozen? ⟨b, 0, none⟩ = false ∧ w.frozen? ⟨b, 1, none⟩ = false ∧ w.frozen? ⟨b, 2, none⟩ = false ∧ w.frozen? ⟨b, 3, none⟩ = false ∧ w.frozen? ⟨b, 4, none⟩ = false ∧ w.frozen? ⟨b, 5, none⟩ = false ∧ w.frozen? ⟨b, 6, none⟩ = false ∧ w.frozen? ⟨b, 7, none⟩ = false := by
  refine ⟨?_, ?_, ?_, ?_, ?_, ?_, ?_, ?_⟩ <;> simp [World.frozen?, h]
end Go.Proofs.YtaapmpchcfcniaaGreatDoor
namespace Go.Proofs.YtaapmpchcfcniaaGreatDoor
open Go.RowKit Go.Proofs
theorem jae {A : Type} {l : List A} {i : Nat} {x : A} (p : A → Bool) (h : l[i]? = some x) : (l.drop i).any p = (p x || (l.drop (i + 1)).any p) := by
  have hi : i < l.length := (List.getElem?_eq_some_iff.1 h).1; have e : l[i] = x := (List.getElem?_eq_some_iff.1 h).2; rw [List.drop_eq_getElem_cons hi, e]; rfl
set_option maxHeartbeats 4000000 in
set_option maxRecDepth 100000 in
theorem idxS {A : Type} (l : List A) (p : A → Bool) (V0 : A → Value) (a : Option Addr) (c f : Nat) (cap : Array Value) (eg : ∀ args w, (callFunc f args).run Tryz.prog w = .ok (.enter f args) w) (w : World) (hm : l.length ≤ maxLen)
    (hL : ∀ (i : Nat) (x : A), l[i]? = some x → ∀ u, Below w.heap.size w u → ∃ b o, a = some ⟨b, o, none⟩ ∧ u.cell? ⟨b, o + i, none⟩ = some (V0 x))
    (hf : ∀ (i : Nat) (x : A), l[i]? = some x → ∀ u, Below w.heap.size w u → Calls Tryz.prog f (#[V0 x] ++ cap) u fun e u' => e = .returned (.bool (p x)) ∧ Below u.heap.size u u') :
    Calls Tryz.prog 98 #[.slice a l.length c, .func (.func f) #[] cap] w fun e w' => (∃ z : Int, e = .returned (.int .i64 z) ∧ decide (0 ≤ z) = l.any p) ∧ Below w.heap.size w w' := by
  have HL := hid hL; have HF := hid hf; unfold maxLen at hm; have HN : Hid (l.any p = (l.drop 0).any p) := rfl; clear hL hf; go_enter Tryz.func98, Tryz.ntmps98; go_wp2
  go_loopw [8] (fun v wr => ∃ i : Nat, i ≤ l.length ∧ v = .int .i64 i ∧ Hid (Below w.heap.size w wr) ∧ Hid (l.any p = (l.drop i).any p)) (fun v _ => l.length - (intOf v).toNat)
  case atStart => exact ⟨0, Nat.zero_le _, rfl, Below.refl _ _, HN⟩
  case round =>
    obtain ⟨i, hi, rfl, HB, HI⟩ := hrel
    by_cases hlt : i < l.length
    · have i1 : (i : Int) < (l.length : Int) := by omega
      have i0 : (0 : Int) ≤ (i : Int) := by omega
      obtain ⟨x, hx⟩ : ∃ x, l[i]? = some x := ⟨_, List.getElem?_eq_getElem hlt⟩; have HS := hid (jae p hx); have HC := hid (HF.out i x hx wr HB.out); obtain ⟨b, o, rfl, e0⟩ := HL.out i x hx wr HB.out; clear hx; cases hp : p x with
      | true =>
        have HE := hid (show l.any p = true by rw [HI.out, HS.out, hp]; rfl); rw [hp] at HC; clear hp
        go_wp2_with (go_at_fn f; refine Calls.mono HC.out ?_; rintro e u ⟨rfl, hb⟩)
        have HB2 := hid (HB.out.trans (hb.mono HB.out.size)); go_ret; exact ⟨⟨_, rfl, by rw [HE.out]; simp⟩, HB2.out⟩
      | false =>
        have HE := hid (show l.any p = (l.drop (i + 1)).any p by rw [HI.out, HS.out, hp]; rfl); rw [hp] at HC; clear hp
        go_wp2_with (go_at_fn f; refine Calls.mono HC.out ?_; rintro e u ⟨rfl, hb⟩)
        have HB2 := hid (HB.out.trans (hb.mono HB.out.size))
        go_roundw
        case rel => first | exact ⟨i + 1, by omega, by go_num, HB2, HE⟩ | ((repeat apply Exists.intro); exact ⟨⟨i + 1, by omega, by go_num, HB2, HE⟩, rfl⟩) | (refine ⟨trivial, ?_⟩; (repeat apply Exists.intro); exact ⟨⟨i + 1, by omega, by go_num, HB2, HE⟩, rfl⟩)
        case measure => simp [intOf]; omega
    · have i1 : ¬ (i : Int) < (l.length : Int) := by omega
      have HE := hid (show l.any p = false by rw [HI.out, List.drop_eq_nil_of_le (by omega)]; rfl); go_wp2; go_ret; exact ⟨⟨_, rfl, by rw [HE.out]; rfl⟩, HB.out⟩
set_option maxHeartbeats 4000000 in
set_option maxRecDepth 100000 in
theorem conS {A : Type} (l : List A) (p : A → Bool) (V0 : A → Value) (a : Option Addr) (c f : Nat) (cap : Array Value) (eg : ∀ args w, (callFunc f args).run Tryz.prog w = .ok (.enter f args) w) (w : World) (hm : l.length ≤ maxLen)
    (hL : ∀ (i : Nat) (x : A), l[i]? = some x → ∀ u, Below w.heap.size w u → ∃ b o, a = some ⟨b, o, none⟩ ∧ u.cell? ⟨b, o + i, none⟩ = some (V0 x))
    (hf : ∀ (i : Nat) (x : A), l[i]? = some x → ∀ u, Below w.heap.size w u → Calls Tryz.prog f (#[V0 x] ++ cap) u fun e u' => e = .returned (.bool (p x)) ∧ Below u.heap.size u u') :
    Calls Tryz.prog 58 #[.slice a l.length c, .func (.func f) #[] cap] w fun e w' => e = .returned (.bool (l.any p)) ∧ Below w.heap.size w w' := by
  have HI := hid (idxS l p V0 a c f cap eg w hm hL hf); obtain ⟨q, hq⟩ : ∃ q, q = l.any p := ⟨_, rfl⟩; rw [← hq] at HI; rw [← hq]; clear hL hf hq; go_enter Tryz.func58, Tryz.ntmps58; go_wp2_with fail; refine HI.out.mono ?_; rintro e w1 ⟨⟨z, rfl, hz⟩, hb⟩; simp only; have HZ := hid hz; have HB := hid hb; clear hz hb; go_wp2; go_ret; exact ⟨jg HZ.out, HB.out⟩
set_option maxHeartbeats 4000000 in
set_option maxRecDepth 100000 in
theorem idxF {A : Type} (l : List A) (p : A → Bool) (V0 V1 : A → Value) (a : Option Addr) (c f : Nat) (cap : Array Value) (eg : ∀ args w, (callFunc f args).run Tryz.prog w = .ok (.enter f args) w) (w : World) (hm : l.length ≤ maxLen)
    (hL : ∀ (i : Nat) (x : A), l[i]? = some x → ∀ u, Below w.heap.size w u → ∃ b o, a = some ⟨b, o, none⟩ ∧ u.cell? ⟨b, o + i * 2, none⟩ = some (V0 x) ∧ u.cell? ⟨b, o + i * 2 + 1, none⟩ = some (V1 x))
    (hf : ∀ (i : Nat) (x : A), l[i]? = some x → ∀ u, Below w.heap.size w u → Calls Tryz.prog f (#[.agg #[V0 x, V1 x]] ++ cap) u fun e u' => e = .returned (.bool (p x)) ∧ Below u.heap.size u u') :
    Calls Tryz.prog 132 #[.slice a l.length c, .func (.func f) #[] cap] w fun e w' => (∃ z : Int, e = .returned (.int .i64 z) ∧ decide (0 ≤ z) = l.any p) ∧ Below w.heap.size w w' := by
  have HL := hid hL; have HF := hid hf; unfold maxLen at hm; have HN : Hid (l.any p = (l.drop 0).any p) := rfl; clear hL hf; go_enter Tryz.func132, Tryz.ntmps132; go_wp2
  go_loopw [8] (fun v wr => ∃ i : Nat, i ≤ l.length ∧ v = .int .i64 i ∧ Hid (Below w.heap.size w wr) ∧ Hid (l.any p = (l.drop i).any p)) (fun v _ => l.length - (intOf v).toNat)
  case atStart => exact ⟨0, Nat.zero_le _, rfl, Below.refl _ _, HN⟩
  case round =>
    obtain ⟨i, hi, rfl, HB, HI⟩ := hrel
    by_cases hlt : i < l.length
    · have i1 : (i : Int) < (l.length : Int) := by omega
      have i0 : (0 : Int) ≤ (i : Int) := by omega
      obtain ⟨x, hx⟩ : ∃ x, l[i]? = some x := ⟨_, List.getElem?_eq_getElem hlt⟩; have HS := hid (jae p hx); have HC := hid (HF.out i x hx wr HB.out); obtain ⟨b, o, rfl, e0, e1⟩ := HL.out i x hx wr HB.out; clear hx; cases hp : p x with
      | true =>
        have HE := hid (show l.any p = true by rw [HI.out, HS.out, hp]; rfl); rw [hp] at HC; clear hp
        go_wp2_with (go_at_fn f; refine Calls.mono HC.out ?_; rintro e u ⟨rfl, hb⟩)
        have HB2 := hid (HB.out.trans (hb.mono HB.out.size)); go_ret; exact ⟨⟨_, rfl, by rw [HE.out]; simp⟩, HB2.out⟩
      | false =>
        have HE := hid (show l.any p = (l.drop (i + 1)).any p by rw [HI.out, HS.out, hp]; rfl); rw [hp] at HC; clear hp
        go_wp2_with (go_at_fn f; refine Calls.mono HC.out ?_; rintro e u ⟨rfl, hb⟩)
        have HB2 := hid (HB.out.trans (hb.mono HB.out.size))
        go_roundw
        case rel => first | exact ⟨i + 1, by omega, by go_num, HB2, HE⟩ | ((repeat apply Exists.intro); exact ⟨⟨i + 1, by omega, by go_num, HB2, HE⟩, rfl⟩) | (refine ⟨trivial, ?_⟩; (repeat apply Exists.intro); exact ⟨⟨i + 1, by omega, by go_num, HB2, HE⟩, rfl⟩)
        case measure => simp [intOf]; omega
    · have i1 : ¬ (i : Int) < (l.length : Int) := by omega
      have HE := hid (show l.any p = false by rw [HI.out, List.drop_eq_nil_of_le (by omega)]; rfl); go_wp2; go_ret; exact ⟨⟨_, rfl, by rw [HE.out]; rfl⟩, HB.out⟩
set_option maxHeartbeats 4000000 in
set_option maxRecDepth 100000 in
theorem conF {A : Type} (l : List A) (p : A → Bool) (V0 V1 : A → Value) (a : Option Addr) (c f : Nat) (cap : Array Value) (eg : ∀ args w, (callFunc f args).run Tryz.prog w = .ok (.enter f args) w) (w : World) (hm : l.length ≤ maxLen)
    (hL : ∀ (i : Nat) (x : A), l[i]? = some x → ∀ u, Below w.heap.size w u → ∃ b o, a = some ⟨b, o, none⟩ ∧ u.cell? ⟨b, o + i * 2, none⟩ = some (V0 x) ∧ u.cell? ⟨b, o + i * 2 + 1, none⟩ = some (V1 x))
    (hf : ∀ (i : Nat) (x : A), l[i]? = some x → ∀ u, Below w.heap.size w u → Calls Tryz.prog f (#[.agg #[V0 x, V1 x]] ++ cap) u fun e u' => e = .returned (.bool (p x)) ∧ Below u.heap.size u u') :
    Calls Tryz.prog 89 #[.slice a l.length c, .func (.func f) #[] cap] w fun e w' => e = .returned (.bool (l.any p)) ∧ Below w.heap.size w w' := by
  have HI := hid (idxF l p V0 V1 a c f cap eg w hm hL hf); obtain ⟨q, hq⟩ : ∃ q, q = l.any p := ⟨_, rfl⟩; rw [← hq] at HI; rw [← hq]; clear hL hf hq; go_enter Tryz.func89, Tryz.ntmps89; go_wp2_with fail; refine HI.out.mono ?_; rintro e w1 ⟨⟨z, rfl, hz⟩, hb⟩; simp only; have HZ := hid hz; have HB := hid hb; clear hz hb; go_wp2; go_ret; exact ⟨jg HZ.out, HB.out⟩
set_option maxHeartbeats 4000000 in
set_option maxRecDepth 100000 in
theorem idxD {A : Type} (l : List A) (p : A → Bool) (V0 V1 : A → Value) (a : Option Addr) (c f : Nat) (cap : Array Value) (eg : ∀ args w, (callFunc f args).run Tryz.prog w = .ok (.enter f args) w) (w : World) (hm : l.length ≤ maxLen)
    (hL : ∀ (i : Nat) (x : A), l[i]? = some x → ∀ u, Below w.heap.size w u → ∃ b o, a = some ⟨b, o, none⟩ ∧ u.cell? ⟨b, o + i * 2, none⟩ = some (V0 x) ∧ u.cell? ⟨b, o + i * 2 + 1, none⟩ = some (V1 x))
    (hf : ∀ (i : Nat) (x : A), l[i]? = some x → ∀ u, Below w.heap.size w u → Calls Tryz.prog f (#[.agg #[V0 x, V1 x]] ++ cap) u fun e u' => e = .returned (.bool (p x)) ∧ Below u.heap.size u u') :
    Calls Tryz.prog 137 #[.slice a l.length c, .func (.func f) #[] cap] w fun e w' => (∃ z : Int, e = .returned (.int .i64 z) ∧ decide (0 ≤ z) = l.any p) ∧ Below w.heap.size w w' := by
  have HL := hid hL; have HF := hid hf; unfold maxLen at hm; have HN : Hid (l.any p = (l.drop 0).any p) := rfl; clear hL hf; go_enter Tryz.func137, Tryz.ntmps137; go_wp2
  go_loopw [8] (fun v wr => ∃ i : Nat, i ≤ l.length ∧ v = .int .i64 i ∧ Hid (Below w.heap.size w wr) ∧ Hid (l.any p = (l.drop i).any p)) (fun v _ => l.length - (intOf v).toNat)
  case atStart => exact ⟨0, Nat.zero_le _, rfl, Below.refl _ _, HN⟩
  case round =>
    obtain ⟨i, hi, rfl, HB, HI⟩ := hrel
    by_cases hlt : i < l.length
    · have i1 : (i : Int) < (l.length : Int) := by omega
      have i0 : (0 : Int) ≤ (i : Int) := by omega
      obtain ⟨x, hx⟩ : ∃ x, l[i]? = some x := ⟨_, List.getElem?_eq_getElem hlt⟩; have HS := hid (jae p hx); have HC := hid (HF.out i x hx wr HB.out); obtain ⟨b, o, rfl, e0, e1⟩ := HL.out i x hx wr HB.out; clear hx; cases hp : p x with
      | true =>
        have HE := hid (show l.any p = true by rw [HI.out, HS.out, hp]; rfl); rw [hp] at HC; clear hp
        go_wp2_with (go_at_fn f; refine Calls.mono HC.out ?_; rintro e u ⟨rfl, hb⟩)
        have HB2 := hid (HB.out.trans (hb.mono HB.out.size)); go_ret; exact ⟨⟨_, rfl, by rw [HE.out]; simp⟩, HB2.out⟩
      | false =>
        have HE := hid (show l.any p = (l.drop (i + 1)).any p by rw [HI.out, HS.out, hp]; rfl); rw [hp] at HC; clear hp
        go_wp2_with (go_at_fn f; refine Calls.mono HC.out ?_; rintro e u ⟨rfl, hb⟩)
        have HB2 := hid (HB.out.trans (hb.mono HB.out.size))
        go_roundw
        case rel => first | exact ⟨i + 1, by omega, by go_num, HB2, HE⟩ | ((repeat apply Exists.intro); exact ⟨⟨i + 1, by omega, by go_num, HB2, HE⟩, rfl⟩) | (refine ⟨trivial, ?_⟩; (repeat apply Exists.intro); exact ⟨⟨i + 1, by omega, by go_num, HB2, HE⟩, rfl⟩)
        case measure => simp [intOf]; omega
    · have i1 : ¬ (i : Int) < (l.length : Int) := by omega
      have HE := hid (show l.any p = false by rw [HI.out, List.drop_eq_nil_of_le (by omega)]; rfl); go_wp2; go_ret; exact ⟨⟨_, rfl, by rw [HE.out]; rfl⟩, HB.out⟩
set_option maxHeartbeats 4000000 in
set_option maxRecDepth 100000 in
theorem conD {A : Type} (l : List A) (p : A → Bool) (V0 V1 : A → Value) (a : Option Addr) (c f : Nat) (cap : Array Value) (eg : ∀ args w, (callFunc f args).run Tryz.prog w = .ok (.enter f args) w) (w : World) (hm : l.length ≤ maxLen)
    (hL : ∀ (i : Nat) (x : A), l[i]? = some x → ∀ u, Below w.heap.size w u → ∃ b o, a = some ⟨b, o, none⟩ ∧ u.cell? ⟨b, o + i * 2, none⟩ = some (V0 x) ∧ u.cell? ⟨b, o + i * 2 + 1, none⟩ = some (V1 x))
    (hf : ∀ (i : Nat) (x : A), l[i]? = some x → ∀ u, Below w.heap.size w u → Calls Tryz.prog f (#[.agg #[V0 x, V1 x]] ++ cap) u fun e u' => e = .returned (.bool (p x)) ∧ Below u.heap.size u u') :
    Calls Tryz.prog 96 #[.slice a l.length c, .func (.func f) #[] cap] w fun e w' => e = .returned (.bool (l.any p)) ∧ Below w.heap.size w w' := by
  have HI := hid (idxD l p V0 V1 a c f cap eg w hm hL hf); obtain ⟨q, hq⟩ : ∃ q, q = l.any p := ⟨_, rfl⟩; rw [← hq] at HI; rw [← hq]; clear hL hf hq; go_enter Tryz.func96, Tryz.ntmps96; go_wp2_with fail; refine HI.out.mono ?_; rintro e w1 ⟨⟨z, rfl, hz⟩, hb⟩; simp only; have HZ := hid hz; have HB := hid hb; clear hz hb; go_wp2; go_ret; exact ⟨jg HZ.out, HB.out⟩
set_option maxHeartbeats 4000000 in
set_option maxRecDepth 100000 in
theorem idxT {A : Type} (l : List A) (p : A → Bool) (V0 V1 V2 V3 V4 V5 V6 V7 : A → Value) (a : Option Addr) (c f : Nat) (cap : Array Value) (eg : ∀ args w, (callFunc f args).run Tryz.prog w = .ok (.enter f args) w) (w : World) (hm : l.length ≤ maxLen)
    (hL : ∀ (i : Nat) (x : A), l[i]? = some x → ∀ u, Below w.heap.size w u → ∃ b o, a = some ⟨b, o, none⟩ ∧ u.cell? ⟨b, o + i * 8, none⟩ = some (V0 x) ∧ u.cell? ⟨b, o + i * 8 + 1, none⟩ = some (V1 x) ∧ u.cell? ⟨b, o + i * 8 + 2, none⟩ = some (V2 x) ∧ u.cell? ⟨b, o + i * 8 + 3, none⟩ = some (V3 x) ∧ u.cell? ⟨b, o + i * 8 + 4, none⟩ = some (V4 x) ∧ u.cell? ⟨b, o + i * 8 + 5, none⟩ = some (V5 x) ∧ u.cell? ⟨b, o + i * 8 + 6, none⟩ = some (V6 x) ∧ u.cell? ⟨b, o + i * 8 + 7, none⟩ = some (V7 x))
    (hf : ∀ (i : Nat) (x : A), l[i]? = some x → ∀ u, Below w.heap.size w u → Calls Tryz.prog f (#[.agg #[V0 x, V1 x, V2 x, V3 x, V4 x, V5 x, V6 x, V7 x]] ++ cap) u fun e u' => e = .returned (.bool (p x)) ∧ Below u.heap.size u u') :
    Calls Tryz.prog 88 #[.slice a l.length c, .func (.func f) #[] cap] w fun e w' => (∃ z : Int, e = .returned (.int .i64 z) ∧ decide (0 ≤ z) = l.any p) ∧ Below w.heap.size w w' := by
  have HL := hid hL; have HF := hid hf; unfold maxLen at hm; have HN : Hid (l.any p = (l.drop 0).any p) := rfl; clear hL hf; go_enter Tryz.func88, Tryz.ntmps88; go_wp2
  go_loopw [8] (fun v wr => ∃ i : Nat, i ≤ l.length ∧ v = .int .i64 i ∧ Hid (Below w.heap.size w wr) ∧ Hid (l.any p = (l.drop i).any p)) (fun v _ => l.length - (intOf v).toNat)
  case atStart => exact ⟨0, Nat.zero_le _, rfl, Below.refl _ _, HN⟩
  case round =>
    obtain ⟨i, hi, rfl, HB, HI⟩ := hrel
    by_cases hlt : i < l.length
    · have i1 : (i : Int) < (l.length : Int) := by omega
      have i0 : (0 : Int) ≤ (i : Int) := by omega
      obtain ⟨x, hx⟩ : ∃ x, l[i]? = some x := ⟨_, List.getElem?_eq_getElem hlt⟩; have HS := hid (jae p hx); have HC := hid (HF.out i x hx wr HB.out); obtain ⟨b, o, rfl, e0, e1, e2, e3, e4, e5, e6, e7⟩ := HL.out i x hx wr HB.out; clear hx; cases hp : p x with
      | true =>
        have HE := hid (show l.any p = true by rw [HI.out, HS.out, hp]; rfl); rw [hp] at HC; clear hp
        go_wp2_with (go_at_fn f; refine Calls.mono HC.out ?_; rintro e u ⟨rfl, hb⟩)
        have HB2 := hid (HB.out.trans (hb.mono HB.out.size)); go_ret; exact ⟨⟨_, rfl, by rw [HE.out]; simp⟩, HB2.out⟩
      | false =>
        have HE := hid (show l.any p = (l.drop (i + 1)).any p by rw [HI.out, HS.out, hp]; rfl); rw [hp] at HC; clear hp
        go_wp2_with (go_at_fn f; refine Calls.mono HC.out ?_; rintro e u ⟨rfl, hb⟩)
        have HB2 := hid (HB.out.trans (hb.mono HB.out.size))
        go_roundw
        case rel => first | exact ⟨i + 1, by omega, by go_num, HB2, HE⟩ | ((repeat apply Exists.intro); exact ⟨⟨i + 1, by omega, by go_num, HB2, HE⟩, rfl⟩) | (refine ⟨trivial, ?_⟩; (repeat apply Exists.intro); exact ⟨⟨i + 1, by omega, by go_num, HB2, HE⟩, rfl⟩)
        case measure => simp [intOf]; omega
    · have i1 : ¬ (i : Int) < (l.length : Int) := by omega
      have HE := hid (show l.any p = false by rw [HI.out, List.drop_eq_nil_of_le (by omega)]; rfl); go_wp2; go_ret; exact ⟨⟨_, rfl, by rw [HE.out]; rfl⟩, HB.out⟩
set_option maxHeartbeats 4000000 in
set_option maxRecDepth 100000 in
theorem conT {A : Type} (l : List A) (p : A → Bool) (V0 V1 V2 V3 V4 V5 V6 V7 : A → Value) (a : Option Addr) (c f : Nat) (cap : Array Value) (eg : ∀ args w, (callFunc f args).run Tryz.prog w = .ok (.enter f args) w) (w : World) (hm : l.length ≤ maxLen)
    (hL : ∀ (i : Nat) (x : A), l[i]? = some x → ∀ u, Below w.heap.size w u → ∃ b o, a = some ⟨b, o, none⟩ ∧ u.cell? ⟨b, o + i * 8, none⟩ = some (V0 x) ∧ u.cell? ⟨b, o + i * 8 + 1, none⟩ = some (V1 x) ∧ u.cell? ⟨b, o + i * 8 + 2, none⟩ = some (V2 x) ∧ u.cell? ⟨b, o + i * 8 + 3, none⟩ = some (V3 x) ∧ u.cell? ⟨b, o + i * 8 + 4, none⟩ = some (V4 x) ∧ u.cell? ⟨b, o + i * 8 + 5, none⟩ = some (V5 x) ∧ u.cell? ⟨b, o + i * 8 + 6, none⟩ = some (V6 x) ∧ u.cell? ⟨b, o + i * 8 + 7, none⟩ = some (V7 x))
    (hf : ∀ (i : Nat) (x : A), l[i]? = some x → ∀ u, Below w.heap.size w u → Calls Tryz.prog f (#[.agg #[V0 x, V1 x, V2 x, V3 x, V4 x, V5 x, V6 x, V7 x]] ++ cap) u fun e u' => e = .returned (.bool (p x)) ∧ Below u.heap.size u u') :
    Calls Tryz.prog 50 #[.slice a l.length c, .func (.func f) #[] cap] w fun e w' => e = .returned (.bool (l.any p)) ∧ Below w.heap.size w w' := by
  have HI := hid (idxT l p V0 V1 V2 V3 V4 V5 V6 V7 a c f cap eg w hm hL hf); obtain ⟨q, hq⟩ : ∃ q, q = l.any p := ⟨_, rfl⟩; rw [← hq] at HI; rw [← hq]; clear hL hf hq; go_enter Tryz.func50, Tryz.ntmps50; go_wp2_with fail; refine HI.out.mono ?_; rintro e w1 ⟨⟨z, rfl, hz⟩, hb⟩; simp only; have HZ := hid hz; have HB := hid hb; clear hz hb; go_wp2; go_ret; exact ⟨jg HZ.out, HB.out⟩
end Go.Proofs.YtaapmpchcfcniaaGreatDoor
namespace Go.Proofs.YtaapmpchcfcniaaGreatDoor
open Go.RowKit Go.Proofs
set_option maxHeartbeats 4000000 in
set_option maxRecDepth 100000 in
theorem idxA {A : Type} (l : List A) (p : A → Bool) (V0 V1 V2 : A → Value) (a : Option Addr) (c f : Nat) (cap : Array Value) (eg : ∀ args w, (callFunc f args).run Tryz.prog w = .ok (.enter f args) w) (w : World) (hm : l.length ≤ maxLen)
    (hL : ∀ (i : Nat) (x : A), l[i]? = some x → ∀ u, Below w.heap.size w u → ∃ b o, a = some ⟨b, o, none⟩ ∧ u.cell? ⟨b, o + i * 3, none⟩ = some (V0 x) ∧ u.cell? ⟨b, o + i * 3 + 1, none⟩ = some (V1 x) ∧ u.cell? ⟨b, o + i * 3 + 2, none⟩ = some (V2 x))
    (hf : ∀ (i : Nat) (x : A), l[i]? = some x → ∀ u, Below w.heap.size w u → Calls Tryz.prog f (#[.agg #[V0 x, V1 x, V2 x]] ++ cap) u fun e u' => e = .returned (.bool (p x)) ∧ Below u.heap.size u u') :
    Calls Tryz.prog 177 #[.slice a l.length c, .func (.func f) #[] cap] w fun e w' => (∃ z : Int, e = .returned (.int .i64 z) ∧ decide (0 ≤ z) = l.any p) ∧ Below w.heap.size w w' := by
  have HL := hid hL; have HF := hid hf; unfold maxLen at hm; have HN : Hid (l.any p = (l.drop 0).any p) := rfl; clear hL hf; go_enter Tryz.func177, Tryz.ntmps177; go_wp2
  go_loopw [8] (fun v wr => ∃ i : Nat, i ≤ l.length ∧ v = .int .i64 i ∧ Hid (Below w.heap.size w wr) ∧ Hid (l.any p = (l.drop i).any p)) (fun v _ => l.length - (intOf v).toNat)
  case atStart => exact ⟨0, Nat.zero_le _, rfl, Below.refl _ _, HN⟩
  case round =>
    obtain ⟨i, hi, rfl, HB, HI⟩ := hrel
    by_cases hlt : i < l.length
    · have i1 : (i : Int) < (l.length : Int) := by omega
      have i0 : (0 : Int) ≤ (i : Int) := by omega
      obtain ⟨x, hx⟩ : ∃ x, l[i]? = some x := ⟨_, List.getElem?_eq_getElem hlt⟩; have HS := hid (jae p hx); have HC := hid (HF.out i x hx wr HB.out); obtain ⟨b, o, rfl, e0, e1, e2⟩ := HL.out i x hx wr HB.out; clear hx; cases hp : p x with
      | true =>
        have HE := hid (show l.any p = true by rw [HI.out, HS.out, hp]; rfl); rw [hp] at HC; clear hp
        go_wp2_with (go_at_fn f; refine Calls.mono HC.out ?_; rintro e u ⟨rfl, hb⟩)
        have HB2 := hid (HB.out.trans (hb.mono HB.out.size)); go_ret; exact ⟨⟨_, rfl, by rw [HE.out]; simp⟩, HB2.out⟩
      | false =>
        have HE := hid (show l.any p = (l.drop (i + 1)).any p by rw [HI.out, HS.out, hp]; rfl); rw [hp] at HC; clear hp
        go_wp2_with (go_at_fn f; refine Calls.mono HC.out ?_; rintro e u ⟨rfl, hb⟩)
        have HB2 := hid (HB.out.trans (hb.mono HB.out.size))
        go_roundw
        case rel => first | exact ⟨i + 1, by omega, by go_num, HB2, HE⟩ | ((repeat apply Exists.intro); exact ⟨⟨i + 1, by omega, by go_num, HB2, HE⟩, rfl⟩) | (refine ⟨trivial, ?_⟩; (repeat apply Exists.intro); exact ⟨⟨i + 1, by omega, by go_num, HB2, HE⟩, rfl⟩)
        case measure => simp [intOf]; omega
    · have i1 : ¬ (i : Int) < (l.length : Int) := by omega
      have HE := hid (show l.any p = false by rw [HI.out, List.drop_eq_nil_of_le (by omega)]; rfl); go_wp2; go_ret; exact ⟨⟨_, rfl, by rw [HE.out]; rfl⟩, HB.out⟩
set_option maxHeartbeats 4000000 in
set_option maxRecDepth 100000 in
theorem conA {A : Type} (l : List A) (p : A → Bool) (V0 V1 V2 : A → Value) (a : Option Addr) (c f : Nat) (cap : Array Value) (eg : ∀ args w, (callFunc f args).run Tryz.prog w = .ok (.enter f args) w) (w : World) (hm : l.length ≤ maxLen)
    (hL : ∀ (i : Nat) (x : A), l[i]? = some x → ∀ u, Below w.heap.size w u → ∃ b o, a = some ⟨b, o, none⟩ ∧ u.cell? ⟨b, o + i * 3, none⟩ = some (V0 x) ∧ u.cell? ⟨b, o + i * 3 + 1, none⟩ = some (V1 x) ∧ u.cell? ⟨b, o + i * 3 + 2, none⟩ = some (V2 x))
    (hf : ∀ (i : Nat) (x : A), l[i]? = some x → ∀ u, Below w.heap.size w u → Calls Tryz.prog f (#[.agg #[V0 x, V1 x, V2 x]] ++ cap) u fun e u' => e = .returned (.bool (p x)) ∧ Below u.heap.size u u') :
    Calls Tryz.prog 158 #[.slice a l.length c, .func (.func f) #[] cap] w fun e w' => e = .returned (.bool (l.any p)) ∧ Below w.heap.size w w' := by
  have HI := hid (idxA l p V0 V1 V2 a c f cap eg w hm hL hf); obtain ⟨q, hq⟩ : ∃ q, q = l.any p := ⟨_, rfl⟩; rw [← hq] at HI; rw [← hq]; clear hL hf hq; go_enter Tryz.func158, Tryz.ntmps158; go_wp2_with fail; refine HI.out.mono ?_; rintro e w1 ⟨⟨z, rfl, hz⟩, hb⟩; simp only; have HZ := hid hz; have HB := hid hb; clear hz hb; go_wp2; go_ret; exact ⟨jg HZ.out, HB.out⟩
end Go.Proofs.YtaapmpchcfcniaaGreatDoor
namespace Go.Proofs.YtaapmpchcfcniaaGreatDoor
open Go.RowKit
theorem jgS (c : UInt8) (t : List UInt8) : (S (c :: t)).toList.isEmpty = false := by rw [Lib.toList_data, jp]; rfl
theorem jgR : (S []).toList.isEmpty = true := by rw [Lib.toList_data, jp]; rfl
theorem jmU (c : UInt8) (t : List UInt8) : 0 < (S (c :: t)).size := by rw [jt]; simp
theorem jgQ (s : List UInt8) (k : Nat) : (S s).extract k (S s).size = S (s.drop k) := by
  rw [Lib.extract_eq, jp, jt, List.take_of_length_le (by simp)]; rfl
theorem jkt (s : List UInt8) (k : Nat) : (S s).extract 0 k = S (s.take k) := by
  rw [Lib.extract_eq, jp]; rfl
theorem jfG (c : UInt8) : ((c.toNat : Int)).toNat.toUInt8 = c := by simp
theorem jgK {w : World} {p : Addr} {v : Value} (h : w.cell? p = some v) (o : Obj) : (w.alloc o).cell? p = some v :=
  (((Below.refl w.heap.size w).alloc (Nat.le_refl _) o).cell (World.block_lt_of_cell? w _ h)).trans h
theorem jb {w w' : World} {p : Addr} {v : Value} (h : w.cell? p = some v) (hb : Below w.heap.size w w') : w'.cell? p = some v :=
  (hb.cell (World.block_lt_of_cell? w _ h)).trans h
theorem jcf {B : Nat} {a w : World} (h : Below B a w) (n : Nat) : Below B a (w.drewN n) := h.trans ⟨rfl, rfl, rfl, Nat.le_refl _, fun _ _ => rfl⟩
theorem jda {B : Nat} {a b c : World} (h : Below B a b) (k : Below b.heap.size b c) (hB : B ≤ a.heap.size) : Below B a c := h.trans (k.mono (Nat.le_trans hB h.size))
end Go.Proofs.YtaapmpchcfcniaaGreatDoor
namespace Go.Proofs.YtaapmpchcfcniaaGreatDoor
open Go.RowKit Go.Proofs
def TokB (w : World) (b : Nat) (t : Tok) : Prop := w.heap[b]? = some (.cells #[.int .i64 t.kind, .string (S t.text), .int .i64 t.num] 207)
theorem TokB.c0 {w : World} {b : Nat} {t : Tok} (h : TokB w b t) : w.cell? ⟨b, 0, none⟩ = some (.int .i64 t.kind) := by unfold TokB at h; simp [World.cell?, h]
theorem TokB.c1 {w : World} {b : Nat} {t : Tok} (h : TokB w b t) : w.cell? ⟨b, 1, none⟩ = some (.string (S t.text)) := by unfold TokB at h; simp [World.cell?, h]
theorem TokB.c2 {w : World} {b : Nat} {t : Tok} (h : TokB w b t) : w.cell? ⟨b, 2, none⟩ = some (.int .i64 t.num) := by unfold TokB at h; simp [World.cell?, h]
theorem TokB.free {w : World} {b : Nat} {t : Tok} (h : TokB w b t) (o : Nat) : w.frozen? ⟨b, o, none⟩ = false := by unfold TokB at h; simp [World.frozen?, h]
theorem TokB.lt {w : World} {b : Nat} {t : Tok} (h : TokB w b t) : b < w.heap.size := World.block_lt_of_cell? w _ h.c0
theorem TokB.far {w : World} {b : Nat} {t : Tok} (h : TokB w b t) {p : Addr} (hn : b ≠ p.block) (v : Value) : TokB (w.setCell p v) b t := (Below.heap_setCell _ _ _ _ hn).trans h
theorem TokB.but {w w' : World} {r b : Nat} {t : Tok} (h : TokB w b t) (hb : But r w w') (hn : b ≠ r) : TokB w' b t := (hb.block b h.lt hn).trans h
theorem TokB.below {w w' : World} {b B : Nat} {t : Tok} (h : TokB w b t) (hb : Below B w w') (hB : b < B) : TokB w' b t := (hb.block b hB).trans h
theorem TokB.next {w w' : World} {b : Nat} {t : Tok} (h : TokB w b t) (hb : Below w.heap.size w w') : TokB w' b t := (hb.block b h.lt).trans h
end Go.Proofs.YtaapmpchcfcniaaGreatDoor
namespace Go.Proofs.YtaapmpchcfcniaaGreatDoor
open Go.RowKit Go.Proofs
theorem jlj : (Tryz.prog.info? 207).map (fun i => (i.zero, i.size, i.bytes)) = some (some (.agg #[.int .i64 0, .string ByteArray.empty, .int .i64 0]), 3, 32) := by kernel_rfl
def vd (l : List Tok) : List Value := l.flatMap fun t => [.int .i64 t.kind, .string (S t.text), .int .i64 t.num]
theorem jd9 (l : List Tok) (t : Tok) : vd (l ++ [t]) = vd l ++ [.int .i64 t.kind, .string (S t.text), .int .i64 t.num] := by simp [vd]
theorem jfK {l : List Tok} {i : Nat} {t : Tok} (h : l[i]? = some t) : (vd l)[i * 3]? = some (.int .i64 t.kind) ∧ (vd l)[i * 3 + 1]? = some (.string (S t.text)) ∧ (vd l)[i * 3 + 2]? = some (.int .i64 t.num) := by
  induction l generalizing i with
  | nil => simp at h
  | cons g l ih =>
    cases i with
    | zero => simp at h; subst h; simp [vd]
    | succ i =>
      have := ih (i := i) (by simpa using h); have e1 : (i + 1) * 3 = i * 3 + 3 := by omega
      rw [e1]
      simpa [vd] using this
def OwnT (w : World) (B : Nat) (v : Value) (l : List Tok) : Prop := w.ownsRow B 207 3 v l.length (vd l)
def ToksAt (w : World) (a : Option Addr) (l : List Tok) : Prop :=
  ∀ (i : Nat) t, l[i]? = some t → ∃ b o, a = some ⟨b, o, none⟩ ∧ b < w.heap.size ∧ w.cell? ⟨b, o + i * 3, none⟩ = some (.int .i64 t.kind) ∧ w.cell? ⟨b, o + i * 3 + 1, none⟩ = some (.string (S t.text)) ∧ w.cell? ⟨b, o + i * 3 + 2, none⟩ = some (.int .i64 t.num)
theorem ToksAt.below {w w' : World} {a : Option Addr} {l : List Tok} (h : ToksAt w a l) (hb : Below w.heap.size w w') : ToksAt w' a l := by
  intro i x hx; obtain ⟨b, o, ha, hlt, h1, h2, h3⟩ := h i x hx; exact ⟨b, o, ha, Nat.lt_of_lt_of_le hlt hb.size, jb h1 hb, jb h2 hb, jb h3 hb⟩
theorem OwnT.any {w : World} {B : Nat} {v : Value} {l : List Tok} (h : OwnT w B v l) : ∃ a cap, v = .slice a l.length cap := by
  rcases h.2 with ⟨rfl, hn⟩ | ⟨g, cap, cur, rfl, _⟩
  · exact ⟨none, 0, by rw [hn]⟩
  · exact ⟨_, _, rfl⟩
theorem OwnT.at {w : World} {B : Nat} {a : Option Addr} {c : Nat} {l : List Tok} (h : OwnT w B (.slice a l.length c) l) : ToksAt w a l := by
  intro i x hx; have hi : i < l.length := (List.getElem?_eq_some_iff.1 hx).1
  rcases h.2 with ⟨_, hn⟩ | ⟨g, cap, cur, hv, hb, hg, q⟩
  · omega
  · simp only [Value.slice.injEq, true_and] at hv; obtain ⟨rfl, rfl⟩ := hv; have hgl : g < w.heap.size := by
      rcases Nat.lt_or_ge g w.heap.size with h' | h'
      · exact h'
      · rw [Array.getElem?_eq_none h'] at hg; cases hg
    obtain ⟨h1, h2, h3⟩ := jfK hx; refine ⟨g, 0, rfl, hgl, ?_, ?_, ?_⟩
    · rw [Nat.zero_add, World.ownsRow.cellAt h (i * 3) (by omega)]; exact h1
    · rw [Nat.zero_add, World.ownsRow.cellAt h (i * 3 + 1) (by omega)]; exact h2
    · rw [Nat.zero_add, World.ownsRow.cellAt h (i * 3 + 2) (by omega)]; exact h3
theorem jc0 {w w' : World} {base : Nat} {e : TypeId} {size : Nat} {v : Value} {n : Nat} {xs : List Value} (h : w.ownsRow base e size v n xs) (hb : Below w.heap.size w w') : w'.ownsRow base e size v n xs := by
  refine ⟨h.1, ?_⟩
  rcases h.2 with h' | ⟨g, cap, cur, h1, h2, hg, q⟩
  · exact .inl h'
  · refine .inr ⟨g, cap, cur, h1, h2, ?_, q⟩; rw [hb.block g (by
      rcases Nat.lt_or_ge g w.heap.size with h' | h'
      · exact h'
      · rw [Array.getElem?_eq_none h'] at hg; cases hg)]
    exact hg
theorem jfk (W : World) (n : Nat) (hn : W.heap.size = n) (x y z : Value) (t : TypeId) : ∀ (j : Nat) u, [x, y, z][j]? = some u → (W.alloc (.cells #[x, y, z] t)).cell? ((⟨n, 0, none⟩ : Addr).add j) = some u := by
  subst hn; intro j u hj; rw [Addr.add_lit, Nat.zero_add]
  match j, hj with
  | 0, hj => simp at hj; subst hj; simp
  | 1, hj => simp at hj; subst hj; simp
  | 2, hj => simp at hj; subst hj; simp
end Go.Proofs.YtaapmpchcfcniaaGreatDoor
