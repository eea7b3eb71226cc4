/-
  Plain facts on tokens: what a script is cut into, what tokens are joined to. No program is named here.
-/
import Derived.Test.YtmgdnhjemhhleaaGreatDoorOQPure5
import Derived.Test.YtmgdnhjemhhleaaGreatDoorRows
set_option maxHeartbeats 2000000
set_option maxRecDepth 100000
namespace Go.Proofs.YtmgdnhjemhhleaaGreatDoor
open Go.RowKit
def jz (c : UInt8) : Bool := (decide (97 ≤ c.toNat) && decide (c.toNat ≤ 122)) || (decide (65 ≤ c.toNat) && decide (c.toNat ≤ 90)) || c == 95
def je (c : UInt8) : Bool := decide (48 ≤ c.toNat) && decide (c.toNat ≤ 57)
def js (c : UInt8) : Bool := jz c || je c
def markL : List UInt8 := [123, 125, 40, 41, 91, 93, 59, 44]
def ja4 (c : UInt8) : Bool := markL.contains c
def zk (c : UInt8) : Bool := c == 32 || c == 9 || c == 13 || c == 10
def zB : List UInt8 → Option (List UInt8)
 | [] => none
 | [_] => none
 | a :: b :: t => if a = 42 ∧ b = 47 then some t else zB (b :: t)
theorem vS {s r : List UInt8} (h : zB s = some r) : r.length < s.length := by
 induction s with
 | nil => cases h
 | cons a t ih =>
   cases t with
   | nil => cases h
   | cons b t =>
     unfold zB at h; split at h
     · cases h; simp; omega
     · have := ih h; simp at this ⊢; omega
def qU (s : List UInt8) : List UInt8 := s.dropWhile (· != 10)
theorem qV (s : List UInt8) : (qU s).length ≤ s.length := (List.dropWhile_suffix _).length_le
def jaP (t : List UInt8) : Option (List UInt8) := match t with | [] => none | c :: u => if c = 42 then some u else none
theorem jab {t u : List UInt8} (h : jaP t = some u) : t = 42 :: u := by
 cases t with
 | nil => cases h
 | cons c v =>
   by_cases e : c = 42
   · simp only [jaP, if_pos e, Option.some.injEq] at h; rw [e, h]
   · simp only [jaP, if_neg e] at h; cases h
def silF : Nat → List UInt8 → Bool × List UInt8
 | 0, s => (true, s)
 | _ + 1, [] => (true, [])
 | n + 1, c :: t =>
   if zk c then silF n t
   else if c = 35 then silF n (qU t)
   else if c = 47 then
     match jaP t with
     | none => (true, c :: t)
     | some u => (match zB u with | none => (false, c :: t) | some r => silF n r)
   else (true, c :: t)
theorem jeF : ∀ (n m : Nat) (s : List UInt8), s.length ≤ n → s.length ≤ m → silF n s = silF m s := by
 intro n
 induction n with
 | zero =>
   intro m s h1 _; have e : s = [] := List.length_eq_zero_iff.1 (by omega); subst e; cases m <;> rfl
 | succ n ih =>
   intro m s h1 h2; cases s with
   | nil => cases m <;> rfl
   | cons c t =>
     cases m with
     | zero => simp at h2
     | succ m =>
       simp only [List.length_cons] at h1 h2; have hl := qV t; simp only [silF]; rw [ih m t (by omega) (by omega), ih m (qU t) (by omega) (by omega)]; cases hs : jaP t with
       | none => rfl
       | some u =>
         have hu := congrArg List.length (jab hs); simp only [List.length_cons] at hu; simp only; cases hc : zB u with
         | none => rfl
         | some r =>
           have hr := vS hc; simp only; rw [ih m r (by omega) (by omega)]
def silM (s : List UInt8) : Bool × List UInt8 := silF s.length s
theorem qN (c : UInt8) (t : List UInt8) : silM (c :: t) =
 if zk c then silM t
 else if c = 35 then silM (qU t)
 else if c = 47 then
  match jaP t with
  | none => (true, c :: t)
  | some u => (match zB u with | none => (false, c :: t) | some r => silM r)
 else (true, c :: t) := by
 have hl := qV t
 show silF (t.length + 1) (c :: t) = _
 simp only [silF]; rw [jeF t.length (qU t).length (qU t) (by omega) (Nat.le_refl _)]; cases hs : jaP t with
 | none => rfl
 | some u =>
   have hu := congrArg List.length (jab hs); simp only [List.length_cons] at hu; simp only; cases hc : zB u with
   | none => rfl
   | some r =>
     have hr := vS hc; simp only; rw [jeF t.length r.length r (by omega) (Nat.le_refl _)]; rfl
theorem jaN : silM [] = (true, []) := rfl
theorem ja9 {c : UInt8} (t : List UInt8) (h : zk c = true) : silM (c :: t) = silM t := by rw [qN, if_pos h]
theorem jca (t : List UInt8) : silM (35 :: t) = silM (qU t) := by
 rw [qN, if_neg (by decide), if_pos rfl]
theorem jcc {c : UInt8} (t : List UInt8) (h1 : zk c = false) (h2 : c ≠ 35) (h3 : c ≠ 47) : silM (c :: t) = (true, c :: t) := by
 rw [qN, if_neg (by rw [h1]; simp), if_neg h2, if_neg h3]
theorem ja8 {t : List UInt8} (h : jaP t = none) : silM (47 :: t) = (true, 47 :: t) := by
 rw [qN, if_neg (by decide), if_neg (by decide), if_pos rfl, h]
theorem jcb {u : List UInt8} (h : zB u = none) : silM (47 :: 42 :: u) = (false, 47 :: 42 :: u) := by
 have h2 : jaP (42 :: u) = some u := by simp [jaP]
 rw [qN, if_neg (by decide), if_neg (by decide), if_pos rfl, h2]; simp only [h]
theorem jdJ {u r : List UInt8} (h : zB u = some r) : silM (47 :: 42 :: u) = silM r := by
 have h2 : jaP (42 :: u) = some u := by simp [jaP]
 rw [qN, if_neg (by decide), if_neg (by decide), if_pos rfl, h2]; simp only [h]
theorem jgi : ∀ (n : Nat) (s : List UInt8), s.length ≤ n → (silM s).2.length ≤ s.length := by
 intro n
 induction n with
 | zero => intro s hs; cases s with
   | nil => rw [jaN]; simp
   | cons c t => simp at hs
 | succ n ih =>
   intro s hs; cases s with
   | nil => rw [jaN]; simp
   | cons c t =>
     simp only [List.length_cons] at hs; cases h1 : zk c with
     | true => rw [ja9 t h1]; have := ih t (by omega); simp; omega
     | false =>
       by_cases h2 : c = 35
       · subst h2; rw [jca]; have h3 := qV t; have := ih (qU t) (by omega); simp; omega
       · by_cases h3 : c = 47
         · subst h3; cases h4 : jaP t with
           | some u =>
             have h4' := jab h4; subst h4'; cases h5 : zB u with
             | none => rw [jcb h5]; simp
             | some r => rw [jdJ h5]; have := vS h5; simp only [List.length_cons] at hs ⊢; have := ih r (by omega); omega
           | none => rw [ja8 h4]; simp
         · rw [jcc t h1 h2 h3]; simp
def decV (l : List UInt8) : Nat := l.foldl (fun n c => 10 * n + (c.toNat - 48)) 0
def zi (s : List UInt8) : Nat × List UInt8 :=
 match s with
 | [] => (1, [])
 | c :: t => if c = 75 ∨ c = 107 then (1024, t) else if c = 77 ∨ c = 109 then (1048576, t) else (1, c :: t)
theorem jhI (s : List UInt8) : (zi s).2.length ≤ s.length := by
 unfold zi; split
 · simp
 · split
   · simp
   · split <;> simp
def jbY (s : List UInt8) : Bool := match s with | [] => false | c :: _ => js c
def numM (s : List UInt8) : Cutting :=
 let r := zi (s.dropWhile je)
 if jbY r.2 then .error 3
 else if 2147483647 < decV (s.takeWhile je) * r.1 then .error 6
 else .ok ({ kind := 3, text := [], num := (decV (s.takeWhile je) * r.1 : Nat) }, r.2)
def strM : Bool → List UInt8 → Option (List UInt8 × List UInt8)
 | _, [] => none
 | true, c :: t => (strM false t).map fun x => (c :: x.1, x.2)
 | false, c :: t => if c = 34 then some ([], t) else if c = 92 then strM true t else (strM false t).map fun x => (c :: x.1, x.2)
theorem jkZ {b : Bool} {s : List UInt8} {x : List UInt8 × List UInt8} (h : strM b s = some x) : x.2.length < s.length := by
 induction s generalizing b x with
 | nil => cases b <;> cases h
 | cons c t ih =>
   cases b with
   | true =>
     unfold strM at h; rw [Option.map_eq_some_iff] at h; obtain ⟨y, hy, rfl⟩ := h; have := ih hy; simp; omega
   | false =>
     unfold strM at h; split at h
     · cases h; simp
     · split at h
       · have := ih h; simp; omega
       · rw [Option.map_eq_some_iff] at h; obtain ⟨y, hy, rfl⟩ := h; have := ih hy; simp; omega
def tokM (s : List UInt8) : Cutting :=
 match s with
 | [] => .error 3
 | c :: t =>
   if jz c then .ok ({ kind := 1, text := c :: t.takeWhile js, num := 0 }, t.dropWhile js)
   else if c = 58 ∧ (t.head?.map jz).getD false = true then .ok ({ kind := 2, text := t.takeWhile js, num := 0 }, t.dropWhile js)
   else if je c then numM (c :: t)
   else if c = 34 then (match strM false t with | none => .error 4 | some x => .ok ({ kind := 4, text := x.1, num := 0 }, x.2))
   else if ja4 c then .ok ({ kind := 5, text := [c], num := 0 }, t)
   else .error 3
theorem jbU (p : UInt8 → Bool) (s : List UInt8) : (s.dropWhile p).length ≤ s.length := (List.dropWhile_suffix _).length_le
theorem jdP {s : List UInt8} {x : Tok × List UInt8} (h : tokM s = .ok x) : x.2.length < s.length := by
 cases s with
 | nil => cases h
 | cons c t =>
   simp only [tokM] at h; split at h
   · cases h; have := jbU js t; simp; omega
   · split at h
     · cases h; have := jbU js t; simp; omega
     · split at h
       · rename_i hd; unfold numM at h; simp only at h; split at h
         · cases h
         · split at h
           · cases h
           · cases h; have h1 := jhI ((c :: t).dropWhile je); have h2 : ((c :: t).dropWhile je).length ≤ t.length := by rw [List.dropWhile_cons, if_pos hd]; exact jbU _ _
             simp; omega
       · split at h
         · split at h
           · cases h
           · rename_i x hx; cases h; have := jkZ hx; simp; omega
         · split at h
           · cases h; simp
           · cases h
def begM (s : List UInt8) : Bool := match s with | [] => false | c :: t => jz c || (c == 58 && (t.head?.map jz).getD false) || je c || c == 34 || ja4 c
theorem jle {s : List UInt8} (h : begM s = false) : tokM s = .error 3 := by
 cases s with
 | nil => rfl
 | cons c t =>
   simp only [begM, Bool.or_eq_false_iff, Bool.and_eq_false_iff, beq_eq_false_iff_ne] at h; obtain ⟨⟨⟨⟨h1, h2⟩, h3⟩, h4⟩, h5⟩ := h; simp only [tokM, h1, h3, h5, Bool.false_eq_true, if_false, if_neg h4]; rw [if_neg]; rintro ⟨a, b⟩
   rcases h2 with h2 | h2
   · exact h2 a
   · rw [b] at h2; cases h2
def cutF : Nat → Nat → List UInt8 → Except (Nat × Int) (List Tok)
 | 0, _, _ => .ok []
 | n + 1, k, s =>
   if (silM s).1 = false then .error ((silM s).2.length, 4)
   else if (silM s).2 = [] then .ok []
   else if k = 400 then .error ((silM s).2.length, if begM (silM s).2 then 5 else 3)
   else match tokM (silM s).2 with
     | .error e => .error ((silM s).2.length, e)
     | .ok x => (match cutF n (k + 1) x.2 with | .error e => .error e | .ok l => .ok (x.1 :: l))
theorem jh4 : ∀ (n m k : Nat) (s : List UInt8), s.length < n → s.length < m → cutF n k s = cutF m k s := by
 intro n
 induction n with
 | zero => intro m k s h; omega
 | succ n ih =>
   intro m k s h1 h2; cases m with
   | zero => omega
   | succ m =>
     simp only [cutF]; cases ht : tokM (silM s).2 with
     | error e => rfl
     | ok x =>
       have l1 := jdP ht; have l2 := jgi _ s (Nat.le_refl _); simp only; rw [ih m (k + 1) x.2 (by omega) (by omega)]
def cutP (k : Nat) (s : List UInt8) : Except (Nat × Int) (List Tok) := cutF (s.length + 1) k s
theorem jl2 (k : Nat) (s : List UInt8) : cutP k s =
 if (silM s).1 = false then .error ((silM s).2.length, 4)
 else if (silM s).2 = [] then .ok []
 else if k = 400 then .error ((silM s).2.length, if begM (silM s).2 then 5 else 3)
 else match tokM (silM s).2 with
  | .error e => .error ((silM s).2.length, e)
  | .ok x => (match cutP (k + 1) x.2 with | .error e => .error e | .ok l => .ok (x.1 :: l)) := by
 show cutF (s.length + 1) k s = _
 simp only [cutF]; cases ht : tokM (silM s).2 with
 | error e => rfl
 | ok x =>
   have l1 := jdP ht; have l2 := jgi _ s (Nat.le_refl _); simp only; rw [jh4 s.length (x.2.length + 1) (k + 1) x.2 (by omega) (by omega)]; rfl
def cutM (s : List UInt8) : List Tok × Int × Int :=
 if 2000 < s.length then ([], 0, 1)
 else match cutP 0 s with
    | .ok l => (l, 0, 0)
    | .error (n, e) => ([], ((s.length - n : Nat) : Int), e)
def jbu (l : List UInt8) : Bool := (l.head?.map jz).getD false && l.all js
def qe (t : Tok) : Int :=
 if ¬ (1 ≤ t.kind ∧ t.kind ≤ 5) then 2
 else if t.kind = 3 then (if ¬ (0 ≤ t.num ∧ t.num ≤ 2147483647) then 6 else if t.text ≠ [] then 3 else 0)
 else if t.num ≠ 0 then 3
 else if t.kind = 5 then (if t.text.length = 1 ∧ t.text.all ja4 = true then 0 else 3)
 else if t.kind = 4 then 0
 else if jbu t.text then 0 else 3
def jG (k : Nat) (s : List UInt8) : Nat := jfr (wTabs.getD k []) 0 s
abbrev Rdg (A : Type) := Except (Nat × Int) (A × List Tok)
def jm {A B : Type} (x : Rdg A) (f : A → List Tok → Rdg B) : Rdg B := match x with | .error e => .error e | .ok (a, r) => f a r
def misP (r : List Tok) : Nat × Int := (r.length, if r.isEmpty then 4 else 3)
def qA (k : Int) (r : List Tok) : Rdg Tok := match r with | [] => .error (misP []) | t :: q => if t.kind = k then .ok (t, q) else .error (misP (t :: q))
def zd (k : Int) (s : List UInt8) (r : List Tok) : Option (List Tok) := match r with | [] => none | t :: q => if t.kind = k ∧ t.text = s then some q else none
def jD (k : Int) (s : List UInt8) (r : List Tok) : Rdg Unit := match zd k s r with | some q => .ok ((), q) | none => .error (misP r)
def qF (r : List Tok) : Rdg (List UInt8) := jm (qA 4 r) fun t q => .ok (t.text, q)
def vq {A : Type} (f : List Tok → Rdg A) : Nat → List A → List Tok → Rdg (List A)
 | 0, acc, r => .ok (acc, r)
 | n + 1, acc, r => match zd 5 [44] r with
   | none => .ok (acc, r)
   | some q => jm (f q) fun x q' => vq f n (acc ++ [x]) q'
def j8 (r : List Tok) : Rdg (List (List UInt8)) :=
 match zd 5 [91] r with
 | none => jm (qF r) fun x q => .ok ([x], q)
 | some q => jm (qF q) fun x q1 => jm (vq qF q1.length [x] q1) fun l q2 => jm (jD 5 [93] q2) fun _ q3 => .ok (l, q3)
def jac (k d : Nat) (r : List Tok) : Rdg Nat :=
 if 6 < d then .error (r.length, 1) else
    match r with
    | [] => .error (misP [])
    | t :: q => if t.kind = 1 ∧ jG k t.text ≠ 0 then .ok (jG k t.text, q) else .error (misP (t :: q))
def zE (b : Bool) : List Tok → Nat → Nat → Rdg (Nat × Nat)
 | [], m, p => .ok ((if m = 0 then 1 else m, if p = 0 ∧ b = true then 1 else p), [])
 | t :: q, m, p =>
   if t.kind = 2 then
     if jG 2 t.text ≠ 0 ∧ m = 0 then zE b q (jG 2 t.text) p
     else if jG 3 t.text ≠ 0 ∧ p = 0 ∧ b = true then zE b q m (jG 3 t.text)
     else .error (misP (t :: q))
   else .ok ((if m = 0 then 1 else m, if p = 0 ∧ b = true then 1 else p), t :: q)
def qc (r : List Tok) : Rdg (Bool × Int) :=
 match zd 2 jhl r with
 | some q => jm (qA 3 q) fun t q => .ok ((true, t.num), q)
 | none => jm (jD 2 jc8 r) fun _ q => jm (qA 3 q) fun t q => .ok ((false, t.num), q)
def zH (f : List Tok → Rdg Tst) (r : List Tok) : Rdg (List Tst) :=
 jm (jD 5 [40] r) fun _ q => jm (f q) fun x q => jm (vq f q.length [x] q) fun l q => jm (jD 5 [41] q) fun _ q => .ok (l, q)
def jA : Nat → Nat → List Tok → Rdg Tst
 | 0, _, _ => .error (0, 0)
 | n + 1, d, r => jm (jac 1 d r) fun k q =>
   if k = 3 then jm (jA n (d + 1) q) fun x q => .ok ({ jT with kind := 3, tests := [x] }, q)
   else if k = 4 ∨ k = 5 then jm (zH (jA n (d + 1)) q) fun l q => .ok ({ jT with kind := k, tests := l }, q)
   else if k = 6 ∨ k = 7 ∨ k = 8 then jm (zE (decide (k ≠ 6)) q 0 0) fun mp q => jm (j8 q) fun a q => jm (j8 q) fun b q => .ok ({ jT with kind := k, mat := mp.1, part := mp.2, names := a, keys := b }, q)
   else if k = 9 then jm (j8 q) fun a q => .ok ({ jT with kind := 9, names := a }, q)
   else if k = 10 then jm (qc q) fun b q => .ok ({ jT with kind := 10, over := b.1, limit := b.2 }, q)
   else .ok ({ jT with kind := k }, q)
def qt (f : List Tok → Rdg Cmd) : Nat → List Cmd → List Tok → Rdg (List Cmd)
 | 0, _, _ => .error (0, 0)
 | n + 1, acc, r => match zd 5 [125] r with
   | some q => .ok (acc, q)
   | none => if r.isEmpty then .error (misP r) else jm (f r) fun c q => qt f n (acc ++ [c]) q
def zo (f : List Tok → Rdg Cmd) (r : List Tok) : Rdg (List Cmd) := jm (jD 5 [123] r) fun _ q => qt f (q.length + 1) [] q
def cmdP : Nat → Bool → Nat → List Tok → Rdg Cmd
 | 0, _, _, _ => .error (0, 0)
 | n + 1, true, d, r => jm (jac 0 d r) fun k q =>
   if k = 2 then cmdP n false d q
   else if k = 1 ∨ k = 8 ∨ k = 9 then jm (j8 q) fun l q => jm (jD 5 [59] q) fun _ q => .ok (⟨k, l, jT, [], []⟩, q)
   else if k = 5 ∨ k = 6 ∨ k = 7 then jm (qF q) fun x q => jm (jD 5 [59] q) fun _ q => .ok (⟨k, [x], jT, [], []⟩, q)
   else jm (jD 5 [59] q) fun _ q => .ok (⟨k, [], jT, [], []⟩, q)
 | n + 1, false, d, r => jm (jA n 1 r) fun t q => jm (zo (cmdP n true (d + 1)) q) fun th q =>
   match zd 1 vC q with
   | some q => jm (cmdP n false d q) fun c q => .ok (⟨2, [], t, th, [c]⟩, q)
   | none => match zd 1 jcp q with
     | some q => jm (zo (cmdP n true (d + 1)) q) fun el q => .ok (⟨2, [], t, th, el⟩, q)
     | none => .ok (⟨2, [], t, th, []⟩, q)
def vL (f : List Tok → Rdg Cmd) : Nat → List Cmd → List Tok → Rdg (List Cmd)
 | 0, acc, r => .ok (acc, r)
 | n + 1, acc, r => if r.isEmpty then .ok (acc, r) else jm (f r) fun c q => vL f n (acc ++ [c]) q
def zZ (r : List Tok) : Rdg (List Cmd) := vL (cmdP (r.length + 2) true 0) r.length [] r
def jcJ : List Tok → Nat → Option (Nat × Int)
 | [], _ => none
 | t :: r, i => if qe t = 0 then jcJ r (i + 1) else some (i, qe t)
def jX (l : List Tok) : List Cmd × Int × Int :=
 if 400 < l.length then ([], 0, 5) else
    match jcJ l 0 with
    | some (i, e) => ([], i, e)
    | none => match zZ l with
      | .ok (cs, _) => (cs, 0, 0)
      | .error (m, e) => ([], (l.length - m : Nat), e)
theorem jr {A B : Type} {x : Rdg A} {f : A → List Tok → Rdg B} {y : B × List Tok} (h : jm x f = .ok y) : ∃ a q, x = .ok (a, q) ∧ f a q = .ok y := by
 unfold jm at h; split at h
 · cases h
 · exact ⟨_, _, rfl, h⟩
theorem jc6 {k : Int} {s : List UInt8} {r q : List Tok} (h : zd k s r = some q) : ∃ t, r = t :: q ∧ t.kind = k ∧ t.text = s := by
 cases r with
 | nil => cases h
 | cons t u =>
   unfold zd at h; simp only at h; split at h
   · rename_i hk; cases h; exact ⟨t, rfl, hk⟩
   · cases h
theorem zt {k : Int} {s : List UInt8} {r q : List Tok} {u : Unit} (h : jD k s r = .ok (u, q)) : zd k s r = some q := by
 unfold jD at h; split at h
 · rename_i hs; cases h; exact hs
 · cases h
theorem jch {k : Int} {r q : List Tok} {t : Tok} (h : qA k r = .ok (t, q)) : r = t :: q ∧ t.kind = k := by
 unfold qA at h; split at h
 · cases h
 · split at h
   · rename_i hk; cases h; exact ⟨rfl, hk⟩
   · cases h
theorem jC {k : Int} {s : List UInt8} {r q : List Tok} (h : zd k s r = some q) : q.length < r.length := by
 obtain ⟨t, rfl, _⟩ := jc6 h; simp
theorem jlb {r q : List Tok} {x : List UInt8} (h : qF r = .ok (x, q)) : ∃ t, r = t :: q ∧ t.kind = 4 ∧ t.text = x := by
 obtain ⟨t, q', h1, h2⟩ := jr h; cases h2; obtain ⟨rfl, hk⟩ := jch h1; exact ⟨t, rfl, hk, rfl⟩
theorem vO {r q : List Tok} {x : List UInt8} (h : qF r = .ok (x, q)) : q.length < r.length := by
 obtain ⟨t, rfl, _⟩ := jlb h; simp
theorem jel {A : Type} {f : List Tok → Rdg A} (hf : ∀ r x q, f r = .ok (x, q) → q.length ≤ r.length) : ∀ (n : Nat) (acc l : List A) (r q : List Tok), vq f n acc r = .ok (l, q) → q.length ≤ r.length := by
 intro n
 induction n with
 | zero => intro acc l r q h; cases h; exact Nat.le_refl _
 | succ n ih =>
   intro acc l r q h; unfold vq at h; split at h
   · cases h; exact Nat.le_refl _
   · rename_i q0 hs; obtain ⟨x, q1, h1, h2⟩ := jr h; have a := jC hs; have b := hf _ _ _ h1; have c := ih _ _ _ _ h2; omega
theorem jaC {r q : List Tok} {l : List (List UInt8)} (h : j8 r = .ok (l, q)) : q.length < r.length := by
 unfold j8 at h; split at h
 · obtain ⟨x, q1, h1, h2⟩ := jr h; cases h2; exact vO h1
 · rename_i q0 hs; obtain ⟨x, q1, h1, h2⟩ := jr h; obtain ⟨l2, q2, h3, h4⟩ := jr h2; obtain ⟨u, q3, h5, h6⟩ := jr h4; cases h6; have a := jC hs; have b := vO h1; have c := jel (fun _ _ _ h => Nat.le_of_lt (vO h)) _ _ _ _ _ h3; have d := jC (zt h5); omega
theorem jds {k d : Nat} {r q : List Tok} {n : Nat} (h : jac k d r = .ok (n, q)) : d ≤ 6 ∧ n ≠ 0 ∧ ∃ t, r = t :: q ∧ t.kind = 1 ∧ jG k t.text = n := by
 unfold jac at h; split at h
 · cases h
 · rename_i hd; split at h
   · cases h
   · split at h
     · rename_i hk; cases h; exact ⟨by omega, hk.2, _, rfl, hk.1, rfl⟩
     · cases h
theorem jaB {k d : Nat} {r q : List Tok} {n : Nat} (h : jac k d r = .ok (n, q)) : q.length < r.length := by
 obtain ⟨_, _, t, rfl, _⟩ := jds h; simp
theorem jjs {b : Bool} : ∀ (r : List Tok) (m p : Nat) (x : Nat × Nat) (q : List Tok), zE b r m p = .ok (x, q) → q.length ≤ r.length := by
 intro r
 induction r with
 | nil => intro m p x q h; unfold zE at h; cases h; exact Nat.le_refl _
 | cons t r ih =>
   intro m p x q h; unfold zE at h; split at h
   · split at h
     · have := ih _ _ _ _ h; simp; omega
     · split at h
       · have := ih _ _ _ _ h; simp; omega
       · cases h
   · cases h; exact Nat.le_refl _
theorem jgy {r q : List Tok} {x : Bool × Int} (h : qc r = .ok (x, q)) : q.length < r.length := by
 unfold qc at h; split at h
 · rename_i q0 hs; obtain ⟨t, q1, h1, h2⟩ := jr h; cases h2; have a := jC hs; obtain ⟨rfl, _⟩ := jch h1
   simp at a; omega
 · obtain ⟨u, q0, h0, h'⟩ := jr h; obtain ⟨t, q1, h1, h2⟩ := jr h'; cases h2; have a := jC (zt h0); obtain ⟨rfl, _⟩ := jch h1
   simp at a; omega
theorem jhH {f : List Tok → Rdg Tst} (hf : ∀ r x q, f r = .ok (x, q) → q.length ≤ r.length) {r q : List Tok} {l : List Tst} (h : zH f r = .ok (l, q)) : q.length < r.length := by
 obtain ⟨u, q1, h1, h2⟩ := jr h; obtain ⟨x, q2, h3, h4⟩ := jr h2; obtain ⟨l', q3, h5, h6⟩ := jr h4; obtain ⟨u', q4, h7, h8⟩ := jr h6; cases h8; have a := jC (zt h1); have b := hf _ _ _ h3; have c := jel hf _ _ _ _ _ h5; have d := jC (zt h7); omega
theorem jaR : ∀ (n d : Nat) (r : List Tok) (t : Tst) (q : List Tok), jA n d r = .ok (t, q) → q.length < r.length := by
 intro n
 induction n with
 | zero => intro d r t q h; cases h
 | succ n ih =>
   intro d r t q h; unfold jA at h; obtain ⟨k, q1, h1, h2⟩ := jr h; have a := jaB h1; simp only at h2; split at h2
   · obtain ⟨x, q2, h3, h4⟩ := jr h2; cases h4; have := ih _ _ _ _ h3; omega
   · split at h2
     · obtain ⟨x, q2, h3, h4⟩ := jr h2; cases h4; have := jhH (fun _ _ _ h => Nat.le_of_lt (ih _ _ _ _ h)) h3; omega
     · split at h2
       · obtain ⟨x, q2, h3, h4⟩ := jr h2; obtain ⟨y, q3, h5, h6⟩ := jr h4; obtain ⟨z, q4, h7, h8⟩ := jr h6; cases h8; have b := jjs _ _ _ _ _ h3; have c := jaC h5; have e := jaC h7; omega
       · split at h2
         · obtain ⟨x, q2, h3, h4⟩ := jr h2; cases h4; have := jaC h3; omega
         · split at h2
           · obtain ⟨x, q2, h3, h4⟩ := jr h2; cases h4; have := jgy h3; omega
           · cases h2; omega
theorem jgx {f : List Tok → Rdg Cmd} (hf : ∀ r x q, f r = .ok (x, q) → q.length ≤ r.length) : ∀ (n : Nat) (acc l : List Cmd) (r q : List Tok), qt f n acc r = .ok (l, q) → q.length ≤ r.length := by
 intro n
 induction n with
 | zero => intro acc l r q h; cases h
 | succ n ih =>
   intro acc l r q h; unfold qt at h; split at h
   · rename_i q0 hs; cases h; exact Nat.le_of_lt (jC hs)
   · split at h
     · cases h
     obtain ⟨x, q1, h1, h2⟩ := jr h; have b := hf _ _ _ h1; have c := ih _ _ _ _ h2; omega
theorem jaX {f : List Tok → Rdg Cmd} (hf : ∀ r x q, f r = .ok (x, q) → q.length ≤ r.length) {r q : List Tok} {l : List Cmd} (h : zo f r = .ok (l, q)) : q.length < r.length := by
 obtain ⟨u, q1, h1, h2⟩ := jr h; have a := jC (zt h1); have b := jgx hf _ _ _ _ _ h2; omega
theorem jdk : ∀ (n : Nat) (b : Bool) (d : Nat) (r : List Tok) (c : Cmd) (q : List Tok), cmdP n b d r = .ok (c, q) → q.length < r.length := by
 intro n
 induction n with
 | zero => intro b d r t q h; cases h
 | succ n ih =>
   intro b d r t q h; have ih' : ∀ b d r x q, cmdP n b d r = .ok (x, q) → q.length ≤ r.length := fun _ _ _ _ _ h => Nat.le_of_lt (ih _ _ _ _ _ h)
   cases b with
   | true =>
     unfold cmdP at h; obtain ⟨k, q1, h1, h2⟩ := jr h; have a := jaB h1; split at h2
     · have := ih _ _ _ _ _ h2; omega
     · split at h2
       · obtain ⟨x, q2, h3, h4⟩ := jr h2; obtain ⟨y, q3, h5, h6⟩ := jr h4; cases h6; have := jaC h3; have := jC (zt h5); omega
       · split at h2
         · obtain ⟨x, q2, h3, h4⟩ := jr h2; obtain ⟨y, q3, h5, h6⟩ := jr h4; cases h6; have := vO h3; have := jC (zt h5); omega
         · obtain ⟨y, q3, h5, h6⟩ := jr h2; cases h6; have := jC (zt h5); omega
   | false =>
     unfold cmdP at h; obtain ⟨x, q1, h1, h2⟩ := jr h; obtain ⟨y, q2, h3, h4⟩ := jr h2; have a := jaR _ _ _ _ _ h1; have b := jaX (ih' _ _) h3; split at h4
     · rename_i q0 hs; obtain ⟨z, q3, h5, h6⟩ := jr h4; cases h6; have := jC hs; have := ih _ _ _ _ _ h5; omega
     · split at h4
       · rename_i q0 hs; obtain ⟨z, q3, h5, h6⟩ := jr h4; cases h6; have := jC hs; have := jaX (ih' _ _) h5; omega
       · cases h4; omega
theorem jfF (s : List UInt8) : silM (s.dropWhile zk) = silM s := by
 induction s with
 | nil => rfl
 | cons c t ih =>
   rw [List.dropWhile_cons]; cases h : zk c with
   | true => rw [if_pos rfl, ih, ja9 t h]
   | false => simp
theorem jbf (u : List UInt8) : zB u = if 0 ≤ Lib.index u [42, 47] then some (u.drop ((Lib.index u [42, 47]).toNat + 2)) else none := by
 induction u with
 | nil => rfl
 | cons a t ih =>
   cases t with
   | nil =>
     have e : Lib.index [a] [42, 47] = -1 := by
        unfold Lib.index; rw [if_neg (by simp [List.isPrefixOf])]; rfl
     rw [e]; rfl
   | cons b t =>
     by_cases h : a = 42 ∧ b = 47
     · obtain ⟨rfl, rfl⟩ := h; have e : Lib.index (42 :: 47 :: t) [42, 47] = 0 := by
        unfold Lib.index; rw [if_pos (by simp [List.isPrefixOf])]
       rw [e, zB]; rfl
     · have hp : ¬ ([42, 47] : List UInt8).isPrefixOf (a :: b :: t) = true := by
        intro hp; simp only [List.isPrefixOf, Bool.and_true, Bool.and_eq_true, beq_iff_eq] at hp; exact h ⟨hp.1.symm, hp.2.symm⟩
       have hge := Lib.index_ge (b :: t) [42, 47]; rw [zB, if_neg h, ih]; have e : Lib.index (a :: b :: t) [42, 47] = if Lib.index (b :: t) [42, 47] == -1 then -1 else Lib.index (b :: t) [42, 47] + 1 := by
        rw [Lib.index, if_neg hp]
       rw [e]
       by_cases hm : Lib.index (b :: t) [42, 47] = -1
       · rw [hm]; rfl
       · have hm' : ¬ (Lib.index (b :: t) [42, 47] == -1) = true := by simpa using hm
         rw [if_neg hm', if_pos (by omega), if_pos (by omega)]; have e2 : (Lib.index (b :: t) [42, 47] + 1).toNat + 2 = ((Lib.index (b :: t) [42, 47]).toNat + 2) + 1 := by omega
         rw [e2]; rfl
theorem jj2 {u : List UInt8} (h : zB u = none) : Lib.cut u [42, 47] = (u, [], false) := by
 rw [jbf] at h; unfold Lib.cut; split at h
 · cases h
 · rename_i hn; rw [if_neg hn]
theorem jl5 {u r : List UInt8} (h : zB u = some r) : ∃ a, Lib.cut u [42, 47] = (a, r, true) ∧ u.length = a.length + 2 + r.length ∧ r = u.drop (a.length + 2) := by
 rw [jbf] at h; split at h
 · rename_i hn; have hr := Lib.index_room u [42, 47] hn; simp only [List.length_cons, List.length_nil] at hr; simp only [Option.some.injEq] at h; refine ⟨u.take (Lib.index u [42, 47]).toNat, ?_, ?_, ?_⟩
   · unfold Lib.cut; rw [if_pos hn, ← h]; rfl
   · rw [← h]; simp; omega
   · rw [← h, List.length_take, Nat.min_eq_left (by omega)]
 · cases h
def vI (s : List UInt8) : Int :=
 match s with
 | [] => 0
 | c :: t => if jz c then 1 else if c = 58 ∧ (t.head?.map jz).getD false = true then 2 else if je c then 3 else if c = 34 then 4 else if ja4 c then 5 else 0
theorem jeh (s : List UInt8) : (vI s = 0) ↔ begM s = false := by
 cases s with
 | nil => simp [vI, begM]
 | cons c t =>
   simp only [vI, begM]; cases h1 : jz c with
   | true => simp
   | false =>
     by_cases h2 : c = 58 ∧ (t.head?.map jz).getD false = true
     · simp only [Bool.false_eq_true, if_false, h2.1, h2.2]; simp
     · simp only [Bool.false_eq_true, if_false, if_neg h2]; have h2' : (c == 58 && (t.head?.map jz).getD false) = false := by
        cases e : (c == 58 && (t.head?.map jz).getD false) with
        | false => rfl
        | true => exact absurd (by simpa using e) h2
       rw [h2']; cases h3 : je c with
       | true => simp
       | false =>
         by_cases h4 : c = 34
         · simp [h4]
         · cases h5 : ja4 c <;> simp [h4]
def wlen (s : List UInt8) : Nat := match s with | [] => 0 | c :: t => if je c then 0 else ((c :: t).takeWhile js).length
theorem jbq {c : UInt8} (h : jz c = true) : je c = false := by
 cases e : je c with
 | false => rfl
 | true =>
   unfold je at e; unfold jz at h; simp only [Bool.and_eq_true, decide_eq_true_eq, Bool.or_eq_true, beq_iff_eq] at e h
   rcases h with (h | h) | h
   · omega
   · omega
   · subst h; simp at e
theorem qY {c : UInt8} (t : List UInt8) (h : jz c = true) : wlen (c :: t) = 1 + (t.takeWhile js).length := by
 show (if je c then 0 else ((c :: t).takeWhile js).length) = _
 rw [jbq h, if_neg (by simp), List.takeWhile_cons, if_pos (by unfold js; rw [h]; rfl)]
 simp; omega
theorem jdT {c : UInt8} (t : List UInt8) (h : jz c = false) : wlen (c :: t) = 0 := by
 show (if je c then 0 else ((c :: t).takeWhile js).length) = _
 cases e : je c with
 | true => rfl
 | false => rw [if_neg (by simp), List.takeWhile_cons, if_neg (by unfold js; rw [h, e]; simp)]; rfl
theorem jdU (s : List UInt8) : 0 < wlen s ↔ (s.head?.map jz).getD false = true := by
 cases s with
 | nil => simp [wlen]
 | cons c t =>
   cases e : jz c with
   | true => rw [qY t e]; simp [e]; omega
   | false => rw [jdT t e]; simp [e]
theorem jlo (s : List UInt8) : (s ≠ [] ∧ wlen s = s.length) ↔ jbu s = true := by
 cases s with
 | nil => simp [jbu]
 | cons c t =>
   cases e : jz c with
   | false => rw [jdT t e]; simp [jbu, e]
   | true =>
     rw [qY t e]; have hc : js c = true := by unfold js; rw [e]; rfl
     simp only [jbu, List.head?_cons, Option.map_some, Option.getD_some, e, Bool.true_and, List.all_cons, hc, ne_eq, reduceCtorEq, not_false_eq_true, true_and, List.length_cons]; rw [List.all_eq_true]
     constructor
     · intro h x hx; have h2 : t.takeWhile js = t := by
        have hs := List.takeWhile_prefix (l := t) js; exact hs.eq_of_length (by omega)
       rw [← h2] at hx; exact List.all_eq_true.1 (List.all_takeWhile (p := js) (l := t)) x hx
     · intro h; have h2 : t.takeWhile js = t := by
        have := List.takeWhile_append_of_pos (p := js) (l₁ := t) (l₂ := []) h
        simpa using this
       rw [h2]; omega
open Go.Proofs
theorem jgK {c : UInt8} (h1 : 48 ≤ c.toNat) (h2 : c.toNat ≤ 57) : je c = true := by unfold je; simp [h1, h2]
theorem jd7 {c : UInt8} (h : ¬ (48 ≤ c.toNat ∧ c.toNat ≤ 57)) : je c = false := by
 unfold je; rw [Bool.and_eq_false_iff, decide_eq_false_iff_not, decide_eq_false_iff_not]; omega
theorem jK (c : UInt8) (w : World) :
 Calls Tryz.prog 120 #[.int .u8 c.toNat] w fun e w' => e = .returned (.bool (je c)) ∧ w' = w := by
 have hu := c.toNat_lt
 by_cases h1 : 48 ≤ c.toNat
 · by_cases h2 : c.toNat ≤ 57
   · have HA : Hid _ := jgK h1 h2; have b1 : (48 : Int) ≤ (c.toNat : Int) := by omega
     have b2 : (c.toNat : Int) ≤ 57 := by omega
     clear h1 h2; go_enter Tryz.func120, Tryz.ntmps120; go_wp2; go_ret; exact ⟨jb HA.out.symm, rfl⟩
   · have HA : Hid (je c = false) := jd7 (by omega); have b1 : (48 : Int) ≤ (c.toNat : Int) := by omega
     have b2 : ¬ (c.toNat : Int) ≤ 57 := by omega
     clear h1 h2; go_enter Tryz.func120, Tryz.ntmps120; go_wp2; go_ret; exact ⟨jb HA.out.symm, rfl⟩
 · have HA : Hid (je c = false) := jd7 (by omega); have b1 : ¬ (48 : Int) ≤ (c.toNat : Int) := by omega
   clear h1; go_enter Tryz.func120, Tryz.ntmps120; go_wp2; go_ret; exact ⟨jb HA.out.symm, rfl⟩
theorem jjK {c : UInt8} (h1 : 97 ≤ c.toNat) (h2 : c.toNat ≤ 122) : js c = true := by unfold js jz; simp [h1, h2]
theorem jlp {c : UInt8} (h1 : 65 ≤ c.toNat) (h2 : c.toNat ≤ 90) : js c = true := by unfold js jz; simp [h1, h2]
theorem jhL {c : UInt8} (h1 : ¬ (97 ≤ c.toNat ∧ c.toNat ≤ 122)) (h2 : ¬ (65 ≤ c.toNat ∧ c.toNat ≤ 90)) (h3 : je c = false) : js c = decide ((c.toNat : Int) = 95) := by
 unfold js jz; rw [h3]; have e1 : (decide (97 ≤ c.toNat) && decide (c.toNat ≤ 122)) = false := by rw [Bool.and_eq_false_iff, decide_eq_false_iff_not, decide_eq_false_iff_not]; omega
 have e2 : (decide (65 ≤ c.toNat) && decide (c.toNat ≤ 90)) = false := by rw [Bool.and_eq_false_iff, decide_eq_false_iff_not, decide_eq_false_iff_not]; omega
 rw [e1, e2]; simp only [Bool.false_or, Bool.or_false]
 by_cases h : c = 95
 · subst h; rfl
 · have : ¬ (c.toNat : Int) = 95 := fun e => h (UInt8.toNat_inj.1 (by show c.toNat = 95; omega))
   simp [h, this]
theorem ze (c : UInt8) (w : World) :
 Calls Tryz.prog 153 #[.int .u8 c.toNat] w fun e w' => e = .returned (.bool (js c)) ∧ w' = w := by
 have hu := c.toNat_lt
 by_cases h1 : 97 ≤ c.toNat ∧ c.toNat ≤ 122
 · have HA : Hid _ := jjK h1.1 h1.2; have b1 : (97 : Int) ≤ (c.toNat : Int) := by omega
   have b2 : (c.toNat : Int) ≤ 122 := by omega
   clear h1; go_enter Tryz.func153, Tryz.ntmps153; go_wp2; go_ret; exact ⟨jb HA.out.symm, rfl⟩
 by_cases h2 : 65 ≤ c.toNat ∧ c.toNat ≤ 90
 · have HA : Hid _ := jlp h2.1 h2.2; have b0 : ¬ (97 : Int) ≤ (c.toNat : Int) := by omega
   have b1 : (65 : Int) ≤ (c.toNat : Int) := by omega
   have b2 : (c.toNat : Int) ≤ 90 := by omega
   clear h1 h2; go_enter Tryz.func153, Tryz.ntmps153; go_wp2; go_ret; exact ⟨jb HA.out.symm, rfl⟩
 cases h3 : je c with
 | true =>
   have HA : Hid (js c = true) := by unfold Hid js; rw [h3]; simp
   have HD : Hid _ := h3; have h3' : 48 ≤ c.toNat ∧ c.toNat ≤ 57 := by unfold je at h3; simpa using h3
   have b0 : ¬ (97 : Int) ≤ (c.toNat : Int) := by omega
   have b1 : ¬ (65 : Int) ≤ (c.toNat : Int) := by omega
   clear h1 h2 h3 h3'; go_enter Tryz.func153, Tryz.ntmps153; go_wp2_with fail; refine (jK c _).mono ?_; rintro e u ⟨rfl, hu⟩; have hu' := hu.symm; subst hu'; rw [HD.out]; go_wp2; go_ret; exact ⟨jb HA.out.symm, rfl⟩
 | false =>
   have HA : Hid _ := jhL h1 h2 h3; have HD : Hid _ := h3; clear h3
   by_cases g1 : 97 ≤ c.toNat
   · have b0 : (97 : Int) ≤ (c.toNat : Int) := by omega
     have b0' : ¬ (c.toNat : Int) ≤ 122 := by omega
     have b1 : (65 : Int) ≤ (c.toNat : Int) := by omega
     have b1' : ¬ (c.toNat : Int) ≤ 90 := by omega
     clear h1 h2 g1; go_enter Tryz.func153, Tryz.ntmps153; go_wp2_with fail; refine (jK c _).mono ?_; rintro e u ⟨rfl, hu⟩; have hu' := hu.symm; subst hu'; rw [HD.out]; go_wp2; go_ret; exact ⟨jb (by rw [HA.out]; first | rfl | simp), rfl⟩
   · by_cases g2 : 65 ≤ c.toNat
     · have b0 : ¬ (97 : Int) ≤ (c.toNat : Int) := by omega
       have b1 : (65 : Int) ≤ (c.toNat : Int) := by omega
       have b1' : ¬ (c.toNat : Int) ≤ 90 := by omega
       clear h1 h2 g1 g2; go_enter Tryz.func153, Tryz.ntmps153; go_wp2_with fail; refine (jK c _).mono ?_; rintro e u ⟨rfl, hu⟩; have hu' := hu.symm; subst hu'; rw [HD.out]; go_wp2; go_ret; exact ⟨jb (by rw [HA.out]; first | rfl | simp), rfl⟩
     · have b0 : ¬ (97 : Int) ≤ (c.toNat : Int) := by omega
       have b1 : ¬ (65 : Int) ≤ (c.toNat : Int) := by omega
       clear h1 h2 g1 g2; go_enter Tryz.func153, Tryz.ntmps153; go_wp2_with fail; refine (jK c _).mono ?_; rintro e u ⟨rfl, hu⟩; have hu' := hu.symm; subst hu'; rw [HD.out]; go_wp2; go_ret; exact ⟨jb (by rw [HA.out]; first | rfl | simp), rfl⟩
open Go.Lib
theorem jdL (s : ByteArray) (f : Nat) (cap : Array Value) (eg : ∀ args w, (callFunc f args).run Tryz.prog w = .ok (.enter f args) w) (n : Nat) (J : Nat → World → Prop) (w : World) (hs : s.size ≤ maxLen) (hn : n ≤ s.size)
 (hyes : ∀ (k : Nat) (h : k < s.size) (u : World), k < n → J k u → Calls Tryz.prog f (#[.int .u8 s[k].toNat] ++ cap) u fun e u' => e = .returned (.bool true) ∧ J (k + 1) u')
 (hno : ∀ (h : n < s.size) (u : World), J n u → Calls Tryz.prog f (#[.int .u8 s[n].toNat] ++ cap) u fun e u' => e = .returned (.bool false) ∧ J n u')
 (h0 : J 0 w) :
 Calls Tryz.prog 114 #[.string s, .func (.func f) #[] cap] w fun e w' => e = .returned (.int .i64 n) ∧ J n w' := by
 unfold maxLen at hs; have HY : Hid _ := hyes; have HO : Hid _ := hno; have H0 : Hid _ := h0; clear hyes hno h0; go_enter Tryz.func114, Tryz.ntmps114; go_wp2
 go_loopw [5] (fun i wr => ∃ k : Nat, k ≤ n ∧ i = .int .i64 k ∧ Hid (J k wr)) (fun i _ => s.size - (intOf i).toNat)
 case atStart => exact ⟨0, Nat.zero_le _, rfl, H0⟩
 case round =>
  obtain ⟨k, hk, rfl, HJ⟩ := hrel
  by_cases hlt : k < n
  · have hks : k < s.size := by omega
    go_wp2_with (go_at_fn f; refine Calls.mono (HY.out k hks wr hlt HJ.out) ?_; rintro e u ⟨rfl, hj⟩)
    go_roundw
    case rel => exact ⟨k + 1, by omega, by go_num, hj⟩
    case measure => simp [intOf]; omega
  · have hkn : k = n := by omega
    subst hkn
    by_cases hks : k < s.size
    · go_wp2_with (go_at_fn f; refine Calls.mono (HO.out hks wr HJ.out) ?_; rintro e u ⟨rfl, hj⟩)
      go_ret; exact ⟨rfl, hj⟩
    · go_wp2; go_ret; exact ⟨rfl, HJ.out⟩
theorem jeI {p : UInt8 → Bool} : ∀ {l : List UInt8} {k : Nat} (h : k < l.length), k < (l.takeWhile p).length → p l[k] = true := by
 intro l
 induction l with
 | nil => intro k h; simp at h
 | cons c t ih =>
   intro k h hk; rw [List.takeWhile_cons] at hk; cases e : p c with
   | false => rw [e] at hk; simp at hk
   | true =>
     rw [e] at hk; cases k with
     | zero => exact e
     | succ k => simp at hk; exact ih (by simpa using h) hk
theorem jgk {p : UInt8 → Bool} : ∀ {l : List UInt8} (h : (l.takeWhile p).length < l.length), p (l[(l.takeWhile p).length]'h) = false := by
 intro l
 induction l with
 | nil => intro h; simp at h
 | cons c t ih =>
   intro h; cases e : p c with
   | false =>
     have : (c :: t).takeWhile p = [] := by rw [List.takeWhile_cons, e]; rfl
     simp only [this, List.length_nil, List.getElem_cons_zero]; exact e
   | true =>
     have : (c :: t).takeWhile p = c :: t.takeWhile p := by rw [List.takeWhile_cons, e]; rfl
     simp only [this, List.length_cons] at h ⊢; simp only [List.getElem_cons_succ]; exact ih (by omega)
theorem jiL (s : ByteArray) (k : Nat) (h : k < s.size) : s[k] = s.data.toList[k]'(by rw [size_list]; exact h) := rfl
theorem jcd (s : ByteArray) (f : Nat) (eg : ∀ args w, (callFunc f args).run Tryz.prog w = .ok (.enter f args) w) (p : UInt8 → Bool) (w : World) (hs : s.size ≤ maxLen)
 (hf : ∀ (c : UInt8) (u : World), Calls Tryz.prog f #[.int .u8 c.toNat] u fun e u' => e = .returned (.bool (p c)) ∧ u' = u) :
 Calls Tryz.prog 114 #[.string s, .func (.func f) #[] #[]] w fun e w' => e = .returned (.int .i64 ((s.data.toList.takeWhile p).length : Nat)) ∧ w' = w := by
 have hle : (s.data.toList.takeWhile p).length ≤ s.size := by rw [← size_list]; exact (List.takeWhile_prefix p).length_le
 refine jdL s f #[] eg _ (fun _ u => u = w) w hs hle ?_ ?_ rfl
 · intro k h u hk hu; subst hu; refine (hf s[k] u).mono ?_; rintro e u' ⟨rfl, rfl⟩; rw [jiL s k h, jeI _ hk]; exact ⟨rfl, rfl⟩
 · intro h u hu; subst hu; refine (hf s[(s.data.toList.takeWhile p).length] u).mono ?_; rintro e u' ⟨rfl, rfl⟩; rw [jiL s _ h, jgk (p := p) (l := s.data.toList)]; exact ⟨rfl, rfl⟩
theorem jgN : ∀ args w, (callFunc 153 args).run Tryz.prog w = .ok (.enter 153 args) w := enters_of Tryz.func153 (by kernel_rfl) rfl
theorem jw (s : List UInt8) (w : World) (hs : s.length ≤ maxLen) :
 Calls Tryz.prog 119 #[.string (S s)] w fun e w' => e = .returned (.int .i64 (wlen s : Nat)) ∧ w' = w := by
 cases s with
 | nil =>
   have he := jbH; go_enter Tryz.func119, Tryz.ntmps119; go_wp2; go_ret; exact ⟨rfl, rfl⟩
 | cons c t =>
   have he := jbI c t; have hz := jeV c t; have HZ : Hid ((S (c :: t)).size ≤ maxLen) := by unfold Hid; rw [jd]; exact hs
   clear hs; cases hd : je c with
   | true =>
     have HD : Hid _ := hd; have HL : Hid (wlen (c :: t) = 0) := by show (if je c then 0 else _) = 0; rw [hd]; rfl
     clear hd; go_enter Tryz.func119, Tryz.ntmps119; go_wp2_with fail; refine (jK c _).mono ?_; rintro e u ⟨rfl, hu⟩; have hu' := hu.symm; subst hu'; rw [HD.out]; go_wp2; go_ret; exact ⟨jc (by rw [HL.out]; rfl), rfl⟩
   | false =>
     have HD : Hid _ := hd; have HL : Hid (wlen (c :: t) = ((S (c :: t)).data.toList.takeWhile js).length) := by
        unfold Hid; rw [jj]; show (if je c then 0 else _) = _; rw [hd]; rfl
     clear hd; go_enter Tryz.func119, Tryz.ntmps119; go_wp2_with fail; refine (jK c _).mono ?_; rintro e u ⟨rfl, hu⟩; have hu' := hu.symm; subst hu'; rw [HD.out]; go_wp2_with fail; refine (jcd (S (c :: t)) 153 jgN js _ HZ.out (fun c u => ze c u)).mono ?_; rintro e u ⟨rfl, hu⟩; have hu' := hu.symm; subst hu'; rw [← HL.out]; go_wp2; go_ret; exact ⟨rfl, rfl⟩
theorem jcV (s : List UInt8) (w : World) (hs : s.length ≤ maxLen) :
 Calls Tryz.prog 126 #[.string (S s)] w fun e w' => e = .returned (.bool (jbu s)) ∧ w' = w := by
 cases s with
 | nil =>
   have he := jbH; go_enter Tryz.func126, Tryz.ntmps126; go_wp2; go_ret; exact ⟨rfl, rfl⟩
 | cons c t =>
   have he := jbI c t; have hz := jeV c t; have HB : Hid (jbu (c :: t) = decide ((wlen (c :: t) : Int) = ((S (c :: t)).size : Int))) := by
    unfold Hid; rw [jd]; have := jlo (c :: t); cases h : jbu (c :: t) with
    | true => rw [h] at this; simp only [iff_true] at this; rw [this.2]; simp
    | false =>
      rw [h] at this; simp only [Bool.false_eq_true, iff_false, ne_eq, reduceCtorEq, not_false_eq_true, true_and] at this; rw [eq_comm, decide_eq_false_iff_not]; omega
   have HS : Hid _ := hs; clear hs; go_enter Tryz.func126, Tryz.ntmps126; go_wp2_with fail; refine (jw (c :: t) _ HS.out).mono ?_; rintro e u ⟨rfl, hu⟩; have hu' := hu.symm; subst hu'; go_wp2; go_ret; exact ⟨jb (by rw [HB.out]; first | rfl | simp), rfl⟩
theorem jaA {c : UInt8} {t : List UInt8} {n : Nat} (hn : n < 256) (hz : 0 < (S (c :: t)).size) (h : c = UInt8.ofNat n) : ((((S (c :: t))[0]'hz).toNat : Int) == (n : Int)) = true := by
 rw [jdX, h, UInt8.toNat_ofNat_of_lt' hn, beq_self_eq_true]
theorem jbw {c : UInt8} {t : List UInt8} {n : Nat} (hn : n < 256) (hz : 0 < (S (c :: t)).size) (h : ¬ c = UInt8.ofNat n) : ((((S (c :: t))[0]'hz).toNat : Int) == (n : Int)) = false := by
 rw [jdX, beq_eq_false_iff_ne]; intro e; refine h (UInt8.toNat_inj.1 ?_); rw [UInt8.toNat_ofNat_of_lt' hn]; omega
theorem jdR (s : List UInt8) (w : World) :
 Calls Tryz.prog 155 #[.string (S s)] w fun e w' => e = .returned (.int .i64 ((zi s).1 : Nat)) ∧ w' = w := by
 cases s with
 | nil =>
   have he := jbH; go_enter Tryz.func155, Tryz.ntmps155; go_wp2; go_ret; exact ⟨rfl, rfl⟩
 | cons c t =>
   have he := jbI c t; have hz := jeV c t; have e0 : zi (c :: t) = if c = 75 ∨ c = 107 then (1024, t) else if c = 77 ∨ c = 109 then (1048576, t) else (1, c :: t) := rfl
   by_cases h1 : c = 75
   · have HT : Hid ((zi (c :: t)).1 = 1024) := by unfold Hid; rw [e0, if_pos (Or.inl h1)]
     have q1 := jaA (n := 75) (by decide) hz h1; clear e0 h1; go_enter Tryz.func155, Tryz.ntmps155; go_wp2; go_ret; exact ⟨jc (by rw [HT.out]; rfl), rfl⟩
   have q1 := jbw (n := 75) (by decide) hz h1
   by_cases h2 : c = 107
   · have HT : Hid ((zi (c :: t)).1 = 1024) := by unfold Hid; rw [e0, if_pos (Or.inr h2)]
     have q2 := jaA (n := 107) (by decide) hz h2; clear e0 h1 h2; go_enter Tryz.func155, Tryz.ntmps155; go_wp2; go_ret; exact ⟨jc (by rw [HT.out]; rfl), rfl⟩
   have q2 := jbw (n := 107) (by decide) hz h2; have e1 : zi (c :: t) = if c = 77 ∨ c = 109 then (1048576, t) else (1, c :: t) := by rw [e0, if_neg (fun h => h.elim h1 h2)]
   clear e0
   by_cases h3 : c = 77
   · have HT : Hid ((zi (c :: t)).1 = 1048576) := by unfold Hid; rw [e1, if_pos (Or.inl h3)]
     have q3 := jaA (n := 77) (by decide) hz h3; clear e1 h1 h2 h3; go_enter Tryz.func155, Tryz.ntmps155; go_wp2; go_ret; exact ⟨jc (by rw [HT.out]; rfl), rfl⟩
   have q3 := jbw (n := 77) (by decide) hz h3
   by_cases h4 : c = 109
   · have HT : Hid ((zi (c :: t)).1 = 1048576) := by unfold Hid; rw [e1, if_pos (Or.inr h4)]
     have q4 := jaA (n := 109) (by decide) hz h4; clear e1 h1 h2 h3 h4; go_enter Tryz.func155, Tryz.ntmps155; go_wp2; go_ret; exact ⟨jc (by rw [HT.out]; rfl), rfl⟩
   have q4 := jbw (n := 109) (by decide) hz h4; have HT : Hid ((zi (c :: t)).1 = 1) := by unfold Hid; rw [e1, if_neg (fun h => h.elim h3 h4)]
   clear e1 h1 h2 h3 h4; go_enter Tryz.func155, Tryz.ntmps155; go_wp2; go_ret; exact ⟨jc (by rw [HT.out]; rfl), rfl⟩
theorem jib (l : List UInt8) (c : UInt8) : decV (l ++ [c]) = 10 * decV l + (c.toNat - 48) := by simp [decV]
def Sil (b : List UInt8) : Prop := ∀ r, silM (b ++ r) = silM r
def jnz (b : List UInt8) : Prop := Sil b ∧ ∃ c u, b = c :: u ∧ js c = false
end Go.Proofs.YtmgdnhjemhhleaaGreatDoor
