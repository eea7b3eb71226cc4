/-
  Plain facts on scripts: where reading gives up it says why. No program is named here.
-/
import Derived.Test.YtdmiidbncpgfpaaDoorScrVal
namespace Go.Proofs.YtdmiidbncpgfpaaDoor
open Go.RowKit

def errN {A : Type} (x : Rdg A) : Prop := ∀ m, x = .error m → m.2 ≠ 0
theorem errN_ok {A : Type} (y : A × List Tok) : errN (.ok y : Rdg A) := fun m h => by cases h
theorem errN_then {A B : Type} {x : Rdg A} {f : A → List Tok → Rdg B} (h : errN x) (k : ∀ a q, x = .ok (a, q) → errN (f a q)) : errN (thenR x f) := by
  intro m hm
  cases hx : x with
  | error e => rw [hx] at hm; cases hm; exact h _ hx
  | ok y => obtain ⟨a, q⟩ := y; rw [hx] at hm; exact k a q hx m hm
theorem misP_ne (r : List Tok) : (misP r).2 ≠ 0 := by unfold misP; simp only; split <;> decide
theorem errN_mis {A : Type} (r : List Tok) : errN (.error (misP r) : Rdg A) := fun m h => by cases h; exact misP_ne r
theorem errN_takeK (k : Int) (r : List Tok) : errN (takeKP k r) := by
  unfold takeKP
  split
  · exact errN_mis _
  · split
    · exact errN_ok _
    · exact errN_mis _
theorem errN_takeT (k : Int) (s : List UInt8) (r : List Tok) : errN (takeTP k s r) := by
  unfold takeTP
  split
  · exact errN_ok _
  · exact errN_mis _
theorem errN_text (r : List Tok) : errN (textR r) := errN_then (errN_takeK _ _) fun _ _ _ => errN_ok _
theorem errN_loop {A : Type} {f : List Tok → Rdg A} {N : Nat} (hf : ∀ r, r.length < N → errN (f r)) (hl : ∀ r x q, f r = .ok (x, q) → q.length ≤ r.length) : ∀ (n : Nat) (acc : List A) (r : List Tok), r.length ≤ N → errN (loopF f n acc r) := by
  intro n
  induction n with
  | zero => intro acc r _; exact errN_ok _
  | succ n ih =>
    intro acc r hr
    unfold loopF
    split
    · exact errN_ok _
    · rename_i q hs
      have := skipP_len hs
      exact errN_then (hf q (by omega)) fun x q' h => ih _ _ (by have := hl _ _ _ h; omega)
theorem errN_list (r : List Tok) : errN (listR r) := by
  unfold listR
  split
  · exact errN_then (errN_text _) fun _ _ _ => errN_ok _
  · exact errN_then (errN_text _) fun x q1 _ => errN_then (errN_loop (N := q1.length + 1) (fun r _ => errN_text r) (fun _ _ _ h => Nat.le_of_lt (textR_len h)) _ _ _ (by omega)) fun _ _ _ => errN_then (errN_takeT _ _ _) fun _ _ _ => errN_ok _
theorem errN_kind (k d : Nat) (r : List Tok) : errN (kindP k d r) := by
  unfold kindP
  split
  · intro m h; cases h; simp
  · split
    · exact errN_mis _
    · split
      · exact errN_ok _
      · exact errN_mis _
theorem errN_tags (b : Bool) : ∀ (r : List Tok) (m p : Nat), errN (tagsF b r m p) := by
  intro r
  induction r with
  | nil => intro m p; unfold tagsF; exact errN_ok _
  | cons t r ih =>
    intro m p
    unfold tagsF
    split
    · split
      · exact ih _ _
      · split
        · exact ih _ _
        · exact errN_mis _
    · exact errN_ok _
theorem errN_bound (r : List Tok) : errN (boundR r) := by
  unfold boundR
  split
  · exact errN_then (errN_takeK _ _) fun _ _ _ => errN_ok _
  · exact errN_then (errN_takeT _ _ _) fun _ _ _ => errN_then (errN_takeK _ _) fun _ _ _ => errN_ok _
theorem errN_test : ∀ (n d : Nat) (r : List Tok), r.length < n → errN (testP n d r) := by
  intro n
  induction n with
  | zero => intro d r h; omega
  | succ n ih =>
    intro d r hr
    unfold testP
    refine errN_then (errN_kind _ _ _) fun k q hk => ?_
    have hq := kindP_len hk
    split
    · exact errN_then (ih _ _ (by omega)) fun _ _ _ => errN_ok _
    · split
      · refine errN_then ?_ fun _ _ _ => errN_ok _
        unfold testsR
        refine errN_then (errN_takeT _ _ _) fun u q1 h1 => ?_
        have l1 := skipP_len (takeTP_ok h1)
        refine errN_then (ih _ _ (by omega)) fun x q2 h2 => ?_
        have l2 := testP_len _ _ _ _ _ h2
        exact errN_then (errN_loop (N := n) (fun r hr => ih _ r hr) (fun _ _ _ h => Nat.le_of_lt (testP_len _ _ _ _ _ h)) _ _ _ (by omega)) fun _ _ _ => errN_then (errN_takeT _ _ _) fun _ _ _ => errN_ok _
      · split
        · exact errN_then (errN_tags _ _ _ _) fun _ _ _ => errN_then (errN_list _) fun _ _ _ => errN_then (errN_list _) fun _ _ _ => errN_ok _
        · split
          · exact errN_then (errN_list _) fun _ _ _ => errN_ok _
          · split
            · exact errN_then (errN_bound _) fun _ _ _ => errN_ok _
            · exact errN_ok _
theorem errN_block {f : List Tok → Rdg Cmd} {N : Nat} (hf : ∀ r, r.length < N → errN (f r)) (hl : ∀ r x q, f r = .ok (x, q) → q.length < r.length) : ∀ (n : Nat) (acc : List Cmd) (r : List Tok), r.length < N → r.length < n → errN (blockF f n acc r) := by
  intro n
  induction n with
  | zero => intro acc r _ h; omega
  | succ n ih =>
    intro acc r hr hn
    unfold blockF
    split
    · exact errN_ok _
    · split
      · exact errN_mis _
      · exact errN_then (hf r hr) fun x q' h => by
          have := hl _ _ _ h
          exact ih _ _ (by omega) (by omega)
theorem errN_blockR {f : List Tok → Rdg Cmd} {N : Nat} (hf : ∀ r, r.length < N → errN (f r)) (hl : ∀ r x q, f r = .ok (x, q) → q.length < r.length) (r : List Tok) (hr : r.length ≤ N) : errN (blockR f r) :=
  errN_then (errN_takeT _ _ _) fun u q h => by
    have := skipP_len (takeTP_ok h)
    exact errN_block hf hl _ _ _ (by omega) (by omega)
theorem errN_cmd : ∀ (n : Nat) (b : Bool) (d : Nat) (r : List Tok), r.length + 1 < n → errN (cmdP n b d r) := by
  intro n
  induction n with
  | zero => intro b d r h; omega
  | succ n ih =>
    intro b d r hr
    have hb : ∀ r, r.length < n - 1 → errN (cmdP n true (d + 1) r) := fun r hr => ih true (d + 1) r (by omega)
    have hl : ∀ r x q, cmdP n true (d + 1) r = .ok (x, q) → q.length < r.length := fun r x q h => cmdP_len _ _ _ _ _ _ h
    cases b with
    | true =>
      unfold cmdP
      refine errN_then (errN_kind _ _ _) fun k q hk => ?_
      have hq := kindP_len hk
      split
      · exact ih _ _ _ (by omega)
      · split
        · exact errN_then (errN_list _) fun _ _ _ => errN_then (errN_takeT _ _ _) fun _ _ _ => errN_ok _
        · split
          · exact errN_then (errN_text _) fun _ _ _ => errN_then (errN_takeT _ _ _) fun _ _ _ => errN_ok _
          · exact errN_then (errN_takeT _ _ _) fun _ _ _ => errN_ok _
    | false =>
      unfold cmdP
      refine errN_then (errN_test _ _ _ (by omega)) fun t q1 h1 => ?_
      have l1 := testP_len _ _ _ _ _ h1
      refine errN_then (errN_blockR hb hl _ (by omega)) fun th q2 h2 => ?_
      have l2 := blockR_len (fun _ _ _ h => Nat.le_of_lt (hl _ _ _ h)) h2
      split
      · rename_i q3 hs
        have := skipP_len hs
        exact errN_then (ih _ _ _ (by omega)) fun _ _ _ => errN_ok _
      · split
        · rename_i q3 hs
          have := skipP_len hs
          exact errN_then (errN_blockR hb hl _ (by omega)) fun _ _ _ => errN_ok _
        · exact errN_ok _
theorem errN_script (l : List Tok) : errN (scriptR l) := by
  have : ∀ (n : Nat) (acc : List Cmd) (r : List Tok), r.length ≤ l.length → errN (scriptF (cmdP (l.length + 2) true 0) n acc r) := by
    intro n
    induction n with
    | zero => intro acc r _; exact errN_ok _
    | succ n ih =>
      intro acc r hr
      unfold scriptF
      split
      · exact errN_ok _
      · exact errN_then (errN_cmd _ _ _ _ (by omega)) fun x q h => by
          have := cmdP_len _ _ _ _ _ _ h
          exact ih _ _ (by omega)
  exact this _ _ _ (Nat.le_refl _)
theorem err_ne {l : List Tok} {m : Nat × Int} (h : scriptR l = .error m) : m.2 ≠ 0 := errN_script l m h
end Go.Proofs.YtdmiidbncpgfpaaDoor
