/-
  Scripts of flag commands, judged: plain facts.
-/
import Derived.Test.YtcphpnnhopflgaaGreatDoorJudFol
namespace Go.Proofs.YtcphpnnhopflgaaGreatDoor
open Go.RowKit Go.Proofs

/-- The names of the five flags. -/
def flgA : List (List UInt8) := [[92, 83, 101, 101, 110], [92, 65, 110, 115, 119, 101, 114, 101, 100], [92, 70, 108, 97, 103, 103, 101, 100], [92, 68, 101, 108, 101, 116, 101, 100], [92, 68, 114, 97, 102, 116]]
/-- The command that a number below ten stands for. -/
def flgC (k : Nat) : Cmd := ⟨if k % 2 = 1 then 8 else 9, [flgA.getD (k / 2) []], noneT, [], []⟩
def flgX (f k : Nat) : Nat := (if k % 2 = 1 then 0 else f) ||| 2 ^ (k / 2)
def flgN (ks : List Nat) : Nat := ks.foldl flgX 0
def keepC : Cmd := ⟨3, [], noneT, [], []⟩
def seenC : Cmd := ⟨8, [flgA.getD 0 []], noneT, [], []⟩
def flgS (ks : List Nat) : List Cmd := reqC :: ks.map flgC
def flgS2 (ks : List Nat) : List Cmd := flgS ks ++ [keepC, seenC]

/-- What the laws' own commands of flags are. -/
def FlgC (x : Cmd) : Prop := (x.kind = 3 ∧ x.texts = [] ∨ ((x.kind = 8 ∨ x.kind = 9) ∧ ∃ i, i < 5 ∧ x.texts = [flgA.getD i []])) ∧ x.test = noneT ∧ x.thn = [] ∧ x.els = []
theorem flgC_is {k : Nat} (h : k < 10) : FlgC (flgC k) := by
  refine ⟨.inr ⟨?_, k / 2, by omega, rfl⟩, rfl, rfl, rfl⟩
  show (if k % 2 = 1 then (8 : Int) else 9) = 8 ∨ _ = (9 : Int)
  by_cases hk : k % 2 = 1
  · exact .inl (if_pos hk)
  · exact .inr (if_neg hk)
theorem keepC_is : FlgC keepC := ⟨.inl ⟨rfl, rfl⟩, rfl, rfl, rfl⟩
theorem seenC_is : FlgC seenC := ⟨.inr ⟨.inl rfl, 0, by omega, rfl⟩, rfl, rfl, rfl⟩
theorem flg_tab : ∀ i, i < 5 → flagsP [flgA.getD i []] = some (2 ^ i) := by
  intro i hi
  obtain rfl | rfl | rfl | rfl | rfl : i = 0 ∨ i = 1 ∨ i = 2 ∨ i = 3 ∨ i = 4 := by omega
  all_goals decide
theorem niceT_none (n : Nat) : NiceT n noneT := by
  cases n with
  | zero => trivial
  | succ n => exact ⟨rfl, rfl, (fun h => by cases h), fun u hu => by cases hu⟩
theorem flg_nice {x : Cmd} (h : FlgC x) (n : Nat) : NiceC n x := by
  cases n with
  | zero => trivial
  | succ n =>
    obtain ⟨hk, h1, h2, h3⟩ := h
    refine ⟨?_, ?_, ?_, ?_, by rw [h1]; exact niceT_none n, (fun y hy => by rw [h2] at hy; cases hy), fun y hy => by rw [h3] at hy; cases hy⟩
    · rcases hk with ⟨e, _⟩ | ⟨e | e, _⟩ <;> rw [e] <;> decide
    · intro e'; rcases hk with ⟨e, _⟩ | ⟨e | e, _⟩ <;> rw [e] at e' <;> cases e'
    · intro e'
      rcases hk with ⟨e, _⟩ | ⟨_, i, hi, ht⟩
      · rw [e] at e'; rcases e' with e' | e' <;> cases e'
      · rw [ht, flg_tab i hi]; simp
    · intro e'; rcases hk with ⟨e, _⟩ | ⟨e | e, _⟩ <;> rw [e] at e' <;> cases e'
theorem flg_good {x : Cmd} (h : FlgC x) (n : Nat) : goodC n x := by
  cases n with
  | zero => trivial
  | succ n =>
    obtain ⟨hk, h1, h2, h3⟩ := h
    refine ⟨fun _ => ⟨?_, ?_, ?_⟩, fun e' => ?_⟩
    · rcases hk with ⟨e, _⟩ | ⟨e | e, _⟩ <;> rw [e] <;> decide
    · intro e'; rcases hk with ⟨e, _⟩ | ⟨e | e, _⟩ <;> rw [e] at e' <;> (rcases e' with e' | e' | e' <;> cases e')
    · intro e'; rcases hk with ⟨e, _⟩ | ⟨e | e, _⟩ <;> rw [e] at e' <;> cases e'
    · rcases hk with ⟨e, _⟩ | ⟨e | e, _⟩ <;> rw [e] at e' <;> cases e'
theorem flg_short {x : Cmd} (h : FlgC x) (n : Nat) : ShortC n x := by
  cases n with
  | zero => trivial
  | succ n =>
    obtain ⟨hk, h1, h2, h3⟩ := h
    refine ⟨?_, (fun y hy => by rw [h2] at hy; cases hy), fun y hy => by rw [h3] at hy; cases hy⟩
    intro e'; rcases hk with ⟨e, _⟩ | ⟨e | e, _⟩ <;> rw [e] at e' <;> cases e'
theorem flg_form {x : Cmd} (h : FlgC x) : x = keepC ∨ ∃ k i, (k = 8 ∨ k = 9) ∧ i < 5 ∧ x = ⟨k, [flgA.getD i []], noneT, [], []⟩ := by
  obtain ⟨hk, h1, h2, h3⟩ := h
  obtain ⟨k, t, u, a, b⟩ := x
  simp only at hk h1 h2 h3
  subst h1 h2 h3
  rcases hk with ⟨rfl, rfl⟩ | ⟨hk, i, hi, rfl⟩
  · exact .inl rfl
  · exact .inr ⟨k, i, hk, hi, rfl⟩
theorem flg_fault {x : Cmd} (h : FlgC x) (n : Nat) : faultCmd n 0 x = 0 := by
  cases n with
  | zero => rfl
  | succ n =>
    rcases flg_form h with rfl | ⟨k, i, hk, hi, rfl⟩
    · rfl
    · rcases hk with rfl | rfl <;> rfl
theorem flg_len {x : Cmd} (h : FlgC x) (n : Nat) : (cmdT n x).length ≤ 4 := by
  cases n with
  | zero => show 1 ≤ 4; omega
  | succ n =>
    rcases flg_form h with rfl | ⟨k, i, hk, hi, rfl⟩
    · show 2 ≤ 4; omega
    · rcases hk with rfl | rfl <;> (show 3 ≤ 4; omega)
theorem flgs_len (n : Nat) : ∀ (r : List Cmd), (∀ x ∈ r, FlgC x) → (cmdsT n r).length ≤ 4 * r.length := by
  intro r
  induction r with
  | nil => intro _; show 0 ≤ _; omega
  | cons x r ih =>
    intro h
    have h1 := flg_len (h x (by simp)) n
    have h2 := ih fun y hy => h y (by simp [hy])
    unfold cmdsT at h2 ⊢
    rw [List.flatMap_cons, List.length_append, List.length_cons]
    omega
theorem reqF_len (n : Nat) : (cmdT n reqC).length ≤ 20 := by
  cases n with
  | zero => show 1 ≤ 20; omega
  | succ n => show 11 ≤ 20; omega
theorem flg_check (n : Nat) (r : List Cmd) (h : ∀ x ∈ r, FlgC x) (hl : r.length ≤ 20) : checkM n (reqC :: r) = 0 := by
  rw [checkM_of fun x hx => ?_]
  · rw [if_neg]
    have h1 := reqF_len n
    have h2 := flgs_len n r h
    unfold cmdsT at h2 ⊢
    rw [List.flatMap_cons, List.length_append]
    omega
  · rcases List.mem_cons.1 hx with e | e
    · rw [e]; exact fault_req n
    · exact flg_fault (h x e) n
theorem flg_rule (n : Nat) (r : List Cmd) (h : ∀ x ∈ r, FlgC x) (hl : r.length ≤ 20) : ruleM (n + 1) (reqC :: r) = 0 :=
  rule_allowed (flg_check _ r h hl) fun x hx => flg_nice (h x hx) _
theorem goodR (n : Nat) : goodC n reqC := by
  cases n with
  | zero => trivial
  | succ n => exact ⟨fun _ => ⟨by simp [reqC], (fun h => by rcases h with h | h | h <;> cases h), fun h => by cases h⟩, fun h => by cases h⟩
theorem shortR (n : Nat) : ShortC n reqC := by
  cases n with
  | zero => trivial
  | succ n => exact ⟨(fun h => by cases h), (fun x hx => by cases hx), fun x hx => by cases hx⟩
/-- What is judged of a Require and commands of flags. -/
theorem judge_flg (o : Opn) (ho : Opened o) (n : Nat) (r : List Cmd) (h : ∀ x ∈ r, FlgC x) (hl : r.length ≤ 20) (a : Option Addr) (k : Nat) (w : World) (hw : Tabs w) (hm : maxLenCell w) (hk : r.length + 1 ≤ k) (hC : CmdsM anyB (n + 1) w (.slice a (r.length + 1) k) (reqC :: r)) :
    Calls Tryz.prog 7 #[.slice a (r.length + 1) k, .agg #[.string (S o.fl), .string (S o.fd), .string (S o.tl), .string (S o.td), .string (S o.tx)]] w (CrsR w (judgeP o (n + 1) (reqC :: r))) :=
  Judge_ok n (reqC :: r) a k o w hw hm ho (by simpa using hk) (fun h => by cases h)
    (fun x hx => by rcases List.mem_cons.1 hx with e | e; · rw [e]; exact shortR _
                    · exact flg_short (h x e) _) hC (flg_rule n r h hl)
    (fun x hx => by rcases List.mem_cons.1 hx with e | e; · rw [e]; exact goodR _
                    · exact flg_good (h x e) _)
/- The course. -/
def flgR (f : Nat) : Crs := ⟨[], (f : Nat), false, 0⟩
theorem step_flg {f : List Cmd → Crs × Bool → Crs × Bool} {tl : Tst → Bool} (v k : Nat) (hk : k < 10) : stepP f tl (flgR v, false) (flgC k) = (flgR (flgX v k), false) := by
  have hf : flagsZ [flgA.getD (k / 2) []] = 2 ^ (k / 2) := by unfold flagsZ; rw [flg_tab _ (by omega)]; rfl
  by_cases h1 : k % 2 = 1
  · have e : flgC k = ⟨8, [flgA.getD (k / 2) []], noneT, [], []⟩ := by unfold flgC; rw [if_pos h1]
    have ew : flgX v k = 2 ^ (k / 2) := by unfold flgX; rw [if_pos h1, Nat.zero_or]
    rw [e, ew, ← hf]
    rfl
  · have e : flgC k = ⟨9, [flgA.getD (k / 2) []], noneT, [], []⟩ := by unfold flgC; rw [if_neg h1]
    have ew : flgX v k = v ||| 2 ^ (k / 2) := by unfold flgX; rw [if_neg h1]
    rw [e, ew, ← hf]
    show ((⟨[], (((v : Int).toNat ||| flagsZ [flgA.getD (k / 2) []] : Nat) : Int), false, 0⟩ : Crs), false) = _
    rw [Int.toNat_natCast]
    rfl
theorem fold_flg {f : List Cmd → Crs × Bool → Crs × Bool} {tl : Tst → Bool} : ∀ (ks : List Nat) (v : Nat), (∀ k ∈ ks, k < 10) → (ks.map flgC).foldl (stepP f tl) (flgR v, false) = (flgR (ks.foldl flgX v), false) := by
  intro ks
  induction ks with
  | nil => intro v _; rfl
  | cons k ks ih =>
    intro v h
    rw [List.map_cons, List.foldl_cons, step_flg v k (h k (by simp)), ih _ fun j hj => h j (by simp [hj])]
    rfl
theorem fold_flgS (o : Opn) (n : Nat) (ks : List Nat) (h : ∀ k ∈ ks, k < 10) : (flgS ks).foldl (stepP (followP o n) (tellsP o n)) (newC, false) = (flgR (flgN ks), false) := by
  unfold flgS flgN
  rw [List.foldl_cons]
  exact fold_flg ks 0 h
/-- Flags are those that were set last, and what was added since. -/
theorem judge_one (o : Opn) (n : Nat) (ks : List Nat) (h : ∀ k ∈ ks, k < 10) : judgeP o (n + 1) (flgS ks) = ⟨[], (flgN ks : Nat), false, 0⟩ := by
  unfold judgeP
  show ((flgS ks).foldl (stepP (followP o n) (tellsP o n)) (newC, false)).1 = _
  rw [fold_flgS o n ks h]
  rfl
theorem judge_two (o : Opn) (n : Nat) (ks : List Nat) (h : ∀ k ∈ ks, k < 10) : judgeP o (n + 1) (flgS2 ks) = ⟨[⟨3, [], (flgN ks : Nat)⟩], 1, true, 0⟩ := by
  unfold judgeP
  show ((flgS2 ks).foldl (stepP (followP o n) (tellsP o n)) (newC, false)).1 = _
  unfold flgS2
  rw [List.foldl_append, fold_flgS o n ks h]
  have hf : flagsZ [flgA.getD 0 []] = 1 := by unfold flagsZ; rw [flg_tab 0 (by omega)]; rfl
  rw [List.foldl_cons, List.foldl_cons, List.foldl_nil]
  show (⟨[⟨3, [], (flgN ks : Nat)⟩], ((flagsZ [flgA.getD 0 []] : Nat) : Int), true, 0⟩ : Crs) = _
  rw [hf]
  rfl
theorem flgX_lt {f k : Nat} (hf : f < 32) (hk : k < 10) : flgX f k < 32 := by
  unfold flgX
  refine Nat.or_lt_two_pow (n := 5) (by split <;> omega) ?_
  obtain e | e | e | e | e : k / 2 = 0 ∨ k / 2 = 1 ∨ k / 2 = 2 ∨ k / 2 = 3 ∨ k / 2 = 4 := by omega
  all_goals rw [e]; decide
theorem flgN_lt : ∀ (ks : List Nat) (v : Nat), v < 32 → (∀ k ∈ ks, k < 10) → ks.foldl flgX v < 32 := by
  intro ks
  induction ks with
  | nil => intro v hv _; exact hv
  | cons k ks ih => intro v hv h; exact ih _ (flgX_lt hv (h k (by simp))) fun j hj => h j (by simp [hj])
end Go.Proofs.YtcphpnnhopflgaaGreatDoor
