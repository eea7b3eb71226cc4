/-
  Batches that the laws make of raw numbers: plain facts. No program is named here but types.
-/
import Derived.Test.YtaaenhjhjclilabDoorBoxEo
import Derived.Test.YtaaenhjhjclilabDoorBkPur
namespace Go.Proofs.YtaaenhjhjclilabDoor
open Go.RowKit Go.Proofs

/-- The entry that stands where there is none. -/
def xpE : Ent := ⟨4, [73, 78, 66, 79, 88], 0, 0, [], []⟩
theorem xpE_formed : Formed xpE := ⟨by decide, ⟨fun _ => ⟨rfl, rfl, rfl, rfl⟩, fun h => by simp [xpE] at h, fun h => by simp [xpE] at h, fun h => by simp [xpE] at h, fun h => by simp [xpE] at h⟩, by decide, by decide, by decide, fun h => by simp [xpE] at h, fun _ => rfl, fun h => by simp [xpE] at h⟩
def batP (l : List Chr) (u : Int) : Bat := ⟨(pickN u 3 : Nat), if l = [] then [xpE] else entsK l 10⟩
theorem entsK_len (l : List Chr) (k : Nat) : (entsK l k).length = min k l.length := by unfold entsK; rw [List.length_map, List.length_take]
theorem entsK_mem {l : List Chr} {k : Nat} {x : Ent} (h : x ∈ entsK l k) : ∃ c, x = entP c := by
  unfold entsK at h; obtain ⟨c, _, rfl⟩ := List.mem_map.1 h; exact ⟨c, rfl⟩
theorem entP_len (c : Chr) : (entB (entP c)).length ≤ 321 := by
  rw [entB_len]
  have hb : ∀ n, (boxN n).length ≤ 5 := by
    intro n
    have h := pickN_lt n 6 (by decide)
    unfold boxN
    generalize pickN n 6 = k at h
    match k, h with
    | 0, _ => decide
    | 1, _ => decide
    | 2, _ => decide
    | 3, _ => decide
    | 4, _ => decide
    | 5, _ => decide
  have h1 := hb c.box
  have h2 := hb c.goal
  have h3 := cutL_len c.text 300
  have h4 := cutL_len c.text 100
  unfold entP
  split <;> simp only [List.length_nil, abc, List.length_cons] <;> omega
theorem batP_ok (l : List Chr) (u : Int) : BatOk (batP l u) := by
  have hu := pickN_lt u 3 (by decide)
  unfold batP
  refine ⟨by simp only; omega, ?_, ?_⟩
  · by_cases h : l = []
    · simp [h]
    · simp only [if_neg h, entsK_len]
      have : l.length ≠ 0 := fun e => h (List.length_eq_zero_iff.1 e)
      omega
  · intro x hx
    by_cases h : l = []
    · simp only [if_pos h, List.mem_singleton] at hx
      rw [hx]; exact xpE_formed
    · simp only [if_neg h] at hx
      obtain ⟨c, rfl⟩ := entsK_mem hx
      exact entP_formed c
theorem batP_len (l : List Chr) (u : Int) : (batB (batP l u)).length ≤ 2 + 321 * (batP l u).ents.length := by
  rw [batB_len]
  have := entsB_le 321 (batP l u).ents fun x hx => by
    unfold batP at hx
    by_cases h : l = []
    · simp only [if_pos h, List.mem_singleton] at hx
      rw [hx]; decide
    · simp only [if_neg h] at hx
      obtain ⟨c, rfl⟩ := entsK_mem hx
      exact entP_len c
  omega
/-- The batches of raw entries, from the i-th one on. -/
def batsG : Nat → Nat → List Chr → List Bat
  | 0, _, _ => []
  | _ + 1, _, [] => []
  | f + 1, i, x :: r => if i < 24 then batP ((x :: r).take (min (1 + pickN x.flags 3) (x :: r).length)) x.goal :: batsG f (i + min (1 + pickN x.flags 3) (x :: r).length) ((x :: r).drop (min (1 + pickN x.flags 3) (x :: r).length)) else []
def batsP (l : List Chr) : List Bat := batsG 25 0 l
theorem batsG_len : ∀ (f i : Nat) (r : List Chr), (batsG f i r).length ≤ 24 - i := by
  intro f
  induction f with
  | zero => intro i r; simp [batsG]
  | succ f ih =>
    intro i r
    cases r with
    | nil => simp [batsG]
    | cons x r =>
      unfold batsG
      by_cases h : i < 24
      · rw [if_pos h, List.length_cons]
        have := ih (i + min (1 + pickN x.flags 3) (x :: r).length) ((x :: r).drop (min (1 + pickN x.flags 3) (x :: r).length))
        have h2 : 1 ≤ min (1 + pickN x.flags 3) (x :: r).length := by simp only [List.length_cons]; omega
        omega
      · rw [if_neg h]; simp
theorem batsG_each : ∀ (f i : Nat) (r : List Chr) (b : Bat), b ∈ batsG f i r → BatOk b ∧ (frB b).length ≤ 968 := by
  intro f
  induction f with
  | zero => intro i r b h; simp [batsG] at h
  | succ f ih =>
    intro i r b hb
    cases r with
    | nil => simp [batsG] at hb
    | cons x r =>
      unfold batsG at hb
      by_cases h : i < 24
      · rw [if_pos h, List.mem_cons] at hb
        rcases hb with rfl | hb
        · refine ⟨batP_ok _ _, ?_⟩
          rw [frB_len]
          have h1 := batP_len ((x :: r).take (min (1 + pickN x.flags 3) (x :: r).length)) x.goal
          have h3 := pickN_lt x.flags 3 (by decide)
          have h2 : (batP ((x :: r).take (min (1 + pickN x.flags 3) (x :: r).length)) x.goal).ents.length ≤ 3 := by
            unfold batP
            by_cases hn : (x :: r).take (min (1 + pickN x.flags 3) (x :: r).length) = []
            · rw [if_pos hn]; show 1 ≤ 3; decide
            · simp only [if_neg hn, entsK_len, List.length_take]
              omega
          omega
        · exact ih _ _ b hb
      · rw [if_neg h] at hb; cases hb
theorem tapeB_le (m : Nat) : ∀ (l : List Bat), (∀ b ∈ l, (frB b).length ≤ m) → (tapeB l).length ≤ m * l.length := by
  intro l
  induction l with
  | nil => intro _; simp [tapeB]
  | cons x l ih =>
    intro h
    have h1 := ih fun y hy => h y (by simp [hy])
    have h2 := h x (by simp)
    simp only [tapeB, List.length_append, List.length_cons, Nat.mul_succ]
    omega
theorem batsP_ok (l : List Chr) : ∀ b ∈ batsP l, BatOk b := fun b hb => (batsG_each 25 0 l b hb).1
theorem batsP_many (l : List Chr) : (batsP l).length ≤ 24 := batsG_len 25 0 l
theorem batsP_tape (l : List Chr) : (tapeB (batsP l)).length ≤ 23232 := by
  have h1 := tapeB_le 968 (batsP l) fun b hb => (batsG_each 25 0 l b hb).2
  have h2 := batsP_many l
  have : 968 * (batsP l).length ≤ 968 * 24 := Nat.mul_le_mul_left _ h2
  omega
theorem batsG_end {f i : Nat} {l : List Chr} (h : l.length ≤ i ∨ 24 ≤ i) : batsG f i (l.drop i) = [] := by
  cases f with
  | zero => rfl
  | succ f =>
    cases hd : l.drop i with
    | nil => rfl
    | cons x r =>
      rcases h with h | h
      · rw [List.drop_of_length_le h] at hd; cases hd
      · unfold batsG; rw [if_neg (by omega)]
theorem batsG_step {f i n : Nat} {l : List Chr} {x : Chr} (hx : l[i]? = some x) (hi : i < 24) (hn : n = min (1 + pickN x.flags 3) (l.length - i)) : batsG (f + 1) i (l.drop i) = batP ((l.drop i).take n) x.goal :: batsG f (i + n) (l.drop (i + n)) := by
  have hil : i < l.length := (List.getElem?_eq_some_iff.1 hx).1
  have hd : l.drop i = x :: l.drop (i + 1) := by rw [List.drop_eq_getElem_cons hil, (List.getElem?_eq_some_iff.1 hx).2]
  have hll : (x :: l.drop (i + 1)).length = l.length - i := by rw [← hd, List.length_drop]
  have key : batsG (f + 1) i (x :: l.drop (i + 1)) = if i < 24 then batP ((x :: l.drop (i + 1)).take (min (1 + pickN x.flags 3) (x :: l.drop (i + 1)).length)) x.goal :: batsG f (i + min (1 + pickN x.flags 3) (x :: l.drop (i + 1)).length) ((x :: l.drop (i + 1)).drop (min (1 + pickN x.flags 3) (x :: l.drop (i + 1)).length)) else [] := by rw [batsG]
  rw [if_pos hi, hll, ← hn] at key
  rw [show l.drop (i + n) = (l.drop i).drop n by rw [List.drop_drop], hd, key]
end Go.Proofs.YtaaenhjhjclilabDoor
