/-
  Plain facts on batches: their bytes, how bytes are read back, tapes and what is torn of them. No program is named here.
-/
import Derived.Test.YtkkkbggbeihbnaaDoorBoxPur
namespace Go.Proofs.YtkkkbggbeihbnaaDoor
open Go.RowKit

/- P10.2 to P10.5. -/
structure Bat where
  user : Int
  ents : List Ent
/-- A number in so many bytes, the highest one first. -/
def beB : Nat → Nat → List UInt8
  | _, 0 => []
  | n, k + 1 => UInt8.ofNat (n / 256 ^ k) :: beB n k
def beN (l : List UInt8) : Nat := l.foldl (fun n c => n * 256 + c.toNat) 0
def txB (s : List UInt8) : List UInt8 := beB s.length 2 ++ s
def entB (x : Ent) : List UInt8 := beB x.kind.toNat 1 ++ (beB x.flags.toNat 1 ++ (beB x.uid.toNat 3 ++ (txB x.box ++ (txB x.goal ++ txB x.text))))
def entsB : List Ent → List UInt8
  | [] => []
  | x :: l => entB x ++ entsB l
def batB (b : Bat) : List UInt8 := beB b.user.toNat 1 ++ (beB b.ents.length 1 ++ entsB b.ents)
/-- A reader: what is left, and whether it was short. -/
def takeR (k : Nat) (r : List UInt8 × Bool) : List UInt8 × (List UInt8 × Bool) := if k ≤ r.1.length then (r.1.take k, (r.1.drop k, r.2)) else ([], ([], true))
def numR (k : Nat) (r : List UInt8 × Bool) : Nat × (List UInt8 × Bool) := (beN (takeR k r).1, (takeR k r).2)
def txR (r : List UInt8 × Bool) : List UInt8 × (List UInt8 × Bool) := takeR (numR 2 r).1 (numR 2 r).2
def entR (r : List UInt8 × Bool) : Ent × (List UInt8 × Bool) :=
  let a := numR 1 r
  let b := numR 1 a.2
  let c := numR 3 b.2
  let d := txR c.2
  let e := txR d.2
  let f := txR e.2
  (⟨a.1, d.1, c.1, b.1, e.1, f.1⟩, f.2)
def entsR : Nat → List UInt8 × Bool → List Ent × (List UInt8 × Bool)
  | 0, r => ([], r)
  | n + 1, r => ((entR r).1 :: (entsR n (entR r).2).1, (entsR n (entR r).2).2)
def batR (r : List UInt8 × Bool) : Bat × (List UInt8 × Bool) :=
  let a := numR 1 r
  let b := numR 1 a.2
  let c := entsR b.1 b.2
  (⟨a.1, c.1⟩, c.2)
theorem beB_len (n k : Nat) : (beB n k).length = k := by
  induction k with
  | zero => rfl
  | succ k ih => simp [beB, ih]
theorem u8_val (n : Nat) : (UInt8.ofNat n).toNat = n % 256 := by simp
theorem beN1 {n : Nat} (h : n < 256) : beN (beB n 1) = n := by simp [beB, beN]; omega
theorem beN2 {n : Nat} (h : n < 65536) : beN (beB n 2) = n := by simp [beB, beN]; omega
theorem beN3 {n : Nat} (h : n < 16777216) : beN (beB n 3) = n := by simp [beB, beN]; omega
theorem takeR_app (x y : List UInt8) (s : Bool) : takeR x.length (x ++ y, s) = (x, (y, s)) := by
  unfold takeR
  rw [if_pos (by simp)]
  simp
theorem numR_app {n k : Nat} (h : beN (beB n k) = n) (y : List UInt8) (s : Bool) : numR k (beB n k ++ y, s) = (n, (y, s)) := by
  have := takeR_app (beB n k) y s
  rw [beB_len] at this
  unfold numR
  rw [this, h]
theorem txR_app {t : List UInt8} (h : t.length < 65536) (y : List UInt8) (s : Bool) : txR (txB t ++ y, s) = (t, (y, s)) := by
  unfold txR txB
  rw [List.append_assoc, numR_app (beN2 h)]
  exact takeR_app t y s
/-- All parts of an entry fit into their bytes. -/
structure Fits (x : Ent) : Prop where
  kind : 0 ≤ x.kind ∧ x.kind < 256
  flags : 0 ≤ x.flags ∧ x.flags < 256
  uid : 0 ≤ x.uid ∧ x.uid < 16777216
  box : x.box.length < 65536
  goal : x.goal.length < 65536
  text : x.text.length < 65536
theorem entR_app {x : Ent} (h : Fits x) (y : List UInt8) (s : Bool) : entR (entB x ++ y, s) = (x, (y, s)) := by
  obtain ⟨⟨k0, k1⟩, ⟨f0, f1⟩, ⟨u0, u1⟩, hb, hg, ht⟩ := h
  obtain ⟨kind, box, uid, flags, goal, text⟩ := x
  simp only at *
  unfold entR entB
  simp only [List.append_assoc]
  rw [numR_app (beN1 (by omega))]
  simp only
  rw [numR_app (beN1 (by omega))]
  simp only
  rw [numR_app (beN3 (by omega))]
  simp only
  rw [txR_app hb]
  simp only
  rw [txR_app hg]
  simp only
  rw [txR_app ht]
  simp only [Int.toNat_of_nonneg k0, Int.toNat_of_nonneg f0, Int.toNat_of_nonneg u0]
theorem entsR_app (l : List Ent) (h : ∀ x ∈ l, Fits x) (y : List UInt8) (s : Bool) : entsR l.length (entsB l ++ y, s) = (l, (y, s)) := by
  induction l with
  | nil => rfl
  | cons x l ih =>
    simp only [List.length_cons, entsR, entsB, List.append_assoc]
    rw [entR_app (h x (by simp))]
    simp only
    rw [ih fun x hx => h x (by simp [hx])]
/-- A batch whose parts fit into their bytes. -/
structure FitB (b : Bat) : Prop where
  user : 0 ≤ b.user ∧ b.user < 256
  many : b.ents.length < 256
  each : ∀ x ∈ b.ents, Fits x
theorem batR_app {b : Bat} (h : FitB b) (y : List UInt8) (s : Bool) : batR (batB b ++ y, s) = (b, (y, s)) := by
  obtain ⟨⟨u0, u1⟩, hm, he⟩ := h
  obtain ⟨user, ents⟩ := b
  simp only at *
  unfold batR batB
  simp only [List.append_assoc]
  rw [numR_app (beN1 (by omega))]
  simp only
  rw [numR_app (beN1 hm)]
  simp only
  rw [entsR_app ents he]
  simp only [Int.toNat_of_nonneg u0]
/- Once short, always short. -/
theorem takeR_short (k : Nat) (l : List UInt8) : (takeR k (l, true)).2.2 = true := by unfold takeR; split <;> rfl
theorem bkshort_of (k : Nat) {r : List UInt8 × Bool} (h : r.2 = true) : (takeR k r).2.2 = true := by
  obtain ⟨l, s⟩ := r; simp only at h; subst h; exact takeR_short k l
theorem numR_short (k : Nat) {r : List UInt8 × Bool} (h : r.2 = true) : (numR k r).2.2 = true := bkshort_of k h
theorem txR_short {r : List UInt8 × Bool} (h : r.2 = true) : (txR r).2.2 = true := bkshort_of _ (numR_short 2 h)
theorem entR_snd (r : List UInt8 × Bool) : (entR r).2 = (txR (txR (txR (numR 3 (numR 1 (numR 1 r).2).2).2).2).2).2 := by simp only [entR]
theorem entR_short {r : List UInt8 × Bool} (h : r.2 = true) : (entR r).2.2 = true := by
  rw [entR_snd]
  exact txR_short (txR_short (txR_short (numR_short 3 (numR_short 1 (numR_short 1 h)))))
theorem entsR_short : ∀ (n : Nat) {r : List UInt8 × Bool}, r.2 = true → (entsR n r).2.2 = true := by
  intro n
  induction n with
  | zero => intro r h; exact h
  | succ n ih => intro r h; exact ih (entR_short h)
/- What is torn is short. -/
theorem takeR_torn {k : Nat} {l : List UInt8} (h : l.length < k) (s : Bool) : (takeR k (l, s)).2.2 = true := by
  unfold takeR
  rw [if_neg (by simp only; omega)]
theorem numR_torn {n k j : Nat} (h : j < k) (s : Bool) : (numR k ((beB n k).take j, s)).2.2 = true := takeR_torn (by rw [List.length_take, beB_len]; omega) s
theorem take_parts (x y : List UInt8) (j : Nat) : (j < x.length ∧ (x ++ y).take j = x.take j) ∨ (x.length ≤ j ∧ (x ++ y).take j = x ++ y.take (j - x.length)) := by
  rcases Nat.lt_or_ge j x.length with h | h
  · exact .inl ⟨h, by rw [List.take_append_of_le_length (by omega)]⟩
  · refine .inr ⟨h, ?_⟩
    rw [List.take_append, List.take_of_length_le h]
theorem txR_torn {t : List UInt8} (h : t.length < 65536) {j : Nat} (hj : j < (txB t).length) (s : Bool) : (txR ((txB t).take j, s)).2.2 = true := by
  unfold txB at hj ⊢
  rcases take_parts (beB t.length 2) t j with ⟨h1, e⟩ | ⟨h1, e⟩
  · rw [e]; rw [beB_len] at h1; exact bkshort_of _ (numR_torn h1 s)
  · rw [e]
    unfold txR
    rw [numR_app (beN2 h)]
    rw [List.length_append] at hj
    exact takeR_torn (by rw [List.length_take]; omega) s
/-- A reader of one part behind another. -/
theorem torn2 {x y : List UInt8} {j : Nat} {P : List UInt8 → Prop} (hj : j < (x ++ y).length) (h1 : ∀ j, j < x.length → P (x.take j)) (h2 : ∀ j, j < y.length → P (x ++ y.take j)) : P ((x ++ y).take j) := by
  rcases take_parts x y j with ⟨h, e⟩ | ⟨h, e⟩
  · rw [e]; exact h1 j h
  · rw [e]; rw [List.length_append] at hj; exact h2 _ (by omega)
theorem entR_torn {x : Ent} (h : Fits x) {j : Nat} (hj : j < (entB x).length) (s : Bool) : (entR ((entB x).take j, s)).2.2 = true := by
  obtain ⟨⟨k0, k1⟩, ⟨f0, f1⟩, ⟨u0, u1⟩, hb, hg, ht⟩ := h
  unfold entB at hj ⊢
  refine torn2 (P := fun l => (entR (l, s)).2.2 = true) hj (fun j h => ?_) fun j hj => ?_
  · rw [beB_len] at h; rw [entR_snd]; exact txR_short (txR_short (txR_short (numR_short 3 (numR_short 1 (numR_torn h s)))))
  refine torn2 (P := fun l => (entR (_ ++ l, s)).2.2 = true) hj (fun j h => ?_) fun j hj => ?_
  · rw [entR_snd]; rw [numR_app (beN1 (by omega))]; rw [beB_len] at h; exact txR_short (txR_short (txR_short (numR_short 3 (numR_torn h s))))
  refine torn2 (P := fun l => (entR (_ ++ (_ ++ l), s)).2.2 = true) hj (fun j h => ?_) fun j hj => ?_
  · rw [entR_snd]; rw [numR_app (beN1 (by omega))]; rw [numR_app (beN1 (by omega))]; rw [beB_len] at h; exact txR_short (txR_short (txR_short (numR_torn h s)))
  refine torn2 (P := fun l => (entR (_ ++ (_ ++ (_ ++ l)), s)).2.2 = true) hj (fun j h => ?_) fun j hj => ?_
  · rw [entR_snd]; rw [numR_app (beN1 (by omega))]; rw [numR_app (beN1 (by omega))]; rw [numR_app (beN3 (by omega))]; exact txR_short (txR_short (txR_torn hb h s))
  refine torn2 (P := fun l => (entR (_ ++ (_ ++ (_ ++ (_ ++ l))), s)).2.2 = true) hj (fun j h => ?_) fun j h => ?_
  · rw [entR_snd]; rw [numR_app (beN1 (by omega))]; rw [numR_app (beN1 (by omega))]; rw [numR_app (beN3 (by omega))]; rw [txR_app hb]; exact txR_short (txR_torn hg h s)
  · rw [entR_snd]; rw [numR_app (beN1 (by omega))]; rw [numR_app (beN1 (by omega))]; rw [numR_app (beN3 (by omega))]; rw [txR_app hb]; rw [txR_app hg]; exact txR_torn ht h s
theorem entsR_torn : ∀ (l : List Ent), (∀ x ∈ l, Fits x) → ∀ (j : Nat), j < (entsB l).length → ∀ (s : Bool), (entsR l.length ((entsB l).take j, s)).2.2 = true := by
  intro l
  induction l with
  | nil => intro _ j h; simp [entsB] at h
  | cons x l ih =>
    intro h j hj s
    simp only [List.length_cons, entsR, entsB] at hj ⊢
    refine torn2 (P := fun z => (entsR l.length (entR (z, s)).2).2.2 = true) hj (fun j hj => ?_) fun j hj => ?_
    · exact entsR_short _ (entR_torn (h x (by simp)) hj s)
    · rw [entR_app (h x (by simp))]; exact ih (fun x hx => h x (by simp [hx])) j hj s
theorem batR_torn {b : Bat} (h : FitB b) {j : Nat} (hj : j < (batB b).length) (s : Bool) : (batR ((batB b).take j, s)).2.2 = true := by
  obtain ⟨⟨u0, u1⟩, hm, he⟩ := h
  unfold batB at hj ⊢
  refine torn2 (P := fun l => (batR (l, s)).2.2 = true) hj (fun j h => ?_) fun j hj => ?_
  · rw [beB_len] at h; exact entsR_short _ (numR_short 1 (numR_torn h s))
  refine torn2 (P := fun l => (batR (_ ++ l, s)).2.2 = true) hj (fun j h => ?_) fun j h => ?_
  · unfold batR; rw [numR_app (beN1 (by omega))]; rw [beB_len] at h; exact entsR_short _ (numR_torn h s)
  · unfold batR; rw [numR_app (beN1 (by omega))]; simp only; rw [numR_app (beN1 hm)]; exact entsR_torn _ he j h s
/- Tapes. -/
def frB (b : Bat) : List UInt8 := beB (batB b).length 3 ++ batB b
def tapeB : List Bat → List UInt8
  | [] => []
  | b :: l => frB b ++ tapeB l
theorem tapeB_app (l r : List Bat) : tapeB (l ++ r) = tapeB l ++ tapeB r := by
  induction l with
  | nil => rfl
  | cons b l ih => simp only [List.cons_append, tapeB, ih, List.append_assoc]
theorem frB_len (b : Bat) : (frB b).length = 3 + (batB b).length := by unfold frB; rw [List.length_append, beB_len]
/-- What a tape ends with that is no whole batch. -/
def Torn (l : List UInt8) : Prop := l = [] ∨ ∃ b j, FitB b ∧ (batB b).length < 16777216 ∧ j < (frB b).length ∧ l = (frB b).take j
theorem tape_cut : ∀ (l : List Bat), (∀ b ∈ l, FitB b ∧ (batB b).length < 16777216) → ∀ k, ∃ j t, j ≤ l.length ∧ (tapeB l).take k = tapeB (l.take j) ++ t ∧ Torn t ∧ ((tapeB l).length ≤ k → j = l.length) ∧ (j = l.length → (tapeB l).length ≤ k) ∧ ∀ i, i ≤ l.length → (tapeB (l.take i)).length ≤ k → i ≤ j := by
  intro l
  induction l with
  | nil => intro _ k; exact ⟨0, [], Nat.le_refl _, by simp [tapeB], .inl rfl, fun _ => rfl, fun _ => by simp [tapeB], fun i hi _ => hi⟩
  | cons b l ih =>
    intro h k
    rcases take_parts (frB b) (tapeB l) k with ⟨h1, e⟩ | ⟨h1, e⟩
    · refine ⟨0, (frB b).take k, Nat.zero_le _, by simp only [tapeB, e, List.take_zero, List.nil_append], .inr ⟨b, k, (h b (by simp)).1, (h b (by simp)).2, h1, rfl⟩, fun hk => ?_, fun hk => by simp at hk, fun i hi hk => ?_⟩
      · simp only [tapeB, List.length_append] at hk; omega
      · cases i with
        | zero => exact Nat.le_refl _
        | succ i => simp only [List.take_succ_cons, tapeB, List.length_append] at hk; omega
    · obtain ⟨j, t, hj, e2, ht, h3, h4, h5⟩ := ih (fun c hc => h c (by simp [hc])) (k - (frB b).length)
      refine ⟨j + 1, t, by simp; omega, by simp only [tapeB, List.take_succ_cons, e, e2, List.append_assoc], ht, fun hk => ?_, fun hk => ?_, fun i hi hk => ?_⟩
      · simp only [tapeB, List.length_append, List.length_cons] at hk ⊢; have := h3 (by omega); omega
      · simp only [tapeB, List.length_append, List.length_cons] at hk ⊢; have := h4 (by omega); omega
      · cases i with
        | zero => exact Nat.zero_le _
        | succ i =>
          simp only [List.take_succ_cons, tapeB, List.length_append, List.length_cons] at hi hk
          have := h5 i (by omega) (by omega)
          omega
/- P10.2. -/
theorem name_len {s : List UInt8} (h : nameP s = 0) : s.length ≤ 12 := by
  unfold nameP at h
  split at h
  · cases h
  · omega
theorem bk_goal_len {s : List UInt8} (h : goalM s = 0) : s.length ≤ 100 := by
  unfold goalM at h
  split at h
  · cases h
  · omega
theorem formed_lens {x : Ent} (h : Formed x) : x.box.length ≤ 12 ∧ x.goal.length ≤ 100 ∧ x.text.length ≤ 2000 := by
  obtain ⟨⟨k1, k2⟩, ⟨b1, b2, b3, b4, b5⟩, _, _, ht, hg, hn, hto⟩ := h
  refine ⟨?_, ?_, ht⟩
  · by_cases h6 : x.kind = 6
    · rw [(b5 h6).1]; simp
    · exact name_len (hn h6)
  · by_cases h6 : x.kind = 6
    · exact bk_goal_len (hg h6)
    · by_cases h5 : x.kind = 5
      · have := name_len (hto h5); omega
      · have : x.goal = [] := by
          by_cases h1 : x.kind = 1
          · exact (b1 (.inl h1)).2.2.1
          · by_cases h4 : x.kind = 4
            · exact (b1 (.inr h4)).2.2.1
            · by_cases h2 : x.kind = 2
              · exact (b2 h2).2
              · exact (b3 (by omega)).1
        rw [this]; simp
theorem formed_fits {x : Ent} (h : Formed x) : Fits x := by
  obtain ⟨h1, h2, h3⟩ := formed_lens h
  have hk := h.kind
  have hf := h.flags
  have hu := h.uid
  exact ⟨by omega, by omega, by omega, by omega, by omega, by omega⟩
/-- A batch that may be. -/
structure BatOk (b : Bat) : Prop where
  user : 0 ≤ b.user ∧ b.user < 3
  many : 1 ≤ b.ents.length ∧ b.ents.length ≤ 10
  each : ∀ x ∈ b.ents, Formed x
theorem BatOk.fit {b : Bat} (h : BatOk b) : FitB b := ⟨by have := h.user; omega, by have := h.many; omega, fun x hx => formed_fits (h.each x hx)⟩
theorem entB_len (x : Ent) : (entB x).length = 11 + x.box.length + x.goal.length + x.text.length := by
  unfold entB txB
  simp only [List.length_append, beB_len]
  omega
theorem entsB_le (m : Nat) : ∀ (l : List Ent), (∀ x ∈ l, (entB x).length ≤ m) → (entsB l).length ≤ m * l.length := by
  intro l
  induction l with
  | nil => intro _; simp [entsB]
  | cons x l ih =>
    intro h
    have h1 := ih fun y hy => h y (by simp [hy])
    have h2 := h x (by simp)
    simp only [entsB, List.length_append, List.length_cons, Nat.mul_succ]
    omega
theorem batB_len (b : Bat) : (batB b).length = 2 + (entsB b.ents).length := by
  unfold batB
  simp only [List.length_append, beB_len]
  omega
theorem BatOk.len {b : Bat} (h : BatOk b) : (batB b).length ≤ 21232 := by
  have := entsB_le 2123 b.ents fun x hx => by
    obtain ⟨h1, h2, h3⟩ := formed_lens (h.each x hx)
    rw [entB_len]; omega
  have h2 := h.many
  rw [batB_len]
  have : 2123 * b.ents.length ≤ 2123 * 10 := Nat.mul_le_mul_left _ h2.2
  omega
theorem beB_succ (n k : Nat) : beB n (k + 1) = UInt8.ofNat (n / 256 ^ k) :: beB n k := rfl
end Go.Proofs.YtkkkbggbeihbnaaDoor
