/-
  Plain facts on scripts: what is read may be; where reading gives up it says why; what is shown has short words alone. No program is named here.
-/
import Derived.Test.YtdmiidbncpgfpaaDoorScrBack
namespace Go.Proofs.YtdmiidbncpgfpaaDoor
open Go.RowKit

theorem AllOk.tail {t : Tok} {l : List Tok} (h : AllOk (t :: l)) : AllOk l := fun x hx => h x (by simp [hx])
theorem numIn_some : ∀ (T : List (List UInt8)) (n : Nat) (s : List UInt8), numIn T n s ≠ 0 → n ≤ numIn T n s ∧ T[numIn T n s - n]? = some s := by
  intro T
  induction T with
  | nil => intro n s h; exact absurd rfl h
  | cons x T ih =>
    intro n s h
    unfold numIn at h ⊢
    by_cases hx : x = s
    · rw [if_pos hx] at h ⊢
      refine ⟨Nat.le_refl _, ?_⟩
      rw [Nat.sub_self, hx]
      rfl
    · rw [if_neg hx] at h ⊢
      obtain ⟨a, b⟩ := ih (n + 1) s h
      refine ⟨by omega, ?_⟩
      rw [show numIn T (n + 1) s - n = (numIn T (n + 1) s - (n + 1)) + 1 by omega]
      simpa using b
theorem number_fit {k : Nat} {s : List UInt8} (hk : k < 4) (h : numberP k s ≠ 0) : 1 ≤ numberP k s ∧ numberP k s ≤ 10 ∧ wordOf k (numberP k s) = s ∧ s ≠ [] := by
  obtain ⟨_, b⟩ := numIn_some _ _ _ h
  have hb : (wTabs.getD k [])[numberP k s]? = some s := by simpa [numberP] using b
  have hlen : (wTabs.getD k []).length = 11 := by
    match k, hk with
    | 0, _ | 1, _ | 2, _ | 3, _ => rfl
  have hlt : numberP k s < (wTabs.getD k []).length := (List.getElem?_eq_some_iff.1 hb).1
  refine ⟨by omega, by omega, ?_, ?_⟩
  · unfold wordOf
    rw [List.getD_eq_getElem?_getD, hb]
    rfl
  · intro he
    apply h
    rw [he]
    match k, hk with
    | 0, _ | 1, _ | 2, _ | 3, _ => rfl
theorem number_is {k : Nat} {s : List UInt8} (hk : k < 4) (h : numberP k s ≠ 0) : isNumP k (numberP k s : Nat) = true := by
  obtain ⟨h1, h2, h3, h4⟩ := number_fit hk h
  unfold isNumP
  simp only [Int.toNat_natCast]
  rw [h3]
  have : s.isEmpty = false := by cases s with
    | nil => exact absurd rfl h4
    | cons _ _ => rfl
  rw [this]
  simp
  omega
theorem kind_val {k d n : Nat} {r q : List Tok} (hk : k < 4) (h : kindP k d r = .ok (n, q)) (ha : AllOk r) : d ≤ 6 ∧ isNumP k n = true ∧ 1 ≤ n ∧ n ≤ 10 ∧ AllOk q := by
  obtain ⟨hd, hn, t, rfl, _, ht⟩ := kindP_ok h
  subst ht
  obtain ⟨h1, h2, _⟩ := number_fit hk hn
  exact ⟨hd, number_is hk hn, h1, h2, ha.tail⟩
theorem skip_val {k : Int} {s : List UInt8} {r q : List Tok} (h : skipP k s r = some q) (ha : AllOk r) : AllOk q := by
  obtain ⟨t, rfl, _⟩ := skipP_some h; exact ha.tail
theorem text_val {r q : List Tok} {x : List UInt8} (h : textR r = .ok (x, q)) (ha : AllOk r) : AllOk q := by
  obtain ⟨t, rfl, _⟩ := textR_ok h; exact ha.tail
theorem loop_val {A : Type} {f : List Tok → Rdg A} {P : A → Prop} (hf : ∀ r x q, f r = .ok (x, q) → AllOk r → P x ∧ AllOk q) : ∀ (n : Nat) (acc l : List A) (r q : List Tok), loopF f n acc r = .ok (l, q) → AllOk r → (∀ x ∈ acc, P x) → AllOk q ∧ (∀ x ∈ l, P x) ∧ acc.length ≤ l.length := by
  intro n
  induction n with
  | zero => intro acc l r q h ha hp; cases h; exact ⟨ha, hp, Nat.le_refl _⟩
  | succ n ih =>
    intro acc l r q h ha hp
    unfold loopF at h
    split at h
    · cases h; exact ⟨ha, hp, Nat.le_refl _⟩
    · rename_i q0 hs
      obtain ⟨x, q1, h1, h2⟩ := thenR_ok h
      obtain ⟨px, ok⟩ := hf _ _ _ h1 (skip_val hs ha)
      obtain ⟨a, b, c⟩ := ih _ _ _ _ h2 ok fun y hy => by
        rcases List.mem_append.1 hy with e | e
        · exact hp y e
        · simp at e; rw [e]; exact px
      exact ⟨a, b, by simp at c; omega⟩
theorem list_val {r q : List Tok} {l : List (List UInt8)} (h : listR r = .ok (l, q)) (ha : AllOk r) : 0 < l.length ∧ AllOk q := by
  unfold listR at h
  split at h
  · obtain ⟨x, q1, h1, h2⟩ := thenR_ok h
    cases h2
    exact ⟨by simp, text_val h1 ha⟩
  · rename_i q0 hs
    obtain ⟨x, q1, h1, h2⟩ := thenR_ok h
    obtain ⟨l2, q2, h3, h4⟩ := thenR_ok h2
    obtain ⟨u, q3, h5, h6⟩ := thenR_ok h4
    cases h6
    obtain ⟨a, _, c⟩ := loop_val (P := fun _ => True) (fun _ _ _ h ha => ⟨trivial, text_val h ha⟩) _ _ _ _ _ h3 (text_val h1 (skip_val hs ha)) (fun _ _ => trivial)
    exact ⟨by simp at c; omega, skip_val (takeTP_ok h5) a⟩
theorem tags_val {b : Bool} : ∀ (r : List Tok) (m p : Nat) (x : Nat × Nat) (q : List Tok), tagsF b r m p = .ok (x, q) → AllOk r → (m = 0 ∨ isNumP 2 m = true) → (p = 0 ∨ isNumP 3 p = true) → (b = false → p = 0) → isNumP 2 x.1 = true ∧ (if b then isNumP 3 x.2 = true else x.2 = 0) ∧ AllOk q := by
  have hend : ∀ (m p : Nat), (m = 0 ∨ isNumP 2 m = true) → (p = 0 ∨ isNumP 3 p = true) → (b = false → p = 0) → isNumP 2 ((if m = 0 then 1 else m : Nat) : Int) = true ∧ (if b then isNumP 3 ((if p = 0 ∧ b = true then 1 else p : Nat) : Int) = true else (if p = 0 ∧ b = true then 1 else p : Nat) = 0) := by
    intro m p hm hp hb
    constructor
    · by_cases h : m = 0
      · rw [if_pos h]; rfl
      · rw [if_neg h]; exact hm.resolve_left h
    · cases b with
      | false => simp [hb rfl]
      | true =>
        simp only [if_true, and_true]
        by_cases h : p = 0
        · rw [if_pos h]; rfl
        · rw [if_neg h]; exact hp.resolve_left h
  intro r
  induction r with
  | nil =>
    intro m p x q h ha hm hp hb
    unfold tagsF at h
    cases h
    obtain ⟨a, c⟩ := hend m p hm hp hb
    exact ⟨a, c, ha⟩
  | cons t r ih =>
    intro m p x q h ha hm hp hb
    unfold tagsF at h
    split at h
    · split at h
      · rename_i h2; exact ih _ _ _ _ h ha.tail (.inr (number_is (by omega) h2.1)) hp hb
      · split at h
        · rename_i h3; exact ih _ _ _ _ h ha.tail hm (.inr (number_is (by omega) h3.1)) (fun hf => by rw [hf] at h3; cases h3.2.2)
        · cases h
    · cases h
      obtain ⟨a, c⟩ := hend m p hm hp hb
      exact ⟨a, c, ha⟩
theorem num_val {t : Tok} (h : t.kind = 3) (ha : faultT t = 0) : 0 ≤ t.num ∧ t.num ≤ 2147483647 := by
  unfold faultT at ha
  rw [if_neg (by omega), if_pos h] at ha
  by_cases hr : 0 ≤ t.num ∧ t.num ≤ 2147483647
  · exact hr
  · rw [if_pos hr] at ha; cases ha
theorem bound_val {r q : List Tok} {x : Bool × Int} (h : boundR r = .ok (x, q)) (ha : AllOk r) : 0 ≤ x.2 ∧ x.2 ≤ 2147483647 ∧ AllOk q := by
  unfold boundR at h
  split at h
  · rename_i q0 hs
    obtain ⟨t, q1, h1, h2⟩ := thenR_ok h
    cases h2
    have a := skip_val hs ha
    obtain ⟨rfl, hk⟩ := takeKP_ok h1
    have := num_val hk (a t (by simp))
    exact ⟨this.1, this.2, a.tail⟩
  · obtain ⟨u, q0, h0, h'⟩ := thenR_ok h
    obtain ⟨t, q1, h1, h2⟩ := thenR_ok h'
    cases h2
    have a := skip_val (takeTP_ok h0) ha
    obtain ⟨rfl, hk⟩ := takeKP_ok h1
    have := num_val hk (a t (by simp))
    exact ⟨this.1, this.2, a.tail⟩
/-- What is read is so deep at the most, and may be. -/
def ValT (n d : Nat) (t : Tst) : Prop := DeepT n t ∧ ∀ m, faultTst m d t = 0
def ValC (n d : Nat) (c : Cmd) : Prop := DeepC (n + 1) c ∧ ∀ m, faultCmd m d c = 0
theorem fault_of {d : Nat} {t : Tst} (h1 : isNumP 1 t.kind = true) (h2 : d ≤ 6) (h3 : fitsT t = true) (h4 : ∀ x ∈ t.tests, ∀ m, faultTst m (d + 1) x = 0) : ∀ m, faultTst m d t = 0 := by
  intro m
  cases m with
  | zero => rfl
  | succ m =>
    unfold faultTst
    rw [if_pos (oneP_is h1 h2 h3)]
    exact firstP_none fun x hx => h4 x hx m
theorem test_val : ∀ (n d : Nat) (r : List Tok) (t : Tst) (q : List Tok), testP n d r = .ok (t, q) → AllOk r → ValT n d t ∧ AllOk q := by
  intro n
  induction n with
  | zero => intro d r t q h; cases h
  | succ n ih =>
    intro d r t q h ha
    unfold testP at h
    obtain ⟨k, q1, h1, h2⟩ := thenR_ok h
    obtain ⟨hd, hk, k1, k2, a1⟩ := kind_val (by omega) h1 ha
    simp only at h2
    split at h2
    · rename_i e
      obtain ⟨x, q2, h3, h4⟩ := thenR_ok h2
      cases h4
      obtain ⟨⟨dx, fx⟩, a2⟩ := ih _ _ _ _ h3 a1
      refine ⟨⟨fun y hy => ?_, fault_of (by subst e; exact hk) hd (by simp [fitsT, noTst, noneT]) fun y hy m => ?_⟩, a2⟩
      · simp at hy; rw [hy]; exact dx
      · simp at hy; rw [hy]; exact fx m
    · rename_i n3
      split at h2
      · rename_i e
        obtain ⟨l, q2, h3, h4⟩ := thenR_ok h2
        cases h4
        obtain ⟨u, p1, g1, g2⟩ := thenR_ok h3
        obtain ⟨x, p2, g3, g4⟩ := thenR_ok g2
        obtain ⟨l', p3, g5, g6⟩ := thenR_ok g4
        obtain ⟨u', p4, g7, g8⟩ := thenR_ok g6
        cases g8
        have b1 := skip_val (takeTP_ok g1) a1
        obtain ⟨vx, b2⟩ := ih _ _ _ _ g3 b1
        obtain ⟨b3, vl, cl⟩ := loop_val (P := fun x => ValT n (d + 1) x) (fun _ _ _ h ha => ih _ _ _ _ h ha) _ _ _ _ _ g5 b2 (fun y hy => by simp at hy; rw [hy]; exact vx)
        refine ⟨⟨fun y hy => (vl y hy).1, fault_of hk hd ?_ fun y hy m => (vl y hy).2 m⟩, skip_val (takeTP_ok g7) b3⟩
        simp at cl
        unfold fitsT
        simp only
        rw [if_neg (by omega), if_pos (by omega)]
        simp [noTst, noneT]
        omega
      · rename_i n45
        split at h2
        · rename_i e
          obtain ⟨x, q2, h3, h4⟩ := thenR_ok h2
          obtain ⟨y, q3, h5, h6⟩ := thenR_ok h4
          obtain ⟨z, q4, h7, h8⟩ := thenR_ok h6
          cases h8
          obtain ⟨t1, t2, b1⟩ := tags_val _ _ _ _ _ h3 a1 (.inl rfl) (.inl rfl) (fun _ => rfl)
          obtain ⟨l1, b2⟩ := list_val h5 b1
          obtain ⟨l2, b3⟩ := list_val h7 b2
          refine ⟨⟨fun y hy => by simp [noneT] at hy, fault_of hk hd ?_ fun y hy m => by simp [noneT] at hy⟩, b3⟩
          unfold fitsT
          simp only
          rw [if_neg (by omega), if_neg (by omega)]
          by_cases k6 : k = 6
          · subst k6
            simp at t2
            rw [if_pos (by rfl)]
            simp [cmpB, noTst, noneT, t1, l1, l2, t2]
          · simp [k6] at t2
            rw [if_neg (by omega), if_pos (by omega)]
            simp [cmpB, noTst, noneT, t1, l1, l2, t2]
        · rename_i n678
          split at h2
          · rename_i e
            obtain ⟨x, q2, h3, h4⟩ := thenR_ok h2
            cases h4
            obtain ⟨l1, b2⟩ := list_val h3 a1
            refine ⟨⟨fun y hy => by simp [noneT] at hy, fault_of (by subst e; exact hk) hd ?_ fun y hy m => by simp [noneT] at hy⟩, b2⟩
            simp [fitsT, noTst, noneT, l1]
          · rename_i n9
            split at h2
            · rename_i e
              obtain ⟨x, q2, h3, h4⟩ := thenR_ok h2
              cases h4
              obtain ⟨l1, l2, b2⟩ := bound_val h3 a1
              refine ⟨⟨fun y hy => by simp [noneT] at hy, fault_of (by subst e; exact hk) hd ?_ fun y hy m => by simp [noneT] at hy⟩, b2⟩
              simp [fitsT, noTst, noneT, l1, l2]
            · rename_i n10
              cases h2
              refine ⟨⟨fun y hy => by simp [noneT] at hy, fault_of hk hd ?_ fun y hy m => by simp [noneT] at hy⟩, a1⟩
              unfold fitsT
              simp only
              rw [if_neg (by omega), if_neg (by omega), if_neg (by omega), if_neg (by omega), if_neg (by omega), if_neg (by omega)]
              simp [noTst, noneT]
theorem block_val {f : List Tok → Rdg Cmd} {P : Cmd → Prop} (hf : ∀ r x q, f r = .ok (x, q) → AllOk r → P x ∧ AllOk q) : ∀ (n : Nat) (acc l : List Cmd) (r q : List Tok), blockF f n acc r = .ok (l, q) → AllOk r → (∀ x ∈ acc, P x) → AllOk q ∧ ∀ x ∈ l, P x := by
  intro n
  induction n with
  | zero => intro acc l r q h; cases h
  | succ n ih =>
    intro acc l r q h ha hp
    unfold blockF at h
    split at h
    · rename_i q0 hs; cases h; exact ⟨skip_val hs ha, hp⟩
    · split at h
      · cases h
      obtain ⟨x, q1, h1, h2⟩ := thenR_ok h
      obtain ⟨px, ok⟩ := hf _ _ _ h1 ha
      exact ih _ _ _ _ h2 ok fun y hy => by
        rcases List.mem_append.1 hy with e | e
        · exact hp y e
        · simp at e; rw [e]; exact px
theorem blockR_val {f : List Tok → Rdg Cmd} {P : Cmd → Prop} (hf : ∀ r x q, f r = .ok (x, q) → AllOk r → P x ∧ AllOk q) {l : List Cmd} {r q : List Tok} (h : blockR f r = .ok (l, q)) (ha : AllOk r) : AllOk q ∧ ∀ x ∈ l, P x := by
  obtain ⟨u, q1, h1, h2⟩ := thenR_ok h
  exact block_val hf _ _ _ _ _ h2 (skip_val (takeTP_ok h1) ha) fun x hx => by cases hx
theorem noTst_none : noTst noneT = true := rfl
theorem faultC_of {d : Nat} {c : Cmd} (h1 : isNumP 0 c.kind = true) (h2 : d ≤ 6) (h3 : fitsC c = true) (h4 : c.kind = 2 → (∀ m, faultTst m 1 c.test = 0) ∧ (∀ x ∈ c.thn, ∀ m, faultCmd m (d + 1) x = 0) ∧ (match elsifP c.els with | some x => ∀ m, faultCmd m d x = 0 | none => ∀ x ∈ c.els, ∀ m, faultCmd m (d + 1) x = 0)) : ∀ m, faultCmd m d c = 0 := by
  intro m
  cases m with
  | zero => rfl
  | succ m =>
    rw [faultCmd_step, if_neg (by simp [oneP_is h1 h2 h3])]
    by_cases hk : c.kind = 2
    · obtain ⟨a, b, e⟩ := h4 hk
      rw [if_neg (by simpa using hk), if_neg (by simp [a m]), if_neg (by simp [firstP_none fun x hx => b x hx m])]
      cases he : elsifP c.els with
      | some x => rw [he] at e; exact e m
      | none => rw [he] at e; exact firstP_none fun x hx => e x hx m
    · rw [if_pos hk]
theorem firstP_one {A : Type} (f : A → Int) (x : A) : firstP f [x] = f x := by unfold firstP; by_cases h : f x = 0 <;> simp [h, firstP]
theorem cmd_low : ∀ (m d : Nat) (c : Cmd), faultCmd m (d + 1) c = 0 → faultCmd m d c = 0 := by
  intro m
  induction m with
  | zero => intro d c _; rfl
  | succ m ih =>
    intro d c h
    obtain ⟨a, b, e, g⟩ := faultCmd_zero h
    rw [faultCmd_step, if_neg (by simp [oneP_is a (by omega : d ≤ 6) e])]
    by_cases hk : c.kind = 2
    · obtain ⟨g1, g2, g3⟩ := g hk
      rw [if_neg (by simpa using hk), if_neg (by simp [g1]), if_neg (by simp [firstP_none fun x hx => ih (d + 1) x (g2 x hx)])]
      cases he : elsifP c.els with
      | some x => rw [he] at g3; exact ih d x g3
      | none => rw [he] at g3; exact firstP_none fun x hx => ih (d + 1) x (g3 x hx)
    · rw [if_pos hk]
theorem cmdP_two : ∀ (n : Nat) (d : Nat) (r : List Tok) (c : Cmd) (q : List Tok), cmdP n false d r = .ok (c, q) → c.kind = 2 := by
  intro n d r c q h
  cases n with
  | zero => cases h
  | succ n =>
    unfold cmdP at h
    obtain ⟨x, q1, h1, h2⟩ := thenR_ok h
    obtain ⟨y, q2, h3, h4⟩ := thenR_ok h2
    split at h4
    · obtain ⟨z, q3, h5, h6⟩ := thenR_ok h4; cases h6; rfl
    · split at h4
      · obtain ⟨z, q3, h5, h6⟩ := thenR_ok h4; cases h6; rfl
      · cases h4; rfl
theorem cmd_val : ∀ (n : Nat) (b : Bool) (d : Nat) (r : List Tok) (c : Cmd) (q : List Tok), (b = false → d ≤ 6) → cmdP n b d r = .ok (c, q) → AllOk r → ValC n d c ∧ AllOk q := by
  intro n
  induction n with
  | zero => intro b d r c q _ h; cases h
  | succ n ih =>
    intro b d r c q hbd h ha
    cases b with
    | true =>
      unfold cmdP at h
      obtain ⟨k, q1, h1, h2⟩ := thenR_ok h
      obtain ⟨hd, hk, k1, k2, a1⟩ := kind_val (by omega) h1 ha
      split at h2
      · obtain ⟨⟨v1, v2⟩, v3⟩ := ih false d q1 c q (fun _ => hd) h2 a1
        exact ⟨⟨DeepC.more _ _ _ (by omega) v1, v2⟩, v3⟩
      · rename_i n2
        have deep : ∀ l, DeepC (n + 2) ⟨k, l, noneT, [], []⟩ := fun l => ⟨fun x hx => by simp [noneT] at hx, fun x hx => by simp at hx, fun x hx => by simp at hx⟩
        have two : ∀ l : List (List UInt8), ¬ ((k : Int) = 2) := fun _ => by omega
        split at h2
        · rename_i e
          obtain ⟨x, q2, h3, h4⟩ := thenR_ok h2
          obtain ⟨y, q3, h5, h6⟩ := thenR_ok h4
          cases h6
          obtain ⟨l1, b2⟩ := list_val h3 a1
          refine ⟨⟨deep _, faultC_of hk hd ?_ fun hk2 => absurd hk2 (two [])⟩, skip_val (takeTP_ok h5) b2⟩
          unfold fitsC
          rw [if_neg (by simp [noTst_none]), if_pos (by simp only; omega)]
          simpa using l1
        · rename_i n189
          split at h2
          · rename_i e
            obtain ⟨x, q2, h3, h4⟩ := thenR_ok h2
            obtain ⟨y, q3, h5, h6⟩ := thenR_ok h4
            cases h6
            refine ⟨⟨deep _, faultC_of hk hd ?_ fun hk2 => absurd hk2 (two [])⟩, skip_val (takeTP_ok h5) (text_val h3 a1)⟩
            unfold fitsC
            rw [if_neg (by simp [noTst_none]), if_neg (by simp only; omega), if_pos (by simp only; omega)]
            rfl
          · rename_i n567
            obtain ⟨y, q3, h5, h6⟩ := thenR_ok h2
            cases h6
            refine ⟨⟨deep _, faultC_of hk hd ?_ fun hk2 => absurd hk2 (two [])⟩, skip_val (takeTP_ok h5) a1⟩
            unfold fitsC
            rw [if_neg (by simp [noTst_none]), if_neg (by simp only; omega), if_neg (by simp only; omega)]
            rfl
    | false =>
      have hd := hbd rfl
      unfold cmdP at h
      obtain ⟨t, q1, h1, h2⟩ := thenR_ok h
      obtain ⟨th, q2, h3, h4⟩ := thenR_ok h2
      obtain ⟨⟨t1, t2⟩, a1⟩ := test_val _ _ _ _ _ h1 ha
      have hfb : ∀ r x q, cmdP n true (d + 1) r = .ok (x, q) → AllOk r → ValC n (d + 1) x ∧ AllOk q := fun r x q h ha => ih true (d + 1) r x q (fun hf => by cases hf) h ha
      obtain ⟨a2, v2⟩ := blockR_val hfb h3 a1
      have done : ∀ (els : List Cmd), (∀ x ∈ els, DeepC (n + 1) x) → (match elsifP els with | some x => ∀ m, faultCmd m d x = 0 | none => ∀ x ∈ els, ∀ m, faultCmd m (d + 1) x = 0) → ValC (n + 1) d ⟨2, [], t, th, els⟩ := by
        intro els h1 h2
        refine ⟨⟨DeepT.more _ _ _ (by omega) t1, fun x hx => (v2 x hx).1, h1⟩, faultC_of rfl hd (by unfold fitsC; rw [if_neg (by simp), if_neg (by simp), if_neg (by simp)]; rfl) fun _ => ⟨t2, fun x hx m => (v2 x hx).2 m, h2⟩⟩
      split at h4
      · rename_i q0 hs
        obtain ⟨z, q3, h5, h6⟩ := thenR_ok h4
        cases h6
        obtain ⟨⟨z1, z2⟩, a3⟩ := ih false d q0 z q (fun _ => hd) h5 (skip_val hs a2)
        have hz := cmdP_two _ _ _ _ _ h5
        refine ⟨done _ (fun x hx => by simp at hx; rw [hx]; exact z1) ?_, a3⟩
        rw [show elsifP [z] = some z from by simp [elsifP, hz]]
        exact z2
      · split at h4
        · rename_i q0 hs
          obtain ⟨el, q3, h5, h6⟩ := thenR_ok h4
          cases h6
          obtain ⟨a3, v3⟩ := blockR_val hfb h5 (skip_val hs a2)
          refine ⟨done _ (fun x hx => (v3 x hx).1) ?_, a3⟩
          cases he : elsifP el with
          | some x =>
            obtain ⟨hx, _⟩ := elsifP_some he
            exact fun m => cmd_low m d x ((v3 x (by rw [hx]; simp)).2 m)
          | none => exact fun x hx m => (v3 x hx).2 m
        · cases h4
          exact ⟨done _ (fun x hx => by cases hx) (fun x hx => by cases hx), a2⟩

def errN {A : Type} (x : Rdg A) : Prop := ∀ m, x = .error m → m.2 ≠ 0
theorem errN_ok {A : Type} (y : A × List Tok) : errN (.ok y : Rdg A) := fun m h => by cases h
theorem errN_then {A B : Type} {x : Rdg A} {f : A → List Tok → Rdg B} (h : errN x) (k : ∀ a q, x = .ok (a, q) → errN (f a q)) : errN (thenR x f) := by
  intro m hm
  cases hx : x with
  | error e => rw [hx] at hm; cases hm; exact h _ hx
  | ok y => obtain ⟨a, q⟩ := y; rw [hx] at hm; exact k a q hx m hm
theorem misP_ne (r : List Tok) : (misP r).2 ≠ 0 := by unfold misP; simp only; split <;> decide
theorem errN_mis {A : Type} (r : List Tok) : errN (.error (misP r) : Rdg A) := fun m h => by cases h; exact misP_ne r
theorem errN_takeK (k : Int) (r : List Tok) : errN (takeKP k r) := by
  unfold takeKP
  split
  · exact errN_mis _
  · split
    · exact errN_ok _
    · exact errN_mis _
theorem errN_takeT (k : Int) (s : List UInt8) (r : List Tok) : errN (takeTP k s r) := by
  unfold takeTP
  split
  · exact errN_ok _
  · exact errN_mis _
theorem errN_text (r : List Tok) : errN (textR r) := errN_then (errN_takeK _ _) fun _ _ _ => errN_ok _
theorem errN_loop {A : Type} {f : List Tok → Rdg A} {N : Nat} (hf : ∀ r, r.length < N → errN (f r)) (hl : ∀ r x q, f r = .ok (x, q) → q.length ≤ r.length) : ∀ (n : Nat) (acc : List A) (r : List Tok), r.length ≤ N → errN (loopF f n acc r) := by
  intro n
  induction n with
  | zero => intro acc r _; exact errN_ok _
  | succ n ih =>
    intro acc r hr
    unfold loopF
    split
    · exact errN_ok _
    · rename_i q hs
      have := skipP_len hs
      exact errN_then (hf q (by omega)) fun x q' h => ih _ _ (by have := hl _ _ _ h; omega)
theorem errN_list (r : List Tok) : errN (listR r) := by
  unfold listR
  split
  · exact errN_then (errN_text _) fun _ _ _ => errN_ok _
  · exact errN_then (errN_text _) fun x q1 _ => errN_then (errN_loop (N := q1.length + 1) (fun r _ => errN_text r) (fun _ _ _ h => Nat.le_of_lt (textR_len h)) _ _ _ (by omega)) fun _ _ _ => errN_then (errN_takeT _ _ _) fun _ _ _ => errN_ok _
theorem errN_kind (k d : Nat) (r : List Tok) : errN (kindP k d r) := by
  unfold kindP
  split
  · intro m h; cases h; simp
  · split
    · exact errN_mis _
    · split
      · exact errN_ok _
      · exact errN_mis _
theorem errN_tags (b : Bool) : ∀ (r : List Tok) (m p : Nat), errN (tagsF b r m p) := by
  intro r
  induction r with
  | nil => intro m p; unfold tagsF; exact errN_ok _
  | cons t r ih =>
    intro m p
    unfold tagsF
    split
    · split
      · exact ih _ _
      · split
        · exact ih _ _
        · exact errN_mis _
    · exact errN_ok _
theorem errN_bound (r : List Tok) : errN (boundR r) := by
  unfold boundR
  split
  · exact errN_then (errN_takeK _ _) fun _ _ _ => errN_ok _
  · exact errN_then (errN_takeT _ _ _) fun _ _ _ => errN_then (errN_takeK _ _) fun _ _ _ => errN_ok _
theorem errN_test : ∀ (n d : Nat) (r : List Tok), r.length < n → errN (testP n d r) := by
  intro n
  induction n with
  | zero => intro d r h; omega
  | succ n ih =>
    intro d r hr
    unfold testP
    refine errN_then (errN_kind _ _ _) fun k q hk => ?_
    have hq := kindP_len hk
    split
    · exact errN_then (ih _ _ (by omega)) fun _ _ _ => errN_ok _
    · split
      · refine errN_then ?_ fun _ _ _ => errN_ok _
        unfold testsR
        refine errN_then (errN_takeT _ _ _) fun u q1 h1 => ?_
        have l1 := skipP_len (takeTP_ok h1)
        refine errN_then (ih _ _ (by omega)) fun x q2 h2 => ?_
        have l2 := testP_len _ _ _ _ _ h2
        exact errN_then (errN_loop (N := n) (fun r hr => ih _ r hr) (fun _ _ _ h => Nat.le_of_lt (testP_len _ _ _ _ _ h)) _ _ _ (by omega)) fun _ _ _ => errN_then (errN_takeT _ _ _) fun _ _ _ => errN_ok _
      · split
        · exact errN_then (errN_tags _ _ _ _) fun _ _ _ => errN_then (errN_list _) fun _ _ _ => errN_then (errN_list _) fun _ _ _ => errN_ok _
        · split
          · exact errN_then (errN_list _) fun _ _ _ => errN_ok _
          · split
            · exact errN_then (errN_bound _) fun _ _ _ => errN_ok _
            · exact errN_ok _
theorem errN_block {f : List Tok → Rdg Cmd} {N : Nat} (hf : ∀ r, r.length < N → errN (f r)) (hl : ∀ r x q, f r = .ok (x, q) → q.length < r.length) : ∀ (n : Nat) (acc : List Cmd) (r : List Tok), r.length < N → r.length < n → errN (blockF f n acc r) := by
  intro n
  induction n with
  | zero => intro acc r _ h; omega
  | succ n ih =>
    intro acc r hr hn
    unfold blockF
    split
    · exact errN_ok _
    · split
      · exact errN_mis _
      · exact errN_then (hf r hr) fun x q' h => by
          have := hl _ _ _ h
          exact ih _ _ (by omega) (by omega)
theorem errN_blockR {f : List Tok → Rdg Cmd} {N : Nat} (hf : ∀ r, r.length < N → errN (f r)) (hl : ∀ r x q, f r = .ok (x, q) → q.length < r.length) (r : List Tok) (hr : r.length ≤ N) : errN (blockR f r) :=
  errN_then (errN_takeT _ _ _) fun u q h => by
    have := skipP_len (takeTP_ok h)
    exact errN_block hf hl _ _ _ (by omega) (by omega)
theorem errN_cmd : ∀ (n : Nat) (b : Bool) (d : Nat) (r : List Tok), r.length + 1 < n → errN (cmdP n b d r) := by
  intro n
  induction n with
  | zero => intro b d r h; omega
  | succ n ih =>
    intro b d r hr
    have hb : ∀ r, r.length < n - 1 → errN (cmdP n true (d + 1) r) := fun r hr => ih true (d + 1) r (by omega)
    have hl : ∀ r x q, cmdP n true (d + 1) r = .ok (x, q) → q.length < r.length := fun r x q h => cmdP_len _ _ _ _ _ _ h
    cases b with
    | true =>
      unfold cmdP
      refine errN_then (errN_kind _ _ _) fun k q hk => ?_
      have hq := kindP_len hk
      split
      · exact ih _ _ _ (by omega)
      · split
        · exact errN_then (errN_list _) fun _ _ _ => errN_then (errN_takeT _ _ _) fun _ _ _ => errN_ok _
        · split
          · exact errN_then (errN_text _) fun _ _ _ => errN_then (errN_takeT _ _ _) fun _ _ _ => errN_ok _
          · exact errN_then (errN_takeT _ _ _) fun _ _ _ => errN_ok _
    | false =>
      unfold cmdP
      refine errN_then (errN_test _ _ _ (by omega)) fun t q1 h1 => ?_
      have l1 := testP_len _ _ _ _ _ h1
      refine errN_then (errN_blockR hb hl _ (by omega)) fun th q2 h2 => ?_
      have l2 := blockR_len (fun _ _ _ h => Nat.le_of_lt (hl _ _ _ h)) h2
      split
      · rename_i q3 hs
        have := skipP_len hs
        exact errN_then (ih _ _ _ (by omega)) fun _ _ _ => errN_ok _
      · split
        · rename_i q3 hs
          have := skipP_len hs
          exact errN_then (errN_blockR hb hl _ (by omega)) fun _ _ _ => errN_ok _
        · exact errN_ok _
theorem errN_script (l : List Tok) : errN (scriptR l) := by
  have : ∀ (n : Nat) (acc : List Cmd) (r : List Tok), r.length ≤ l.length → errN (scriptF (cmdP (l.length + 2) true 0) n acc r) := by
    intro n
    induction n with
    | zero => intro acc r _; exact errN_ok _
    | succ n ih =>
      intro acc r hr
      unfold scriptF
      split
      · exact errN_ok _
      · exact errN_then (errN_cmd _ _ _ _ (by omega)) fun x q h => by
          have := cmdP_len _ _ _ _ _ _ h
          exact ih _ _ (by omega)
  exact this _ _ _ (Nat.le_refl _)
theorem err_ne {l : List Tok} {m : Nat × Int} (h : scriptR l = .error m) : m.2 ≠ 0 := errN_script l m h

/-- A word or tag is short. -/
def shortT (t : Tok) : Prop := t.kind = 1 ∨ t.kind = 2 → t.text.length ≤ 16
def AllS (l : List Tok) : Prop := ∀ t ∈ l, shortT t
theorem AllS.app {a b : List Tok} (h : AllS a) (k : AllS b) : AllS (a ++ b) := fun t ht => by
  rcases List.mem_append.1 ht with e | e
  · exact h t e
  · exact k t e
theorem AllS.cons {t : Tok} {b : List Tok} (h : shortT t) (k : AllS b) : AllS (t :: b) := fun x hx => by
  rcases List.mem_cons.1 hx with e | e
  · rw [e]; exact h
  · exact k x e
theorem allS_nil : AllS [] := fun t h => by cases h
theorem AllS.flat {A : Type} {g : A → List Tok} {l : List A} (h : ∀ x ∈ l, AllS (g x)) : AllS (l.flatMap g) := fun t ht => by
  obtain ⟨x, hx, hxt⟩ := List.mem_flatMap.1 ht
  exact h x hx t hxt
theorem AllS.sep {A : Type} {g : A → List Tok} {l : List A} (h : ∀ x ∈ l, AllS (g x)) : AllS (sepT g l) := by
  cases l with
  | nil => exact allS_nil
  | cons x l => exact AllS.app (h x (by simp)) (AllS.flat fun y hy => AllS.cons (fun _ => by decide) (h y (by simp [hy])))
theorem str_sh (x : List UInt8) : shortT (strT x) := fun h => by rcases h with h | h <;> exact absurd h (show ¬ ((4 : Int) = _) by decide)
theorem list_sh (l : List (List UInt8)) : AllS (listT l) := by
  match l with
  | [] => exact AllS.cons (fun _ => by decide) (AllS.app (AllS.sep fun x hx => by cases hx) (AllS.cons (fun _ => by decide) allS_nil))
  | [x] => exact AllS.cons (str_sh x) allS_nil
  | x :: y :: ys => exact AllS.cons (fun _ => by decide) (AllS.app (AllS.sep fun z _ => AllS.cons (str_sh z) allS_nil) (AllS.cons (fun _ => by decide) allS_nil))
theorem wordT_sh (k n : Nat) (hk : k < 2) (h1 : 1 ≤ n) (h2 : n ≤ 10) : shortT (wordT (wordOf k n)) := by
  match k, hk with
  | 0, _ | 1, _ =>
    match n, h1, h2 with
    | 1, _, _ | 2, _, _ | 3, _, _ | 4, _, _ | 5, _, _ | 6, _, _ | 7, _, _ | 8, _, _ | 9, _, _ | 10, _, _ => exact fun _ => by decide
theorem tagT_sh (k n : Nat) (hk : 2 ≤ k ∧ k < 4) (h1 : 1 ≤ n) (h2 : n ≤ 3) : shortT (tagT (wordOf k n)) := by
  match k, hk with
  | 2, _ | 3, _ =>
    match n, h1, h2 with
    | 1, _, _ | 2, _, _ | 3, _, _ => exact fun _ => by decide
theorem test_sh : ∀ (m d : Nat) (t : Tst), DeepT m t → faultTst m d t = 0 → AllS (testT m t) := by
  intro m
  induction m with
  | zero => intro d t h; exact h.elim
  | succ m ih =>
    intro d t hdeep hf
    obtain ⟨hnum, hd, hfit, hin⟩ := faultTst_zero hf
    rw [isNum_tst] at hnum
    obtain ⟨k, hk, h1, h2⟩ := kind_of_num hnum
    unfold testT
    unfold fitsT at hfit
    rw [hk] at hfit ⊢
    simp only [Int.toNat_natCast]
    refine AllS.cons (wordT_sh 1 k (by omega) h1 h2) ?_
    have hall : ∀ x ∈ t.tests, AllS (testT m x) := fun x hx => ih (d + 1) x (hdeep x hx) (hin x hx)
    by_cases k3 : (k : Int) = 3
    · rw [if_pos k3]
      cases h : t.tests with
      | nil => exact allS_nil
      | cons x xs => exact hall x (by rw [h]; simp)
    rw [if_neg k3] at hfit ⊢
    by_cases k45 : (k : Int) = 4 ∨ (k : Int) = 5
    · rw [if_pos k45]
      exact AllS.cons (fun _ => by decide) (AllS.app (AllS.sep hall) (AllS.cons (fun _ => by decide) allS_nil))
    rw [if_neg k45] at hfit ⊢
    by_cases k6 : (k : Int) = 6
    · rw [if_pos k6] at hfit ⊢
      simp [cmpB, isNum_mat] at hfit
      exact AllS.cons (tagT_sh 2 _ (by omega) (by omega) (by omega)) (AllS.app (list_sh _) (list_sh _))
    rw [if_neg k6] at hfit ⊢
    by_cases k78 : (k : Int) = 7 ∨ (k : Int) = 8
    · rw [if_pos k78] at hfit ⊢
      simp [cmpB, isNum_mat, isNum_part] at hfit
      exact AllS.cons (tagT_sh 3 _ (by omega) (by omega) (by omega)) (AllS.cons (tagT_sh 2 _ (by omega) (by omega) (by omega)) (AllS.app (list_sh _) (list_sh _)))
    rw [if_neg k78] at hfit ⊢
    by_cases k9 : (k : Int) = 9
    · rw [if_pos k9]
      exact list_sh _
    rw [if_neg k9] at hfit ⊢
    by_cases k10 : (k : Int) = 10
    · rw [if_pos k10] at hfit ⊢
      simp at hfit
      refine AllS.cons ?_ (AllS.cons ?_ allS_nil)
      · intro _; cases t.over <;> decide
      · exact fun h => by rcases h with h | h <;> exact absurd h (show ¬ ((3 : Int) = _) by decide)
    · rw [if_neg k10]
      exact allS_nil
theorem cmd_sh : ∀ (m d : Nat) (c : Cmd), DeepC m c → faultCmd m d c = 0 → AllS (restT m c) ∧ AllS (cmdT m c) := by
  intro m
  induction m with
  | zero => intro d c h; exact h.elim
  | succ m ih =>
    intro d c hdeep hf
    obtain ⟨k, hk, k1, k2⟩ := cmd_kind hf
    obtain ⟨_, hd, hfit, h2⟩ := faultCmd_zero hf
    have hr : AllS (restT (m + 1) c) := by
      unfold restT
      by_cases hk2 : c.kind = 2
      · rw [if_pos hk2]
        obtain ⟨hT, hA, hE⟩ := h2 hk2
        obtain ⟨dT, dA, dE⟩ := hdeep
        refine AllS.app (AllS.app (test_sh _ _ _ dT hT) (AllS.app (AllS.cons (fun _ => by decide) (AllS.flat fun x hx => (ih _ x (dA x hx) (hA x hx)).2)) (AllS.cons (fun _ => by decide) allS_nil))) ?_
        cases he : elsifP c.els with
        | some x =>
          rw [he] at hE
          obtain ⟨hx, _⟩ := elsifP_some he
          exact AllS.cons (fun _ => by decide) (ih _ x (dE x (by rw [hx]; simp)) hE).1
        | none =>
          rw [he] at hE
          simp only
          by_cases hz : c.els.length = 0
          · rw [if_pos hz]; exact allS_nil
          · rw [if_neg hz]
            exact AllS.cons (fun _ => by decide) (AllS.app (AllS.cons (fun _ => by decide) (AllS.flat fun x hx => (ih _ x (dE x hx) (hE x hx)).2)) (AllS.cons (fun _ => by decide) allS_nil))
      · rw [if_neg hk2]
        refine AllS.app ?_ (AllS.cons (fun _ => by decide) allS_nil)
        by_cases hz : c.texts.length = 0
        · rw [if_pos hz]; exact allS_nil
        · rw [if_neg hz]; exact list_sh _
    refine ⟨hr, ?_⟩
    unfold cmdT
    rw [hk]
    exact AllS.cons (wordT_sh 0 k (by omega) k1 k2) hr
theorem shown_short {m : Nat} {l : List Cmd} (hd : ∀ x ∈ l, DeepC m x) (hf : faultCmds m 0 l = 0) : AllS (cmdsT m l) := AllS.flat fun x hx => (cmd_sh m 0 x (hd x hx) (firstP_all hf x hx)).2
/-- What is parsed with no fault, may be. -/
theorem parse_val {l : List Tok} {cs : List Cmd} {i : Int} (h : parseS l = (cs, i, 0)) : i = 0 ∧ scriptR l = .ok (cs, []) ∧ AllOk l ∧ l.length ≤ 400 ∧ ∀ x ∈ cs, DeepC (l.length + 3) x ∧ ∀ m, faultCmd m 0 x = 0 := by
  unfold parseS at h
  by_cases hl : 400 < l.length
  · rw [if_pos hl] at h; cases h
  · rw [if_neg hl] at h
    cases hb : badTok l 0 with
    | some y =>
      obtain ⟨j, e⟩ := y
      rw [hb] at h
      simp only [Prod.mk.injEq] at h
      exfalso
      have : ∀ (l : List Tok) (i j : Nat) (e : Int), badTok l i = some (j, e) → e ≠ 0 := by
        intro l
        induction l with
        | nil => intro i j e h; cases h
        | cons t l ih =>
          intro i j e h
          unfold badTok at h
          by_cases ht : faultT t = 0
          · rw [if_pos ht] at h; exact ih _ _ _ h
          · rw [if_neg ht] at h; cases h; exact ht
      exact this _ _ _ _ hb h.2.2
    | none =>
      rw [hb] at h
      simp only at h
      have hall := ok_of_bad _ _ hb
      have hloop : ∀ (n : Nat) (acc r' : List Cmd) (r q : List Tok), scriptF (cmdP (l.length + 2) true 0) n acc r = .ok (r', q) → AllOk r → r.length ≤ n → (∀ x ∈ acc, ValC (l.length + 2) 0 x) → q = [] ∧ ∀ x ∈ r', ValC (l.length + 2) 0 x := by
        intro n
        induction n with
        | zero =>
          intro acc r' r q h ha hr hv
          cases h
          exact ⟨List.length_eq_zero_iff.1 (by omega), hv⟩
        | succ n ih =>
          intro acc r' r q h ha hr hv
          unfold scriptF at h
          split at h
          · rename_i he
            cases h
            exact ⟨by simpa using he, hv⟩
          · obtain ⟨x, q1, h1, h2⟩ := thenR_ok h
            obtain ⟨vx, a1⟩ := cmd_val _ _ _ _ _ _ (fun hf => by cases hf) h1 ha
            have := cmdP_len _ _ _ _ _ _ h1
            refine ih _ _ _ _ h2 a1 (by omega) fun y hy => ?_
            rcases List.mem_append.1 hy with e | e
            · exact hv y e
            · simp at e; rw [e]; exact vx
      cases hs : scriptR l with
      | error m =>
        rw [hs] at h
        simp only [Prod.mk.injEq] at h
        exfalso
        exact err_ne hs h.2.2
      | ok y =>
        obtain ⟨c, q⟩ := y
        rw [hs] at h
        simp only [Prod.mk.injEq] at h
        obtain ⟨rfl, rfl, _⟩ := h
        obtain ⟨rfl, hv⟩ := hloop _ _ _ _ _ hs hall (Nat.le_refl _) (fun x hx => by cases hx)
        exact ⟨rfl, rfl, hall, by omega, fun x hx => ⟨(hv x hx).1, (hv x hx).2⟩⟩
end Go.Proofs.YtdmiidbncpgfpaaDoor
