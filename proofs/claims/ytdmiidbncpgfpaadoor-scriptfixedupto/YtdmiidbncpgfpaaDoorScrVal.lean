/-
  Plain facts on scripts: what is read may be. No program is named here.
-/
import Derived.Test.YtdmiidbncpgfpaaDoorScrBack3
namespace Go.Proofs.YtdmiidbncpgfpaaDoor
open Go.RowKit

theorem AllOk.tail {t : Tok} {l : List Tok} (h : AllOk (t :: l)) : AllOk l := fun x hx => h x (by simp [hx])
theorem numIn_some : ∀ (T : List (List UInt8)) (n : Nat) (s : List UInt8), numIn T n s ≠ 0 → n ≤ numIn T n s ∧ T[numIn T n s - n]? = some s := by
  intro T
  induction T with
  | nil => intro n s h; exact absurd rfl h
  | cons x T ih =>
    intro n s h
    unfold numIn at h ⊢
    by_cases hx : x = s
    · rw [if_pos hx] at h ⊢
      refine ⟨Nat.le_refl _, ?_⟩
      rw [Nat.sub_self, hx]
      rfl
    · rw [if_neg hx] at h ⊢
      obtain ⟨a, b⟩ := ih (n + 1) s h
      refine ⟨by omega, ?_⟩
      rw [show numIn T (n + 1) s - n = (numIn T (n + 1) s - (n + 1)) + 1 by omega]
      simpa using b
theorem number_fit {k : Nat} {s : List UInt8} (hk : k < 4) (h : numberP k s ≠ 0) : 1 ≤ numberP k s ∧ numberP k s ≤ 10 ∧ wordOf k (numberP k s) = s ∧ s ≠ [] := by
  obtain ⟨_, b⟩ := numIn_some _ _ _ h
  have hb : (wTabs.getD k [])[numberP k s]? = some s := by simpa [numberP] using b
  have hlen : (wTabs.getD k []).length = 11 := by
    match k, hk with
    | 0, _ | 1, _ | 2, _ | 3, _ => rfl
  have hlt : numberP k s < (wTabs.getD k []).length := (List.getElem?_eq_some_iff.1 hb).1
  refine ⟨by omega, by omega, ?_, ?_⟩
  · unfold wordOf
    rw [List.getD_eq_getElem?_getD, hb]
    rfl
  · intro he
    apply h
    rw [he]
    match k, hk with
    | 0, _ | 1, _ | 2, _ | 3, _ => rfl
theorem number_is {k : Nat} {s : List UInt8} (hk : k < 4) (h : numberP k s ≠ 0) : isNumP k (numberP k s : Nat) = true := by
  obtain ⟨h1, h2, h3, h4⟩ := number_fit hk h
  unfold isNumP
  simp only [Int.toNat_natCast]
  rw [h3]
  have : s.isEmpty = false := by cases s with
    | nil => exact absurd rfl h4
    | cons _ _ => rfl
  rw [this]
  simp
  omega
theorem kind_val {k d n : Nat} {r q : List Tok} (hk : k < 4) (h : kindP k d r = .ok (n, q)) (ha : AllOk r) : d ≤ 6 ∧ isNumP k n = true ∧ 1 ≤ n ∧ n ≤ 10 ∧ AllOk q := by
  obtain ⟨hd, hn, t, rfl, _, ht⟩ := kindP_ok h
  subst ht
  obtain ⟨h1, h2, _⟩ := number_fit hk hn
  exact ⟨hd, number_is hk hn, h1, h2, ha.tail⟩
theorem skip_val {k : Int} {s : List UInt8} {r q : List Tok} (h : skipP k s r = some q) (ha : AllOk r) : AllOk q := by
  obtain ⟨t, rfl, _⟩ := skipP_some h; exact ha.tail
theorem text_val {r q : List Tok} {x : List UInt8} (h : textR r = .ok (x, q)) (ha : AllOk r) : AllOk q := by
  obtain ⟨t, rfl, _⟩ := textR_ok h; exact ha.tail
theorem loop_val {A : Type} {f : List Tok → Rdg A} {P : A → Prop} (hf : ∀ r x q, f r = .ok (x, q) → AllOk r → P x ∧ AllOk q) : ∀ (n : Nat) (acc l : List A) (r q : List Tok), loopF f n acc r = .ok (l, q) → AllOk r → (∀ x ∈ acc, P x) → AllOk q ∧ (∀ x ∈ l, P x) ∧ acc.length ≤ l.length := by
  intro n
  induction n with
  | zero => intro acc l r q h ha hp; cases h; exact ⟨ha, hp, Nat.le_refl _⟩
  | succ n ih =>
    intro acc l r q h ha hp
    unfold loopF at h
    split at h
    · cases h; exact ⟨ha, hp, Nat.le_refl _⟩
    · rename_i q0 hs
      obtain ⟨x, q1, h1, h2⟩ := thenR_ok h
      obtain ⟨px, ok⟩ := hf _ _ _ h1 (skip_val hs ha)
      obtain ⟨a, b, c⟩ := ih _ _ _ _ h2 ok fun y hy => by
        rcases List.mem_append.1 hy with e | e
        · exact hp y e
        · simp at e; rw [e]; exact px
      exact ⟨a, b, by simp at c; omega⟩
theorem list_val {r q : List Tok} {l : List (List UInt8)} (h : listR r = .ok (l, q)) (ha : AllOk r) : 0 < l.length ∧ AllOk q := by
  unfold listR at h
  split at h
  · obtain ⟨x, q1, h1, h2⟩ := thenR_ok h
    cases h2
    exact ⟨by simp, text_val h1 ha⟩
  · rename_i q0 hs
    obtain ⟨x, q1, h1, h2⟩ := thenR_ok h
    obtain ⟨l2, q2, h3, h4⟩ := thenR_ok h2
    obtain ⟨u, q3, h5, h6⟩ := thenR_ok h4
    cases h6
    obtain ⟨a, _, c⟩ := loop_val (P := fun _ => True) (fun _ _ _ h ha => ⟨trivial, text_val h ha⟩) _ _ _ _ _ h3 (text_val h1 (skip_val hs ha)) (fun _ _ => trivial)
    exact ⟨by simp at c; omega, skip_val (takeTP_ok h5) a⟩
theorem tags_val {b : Bool} : ∀ (r : List Tok) (m p : Nat) (x : Nat × Nat) (q : List Tok), tagsF b r m p = .ok (x, q) → AllOk r → (m = 0 ∨ isNumP 2 m = true) → (p = 0 ∨ isNumP 3 p = true) → (b = false → p = 0) → isNumP 2 x.1 = true ∧ (if b then isNumP 3 x.2 = true else x.2 = 0) ∧ AllOk q := by
  have hend : ∀ (m p : Nat), (m = 0 ∨ isNumP 2 m = true) → (p = 0 ∨ isNumP 3 p = true) → (b = false → p = 0) → isNumP 2 ((if m = 0 then 1 else m : Nat) : Int) = true ∧ (if b then isNumP 3 ((if p = 0 ∧ b = true then 1 else p : Nat) : Int) = true else (if p = 0 ∧ b = true then 1 else p : Nat) = 0) := by
    intro m p hm hp hb
    constructor
    · by_cases h : m = 0
      · rw [if_pos h]; rfl
      · rw [if_neg h]; exact hm.resolve_left h
    · cases b with
      | false => simp [hb rfl]
      | true =>
        simp only [if_true, and_true]
        by_cases h : p = 0
        · rw [if_pos h]; rfl
        · rw [if_neg h]; exact hp.resolve_left h
  intro r
  induction r with
  | nil =>
    intro m p x q h ha hm hp hb
    unfold tagsF at h
    cases h
    obtain ⟨a, c⟩ := hend m p hm hp hb
    exact ⟨a, c, ha⟩
  | cons t r ih =>
    intro m p x q h ha hm hp hb
    unfold tagsF at h
    split at h
    · split at h
      · rename_i h2; exact ih _ _ _ _ h ha.tail (.inr (number_is (by omega) h2.1)) hp hb
      · split at h
        · rename_i h3; exact ih _ _ _ _ h ha.tail hm (.inr (number_is (by omega) h3.1)) (fun hf => by rw [hf] at h3; cases h3.2.2)
        · cases h
    · cases h
      obtain ⟨a, c⟩ := hend m p hm hp hb
      exact ⟨a, c, ha⟩
theorem num_val {t : Tok} (h : t.kind = 3) (ha : faultT t = 0) : 0 ≤ t.num ∧ t.num ≤ 2147483647 := by
  unfold faultT at ha
  rw [if_neg (by omega), if_pos h] at ha
  by_cases hr : 0 ≤ t.num ∧ t.num ≤ 2147483647
  · exact hr
  · rw [if_pos hr] at ha; cases ha
theorem bound_val {r q : List Tok} {x : Bool × Int} (h : boundR r = .ok (x, q)) (ha : AllOk r) : 0 ≤ x.2 ∧ x.2 ≤ 2147483647 ∧ AllOk q := by
  unfold boundR at h
  split at h
  · rename_i q0 hs
    obtain ⟨t, q1, h1, h2⟩ := thenR_ok h
    cases h2
    have a := skip_val hs ha
    obtain ⟨rfl, hk⟩ := takeKP_ok h1
    have := num_val hk (a t (by simp))
    exact ⟨this.1, this.2, a.tail⟩
  · obtain ⟨u, q0, h0, h'⟩ := thenR_ok h
    obtain ⟨t, q1, h1, h2⟩ := thenR_ok h'
    cases h2
    have a := skip_val (takeTP_ok h0) ha
    obtain ⟨rfl, hk⟩ := takeKP_ok h1
    have := num_val hk (a t (by simp))
    exact ⟨this.1, this.2, a.tail⟩
/-- What is read is so deep at the most, and may be. -/
def ValT (n d : Nat) (t : Tst) : Prop := DeepT n t ∧ ∀ m, faultTst m d t = 0
def ValC (n d : Nat) (c : Cmd) : Prop := DeepC (n + 1) c ∧ ∀ m, faultCmd m d c = 0
theorem fault_of {d : Nat} {t : Tst} (h1 : isNumP 1 t.kind = true) (h2 : d ≤ 6) (h3 : fitsT t = true) (h4 : ∀ x ∈ t.tests, ∀ m, faultTst m (d + 1) x = 0) : ∀ m, faultTst m d t = 0 := by
  intro m
  cases m with
  | zero => rfl
  | succ m =>
    unfold faultTst
    rw [if_pos (oneP_is h1 h2 h3)]
    exact firstP_none fun x hx => h4 x hx m
theorem test_val : ∀ (n d : Nat) (r : List Tok) (t : Tst) (q : List Tok), testP n d r = .ok (t, q) → AllOk r → ValT n d t ∧ AllOk q := by
  intro n
  induction n with
  | zero => intro d r t q h; cases h
  | succ n ih =>
    intro d r t q h ha
    unfold testP at h
    obtain ⟨k, q1, h1, h2⟩ := thenR_ok h
    obtain ⟨hd, hk, k1, k2, a1⟩ := kind_val (by omega) h1 ha
    simp only at h2
    split at h2
    · rename_i e
      obtain ⟨x, q2, h3, h4⟩ := thenR_ok h2
      cases h4
      obtain ⟨⟨dx, fx⟩, a2⟩ := ih _ _ _ _ h3 a1
      refine ⟨⟨fun y hy => ?_, fault_of (by subst e; exact hk) hd (by simp [fitsT, noTst, noneT]) fun y hy m => ?_⟩, a2⟩
      · simp at hy; rw [hy]; exact dx
      · simp at hy; rw [hy]; exact fx m
    · rename_i n3
      split at h2
      · rename_i e
        obtain ⟨l, q2, h3, h4⟩ := thenR_ok h2
        cases h4
        obtain ⟨u, p1, g1, g2⟩ := thenR_ok h3
        obtain ⟨x, p2, g3, g4⟩ := thenR_ok g2
        obtain ⟨l', p3, g5, g6⟩ := thenR_ok g4
        obtain ⟨u', p4, g7, g8⟩ := thenR_ok g6
        cases g8
        have b1 := skip_val (takeTP_ok g1) a1
        obtain ⟨vx, b2⟩ := ih _ _ _ _ g3 b1
        obtain ⟨b3, vl, cl⟩ := loop_val (P := fun x => ValT n (d + 1) x) (fun _ _ _ h ha => ih _ _ _ _ h ha) _ _ _ _ _ g5 b2 (fun y hy => by simp at hy; rw [hy]; exact vx)
        refine ⟨⟨fun y hy => (vl y hy).1, fault_of hk hd ?_ fun y hy m => (vl y hy).2 m⟩, skip_val (takeTP_ok g7) b3⟩
        simp at cl
        unfold fitsT
        simp only
        rw [if_neg (by omega), if_pos (by omega)]
        simp [noTst, noneT]
        omega
      · rename_i n45
        split at h2
        · rename_i e
          obtain ⟨x, q2, h3, h4⟩ := thenR_ok h2
          obtain ⟨y, q3, h5, h6⟩ := thenR_ok h4
          obtain ⟨z, q4, h7, h8⟩ := thenR_ok h6
          cases h8
          obtain ⟨t1, t2, b1⟩ := tags_val _ _ _ _ _ h3 a1 (.inl rfl) (.inl rfl) (fun _ => rfl)
          obtain ⟨l1, b2⟩ := list_val h5 b1
          obtain ⟨l2, b3⟩ := list_val h7 b2
          refine ⟨⟨fun y hy => by simp [noneT] at hy, fault_of hk hd ?_ fun y hy m => by simp [noneT] at hy⟩, b3⟩
          unfold fitsT
          simp only
          rw [if_neg (by omega), if_neg (by omega)]
          by_cases k6 : k = 6
          · subst k6
            simp at t2
            rw [if_pos (by rfl)]
            simp [cmpB, noTst, noneT, t1, l1, l2, t2]
          · simp [k6] at t2
            rw [if_neg (by omega), if_pos (by omega)]
            simp [cmpB, noTst, noneT, t1, l1, l2, t2]
        · rename_i n678
          split at h2
          · rename_i e
            obtain ⟨x, q2, h3, h4⟩ := thenR_ok h2
            cases h4
            obtain ⟨l1, b2⟩ := list_val h3 a1
            refine ⟨⟨fun y hy => by simp [noneT] at hy, fault_of (by subst e; exact hk) hd ?_ fun y hy m => by simp [noneT] at hy⟩, b2⟩
            simp [fitsT, noTst, noneT, l1]
          · rename_i n9
            split at h2
            · rename_i e
              obtain ⟨x, q2, h3, h4⟩ := thenR_ok h2
              cases h4
              obtain ⟨l1, l2, b2⟩ := bound_val h3 a1
              refine ⟨⟨fun y hy => by simp [noneT] at hy, fault_of (by subst e; exact hk) hd ?_ fun y hy m => by simp [noneT] at hy⟩, b2⟩
              simp [fitsT, noTst, noneT, l1, l2]
            · rename_i n10
              cases h2
              refine ⟨⟨fun y hy => by simp [noneT] at hy, fault_of hk hd ?_ fun y hy m => by simp [noneT] at hy⟩, a1⟩
              unfold fitsT
              simp only
              rw [if_neg (by omega), if_neg (by omega), if_neg (by omega), if_neg (by omega), if_neg (by omega), if_neg (by omega)]
              simp [noTst, noneT]
theorem block_val {f : List Tok → Rdg Cmd} {P : Cmd → Prop} (hf : ∀ r x q, f r = .ok (x, q) → AllOk r → P x ∧ AllOk q) : ∀ (n : Nat) (acc l : List Cmd) (r q : List Tok), blockF f n acc r = .ok (l, q) → AllOk r → (∀ x ∈ acc, P x) → AllOk q ∧ ∀ x ∈ l, P x := by
  intro n
  induction n with
  | zero => intro acc l r q h; cases h
  | succ n ih =>
    intro acc l r q h ha hp
    unfold blockF at h
    split at h
    · rename_i q0 hs; cases h; exact ⟨skip_val hs ha, hp⟩
    · split at h
      · cases h
      obtain ⟨x, q1, h1, h2⟩ := thenR_ok h
      obtain ⟨px, ok⟩ := hf _ _ _ h1 ha
      exact ih _ _ _ _ h2 ok fun y hy => by
        rcases List.mem_append.1 hy with e | e
        · exact hp y e
        · simp at e; rw [e]; exact px
theorem blockR_val {f : List Tok → Rdg Cmd} {P : Cmd → Prop} (hf : ∀ r x q, f r = .ok (x, q) → AllOk r → P x ∧ AllOk q) {l : List Cmd} {r q : List Tok} (h : blockR f r = .ok (l, q)) (ha : AllOk r) : AllOk q ∧ ∀ x ∈ l, P x := by
  obtain ⟨u, q1, h1, h2⟩ := thenR_ok h
  exact block_val hf _ _ _ _ _ h2 (skip_val (takeTP_ok h1) ha) fun x hx => by cases hx
theorem noTst_none : noTst noneT = true := rfl
theorem faultC_of {d : Nat} {c : Cmd} (h1 : isNumP 0 c.kind = true) (h2 : d ≤ 6) (h3 : fitsC c = true) (h4 : c.kind = 2 → (∀ m, faultTst m 1 c.test = 0) ∧ (∀ x ∈ c.thn, ∀ m, faultCmd m (d + 1) x = 0) ∧ (match elsifP c.els with | some x => ∀ m, faultCmd m d x = 0 | none => ∀ x ∈ c.els, ∀ m, faultCmd m (d + 1) x = 0)) : ∀ m, faultCmd m d c = 0 := by
  intro m
  cases m with
  | zero => rfl
  | succ m =>
    rw [faultCmd_step, if_neg (by simp [oneP_is h1 h2 h3])]
    by_cases hk : c.kind = 2
    · obtain ⟨a, b, e⟩ := h4 hk
      rw [if_neg (by simpa using hk), if_neg (by simp [a m]), if_neg (by simp [firstP_none fun x hx => b x hx m])]
      cases he : elsifP c.els with
      | some x => rw [he] at e; exact e m
      | none => rw [he] at e; exact firstP_none fun x hx => e x hx m
    · rw [if_pos hk]
theorem firstP_one {A : Type} (f : A → Int) (x : A) : firstP f [x] = f x := by unfold firstP; by_cases h : f x = 0 <;> simp [h, firstP]
theorem cmd_low : ∀ (m d : Nat) (c : Cmd), faultCmd m (d + 1) c = 0 → faultCmd m d c = 0 := by
  intro m
  induction m with
  | zero => intro d c _; rfl
  | succ m ih =>
    intro d c h
    obtain ⟨a, b, e, g⟩ := faultCmd_zero h
    rw [faultCmd_step, if_neg (by simp [oneP_is a (by omega : d ≤ 6) e])]
    by_cases hk : c.kind = 2
    · obtain ⟨g1, g2, g3⟩ := g hk
      rw [if_neg (by simpa using hk), if_neg (by simp [g1]), if_neg (by simp [firstP_none fun x hx => ih (d + 1) x (g2 x hx)])]
      cases he : elsifP c.els with
      | some x => rw [he] at g3; exact ih d x g3
      | none => rw [he] at g3; exact firstP_none fun x hx => ih (d + 1) x (g3 x hx)
    · rw [if_pos hk]
theorem cmdP_two : ∀ (n : Nat) (d : Nat) (r : List Tok) (c : Cmd) (q : List Tok), cmdP n false d r = .ok (c, q) → c.kind = 2 := by
  intro n d r c q h
  cases n with
  | zero => cases h
  | succ n =>
    unfold cmdP at h
    obtain ⟨x, q1, h1, h2⟩ := thenR_ok h
    obtain ⟨y, q2, h3, h4⟩ := thenR_ok h2
    split at h4
    · obtain ⟨z, q3, h5, h6⟩ := thenR_ok h4; cases h6; rfl
    · split at h4
      · obtain ⟨z, q3, h5, h6⟩ := thenR_ok h4; cases h6; rfl
      · cases h4; rfl
theorem cmd_val : ∀ (n : Nat) (b : Bool) (d : Nat) (r : List Tok) (c : Cmd) (q : List Tok), (b = false → d ≤ 6) → cmdP n b d r = .ok (c, q) → AllOk r → ValC n d c ∧ AllOk q := by
  intro n
  induction n with
  | zero => intro b d r c q _ h; cases h
  | succ n ih =>
    intro b d r c q hbd h ha
    cases b with
    | true =>
      unfold cmdP at h
      obtain ⟨k, q1, h1, h2⟩ := thenR_ok h
      obtain ⟨hd, hk, k1, k2, a1⟩ := kind_val (by omega) h1 ha
      split at h2
      · obtain ⟨⟨v1, v2⟩, v3⟩ := ih false d q1 c q (fun _ => hd) h2 a1
        exact ⟨⟨DeepC.more _ _ _ (by omega) v1, v2⟩, v3⟩
      · rename_i n2
        have deep : ∀ l, DeepC (n + 2) ⟨k, l, noneT, [], []⟩ := fun l => ⟨fun x hx => by simp [noneT] at hx, fun x hx => by simp at hx, fun x hx => by simp at hx⟩
        have two : ∀ l : List (List UInt8), ¬ ((k : Int) = 2) := fun _ => by omega
        split at h2
        · rename_i e
          obtain ⟨x, q2, h3, h4⟩ := thenR_ok h2
          obtain ⟨y, q3, h5, h6⟩ := thenR_ok h4
          cases h6
          obtain ⟨l1, b2⟩ := list_val h3 a1
          refine ⟨⟨deep _, faultC_of hk hd ?_ fun hk2 => absurd hk2 (two [])⟩, skip_val (takeTP_ok h5) b2⟩
          unfold fitsC
          rw [if_neg (by simp [noTst_none]), if_pos (by simp only; omega)]
          simpa using l1
        · rename_i n189
          split at h2
          · rename_i e
            obtain ⟨x, q2, h3, h4⟩ := thenR_ok h2
            obtain ⟨y, q3, h5, h6⟩ := thenR_ok h4
            cases h6
            refine ⟨⟨deep _, faultC_of hk hd ?_ fun hk2 => absurd hk2 (two [])⟩, skip_val (takeTP_ok h5) (text_val h3 a1)⟩
            unfold fitsC
            rw [if_neg (by simp [noTst_none]), if_neg (by simp only; omega), if_pos (by simp only; omega)]
            rfl
          · rename_i n567
            obtain ⟨y, q3, h5, h6⟩ := thenR_ok h2
            cases h6
            refine ⟨⟨deep _, faultC_of hk hd ?_ fun hk2 => absurd hk2 (two [])⟩, skip_val (takeTP_ok h5) a1⟩
            unfold fitsC
            rw [if_neg (by simp [noTst_none]), if_neg (by simp only; omega), if_neg (by simp only; omega)]
            rfl
    | false =>
      have hd := hbd rfl
      unfold cmdP at h
      obtain ⟨t, q1, h1, h2⟩ := thenR_ok h
      obtain ⟨th, q2, h3, h4⟩ := thenR_ok h2
      obtain ⟨⟨t1, t2⟩, a1⟩ := test_val _ _ _ _ _ h1 ha
      have hfb : ∀ r x q, cmdP n true (d + 1) r = .ok (x, q) → AllOk r → ValC n (d + 1) x ∧ AllOk q := fun r x q h ha => ih true (d + 1) r x q (fun hf => by cases hf) h ha
      obtain ⟨a2, v2⟩ := blockR_val hfb h3 a1
      have done : ∀ (els : List Cmd), (∀ x ∈ els, DeepC (n + 1) x) → (match elsifP els with | some x => ∀ m, faultCmd m d x = 0 | none => ∀ x ∈ els, ∀ m, faultCmd m (d + 1) x = 0) → ValC (n + 1) d ⟨2, [], t, th, els⟩ := by
        intro els h1 h2
        refine ⟨⟨DeepT.more _ _ _ (by omega) t1, fun x hx => (v2 x hx).1, h1⟩, faultC_of rfl hd (by unfold fitsC; rw [if_neg (by simp), if_neg (by simp), if_neg (by simp)]; rfl) fun _ => ⟨t2, fun x hx m => (v2 x hx).2 m, h2⟩⟩
      split at h4
      · rename_i q0 hs
        obtain ⟨z, q3, h5, h6⟩ := thenR_ok h4
        cases h6
        obtain ⟨⟨z1, z2⟩, a3⟩ := ih false d q0 z q (fun _ => hd) h5 (skip_val hs a2)
        have hz := cmdP_two _ _ _ _ _ h5
        refine ⟨done _ (fun x hx => by simp at hx; rw [hx]; exact z1) ?_, a3⟩
        rw [show elsifP [z] = some z from by simp [elsifP, hz]]
        exact z2
      · split at h4
        · rename_i q0 hs
          obtain ⟨el, q3, h5, h6⟩ := thenR_ok h4
          cases h6
          obtain ⟨a3, v3⟩ := blockR_val hfb h5 (skip_val hs a2)
          refine ⟨done _ (fun x hx => (v3 x hx).1) ?_, a3⟩
          cases he : elsifP el with
          | some x =>
            obtain ⟨hx, _⟩ := elsifP_some he
            exact fun m => cmd_low m d x ((v3 x (by rw [hx]; simp)).2 m)
          | none => exact fun x hx m => (v3 x hx).2 m
        · cases h4
          exact ⟨done _ (fun x hx => by cases hx) (fun x hx => by cases hx), a2⟩
end Go.Proofs.YtdmiidbncpgfpaaDoor
