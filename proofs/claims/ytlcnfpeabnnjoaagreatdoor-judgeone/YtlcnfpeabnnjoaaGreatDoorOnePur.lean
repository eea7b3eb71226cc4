/-
  An If whose sides have no others in them: how long it is, and the course that it makes.
-/
import Derived.Test.YtlcnfpeabnnjoaaGreatDoorJudStp
import Derived.Test.YtlcnfpeabnnjoaaGreatDoorJudScr
import Derived.Test.YtlcnfpeabnnjoaaGreatDoorRulTabs
namespace Go.Proofs.YtlcnfpeabnnjoaaGreatDoor
open Go.RowKit Go.Proofs

theorem sepSB_len (l : List (List UInt8)) : (sepT (fun x => [strT x]) l).length ≤ 2 * l.length := by
  cases l with
  | nil => simp [sepT]
  | cons x r =>
    simp only [sepT, List.length_append, List.length_cons, List.length_nil]
    have : (r.flatMap fun y => [markT 44, strT y]).length = 2 * r.length := by
      induction r with
      | nil => rfl
      | cons y r ih => simp only [List.flatMap_cons, List.length_append, ih, List.length_cons, List.length_nil]; omega
    rw [this]; omega
theorem listB_len (l : List (List UInt8)) : (listT l).length ≤ 2 * l.length + 2 := by
  unfold listT
  split
  · simp
  · have := sepSB_len l
    simp; omega
/-- A test of any depth that the law has made, asked. -/
theorem askB_nt (M : Nat) (hM : M ≤ 5) (t : Tst) (o : Opn) (ho : Opened o) (an ak at' : Option Addr) (cn ck ct : Nat) (w : World) (hw : Tabs w) (hm : maxLenCell w) (hT : TstM anyB (M + 1) w t [.int .i64 t.kind, .int .i64 t.mat, .int .i64 t.part, .slice an t.names.length cn, .slice ak t.keys.length ck, .bool t.over, .int .i64 t.limit, .slice at' t.tests.length ct]) (hN : NT t) (hl : (testT (M + 1) t).length ≤ 390) :
    Calls Tryz.prog 12 #[.agg #[.int .i64 t.kind, .int .i64 t.mat, .int .i64 t.part, .slice an t.names.length cn, .slice ak t.keys.length ck, .bool t.over, .int .i64 t.limit, .slice at' t.tests.length ct], .agg #[.string (S o.fl), .string (S o.fd), .string (S o.tl), .string (S o.td), .string (S o.tx)]] w fun e w' => e = .returned (.tuple #[.bool (tellsP o (M + 1) t), .int .i64 0]) ∧ Below w.heap.size w w' := by
  have hf : faultTst (M + 1) 1 t = 0 := tst_fault (M + 1) (M + 1) 1 t _ hT (hN _).2 (by omega)
  exact Ask_ok M t o an ak at' cn ck ct w hw hm ho hT (rule_ask (hN _).1 hf hl) (good_of (M + 1) 1 t hf)
def bndT : Nat → Nat
  | 0 => 0
  | m + 1 => 3 * bndT m + 16
theorem sepB_len {f : Tst → List Tok} {N : Nat} : ∀ l : List Tst, (∀ u ∈ l, (f u).length ≤ N) → l.length ≤ 3 → (sepT f l).length ≤ 3 * N + 2 := by
  intro l h h3
  match l, h, h3 with
  | [], _, _ => simp [sepT]
  | [x], h, _ => have := h x (by simp); simp [sepT]; omega
  | [x, y], h, _ => have := h x (by simp); have := h y (by simp); simp [sepT]; omega
  | [x, y, z], h, _ => have := h x (by simp); have := h y (by simp); have := h z (by simp); simp [sepT]; omega
  | _ :: _ :: _ :: _ :: _, _, h3 => simp at h3
theorem tstB_len {Q : Nat → Prop} {w : World} : ∀ (m n : Nat) (t : Tst) (cs : List Value), TstM Q m w t cs → FitT n t → (testT n t).length ≤ bndT m := by
  intro m
  induction m with
  | zero => intro n t cs h; exact h.elim
  | succ m ih =>
    intro n t cs h hF
    cases n with
    | zero => simp [testT]
    | succ n =>
      obtain ⟨h1, h2⟩ := hF
      unfold fitH at h1
      simp only [Bool.and_eq_true, decide_eq_true_eq] at h1
      obtain ⟨⟨⟨_, hn⟩, hk⟩, ht⟩ := h1
      obtain ⟨_, _, vt, _, _, _, hr⟩ := h
      obtain ⟨_, _, _, _, hrr⟩ := hr
      have hu : ∀ u ∈ t.tests, (testT n u).length ≤ bndT m := fun u hu => by
        obtain ⟨i, hi⟩ := mem_at hu
        obtain ⟨_, _, cs', _, _, _, _, _, hP⟩ := hrr i u hi
        exact ih n u cs' hP (h2 u hu)
      have l1 := listB_len t.names
      have l2 := listB_len t.keys
      have l3 := sepB_len (f := testT n) t.tests hu ht
      have l4 : ((t.tests.head?.map (testT n)).getD []).length ≤ bndT m := by
        cases hq : t.tests with
        | nil => simp
        | cons x r => exact hu x (by rw [hq]; simp)
      unfold testT bndT
      split
      · simp only [List.length_cons]; omega
      · split
        · simp; omega
        · split
          · simp; omega
          · split
            · simp; omega
            · split
              · simp; omega
              · split <;> (simp; try omega)
/-- A command that has no others in it. -/
def Flat (x : Cmd) : Prop := x.thn = [] ∧ x.els = [] ∧ ∀ n, (testT n x.test).length ≤ 16 ∨ x.kind ≠ 2
theorem no_rows {Q : Nat → Prop} {w : World} {v : Value} {l : List Cmd} (h : CmdsM Q 1 w v l) : l = [] := by
  obtain ⟨_, _, _, _, hr⟩ := h
  cases hl : l with
  | nil => rfl
  | cons x r =>
    obtain ⟨_, _, cs', _, _, _, _, _, hP⟩ := hr 0 x (by rw [hl]; rfl)
    obtain ⟨_, _, _, _, _, _, _, _, hT, _⟩ := hP
    exact hT.elim
theorem flat_of {Q : Nat → Prop} {w : World} {v : Value} {l : List Cmd} (h : CmdsM Q 2 w v l) (hN : ∀ x ∈ l, NC x) : ∀ x ∈ l, Flat x := by
  intro x hx
  obtain ⟨_, _, _, _, hr⟩ := h
  obtain ⟨i, hi⟩ := mem_at hx
  obtain ⟨_, _, cs', _, _, _, _, _, hP⟩ := hr i x hi
  obtain ⟨_, _, _, _, _, _, _, _, hT, h3, h4⟩ := hP
  refine ⟨no_rows h3, no_rows h4, fun n => ?_⟩
  by_cases h2 : x.kind = 2
  · left
    exact tstB_len 1 n x.test _ hT ((hN x hx (n + 1)).2.2.1 h2)
  · exact .inr h2
theorem flat_len {x : Cmd} (h : Flat x) (hN : NC x) (n : Nat) : (restT n x).length ≤ 18 := by
  cases n with
  | zero => simp [restT]
  | succ n =>
    obtain ⟨h1, h2, h3⟩ := h
    unfold restT
    rw [h1, h2]
    by_cases hk : x.kind = 2
    · rw [if_pos hk]
      rcases h3 n with h | h
      · simp [elsifP]; omega
      · exact absurd hk h
    · rw [if_neg hk]
      have hf := (hN 1).2.1
      unfold fitHC at hf
      simp only [Bool.and_eq_true, decide_eq_true_eq] at hf
      have hl := listB_len x.texts
      split <;> (simp; try omega)
theorem flats_len {l : List Cmd} (h : ∀ x ∈ l, Flat x) (hN : ∀ x ∈ l, NC x) (n : Nat) : (l.flatMap fun x => wordT (wordOf 0 x.kind.toNat) :: restT n x).length ≤ 19 * l.length := by
  induction l with
  | nil => simp
  | cons x r ih =>
    have h1 := flat_len (h x (by simp)) (hN x (by simp)) n
    have h2 := ih (fun y hy => h y (by simp [hy])) fun y hy => hN y (by simp [hy])
    simp only [List.flatMap_cons, List.length_append, List.length_cons]
    omega
theorem reqB_len (n : Nat) : (cmdT n reqC).length ≤ 12 := by
  cases n with
  | zero => simp [cmdT, restT]
  | succ n =>
    have hl := listB_len reqC.texts
    have h4 : reqC.texts.length = 4 := rfl
    unfold cmdT restT
    rw [if_neg (by decide), if_neg (by decide)]
    simp only [List.length_cons, List.length_append, List.length_nil]
    omega
/-- The law's If. -/
def oneC (t : Tst) (A B : List Cmd) : Cmd := ⟨2, [], t, A, B⟩
theorem one_check {t : Tst} {A B : List Cmd} (hl : ∀ n, (testT n t).length ≤ 208) (hA : ∀ x ∈ A, Flat x) (hB : ∀ x ∈ B, Flat x) (nA : ∀ x ∈ A, NC x) (nB : ∀ x ∈ B, NC x) (a4 : A.length ≤ 4) (b4 : B.length ≤ 4) (n : Nat) : (cmdsT n [reqC, oneC t A B]).length ≤ 400 := by
  have h0 := reqB_len n
  have h1 : (cmdT n (oneC t A B)).length ≤ 370 := by
    unfold cmdT
    cases n with
    | zero => simp [restT]
    | succ n =>
      have e1 := hl n
      have e2 := flats_len hA nA n
      have e3 := flats_len hB nB n
      unfold restT
      rw [if_pos (show (oneC t A B).kind = 2 from rfl)]
      show (wordT (wordOf 0 2) :: (testT n t ++ (markT 123 :: (A.flatMap fun (x : Cmd) => wordT (wordOf 0 x.kind.toNat) :: restT n x) ++ [markT 125]) ++ (match elsifP B with
         | some x => wordT elsifW :: restT n x
         | none => if B.length = 0 then [] else wordT elseW :: markT 123 :: (B.flatMap fun (x : Cmd) => wordT (wordOf 0 x.kind.toNat) :: restT n x) ++ [markT 125]))).length ≤ 370
      have e4 : (match elsifP B with
         | some x => wordT elsifW :: restT n x
         | none => if B.length = 0 then [] else wordT elseW :: markT 123 :: (B.flatMap fun (x : Cmd) => wordT (wordOf 0 x.kind.toNat) :: restT n x) ++ [markT 125]).length ≤ 79 := by
        cases hq : elsifP B with
        | some x =>
          have hx : x ∈ B := by
            unfold elsifP at hq
            split at hq
            · split at hq
              · simp only [Option.some.injEq] at hq
                rw [hq]
                exact List.mem_singleton.2 rfl
              · cases hq
            · cases hq
          have := flat_len (hB x hx) (nB x hx) n
          simp; omega
        | none =>
          simp only
          split
          · simp
          · simp only [List.length_cons, List.length_append, List.length_nil]; omega
      simp only [List.length_cons, List.length_append, List.length_nil]
      omega
  show ([reqC, oneC t A B].flatMap (cmdT n)).length ≤ 400
  simp only [List.flatMap_cons, List.flatMap_nil, List.length_append, List.length_nil]
  omega
theorem side_check {A : List Cmd} (hA : ∀ x ∈ A, Flat x) (nA : ∀ x ∈ A, NC x) (a4 : A.length ≤ 4) (n : Nat) : (cmdsT n (reqC :: A)).length ≤ 400 := by
  have h0 := reqB_len n
  have e2 := flats_len hA nA n
  show ((reqC :: A).flatMap (cmdT n)).length ≤ 400
  rw [List.flatMap_cons, List.length_append]
  have e3 : (A.flatMap (cmdT n)).length ≤ 19 * A.length := e2
  omega
theorem one_nc {t : Tst} {A B : List Cmd} (ht : NT t) (nA : ∀ x ∈ A, NC x) (nB : ∀ x ∈ B, NC x) (a4 : A.length ≤ 4) (b4 : B.length ≤ 4) : NC (oneC t A B) :=
  NC.mk (by simp [oneC]) (fun h => by cases h) (fun h => by rcases h with h | h <;> cases h) (fun h => by cases h) (fun n => (ht n).1) nA nB (fit_if a4 b4) fun _ => ht
theorem check_zero {n : Nat} {l : List Cmd} (h : ∀ x ∈ l, faultCmd n 0 x = 0) (hl : (cmdsT n l).length ≤ 400) : checkM n l = 0 := by
  rcases checkM_or h with e | e
  · exact e
  · rw [checkM_of h] at e
    rw [if_neg (by omega)] at e
    cases e
/-- Of an If just one side counts. -/
theorem judge_one (o : Opn) (t : Tst) (A B : List Cmd) : judgeP o 4 [reqC, oneC t A B] = judgeP o 3 (reqC :: (if tellsP o 3 t = true then A else B)) := by
  have hr : ∀ (f : List Cmd → Crs × Bool → Crs × Bool) (tl : Tst → Bool), stepP f tl (newC, false) reqC = doP newC reqC := fun f tl => by
    unfold stepP
    rw [if_neg (by simp), if_pos (by decide)]
  have hd : doP newC reqC = (newC, false) := by rfl
  unfold judgeP
  rw [show (4 : Nat) = 3 + 1 from rfl, show followP o (3 + 1) = fun l s => l.foldl (stepP (followP o 3) (tellsP o 3)) s from rfl]
  simp only [List.foldl_cons, List.foldl_nil]
  rw [hr, hd]
  conv => rhs; rw [show (3 : Nat) = 2 + 1 from rfl, show followP o (2 + 1) = fun l s => l.foldl (stepP (followP o 2) (tellsP o 2)) s from rfl]
  simp only [List.foldl_cons]
  rw [hr, hd]
  unfold stepP
  rw [if_neg (by simp), if_neg (by simp [oneC])]
  by_cases h : tellsP o 3 t = true
  · rw [if_pos (show tellsP o 3 (oneC t A B).test = true from h), if_pos h]
    rfl
  · rw [if_neg (show ¬ tellsP o 3 (oneC t A B).test = true from h), if_neg h]
    rfl
theorem cmdsF : CmdsC 2 2 := cmds_of 2 2 (cmd_of 2 0 (fun h => by omega) fun h => by omega)
theorem tst_shape {Q : Nat → Prop} {n : Nat} {w : World} {t : Tst} {cs : List Value} (h : TstM Q n w t cs) : ∃ an cn ak ck at' ct, cs = [.int .i64 t.kind, .int .i64 t.mat, .int .i64 t.part, .slice an t.names.length cn, .slice ak t.keys.length ck, .bool t.over, .int .i64 t.limit, .slice at' t.tests.length ct] := by
  obtain ⟨an, cn, ak, ck, at', ct, _, _, e, _⟩ := tst_form h
  exact ⟨an, cn, ak, ck, at', ct, e⟩
/-- A row of actions does not lie in a course's box. -/
theorem acts_apart {w : World} {b n k : Nat} {x : Option Addr} {f er : Int} {q : Bool} {t : TypeId} {fr : Nat × Nat} {v : Value} {l : List Atn} (hb : w.heap[b]? = some (.cells #[.slice x n k, .int .i64 f, .bool q, .int .i64 er] t fr)) (h : AtnsM anyB w v l) : AtnsM (fun p => p ≠ b) w v l := by
  obtain ⟨a, c, hv, hm, hr⟩ := h
  refine ⟨a, c, hv, hm, fun i y hy => ?_⟩
  obtain ⟨p, o, cs, h1, h2, _, h4, h5, h6⟩ := hr i y hy
  refine ⟨p, o, cs, h1, h2, fun hpb => ?_, h4, h5, h6⟩
  rw [hpb] at h5
  have h7 := h5 1 (.string (S y.text)) (by rw [show cs = _ from h6]; rfl)
  simp only [World.cell?, hb] at h7
  rw [List.getElem?_toArray] at h7
  have hj : ∀ j : Nat, ([.slice x n k, .int .i64 f, .bool q, .int .i64 er] : List Value)[j]? ≠ some (.string (S y.text)) := by
    intro j
    match j with
    | 0 | 1 | 2 | 3 => simp
    | j + 4 => simp
  exact hj _ h7
theorem set4 {w : World} {b : Nat} {v0 v1 v2 v3 u0 u1 u2 u3 : Value} {t : TypeId} (h : w.heap[b]? = some (.cells #[v0, v1, v2, v3] t)) :
    ((((w.setCell ⟨b, 0, none⟩ u0).setCell ⟨b, 1, none⟩ u1).setCell ⟨b, 2, none⟩ u2).setCell ⟨b, 3, none⟩ u3).heap[b]? = some (.cells #[u0, u1, u2, u3] t) := by
  have h1 := heap_setCell_same w b 0 _ t u0 h
  have h2 := heap_setCell_same _ b 1 _ t u1 h1
  have h3 := heap_setCell_same _ b 2 _ t u2 h2
  have h4 := heap_setCell_same _ b 3 _ t u3 h3
  simpa using h4
theorem acts_set {w : World} {b : Nat} {u0 u1 u2 u3 v : Value} {l : List Atn} (h : AtnsM (fun p => p ≠ b) w v l) : AtnsM anyB ((((w.setCell ⟨b, 0, none⟩ u0).setCell ⟨b, 1, none⟩ u1).setCell ⟨b, 2, none⟩ u2).setCell ⟨b, 3, none⟩ u3) v l :=
  RowM.imp h (fun _ _ => trivial) ((((Keeps.set (p := ⟨b, 0, none⟩) w u0 (fun _ h => h)).trans (Keeps.set (p := ⟨b, 1, none⟩) _ u1 (fun _ h => h))).trans (Keeps.set (p := ⟨b, 2, none⟩) _ u2 (fun _ h => h))).trans (Keeps.set (p := ⟨b, 3, none⟩) _ u3 (fun _ h => h))) fun _ _ h => h
theorem far4 {w : World} {P Q j : Nat} {u0 u1 u2 u3 v : Value} (h : Q ≠ P) (m : w.cell? ⟨Q, j, none⟩ = some v) :
    ((((w.setCell ⟨P, 0, none⟩ u0).setCell ⟨P, 1, none⟩ u1).setCell ⟨P, 2, none⟩ u2).setCell ⟨P, 3, none⟩ u3).cell? ⟨Q, j, none⟩ = some v :=
  cell_far' (cell_far' (cell_far' (cell_far' m h) h) h) h
/-- A course in a box. -/
def CBox (W : World) (cc : Crs) (p e : Value) (wx : World) : Prop := ∃ (P : Nat) (a3 : Option Addr) (k3 : Nat), p = .pointer (some ⟨P, 0, none⟩) ∧ e = .int .i64 0 ∧ wx.heap[P]? = some (.cells #[.slice a3 cc.acts.length k3, .int .i64 cc.flags, .bool cc.asked, .int .i64 cc.fault] 53) ∧ AtnsM anyB wx (.slice a3 cc.acts.length k3) cc.acts ∧ Below W.heap.size W wx
theorem CBox.old {W w3 : World} {cc : Crs} {P : Nat} {a3 : Option Addr} {k3 : Nat} (hP : W.heap.size ≤ P) (hb : w3.heap[P]? = some (.cells #[.slice none 0 0, .int .i64 0, .bool false, .int .i64 0] 53)) (hA : AtnsM anyB w3 (.slice a3 cc.acts.length k3) cc.acts) (hB : Below W.heap.size W w3) :
    CBox W cc (.pointer (some ⟨P, 0, none⟩)) (.int .i64 0) ((((w3.setCell ⟨P, 0, none⟩ (.slice a3 cc.acts.length k3)).setCell ⟨P, 1, none⟩ (.int .i64 cc.flags)).setCell ⟨P, 2, none⟩ (.bool cc.asked)).setCell ⟨P, 3, none⟩ (.int .i64 cc.fault)) :=
  ⟨P, a3, k3, rfl, rfl, set4 hb, acts_set (acts_apart hb hA), (((hB.setCell hP _).setCell hP _).setCell hP _).setCell hP _⟩
theorem CBox.new {W w3 : World} {cc : Crs} {a3 : Option Addr} {k3 : Nat} (hA : AtnsM anyB w3 (.slice a3 cc.acts.length k3) cc.acts) (hB : Below W.heap.size W w3) :
    CBox W cc (.pointer (some ⟨w3.heap.size, 0, none⟩)) (.int .i64 0) (w3.alloc (.cells #[.slice a3 cc.acts.length k3, .int .i64 cc.flags, .bool cc.asked, .int .i64 cc.fault] 53)) :=
  ⟨w3.heap.size, a3, k3, rfl, rfl, tl_at _ rfl, AtnsM.next hA ((Below.refl _ _).alloc (Nat.le_refl _) _), hB.alloc hB.size _⟩
/-- The law's Require of all. -/
def ReqP (W : World) (e : Ending) (w' : World) : Prop := ∃ v0 v1 v2 v3 v4 v5 v6 v7 v8 v9 v10 v11 : Value, e = .returned (.agg #[v0, v1, v2, v3, v4, v5, v6, v7, v8, v9, v10, v11]) ∧ CmdM (newB W.heap.size) 2 w' reqC [v0, v1, v2, v3, v4, v5, v6, v7, v8, v9, v10, v11] ∧ Below W.heap.size W w'
theorem requires_ok (w : World) : Calls Tryz.prog 16 #[] w (ReqP w) := (requires_any w).mono fun e w' h => by
  obtain ⟨v, rfl, ⟨cs, rfl, hC⟩, hb⟩ := h
  obtain ⟨ax, cx, an, cn, ak, ck, at', ct, aa, ca, ae, ce, m0, _, rfl, _⟩ := cmd_form hC
  exact ⟨_, _, _, _, _, _, _, _, _, _, _, _, rfl, hC, hb⟩
def fileJ : Cmd := ⟨5, [[97]], noneT, [], []⟩
theorem rule_fileJ (n : Nat) : ruleM (n + 1) [fileJ] = 8 := by
  have h : checkM (n + 1) [fileJ] = 0 := by
    rw [checkM_of fun x hx => by simp at hx; rw [hx]; rfl]
    rfl
  unfold ruleM
  rw [if_neg (by rw [h]; simp)]
  rfl
theorem short_file : ∀ x ∈ [fileJ], ShortC 5 x := fun x hx => by
  rw [List.mem_singleton.1 hx]
  exact ⟨(fun h => by cases h), (fun y hy => by cases hy), (fun y hy => by cases hy)⟩
theorem fileJ_row (w : World) : CmdsM anyB 5 ((w.alloc (.cells #[.string ⟨#[97]⟩] 9)).alloc (.cells #[.int .i64 5, .slice (some ⟨w.heap.size, 0, none⟩) 1 1, .int .i64 0, .int .i64 0, .int .i64 0, .slice none 0 0, .slice none 0 0, .bool false, .int .i64 0, .slice none 0 0, .slice none 0 0, .slice none 0 0] 50)) (.slice (some ⟨w.heap.size + 1, 0, none⟩) 1 1) [fileJ] := by
  refine rowM_one (t := 50) (fr := (0, 0)) (cs := [.int .i64 5, .slice (some ⟨w.heap.size, 0, none⟩) 1 1, .int .i64 0, .int .i64 0, .int .i64 0, .slice none 0 0, .slice none 0 0, .bool false, .int .i64 0, .slice none 0 0, .slice none 0 0, .slice none 0 0]) (heap_at _ (by simp)) rfl trivial ?_
  refine ⟨_, _, _, _, _, _, rfl, ?_, none_tst _ _ _, rowM_nil _ _ _ _ _ _, rowM_nil _ _ _ _ _ _⟩
  exact rowM_one (t := 9) (fr := (0, 0)) (cs := [.string (S [97])]) (heap_old _ (heap_at _ rfl)) rfl trivial rfl
end Go.Proofs.YtlcnfpeabnnjoaaGreatDoor
