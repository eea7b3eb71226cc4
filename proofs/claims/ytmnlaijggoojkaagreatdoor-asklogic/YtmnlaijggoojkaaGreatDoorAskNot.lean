/-
  Tests that stand in one another (not, all of, any of), asked of a letter; the law's own Not.
-/
import Derived.Test.YtmnlaijggoojkaaGreatDoorAskLeaf
import Derived.Test.YtmnlaijggoojkaaGreatDoorJudStp
namespace Go.Proofs.YtmnlaijggoojkaaGreatDoor
open Go.RowKit Go.Proofs

def notT (t : Tst) : Tst := ⟨3, 0, 0, [], [], false, 0, [t]⟩
def allT (t u : Tst) : Tst := ⟨4, 0, 0, [], [], false, 0, [t, u]⟩
def anyT (t u : Tst) : Tst := ⟨5, 0, 0, [], [], false, 0, [t, u]⟩
theorem NT.not {t : Tst} (h : NT t) : NT (notT t) := NT.mk rfl rfl (fun _ => rfl) (fun u hu => by simp only [notT, List.mem_singleton] at hu; subst hu; exact h) (fit_one (Or.inl rfl))
theorem NT.two {k : Int} {t u : Tst} (hk : k = 4 ∨ k = 5) (h : NT t) (h' : NT u) : NT ⟨k, 0, 0, [], [], false, 0, [t, u]⟩ :=
  NT.mk rfl rfl (fun _ => rfl) (fun v hv => by
    simp only [List.mem_cons, List.not_mem_nil, or_false] at hv
    rcases hv with rfl | rfl
    · exact h
    · exact h') (fit_tests hk (by simp) (by simp))
theorem tests_nil {Q : Nat → Prop} {w : World} {t : Tst} {cs : List Value} (h : TstM Q 1 w t cs) : t.tests = [] := by
  obtain ⟨_, _, vt, _, _, _, hr⟩ := h
  obtain ⟨_, _, _, _, hrr⟩ := hr
  cases hl : t.tests with
  | nil => rfl
  | cons u r =>
    obtain ⟨_, _, cs', _, _, _, _, _, hP⟩ := hrr 0 u (by rw [hl]; rfl)
    exact hP.elim
theorem leaf_short {Q : Nat → Prop} {w : World} {t : Tst} {cs : List Value} (h : TstM Q 1 w t cs) (hN : NT t) : (testT 1 t).length ≤ 16 := by
  have h1 := leaf_len (tests_nil h)
  have h2 := (hN 1).2.1
  unfold fitH at h2
  simp only [Bool.and_eq_true, decide_eq_true_eq] at h2
  omega
theorem not_len (n : Nat) (t : Tst) : (testT (n + 1) (notT t)).length = (testT n t).length + 1 := by simp [testT, notT]
theorem two_len (n : Nat) (k : Int) (hk : k = 4 ∨ k = 5) (t u : Tst) : (testT (n + 1) ⟨k, 0, 0, [], [], false, 0, [t, u]⟩).length = (testT n t).length + (testT n u).length + 4 := by
  have h3 : ¬ k = 3 := by omega
  rw [testT]
  rw [if_neg h3, if_pos hk]
  simp [sepT]
  omega
theorem tells_not (o : Opn) (n : Nat) (t : Tst) : tellsP o (n + 1) (notT t) = !tellsP o n t := by simp [tellsP, notT]
theorem tells_all (o : Opn) (n : Nat) (t u : Tst) : tellsP o (n + 1) (allT t u) = (tellsP o n t && tellsP o n u) := by simp [tellsP, allT]
theorem tells_or (o : Opn) (n : Nat) (t u : Tst) : tellsP o (n + 1) (anyT t u) = (tellsP o n t || tellsP o n u) := by simp [tellsP, anyT]
/-- A test of any depth that the law has made, asked. -/
theorem ask_nt (M : Nat) (hM : M ≤ 5) (t : Tst) (o : Opn) (ho : Opened o) (an ak at' : Option Addr) (cn ck ct : Nat) (w : World) (hw : Tabs w) (hm : maxLenCell w) (hT : TstM anyB (M + 1) w t [.int .i64 t.kind, .int .i64 t.mat, .int .i64 t.part, .slice an t.names.length cn, .slice ak t.keys.length ck, .bool t.over, .int .i64 t.limit, .slice at' t.tests.length ct]) (hN : NT t) (hl : (testT (M + 1) t).length ≤ 390) :
    Calls Tryz.prog 12 #[.agg #[.int .i64 t.kind, .int .i64 t.mat, .int .i64 t.part, .slice an t.names.length cn, .slice ak t.keys.length ck, .bool t.over, .int .i64 t.limit, .slice at' t.tests.length ct], .agg #[.string (S o.fl), .string (S o.fd), .string (S o.tl), .string (S o.td), .string (S o.tx)]] w fun e w' => e = .returned (.tuple #[.bool (tellsP o (M + 1) t), .int .i64 0]) ∧ Below w.heap.size w w' := by
  have hf : faultTst (M + 1) 1 t = 0 := tst_fault (M + 1) (M + 1) 1 t _ hT (hN _).2 (by omega)
  exact Ask_ok M t o an ak at' cn ck ct w hw hm ho hT (rule_ask (hN _).1 hf hl) (good_of (M + 1) 1 t hf)
/-- A test in a box of its own, in a row of one. -/
theorem not_mem {w : World} {n p : Nat} {t : Tst} {cs : List Value} {ty : TypeId} {fr : Nat × Nat} (hp : w.heap[p]? = some (.cells cs.toArray ty fr)) (h : TstM anyB n w t cs) : TstM anyB (n + 1) w (notT t) [.int .i64 3, .int .i64 0, .int .i64 0, .slice none 0 0, .slice none 0 0, .bool false, .int .i64 0, .slice (some ⟨p, 0, none⟩) 1 1] := by
  refine ⟨_, _, _, rfl, rowM_nil _ _ _ _ _ _, rowM_nil _ _ _ _ _ _, ?_⟩
  refine rowM_one hp ?_ trivial h
  obtain ⟨_, _, _, _, _, _, m, _, e, _⟩ := tst_form h
  rw [e]
  rfl
theorem rowM_two {A : Type} {Q : Nat → Prop} {k : Nat} {P : A → List Value → Prop} {w : World} {p : Nat} {cs ds : List Value} {t : TypeId} {fr : Nat × Nat} {x y : A} (h : w.heap[p]? = some (.cells (cs ++ ds).toArray t fr)) (h1 : cs.length = k) (h2 : ds.length = k) (hQ : Q p) (hx : P x cs) (hy : P y ds) : RowM Q k P w (.slice (some ⟨p, 0, none⟩) 2 2) [x, y] := by
  have hp : p < w.heap.size := (Array.getElem?_eq_some_iff.1 h).1
  refine ⟨some ⟨p, 0, none⟩, 2, rfl, by unfold maxLen; simp, fun i z hz => ?_⟩
  match i, hz with
  | 0, hz =>
    simp at hz
    subst hz
    refine ⟨p, 0, cs, rfl, hp, hQ, h1, fun j u hj => ?_, hx⟩
    have hj' : j < cs.length := (List.getElem?_eq_some_iff.1 hj).1
    simp only [World.cell?, h]
    rw [Nat.zero_add, Nat.zero_mul, Nat.zero_add, List.getElem?_toArray, List.getElem?_append_left hj']
    exact hj
  | 1, hz =>
    simp at hz
    subst hz
    refine ⟨p, 0, ds, rfl, hp, hQ, h2, fun j u hj => ?_, hy⟩
    simp only [World.cell?, h]
    rw [Nat.zero_add, Nat.one_mul, List.getElem?_toArray, List.getElem?_append_right (by omega), h1, Nat.add_sub_cancel_left]
    exact hj
theorem two_mem {w : World} {n p : Nat} {k : Int} {t u : Tst} {cs ds : List Value} {ty : TypeId} {fr : Nat × Nat} (hp : w.heap[p]? = some (.cells (cs ++ ds).toArray ty fr)) (h : TstM anyB n w t cs) (h' : TstM anyB n w u ds) : TstM anyB (n + 1) w ⟨k, 0, 0, [], [], false, 0, [t, u]⟩ [.int .i64 k, .int .i64 0, .int .i64 0, .slice none 0 0, .slice none 0 0, .bool false, .int .i64 0, .slice (some ⟨p, 0, none⟩) 2 2] := by
  refine ⟨_, _, _, rfl, rowM_nil _ _ _ _ _ _, rowM_nil _ _ _ _ _ _, ?_⟩
  refine rowM_two hp ?_ ?_ trivial h h'
  · obtain ⟨_, _, _, _, _, _, m, _, e, _⟩ := tst_form h
    rw [e]
    rfl
  · obtain ⟨_, _, _, _, _, _, m, _, e, _⟩ := tst_form h'
    rw [e]
    rfl
def NotP (W : World) (n : Nat) (t : Tst) (e : Ending) (w' : World) : Prop := ∃ p : Nat, e = .returned (.agg #[.int .i64 3, .int .i64 0, .int .i64 0, .slice none 0 0, .slice none 0 0, .bool false, .int .i64 0, .slice (some ⟨p, 0, none⟩) 1 1]) ∧ TstM anyB (n + 1) w' (notT t) [.int .i64 3, .int .i64 0, .int .i64 0, .slice none 0 0, .slice none 0 0, .bool false, .int .i64 0, .slice (some ⟨p, 0, none⟩) 1 1] ∧ Below W.heap.size W w'
set_option maxHeartbeats 1000000 in
set_option maxRecDepth 100000 in
theorem not_any (w : World) (n : Nat) (t : Tst) (v0 v1 v2 v3 v4 v5 v6 v7 : Value) (h : TstM anyB n w t [v0, v1, v2, v3, v4, v5, v6, v7]) :
    Calls Tryz.prog 11 #[.agg #[v0, v1, v2, v3, v4, v5, v6, v7]] w (NotP w n t) := by
  have HT := hid h
  clear h
  go_enter Tryz.func11, Tryz.ntmps11
  go_wp2
  refine bodyPost_ret (v := .agg #[.int .i64 3, .int .i64 0, .int .i64 0, .slice none 0 0, .slice none 0 0, .bool false, .int .i64 0, .slice (some ⟨w.heap.size + 1 + 1, 0, none⟩) 1 1]) (by simp [results, Tryz.results11, go_sem, *]) rfl ?_
  have hb : Below w.heap.size w _ := (((Below.refl w.heap.size w).alloc (Nat.le_refl _) (.cells #[v0, v1, v2, v3, v4, v5, v6, v7] 39)).alloc (by simp) (.cells #[.int .i64 3, .int .i64 0, .int .i64 0, .slice none 0 0, .slice none 0 0, .bool false, .int .i64 0, .slice (some ⟨w.heap.size + 1 + 1, 0, none⟩) 1 1] 39)).alloc (by simp; omega) (.cells #[v0, v1, v2, v3, v4, v5, v6, v7] 39)
  exact ⟨_, rfl, not_mem (cs := [v0, v1, v2, v3, v4, v5, v6, v7]) (heap_at _ (by simp)) (TstM.next HT.out hb), hb⟩
end Go.Proofs.YtmnlaijggoojkaaGreatDoor
