/-
  What the laws' maker of commands does: the walk.
  What the laws' maker of tests does, where it compares: the walks.
-/
import Derived.Test.YthikilhhmianlaaGreatDoorMkTest
import Derived.Test.YthikilhhmianlaaGreatDoorScrCk
namespace Go.Proofs.YthikilhhmianlaaGreatDoor
open Go.RowKit Go.Proofs
def NC (c : Cmd) : Prop := ∀ n, jbz n c ∧ FitC n c
theorem NC.mk {c : Cmd} (h1 : c.kind ≠ 1) (h2 : c.kind = 5 → jas (c.texts.getD 0 []) = 0) (h3 : c.kind = 8 ∨ c.kind = 9 → qk c.texts ≠ none) (h4 : c.kind = 6 → jap (c.texts.getD 0 []) = 0) (h5 : ∀ n, jeq n c.test) (h6 : ∀ x ∈ c.thn, NC x) (h7 : ∀ x ∈ c.els, NC x) (hf : jeo c = true) (hf2 : c.kind = 2 → NT c.test) : NC c := by
  intro n; cases n with
  | zero => exact ⟨trivial, trivial⟩
  | succ n => exact ⟨⟨h1, h2, h3, h4, h5 n, fun u hu => (h6 u hu n).1, fun u hu => (h7 u hu n).1⟩, hf, fun h => (hf2 h n).2, fun u hu => (h6 u hu n).2, fun u hu => (h7 u hu n).2⟩
theorem NT.none : ∀ n, jeq n jG := by
  intro n; cases n with
  | zero => trivial
  | succ n => exact ⟨rfl, rfl, (fun h => by cases h), fun u hu => by cases hu⟩
def CmdP (m : Nat) (w : World) (e : Ending) (w' : World) : Prop := ∃ (c : Cmd) (cs' : List Value), e = .returned (.agg cs'.toArray) ∧ CmdM (newB' w.heap.size) m w' c cs' ∧ NC c ∧ Below w.heap.size w w'
def CmdQ (m : Nat) (w : World) (e : Ending) (w' : World) : Prop := ∃ (c : Cmd) (cs' : List Value), e = .returned (.agg cs'.toArray) ∧ CmdM (newB' w.heap.size) m w' c cs' ∧ (NC c ∧ c.kind ≠ 2) ∧ Below w.heap.size w w'
theorem CmdQ.p {m : Nat} {w w' : World} {e : Ending} (h : CmdQ m w e w') : CmdP m w e w' := by
  obtain ⟨c, cs, h1, h2, h3, h4⟩ := h; exact ⟨c, cs, h1, h2, h3.1, h4⟩
def CmdC (d m : Nat) : Prop := ∀ (n : Nat) (x : Stk) (cs : List Value) (w : World), StkM n w x cs →
    Calls Tryz.prog 24 #[.agg cs.toArray, .int .i64 d] w (CmdP m w)
def jff (d m : Nat) : Prop := ∀ (n : Nat) (l : List Stk) (a : Option Addr) (c : Nat) (w : World), SticksM n w (.slice a l.length c) l →
    Calls Tryz.prog 10 #[.slice a l.length c, .int .i64 d] w fun e w' => ∃ (L : List Cmd) (a' : Option Addr) (c' : Nat), e = .returned (.slice a' L.length c') ∧ CmdsM (newB' w.heap.size) m w' (.slice a' L.length c') L ∧ (∀ x ∈ L, NC x) ∧ L.length ≤ 4 ∧ (L = [] → a' = none ∧ c' = 0) ∧ Below w.heap.size w w'
theorem jgP (Q : Nat → Prop) (n : Nat) (w : World) : TstM Q (n + 1) w jG [.int .i64 0, .int .i64 0, .int .i64 0, .slice none 0 0, .slice none 0 0, .bool false, .int .i64 0, .slice none 0 0] := ⟨_, _, _, rfl, jg _ _ _ _ _ _, jg _ _ _ _ _ _, jg _ _ _ _ _ _⟩
theorem CmdP.texts {m : Nat} {w w' : World} {e : Ending} (k : Int) (ts : List (List UInt8)) (v : Value) (he : e = .returned (.agg #[.int .i64 k, v, .int .i64 0, .int .i64 0, .int .i64 0, .slice none 0 0, .slice none 0 0, .bool false, .int .i64 0, .slice none 0 0, .slice none 0 0, .slice none 0 0]))
    (hv : TxtsM (newB' w.heap.size) w' v ts) (h1 : k ≠ 1) (h2 : k = 5 → jas (ts.getD 0 []) = 0) (h3 : k = 8 ∨ k = 9 → qk ts ≠ none) (h4 : k = 6 → jap (ts.getD 0 []) = 0) (hf : jeo ⟨k, ts, jG, [], []⟩ = true) (h2' : k ≠ 2) (hb : Below w.heap.size w w') : CmdQ (m + 2) w e w' :=
  ⟨⟨k, ts, jG, [], []⟩, _, he, ⟨_, _, _, _, _, _, rfl, hv, jgP _ _ _, jg _ _ _ _ _ _, jg _ _ _ _ _ _⟩, ⟨NC.mk h1 h2 h3 h4 NT.none (fun u hu => by cases hu) (fun u hu => by cases hu) hf (fun h => absurd h h2'), h2'⟩, hb⟩
theorem jkE {pb : Nat} (h : pb < 4) : ∃ nm : List UInt8, (∀ h, ([Value.string { data := #[73, 78, 66, 79, 88] }, Value.string { data := #[119, 111, 114, 107] }, Value.string { data := #[106, 117, 110, 107] }, Value.string { data := #[110, 101, 119] }] : List Value)[pb]'h = .string (S nm)) ∧ jas nm = 0 := by
  match pb, h with
  | 0, _ => exact ⟨[73, 78, 66, 79, 88], fun _ => rfl, by decide⟩
  | 1, _ => exact ⟨[119, 111, 114, 107], fun _ => rfl, by decide⟩
  | 2, _ => exact ⟨[106, 117, 110, 107], fun _ => rfl, by decide⟩
  | 3, _ => exact ⟨[110, 101, 119], fun _ => rfl, by decide⟩
theorem jkH {pb : Nat} (h : pb < 3) : ∃ nm : List UInt8, (∀ h, ([Value.string { data := #[97, 64, 98, 46, 99] }, Value.string { data := #[65, 110, 110, 32, 60, 97, 110, 110, 64, 120, 46, 121, 62] }, Value.string { data := #[98, 64, 99] }] : List Value)[pb]'h = .string (S nm)) ∧ jap nm = 0 := by
  match pb, h with
  | 0, _ => exact ⟨[97, 64, 98, 46, 99], fun _ => rfl, by decide +kernel⟩
  | 1, _ => exact ⟨[65, 110, 110, 32, 60, 97, 110, 110, 64, 120, 46, 121, 62], fun _ => rfl, by decide +kernel⟩
  | 2, _ => exact ⟨[98, 64, 99], fun _ => rfl, by decide +kernel⟩
theorem jau {p k : Nat} (h : p < 12) (hk : ([3, 2, 5, 2, 6, 2, 4, 8, 9, 7, 10, 2] : List Nat)[p]? = some k) : ∀ h, ([Value.int .i64 3, .int .i64 2, .int .i64 5, .int .i64 2, .int .i64 6, .int .i64 2, .int .i64 4, .int .i64 8, .int .i64 9, .int .i64 7, .int .i64 10, .int .i64 2] : List Value)[p]'h = .int .i64 (k : Nat) := by
  intro h'
  match p, h with
  | 0, _ | 1, _ | 2, _ | 3, _ | 4, _ | 5, _ | 6, _ | 7, _ | 8, _ | 9, _ | 10, _ | 11, _ => simp at hk; subst hk; rfl
theorem jar {w : World} {b : Nat} {v0 v1 v2 v3 v4 v5 v6 v7 v8 v9 v10 v11 : Value} {t : TypeId} (h : w.heap[b]? = some (.cells #[v0, v1, v2, v3, v4, v5, v6, v7, v8, v9, v10, v11] t)) :
    w.cell? ⟨b, 0, none⟩ = some v0 ∧ w.cell? ⟨b, 1, none⟩ = some v1 ∧ w.cell? ⟨b, 2, none⟩ = some v2 ∧ w.cell? ⟨b, 3, none⟩ = some v3 ∧ w.cell? ⟨b, 4, none⟩ = some v4 ∧ w.cell? ⟨b, 5, none⟩ = some v5 ∧ w.cell? ⟨b, 6, none⟩ = some v6 ∧ w.cell? ⟨b, 7, none⟩ = some v7 ∧ w.cell? ⟨b, 8, none⟩ = some v8 ∧ w.cell? ⟨b, 9, none⟩ = some v9 ∧ w.cell? ⟨b, 10, none⟩ = some v10 ∧ w.cell? ⟨b, 11, none⟩ = some v11 ∧
    w.frozen? ⟨b, 0, none⟩ = false ∧ w.frozen? ⟨b, 1, none⟩ = false ∧ w.frozen? ⟨b, 2, none⟩ = false ∧ w.frozen? ⟨b, 3, none⟩ = false ∧ w.frozen? ⟨b, 4, none⟩ = false ∧ w.frozen? ⟨b, 5, none⟩ = false ∧ w.frozen? ⟨b, 6, none⟩ = false ∧ w.frozen? ⟨b, 7, none⟩ = false ∧ w.frozen? ⟨b, 8, none⟩ = false ∧ w.frozen? ⟨b, 9, none⟩ = false ∧ w.frozen? ⟨b, 10, none⟩ = false ∧ w.frozen? ⟨b, 11, none⟩ = false :=
  ⟨jM h rfl, jM h rfl, jM h rfl, jM h rfl, jM h rfl, jM h rfl, jM h rfl, jM h rfl, jM h rfl, jM h rfl, jM h rfl, jM h rfl, jX h 0, jX h 1, jX h 2, jX h 3, jX h 4, jX h 5, jX h 6, jX h 7, jX h 8, jX h 9, jX h 10, jX h 11⟩
theorem jdy {w : World} {p : Addr} {v : Value} (h : w.cell? p = some v) : w.drew.cell? p = some v := h
theorem CmdQ.drew {m : Nat} {w w' : World} {e : Ending} (h : CmdQ m w e w') : CmdQ m w e w'.drew := by
  obtain ⟨c, cs, h1, h2, h3, h4⟩ := h; exact ⟨c, cs, h1, CmdM.imp (fun _ h => h) (show Keeps _ w' w'.drew from ⟨Nat.le_refl _, fun _ _ _ => rfl⟩) _ _ _ h2, h3, h4.drew⟩
theorem CmdP.fin {m : Nat} {w W1 : World} {e : Ending} {c : Cmd} {cs : List Value} (hT : CmdM (fun b => w.heap.size + 1 < b) m W1 c cs) (hN : NC c) (hB : Below w.heap.size w W1) (he : e = .returned (.agg cs.toArray)) : CmdP m w e (setAll W1 (w.heap.size + 1) 0 cs) :=
  ⟨c, cs, he, CmdM.imp (fun b hb => show w.heap.size ≤ b by have : w.heap.size + 1 < b := hb; omega) (ji (fun k (hk : w.heap.size + 1 < k) => by omega) cs 0 W1 W1 (Keeps.refl _ _)) _ _ _ hT, hN, jh (by omega) cs 0 W1 w hB⟩
theorem CmdP.fin12 {m : Nat} {w W1 : World} {e : Ending} {c : Cmd} {v0 v1 v2 v3 v4 v5 v6 v7 v8 v9 v10 v11 : Value} (hT : CmdM (fun b => w.heap.size + 1 < b) m W1 c [v0, v1, v2, v3, v4, v5, v6, v7, v8, v9, v10, v11]) (hN : NC c) (hB : Below w.heap.size w W1) (he : e = .returned (.agg #[v0, v1, v2, v3, v4, v5, v6, v7, v8, v9, v10, v11])) : CmdP m w e (setAll W1 (w.heap.size + 1) 0 [v0, v1, v2, v3, v4, v5, v6, v7, v8, v9, v10, v11]) := CmdP.fin hT hN hB he
def ji7 : Array Value := #[.string ⟨#[92, 83, 101, 101, 110]⟩, .string ⟨#[92, 68, 114, 97, 102, 116]⟩, .string ⟨#[92, 70, 108, 97, 103, 103, 101, 100]⟩]
theorem ji0 {Q : Nat → Prop} {w : World} {b pa : Nat} (h : w.heap[b]? = some (.cells ji7 9)) (hp : pa < 3) (hQ : Q b) (c : Nat) : ∃ f : List UInt8, TxtsM Q w (.slice (some ⟨b, pa, none⟩) 1 c) [f] ∧ qk [f] ≠ none := by
  have go : ∀ f : List UInt8, ji7[pa]? = some (.string (S f)) → TxtsM Q w (.slice (some ⟨b, pa, none⟩) 1 c) [f] := by
    intro f hf; refine ⟨_, c, rfl, by unfold maxLen; simp, fun i x hx => ?_⟩; cases i with
    | succ i => simp at hx
    | zero =>
      simp at hx
      subst hx; refine ⟨b, pa, [.string (S f)], rfl, (Array.getElem?_eq_some_iff.1 h).1, hQ, rfl, fun j u hj => ?_, rfl⟩; cases j with
      | succ j => simp at hj
      | zero => simp at hj; subst hj; simpa using jM h hf
  match pa, hp with
  | 0, _ => exact ⟨[92, 83, 101, 101, 110], go _ rfl, by decide⟩
  | 1, _ => exact ⟨[92, 68, 114, 97, 102, 116], go _ rfl, by decide⟩
  | 2, _ => exact ⟨[92, 70, 108, 97, 103, 103, 101, 100], go _ rfl, by decide⟩
theorem vi {n : Nat} {w w' : World} {v : Value} {l : List Cmd} {Q Q1 Q2 : Nat → Prop} (hq : ∀ k, Q k → Q1 k) (hQ : ∀ k, Q1 k → Q2 k) (hk : Keeps Q1 w w') (h : CmdsM Q n w v l) : CmdsM Q2 n w' v l :=
  RowM.imp (RowM.imp h hq (Keeps.refl _ _) fun _ _ h => CmdM.imp hq (Keeps.refl _ _) _ _ _ h) hQ hk fun _ _ h => CmdM.imp hQ hk _ _ _ h
theorem CmdP.flag {m : Nat} {w W : World} {e : Ending} (k : Int) (pa c : Nat) (he : e = .returned (.agg #[.int .i64 k, .slice (some ⟨W.heap.size, pa, none⟩) 1 c, .int .i64 0, .int .i64 0, .int .i64 0, .slice none 0 0, .slice none 0 0, .bool false, .int .i64 0, .slice none 0 0, .slice none 0 0, .slice none 0 0]))
    (hp : pa < 3) (hk : k = 8 ∨ k = 9) (hB : Below w.heap.size w W) (hs : w.heap.size + 4 ≤ W.heap.size) :
    CmdQ (m + 2) w e ((setAll (W.setCell ⟨w.heap.size + 1 + 1 + 1, 1, none⟩ (.slice (some ⟨W.heap.size, pa, none⟩) 1 c)) (w.heap.size + 1) 0 [.int .i64 k, .slice (some ⟨W.heap.size, pa, none⟩) 1 c, .int .i64 0, .int .i64 0, .int .i64 0, .slice none 0 0, .slice none 0 0, .bool false, .int .i64 0, .slice none 0 0, .slice none 0 0, .slice none 0 0]).alloc (.cells ji7 9)) := by
  have hz : (setAll (W.setCell ⟨w.heap.size + 1 + 1 + 1, 1, none⟩ (.slice (some ⟨W.heap.size, pa, none⟩) 1 c)) (w.heap.size + 1) 0 [.int .i64 k, .slice (some ⟨W.heap.size, pa, none⟩) 1 c, .int .i64 0, .int .i64 0, .int .i64 0, .slice none 0 0, .slice none 0 0, .bool false, .int .i64 0, .slice none 0 0, .slice none 0 0, .slice none 0 0]).heap.size = W.heap.size := by rw [jR]; simp [World.setCell]
  obtain ⟨f, hf, hfl⟩ := ji0 (Q := newB' w.heap.size) (jA (w := setAll (W.setCell ⟨w.heap.size + 1 + 1 + 1, 1, none⟩ (.slice (some ⟨W.heap.size, pa, none⟩) 1 c)) (w.heap.size + 1) 0 [.int .i64 k, .slice (some ⟨W.heap.size, pa, none⟩) 1 c, .int .i64 0, .int .i64 0, .int .i64 0, .slice none 0 0, .slice none 0 0, .bool false, .int .i64 0, .slice none 0 0, .slice none 0 0, .slice none 0 0]) (.cells ji7 9) hz.symm) hp (show w.heap.size ≤ W.heap.size by omega) c; refine CmdP.texts k [f] _ he hf (by omega) (fun h => by omega) (fun _ => hfl) (fun h => by omega) (by rcases hk with rfl | rfl <;> rfl) (by omega) ?_; exact (jh (by omega) _ 0 _ w (hB.setCell (by simp; omega) _)).alloc (by rw [hz]; omega) _
set_option maxHeartbeats 8000000 in
set_option maxRecDepth 100000 in
theorem jjI (d m n : Nat) (x : Stk) (cs : List Value) (w : World) (h : StkM (n + 1) w x cs) (hp : ([3, 2, 5, 2, 6, 2, 4, 8, 9, 7, 10, 2] : List Nat)[jL x.kind 12]? = some 3) :
    Calls Tryz.prog 24 #[.agg cs.toArray, .int .i64 d] w (CmdQ (m + 2) w) := by
  obtain ⟨ai, ci, rfl, wk, wa, wb, ls, lt, hic, hcm, hR⟩ := h; have hpl := jI x.kind 12 (by omega); have hkk := jau hpl hp; clear hp; clear hR; go_enter Tryz.func24, Tryz.ntmps24; go_wp2_with fail; refine (jk x.kind 12 _ wk (by omega) (by omega)).mono ?_; rintro e w1 ⟨rfl, rfl⟩; generalize jL x.kind 12 = p at *; have hp12 : (p : Int) < 12 := by omega
  have hp0 : (0 : Int) ≤ (p : Int) := by omega
  go_wp2; refine bodyPost_ret (v := .agg #[.int .i64 3, .slice none 0 0, .int .i64 0, .int .i64 0, .int .i64 0, .slice none 0 0, .slice none 0 0, .bool false, .int .i64 0, .slice none 0 0, .slice none 0 0, .slice none 0 0]) (by simp [results, Tryz.results24, go_sem]) rfl ?_; exact CmdP.texts 3 [] _ rfl (jg _ _ _ _ _ _) (by decide) (fun h => by omega) (fun h => by omega) (fun h => by omega) rfl (by decide) (((((Below.refl _ _).alloc (Nat.le_refl _) _).alloc (by simp) _).alloc (by simp; omega) _).alloc (by simp; omega) _)
set_option maxHeartbeats 8000000 in
set_option maxRecDepth 100000 in
theorem jeC (d m n : Nat) (x : Stk) (cs : List Value) (w : World) (h : StkM (n + 1) w x cs) (hp : ([3, 2, 5, 2, 6, 2, 4, 8, 9, 7, 10, 2] : List Nat)[jL x.kind 12]? = some 4) :
    Calls Tryz.prog 24 #[.agg cs.toArray, .int .i64 d] w (CmdQ (m + 2) w) := by
  obtain ⟨ai, ci, rfl, wk, wa, wb, ls, lt, hic, hcm, hR⟩ := h; have hpl := jI x.kind 12 (by omega); have hkk := jau hpl hp; clear hp; clear hR; go_enter Tryz.func24, Tryz.ntmps24; go_wp2_with fail; refine (jk x.kind 12 _ wk (by omega) (by omega)).mono ?_; rintro e w1 ⟨rfl, rfl⟩; generalize jL x.kind 12 = p at *; have hp12 : (p : Int) < 12 := by omega
  have hp0 : (0 : Int) ≤ (p : Int) := by omega
  go_wp2; refine bodyPost_ret (v := .agg #[.int .i64 4, .slice none 0 0, .int .i64 0, .int .i64 0, .int .i64 0, .slice none 0 0, .slice none 0 0, .bool false, .int .i64 0, .slice none 0 0, .slice none 0 0, .slice none 0 0]) (by simp [results, Tryz.results24, go_sem]) rfl ?_; exact CmdP.texts 4 [] _ rfl (jg _ _ _ _ _ _) (by decide) (fun h => by omega) (fun h => by omega) (fun h => by omega) rfl (by decide) (((((Below.refl _ _).alloc (Nat.le_refl _) _).alloc (by simp) _).alloc (by simp; omega) _).alloc (by simp; omega) _)
set_option maxHeartbeats 8000000 in
set_option maxRecDepth 100000 in
theorem jjq (d m n : Nat) (x : Stk) (cs : List Value) (w : World) (h : StkM (n + 1) w x cs) (hp : ([3, 2, 5, 2, 6, 2, 4, 8, 9, 7, 10, 2] : List Nat)[jL x.kind 12]? = some 10) :
    Calls Tryz.prog 24 #[.agg cs.toArray, .int .i64 d] w (CmdQ (m + 2) w) := by
  obtain ⟨ai, ci, rfl, wk, wa, wb, ls, lt, hic, hcm, hR⟩ := h; have hpl := jI x.kind 12 (by omega); have hkk := jau hpl hp; clear hp; clear hR; go_enter Tryz.func24, Tryz.ntmps24; go_wp2_with fail; refine (jk x.kind 12 _ wk (by omega) (by omega)).mono ?_; rintro e w1 ⟨rfl, rfl⟩; generalize jL x.kind 12 = p at *; have hp12 : (p : Int) < 12 := by omega
  have hp0 : (0 : Int) ≤ (p : Int) := by omega
  go_wp2; refine bodyPost_ret (v := .agg #[.int .i64 10, .slice none 0 0, .int .i64 0, .int .i64 0, .int .i64 0, .slice none 0 0, .slice none 0 0, .bool false, .int .i64 0, .slice none 0 0, .slice none 0 0, .slice none 0 0]) (by simp [results, Tryz.results24, go_sem]) rfl ?_; exact CmdP.texts 10 [] _ rfl (jg _ _ _ _ _ _) (by decide) (fun h => by omega) (fun h => by omega) (fun h => by omega) rfl (by decide) (((((Below.refl _ _).alloc (Nat.le_refl _) _).alloc (by simp) _).alloc (by simp; omega) _).alloc (by simp; omega) _)
set_option maxHeartbeats 8000000 in
set_option maxRecDepth 100000 in
theorem jjg (d m n : Nat) (x : Stk) (cs : List Value) (w : World) (h : StkM (n + 1) w x cs) (hp : ([3, 2, 5, 2, 6, 2, 4, 8, 9, 7, 10, 2] : List Nat)[jL x.kind 12]? = some 2) (hd : ¬ d < 2) :
    Calls Tryz.prog 24 #[.agg cs.toArray, .int .i64 d] w (CmdQ (m + 2) w) := by
  obtain ⟨ai, ci, rfl, wk, wa, wb, ls, lt, hic, hcm, hR⟩ := h; have hpl := jI x.kind 12 (by omega); have hkk := jau hpl hp; clear hp; clear hR; go_enter Tryz.func24, Tryz.ntmps24; go_wp2_with fail; refine (jk x.kind 12 _ wk (by omega) (by omega)).mono ?_; rintro e w1 ⟨rfl, rfl⟩; generalize jL x.kind 12 = p at *; have hp12 : (p : Int) < 12 := by omega
  have hp0 : (0 : Int) ≤ (p : Int) := by omega
  go_wp2; refine bodyPost_ret (v := .agg #[.int .i64 3, .slice none 0 0, .int .i64 0, .int .i64 0, .int .i64 0, .slice none 0 0, .slice none 0 0, .bool false, .int .i64 0, .slice none 0 0, .slice none 0 0, .slice none 0 0]) (by simp [results, Tryz.results24, go_sem]) rfl ?_; exact CmdP.texts 3 [] _ rfl (jg _ _ _ _ _ _) (by decide) (fun h => by omega) (fun h => by omega) (fun h => by omega) rfl (by decide) (((((Below.refl _ _).alloc (Nat.le_refl _) _).alloc (by simp) _).alloc (by simp; omega) _).alloc (by simp; omega) _)
set_option maxHeartbeats 8000000 in
set_option maxRecDepth 100000 in
theorem jiO (d m n : Nat) (x : Stk) (cs : List Value) (w : World) (h : StkM (n + 1) w x cs) (hp : ([3, 2, 5, 2, 6, 2, 4, 8, 9, 7, 10, 2] : List Nat)[jL x.kind 12]? = some 5) :
    Calls Tryz.prog 24 #[.agg cs.toArray, .int .i64 d] w (CmdQ (m + 2) w) := by
  obtain ⟨ai, ci, rfl, wk, wa, wb, ls, lt, hic, hcm, hR⟩ := h; have hpl := jI x.kind 12 (by omega); have hkk := jau hpl hp; clear hp; clear hR; go_enter Tryz.func24, Tryz.ntmps24; go_wp2_with fail; refine (jk x.kind 12 _ wk (by omega) (by omega)).mono ?_; rintro e w1 ⟨rfl, rfl⟩; generalize jL x.kind 12 = p at *; have hp12 : (p : Int) < 12 := by omega
  have hp0 : (0 : Int) ≤ (p : Int) := by omega
  go_wp2_with fail; refine (jk x.a 4 _ wa (by omega) (by omega)).mono ?_; rintro e w1 ⟨rfl, rfl⟩; have hpa := jI x.a 4 (by omega); generalize jL x.a 4 = pa at *; obtain ⟨nm, hnm, hnl⟩ := jkE hpa; have hb4 : (pa : Int) < 4 := by omega
  have hb0 : (0 : Int) ≤ (pa : Int) := by omega
  go_wp2; refine bodyPost_ret (v := .agg #[.int .i64 5, .slice (some ⟨w.heap.size + 1 + 1 + 1 + 1 + 1, 0, none⟩) 1 1, .int .i64 0, .int .i64 0, .int .i64 0, .slice none 0 0, .slice none 0 0, .bool false, .int .i64 0, .slice none 0 0, .slice none 0 0, .slice none 0 0]) (by simp [results, Tryz.results24, go_sem]) rfl ?_; refine CmdP.texts 5 [nm] _ rfl ?_ (by decide) (fun h => hnl) (fun h => by omega) (fun h => by omega) rfl (by decide) (((((((Below.refl _ _).alloc (Nat.le_refl _) _).alloc (by simp) _).alloc (by simp; omega) _).alloc (by simp; omega) _).alloc (by simp; omega) _).alloc (by simp; omega) _); exact zr (t := 9) (fr := (0, 0)) (cs := [.string (S nm)]) (jA _ (by simp)) rfl (show w.heap.size ≤ _ by omega) rfl
set_option maxHeartbeats 8000000 in
set_option maxRecDepth 100000 in
theorem jd2 (d m n : Nat) (x : Stk) (cs : List Value) (w : World) (h : StkM (n + 1) w x cs) (hp : ([3, 2, 5, 2, 6, 2, 4, 8, 9, 7, 10, 2] : List Nat)[jL x.kind 12]? = some 6) :
    Calls Tryz.prog 24 #[.agg cs.toArray, .int .i64 d] w (CmdQ (m + 2) w) := by
  obtain ⟨ai, ci, rfl, wk, wa, wb, ls, lt, hic, hcm, hR⟩ := h; have hpl := jI x.kind 12 (by omega); have hkk := jau hpl hp; clear hp; clear hR; go_enter Tryz.func24, Tryz.ntmps24; go_wp2_with fail; refine (jk x.kind 12 _ wk (by omega) (by omega)).mono ?_; rintro e w1 ⟨rfl, rfl⟩; generalize jL x.kind 12 = p at *; have hp12 : (p : Int) < 12 := by omega
  have hp0 : (0 : Int) ≤ (p : Int) := by omega
  go_wp2_with fail; refine (jk x.a 3 _ wa (by omega) (by omega)).mono ?_; rintro e w1 ⟨rfl, rfl⟩; have hpa := jI x.a 3 (by omega); generalize jL x.a 3 = pa at *; obtain ⟨nm, hnm, hnl⟩ := jkH hpa; have hb4 : (pa : Int) < 3 := by omega
  have hb0 : (0 : Int) ≤ (pa : Int) := by omega
  go_wp2; refine bodyPost_ret (v := .agg #[.int .i64 6, .slice (some ⟨w.heap.size + 1 + 1 + 1 + 1 + 1, 0, none⟩) 1 1, .int .i64 0, .int .i64 0, .int .i64 0, .slice none 0 0, .slice none 0 0, .bool false, .int .i64 0, .slice none 0 0, .slice none 0 0, .slice none 0 0]) (by simp [results, Tryz.results24, go_sem]) rfl ?_; refine CmdP.texts 6 [nm] _ rfl ?_ (by decide) (fun h => by omega) (fun h => by omega) (fun h => hnl) rfl (by decide) (((((((Below.refl _ _).alloc (Nat.le_refl _) _).alloc (by simp) _).alloc (by simp; omega) _).alloc (by simp; omega) _).alloc (by simp; omega) _).alloc (by simp; omega) _); exact zr (t := 9) (fr := (0, 0)) (cs := [.string (S nm)]) (jA _ (by simp)) rfl (show w.heap.size ≤ _ by omega) rfl
set_option maxHeartbeats 8000000 in
set_option maxRecDepth 100000 in
theorem jgn (d m n : Nat) (x : Stk) (cs : List Value) (w : World) (h : StkM (n + 1) w x cs) (hp : ([3, 2, 5, 2, 6, 2, 4, 8, 9, 7, 10, 2] : List Nat)[jL x.kind 12]? = some 7) :
    Calls Tryz.prog 24 #[.agg cs.toArray, .int .i64 d] w (CmdQ (m + 2) w) := by
  obtain ⟨ai, ci, rfl, wk, wa, wb, ls, lt, hic, hcm, hR⟩ := h; have hpl := jI x.kind 12 (by omega); have hkk := jau hpl hp; clear hp; clear hR; go_enter Tryz.func24, Tryz.ntmps24; go_wp2_with fail; refine (jk x.kind 12 _ wk (by omega) (by omega)).mono ?_; rintro e w1 ⟨rfl, rfl⟩; generalize jL x.kind 12 = p at *; have hp12 : (p : Int) < 12 := by omega
  have hp0 : (0 : Int) ≤ (p : Int) := by omega
  go_wp2_with fail; refine (qK x.s _ ls).mono ?_; rintro e w1 ⟨rfl, rfl⟩; go_wp2; refine bodyPost_ret (v := .agg #[.int .i64 7, .slice (some ⟨w.heap.size + 1 + 1 + 1 + 1, 0, none⟩) 1 1, .int .i64 0, .int .i64 0, .int .i64 0, .slice none 0 0, .slice none 0 0, .bool false, .int .i64 0, .slice none 0 0, .slice none 0 0, .slice none 0 0]) (by simp [results, Tryz.results24, go_sem]) rfl ?_; refine CmdP.texts 7 [x.s.take 12] _ rfl ?_ (by decide) (fun h => by omega) (fun h => by omega) (fun h => by omega) (by simp [jeo, qa, qz, jG]; omega) (by decide) ((((((Below.refl _ _).alloc (Nat.le_refl _) _).alloc (by simp) _).alloc (by simp; omega) _).alloc (by simp; omega) _).alloc (by simp; omega) _); exact zr (t := 9) (fr := (0, 0)) (cs := [.string (S (x.s.take 12))]) (jA _ (by simp)) rfl (show w.heap.size ≤ _ by omega) rfl
set_option maxHeartbeats 8000000 in
set_option maxRecDepth 100000 in
theorem jeD (d m n : Nat) (x : Stk) (cs : List Value) (w : World) (h : StkM (n + 1) w x cs) (hp : ([3, 2, 5, 2, 6, 2, 4, 8, 9, 7, 10, 2] : List Nat)[jL x.kind 12]? = some 8) :
    Calls Tryz.prog 24 #[.agg cs.toArray, .int .i64 d] w (CmdQ (m + 2) w) := by
  obtain ⟨ai, ci, rfl, wk, wa, wb, ls, lt, hic, hcm, hR⟩ := h; have hpl := jI x.kind 12 (by omega); have hkk := jau hpl hp; clear hp; clear hR; obtain ⟨pa, hpa⟩ : ∃ pa, pa = jL x.a 3 := ⟨_, rfl⟩; have ha3 : pa < 3 := by rw [hpa]; exact jI _ _ (by omega)
  have HPA := hid hpa; have hwp : IntKind.i64.wrap ((pa : Int) + 1) = (pa : Int) + 1 := by rw [IntKind.wrap_i64]; omega
  have j1 : (0 : Int) ≤ (pa : Int) := by omega
  have j2 : (pa : Int) ≤ (pa : Int) + 1 := by omega
  have j3 : (pa : Int) + 1 ≤ 3 := by omega
  have j4 : ((pa : Int) + 1).toNat = pa + 1 := by omega
  have j5 : (0 : Int) ≤ (pa : Int) + 1 := by omega
  have j6 : ¬ 3 - pa = 0 := by omega
  have j7 : ¬ 3 = pa := by omega
  clear hpa; go_enter Tryz.func24, Tryz.ntmps24; go_wp2_with fail; refine (jk x.kind 12 _ wk (by omega) (by omega)).mono ?_; rintro e w1 ⟨rfl, rfl⟩; generalize jL x.kind 12 = p at *; have hp12 : (p : Int) < 12 := by omega
  have hp0 : (0 : Int) ≤ (p : Int) := by omega
  obtain ⟨W, hW⟩ : ∃ W, W = (((w.alloc (.cells #[.int .i64 x.kind, .int .i64 x.a, .int .i64 x.b, .string (S x.s), .string (S x.t), .slice ai x.ins.length ci] 68)).alloc (.cells #[.int .i64 0, .slice none 0 0, .int .i64 0, .int .i64 0, .int .i64 0, .slice none 0 0, .slice none 0 0, .bool false, .int .i64 0, .slice none 0 0, .slice none 0 0, .slice none 0 0] 40)).alloc (.cells #[.int .i64 3, .int .i64 2, .int .i64 5, .int .i64 2, .int .i64 6, .int .i64 2, .int .i64 4, .int .i64 8, .int .i64 9, .int .i64 7, .int .i64 10, .int .i64 2] 3)).alloc (.cells #[.int .i64 8, .slice none 0 0, .int .i64 0, .int .i64 0, .int .i64 0, .slice none 0 0, .slice none 0 0, .bool false, .int .i64 0, .slice none 0 0, .slice none 0 0, .slice none 0 0] 40) := ⟨_, rfl⟩; have HWE := hid hW; have hx := (box6 (show W.heap[w.heap.size]? = some (.cells #[.int .i64 x.kind, .int .i64 x.a, .int .i64 x.b, .string (S x.s), .string (S x.t), .slice ai x.ins.length ci] 68) by rw [hW]; exact jf _ (jf _ (jf _ (jA _ rfl))))).2.1; have hr := (show W.heap[w.heap.size + 1]? = some (.cells #[.int .i64 0, .slice none 0 0, .int .i64 0, .int .i64 0, .int .i64 0, .slice none 0 0, .slice none 0 0, .bool false, .int .i64 0, .slice none 0 0, .slice none 0 0, .slice none 0 0] 40) by rw [hW]; exact jf _ (jf _ (jA _ (by simp)))); have hc := (show W.heap[w.heap.size + 1 + 1 + 1]? = some (.cells #[.int .i64 8, .slice none 0 0, .int .i64 0, .int .i64 0, .int .i64 0, .slice none 0 0, .slice none 0 0, .bool false, .int .i64 0, .slice none 0 0, .slice none 0 0, .slice none 0 0] 40) by rw [hW]; exact jA _ (by simp)); obtain ⟨r0, r1, r2, r3, r4, r5, r6, r7, r8, r9, r10, r11, f0, f1, f2, f3, f4, f5, f6, f7, f8, f9, f10, f11⟩ := jar hr; obtain ⟨c0, c1, c2, c3, c4, c5, c6, c7, c8, c9, c10, c11, g0, g1, g2, g3, g4, g5, g6, g7, g8, g9, g10, g11⟩ := jar hc; have HSZ := hid (show W.heap.size = w.heap.size + 4 by rw [hW]; simp); have HB := hid (show Below w.heap.size w W by rw [hW]; exact ((((Below.refl _ _).alloc (Nat.le_refl _) _).alloc (by simp) _).alloc (by simp; omega) _).alloc (by simp; omega) _); have lt3 : w.heap.size + 1 + 1 + 1 < W.heap.size := by rw [HSZ.out]; omega
  have lt1 : w.heap.size + 1 < W.heap.size := by omega
  have lt0 : w.heap.size < W.heap.size := by omega
  clear hW hr hc; go_wp2; rw [← HWE.out]
  go_region_held3 (fun w' => w'.cell? ⟨w.heap.size, 1, none⟩ = some (.int .i64 x.a)) (first | (go_keep; done) | exact jdy (je (jo hx (by omega))))
    (first
       | (go_at_call 42
          refine (jk x.a 3 _ wa (by decide) (by decide)).mono ?_; rintro e u ⟨rfl, hu⟩; have hu' := hu.symm; subst hu'; rw [← HPA.out]))
  all_goals
    go_wp2; refine bodyPost_ret (v := .agg #[.int .i64 8, .slice (some ⟨W.heap.size, pa, none⟩) 1 (3 - pa), .int .i64 0, .int .i64 0, .int .i64 0, .slice none 0 0, .slice none 0 0, .bool false, .int .i64 0, .slice none 0 0, .slice none 0 0, .slice none 0 0]) (by simp [results, Tryz.results24, go_sem, *]) rfl ?_; exact CmdQ.drew (CmdP.flag 8 pa (3 - pa) rfl ha3 (by decide) HB.out (by have := HSZ.out; omega))
set_option maxHeartbeats 8000000 in
set_option maxRecDepth 100000 in
theorem je6 (d m n : Nat) (x : Stk) (cs : List Value) (w : World) (h : StkM (n + 1) w x cs) (hp : ([3, 2, 5, 2, 6, 2, 4, 8, 9, 7, 10, 2] : List Nat)[jL x.kind 12]? = some 9) :
    Calls Tryz.prog 24 #[.agg cs.toArray, .int .i64 d] w (CmdQ (m + 2) w) := by
  obtain ⟨ai, ci, rfl, wk, wa, wb, ls, lt, hic, hcm, hR⟩ := h; have hpl := jI x.kind 12 (by omega); have hkk := jau hpl hp; clear hp; clear hR; obtain ⟨pa, hpa⟩ : ∃ pa, pa = jL x.a 3 := ⟨_, rfl⟩; have ha3 : pa < 3 := by rw [hpa]; exact jI _ _ (by omega)
  have HPA := hid hpa; have hwp : IntKind.i64.wrap ((pa : Int) + 1) = (pa : Int) + 1 := by rw [IntKind.wrap_i64]; omega
  have j1 : (0 : Int) ≤ (pa : Int) := by omega
  have j2 : (pa : Int) ≤ (pa : Int) + 1 := by omega
  have j3 : (pa : Int) + 1 ≤ 3 := by omega
  have j4 : ((pa : Int) + 1).toNat = pa + 1 := by omega
  have j5 : (0 : Int) ≤ (pa : Int) + 1 := by omega
  have j6 : ¬ 3 - pa = 0 := by omega
  have j7 : ¬ 3 = pa := by omega
  clear hpa; go_enter Tryz.func24, Tryz.ntmps24; go_wp2_with fail; refine (jk x.kind 12 _ wk (by omega) (by omega)).mono ?_; rintro e w1 ⟨rfl, rfl⟩; generalize jL x.kind 12 = p at *; have hp12 : (p : Int) < 12 := by omega
  have hp0 : (0 : Int) ≤ (p : Int) := by omega
  obtain ⟨W, hW⟩ : ∃ W, W = (((w.alloc (.cells #[.int .i64 x.kind, .int .i64 x.a, .int .i64 x.b, .string (S x.s), .string (S x.t), .slice ai x.ins.length ci] 68)).alloc (.cells #[.int .i64 0, .slice none 0 0, .int .i64 0, .int .i64 0, .int .i64 0, .slice none 0 0, .slice none 0 0, .bool false, .int .i64 0, .slice none 0 0, .slice none 0 0, .slice none 0 0] 40)).alloc (.cells #[.int .i64 3, .int .i64 2, .int .i64 5, .int .i64 2, .int .i64 6, .int .i64 2, .int .i64 4, .int .i64 8, .int .i64 9, .int .i64 7, .int .i64 10, .int .i64 2] 3)).alloc (.cells #[.int .i64 9, .slice none 0 0, .int .i64 0, .int .i64 0, .int .i64 0, .slice none 0 0, .slice none 0 0, .bool false, .int .i64 0, .slice none 0 0, .slice none 0 0, .slice none 0 0] 40) := ⟨_, rfl⟩; have HWE := hid hW; have hx := (box6 (show W.heap[w.heap.size]? = some (.cells #[.int .i64 x.kind, .int .i64 x.a, .int .i64 x.b, .string (S x.s), .string (S x.t), .slice ai x.ins.length ci] 68) by rw [hW]; exact jf _ (jf _ (jf _ (jA _ rfl))))).2.1; have hr := (show W.heap[w.heap.size + 1]? = some (.cells #[.int .i64 0, .slice none 0 0, .int .i64 0, .int .i64 0, .int .i64 0, .slice none 0 0, .slice none 0 0, .bool false, .int .i64 0, .slice none 0 0, .slice none 0 0, .slice none 0 0] 40) by rw [hW]; exact jf _ (jf _ (jA _ (by simp)))); have hc := (show W.heap[w.heap.size + 1 + 1 + 1]? = some (.cells #[.int .i64 9, .slice none 0 0, .int .i64 0, .int .i64 0, .int .i64 0, .slice none 0 0, .slice none 0 0, .bool false, .int .i64 0, .slice none 0 0, .slice none 0 0, .slice none 0 0] 40) by rw [hW]; exact jA _ (by simp)); obtain ⟨r0, r1, r2, r3, r4, r5, r6, r7, r8, r9, r10, r11, f0, f1, f2, f3, f4, f5, f6, f7, f8, f9, f10, f11⟩ := jar hr; obtain ⟨c0, c1, c2, c3, c4, c5, c6, c7, c8, c9, c10, c11, g0, g1, g2, g3, g4, g5, g6, g7, g8, g9, g10, g11⟩ := jar hc; have HSZ := hid (show W.heap.size = w.heap.size + 4 by rw [hW]; simp); have HB := hid (show Below w.heap.size w W by rw [hW]; exact ((((Below.refl _ _).alloc (Nat.le_refl _) _).alloc (by simp) _).alloc (by simp; omega) _).alloc (by simp; omega) _); have lt3 : w.heap.size + 1 + 1 + 1 < W.heap.size := by rw [HSZ.out]; omega
  have lt1 : w.heap.size + 1 < W.heap.size := by omega
  have lt0 : w.heap.size < W.heap.size := by omega
  clear hW hr hc; go_wp2; rw [← HWE.out]
  go_region_held3 (fun w' => w'.cell? ⟨w.heap.size, 1, none⟩ = some (.int .i64 x.a)) (first | (go_keep; done) | exact jdy (je (jo hx (by omega))))
    (first
       | (go_at_call 42
          refine (jk x.a 3 _ wa (by decide) (by decide)).mono ?_; rintro e u ⟨rfl, hu⟩; have hu' := hu.symm; subst hu'; rw [← HPA.out]))
  all_goals
    go_wp2; refine bodyPost_ret (v := .agg #[.int .i64 9, .slice (some ⟨W.heap.size, pa, none⟩) 1 (3 - pa), .int .i64 0, .int .i64 0, .int .i64 0, .slice none 0 0, .slice none 0 0, .bool false, .int .i64 0, .slice none 0 0, .slice none 0 0, .slice none 0 0]) (by simp [results, Tryz.results24, go_sem, *]) rfl ?_; exact CmdQ.drew (CmdP.flag 9 pa (3 - pa) rfl ha3 (by decide) HB.out (by have := HSZ.out; omega))
end Go.Proofs.YthikilhhmianlaaGreatDoor
namespace Go.Proofs.YthikilhhmianlaaGreatDoor
open Go.RowKit Go.Proofs
set_option maxHeartbeats 8000000 in
set_option maxRecDepth 100000 in
theorem jc5 (d m n : Nat) (x : Stk) (cs : List Value) (w : World) (h : StkM (n + 1) w x cs) (hp : jL x.kind 10 = 5) :
    Calls Tryz.prog 43 #[.agg cs.toArray, .int .i64 d] w (TestP (m + 1) w) := by
  obtain ⟨ai, ci, rfl, wk, wa, wb, ls, lt, hic, hcm, hR⟩ := h; obtain ⟨i0, hi, hz0, hz1, hz2⟩ := info_parts jfd; clear hR
  by_cases hd : d < 3
  all_goals
    go_enter Tryz.func43, Tryz.ntmps43; go_wp2_with fail; refine (jk x.kind 10 _ wk (by omega) (by omega)).mono ?_; rintro e w1 ⟨rfl, rfl⟩; rw [hp]; go_wp2_with fail; refine (jk x.a 3 _ wa (by omega) (by omega)).mono ?_; rintro e w1 ⟨rfl, rfl⟩; have hpa := jI x.a 3 (by omega); generalize jL x.a 3 = pa at *; go_wp2_with fail; refine (jk x.b 4 _ wb (by omega) (by omega)).mono ?_; rintro e w1 ⟨rfl, rfl⟩; have hpb := jI x.b 4 (by omega); generalize jL x.b 4 = pb at *; obtain ⟨nm, hnm, hnl⟩ := jh2 hpb; have hb4 : (pb : Int) < 4 := by omega
    have hb0 : (0 : Int) ≤ (pb : Int) := by omega
    go_wp2_with fail; refine (qK x.s _ ls).mono ?_; rintro e w1 ⟨rfl, rfl⟩; go_wp2_with fail; refine (jk x.a 2 _ wa (by omega) (by omega)).mono ?_; rintro e w1 ⟨rfl, rfl⟩; have hp2 := jI x.a 2 (by omega); generalize jL x.a 2 = p2 at *
    match p2, hp2 with
    | 0, _ =>
      go_wp2; refine bodyPost_ret (v := .agg #[.int .i64 6, .int .i64 (1 + (pa : Int)), .int .i64 0, .slice (some ⟨w.heap.size + 1 + 1 + 1 + 1, 0, none⟩) 1 1, .slice (some ⟨w.heap.size + 1 + 1 + 1 + 1 + 1, 0, none⟩) 1 1, .bool false, .int .i64 0, .slice none 0 0]) (by simp [results, Tryz.results43, go_sem]) rfl ?_; refine TestP.cmp 6 _ _ nm [x.s.take 12] _ _ rfl ?_ ?_ hnl (fun s hs => by simp at hs; rw [hs, List.length_take]; omega) (fun h => by omega) (je0 (by omega) (by omega) ⟨_, rfl⟩) ?_
      · exact zr (t := 9) (fr := (0, 0)) (cs := [.string (S nm)]) (jf _ (jA _ (by simp))) rfl (show w.heap.size ≤ _ by omega) rfl
      · exact zr (t := 9) (fr := (0, 0)) (cs := [.string (S (x.s.take 12))]) (jA _ (by simp)) rfl (show w.heap.size ≤ _ by omega) rfl
      · exact ((((((Below.refl _ _).alloc (Nat.le_refl _) _).alloc (by simp) _).alloc (by simp; omega) _).alloc (by simp; omega) _).alloc (by simp; omega) _).alloc (by simp; omega) _
    | 1, _ =>
      obtain ⟨W, hW⟩ : ∃ W, W = (((((w.alloc (.cells #[.int .i64 x.kind, .int .i64 x.a, .int .i64 x.b, .string (S x.s), .string (S x.t), .slice ai x.ins.length ci] 68)).alloc (.cells #[.int .i64 0, .int .i64 0, .int .i64 0, .slice none 0 0, .slice none 0 0, .bool false, .int .i64 0, .slice none 0 0] 38)).alloc (.cells #[.int .i64 6, .int .i64 (1 + (pa : Int)), .int .i64 0, .slice (some ⟨w.heap.size + 1 + 1 + 1 + 1, 0, none⟩) 1 1, .slice (some ⟨w.heap.size + 1 + 1 + 1 + 1 + 1, 0, none⟩) 1 1, .bool false, .int .i64 0, .slice none 0 0] 38)).alloc (.cells #[.string ⟨#[115, 117, 98, 106, 101, 99, 116]⟩, .string ⟨#[116, 111]⟩, .string ⟨#[102, 114, 111, 109]⟩, .string ⟨#[120]⟩] 9)).alloc (.cells #[.string (S nm)] 9)).alloc (.cells #[.string (S (x.s.take 12))] 9) := ⟨_, rfl⟩; have HWE := hid hW; have hx := box6 (t := 68) (show W.heap[w.heap.size]? = _ by rw [hW]; exact jf _ (jf _ (jf _ (jf _ (jf _ (jA _ rfl)))))); have hr := (show W.heap[w.heap.size + 1]? = some (.cells #[.int .i64 0, .int .i64 0, .int .i64 0, .slice none 0 0, .slice none 0 0, .bool false, .int .i64 0, .slice none 0 0] 38) by rw [hW]; exact jf _ (jf _ (jf _ (jf _ (jA _ (by simp)))))); have ht := (show W.heap[w.heap.size + 1 + 1]? = some (.cells #[.int .i64 6, .int .i64 (1 + (pa : Int)), .int .i64 0, .slice (some ⟨w.heap.size + 1 + 1 + 1 + 1, 0, none⟩) 1 1, .slice (some ⟨w.heap.size + 1 + 1 + 1 + 1 + 1, 0, none⟩) 1 1, .bool false, .int .i64 0, .slice none 0 0] 38) by rw [hW]; exact jf _ (jf _ (jf _ (jA _ (by simp))))); have hn := (show W.heap[w.heap.size + 1 + 1 + 1 + 1]? = some (.cells #[.string (S nm)] 9) by rw [hW]; exact jf _ (jA _ (by simp))); have hk := (show W.heap[w.heap.size + 1 + 1 + 1 + 1 + 1]? = some (.cells #[.string (S (x.s.take 12))] 9) by rw [hW]; exact jA _ (by simp)); have HSZ := hid (show W.heap.size = w.heap.size + 6 by rw [hW]; simp); have lt2 : w.heap.size + 1 + 1 < W.heap.size := by rw [HSZ.out]; omega
      have lt0 : w.heap.size < W.heap.size := by omega
      have HB := hid (show Below w.heap.size w W by rw [hW]; exact ((((((Below.refl _ _).alloc (Nat.le_refl _) _).alloc (by simp) _).alloc (by simp; omega) _).alloc (by simp; omega) _).alloc (by simp; omega) _).alloc (by simp; omega) _); have HO := hid (show World.ownsRow W.drew (w.heap.size + 5) 9 1 (.slice (some ⟨w.heap.size + 1 + 1 + 1 + 1 + 1, 0, none⟩) 1 1) 1 [.string (S (x.s.take 12))] from ⟨by rfl, .inr ⟨_, 1, _, rfl, by omega, hk, by omega, by unfold maxLen; omega, by rfl, by rfl⟩⟩); have x4 := hx.2.2.2.2.1; have HR := hid hr; have HT := hid ht; have HNM := hid hn; obtain ⟨t0, t1, t2, t3, t4, t5, t6, t7, g0, g1, g2, g3, g4, g5, g6, g7⟩ := box8 ht; clear hW hx hr ht hn hk; go_wp2_with fail; rw [← HWE.out]
      go_region_law
        (first
          | (refine step_append_lies _ (by rfl) _ _ _ (by rfl) (w.heap.size + 5) 9 i0 _ 1 16 Tryz.underlying35 hi hz0 hz1 hz2 rfl (by omega) (.slice (some ⟨w.heap.size + 1 + 1 + 1 + 1 + 1, 0, none⟩) 1 1) 1 [.string (S (x.s.take 12))] (by rfl) (World.ownsRow.alloc HO.out _) ⟨_, 0, none⟩ 1 1 [.string (S (x.t.take 12))] (by rfl) (by rfl) (zU _ _ _) (by simp [Value.oneCell']) (by omega) (by unfold maxLen; omega) (by omega) (by have := HSZ.out; simp; omega) _ rfl ?_
             intro g cap w3 hown3 hgrow hat hlt3; have ht3 := zh hgrow (jf _ HT.out) (jaO (by omega)); have hr3 := zh hgrow (jf _ HR.out) (jaO (by omega)); have hn3 := hid (zh hgrow (jf _ HNM.out) (jaO (by omega))); have hB3 := hid (jay (HB.out.alloc (by have := HSZ.out; omega) _) hgrow (by have := HSZ.out; show w.heap.size ≤ (W.heap.push _).size; rw [Array.size_push]; omega) (by omega)); obtain ⟨u0, u1, u2, u3, u4, u5, u6, u7, v0, v1, v2, v3, v4, v5, v6, v7⟩ := box8 ht3; obtain ⟨p0, p1, p2, p3, p4, p5, p6, p7, o0, o1, o2, o3, o4, o5, o6, o7⟩ := box8 hr3; clear ht3 hr3 hgrow hat)
          | (go_simp
             go_at_call 44
             refine (qK x.t _ lt).mono ?_; rintro e wS ⟨rfl, rfl⟩))
      all_goals
        have HTX := hid (show TxtsM (fun b => w.heap.size + 1 + 1 < b) w3 (.slice (some ⟨g, 0, none⟩) 2 cap) [x.s.take 12, x.t.take 12] from jeV (l := [x.s.take 12, x.t.take 12]) hown3 rfl (fun b hb => by show w.heap.size + 1 + 1 < b; omega) (by unfold maxLen; simp)); clear hown3; go_wp2; refine bodyPost_ret (v := .agg #[.int .i64 6, .int .i64 (1 + (pa : Int)), .int .i64 0, .slice (some ⟨w.heap.size + 1 + 1 + 1 + 1, 0, none⟩) 1 1, .slice (some ⟨g, 0, none⟩) 2 cap, .bool false, .int .i64 0, .slice none 0 0]) (by simp [results, Tryz.results43, go_sem, *]) rfl ?_; exact TestP.two 6 _ _ nm _ _ rfl hn3.out (by omega) HTX.out hnl (fun h => by omega) (by rw [List.length_take]; omega) (by rw [List.length_take]; omega) (jeZ (by omega) (by omega)) hB3.out
set_option maxHeartbeats 8000000 in
set_option maxRecDepth 100000 in
theorem jdr (d m n : Nat) (x : Stk) (cs : List Value) (w : World) (h : StkM (n + 1) w x cs) (hp : jL x.kind 10 = 6) :
    Calls Tryz.prog 43 #[.agg cs.toArray, .int .i64 d] w (TestP (m + 1) w) := by
  obtain ⟨ai, ci, rfl, wk, wa, wb, ls, lt, hic, hcm, hR⟩ := h; obtain ⟨i0, hi, hz0, hz1, hz2⟩ := info_parts jfd; clear hR
  by_cases hd : d < 3
  all_goals
    go_enter Tryz.func43, Tryz.ntmps43; go_wp2_with fail; refine (jk x.kind 10 _ wk (by omega) (by omega)).mono ?_; rintro e w1 ⟨rfl, rfl⟩; rw [hp]; go_wp2_with fail; refine (jk x.a 3 _ wa (by omega) (by omega)).mono ?_; rintro e w1 ⟨rfl, rfl⟩; have hpa := jI x.a 3 (by omega); generalize jL x.a 3 = pa at *; go_wp2_with fail; refine (jk x.b 4 _ wb (by omega) (by omega)).mono ?_; rintro e w1 ⟨rfl, rfl⟩; have hpb := jI x.b 4 (by omega); generalize jL x.b 4 = pb at *; obtain ⟨nm, hnm, hnl⟩ := jh2 hpb; have hb4 : (pb : Int) < 4 := by omega
    have hb0 : (0 : Int) ≤ (pb : Int) := by omega
    go_wp2_with fail; refine (jk x.b 3 _ wb (by omega) (by omega)).mono ?_; rintro e w1 ⟨rfl, rfl⟩; have hpp := jI x.b 3 (by omega); generalize jL x.b 3 = pp at *; go_wp2_with fail; refine (qK x.s _ ls).mono ?_; rintro e w1 ⟨rfl, rfl⟩; go_wp2_with fail; refine (jk x.a 2 _ wa (by omega) (by omega)).mono ?_; rintro e w1 ⟨rfl, rfl⟩; have hp2 := jI x.a 2 (by omega); generalize jL x.a 2 = p2 at *
    match p2, hp2 with
    | 0, _ =>
      go_wp2; refine bodyPost_ret (v := .agg #[.int .i64 7, .int .i64 (1 + (pa : Int)), .int .i64 (1 + (pp : Int)), .slice (some ⟨w.heap.size + 1 + 1 + 1 + 1, 0, none⟩) 1 1, .slice (some ⟨w.heap.size + 1 + 1 + 1 + 1 + 1, 0, none⟩) 1 1, .bool false, .int .i64 0, .slice none 0 0]) (by simp [results, Tryz.results43, go_sem]) rfl ?_; refine TestP.cmp 7 _ _ nm [x.s.take 12] _ _ rfl ?_ ?_ hnl (fun s hs => by simp at hs; rw [hs, List.length_take]; omega) (fun h => by omega) (je0 (by omega) (by omega) ⟨_, rfl⟩) ?_
      · exact zr (t := 9) (fr := (0, 0)) (cs := [.string (S nm)]) (jf _ (jA _ (by simp))) rfl (show w.heap.size ≤ _ by omega) rfl
      · exact zr (t := 9) (fr := (0, 0)) (cs := [.string (S (x.s.take 12))]) (jA _ (by simp)) rfl (show w.heap.size ≤ _ by omega) rfl
      · exact ((((((Below.refl _ _).alloc (Nat.le_refl _) _).alloc (by simp) _).alloc (by simp; omega) _).alloc (by simp; omega) _).alloc (by simp; omega) _).alloc (by simp; omega) _
    | 1, _ =>
      obtain ⟨W, hW⟩ : ∃ W, W = (((((w.alloc (.cells #[.int .i64 x.kind, .int .i64 x.a, .int .i64 x.b, .string (S x.s), .string (S x.t), .slice ai x.ins.length ci] 68)).alloc (.cells #[.int .i64 0, .int .i64 0, .int .i64 0, .slice none 0 0, .slice none 0 0, .bool false, .int .i64 0, .slice none 0 0] 38)).alloc (.cells #[.int .i64 7, .int .i64 (1 + (pa : Int)), .int .i64 (1 + (pp : Int)), .slice (some ⟨w.heap.size + 1 + 1 + 1 + 1, 0, none⟩) 1 1, .slice (some ⟨w.heap.size + 1 + 1 + 1 + 1 + 1, 0, none⟩) 1 1, .bool false, .int .i64 0, .slice none 0 0] 38)).alloc (.cells #[.string ⟨#[115, 117, 98, 106, 101, 99, 116]⟩, .string ⟨#[116, 111]⟩, .string ⟨#[102, 114, 111, 109]⟩, .string ⟨#[120]⟩] 9)).alloc (.cells #[.string (S nm)] 9)).alloc (.cells #[.string (S (x.s.take 12))] 9) := ⟨_, rfl⟩; have HWE := hid hW; have hx := box6 (t := 68) (show W.heap[w.heap.size]? = _ by rw [hW]; exact jf _ (jf _ (jf _ (jf _ (jf _ (jA _ rfl)))))); have hr := (show W.heap[w.heap.size + 1]? = some (.cells #[.int .i64 0, .int .i64 0, .int .i64 0, .slice none 0 0, .slice none 0 0, .bool false, .int .i64 0, .slice none 0 0] 38) by rw [hW]; exact jf _ (jf _ (jf _ (jf _ (jA _ (by simp)))))); have ht := (show W.heap[w.heap.size + 1 + 1]? = some (.cells #[.int .i64 7, .int .i64 (1 + (pa : Int)), .int .i64 (1 + (pp : Int)), .slice (some ⟨w.heap.size + 1 + 1 + 1 + 1, 0, none⟩) 1 1, .slice (some ⟨w.heap.size + 1 + 1 + 1 + 1 + 1, 0, none⟩) 1 1, .bool false, .int .i64 0, .slice none 0 0] 38) by rw [hW]; exact jf _ (jf _ (jf _ (jA _ (by simp))))); have hn := (show W.heap[w.heap.size + 1 + 1 + 1 + 1]? = some (.cells #[.string (S nm)] 9) by rw [hW]; exact jf _ (jA _ (by simp))); have hk := (show W.heap[w.heap.size + 1 + 1 + 1 + 1 + 1]? = some (.cells #[.string (S (x.s.take 12))] 9) by rw [hW]; exact jA _ (by simp)); have HSZ := hid (show W.heap.size = w.heap.size + 6 by rw [hW]; simp); have lt2 : w.heap.size + 1 + 1 < W.heap.size := by rw [HSZ.out]; omega
      have lt0 : w.heap.size < W.heap.size := by omega
      have HB := hid (show Below w.heap.size w W by rw [hW]; exact ((((((Below.refl _ _).alloc (Nat.le_refl _) _).alloc (by simp) _).alloc (by simp; omega) _).alloc (by simp; omega) _).alloc (by simp; omega) _).alloc (by simp; omega) _); have HO := hid (show World.ownsRow W.drew (w.heap.size + 5) 9 1 (.slice (some ⟨w.heap.size + 1 + 1 + 1 + 1 + 1, 0, none⟩) 1 1) 1 [.string (S (x.s.take 12))] from ⟨by rfl, .inr ⟨_, 1, _, rfl, by omega, hk, by omega, by unfold maxLen; omega, by rfl, by rfl⟩⟩); have x4 := hx.2.2.2.2.1; have HR := hid hr; have HT := hid ht; have HNM := hid hn; obtain ⟨t0, t1, t2, t3, t4, t5, t6, t7, g0, g1, g2, g3, g4, g5, g6, g7⟩ := box8 ht; clear hW hx hr ht hn hk; go_wp2_with fail; rw [← HWE.out]
      go_region_law
        (first
          | (refine step_append_lies _ (by rfl) _ _ _ (by rfl) (w.heap.size + 5) 9 i0 _ 1 16 Tryz.underlying35 hi hz0 hz1 hz2 rfl (by omega) (.slice (some ⟨w.heap.size + 1 + 1 + 1 + 1 + 1, 0, none⟩) 1 1) 1 [.string (S (x.s.take 12))] (by rfl) (World.ownsRow.alloc HO.out _) ⟨_, 0, none⟩ 1 1 [.string (S (x.t.take 12))] (by rfl) (by rfl) (zU _ _ _) (by simp [Value.oneCell']) (by omega) (by unfold maxLen; omega) (by omega) (by have := HSZ.out; simp; omega) _ rfl ?_
             intro g cap w3 hown3 hgrow hat hlt3; have ht3 := zh hgrow (jf _ HT.out) (jaO (by omega)); have hr3 := zh hgrow (jf _ HR.out) (jaO (by omega)); have hn3 := hid (zh hgrow (jf _ HNM.out) (jaO (by omega))); have hB3 := hid (jay (HB.out.alloc (by have := HSZ.out; omega) _) hgrow (by have := HSZ.out; show w.heap.size ≤ (W.heap.push _).size; rw [Array.size_push]; omega) (by omega)); obtain ⟨u0, u1, u2, u3, u4, u5, u6, u7, v0, v1, v2, v3, v4, v5, v6, v7⟩ := box8 ht3; obtain ⟨p0, p1, p2, p3, p4, p5, p6, p7, o0, o1, o2, o3, o4, o5, o6, o7⟩ := box8 hr3; clear ht3 hr3 hgrow hat)
          | (go_simp
             go_at_call 44
             refine (qK x.t _ lt).mono ?_; rintro e wS ⟨rfl, rfl⟩))
      all_goals
        have HTX := hid (show TxtsM (fun b => w.heap.size + 1 + 1 < b) w3 (.slice (some ⟨g, 0, none⟩) 2 cap) [x.s.take 12, x.t.take 12] from jeV (l := [x.s.take 12, x.t.take 12]) hown3 rfl (fun b hb => by show w.heap.size + 1 + 1 < b; omega) (by unfold maxLen; simp)); clear hown3; go_wp2; refine bodyPost_ret (v := .agg #[.int .i64 7, .int .i64 (1 + (pa : Int)), .int .i64 (1 + (pp : Int)), .slice (some ⟨w.heap.size + 1 + 1 + 1 + 1, 0, none⟩) 1 1, .slice (some ⟨g, 0, none⟩) 2 cap, .bool false, .int .i64 0, .slice none 0 0]) (by simp [results, Tryz.results43, go_sem, *]) rfl ?_; exact TestP.two 7 _ _ nm _ _ rfl hn3.out (by omega) HTX.out hnl (fun h => by omega) (by rw [List.length_take]; omega) (by rw [List.length_take]; omega) (jeZ (by omega) (by omega)) hB3.out
set_option maxHeartbeats 8000000 in
set_option maxRecDepth 100000 in
theorem jdi (d m n : Nat) (x : Stk) (cs : List Value) (w : World) (h : StkM (n + 1) w x cs) (hp : jL x.kind 10 = 7) :
    Calls Tryz.prog 43 #[.agg cs.toArray, .int .i64 d] w (TestP (m + 1) w) := by
  obtain ⟨ai, ci, rfl, wk, wa, wb, ls, lt, hic, hcm, hR⟩ := h; obtain ⟨i0, hi, hz0, hz1, hz2⟩ := info_parts jfd; clear hR
  by_cases hd : d < 3
  all_goals
    go_enter Tryz.func43, Tryz.ntmps43; go_wp2_with fail; refine (jk x.kind 10 _ wk (by omega) (by omega)).mono ?_; rintro e w1 ⟨rfl, rfl⟩; rw [hp]; go_wp2_with fail; refine (jk x.a 3 _ wa (by omega) (by omega)).mono ?_; rintro e w1 ⟨rfl, rfl⟩; have hpa := jI x.a 3 (by omega); generalize jL x.a 3 = pa at *; go_wp2_with fail; refine (jk x.b 4 _ wb (by omega) (by omega)).mono ?_; rintro e w1 ⟨rfl, rfl⟩; have hpb := jI x.b 4 (by omega); generalize jL x.b 4 = pb at *; obtain ⟨nm, hnm, hnl⟩ := jh2 hpb; have hb4 : (pb : Int) < 4 := by omega
    have hb0 : (0 : Int) ≤ (pb : Int) := by omega
    go_wp2_with fail; refine (jk x.b 3 _ wb (by omega) (by omega)).mono ?_; rintro e w1 ⟨rfl, rfl⟩; have hpp := jI x.b 3 (by omega); generalize jL x.b 3 = pp at *; go_wp2_with fail; refine (jk x.b 2 _ wb (by omega) (by omega)).mono ?_; rintro e w1 ⟨rfl, rfl⟩; have hpe := jI x.b 2 (by omega); generalize jL x.b 2 = pe at *; obtain ⟨ne, hne, hnp⟩ := jkr hpe; have he4 : (pe : Int) < 2 := by omega
    have he0 : (0 : Int) ≤ (pe : Int) := by omega
    go_wp2_with fail; refine (qK x.s _ ls).mono ?_; rintro e w1 ⟨rfl, rfl⟩; go_wp2_with fail; refine (jk x.a 2 _ wa (by omega) (by omega)).mono ?_; rintro e w1 ⟨rfl, rfl⟩; have hp2 := jI x.a 2 (by omega); generalize jL x.a 2 = p2 at *
    match p2, hp2 with
    | 0, _ =>
      go_wp2; refine bodyPost_ret (v := .agg #[.int .i64 8, .int .i64 (1 + (pa : Int)), .int .i64 (1 + (pp : Int)), .slice (some ⟨w.heap.size + 1 + 1 + 1 + 1 + 1 + 1, 0, none⟩) 1 1, .slice (some ⟨w.heap.size + 1 + 1 + 1 + 1 + 1 + 1 + 1, 0, none⟩) 1 1, .bool false, .int .i64 0, .slice none 0 0]) (by simp [results, Tryz.results43, go_sem]) rfl ?_; refine TestP.cmp 8 _ _ ne [x.s.take 12] _ _ rfl ?_ ?_ (jd0 hnp) (fun s hs => by simp at hs; rw [hs, List.length_take]; omega) (fun h => hnp) (je0 (by omega) (by omega) ⟨_, rfl⟩) ?_
      · exact zr (t := 9) (fr := (0, 0)) (cs := [.string (S ne)]) (jf _ (jA _ (by simp))) rfl (show w.heap.size ≤ _ by omega) rfl
      · exact zr (t := 9) (fr := (0, 0)) (cs := [.string (S (x.s.take 12))]) (jA _ (by simp)) rfl (show w.heap.size ≤ _ by omega) rfl
      · exact ((((((((Below.refl _ _).alloc (Nat.le_refl _) _).alloc (by simp) _).alloc (by simp; omega) _).alloc (by simp; omega) _).alloc (by simp; omega) _).alloc (by simp; omega) _).alloc (by simp; omega) _).alloc (by simp; omega) _
    | 1, _ =>
      obtain ⟨W, hW⟩ : ∃ W, W = (((((((w.alloc (.cells #[.int .i64 x.kind, .int .i64 x.a, .int .i64 x.b, .string (S x.s), .string (S x.t), .slice ai x.ins.length ci] 68)).alloc (.cells #[.int .i64 0, .int .i64 0, .int .i64 0, .slice none 0 0, .slice none 0 0, .bool false, .int .i64 0, .slice none 0 0] 38)).alloc (.cells #[.int .i64 8, .int .i64 (1 + (pa : Int)), .int .i64 (1 + (pp : Int)), .slice (some ⟨w.heap.size + 1 + 1 + 1 + 1 + 1 + 1, 0, none⟩) 1 1, .slice (some ⟨w.heap.size + 1 + 1 + 1 + 1 + 1 + 1 + 1, 0, none⟩) 1 1, .bool false, .int .i64 0, .slice none 0 0] 38)).alloc (.cells #[.string ⟨#[115, 117, 98, 106, 101, 99, 116]⟩, .string ⟨#[116, 111]⟩, .string ⟨#[102, 114, 111, 109]⟩, .string ⟨#[120]⟩] 9)).alloc (.cells #[.string (S nm)] 9)).alloc (.cells #[.string ⟨#[102, 114, 111, 109]⟩, .string ⟨#[116, 111]⟩] 9)).alloc (.cells #[.string (S ne)] 9)).alloc (.cells #[.string (S (x.s.take 12))] 9) := ⟨_, rfl⟩; have HWE := hid hW; have hx := box6 (t := 68) (show W.heap[w.heap.size]? = _ by rw [hW]; exact jf _ (jf _ (jf _ (jf _ (jf _ (jf _ (jf _ (jA _ rfl)))))))); have hr := (show W.heap[w.heap.size + 1]? = some (.cells #[.int .i64 0, .int .i64 0, .int .i64 0, .slice none 0 0, .slice none 0 0, .bool false, .int .i64 0, .slice none 0 0] 38) by rw [hW]; exact jf _ (jf _ (jf _ (jf _ (jf _ (jf _ (jA _ (by simp)))))))); have ht := (show W.heap[w.heap.size + 1 + 1]? = some (.cells #[.int .i64 8, .int .i64 (1 + (pa : Int)), .int .i64 (1 + (pp : Int)), .slice (some ⟨w.heap.size + 1 + 1 + 1 + 1 + 1 + 1, 0, none⟩) 1 1, .slice (some ⟨w.heap.size + 1 + 1 + 1 + 1 + 1 + 1 + 1, 0, none⟩) 1 1, .bool false, .int .i64 0, .slice none 0 0] 38) by rw [hW]; exact jf _ (jf _ (jf _ (jf _ (jf _ (jA _ (by simp))))))); have hn := (show W.heap[w.heap.size + 1 + 1 + 1 + 1 + 1 + 1]? = some (.cells #[.string (S ne)] 9) by rw [hW]; exact jf _ (jA _ (by simp))); have hk := (show W.heap[w.heap.size + 1 + 1 + 1 + 1 + 1 + 1 + 1]? = some (.cells #[.string (S (x.s.take 12))] 9) by rw [hW]; exact jA _ (by simp)); have HSZ := hid (show W.heap.size = w.heap.size + 8 by rw [hW]; simp); have lt2 : w.heap.size + 1 + 1 < W.heap.size := by rw [HSZ.out]; omega
      have lt0 : w.heap.size < W.heap.size := by omega
      have HB := hid (show Below w.heap.size w W by rw [hW]; exact ((((((((Below.refl _ _).alloc (Nat.le_refl _) _).alloc (by simp) _).alloc (by simp; omega) _).alloc (by simp; omega) _).alloc (by simp; omega) _).alloc (by simp; omega) _).alloc (by simp; omega) _).alloc (by simp; omega) _); have HO := hid (show World.ownsRow W.drew (w.heap.size + 7) 9 1 (.slice (some ⟨w.heap.size + 1 + 1 + 1 + 1 + 1 + 1 + 1, 0, none⟩) 1 1) 1 [.string (S (x.s.take 12))] from ⟨by rfl, .inr ⟨_, 1, _, rfl, by omega, hk, by omega, by unfold maxLen; omega, by rfl, by rfl⟩⟩); have x4 := hx.2.2.2.2.1; have HR := hid hr; have HT := hid ht; have HNM := hid hn; obtain ⟨t0, t1, t2, t3, t4, t5, t6, t7, g0, g1, g2, g3, g4, g5, g6, g7⟩ := box8 ht; clear hW hx hr ht hn hk; go_wp2_with fail; rw [← HWE.out]
      go_region_law
        (first
          | (refine step_append_lies _ (by rfl) _ _ _ (by rfl) (w.heap.size + 7) 9 i0 _ 1 16 Tryz.underlying35 hi hz0 hz1 hz2 rfl (by omega) (.slice (some ⟨w.heap.size + 1 + 1 + 1 + 1 + 1 + 1 + 1, 0, none⟩) 1 1) 1 [.string (S (x.s.take 12))] (by rfl) (World.ownsRow.alloc HO.out _) ⟨_, 0, none⟩ 1 1 [.string (S (x.t.take 12))] (by rfl) (by rfl) (zU _ _ _) (by simp [Value.oneCell']) (by omega) (by unfold maxLen; omega) (by omega) (by have := HSZ.out; simp; omega) _ rfl ?_
             intro g cap w3 hown3 hgrow hat hlt3; have ht3 := zh hgrow (jf _ HT.out) (jaO (by omega)); have hr3 := zh hgrow (jf _ HR.out) (jaO (by omega)); have hn3 := hid (zh hgrow (jf _ HNM.out) (jaO (by omega))); have hB3 := hid (jay (HB.out.alloc (by have := HSZ.out; omega) _) hgrow (by have := HSZ.out; show w.heap.size ≤ (W.heap.push _).size; rw [Array.size_push]; omega) (by omega)); obtain ⟨u0, u1, u2, u3, u4, u5, u6, u7, v0, v1, v2, v3, v4, v5, v6, v7⟩ := box8 ht3; obtain ⟨p0, p1, p2, p3, p4, p5, p6, p7, o0, o1, o2, o3, o4, o5, o6, o7⟩ := box8 hr3; clear ht3 hr3 hgrow hat)
          | (go_simp
             go_at_call 44
             refine (qK x.t _ lt).mono ?_; rintro e wS ⟨rfl, rfl⟩))
      all_goals
        have HTX := hid (show TxtsM (fun b => w.heap.size + 1 + 1 < b) w3 (.slice (some ⟨g, 0, none⟩) 2 cap) [x.s.take 12, x.t.take 12] from jeV (l := [x.s.take 12, x.t.take 12]) hown3 rfl (fun b hb => by show w.heap.size + 1 + 1 < b; omega) (by unfold maxLen; simp)); clear hown3; go_wp2; refine bodyPost_ret (v := .agg #[.int .i64 8, .int .i64 (1 + (pa : Int)), .int .i64 (1 + (pp : Int)), .slice (some ⟨w.heap.size + 1 + 1 + 1 + 1 + 1 + 1, 0, none⟩) 1 1, .slice (some ⟨g, 0, none⟩) 2 cap, .bool false, .int .i64 0, .slice none 0 0]) (by simp [results, Tryz.results43, go_sem, *]) rfl ?_; exact TestP.two 8 _ _ ne _ _ rfl hn3.out (by omega) HTX.out (jd0 hnp) (fun h => hnp) (by rw [List.length_take]; omega) (by rw [List.length_take]; omega) (jeZ (by omega) (by omega)) hB3.out
end Go.Proofs.YthikilhhmianlaaGreatDoor
