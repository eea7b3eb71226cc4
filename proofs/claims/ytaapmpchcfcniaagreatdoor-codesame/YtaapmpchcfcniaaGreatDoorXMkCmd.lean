/-
  What the laws' maker of commands does: the walk.
-/
import Derived.Test.YtaapmpchcfcniaaGreatDoorXMkTest
set_option maxHeartbeats 8000000
set_option maxRecDepth 100000
namespace Go.Proofs.YtaapmpchcfcniaaGreatDoor
open Go.RowKit Go.Proofs
def NC (c : Cmd) : Prop := ∀ n, jay n c ∧ FitC n c
theorem NC.mk {c : Cmd} (h1 : c.kind ≠ 1) (h2 : c.kind = 5 → jat (c.texts.getD 0 []) = 0) (h3 : c.kind = 8 ∨ c.kind = 9 → zT c.texts ≠ none) (h4 : c.kind = 6 → qz (c.texts.getD 0 []) = 0) (h5 : ∀ n, jc5 n c.test) (h6 : ∀ x ∈ c.thn, NC x) (h7 : ∀ x ∈ c.els, NC x) (hf : qV c = true) (hf2 : c.kind = 2 → NT c.test) : NC c := by
 intro n; cases n with
 | zero => exact ⟨trivial, trivial⟩
 | succ n => exact ⟨⟨h1, h2, h3, h4, h5 n, fun u hu => (h6 u hu n).1, fun u hu => (h7 u hu n).1⟩, hf, fun h => (hf2 h n).2, fun u hu => (h6 u hu n).2, fun u hu => (h7 u hu n).2⟩
theorem NT.none : ∀ n, jc5 n zp := by
 intro n; cases n with
 | zero => trivial
 | succ n => exact ⟨rfl, rfl, (fun h => by cases h), fun u hu => by cases hu⟩
def CmdP (m : Nat) (w : World) (e : Ending) (w' : World) : Prop := ∃ (c : Cmd) (cs' : List Value), e = .returned (.agg cs'.toArray) ∧ CmdM (newB' w.heap.size) m w' c cs' ∧ NC c ∧ Below w.heap.size w w'
def CmdQ (m : Nat) (w : World) (e : Ending) (w' : World) : Prop := ∃ (c : Cmd) (cs' : List Value), e = .returned (.agg cs'.toArray) ∧ CmdM (newB' w.heap.size) m w' c cs' ∧ (NC c ∧ c.kind ≠ 2) ∧ Below w.heap.size w w'
theorem CmdQ.p {m : Nat} {w w' : World} {e : Ending} (h : CmdQ m w e w') : CmdP m w e w' := by
 obtain ⟨c, cs, h1, h2, h3, h4⟩ := h; exact ⟨c, cs, h1, h2, h3.1, h4⟩
def CmdC (d m : Nat) : Prop := ∀ (n : Nat) (x : Stk) (cs : List Value) (w : World), StkM n w x cs →
    Calls Tryz.prog 37 #[.agg cs.toArray, .int .i64 d] w (CmdP m w)
def jeH (d m : Nat) : Prop := ∀ (n : Nat) (l : List Stk) (a : Option Addr) (c : Nat) (w : World), SticksM n w (.slice a l.length c) l →
    Calls Tryz.prog 19 #[.slice a l.length c, .int .i64 d] w fun e w' => ∃ (L : List Cmd) (a' : Option Addr) (c' : Nat), e = .returned (.slice a' L.length c') ∧ CmdsM (newB' w.heap.size) m w' (.slice a' L.length c') L ∧ (∀ x ∈ L, NC x) ∧ L.length ≤ 4 ∧ (L = [] → a' = none ∧ c' = 0) ∧ Below w.heap.size w w'
theorem jiN (Q : Nat → Prop) (n : Nat) (w : World) : TstM Q (n + 1) w zp [.int .i64 0, .int .i64 0, .int .i64 0, .slice none 0 0, .slice none 0 0, .bool false, .int .i64 0, .slice none 0 0] := ⟨_, _, _, rfl, jj _ _ _ _ _ _, jj _ _ _ _ _ _, jj _ _ _ _ _ _⟩
theorem CmdP.texts {m : Nat} {w w' : World} {e : Ending} (k : Int) (ts : List (List UInt8)) (v : Value) (he : e = .returned (.agg #[.int .i64 k, v, .int .i64 0, .int .i64 0, .int .i64 0, .slice none 0 0, .slice none 0 0, .bool false, .int .i64 0, .slice none 0 0, .slice none 0 0, .slice none 0 0]))
 (hv : TxtsM (newB' w.heap.size) w' v ts) (h1 : k ≠ 1) (h2 : k = 5 → jat (ts.getD 0 []) = 0) (h3 : k = 8 ∨ k = 9 → zT ts ≠ none) (h4 : k = 6 → qz (ts.getD 0 []) = 0) (hf : qV ⟨k, ts, zp, [], []⟩ = true) (h2' : k ≠ 2) (hb : Below w.heap.size w w') : CmdQ (m + 2) w e w' :=
 ⟨⟨k, ts, zp, [], []⟩, _, he, ⟨_, _, _, _, _, _, rfl, hv, jiN _ _ _, jj _ _ _ _ _ _, jj _ _ _ _ _ _⟩, ⟨NC.mk h1 h2 h3 h4 NT.none (fun u hu => by cases hu) (fun u hu => by cases hu) hf (fun h => absurd h h2'), h2'⟩, hb⟩
theorem jnc {pb : Nat} (h : pb < 4) : ∃ nm : List UInt8, (∀ h, ([Value.string { data := #[73, 78, 66, 79, 88] }, Value.string { data := #[119, 111, 114, 107] }, Value.string { data := #[106, 117, 110, 107] }, Value.string { data := #[110, 101, 119] }] : List Value)[pb]'h = .string (S nm)) ∧ jat nm = 0 := by
 match pb, h with
 | 0, _ => exact ⟨[73, 78, 66, 79, 88], fun _ => rfl, by decide⟩
 | 1, _ => exact ⟨[119, 111, 114, 107], fun _ => rfl, by decide⟩
 | 2, _ => exact ⟨[106, 117, 110, 107], fun _ => rfl, by decide⟩
 | 3, _ => exact ⟨[110, 101, 119], fun _ => rfl, by decide⟩
theorem jna {pb : Nat} (h : pb < 3) : ∃ nm : List UInt8, (∀ h, ([Value.string { data := #[97, 64, 98, 46, 99] }, Value.string { data := #[65, 110, 110, 32, 60, 97, 110, 110, 64, 120, 46, 121, 62] }, Value.string { data := #[98, 64, 99] }] : List Value)[pb]'h = .string (S nm)) ∧ qz nm = 0 := by
 match pb, h with
 | 0, _ => exact ⟨[97, 64, 98, 46, 99], fun _ => rfl, by decide +kernel⟩
 | 1, _ => exact ⟨[65, 110, 110, 32, 60, 97, 110, 110, 64, 120, 46, 121, 62], fun _ => rfl, by decide +kernel⟩
 | 2, _ => exact ⟨[98, 64, 99], fun _ => rfl, by decide +kernel⟩
theorem jao {p k : Nat} (h : p < 12) (hk : ([3, 2, 5, 2, 6, 2, 4, 8, 9, 7, 10, 2] : List Nat)[p]? = some k) : ∀ h, ([Value.int .i64 3, .int .i64 2, .int .i64 5, .int .i64 2, .int .i64 6, .int .i64 2, .int .i64 4, .int .i64 8, .int .i64 9, .int .i64 7, .int .i64 10, .int .i64 2] : List Value)[p]'h = .int .i64 (k : Nat) := by
 intro h'
 match p, h with
 | 0, _ | 1, _ | 2, _ | 3, _ | 4, _ | 5, _ | 6, _ | 7, _ | 8, _ | 9, _ | 10, _ | 11, _ => simp at hk; subst hk; rfl
theorem jak {w : World} {b : Nat} {v0 v1 v2 v3 v4 v5 v6 v7 v8 v9 v10 v11 : Value} {t : TypeId} (h : w.heap[b]? = some (.cells #[v0, v1, v2, v3, v4, v5, v6, v7, v8, v9, v10, v11] t)) :
 w.cell? ⟨b, 0, none⟩ = some v0 ∧ w.cell? ⟨b, 1, none⟩ = some v1 ∧ w.cell? ⟨b, 2, none⟩ = some v2 ∧ w.cell? ⟨b, 3, none⟩ = some v3 ∧ w.cell? ⟨b, 4, none⟩ = some v4 ∧ w.cell? ⟨b, 5, none⟩ = some v5 ∧ w.cell? ⟨b, 6, none⟩ = some v6 ∧ w.cell? ⟨b, 7, none⟩ = some v7 ∧ w.cell? ⟨b, 8, none⟩ = some v8 ∧ w.cell? ⟨b, 9, none⟩ = some v9 ∧ w.cell? ⟨b, 10, none⟩ = some v10 ∧ w.cell? ⟨b, 11, none⟩ = some v11 ∧
 w.frozen? ⟨b, 0, none⟩ = false ∧ w.frozen? ⟨b, 1, none⟩ = false ∧ w.frozen? ⟨b, 2, none⟩ = false ∧ w.frozen? ⟨b, 3, none⟩ = false ∧ w.frozen? ⟨b, 4, none⟩ = false ∧ w.frozen? ⟨b, 5, none⟩ = false ∧ w.frozen? ⟨b, 6, none⟩ = false ∧ w.frozen? ⟨b, 7, none⟩ = false ∧ w.frozen? ⟨b, 8, none⟩ = false ∧ w.frozen? ⟨b, 9, none⟩ = false ∧ w.frozen? ⟨b, 10, none⟩ = false ∧ w.frozen? ⟨b, 11, none⟩ = false :=
 ⟨jC h rfl, jC h rfl, jC h rfl, jC h rfl, jC h rfl, jC h rfl, jC h rfl, jC h rfl, jC h rfl, jC h rfl, jC h rfl, jC h rfl, ju h 0, ju h 1, ju h 2, ju h 3, ju h 4, ju h 5, ju h 6, ju h 7, ju h 8, ju h 9, ju h 10, ju h 11⟩
theorem jdL {w : World} {p : Addr} {v : Value} (h : w.cell? p = some v) : w.drew.cell? p = some v := h
theorem CmdQ.drew {m : Nat} {w w' : World} {e : Ending} (h : CmdQ m w e w') : CmdQ m w e w'.drew := by
 obtain ⟨c, cs, h1, h2, h3, h4⟩ := h; exact ⟨c, cs, h1, CmdM.imp (fun _ h => h) (show Keeps _ w' w'.drew from ⟨Nat.le_refl _, fun _ _ _ => rfl⟩) _ _ _ h2, h3, h4.drew⟩
theorem CmdP.fin {m : Nat} {w W1 : World} {e : Ending} {c : Cmd} {cs : List Value} (hT : CmdM (fun b => w.heap.size + 1 < b) m W1 c cs) (hN : NC c) (hB : Below w.heap.size w W1) (he : e = .returned (.agg cs.toArray)) : CmdP m w e (jM W1 (w.heap.size + 1) 0 cs) :=
 ⟨c, cs, he, CmdM.imp (fun b hb => show w.heap.size ≤ b by have : w.heap.size + 1 < b := hb; omega) (jI (fun k (hk : w.heap.size + 1 < k) => by omega) cs 0 W1 W1 (Keeps.refl _ _)) _ _ _ hT, hN, jU (by omega) cs 0 W1 w hB⟩
theorem CmdP.fin12 {m : Nat} {w W1 : World} {e : Ending} {c : Cmd} {v0 v1 v2 v3 v4 v5 v6 v7 v8 v9 v10 v11 : Value} (hT : CmdM (fun b => w.heap.size + 1 < b) m W1 c [v0, v1, v2, v3, v4, v5, v6, v7, v8, v9, v10, v11]) (hN : NC c) (hB : Below w.heap.size w W1) (he : e = .returned (.agg #[v0, v1, v2, v3, v4, v5, v6, v7, v8, v9, v10, v11])) : CmdP m w e (jM W1 (w.heap.size + 1) 0 [v0, v1, v2, v3, v4, v5, v6, v7, v8, v9, v10, v11]) := CmdP.fin hT hN hB he
def jkj : Array Value := #[.string ⟨#[92, 83, 101, 101, 110]⟩, .string ⟨#[92, 68, 114, 97, 102, 116]⟩, .string ⟨#[92, 70, 108, 97, 103, 103, 101, 100]⟩]
theorem jkl {Q : Nat → Prop} {w : World} {b pa : Nat} (h : w.heap[b]? = some (.cells jkj 9)) (hp : pa < 3) (hQ : Q b) (c : Nat) : ∃ f : List UInt8, TxtsM Q w (.slice (some ⟨b, pa, none⟩) 1 c) [f] ∧ zT [f] ≠ none := by
 have go : ∀ f : List UInt8, jkj[pa]? = some (.string (S f)) → TxtsM Q w (.slice (some ⟨b, pa, none⟩) 1 c) [f] := by
  intro f hf; refine ⟨_, c, rfl, by unfold maxLen; simp, fun i x hx => ?_⟩; cases i with
  | succ i => simp at hx
  | zero =>
    simp at hx
    subst hx; refine ⟨b, pa, [.string (S f)], rfl, (Array.getElem?_eq_some_iff.1 h).1, hQ, rfl, fun j u hj => ?_, rfl⟩; cases j with
    | succ j => simp at hj
    | zero => simp at hj; subst hj; simpa using jC h hf
 match pa, hp with
 | 0, _ => exact ⟨[92, 83, 101, 101, 110], go _ rfl, by decide⟩
 | 1, _ => exact ⟨[92, 68, 114, 97, 102, 116], go _ rfl, by decide⟩
 | 2, _ => exact ⟨[92, 70, 108, 97, 103, 103, 101, 100], go _ rfl, by decide⟩
theorem qU {n : Nat} {w w' : World} {v : Value} {l : List Cmd} {Q Q1 Q2 : Nat → Prop} (hq : ∀ k, Q k → Q1 k) (hQ : ∀ k, Q1 k → Q2 k) (hk : Keeps Q1 w w') (h : CmdsM Q n w v l) : CmdsM Q2 n w' v l :=
 RowM.imp (RowM.imp h hq (Keeps.refl _ _) fun _ _ h => CmdM.imp hq (Keeps.refl _ _) _ _ _ h) hQ hk fun _ _ h => CmdM.imp hQ hk _ _ _ h
theorem CmdP.flag {m : Nat} {w W : World} {e : Ending} (k : Int) (pa c : Nat) (he : e = .returned (.agg #[.int .i64 k, .slice (some ⟨W.heap.size, pa, none⟩) 1 c, .int .i64 0, .int .i64 0, .int .i64 0, .slice none 0 0, .slice none 0 0, .bool false, .int .i64 0, .slice none 0 0, .slice none 0 0, .slice none 0 0]))
 (hp : pa < 3) (hk : k = 8 ∨ k = 9) (hB : Below w.heap.size w W) (hs : w.heap.size + 4 ≤ W.heap.size) :
 CmdQ (m + 2) w e ((jM (W.setCell ⟨w.heap.size + 1 + 1 + 1, 1, none⟩ (.slice (some ⟨W.heap.size, pa, none⟩) 1 c)) (w.heap.size + 1) 0 [.int .i64 k, .slice (some ⟨W.heap.size, pa, none⟩) 1 c, .int .i64 0, .int .i64 0, .int .i64 0, .slice none 0 0, .slice none 0 0, .bool false, .int .i64 0, .slice none 0 0, .slice none 0 0, .slice none 0 0]).alloc (.cells jkj 9)) := by
 have hz : (jM (W.setCell ⟨w.heap.size + 1 + 1 + 1, 1, none⟩ (.slice (some ⟨W.heap.size, pa, none⟩) 1 c)) (w.heap.size + 1) 0 [.int .i64 k, .slice (some ⟨W.heap.size, pa, none⟩) 1 c, .int .i64 0, .int .i64 0, .int .i64 0, .slice none 0 0, .slice none 0 0, .bool false, .int .i64 0, .slice none 0 0, .slice none 0 0, .slice none 0 0]).heap.size = W.heap.size := by rw [zx]; simp [World.setCell]
 obtain ⟨f, hf, hfl⟩ := jkl (Q := newB' w.heap.size) (jm (w := jM (W.setCell ⟨w.heap.size + 1 + 1 + 1, 1, none⟩ (.slice (some ⟨W.heap.size, pa, none⟩) 1 c)) (w.heap.size + 1) 0 [.int .i64 k, .slice (some ⟨W.heap.size, pa, none⟩) 1 c, .int .i64 0, .int .i64 0, .int .i64 0, .slice none 0 0, .slice none 0 0, .bool false, .int .i64 0, .slice none 0 0, .slice none 0 0, .slice none 0 0]) (.cells jkj 9) hz.symm) hp (show w.heap.size ≤ W.heap.size by omega) c; refine CmdP.texts k [f] _ he hf (by omega) (fun h => by omega) (fun _ => hfl) (fun h => by omega) (by rcases hk with rfl | rfl <;> rfl) (by omega) ?_; exact (jU (by omega) _ 0 _ w (hB.setCell (by simp; omega) _)).alloc (by rw [hz]; omega) _
theorem jj0 (d m n : Nat) (x : Stk) (cs : List Value) (w : World) (h : StkM (n + 1) w x cs) (hp : ([3, 2, 5, 2, 6, 2, 4, 8, 9, 7, 10, 2] : List Nat)[jB x.kind 12]? = some 3) :
 Calls Tryz.prog 37 #[.agg cs.toArray, .int .i64 d] w (CmdQ (m + 2) w) := by
 obtain ⟨ai, ci, rfl, wk, wa, wb, ls, lt, hic, hcm, hR⟩ := h; have hpl := jz x.kind 12 (by omega); have hkk := jao hpl hp; clear hp; clear hR; go_enter Tryz.func37, Tryz.ntmps37; go_wp2_with fail; refine (jg x.kind 12 _ wk (by omega) (by omega)).mono ?_; rintro e w1 ⟨rfl, rfl⟩; generalize jB x.kind 12 = p at *; have hp12 : (p : Int) < 12 := by omega
 have hp0 : (0 : Int) ≤ (p : Int) := by omega
 go_wp2; refine bodyPost_ret (v := .agg #[.int .i64 3, .slice none 0 0, .int .i64 0, .int .i64 0, .int .i64 0, .slice none 0 0, .slice none 0 0, .bool false, .int .i64 0, .slice none 0 0, .slice none 0 0, .slice none 0 0]) (by simp [results, Tryz.results37, go_sem]) rfl ?_; exact CmdP.texts 3 [] _ rfl (jj _ _ _ _ _ _) (by decide) (fun h => by omega) (fun h => by omega) (fun h => by omega) rfl (by decide) ((((nb0 _ _).alloc (by simp) _).alloc (by simp; omega) _).alloc (by simp; omega) _)
theorem jeR (d m n : Nat) (x : Stk) (cs : List Value) (w : World) (h : StkM (n + 1) w x cs) (hp : ([3, 2, 5, 2, 6, 2, 4, 8, 9, 7, 10, 2] : List Nat)[jB x.kind 12]? = some 4) :
 Calls Tryz.prog 37 #[.agg cs.toArray, .int .i64 d] w (CmdQ (m + 2) w) := by
 obtain ⟨ai, ci, rfl, wk, wa, wb, ls, lt, hic, hcm, hR⟩ := h; have hpl := jz x.kind 12 (by omega); have hkk := jao hpl hp; clear hp; clear hR; go_enter Tryz.func37, Tryz.ntmps37; go_wp2_with fail; refine (jg x.kind 12 _ wk (by omega) (by omega)).mono ?_; rintro e w1 ⟨rfl, rfl⟩; generalize jB x.kind 12 = p at *; have hp12 : (p : Int) < 12 := by omega
 have hp0 : (0 : Int) ≤ (p : Int) := by omega
 go_wp2; refine bodyPost_ret (v := .agg #[.int .i64 4, .slice none 0 0, .int .i64 0, .int .i64 0, .int .i64 0, .slice none 0 0, .slice none 0 0, .bool false, .int .i64 0, .slice none 0 0, .slice none 0 0, .slice none 0 0]) (by simp [results, Tryz.results37, go_sem]) rfl ?_; exact CmdP.texts 4 [] _ rfl (jj _ _ _ _ _ _) (by decide) (fun h => by omega) (fun h => by omega) (fun h => by omega) rfl (by decide) ((((nb0 _ _).alloc (by simp) _).alloc (by simp; omega) _).alloc (by simp; omega) _)
theorem jj2 (d m n : Nat) (x : Stk) (cs : List Value) (w : World) (h : StkM (n + 1) w x cs) (hp : ([3, 2, 5, 2, 6, 2, 4, 8, 9, 7, 10, 2] : List Nat)[jB x.kind 12]? = some 10) :
 Calls Tryz.prog 37 #[.agg cs.toArray, .int .i64 d] w (CmdQ (m + 2) w) := by
 obtain ⟨ai, ci, rfl, wk, wa, wb, ls, lt, hic, hcm, hR⟩ := h; have hpl := jz x.kind 12 (by omega); have hkk := jao hpl hp; clear hp; clear hR; go_enter Tryz.func37, Tryz.ntmps37; go_wp2_with fail; refine (jg x.kind 12 _ wk (by omega) (by omega)).mono ?_; rintro e w1 ⟨rfl, rfl⟩; generalize jB x.kind 12 = p at *; have hp12 : (p : Int) < 12 := by omega
 have hp0 : (0 : Int) ≤ (p : Int) := by omega
 go_wp2; refine bodyPost_ret (v := .agg #[.int .i64 10, .slice none 0 0, .int .i64 0, .int .i64 0, .int .i64 0, .slice none 0 0, .slice none 0 0, .bool false, .int .i64 0, .slice none 0 0, .slice none 0 0, .slice none 0 0]) (by simp [results, Tryz.results37, go_sem]) rfl ?_; exact CmdP.texts 10 [] _ rfl (jj _ _ _ _ _ _) (by decide) (fun h => by omega) (fun h => by omega) (fun h => by omega) rfl (by decide) ((((nb0 _ _).alloc (by simp) _).alloc (by simp; omega) _).alloc (by simp; omega) _)
theorem jjX (d m n : Nat) (x : Stk) (cs : List Value) (w : World) (h : StkM (n + 1) w x cs) (hp : ([3, 2, 5, 2, 6, 2, 4, 8, 9, 7, 10, 2] : List Nat)[jB x.kind 12]? = some 2) (hd : ¬ d < 2) :
 Calls Tryz.prog 37 #[.agg cs.toArray, .int .i64 d] w (CmdQ (m + 2) w) := by
 obtain ⟨ai, ci, rfl, wk, wa, wb, ls, lt, hic, hcm, hR⟩ := h; have hpl := jz x.kind 12 (by omega); have hkk := jao hpl hp; clear hp; clear hR; go_enter Tryz.func37, Tryz.ntmps37; go_wp2_with fail; refine (jg x.kind 12 _ wk (by omega) (by omega)).mono ?_; rintro e w1 ⟨rfl, rfl⟩; generalize jB x.kind 12 = p at *; have hp12 : (p : Int) < 12 := by omega
 have hp0 : (0 : Int) ≤ (p : Int) := by omega
 go_wp2; refine bodyPost_ret (v := .agg #[.int .i64 3, .slice none 0 0, .int .i64 0, .int .i64 0, .int .i64 0, .slice none 0 0, .slice none 0 0, .bool false, .int .i64 0, .slice none 0 0, .slice none 0 0, .slice none 0 0]) (by simp [results, Tryz.results37, go_sem]) rfl ?_; exact CmdP.texts 3 [] _ rfl (jj _ _ _ _ _ _) (by decide) (fun h => by omega) (fun h => by omega) (fun h => by omega) rfl (by decide) ((((nb0 _ _).alloc (by simp) _).alloc (by simp; omega) _).alloc (by simp; omega) _)
theorem jjY (d m n : Nat) (x : Stk) (cs : List Value) (w : World) (h : StkM (n + 1) w x cs) (hp : ([3, 2, 5, 2, 6, 2, 4, 8, 9, 7, 10, 2] : List Nat)[jB x.kind 12]? = some 5) :
 Calls Tryz.prog 37 #[.agg cs.toArray, .int .i64 d] w (CmdQ (m + 2) w) := by
 obtain ⟨ai, ci, rfl, wk, wa, wb, ls, lt, hic, hcm, hR⟩ := h; have hpl := jz x.kind 12 (by omega); have hkk := jao hpl hp; clear hp; clear hR; go_enter Tryz.func37, Tryz.ntmps37; go_wp2_with fail; refine (jg x.kind 12 _ wk (by omega) (by omega)).mono ?_; rintro e w1 ⟨rfl, rfl⟩; generalize jB x.kind 12 = p at *; have hp12 : (p : Int) < 12 := by omega
 have hp0 : (0 : Int) ≤ (p : Int) := by omega
 go_wp2_with fail; refine (jg x.a 4 _ wa (by omega) (by omega)).mono ?_; rintro e w1 ⟨rfl, rfl⟩; have hpa := jz x.a 4 (by omega); generalize jB x.a 4 = pa at *; obtain ⟨nm, hnm, hnl⟩ := jnc hpa; have hb4 : (pa : Int) < 4 := by omega
 have hb0 : (0 : Int) ≤ (pa : Int) := by omega
 go_wp2; refine bodyPost_ret (v := .agg #[.int .i64 5, .slice (some ⟨w.heap.size + 1 + 1 + 1 + 1 + 1, 0, none⟩) 1 1, .int .i64 0, .int .i64 0, .int .i64 0, .slice none 0 0, .slice none 0 0, .bool false, .int .i64 0, .slice none 0 0, .slice none 0 0, .slice none 0 0]) (by simp [results, Tryz.results37, go_sem]) rfl ?_; refine CmdP.texts 5 [nm] _ rfl ?_ (by decide) (fun h => hnl) (fun h => by omega) (fun h => by omega) rfl (by decide) ((((((nb0 _ _).alloc (by simp) _).alloc (by simp; omega) _).alloc (by simp; omega) _).alloc (by simp; omega) _).alloc (by simp; omega) _); exact zr (t := 9) (fr := (0, 0)) (cs := [.string (S nm)]) (jm _ (by simp)) rfl (show w.heap.size ≤ _ by omega) rfl
theorem jdO (d m n : Nat) (x : Stk) (cs : List Value) (w : World) (h : StkM (n + 1) w x cs) (hp : ([3, 2, 5, 2, 6, 2, 4, 8, 9, 7, 10, 2] : List Nat)[jB x.kind 12]? = some 6) :
 Calls Tryz.prog 37 #[.agg cs.toArray, .int .i64 d] w (CmdQ (m + 2) w) := by
 obtain ⟨ai, ci, rfl, wk, wa, wb, ls, lt, hic, hcm, hR⟩ := h; have hpl := jz x.kind 12 (by omega); have hkk := jao hpl hp; clear hp; clear hR; go_enter Tryz.func37, Tryz.ntmps37; go_wp2_with fail; refine (jg x.kind 12 _ wk (by omega) (by omega)).mono ?_; rintro e w1 ⟨rfl, rfl⟩; generalize jB x.kind 12 = p at *; have hp12 : (p : Int) < 12 := by omega
 have hp0 : (0 : Int) ≤ (p : Int) := by omega
 go_wp2_with fail; refine (jg x.a 3 _ wa (by omega) (by omega)).mono ?_; rintro e w1 ⟨rfl, rfl⟩; have hpa := jz x.a 3 (by omega); generalize jB x.a 3 = pa at *; obtain ⟨nm, hnm, hnl⟩ := jna hpa; have hb4 : (pa : Int) < 3 := by omega
 have hb0 : (0 : Int) ≤ (pa : Int) := by omega
 go_wp2; refine bodyPost_ret (v := .agg #[.int .i64 6, .slice (some ⟨w.heap.size + 1 + 1 + 1 + 1 + 1, 0, none⟩) 1 1, .int .i64 0, .int .i64 0, .int .i64 0, .slice none 0 0, .slice none 0 0, .bool false, .int .i64 0, .slice none 0 0, .slice none 0 0, .slice none 0 0]) (by simp [results, Tryz.results37, go_sem]) rfl ?_; refine CmdP.texts 6 [nm] _ rfl ?_ (by decide) (fun h => by omega) (fun h => by omega) (fun h => hnl) rfl (by decide) ((((((nb0 _ _).alloc (by simp) _).alloc (by simp; omega) _).alloc (by simp; omega) _).alloc (by simp; omega) _).alloc (by simp; omega) _); exact zr (t := 9) (fr := (0, 0)) (cs := [.string (S nm)]) (jm _ (by simp)) rfl (show w.heap.size ≤ _ by omega) rfl
theorem jgu (d m n : Nat) (x : Stk) (cs : List Value) (w : World) (h : StkM (n + 1) w x cs) (hp : ([3, 2, 5, 2, 6, 2, 4, 8, 9, 7, 10, 2] : List Nat)[jB x.kind 12]? = some 7) :
 Calls Tryz.prog 37 #[.agg cs.toArray, .int .i64 d] w (CmdQ (m + 2) w) := by
 obtain ⟨ai, ci, rfl, wk, wa, wb, ls, lt, hic, hcm, hR⟩ := h; have hpl := jz x.kind 12 (by omega); have hkk := jao hpl hp; clear hp; clear hR; go_enter Tryz.func37, Tryz.ntmps37; go_wp2_with fail; refine (jg x.kind 12 _ wk (by omega) (by omega)).mono ?_; rintro e w1 ⟨rfl, rfl⟩; generalize jB x.kind 12 = p at *; have hp12 : (p : Int) < 12 := by omega
 have hp0 : (0 : Int) ≤ (p : Int) := by omega
 go_wp2_with fail; refine (qD x.s _ ls).mono ?_; rintro e w1 ⟨rfl, rfl⟩; go_wp2; refine bodyPost_ret (v := .agg #[.int .i64 7, .slice (some ⟨w.heap.size + 1 + 1 + 1 + 1, 0, none⟩) 1 1, .int .i64 0, .int .i64 0, .int .i64 0, .slice none 0 0, .slice none 0 0, .bool false, .int .i64 0, .slice none 0 0, .slice none 0 0, .slice none 0 0]) (by simp [results, Tryz.results37, go_sem]) rfl ?_; refine CmdP.texts 7 [x.s.take 12] _ rfl ?_ (by decide) (fun h => by omega) (fun h => by omega) (fun h => by omega) (by simp [qV, qn, jau, zp]; omega) (by decide) (((((nb0 _ _).alloc (by simp) _).alloc (by simp; omega) _).alloc (by simp; omega) _).alloc (by simp; omega) _); exact zr (t := 9) (fr := (0, 0)) (cs := [.string (S (x.s.take 12))]) (jm _ (by simp)) rfl (show w.heap.size ≤ _ by omega) rfl
theorem jeT (d m n : Nat) (x : Stk) (cs : List Value) (w : World) (h : StkM (n + 1) w x cs) (hp : ([3, 2, 5, 2, 6, 2, 4, 8, 9, 7, 10, 2] : List Nat)[jB x.kind 12]? = some 8) :
 Calls Tryz.prog 37 #[.agg cs.toArray, .int .i64 d] w (CmdQ (m + 2) w) := by
 obtain ⟨ai, ci, rfl, wk, wa, wb, ls, lt, hic, hcm, hR⟩ := h; have hpl := jz x.kind 12 (by omega); have hkk := jao hpl hp; clear hp; clear hR; obtain ⟨pa, hpa⟩ : ∃ pa, pa = jB x.a 3 := ⟨_, rfl⟩; have ha3 : pa < 3 := by rw [hpa]; exact jz _ _ (by omega)
 have HPA := hid hpa; have hwp : IntKind.i64.wrap ((pa : Int) + 1) = (pa : Int) + 1 := by rw [IntKind.wrap_i64]; omega
 have j1 : (0 : Int) ≤ (pa : Int) := by omega
 have j2 : (pa : Int) ≤ (pa : Int) + 1 := by omega
 have j3 : (pa : Int) + 1 ≤ 3 := by omega
 have j4 : ((pa : Int) + 1).toNat = pa + 1 := by omega
 have j5 : (0 : Int) ≤ (pa : Int) + 1 := by omega
 have j6 : ¬ 3 - pa = 0 := by omega
 have j7 : ¬ 3 = pa := by omega
 clear hpa; go_enter Tryz.func37, Tryz.ntmps37; go_wp2_with fail; refine (jg x.kind 12 _ wk (by omega) (by omega)).mono ?_; rintro e w1 ⟨rfl, rfl⟩; generalize jB x.kind 12 = p at *; have hp12 : (p : Int) < 12 := by omega
 have hp0 : (0 : Int) ≤ (p : Int) := by omega
 obtain ⟨W, hW⟩ : ∃ W, W = (((w.alloc (.cells #[.int .i64 x.kind, .int .i64 x.a, .int .i64 x.b, .string (S x.s), .string (S x.t), .slice ai x.ins.length ci] 50)).alloc (.cells #[.int .i64 0, .slice none 0 0, .int .i64 0, .int .i64 0, .int .i64 0, .slice none 0 0, .slice none 0 0, .bool false, .int .i64 0, .slice none 0 0, .slice none 0 0, .slice none 0 0] 58)).alloc (.cells #[.int .i64 3, .int .i64 2, .int .i64 5, .int .i64 2, .int .i64 6, .int .i64 2, .int .i64 4, .int .i64 8, .int .i64 9, .int .i64 7, .int .i64 10, .int .i64 2] 3)).alloc (.cells #[.int .i64 8, .slice none 0 0, .int .i64 0, .int .i64 0, .int .i64 0, .slice none 0 0, .slice none 0 0, .bool false, .int .i64 0, .slice none 0 0, .slice none 0 0, .slice none 0 0] 58) := ⟨_, rfl⟩; have HWE := hid hW; have hx := (jal (show W.heap[w.heap.size]? = some (.cells #[.int .i64 x.kind, .int .i64 x.a, .int .i64 x.b, .string (S x.s), .string (S x.t), .slice ai x.ins.length ci] 50) by rw [hW]; exact jf _ (jf _ (jf _ (jm _ rfl))))).2.1; have hr := (show W.heap[w.heap.size + 1]? = some (.cells #[.int .i64 0, .slice none 0 0, .int .i64 0, .int .i64 0, .int .i64 0, .slice none 0 0, .slice none 0 0, .bool false, .int .i64 0, .slice none 0 0, .slice none 0 0, .slice none 0 0] 58) by rw [hW]; exact jf _ (jf _ (jm _ (by simp)))); have hc := (show W.heap[w.heap.size + 1 + 1 + 1]? = some (.cells #[.int .i64 8, .slice none 0 0, .int .i64 0, .int .i64 0, .int .i64 0, .slice none 0 0, .slice none 0 0, .bool false, .int .i64 0, .slice none 0 0, .slice none 0 0, .slice none 0 0] 58) by rw [hW]; exact jm _ (by simp)); obtain ⟨r0, r1, r2, r3, r4, r5, r6, r7, r8, r9, r10, r11, f0, f1, f2, f3, f4, f5, f6, f7, f8, f9, f10, f11⟩ := jak hr; obtain ⟨c0, c1, c2, c3, c4, c5, c6, c7, c8, c9, c10, c11, g0, g1, g2, g3, g4, g5, g6, g7, g8, g9, g10, g11⟩ := jak hc; have HSZ := hid (show W.heap.size = w.heap.size + 4 by rw [hW]; simp); have HB := hid (show Below w.heap.size w W by rw [hW]; exact (((nb0 _ _).alloc (by simp) _).alloc (by simp; omega) _).alloc (by simp; omega) _); have lt3 : w.heap.size + 1 + 1 + 1 < W.heap.size := by rw [HSZ.out]; omega
 have lt1 : w.heap.size + 1 < W.heap.size := by omega
 have lt0 : w.heap.size < W.heap.size := by omega
 clear hW hr hc; go_wp2; rw [← HWE.out]
 go_region_held3 (fun w' => w'.cell? ⟨w.heap.size, 1, none⟩ = some (.int .i64 x.a)) (first | (go_keep; done) | exact jdL (je (jh hx (by omega))))
  (first
    | (go_at_call 12
       refine (jg x.a 3 _ wa (by decide) (by decide)).mono ?_; rintro e u ⟨rfl, hu⟩; have hu' := hu.symm; subst hu'; rw [← HPA.out]))
 all_goals
  go_wp2; refine bodyPost_ret (v := .agg #[.int .i64 8, .slice (some ⟨W.heap.size, pa, none⟩) 1 (3 - pa), .int .i64 0, .int .i64 0, .int .i64 0, .slice none 0 0, .slice none 0 0, .bool false, .int .i64 0, .slice none 0 0, .slice none 0 0, .slice none 0 0]) (by simp [results, Tryz.results37, go_sem, *]) rfl ?_; exact CmdQ.drew (CmdP.flag 8 pa (3 - pa) rfl ha3 (by decide) HB.out (by have := HSZ.out; omega))
theorem jeQ (d m n : Nat) (x : Stk) (cs : List Value) (w : World) (h : StkM (n + 1) w x cs) (hp : ([3, 2, 5, 2, 6, 2, 4, 8, 9, 7, 10, 2] : List Nat)[jB x.kind 12]? = some 9) :
 Calls Tryz.prog 37 #[.agg cs.toArray, .int .i64 d] w (CmdQ (m + 2) w) := by
 obtain ⟨ai, ci, rfl, wk, wa, wb, ls, lt, hic, hcm, hR⟩ := h; have hpl := jz x.kind 12 (by omega); have hkk := jao hpl hp; clear hp; clear hR; obtain ⟨pa, hpa⟩ : ∃ pa, pa = jB x.a 3 := ⟨_, rfl⟩; have ha3 : pa < 3 := by rw [hpa]; exact jz _ _ (by omega)
 have HPA := hid hpa; have hwp : IntKind.i64.wrap ((pa : Int) + 1) = (pa : Int) + 1 := by rw [IntKind.wrap_i64]; omega
 have j1 : (0 : Int) ≤ (pa : Int) := by omega
 have j2 : (pa : Int) ≤ (pa : Int) + 1 := by omega
 have j3 : (pa : Int) + 1 ≤ 3 := by omega
 have j4 : ((pa : Int) + 1).toNat = pa + 1 := by omega
 have j5 : (0 : Int) ≤ (pa : Int) + 1 := by omega
 have j6 : ¬ 3 - pa = 0 := by omega
 have j7 : ¬ 3 = pa := by omega
 clear hpa; go_enter Tryz.func37, Tryz.ntmps37; go_wp2_with fail; refine (jg x.kind 12 _ wk (by omega) (by omega)).mono ?_; rintro e w1 ⟨rfl, rfl⟩; generalize jB x.kind 12 = p at *; have hp12 : (p : Int) < 12 := by omega
 have hp0 : (0 : Int) ≤ (p : Int) := by omega
 obtain ⟨W, hW⟩ : ∃ W, W = (((w.alloc (.cells #[.int .i64 x.kind, .int .i64 x.a, .int .i64 x.b, .string (S x.s), .string (S x.t), .slice ai x.ins.length ci] 50)).alloc (.cells #[.int .i64 0, .slice none 0 0, .int .i64 0, .int .i64 0, .int .i64 0, .slice none 0 0, .slice none 0 0, .bool false, .int .i64 0, .slice none 0 0, .slice none 0 0, .slice none 0 0] 58)).alloc (.cells #[.int .i64 3, .int .i64 2, .int .i64 5, .int .i64 2, .int .i64 6, .int .i64 2, .int .i64 4, .int .i64 8, .int .i64 9, .int .i64 7, .int .i64 10, .int .i64 2] 3)).alloc (.cells #[.int .i64 9, .slice none 0 0, .int .i64 0, .int .i64 0, .int .i64 0, .slice none 0 0, .slice none 0 0, .bool false, .int .i64 0, .slice none 0 0, .slice none 0 0, .slice none 0 0] 58) := ⟨_, rfl⟩; have HWE := hid hW; have hx := (jal (show W.heap[w.heap.size]? = some (.cells #[.int .i64 x.kind, .int .i64 x.a, .int .i64 x.b, .string (S x.s), .string (S x.t), .slice ai x.ins.length ci] 50) by rw [hW]; exact jf _ (jf _ (jf _ (jm _ rfl))))).2.1; have hr := (show W.heap[w.heap.size + 1]? = some (.cells #[.int .i64 0, .slice none 0 0, .int .i64 0, .int .i64 0, .int .i64 0, .slice none 0 0, .slice none 0 0, .bool false, .int .i64 0, .slice none 0 0, .slice none 0 0, .slice none 0 0] 58) by rw [hW]; exact jf _ (jf _ (jm _ (by simp)))); have hc := (show W.heap[w.heap.size + 1 + 1 + 1]? = some (.cells #[.int .i64 9, .slice none 0 0, .int .i64 0, .int .i64 0, .int .i64 0, .slice none 0 0, .slice none 0 0, .bool false, .int .i64 0, .slice none 0 0, .slice none 0 0, .slice none 0 0] 58) by rw [hW]; exact jm _ (by simp)); obtain ⟨r0, r1, r2, r3, r4, r5, r6, r7, r8, r9, r10, r11, f0, f1, f2, f3, f4, f5, f6, f7, f8, f9, f10, f11⟩ := jak hr; obtain ⟨c0, c1, c2, c3, c4, c5, c6, c7, c8, c9, c10, c11, g0, g1, g2, g3, g4, g5, g6, g7, g8, g9, g10, g11⟩ := jak hc; have HSZ := hid (show W.heap.size = w.heap.size + 4 by rw [hW]; simp); have HB := hid (show Below w.heap.size w W by rw [hW]; exact (((nb0 _ _).alloc (by simp) _).alloc (by simp; omega) _).alloc (by simp; omega) _); have lt3 : w.heap.size + 1 + 1 + 1 < W.heap.size := by rw [HSZ.out]; omega
 have lt1 : w.heap.size + 1 < W.heap.size := by omega
 have lt0 : w.heap.size < W.heap.size := by omega
 clear hW hr hc; go_wp2; rw [← HWE.out]
 go_region_held3 (fun w' => w'.cell? ⟨w.heap.size, 1, none⟩ = some (.int .i64 x.a)) (first | (go_keep; done) | exact jdL (je (jh hx (by omega))))
  (first
    | (go_at_call 12
       refine (jg x.a 3 _ wa (by decide) (by decide)).mono ?_; rintro e u ⟨rfl, hu⟩; have hu' := hu.symm; subst hu'; rw [← HPA.out]))
 all_goals
  go_wp2; refine bodyPost_ret (v := .agg #[.int .i64 9, .slice (some ⟨W.heap.size, pa, none⟩) 1 (3 - pa), .int .i64 0, .int .i64 0, .int .i64 0, .slice none 0 0, .slice none 0 0, .bool false, .int .i64 0, .slice none 0 0, .slice none 0 0, .slice none 0 0]) (by simp [results, Tryz.results37, go_sem, *]) rfl ?_; exact CmdQ.drew (CmdP.flag 9 pa (3 - pa) rfl ha3 (by decide) HB.out (by have := HSZ.out; omega))
end Go.Proofs.YtaapmpchcfcniaaGreatDoor
