/-
  What the laws' maker of tests does: the walk.
-/
import Derived.Test.YtaapmpchcfcniaaGreatDoorXQCodTs3
import Derived.Test.YtaapmpchcfcniaaGreatDoorXKeepPick
import Derived.Test.YtaapmpchcfcniaaGreatDoorXKeepWd
import Derived.Test.YtaapmpchcfcniaaGreatDoorXCut
set_option maxHeartbeats 8000000
set_option maxRecDepth 100000
namespace Go.Proofs.YtaapmpchcfcniaaGreatDoor
open Go.RowKit Go.Proofs
theorem jm9 (l : List UInt8) (n : Nat) : cutB (S l) n = S (l.take n) := by
 unfold cutB; rw [jln]
 congr 1
 rw [jy]
 rcases Nat.le_total l.length n with h | h
 · rw [Nat.min_eq_left h, List.take_of_length_le (Nat.le_refl _), List.take_of_length_le h]
 · rw [Nat.min_eq_right h]
theorem qD (s : List UInt8) (w : World) (hs : s.length ≤ maxLen) :
 Calls Tryz.prog 29 #[.string (S s)] w fun e w' => e = .returned (.string (S (s.take 12))) ∧ w' = w := by
 have HE := hid (show cutB (S s) 12 = S (s.take 12) from jm9 s 12); have hsz : (S s).size ≤ maxLen := by rw [jy]; exact hs
 go_enter Tryz.func29, Tryz.ntmps29; go_wp2_with fail; refine (jeW (S s) 12 w hsz (by omega)).mono ?_; rintro e w1 ⟨rfl, rfl⟩; rw [HE.out]; go_wp2; go_ret; exact ⟨rfl, rfl⟩
def NT (t : Tst) : Prop := ∀ n, jc5 n t ∧ FitT n t
theorem NT.mk {t : Tst} (h1 : zH t.names = false) (h2 : zH t.keys = false) (h3 : t.kind = 8 → t.names.all qc = true) (h4 : ∀ u ∈ t.tests, NT u) (h5 : fitH t = true) : NT t := by
 intro n; cases n with
 | zero => exact ⟨trivial, trivial⟩
 | succ n => exact ⟨⟨h1, h2, h3, fun u hu => (h4 u hu n).1⟩, h5, fun u hu => (h4 u hu n).2⟩
theorem NT.bare (k m p l : Int) (o : Bool) (hf : fitH ⟨k, m, p, [], [], o, l, []⟩ = true) : NT ⟨k, m, p, [], [], o, l, []⟩ := NT.mk rfl rfl (fun _ => rfl) (fun u hu => by cases hu) hf
def TestP (m : Nat) (w : World) (e : Ending) (w' : World) : Prop := ∃ (t : Tst) (cs' : List Value), e = .returned (.agg cs'.toArray) ∧ TstM (newB' w.heap.size) m w' t cs' ∧ NT t ∧ Below w.heap.size w w'
def TestC (d m : Nat) : Prop := ∀ (n : Nat) (x : Stk) (cs : List Value) (w : World), StkM n w x cs →
    Calls Tryz.prog 11 #[.agg cs.toArray, .int .i64 d] w (TestP m w)
theorem TestP.bare {m : Nat} {w w' : World} {e : Ending} (k ma p l : Int) (o : Bool) (hf : fitH ⟨k, ma, p, [], [], o, l, []⟩ = true) (he : e = .returned (.agg #[.int .i64 k, .int .i64 ma, .int .i64 p, .slice none 0 0, .slice none 0 0, .bool o, .int .i64 l, .slice none 0 0])) (hb : Below w.heap.size w w') : TestP (m + 1) w e w' :=
 ⟨⟨k, ma, p, [], [], o, l, []⟩, _, he, ⟨_, _, _, rfl, jj _ _ _ _ _ _, jj _ _ _ _ _ _, jj _ _ _ _ _ _⟩, NT.bare _ _ _ _ _ hf, hb⟩
theorem TestP.cmp {m : Nat} {w w' : World} {e : Ending} (k ma p : Int) (nm : List UInt8) (keys : List (List UInt8)) (vn vk : Value) (he : e = .returned (.agg #[.int .i64 k, .int .i64 ma, .int .i64 p, vn, vk, .bool false, .int .i64 0, .slice none 0 0]))
 (hn : TxtsM (newB' w.heap.size) w' vn [nm]) (hk : TxtsM (newB' w.heap.size) w' vk keys) (hl : nm.length ≤ 100) (hks : ∀ s ∈ keys, s.length ≤ 100) (h8 : k = 8 → qc nm = true) (hf : fitH ⟨k, ma, p, [nm], keys, false, 0, []⟩ = true) (hb : Below w.heap.size w w') : TestP (m + 1) w e w' := by
 refine ⟨⟨k, ma, p, [nm], keys, false, 0, []⟩, _, he, ⟨_, _, _, rfl, hn, hk, jj _ _ _ _ _ _⟩, NT.mk ?_ ?_ (fun h => ?_) (fun u hu => by cases hu) hf, hb⟩
 · simp [zH, hl]
 · show keys.any _ = false
   rw [List.any_eq_false]; intro s hs; have := hks s hs
   simp; omega
 · simp [h8 h]
theorem jal {w : World} {b : Nat} {v0 v1 v2 v3 v4 v5 : Value} {t : TypeId} (h : w.heap[b]? = some (.cells #[v0, v1, v2, v3, v4, v5] t)) :
 w.cell? ⟨b, 0, none⟩ = some v0 ∧ w.cell? ⟨b, 1, none⟩ = some v1 ∧ w.cell? ⟨b, 2, none⟩ = some v2 ∧ w.cell? ⟨b, 3, none⟩ = some v3 ∧ w.cell? ⟨b, 4, none⟩ = some v4 ∧ w.cell? ⟨b, 5, none⟩ = some v5 :=
 ⟨jC h rfl, jC h rfl, jC h rfl, jC h rfl, jC h rfl, jC h rfl⟩
theorem jl {w w' : World} {B : Nat} (h : Below B w w') {b : Nat} {x : Obj} (hb : w.heap[b]? = some x) (hr : b < B) : w'.heap[b]? = some x := (h.block b hr).trans hb
theorem vw {w : World} {p : Addr} (v : Value) {b : Nat} {x : Obj} (hb : w.heap[b]? = some x) (hr : b ≠ p.block) : (w.setCell p v).heap[b]? = some x := (Below.heap_setCell _ _ _ _ hr).trans hb
theorem jfb {w : World} {base n : Nat} {v : Value} {l : List (List UInt8)} {Q : Nat → Prop} (h : w.ownsRow base 9 1 v n (l.map fun s => .string (S s))) (hn : n = l.length) (hq : ∀ b, base ≤ b → Q b) (hl : l.length ≤ maxLen) : TxtsM Q w v l := by
 subst hn
 rcases h.2 with ⟨rfl, hn⟩ | ⟨g, cap, cur, rfl, hb, hg, hcap, hcm, hcs, htk⟩
 · have : l = [] := List.length_eq_zero_iff.1 hn; subst this; exact jj _ _ _ _ _ _
 · refine ⟨some ⟨g, 0, none⟩, cap, rfl, hl, fun i x hx => ?_⟩; refine ⟨g, 0, [.string (S x)], rfl, (Array.getElem?_eq_some_iff.1 hg).1, hq g hb, rfl, fun j u hj => ?_, rfl⟩; cases j with
   | succ j => simp at hj
   | zero =>
     simp at hj
     subst hj; have := World.ownsRow.cells h (g := g) rfl i (.string (S x)) (by rw [List.getElem?_map, hx]; rfl); rw [Addr.add_lit] at this
     simpa using this
theorem TestP.fin {m : Nat} {w W1 : World} {e : Ending} {t : Tst} {cs : List Value} (hT : TstM (fun b => w.heap.size + 1 < b) m W1 t cs) (hN : NT t) (hB : Below w.heap.size w W1) (he : e = .returned (.agg cs.toArray)) : TestP m w e (jM W1 (w.heap.size + 1) 0 cs) :=
 ⟨t, cs, he, TstM.imp (fun b hb => show w.heap.size ≤ b by have : w.heap.size + 1 < b := hb; omega) (jI (fun k (hk : w.heap.size + 1 < k) => by omega) cs 0 W1 W1 (Keeps.refl _ _)) _ _ _ hT, hN, jU (by omega) cs 0 W1 w hB⟩
theorem jaN {a b n c : Nat} (h : a ≠ b) : some a ≠ (Value.slice (some ⟨b, 0, none⟩) n c).ownBlock := fun e => h (Option.some.inj e)
theorem jas {w w1 w' : World} {B b n c : Nat} (hB : Below B w w1) (hg : w1.drew.grownBy w' (Value.slice (some ⟨b, 0, none⟩) n c).ownBlock) (hs : B ≤ w1.heap.size) (hb : B ≤ b) : Below B w w' :=
 Below.grown (show Below B w w1.drew from hB.drew) hg hs fun j hj => by have := Option.some.inj hj; subst this; exact hb
theorem je6 : (Tryz.prog.info? 9).map (fun i => (i.zero, i.size, i.bytes)) = some (some (.string ⟨#[]⟩), 1, 16) := by kernel_rfl
theorem jif {pb : Nat} (h : pb < 4) : ∃ nm : List UInt8, (∀ h, ([Value.string { data := #[115, 117, 98, 106, 101, 99, 116] }, Value.string { data := #[116, 111] }, Value.string { data := #[102, 114, 111, 109] }, Value.string { data := #[120] }] : List Value)[pb]'h = .string (S nm)) ∧ nm.length ≤ 100 := by
 match pb, h with
 | 0, _ => exact ⟨[115, 117, 98, 106, 101, 99, 116], fun _ => rfl, by decide⟩
 | 1, _ => exact ⟨[116, 111], fun _ => rfl, by decide⟩
 | 2, _ => exact ⟨[102, 114, 111, 109], fun _ => rfl, by decide⟩
 | 3, _ => exact ⟨[120], fun _ => rfl, by decide⟩
theorem jnj {pb : Nat} (h : pb < 2) : ∃ nm : List UInt8, (∀ h, ([Value.string { data := #[102, 114, 111, 109] }, Value.string { data := #[116, 111] }] : List Value)[pb]'h = .string (S nm)) ∧ qc nm = true := by
 match pb, h with
 | 0, _ => exact ⟨[102, 114, 111, 109], fun _ => rfl, by decide⟩
 | 1, _ => exact ⟨[116, 111], fun _ => rfl, by decide⟩
theorem jef {s : List UInt8} (h : qc s = true) : s.length ≤ 100 := by
 unfold qc at h
 simp at h
 rcases h with e | e <;> rw [e] <;> decide
theorem TestP.two {m : Nat} {w w3 : World} {e : Ending} {g cap b : Nat} (k ma p : Int) (nm : List UInt8) (k1 k2 : List UInt8)
 (he : e = .returned (.agg #[.int .i64 k, .int .i64 ma, .int .i64 p, .slice (some ⟨b, 0, none⟩) 1 1, .slice (some ⟨g, 0, none⟩) 2 cap, .bool false, .int .i64 0, .slice none 0 0]))
 (hn : w3.heap[b]? = some (.cells #[.string (S nm)] 9)) (hb : w.heap.size + 1 + 1 < b) (hk : TxtsM (fun b => w.heap.size + 1 + 1 < b) w3 (.slice (some ⟨g, 0, none⟩) 2 cap) [k1, k2]) (hl : nm.length ≤ 100) (h8 : k = 8 → qc nm = true) (l1 : k1.length ≤ 100) (l2 : k2.length ≤ 100) (hf : fitH ⟨k, ma, p, [nm], [k1, k2], false, 0, []⟩ = true) (hB : Below w.heap.size w w3) :
 TestP (m + 1) w e (jM (w3.setCell ⟨w.heap.size + 1 + 1, 4, none⟩ (.slice (some ⟨g, 0, none⟩) 2 cap)) (w.heap.size + 1) 0 [.int .i64 k, .int .i64 ma, .int .i64 p, .slice (some ⟨b, 0, none⟩) 1 1, .slice (some ⟨g, 0, none⟩) 2 cap, .bool false, .int .i64 0, .slice none 0 0]) := by
 have hkp : Keeps (fun b => w.heap.size + 1 + 1 < b) w3 (w3.setCell ⟨w.heap.size + 1 + 1, 4, none⟩ (.slice (some ⟨g, 0, none⟩) 2 cap)) := Keeps.set w3 _ fun k hk => by have : w.heap.size + 1 + 1 < k := hk; show k ≠ w.heap.size + 1 + 1; omega
 have hq : ∀ k, w.heap.size + 1 + 1 < k → w.heap.size + 1 < k := fun k hk => by omega
 refine TestP.fin (t := ⟨k, ma, p, [nm], [k1, k2], false, 0, []⟩) ⟨_, _, _, rfl, TxtsM.imp (zr (t := 9) (fr := (0, 0)) (cs := [.string (S nm)]) hn rfl hb rfl) hq hkp, TxtsM.imp hk hq hkp, jj _ _ _ _ _ _⟩ (NT.mk ?_ ?_ (fun h => ?_) (fun u hu => by cases hu) hf) (hB.setCell (by simp; omega) _) he
 · simp [zH, hl]
 · simp [zH, l1, l2]
 · simp [h8 h]
theorem TestP.tests {m : Nat} {w W1 : World} {e : Ending} (k : Int) (l : List Tst) (v : Value) (he : e = .returned (.agg #[.int .i64 k, .int .i64 0, .int .i64 0, .slice none 0 0, .slice none 0 0, .bool false, .int .i64 0, v]))
 (hl : TstsM (fun b => w.heap.size + 1 < b) m W1 v l) (hN : ∀ u ∈ l, NT u) (hk : k = 4 ∨ k = 5) (h0 : 0 < l.length) (h3 : l.length ≤ 3) (hB : Below w.heap.size w W1) :
 TestP (m + 1) w e (jM W1 (w.heap.size + 1) 0 [.int .i64 k, .int .i64 0, .int .i64 0, .slice none 0 0, .slice none 0 0, .bool false, .int .i64 0, v]) :=
 TestP.fin (t := ⟨k, 0, 0, [], [], false, 0, l⟩) ⟨_, _, _, rfl, jj _ _ _ _ _ _, jj _ _ _ _ _ _, hl⟩ (NT.mk rfl rfl (fun (h : k = 8) => by omega) hN (jh2 hk h0 h3)) hB he
theorem TestP.one {m : Nat} {w w2 : World} {e : Ending} (k : Int) (t' : Tst) (cs' : List Value) (he : e = .returned (.agg #[.int .i64 k, .int .i64 0, .int .i64 0, .slice none 0 0, .slice none 0 0, .bool false, .int .i64 0, .slice (some ⟨w2.heap.size, 0, none⟩) 1 1]))
 (hT : TstM (fun b => w.heap.size + 1 + 1 < b) m w2 t' cs') (hN : NT t') (hk : k = 3 ∨ k = 4 ∨ k = 5) (hB : Below w.heap.size w w2) (hs : w.heap.size + 1 + 1 < w2.heap.size) :
 TestP (m + 1) w e ((jM (w2.setCell ⟨w.heap.size + 1 + 1, 7, none⟩ (.slice (some ⟨w2.heap.size, 0, none⟩) 1 1)) (w.heap.size + 1) 0 [.int .i64 k, .int .i64 0, .int .i64 0, .slice none 0 0, .slice none 0 0, .bool false, .int .i64 0, .slice (some ⟨w2.heap.size, 0, none⟩) 1 1]).alloc (.cells cs'.toArray 54)) := by
 have hz : (jM (w2.setCell ⟨w.heap.size + 1 + 1, 7, none⟩ (.slice (some ⟨w2.heap.size, 0, none⟩) 1 1)) (w.heap.size + 1) 0 [.int .i64 k, .int .i64 0, .int .i64 0, .slice none 0 0, .slice none 0 0, .bool false, .int .i64 0, .slice (some ⟨w2.heap.size, 0, none⟩) 1 1]).heap.size = w2.heap.size := by rw [zx]; simp [World.setCell]
 have hkp : Keeps (fun b => w.heap.size + 1 + 1 < b) w2 ((jM (w2.setCell ⟨w.heap.size + 1 + 1, 7, none⟩ (.slice (some ⟨w2.heap.size, 0, none⟩) 1 1)) (w.heap.size + 1) 0 [.int .i64 k, .int .i64 0, .int .i64 0, .slice none 0 0, .slice none 0 0, .bool false, .int .i64 0, .slice (some ⟨w2.heap.size, 0, none⟩) 1 1]).alloc (.cells cs'.toArray 54)) :=
  (jI (fun j (hj : w.heap.size + 1 + 1 < j) => by omega) _ 0 _ w2 (Keeps.set w2 _ fun j (hj : w.heap.size + 1 + 1 < j) => by show j ≠ w.heap.size + 1 + 1; omega)).more _
 refine ⟨⟨k, 0, 0, [], [], false, 0, [t']⟩, _, he, ⟨_, _, _, rfl, jj _ _ _ _ _ _, jj _ _ _ _ _ _, ?_⟩, NT.mk rfl rfl (fun (h : k = 8) => by omega) (fun u hu => by simp at hu; rw [hu]; exact hN) (jl8 hk), ?_⟩
 · exact zr (t := 54) (fr := (0, 0)) (jm _ hz.symm) (jm5 hT) (show w.heap.size ≤ w2.heap.size by omega) (TstM.imp (fun j (hj : w.heap.size + 1 + 1 < j) => show w.heap.size ≤ j by omega) hkp _ _ _ hT)
 · exact (jU (by omega) _ 0 _ w (hB.setCell (by simp; omega) _)).alloc (by rw [hz]; omega) _
theorem jk5 (w : World) (a : Int) (ha : (Lit.int .i64 a).wf = true) : StkM 1 w ⟨a, 0, 0, [], [], []⟩ [.int .i64 a, .int .i64 0, .int .i64 0, .string ⟨#[]⟩, .string ⟨#[]⟩, .slice none 0 0] :=
 ⟨none, 0, rfl, ha, rfl, rfl, by unfold maxLen; simp, by unfold maxLen; simp, Nat.le_refl _, ⟨by unfold maxLen; omega, by simp⟩, jj _ _ _ _ _ _⟩
theorem jbC {n : Nat} {w : World} {x : Stk} {cs : List Value} (h : StkM n w x cs) : ∃ ai ci, cs = [.int .i64 x.kind, .int .i64 x.a, .int .i64 x.b, .string (S x.s), .string (S x.t), .slice ai x.ins.length ci] := by
 cases n with
 | zero => exact h.elim
 | succ n => obtain ⟨ai, ci, h, _⟩ := h; exact ⟨ai, ci, h⟩
theorem jhS (W : World) (cs : List Value) (t : TypeId) (b : Nat) (hb : b = W.heap.size) : ∀ (j : Nat) u, cs[j]? = some u → (W.alloc (.cells cs.toArray t)).cell? ((⟨b, 0, none⟩ : Addr).add j) = some u := by
 subst hb; exact jlY W cs t
theorem jhC {b j : Nat} (w : World) (v : Value) : But b w (w.setCell ⟨b, j, none⟩ v) :=
 ⟨rfl, rfl, rfl, by simp [World.setCell], fun k _ hn => Below.heap_setCell _ _ _ _ hn⟩
theorem jf3 {Q : Nat → Prop} (w : World) (k : Int) {m : Nat} (hm : 0 < m) : TstM Q m w ⟨k, 0, 0, [], [], false, 0, []⟩ [.int .i64 k, .int .i64 0, .int .i64 0, .slice none 0 0, .slice none 0 0, .bool false, .int .i64 0, .slice none 0 0] := by
 cases m with
 | zero => omega
 | succ m => exact ⟨_, _, _, rfl, jj _ _ _ _ _ _, jj _ _ _ _ _ _, jj _ _ _ _ _ _⟩
theorem jid {w w' : World} {o1 o2 : Obj} {r : Option Nat} (h : ((w.alloc o1).alloc o2).grownBy w' r) : w.grownBy w' r :=
 ⟨h.os, h.tape, h.output, by have := h.size; simp at this; omega, fun k hk hn => (h.block k (by simp; omega) hn).trans (by
  show ((w.heap.push o1).push o2)[k]? = _
  rw [Array.getElem?_push_lt (by simp; omega), Array.getElem_push_lt hk, Array.getElem?_eq_getElem hk])⟩
theorem vf (W : World) {pa : Nat} {nm : List UInt8} (h : ∀ h, ([Value.string { data := #[115, 117, 98, 106, 101, 99, 116] }, Value.string { data := #[116, 111] }, Value.string { data := #[99, 99] }] : List Value)[pa]'h = .string (S nm)) (hp : pa < 3) :
 (W.alloc (.cells #[Value.string { data := #[115, 117, 98, 106, 101, 99, 116] }, Value.string { data := #[116, 111] }, Value.string { data := #[99, 99] }] 9)).cell? ⟨W.heap.size, pa, none⟩ = some (.string (S nm)) := by
 rw [World.cell?_alloc_at _ _ _ _ rfl, List.getElem?_toArray, List.getElem?_eq_getElem (by simpa using hp), h]
theorem TestP.exi {m : Nat} {w F : World} {e : Ending} (nm wd : List UInt8) (q bp : Nat) (he : e = .returned (.agg #[.int .i64 9, .int .i64 0, .int .i64 0, .slice (some ⟨bp, 0, none⟩) q 2, .slice none 0 0, .bool false, .int .i64 0, .slice none 0 0]))
 (hp : F.heap[bp]? = some (.cells #[.string (S nm), .string (S wd)] 9)) (hbp : w.heap.size ≤ bp) (h1 : nm.length ≤ 100) (h2 : wd.length ≤ 100) (hq0 : 0 < q) (hq : q ≤ 2) (hB : Below w.heap.size w F) : TestP (m + 1) w e F := by
 have hrow : TxtsM (newB' w.heap.size) F (.slice (some ⟨bp, 0, none⟩) 2 2) [nm, wd] := by
  refine ⟨_, 2, rfl, by unfold maxLen; simp, fun i x hx => ?_⟩; refine ⟨bp, 0, [.string (S x)], rfl, (Array.getElem?_eq_some_iff.1 hp).1, hbp, rfl, fun j u hj => ?_, rfl⟩; cases j with
  | succ j => simp at hj
  | zero =>
    simp at hj
    subst hj; rw [Nat.zero_add, Nat.mul_one, Nat.add_zero]
    match i, hx with
    | 0, hx => simp at hx; subst hx; exact jC hp rfl
    | 1, hx => simp at hx; subst hx; exact jC hp rfl
 have ht : ∀ s ∈ [nm, wd].take q, s.length ≤ 100 := fun s hs => by
  have := List.mem_of_mem_take hs
  simp at this
  rcases this with e | e <;> rw [e] <;> assumption
 refine ⟨⟨9, 0, 0, [nm, wd].take q, [], false, 0, []⟩, _, he, ⟨_, _, _, rfl, RowM.takeR (l := [nm, wd]) hrow q 2 (by simpa using hq), jj _ _ _ _ _ _, jj _ _ _ _ _ _⟩, NT.mk ?_ rfl (fun h => by cases h) (fun u hu => by cases hu) (jl7 hq0 hq), hB⟩
 show List.any _ _ = false
 rw [List.any_eq_false]; intro s hs; have := ht s hs
 simp; omega
theorem je {w : World} {o : Obj} {b j : Nat} {v : Value} (h : w.cell? ⟨b, j, none⟩ = some v) : (w.alloc o).cell? ⟨b, j, none⟩ = some v :=
 (World.cell?_alloc_past o b j (World.block_lt_of_cell? w _ h)).trans h
theorem jnk {pb : Nat} (h : pb < 3) : ∃ nm : List UInt8, (∀ h, ([Value.string { data := #[115, 117, 98, 106, 101, 99, 116] }, Value.string { data := #[116, 111] }, Value.string { data := #[99, 99] }] : List Value)[pb]'h = .string (S nm)) ∧ nm.length ≤ 100 := by
 match pb, h with
 | 0, _ => exact ⟨[115, 117, 98, 106, 101, 99, 116], fun _ => rfl, by decide⟩
 | 1, _ => exact ⟨[116, 111], fun _ => rfl, by decide⟩
 | 2, _ => exact ⟨[99, 99], fun _ => rfl, by decide⟩
theorem jfr {P : Program} {md : Region.Mode} {ops : Array Oper} {Q : Exit → Act → World → Prop} {S S' : World → Prop} (h : ∀ w, S' w → S w) : ∀ (fuel : Nat) (listed : Array Bool) (a : Act) (w : World), wpAnyH P md ops Q S' fuel listed a w → wpAnyH P md ops Q S fuel listed a w := by
 intro fuel
 induction fuel with
 | zero => intro listed a w hw; exact hw
 | succ fuel ih =>
   intro listed a w hw; exact ⟨hw.1, fun i hi => wpOp_mono (fun a' w' hh => ⟨h _ hh.1, ih _ _ _ hh.2⟩) (hw.2 i hi)⟩
theorem qt (W : World) (b : Nat) (hb : b = W.heap.size) {pa : Nat} {nm : List UInt8} (h : ∀ h, ([Value.string { data := #[115, 117, 98, 106, 101, 99, 116] }, Value.string { data := #[116, 111] }, Value.string { data := #[99, 99] }] : List Value)[pa]'h = .string (S nm)) (hp : pa < 3) :
 (W.alloc (.cells #[Value.string { data := #[115, 117, 98, 106, 101, 99, 116] }, Value.string { data := #[116, 111] }, Value.string { data := #[99, 99] }] 9)).cell? ⟨b, pa, none⟩ = some (.string (S nm)) := by
 subst hb; exact vf W h hp
theorem qs {P : Program} {md : Region.Mode} {ops : Array Oper} {Q : Exit → Act → World → Prop} {S E : World → Prop} {fuel : Nat} {listed : Array Bool} {a : Act} {w : World} (hS : S w) (hE : E w) (k : S w ∧ E w → wpAnyH P md ops Q (fun w => S w ∧ E w) fuel listed a w) : wpAnyH P md ops Q S fuel listed a w :=
 jfr (fun _ h => h.1) _ _ _ _ (k ⟨hS, hE⟩)
theorem TestP.exi1 {m : Nat} {w wS : World} {e : Ending} (nm wd : List UInt8) (q : Nat) (he : e = .returned (.agg #[.int .i64 9, .int .i64 0, .int .i64 0, .slice (some ⟨wS.heap.size, 0, none⟩) q 2, .slice none 0 0, .bool false, .int .i64 0, .slice none 0 0]))
 (h1 : nm.length ≤ 100) (h2 : wd.length ≤ 100) (hq0 : 0 < q) (hq : q ≤ 2) (hB : Below w.heap.size w wS) (hs : w.heap.size + 1 + 1 < wS.heap.size) : TestP (m + 1) w e ((jM (wS.setCell ⟨w.heap.size + 1 + 1, 3, none⟩ (.slice (some ⟨wS.heap.size, 0, none⟩) q 2)) (w.heap.size + 1) 0 [.int .i64 9, .int .i64 0, .int .i64 0, .slice (some ⟨wS.heap.size, 0, none⟩) q 2, .slice none 0 0, .bool false, .int .i64 0, .slice none 0 0]).alloc (.cells #[.string (S nm), .string (S wd)] 9)) := by
 have hz : (jM (wS.setCell ⟨w.heap.size + 1 + 1, 3, none⟩ (.slice (some ⟨wS.heap.size, 0, none⟩) q 2)) (w.heap.size + 1) 0 [.int .i64 9, .int .i64 0, .int .i64 0, .slice (some ⟨wS.heap.size, 0, none⟩) q 2, .slice none 0 0, .bool false, .int .i64 0, .slice none 0 0]).heap.size = wS.heap.size := by rw [zx]; simp [World.setCell]
 have hb0 : Below w.heap.size w (jM (wS.setCell ⟨w.heap.size + 1 + 1, 3, none⟩ (.slice (some ⟨wS.heap.size, 0, none⟩) q 2)) (w.heap.size + 1) 0 [.int .i64 9, .int .i64 0, .int .i64 0, .slice (some ⟨wS.heap.size, 0, none⟩) q 2, .slice none 0 0, .bool false, .int .i64 0, .slice none 0 0]) := jU (by omega) _ 0 _ w (hB.setCell (by simp; omega) _); exact TestP.exi nm wd q _ he (jm _ hz.symm) (by omega) h1 h2 hq0 hq (hb0.alloc (by rw [hz]; omega) _)
theorem TestP.exi2 {m : Nat} {w wS : World} {e : Ending} (nm wd : List UInt8) (q : Nat) (he : e = .returned (.agg #[.int .i64 9, .int .i64 0, .int .i64 0, .slice (some ⟨wS.heap.size + 1, 0, none⟩) q 2, .slice none 0 0, .bool false, .int .i64 0, .slice none 0 0]))
 (h1 : nm.length ≤ 100) (h2 : wd.length ≤ 100) (hq0 : 0 < q) (hq : q ≤ 2) (hB : Below w.heap.size w wS) (hs : w.heap.size + 1 + 1 < wS.heap.size) : TestP (m + 1) w e (((jM (wS.setCell ⟨w.heap.size + 1 + 1, 3, none⟩ (.slice (some ⟨wS.heap.size + 1, 0, none⟩) q 2)) (w.heap.size + 1) 0 [.int .i64 9, .int .i64 0, .int .i64 0, .slice (some ⟨wS.heap.size + 1, 0, none⟩) q 2, .slice none 0 0, .bool false, .int .i64 0, .slice none 0 0]).alloc (.cells #[.string ⟨#[115, 117, 98, 106, 101, 99, 116]⟩, .string ⟨#[116, 111]⟩, .string ⟨#[99, 99]⟩] 9)).alloc (.cells #[.string (S nm), .string (S wd)] 9)) := by
 have hz : (jM (wS.setCell ⟨w.heap.size + 1 + 1, 3, none⟩ (.slice (some ⟨wS.heap.size + 1, 0, none⟩) q 2)) (w.heap.size + 1) 0 [.int .i64 9, .int .i64 0, .int .i64 0, .slice (some ⟨wS.heap.size + 1, 0, none⟩) q 2, .slice none 0 0, .bool false, .int .i64 0, .slice none 0 0]).heap.size = wS.heap.size := by rw [zx]; simp [World.setCell]
 have hb0 : Below w.heap.size w (jM (wS.setCell ⟨w.heap.size + 1 + 1, 3, none⟩ (.slice (some ⟨wS.heap.size + 1, 0, none⟩) q 2)) (w.heap.size + 1) 0 [.int .i64 9, .int .i64 0, .int .i64 0, .slice (some ⟨wS.heap.size + 1, 0, none⟩) q 2, .slice none 0 0, .bool false, .int .i64 0, .slice none 0 0]) := jU (by omega) _ 0 _ w (hB.setCell (by simp; omega) _); exact TestP.exi nm wd q _ he (jm _ (by show _ = (Array.push _ _).size; rw [Array.size_push, hz])) (by omega) h1 h2 hq0 hq ((hb0.alloc (by rw [hz]; omega) _).alloc (by show _ ≤ (Array.push _ _).size; rw [Array.size_push, hz]; omega) _)
theorem jch (d m n : Nat) (x : Stk) (cs : List Value) (w : World) (h : StkM (n + 1) w x cs) (hp : jB x.kind 10 = 0) :
 Calls Tryz.prog 11 #[.agg cs.toArray, .int .i64 d] w (TestP (m + 1) w) := by
 obtain ⟨ai, ci, rfl, wk, wa, wb, ls, lt, hic, hcm, hR⟩ := h; clear hR
 by_cases hd : d < 3
 all_goals
  go_enter Tryz.func11, Tryz.ntmps11; go_wp2_with fail; refine (jg x.kind 10 _ wk (by omega) (by omega)).mono ?_; rintro e w1 ⟨rfl, rfl⟩; rw [hp]; go_wp2; refine bodyPost_ret (v := .agg #[.int .i64 1, .int .i64 0, .int .i64 0, .slice none 0 0, .slice none 0 0, .bool false, .int .i64 0, .slice none 0 0]) (by simp [results, Tryz.results11, go_sem]) rfl ?_; exact TestP.bare 1 0 0 0 false rfl rfl (((nb0 _ _).alloc (by simp) _).alloc (by simp; omega) _)
theorem jbd (d m n : Nat) (x : Stk) (cs : List Value) (w : World) (h : StkM (n + 1) w x cs) (hp : jB x.kind 10 = 1) :
 Calls Tryz.prog 11 #[.agg cs.toArray, .int .i64 d] w (TestP (m + 1) w) := by
 obtain ⟨ai, ci, rfl, wk, wa, wb, ls, lt, hic, hcm, hR⟩ := h; clear hR
 by_cases hd : d < 3
 all_goals
  go_enter Tryz.func11, Tryz.ntmps11; go_wp2_with fail; refine (jg x.kind 10 _ wk (by omega) (by omega)).mono ?_; rintro e w1 ⟨rfl, rfl⟩; rw [hp]; go_wp2; refine bodyPost_ret (v := .agg #[.int .i64 2, .int .i64 0, .int .i64 0, .slice none 0 0, .slice none 0 0, .bool false, .int .i64 0, .slice none 0 0]) (by simp [results, Tryz.results11, go_sem]) rfl ?_; exact TestP.bare 2 0 0 0 false rfl rfl (((nb0 _ _).alloc (by simp) _).alloc (by simp; omega) _)
theorem jcY (d m n : Nat) (x : Stk) (cs : List Value) (w : World) (h : StkM (n + 1) w x cs) (hp : jB x.kind 10 = 2) (hd : ¬ d < 3) :
 Calls Tryz.prog 11 #[.agg cs.toArray, .int .i64 d] w (TestP (m + 1) w) := by
 obtain ⟨ai, ci, rfl, wk, wa, wb, ls, lt, hic, hcm, hR⟩ := h; clear hR; go_enter Tryz.func11, Tryz.ntmps11; go_wp2_with fail; refine (jg x.kind 10 _ wk (by omega) (by omega)).mono ?_; rintro e w1 ⟨rfl, rfl⟩; rw [hp]; go_wp2; refine bodyPost_ret (v := .agg #[.int .i64 1, .int .i64 0, .int .i64 0, .slice none 0 0, .slice none 0 0, .bool false, .int .i64 0, .slice none 0 0]) (by simp [results, Tryz.results11, go_sem]) rfl ?_; exact TestP.bare 1 0 0 0 false rfl rfl (((nb0 _ _).alloc (by simp) _).alloc (by simp; omega) _)
theorem jcZ (d m n : Nat) (x : Stk) (cs : List Value) (w : World) (h : StkM (n + 1) w x cs) (hp : jB x.kind 10 = 3) (hd : ¬ d < 3) :
 Calls Tryz.prog 11 #[.agg cs.toArray, .int .i64 d] w (TestP (m + 1) w) := by
 obtain ⟨ai, ci, rfl, wk, wa, wb, ls, lt, hic, hcm, hR⟩ := h; clear hR; go_enter Tryz.func11, Tryz.ntmps11; go_wp2_with fail; refine (jg x.kind 10 _ wk (by omega) (by omega)).mono ?_; rintro e w1 ⟨rfl, rfl⟩; rw [hp]; go_wp2; refine bodyPost_ret (v := .agg #[.int .i64 1, .int .i64 0, .int .i64 0, .slice none 0 0, .slice none 0 0, .bool false, .int .i64 0, .slice none 0 0]) (by simp [results, Tryz.results11, go_sem]) rfl ?_; exact TestP.bare 1 0 0 0 false rfl rfl (((nb0 _ _).alloc (by simp) _).alloc (by simp; omega) _)
theorem jc0 (d m n : Nat) (x : Stk) (cs : List Value) (w : World) (h : StkM (n + 1) w x cs) (hp : jB x.kind 10 = 4) (hd : ¬ d < 3) :
 Calls Tryz.prog 11 #[.agg cs.toArray, .int .i64 d] w (TestP (m + 1) w) := by
 obtain ⟨ai, ci, rfl, wk, wa, wb, ls, lt, hic, hcm, hR⟩ := h; clear hR; go_enter Tryz.func11, Tryz.ntmps11; go_wp2_with fail; refine (jg x.kind 10 _ wk (by omega) (by omega)).mono ?_; rintro e w1 ⟨rfl, rfl⟩; rw [hp]; go_wp2; refine bodyPost_ret (v := .agg #[.int .i64 1, .int .i64 0, .int .i64 0, .slice none 0 0, .slice none 0 0, .bool false, .int .i64 0, .slice none 0 0]) (by simp [results, Tryz.results11, go_sem]) rfl ?_; exact TestP.bare 1 0 0 0 false rfl rfl (((nb0 _ _).alloc (by simp) _).alloc (by simp; omega) _)
theorem jcg (d m n : Nat) (x : Stk) (cs : List Value) (w : World) (h : StkM (n + 1) w x cs) (hp : jB x.kind 10 = 9) :
 Calls Tryz.prog 11 #[.agg cs.toArray, .int .i64 d] w (TestP (m + 1) w) := by
 obtain ⟨ai, ci, rfl, wk, wa, wb, ls, lt, hic, hcm, hR⟩ := h; clear hR
 by_cases hd : d < 3
 all_goals
  go_enter Tryz.func11, Tryz.ntmps11; go_wp2_with fail; refine (jg x.kind 10 _ wk (by omega) (by omega)).mono ?_; rintro e w1 ⟨rfl, rfl⟩; rw [hp]; go_wp2_with fail; refine (jg x.a 2 _ wa (by omega) (by omega)).mono ?_; rintro e w1 ⟨rfl, rfl⟩; have hpa := jz x.a 2 (by omega); generalize jB x.a 2 = pa at *; go_wp2_with fail; refine (jg x.b 400 _ wb (by omega) (by omega)).mono ?_; rintro e w1 ⟨rfl, rfl⟩; have hpb := jz x.b 400 (by omega); generalize jB x.b 400 = pb at *; go_wp2; refine bodyPost_ret (v := .agg #[.int .i64 10, .int .i64 0, .int .i64 0, .slice none 0 0, .slice none 0 0, .bool ((pa : Int) == 1), .int .i64 pb, .slice none 0 0]) (by simp [results, Tryz.results11, go_sem]) rfl ?_; exact TestP.bare 10 0 0 pb _ (jkh (by omega) (by omega)) rfl (((nb0 _ _).alloc (by simp) _).alloc (by simp; omega) _)
theorem jlc (d m n : Nat) (x : Stk) (cs : List Value) (w : World) (h : StkM (n + 1) w x cs) (hp : jB x.kind 10 = 2) (hd : d < 3) (ih : TestC (d + 1) m) :
 Calls Tryz.prog 11 #[.agg cs.toArray, .int .i64 d] w (TestP (m + 1) w) := by
 obtain ⟨ai, ci, rfl, wk, wa, wb, ls, lt, hic, hcm, hR⟩ := h; have HR := hid hR; have HIH := hid ih; have HDW := hid (show (d : Int) + 1 = ((d + 1 : Nat) : Int) by omega); clear hR ih
 by_cases hpos : ¬ 0 < x.ins.length
 · have hl0 : x.ins.length = 0 := by omega
   rw [hl0] at *; go_enter Tryz.func11, Tryz.ntmps11; go_wp2_with fail; refine (jg x.kind 10 _ wk (by omega) (by omega)).mono ?_; rintro e w1 ⟨rfl, rfl⟩; rw [hp]; obtain ⟨W, hW⟩ : ∃ W, W = (((w.alloc (.cells #[.int .i64 x.kind, .int .i64 x.a, .int .i64 x.b, .string (S x.s), .string (S x.t), .slice ai 0 ci] 50)).alloc (.cells #[.int .i64 0, .int .i64 0, .int .i64 0, .slice none 0 0, .slice none 0 0, .bool false, .int .i64 0, .slice none 0 0] 54)).alloc (.cells #[.int .i64 3, .int .i64 0, .int .i64 0, .slice none 0 0, .slice none 0 0, .bool false, .int .i64 0, .slice none 0 0] 54)).alloc (.cells #[.int .i64 x.a, .int .i64 0, .int .i64 0, .string ⟨#[]⟩, .string ⟨#[]⟩, .slice none 0 0] 50) := ⟨_, rfl⟩; have HWE := hid hW; have hr := hid (show W.heap[w.heap.size + 1]? = some (.cells #[.int .i64 0, .int .i64 0, .int .i64 0, .slice none 0 0, .slice none 0 0, .bool false, .int .i64 0, .slice none 0 0] 54) by rw [hW]; exact jf _ (jf _ (jm _ (by simp)))); have ht := hid (show W.heap[w.heap.size + 1 + 1]? = some (.cells #[.int .i64 3, .int .i64 0, .int .i64 0, .slice none 0 0, .slice none 0 0, .bool false, .int .i64 0, .slice none 0 0] 54) by rw [hW]; exact jf _ (jm _ (by simp))); have HSZ := hid (show W.heap.size = w.heap.size + 4 by rw [hW]; simp); have HB := hid (show Below w.heap.size w W by rw [hW]; exact (((nb0 _ _).alloc (by simp) _).alloc (by simp; omega) _).alloc (by simp; omega) _); clear hW; go_wp2_with fail; rw [← HWE.out, HDW.out]; refine (HIH.out 1 _ _ W (jk5 W x.a wa)).mono ?_; rintro e w2 ⟨t', cs', rfl, hT, hN, hb2⟩; obtain ⟨an, cn, ak, ck, at', ct, m0, _, rfl, _⟩ := jL hT; have HT := hid hT; have HN := hid hN; have ht3 := jl hb2 ht.out (by have := HSZ.out; omega); have hr3 := jl hb2 hr.out (by have := HSZ.out; omega); obtain ⟨u0, u1, u2, u3, u4, u5, u6, u7, v0, v1, v2, v3, v4, v5, v6, v7⟩ := box8 ht3; obtain ⟨p0, p1, p2, p3, p4, p5, p6, p7, o0, o1, o2, o3, o4, o5, o6, o7⟩ := box8 hr3; have lt2 : w.heap.size + 1 + 1 < w2.heap.size := by have := HSZ.out; have := hb2.size; omega
   have lt1 : w.heap.size + 1 < w2.heap.size := by omega
   have HB2 := hid (HB.out.trans (hb2.mono (by have := HSZ.out; omega))); have HS2 := hid hb2.size; clear hT hN hb2 ht3 hr3; go_wp2; refine bodyPost_ret (v := .agg #[.int .i64 3, .int .i64 0, .int .i64 0, .slice none 0 0, .slice none 0 0, .bool false, .int .i64 0, .slice (some ⟨w2.heap.size, 0, none⟩) 1 1]) (by simp [results, Tryz.results11, go_sem, *]) rfl ?_; refine TestP.one 3 t' _ rfl (TstM.imp (fun k hk => ?_) (Keeps.refl _ _) _ _ _ HT.out) HN.out (by decide) HB2.out (by omega); have h1 : W.heap.size ≤ k := hk; have h2 := HSZ.out
   show w.heap.size + 1 + 1 < k
   omega
 · have hpos : 0 < x.ins.length := by omega
   have hposI : (0 : Int) < (x.ins.length : Int) := by omega
   obtain ⟨a', c', hv, hsm, hrow⟩ := HR.out; simp only [Value.slice.injEq, true_and] at hv; obtain ⟨rfl, rfl⟩ := hv; obtain ⟨y, hy⟩ : ∃ y, x.ins[0]? = some y := ⟨_, List.getElem?_eq_getElem hpos⟩; obtain ⟨b, o, cy, rfl, hbl, _, hly, hcy, hY⟩ := hrow 0 y hy; obtain ⟨ay, ky, rfl⟩ := jbC hY; have HY := hid hY; have e0 : w.cell? ⟨b, o, none⟩ = some (.int .i64 y.kind) := by simpa using hcy 0 _ rfl
   have e1 : w.cell? ⟨b, o + 1, none⟩ = some (.int .i64 y.a) := by simpa using hcy 1 _ rfl
   have e2 : w.cell? ⟨b, o + 2, none⟩ = some (.int .i64 y.b) := by simpa using hcy 2 _ rfl
   have e3 : w.cell? ⟨b, o + 3, none⟩ = some (.string (S y.s)) := by simpa using hcy 3 _ rfl
   have e4 : w.cell? ⟨b, o + 4, none⟩ = some (.string (S y.t)) := by simpa using hcy 4 _ rfl
   have e5 : w.cell? ⟨b, o + 5, none⟩ = some (.slice ay y.ins.length ky) := by simpa using hcy 5 _ rfl
   have b1 : b < w.heap.size + 1 := by omega
   have b2 : b < w.heap.size + 1 + 1 := by omega
   have b3 : b < w.heap.size + 1 + 1 + 1 := by omega
   clear hcy hrow hY hy; go_enter Tryz.func11, Tryz.ntmps11; go_wp2_with fail; refine (jg x.kind 10 _ wk (by omega) (by omega)).mono ?_; rintro e w1 ⟨rfl, rfl⟩; rw [hp]; obtain ⟨W, hW⟩ : ∃ W, W = (((w.alloc (.cells #[.int .i64 x.kind, .int .i64 x.a, .int .i64 x.b, .string (S x.s), .string (S x.t), .slice (some ⟨b, o, none⟩) x.ins.length ci] 50)).alloc (.cells #[.int .i64 0, .int .i64 0, .int .i64 0, .slice none 0 0, .slice none 0 0, .bool false, .int .i64 0, .slice none 0 0] 54)).alloc (.cells #[.int .i64 3, .int .i64 0, .int .i64 0, .slice none 0 0, .slice none 0 0, .bool false, .int .i64 0, .slice none 0 0] 54)).alloc (.cells #[.int .i64 y.kind, .int .i64 y.a, .int .i64 y.b, .string (S y.s), .string (S y.t), .slice ay y.ins.length ky] 50) := ⟨_, rfl⟩; have HWE := hid hW; have hr := hid (show W.heap[w.heap.size + 1]? = some (.cells #[.int .i64 0, .int .i64 0, .int .i64 0, .slice none 0 0, .slice none 0 0, .bool false, .int .i64 0, .slice none 0 0] 54) by rw [hW]; exact jf _ (jf _ (jm _ (by simp)))); have ht := hid (show W.heap[w.heap.size + 1 + 1]? = some (.cells #[.int .i64 3, .int .i64 0, .int .i64 0, .slice none 0 0, .slice none 0 0, .bool false, .int .i64 0, .slice none 0 0] 54) by rw [hW]; exact jf _ (jm _ (by simp))); have HSZ := hid (show W.heap.size = w.heap.size + 4 by rw [hW]; simp); have HB := hid (show Below w.heap.size w W by rw [hW]; exact (((nb0 _ _).alloc (by simp) _).alloc (by simp; omega) _).alloc (by simp; omega) _); clear hW; go_wp2_with fail; rw [← HWE.out, HDW.out]; refine (HIH.out n y _ W (HY.out.next HB.out)).mono ?_; rintro e w2 ⟨t', cs', rfl, hT, hN, hb2⟩; obtain ⟨an, cn, ak, ck, at', ct, m0, _, rfl, _⟩ := jL hT; have HT := hid hT; have HN := hid hN; have ht3 := jl hb2 ht.out (by have := HSZ.out; omega); have hr3 := jl hb2 hr.out (by have := HSZ.out; omega); obtain ⟨u0, u1, u2, u3, u4, u5, u6, u7, v0, v1, v2, v3, v4, v5, v6, v7⟩ := box8 ht3; obtain ⟨p0, p1, p2, p3, p4, p5, p6, p7, o0, o1, o2, o3, o4, o5, o6, o7⟩ := box8 hr3; have lt2 : w.heap.size + 1 + 1 < w2.heap.size := by have := HSZ.out; have := hb2.size; omega
   have lt1 : w.heap.size + 1 < w2.heap.size := by omega
   have HB2 := hid (HB.out.trans (hb2.mono (by have := HSZ.out; omega))); have HS2 := hid hb2.size; clear hT hN hb2 ht3 hr3; go_wp2; refine bodyPost_ret (v := .agg #[.int .i64 3, .int .i64 0, .int .i64 0, .slice none 0 0, .slice none 0 0, .bool false, .int .i64 0, .slice (some ⟨w2.heap.size, 0, none⟩) 1 1]) (by simp [results, Tryz.results11, go_sem, *]) rfl ?_; refine TestP.one 3 t' _ rfl (TstM.imp (fun k hk => ?_) (Keeps.refl _ _) _ _ _ HT.out) HN.out (by decide) HB2.out (by omega); have h1 : W.heap.size ≤ k := hk; have h2 := HSZ.out
   show w.heap.size + 1 + 1 < k
   omega
theorem jlb (d m n : Nat) (x : Stk) (cs : List Value) (w : World) (h : StkM (n + 1) w x cs) (hp : jB x.kind 10 = 3) (hd : d < 3) (hm : 0 < m) (ih : TestC (d + 1) m) :
 Calls Tryz.prog 11 #[.agg cs.toArray, .int .i64 d] w (TestP (m + 1) w) := by
 obtain ⟨ai, ci, rfl, wk, wa, wb, ls, lt, hic, hcm, hR⟩ := h; have HR := hid hR; have HIH := hid ih; have HDW := hid (show (d : Int) + 1 = ((d + 1 : Nat) : Int) by omega); have hlm : x.ins.length ≤ maxLen := hR.small; unfold maxLen at hlm; obtain ⟨i0, hi, hz0, hz1, hz2⟩ := info_parts jik; clear hR ih; go_enter Tryz.func11, Tryz.ntmps11; go_wp2_with fail; refine (jg x.kind 10 _ wk (by omega) (by omega)).mono ?_; rintro e w1 ⟨rfl, rfl⟩; rw [hp]; go_wp2
 go_loopw [8] (fun i wr => ∃ (acc : List Tst) (a0 : Option Addr) (c0 : Nat), acc.length ≤ x.ins.length ∧ acc.length ≤ 3 ∧ i = .int .i64 acc.length ∧ Hid (wr.heap[w.heap.size]? = some (.cells #[.int .i64 x.kind, .int .i64 x.a, .int .i64 x.b, .string (S x.s), .string (S x.t), .slice ai x.ins.length ci] 50)) ∧ Hid (wr.heap[w.heap.size + 1]? = some (.cells #[.int .i64 0, .int .i64 0, .int .i64 0, .slice none 0 0, .slice none 0 0, .bool false, .int .i64 0, .slice none 0 0] 54)) ∧ Hid (wr.heap[w.heap.size + 1 + 1]? = some (.cells #[.int .i64 4, .int .i64 0, .int .i64 0, .slice none 0 0, .slice none 0 0, .bool false, .int .i64 0, .slice a0 acc.length c0] 54)) ∧
  Hid (OwnTs (w.heap.size + 3) m wr (.slice a0 acc.length c0) acc) ∧ Hid (∀ u ∈ acc, NT u) ∧ Hid (Below w.heap.size w wr) ∧ Hid (w.heap.size + 3 ≤ wr.heap.size)) (fun i _ => 3 - (intOf i).toNat)
 case atStart => exact ⟨[], none, 0, Nat.zero_le _, Nat.zero_le _, rfl, jf _ (jf _ (jm _ rfl)), jf _ (jm _ (by simp)), jm _ (by simp), hid (show OwnRow _ _ _ _ _ (.slice none 0 0) ([] : List Tst) from OwnRow.nil _ _ _ _ _), (fun u hu => by cases hu), ((nb0 _ _).alloc (by simp) _).alloc (by simp; omega) _, by show _ ≤ ((((w.alloc _).alloc _).alloc _).heap.size : Nat); simp⟩
 case round =>
  obtain ⟨acc, a0, c0, hl1, hl3, rfl, HX, HRS, HT, HO, HN, HB, HSZ⟩ := hrel; have x5 := (jal HX.out).2.2.2.2.2; have x1 := (jal HX.out).2.1; obtain ⟨u0, u1, u2, u3, u4, u5, u6, u7, v0, v1, v2, v3, v4, v5, v6, v7⟩ := box8 HT.out; obtain ⟨p0, p1, p2, p3, p4, p5, p6, p7, o0, o1, o2, o3, o4, o5, o6, o7⟩ := box8 HRS.out
  by_cases hlt : acc.length < x.ins.length ∧ acc.length < 3
  · obtain ⟨hl, h3⟩ := hlt; have i1 : (acc.length : Int) < (x.ins.length : Int) := by omega
    have i2 : (acc.length : Int) < 3 := by omega
    have i3 : (0 : Int) ≤ (acc.length : Int) := by omega
    obtain ⟨a', c', hv, hsm, hrow⟩ := SticksM.next HR.out HB.out; simp only [Value.slice.injEq, true_and] at hv; obtain ⟨rfl, rfl⟩ := hv; obtain ⟨y, hy⟩ : ∃ y, x.ins[acc.length]? = some y := ⟨_, List.getElem?_eq_getElem hl⟩; obtain ⟨b, o, cy, rfl, hbl, _, hly, hcy, hY⟩ := hrow _ y hy; obtain ⟨ay, ky, rfl⟩ := jbC hY; have HY := hid hY; have e0 : wr.cell? ⟨b, o + acc.length * 6, none⟩ = some (.int .i64 y.kind) := by simpa using hcy 0 _ rfl
    have e1 : wr.cell? ⟨b, o + acc.length * 6 + 1, none⟩ = some (.int .i64 y.a) := hcy 1 _ rfl; have e2 : wr.cell? ⟨b, o + acc.length * 6 + 2, none⟩ = some (.int .i64 y.b) := hcy 2 _ rfl; have e3 : wr.cell? ⟨b, o + acc.length * 6 + 3, none⟩ = some (.string (S y.s)) := hcy 3 _ rfl; have e4 : wr.cell? ⟨b, o + acc.length * 6 + 4, none⟩ = some (.string (S y.t)) := hcy 4 _ rfl; have e5 : wr.cell? ⟨b, o + acc.length * 6 + 5, none⟩ = some (.slice ay y.ins.length ky) := hcy 5 _ rfl; clear hcy hrow hY hy; go_wp2_with fail; rw [HDW.out]; refine (HIH.out n y _ wr HY.out).mono ?_; rintro e w2 ⟨t', cs', rfl, hT, hN, hb2⟩; obtain ⟨an, cn, ak, ck, at', ct, m0, _, rfl, _⟩ := jL hT; have hs2 := hb2.size; have hs0 := HSZ.out; have HX2 := hid (jl hb2 HX.out (by omega)); have HR2 := hid (jl hb2 HRS.out (by omega)); have HT2 := hid (jl hb2 HT.out (by omega)); obtain ⟨css, k1, k2, k3, k4⟩ := HO.out.keep (qM m) (r := w.heap.size) (But.of hb2) (by omega); have hrow3 : ∀ k, (Value.slice a0 acc.length c0).ownBlock = some k → k < wr.heap.size := fun k hk => by
        obtain ⟨_, g1, _⟩ := HO.out; exact (World.ownsRow.lt g1 k hk).2
    have hrowB : ∀ k, (Value.slice a0 acc.length c0).ownBlock = some k → w.heap.size + 3 ≤ k := fun k hk => (World.ownsRow.lt k1 k hk).1
    have HTT := hid (show TstM (rowQ (w.heap.size + 3) w2 (.slice a0 acc.length c0)) m w2 t' [.int .i64 t'.kind, .int .i64 t'.mat, .int .i64 t'.part, .slice an t'.names.length cn, .slice ak t'.keys.length ck, .bool t'.over, .int .i64 t'.limit, .slice at' t'.tests.length ct] from TstM.imp (fun k hk => by
        have q1 : wr.heap.size ≤ k := hk.1; have q2 : k < w2.heap.size := hk.2; exact ⟨by omega, q2, fun e => by have := hrow3 k e.symm; omega⟩) (Keeps.refl _ _) _ _ _ (TstM.both _ _ _ hT))
    have hone2 := jfp hT; have HN2 := hid (show ∀ u ∈ acc ++ [t'], NT u from fun u hu => by
        rcases List.mem_append.1 hu with e | e
        · exact HN.out u e
        · simp at e; rw [e]; exact hN)
    have HB2 := hid (HB.out.trans (hb2.mono HB.out.size)); have K1 := hid k1; have K2 := hid k2; have K3 := hid k3; have K4 := hid k4; have HRB := hid hrowB; have q7 := jC HT2.out (j := 7) rfl; have q7f := ju HT2.out 7; have lt2 : w.heap.size + 1 + 1 < w2.heap.size := by omega
    clear hT hN hb2 k1 k2 k3 k4 e0 e1 e2 e3 e4 e5 hrow3 hrowB u0 u1 u2 u3 u4 u5 u6 u7 v0 v1 v2 v3 v4 v5 v6 v7 p0 p1 p2 p3 p4 p5 p6 p7 o0 o1 o2 o3 o4 o5 o6 o7 x5 x1
    go_wp2_with (at_builtin; refine wpList_append_lies _ rfl _ _ 52 rfl (w.heap.size + 3) 54 i0 _ 8 112 Tryz.underlying52 hi hz0 hz1 hz2 rfl (by decide) (.slice a0 acc.length c0) acc.length css.flatten rfl (World.ownsRow.alloc (World.ownsRow.alloc K1.out _) _) ⟨w2.heap.size + 1, 0, none⟩ 1 1 [.int .i64 t'.kind, .int .i64 t'.mat, .int .i64 t'.part, .slice an t'.names.length cn, .slice ak t'.keys.length ck, .bool t'.over, .int .i64 t'.limit, .slice at' t'.tests.length ct] rfl rfl (jhS _ _ _ _ (by simp)) hone2 (by omega) ?c3 ?c4 ?c5 _ rfl ?_)
    case c3 => unfold maxLen; omega
    case c4 => omega
    case c5 => simp; omega
    intro g cap w5 hown' hgrow hat hlt5; have hgal := jid hgrow; have HO5 := hid (show OwnTs (w.heap.size + 3) m w5 (.slice (some ⟨g, 0, none⟩) (acc.length + 1) cap) (acc ++ [t']) from
        OwnRow.more (qM m) (v := .slice a0 acc.length c0) (H := w2.heap.size + 2) K2.out K3.out K4.out HTT.out rfl hown' hgal (by
         rcases hat with e | e
         · exact .inl e.symm
         · exact .inr (by rw [e]; simp [Value.ownBlock])) (by omega))
    have ne : ∀ k, k < w.heap.size + 3 → some k ≠ (Value.slice a0 acc.length c0).ownBlock := fun k hk e => by have := HRB.out k e.symm; omega
    have hx5 := jS hgal HX2.out (ne _ (by omega)); have hr5 := jS hgal HR2.out (ne _ (by omega)); have ht5 := jS hgal HT2.out (ne _ (by omega)); have HX5 := hid (vw (p := ⟨w.heap.size + 1 + 1, 7, none⟩) (.slice (some ⟨g, 0, none⟩) (acc.length + 1) cap) hx5 (by show w.heap.size ≠ w.heap.size + 1 + 1; omega)); have HR5 := hid (vw (p := ⟨w.heap.size + 1 + 1, 7, none⟩) (.slice (some ⟨g, 0, none⟩) (acc.length + 1) cap) hr5 (by show w.heap.size + 1 ≠ w.heap.size + 1 + 1; omega)); have HT5 := hid (jt (i := 7) (.slice (some ⟨g, 0, none⟩) (acc.length + 1) cap) ht5); have z7 := jC ht5 (j := 7) rfl; have z7f := ju ht5 7; have HB5 := hid (show Below w.heap.size w (w5.setCell ⟨w.heap.size + 1 + 1, 7, none⟩ (.slice (some ⟨g, 0, none⟩) (acc.length + 1) cap)) from (HB2.out.grown hgal HB2.out.size (fun k hk => by have := HRB.out k hk; omega)).setCell (by simp; omega) _); have HO6 := hid (HO5.out.keep (qM m) (r := w.heap.size + 1 + 1) (jhC (j := 7) w5 (.slice (some ⟨g, 0, none⟩) (acc.length + 1) cap)) (by omega)); have HS5 := hid (show w.heap.size + 3 ≤ (w5.setCell ⟨w.heap.size + 1 + 1, 7, none⟩ (.slice (some ⟨g, 0, none⟩) (acc.length + 1) cap)).heap.size by have := hgal.size; simp [World.setCell]; omega); clear hgrow hat hgal hown' hx5 hr5 ht5 ne q7 q7f; go_wp2
    go_roundw
    case rel =>
        have hlen : (acc ++ [t']).length = acc.length + 1 := by simp
        have R : ∃ (acc' : List Tst) (a0 : Option Addr) (c0 : Nat), acc'.length ≤ x.ins.length ∧ acc'.length ≤ 3 ∧ Value.int .i64 ((acc.length : Int) + 1) = .int .i64 acc'.length ∧ Hid ((w5.setCell ⟨w.heap.size + 1 + 1, 7, none⟩ (.slice (some ⟨g, 0, none⟩) (acc.length + 1) cap)).heap[w.heap.size]? = some (.cells #[.int .i64 x.kind, .int .i64 x.a, .int .i64 x.b, .string (S x.s), .string (S x.t), .slice (some ⟨b, o, none⟩) x.ins.length ci] 50)) ∧ Hid ((w5.setCell ⟨w.heap.size + 1 + 1, 7, none⟩ (.slice (some ⟨g, 0, none⟩) (acc.length + 1) cap)).heap[w.heap.size + 1]? = some (.cells #[.int .i64 0, .int .i64 0, .int .i64 0, .slice none 0 0, .slice none 0 0, .bool false, .int .i64 0, .slice none 0 0] 54)) ∧ Hid ((w5.setCell ⟨w.heap.size + 1 + 1, 7, none⟩ (.slice (some ⟨g, 0, none⟩) (acc.length + 1) cap)).heap[w.heap.size + 1 + 1]? = some (.cells #[.int .i64 4, .int .i64 0, .int .i64 0, .slice none 0 0, .slice none 0 0, .bool false, .int .i64 0, .slice a0 acc'.length c0] 54)) ∧
            Hid (OwnTs (w.heap.size + 3) m (w5.setCell ⟨w.heap.size + 1 + 1, 7, none⟩ (.slice (some ⟨g, 0, none⟩) (acc.length + 1) cap)) (.slice a0 acc'.length c0) acc') ∧ Hid (∀ u ∈ acc', NT u) ∧ Hid (Below w.heap.size w (w5.setCell ⟨w.heap.size + 1 + 1, 7, none⟩ (.slice (some ⟨g, 0, none⟩) (acc.length + 1) cap))) ∧ Hid (w.heap.size + 3 ≤ (w5.setCell ⟨w.heap.size + 1 + 1, 7, none⟩ (.slice (some ⟨g, 0, none⟩) (acc.length + 1) cap)).heap.size) :=
         ⟨acc ++ [t'], some ⟨g, 0, none⟩, cap, by omega, by omega, by rw [hlen]; rfl, HX5, HR5, by rw [hlen]; exact HT5, by rw [hlen]; exact HO6, HN2, HB5, HS5⟩
        first | exact R | ((repeat apply Exists.intro); exact ⟨R, rfl⟩) | (refine ⟨trivial, ?_⟩; (repeat apply Exists.intro); exact ⟨R, rfl⟩)
    case measure => simp [intOf]; omega
  · have hstop : ¬ acc.length < x.ins.length ∨ (acc.length < x.ins.length ∧ acc.length = 3) := by omega
    have hs0 := HSZ.out; have lt2 : w.heap.size + 1 + 1 < wr.heap.size := by omega
    have lt1 : w.heap.size + 1 < wr.heap.size := by omega
    by_cases h0 : acc.length = 0
    · have hx0 : x.ins.length = 0 := by omega
      have hacc : acc = [] := List.length_eq_zero_iff.1 h0; subst hacc; have i1 : ¬ (0 : Int) < (x.ins.length : Int) := by omega
      simp only [List.length_nil] at *; clear hx0; go_wp2_with fail; refine (jg x.a 2 _ wa (by omega) (by omega)).mono ?_; rintro e w1 ⟨rfl, hw1⟩; have hw1' := hw1.symm; subst hw1'; have hp2 := jz x.a 2 (by omega); generalize jB x.a 2 = q at *; go_wp2; refine bodyPost_ret (v := .agg #[.int .i64 4, .int .i64 0, .int .i64 0, .slice none 0 0, .slice none 0 0, .bool false, .int .i64 0, .slice (some ⟨wr.heap.size, 0, none⟩) 1 1]) (by simp [results, Tryz.results11, go_sem, *]) rfl ?_; exact TestP.one 4 ⟨1 + (q : Int), 0, 0, [], [], false, 0, []⟩ [.int .i64 (1 + (q : Int)), .int .i64 0, .int .i64 0, .slice none 0 0, .slice none 0 0, .bool false, .int .i64 0, .slice none 0 0] rfl (jf3 _ _ hm) (NT.bare _ _ _ _ _ (jlu hp2)) (by decide) HB.out (by omega)
    · have hne : ((acc.length : Int) == 0) = false := by simp; exact fun e => h0 (by rw [e]; rfl)
      have HL := hid (show TstsM (fun k => w.heap.size + 1 < k) m wr (.slice a0 acc.length c0) acc from RowM.imp (HO.out.rowM (qM m) (by unfold maxLen; omega)) (fun k (hk : w.heap.size + 3 ≤ k) => by show w.heap.size + 1 < k; omega) (Keeps.refl _ _) fun _ _ h => TstM.imp (fun k (hk : w.heap.size + 3 ≤ k) => by show w.heap.size + 1 < k; omega) (Keeps.refl _ _) _ _ _ h)
      rcases hstop with hst | ⟨hst, hst3⟩
      · have i1 : ¬ (acc.length : Int) < (x.ins.length : Int) := by omega
        clear hlt HO hst; go_wp2; refine bodyPost_ret (v := .agg #[.int .i64 4, .int .i64 0, .int .i64 0, .slice none 0 0, .slice none 0 0, .bool false, .int .i64 0, .slice a0 acc.length c0]) (by simp [results, Tryz.results11, go_sem, *]) rfl ?_; exact TestP.tests 4 acc _ rfl HL.out HN.out (by decide) (by omega) (by omega) HB.out
      · have i1 : (acc.length : Int) < (x.ins.length : Int) := by omega
        have i2 : ¬ (acc.length : Int) < 3 := by omega
        clear hlt HO hst hst3; go_wp2; refine bodyPost_ret (v := .agg #[.int .i64 4, .int .i64 0, .int .i64 0, .slice none 0 0, .slice none 0 0, .bool false, .int .i64 0, .slice a0 acc.length c0]) (by simp [results, Tryz.results11, go_sem, *]) rfl ?_; exact TestP.tests 4 acc _ rfl HL.out HN.out (by decide) (by omega) (by omega) HB.out
theorem jjs (d m n : Nat) (x : Stk) (cs : List Value) (w : World) (h : StkM (n + 1) w x cs) (hp : jB x.kind 10 = 4) (hd : d < 3) (hm : 0 < m) (ih : TestC (d + 1) m) :
 Calls Tryz.prog 11 #[.agg cs.toArray, .int .i64 d] w (TestP (m + 1) w) := by
 obtain ⟨ai, ci, rfl, wk, wa, wb, ls, lt, hic, hcm, hR⟩ := h; have HR := hid hR; have HIH := hid ih; have HDW := hid (show (d : Int) + 1 = ((d + 1 : Nat) : Int) by omega); have hlm : x.ins.length ≤ maxLen := hR.small; unfold maxLen at hlm; obtain ⟨i0, hi, hz0, hz1, hz2⟩ := info_parts jik; clear hR ih; go_enter Tryz.func11, Tryz.ntmps11; go_wp2_with fail; refine (jg x.kind 10 _ wk (by omega) (by omega)).mono ?_; rintro e w1 ⟨rfl, rfl⟩; rw [hp]; go_wp2
 go_loopw [8] (fun i wr => ∃ (acc : List Tst) (a0 : Option Addr) (c0 : Nat), acc.length ≤ x.ins.length ∧ acc.length ≤ 3 ∧ i = .int .i64 acc.length ∧ Hid (wr.heap[w.heap.size]? = some (.cells #[.int .i64 x.kind, .int .i64 x.a, .int .i64 x.b, .string (S x.s), .string (S x.t), .slice ai x.ins.length ci] 50)) ∧ Hid (wr.heap[w.heap.size + 1]? = some (.cells #[.int .i64 0, .int .i64 0, .int .i64 0, .slice none 0 0, .slice none 0 0, .bool false, .int .i64 0, .slice none 0 0] 54)) ∧ Hid (wr.heap[w.heap.size + 1 + 1]? = some (.cells #[.int .i64 5, .int .i64 0, .int .i64 0, .slice none 0 0, .slice none 0 0, .bool false, .int .i64 0, .slice a0 acc.length c0] 54)) ∧
  Hid (OwnTs (w.heap.size + 3) m wr (.slice a0 acc.length c0) acc) ∧ Hid (∀ u ∈ acc, NT u) ∧ Hid (Below w.heap.size w wr) ∧ Hid (w.heap.size + 3 ≤ wr.heap.size)) (fun i _ => 3 - (intOf i).toNat)
 case atStart => exact ⟨[], none, 0, Nat.zero_le _, Nat.zero_le _, rfl, jf _ (jf _ (jm _ rfl)), jf _ (jm _ (by simp)), jm _ (by simp), hid (show OwnRow _ _ _ _ _ (.slice none 0 0) ([] : List Tst) from OwnRow.nil _ _ _ _ _), (fun u hu => by cases hu), ((nb0 _ _).alloc (by simp) _).alloc (by simp; omega) _, by show _ ≤ ((((w.alloc _).alloc _).alloc _).heap.size : Nat); simp⟩
 case round =>
  obtain ⟨acc, a0, c0, hl1, hl3, rfl, HX, HRS, HT, HO, HN, HB, HSZ⟩ := hrel; have x5 := (jal HX.out).2.2.2.2.2; have x1 := (jal HX.out).2.1; obtain ⟨u0, u1, u2, u3, u4, u5, u6, u7, v0, v1, v2, v3, v4, v5, v6, v7⟩ := box8 HT.out; obtain ⟨p0, p1, p2, p3, p4, p5, p6, p7, o0, o1, o2, o3, o4, o5, o6, o7⟩ := box8 HRS.out
  by_cases hlt : acc.length < x.ins.length ∧ acc.length < 3
  · obtain ⟨hl, h3⟩ := hlt; have i1 : (acc.length : Int) < (x.ins.length : Int) := by omega
    have i2 : (acc.length : Int) < 3 := by omega
    have i3 : (0 : Int) ≤ (acc.length : Int) := by omega
    obtain ⟨a', c', hv, hsm, hrow⟩ := SticksM.next HR.out HB.out; simp only [Value.slice.injEq, true_and] at hv; obtain ⟨rfl, rfl⟩ := hv; obtain ⟨y, hy⟩ : ∃ y, x.ins[acc.length]? = some y := ⟨_, List.getElem?_eq_getElem hl⟩; obtain ⟨b, o, cy, rfl, hbl, _, hly, hcy, hY⟩ := hrow _ y hy; obtain ⟨ay, ky, rfl⟩ := jbC hY; have HY := hid hY; have e0 : wr.cell? ⟨b, o + acc.length * 6, none⟩ = some (.int .i64 y.kind) := by simpa using hcy 0 _ rfl
    have e1 : wr.cell? ⟨b, o + acc.length * 6 + 1, none⟩ = some (.int .i64 y.a) := hcy 1 _ rfl; have e2 : wr.cell? ⟨b, o + acc.length * 6 + 2, none⟩ = some (.int .i64 y.b) := hcy 2 _ rfl; have e3 : wr.cell? ⟨b, o + acc.length * 6 + 3, none⟩ = some (.string (S y.s)) := hcy 3 _ rfl; have e4 : wr.cell? ⟨b, o + acc.length * 6 + 4, none⟩ = some (.string (S y.t)) := hcy 4 _ rfl; have e5 : wr.cell? ⟨b, o + acc.length * 6 + 5, none⟩ = some (.slice ay y.ins.length ky) := hcy 5 _ rfl; clear hcy hrow hY hy; go_wp2_with fail; rw [HDW.out]; refine (HIH.out n y _ wr HY.out).mono ?_; rintro e w2 ⟨t', cs', rfl, hT, hN, hb2⟩; obtain ⟨an, cn, ak, ck, at', ct, m0, _, rfl, _⟩ := jL hT; have hs2 := hb2.size; have hs0 := HSZ.out; have HX2 := hid (jl hb2 HX.out (by omega)); have HR2 := hid (jl hb2 HRS.out (by omega)); have HT2 := hid (jl hb2 HT.out (by omega)); obtain ⟨css, k1, k2, k3, k4⟩ := HO.out.keep (qM m) (r := w.heap.size) (But.of hb2) (by omega); have hrow3 : ∀ k, (Value.slice a0 acc.length c0).ownBlock = some k → k < wr.heap.size := fun k hk => by
        obtain ⟨_, g1, _⟩ := HO.out; exact (World.ownsRow.lt g1 k hk).2
    have hrowB : ∀ k, (Value.slice a0 acc.length c0).ownBlock = some k → w.heap.size + 3 ≤ k := fun k hk => (World.ownsRow.lt k1 k hk).1
    have HTT := hid (show TstM (rowQ (w.heap.size + 3) w2 (.slice a0 acc.length c0)) m w2 t' [.int .i64 t'.kind, .int .i64 t'.mat, .int .i64 t'.part, .slice an t'.names.length cn, .slice ak t'.keys.length ck, .bool t'.over, .int .i64 t'.limit, .slice at' t'.tests.length ct] from TstM.imp (fun k hk => by
        have q1 : wr.heap.size ≤ k := hk.1; have q2 : k < w2.heap.size := hk.2; exact ⟨by omega, q2, fun e => by have := hrow3 k e.symm; omega⟩) (Keeps.refl _ _) _ _ _ (TstM.both _ _ _ hT))
    have hone2 := jfp hT; have HN2 := hid (show ∀ u ∈ acc ++ [t'], NT u from fun u hu => by
        rcases List.mem_append.1 hu with e | e
        · exact HN.out u e
        · simp at e; rw [e]; exact hN)
    have HB2 := hid (HB.out.trans (hb2.mono HB.out.size)); have K1 := hid k1; have K2 := hid k2; have K3 := hid k3; have K4 := hid k4; have HRB := hid hrowB; have q7 := jC HT2.out (j := 7) rfl; have q7f := ju HT2.out 7; have lt2 : w.heap.size + 1 + 1 < w2.heap.size := by omega
    clear hT hN hb2 k1 k2 k3 k4 e0 e1 e2 e3 e4 e5 hrow3 hrowB u0 u1 u2 u3 u4 u5 u6 u7 v0 v1 v2 v3 v4 v5 v6 v7 p0 p1 p2 p3 p4 p5 p6 p7 o0 o1 o2 o3 o4 o5 o6 o7 x5 x1
    go_wp2_with (at_builtin; refine wpList_append_lies _ rfl _ _ 52 rfl (w.heap.size + 3) 54 i0 _ 8 112 Tryz.underlying52 hi hz0 hz1 hz2 rfl (by decide) (.slice a0 acc.length c0) acc.length css.flatten rfl (World.ownsRow.alloc (World.ownsRow.alloc K1.out _) _) ⟨w2.heap.size + 1, 0, none⟩ 1 1 [.int .i64 t'.kind, .int .i64 t'.mat, .int .i64 t'.part, .slice an t'.names.length cn, .slice ak t'.keys.length ck, .bool t'.over, .int .i64 t'.limit, .slice at' t'.tests.length ct] rfl rfl (jhS _ _ _ _ (by simp)) hone2 (by omega) ?c3 ?c4 ?c5 _ rfl ?_)
    case c3 => unfold maxLen; omega
    case c4 => omega
    case c5 => simp; omega
    intro g cap w5 hown' hgrow hat hlt5; have hgal := jid hgrow; have HO5 := hid (show OwnTs (w.heap.size + 3) m w5 (.slice (some ⟨g, 0, none⟩) (acc.length + 1) cap) (acc ++ [t']) from
        OwnRow.more (qM m) (v := .slice a0 acc.length c0) (H := w2.heap.size + 2) K2.out K3.out K4.out HTT.out rfl hown' hgal (by
         rcases hat with e | e
         · exact .inl e.symm
         · exact .inr (by rw [e]; simp [Value.ownBlock])) (by omega))
    have ne : ∀ k, k < w.heap.size + 3 → some k ≠ (Value.slice a0 acc.length c0).ownBlock := fun k hk e => by have := HRB.out k e.symm; omega
    have hx5 := jS hgal HX2.out (ne _ (by omega)); have hr5 := jS hgal HR2.out (ne _ (by omega)); have ht5 := jS hgal HT2.out (ne _ (by omega)); have HX5 := hid (vw (p := ⟨w.heap.size + 1 + 1, 7, none⟩) (.slice (some ⟨g, 0, none⟩) (acc.length + 1) cap) hx5 (by show w.heap.size ≠ w.heap.size + 1 + 1; omega)); have HR5 := hid (vw (p := ⟨w.heap.size + 1 + 1, 7, none⟩) (.slice (some ⟨g, 0, none⟩) (acc.length + 1) cap) hr5 (by show w.heap.size + 1 ≠ w.heap.size + 1 + 1; omega)); have HT5 := hid (jt (i := 7) (.slice (some ⟨g, 0, none⟩) (acc.length + 1) cap) ht5); have z7 := jC ht5 (j := 7) rfl; have z7f := ju ht5 7; have HB5 := hid (show Below w.heap.size w (w5.setCell ⟨w.heap.size + 1 + 1, 7, none⟩ (.slice (some ⟨g, 0, none⟩) (acc.length + 1) cap)) from (HB2.out.grown hgal HB2.out.size (fun k hk => by have := HRB.out k hk; omega)).setCell (by simp; omega) _); have HO6 := hid (HO5.out.keep (qM m) (r := w.heap.size + 1 + 1) (jhC (j := 7) w5 (.slice (some ⟨g, 0, none⟩) (acc.length + 1) cap)) (by omega)); have HS5 := hid (show w.heap.size + 3 ≤ (w5.setCell ⟨w.heap.size + 1 + 1, 7, none⟩ (.slice (some ⟨g, 0, none⟩) (acc.length + 1) cap)).heap.size by have := hgal.size; simp [World.setCell]; omega); clear hgrow hat hgal hown' hx5 hr5 ht5 ne q7 q7f; go_wp2
    go_roundw
    case rel =>
        have hlen : (acc ++ [t']).length = acc.length + 1 := by simp
        have R : ∃ (acc' : List Tst) (a0 : Option Addr) (c0 : Nat), acc'.length ≤ x.ins.length ∧ acc'.length ≤ 3 ∧ Value.int .i64 ((acc.length : Int) + 1) = .int .i64 acc'.length ∧ Hid ((w5.setCell ⟨w.heap.size + 1 + 1, 7, none⟩ (.slice (some ⟨g, 0, none⟩) (acc.length + 1) cap)).heap[w.heap.size]? = some (.cells #[.int .i64 x.kind, .int .i64 x.a, .int .i64 x.b, .string (S x.s), .string (S x.t), .slice (some ⟨b, o, none⟩) x.ins.length ci] 50)) ∧ Hid ((w5.setCell ⟨w.heap.size + 1 + 1, 7, none⟩ (.slice (some ⟨g, 0, none⟩) (acc.length + 1) cap)).heap[w.heap.size + 1]? = some (.cells #[.int .i64 0, .int .i64 0, .int .i64 0, .slice none 0 0, .slice none 0 0, .bool false, .int .i64 0, .slice none 0 0] 54)) ∧ Hid ((w5.setCell ⟨w.heap.size + 1 + 1, 7, none⟩ (.slice (some ⟨g, 0, none⟩) (acc.length + 1) cap)).heap[w.heap.size + 1 + 1]? = some (.cells #[.int .i64 5, .int .i64 0, .int .i64 0, .slice none 0 0, .slice none 0 0, .bool false, .int .i64 0, .slice a0 acc'.length c0] 54)) ∧
            Hid (OwnTs (w.heap.size + 3) m (w5.setCell ⟨w.heap.size + 1 + 1, 7, none⟩ (.slice (some ⟨g, 0, none⟩) (acc.length + 1) cap)) (.slice a0 acc'.length c0) acc') ∧ Hid (∀ u ∈ acc', NT u) ∧ Hid (Below w.heap.size w (w5.setCell ⟨w.heap.size + 1 + 1, 7, none⟩ (.slice (some ⟨g, 0, none⟩) (acc.length + 1) cap))) ∧ Hid (w.heap.size + 3 ≤ (w5.setCell ⟨w.heap.size + 1 + 1, 7, none⟩ (.slice (some ⟨g, 0, none⟩) (acc.length + 1) cap)).heap.size) :=
         ⟨acc ++ [t'], some ⟨g, 0, none⟩, cap, by omega, by omega, by rw [hlen]; rfl, HX5, HR5, by rw [hlen]; exact HT5, by rw [hlen]; exact HO6, HN2, HB5, HS5⟩
        first | exact R | ((repeat apply Exists.intro); exact ⟨R, rfl⟩) | (refine ⟨trivial, ?_⟩; (repeat apply Exists.intro); exact ⟨R, rfl⟩)
    case measure => simp [intOf]; omega
  · have hstop : ¬ acc.length < x.ins.length ∨ (acc.length < x.ins.length ∧ acc.length = 3) := by omega
    have hs0 := HSZ.out; have lt2 : w.heap.size + 1 + 1 < wr.heap.size := by omega
    have lt1 : w.heap.size + 1 < wr.heap.size := by omega
    by_cases h0 : acc.length = 0
    · have hx0 : x.ins.length = 0 := by omega
      have hacc : acc = [] := List.length_eq_zero_iff.1 h0; subst hacc; have i1 : ¬ (0 : Int) < (x.ins.length : Int) := by omega
      simp only [List.length_nil] at *; clear hx0; go_wp2_with fail; refine (jg x.a 2 _ wa (by omega) (by omega)).mono ?_; rintro e w1 ⟨rfl, hw1⟩; have hw1' := hw1.symm; subst hw1'; have hp2 := jz x.a 2 (by omega); generalize jB x.a 2 = q at *; go_wp2; refine bodyPost_ret (v := .agg #[.int .i64 5, .int .i64 0, .int .i64 0, .slice none 0 0, .slice none 0 0, .bool false, .int .i64 0, .slice (some ⟨wr.heap.size, 0, none⟩) 1 1]) (by simp [results, Tryz.results11, go_sem, *]) rfl ?_; exact TestP.one 5 ⟨1 + (q : Int), 0, 0, [], [], false, 0, []⟩ [.int .i64 (1 + (q : Int)), .int .i64 0, .int .i64 0, .slice none 0 0, .slice none 0 0, .bool false, .int .i64 0, .slice none 0 0] rfl (jf3 _ _ hm) (NT.bare _ _ _ _ _ (jlu hp2)) (by decide) HB.out (by omega)
    · have hne : ((acc.length : Int) == 0) = false := by simp; exact fun e => h0 (by rw [e]; rfl)
      have HL := hid (show TstsM (fun k => w.heap.size + 1 < k) m wr (.slice a0 acc.length c0) acc from RowM.imp (HO.out.rowM (qM m) (by unfold maxLen; omega)) (fun k (hk : w.heap.size + 3 ≤ k) => by show w.heap.size + 1 < k; omega) (Keeps.refl _ _) fun _ _ h => TstM.imp (fun k (hk : w.heap.size + 3 ≤ k) => by show w.heap.size + 1 < k; omega) (Keeps.refl _ _) _ _ _ h)
      rcases hstop with hst | ⟨hst, hst3⟩
      · have i1 : ¬ (acc.length : Int) < (x.ins.length : Int) := by omega
        clear hlt HO hst; go_wp2; refine bodyPost_ret (v := .agg #[.int .i64 5, .int .i64 0, .int .i64 0, .slice none 0 0, .slice none 0 0, .bool false, .int .i64 0, .slice a0 acc.length c0]) (by simp [results, Tryz.results11, go_sem, *]) rfl ?_; exact TestP.tests 5 acc _ rfl HL.out HN.out (by decide) (by omega) (by omega) HB.out
      · have i1 : (acc.length : Int) < (x.ins.length : Int) := by omega
        have i2 : ¬ (acc.length : Int) < 3 := by omega
        clear hlt HO hst hst3; go_wp2; refine bodyPost_ret (v := .agg #[.int .i64 5, .int .i64 0, .int .i64 0, .slice none 0 0, .slice none 0 0, .bool false, .int .i64 0, .slice a0 acc.length c0]) (by simp [results, Tryz.results11, go_sem, *]) rfl ?_; exact TestP.tests 5 acc _ rfl HL.out HN.out (by decide) (by omega) (by omega) HB.out
end Go.Proofs.YtaapmpchcfcniaaGreatDoor
