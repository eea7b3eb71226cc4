/-
  What the laws' maker of tests does: the walk.
  What the laws' maker of commands does: the walk.
  code.Compile: the walk.
  A Require and a command behind it, in memory.
  A Require and a command behind it, in memory; what judge.requireOf does: the walk.
  code.Check: the walks.
-/
import Derived.Test.YtaapmpchcfcniaaGreatDoorYQCodTs3
import Derived.Test.YtaapmpchcfcniaaGreatDoorYRowGw
import Derived.Test.YtaapmpchcfcniaaGreatDoorYKeepPick
import Derived.Test.YtaapmpchcfcniaaGreatDoorYKeepWd
import Derived.Test.YtaapmpchcfcniaaGreatDoorYCut
import Derived.Test.YtaapmpchcfcniaaGreatDoorYQJudCrs5
import Derived.Test.YtaapmpchcfcniaaGreatDoorYScrCk
import Derived.Deep.RegionLaw
import Derived.Deep.RegionHeld3
import Derived.Test.YtaapmpchcfcniaaGreatDoorYRulCs
import Derived.Test.YtaapmpchcfcniaaGreatDoorYQPure2
import Derived.Deep.MidRow
namespace Go.Proofs.YtaapmpchcfcniaaGreatDoor
open Go.RowKit Go.Proofs
theorem jl6 (l : List UInt8) (n : Nat) : cutB (S l) n = S (l.take n) := by
  unfold cutB; rw [jkt]
  congr 1
  rw [jt]
  rcases Nat.le_total l.length n with h | h
  · rw [Nat.min_eq_left h, List.take_of_length_le (Nat.le_refl _), List.take_of_length_le h]
  · rw [Nat.min_eq_right h]
theorem qM (s : List UInt8) (w : World) (hs : s.length ≤ maxLen) :
    Calls Tryz.prog 29 #[.string (S s)] w fun e w' => e = .returned (.string (S (s.take 12))) ∧ w' = w := by
  have HE := hid (show cutB (S s) 12 = S (s.take 12) from jl6 s 12); have hsz : (S s).size ≤ maxLen := by rw [jt]; exact hs
  go_enter Tryz.func29, Tryz.ntmps29; go_wp2_with fail; refine (jeb (S s) 12 w hsz (by omega)).mono ?_; rintro e w1 ⟨rfl, rfl⟩; rw [HE.out]; go_wp2; go_ret; exact ⟨rfl, rfl⟩
def NT (t : Tst) : Prop := ∀ n, jcG n t ∧ FitT n t
theorem NT.mk {t : Tst} (h1 : zy t.names = false) (h2 : zy t.keys = false) (h3 : t.kind = 8 → t.names.all zR = true) (h4 : ∀ u ∈ t.tests, NT u) (h5 : fitH t = true) : NT t := by
  intro n; cases n with
  | zero => exact ⟨trivial, trivial⟩
  | succ n => exact ⟨⟨h1, h2, h3, fun u hu => (h4 u hu n).1⟩, h5, fun u hu => (h4 u hu n).2⟩
theorem NT.bare (k m p l : Int) (o : Bool) (hf : fitH ⟨k, m, p, [], [], o, l, []⟩ = true) : NT ⟨k, m, p, [], [], o, l, []⟩ := NT.mk rfl rfl (fun _ => rfl) (fun u hu => by cases hu) hf
def TestP (m : Nat) (w : World) (e : Ending) (w' : World) : Prop := ∃ (t : Tst) (cs' : List Value), e = .returned (.agg cs'.toArray) ∧ TstM (newB' w.heap.size) m w' t cs' ∧ NT t ∧ Below w.heap.size w w'
def TestC (d m : Nat) : Prop := ∀ (n : Nat) (x : Stk) (cs : List Value) (w : World), StkM n w x cs →
    Calls Tryz.prog 11 #[.agg cs.toArray, .int .i64 d] w (TestP m w)
theorem TestP.bare {m : Nat} {w w' : World} {e : Ending} (k ma p l : Int) (o : Bool) (hf : fitH ⟨k, ma, p, [], [], o, l, []⟩ = true) (he : e = .returned (.agg #[.int .i64 k, .int .i64 ma, .int .i64 p, .slice none 0 0, .slice none 0 0, .bool o, .int .i64 l, .slice none 0 0])) (hb : Below w.heap.size w w') : TestP (m + 1) w e w' :=
  ⟨⟨k, ma, p, [], [], o, l, []⟩, _, he, ⟨_, _, _, rfl, jj _ _ _ _ _ _, jj _ _ _ _ _ _, jj _ _ _ _ _ _⟩, NT.bare _ _ _ _ _ hf, hb⟩
theorem TestP.cmp {m : Nat} {w w' : World} {e : Ending} (k ma p : Int) (nm : List UInt8) (keys : List (List UInt8)) (vn vk : Value) (he : e = .returned (.agg #[.int .i64 k, .int .i64 ma, .int .i64 p, vn, vk, .bool false, .int .i64 0, .slice none 0 0]))
    (hn : TxtsM (newB' w.heap.size) w' vn [nm]) (hk : TxtsM (newB' w.heap.size) w' vk keys) (hl : nm.length ≤ 100) (hks : ∀ s ∈ keys, s.length ≤ 100) (h8 : k = 8 → zR nm = true) (hf : fitH ⟨k, ma, p, [nm], keys, false, 0, []⟩ = true) (hb : Below w.heap.size w w') : TestP (m + 1) w e w' := by
  refine ⟨⟨k, ma, p, [nm], keys, false, 0, []⟩, _, he, ⟨_, _, _, rfl, hn, hk, jj _ _ _ _ _ _⟩, NT.mk ?_ ?_ (fun h => ?_) (fun u hu => by cases hu) hf, hb⟩
  · simp [zy, hl]
  · show keys.any _ = false
    rw [List.any_eq_false]; intro s hs; have := hks s hs
    simp; omega
  · simp [h8 h]
theorem jjD {w : World} {b : Nat} {v0 v1 v2 v3 v4 v5 : Value} {t : TypeId} (h : w.heap[b]? = some (.cells #[v0, v1, v2, v3, v4, v5] t)) :
    w.cell? ⟨b, 0, none⟩ = some v0 ∧ w.cell? ⟨b, 1, none⟩ = some v1 ∧ w.cell? ⟨b, 2, none⟩ = some v2 ∧ w.cell? ⟨b, 3, none⟩ = some v3 ∧ w.cell? ⟨b, 4, none⟩ = some v4 ∧ w.cell? ⟨b, 5, none⟩ = some v5 :=
  ⟨jX h rfl, jX h rfl, jX h rfl, jX h rfl, jX h rfl, jX h rfl⟩
theorem qi {w w' : World} {B : Nat} (h : Below B w w') {b : Nat} {x : Obj} (hb : w.heap[b]? = some x) (hr : b < B) : w'.heap[b]? = some x := (h.block b hr).trans hb
theorem jeq {w : World} {base n : Nat} {v : Value} {l : List (List UInt8)} {Q : Nat → Prop} (h : w.ownsRow base 9 1 v n (l.map fun s => .string (S s))) (hn : n = l.length) (hq : ∀ b, base ≤ b → Q b) (hl : l.length ≤ maxLen) : TxtsM Q w v l := by
  subst hn
  rcases h.2 with ⟨rfl, hn⟩ | ⟨g, cap, cur, rfl, hb, hg, hcap, hcm, hcs, htk⟩
  · have : l = [] := List.length_eq_zero_iff.1 hn; subst this; exact jj _ _ _ _ _ _
  · refine ⟨some ⟨g, 0, none⟩, cap, rfl, hl, fun i x hx => ?_⟩; refine ⟨g, 0, [.string (S x)], rfl, (Array.getElem?_eq_some_iff.1 hg).1, hq g hb, rfl, fun j u hj => ?_, rfl⟩; cases j with
    | succ j => simp at hj
    | zero =>
      simp at hj
      subst hj; have := World.ownsRow.cells h (g := g) rfl i (.string (S x)) (by rw [List.getElem?_map, hx]; rfl); rw [Addr.add_lit] at this
      simpa using this
theorem TestP.fin {m : Nat} {w W1 : World} {e : Ending} {t : Tst} {cs : List Value} (hT : TstM (fun b => w.heap.size + 1 < b) m W1 t cs) (hN : NT t) (hB : Below w.heap.size w W1) (he : e = .returned (.agg cs.toArray)) : TestP m w e (jM W1 (w.heap.size + 1) 0 cs) :=
  ⟨t, cs, he, TstM.imp (fun b hb => show w.heap.size ≤ b by have : w.heap.size + 1 < b := hb; omega) (qa (fun k (hk : w.heap.size + 1 < k) => by omega) cs 0 W1 W1 (Keeps.refl _ _)) _ _ _ hT, hN, j8 (by omega) cs 0 W1 w hB⟩
theorem jar {a b n c : Nat} (h : a ≠ b) : some a ≠ (Value.slice (some ⟨b, 0, none⟩) n c).ownBlock := fun e => h (Option.some.inj e)
theorem jab {w w1 w' : World} {B b n c : Nat} (hB : Below B w w1) (hg : w1.drew.grownBy w' (Value.slice (some ⟨b, 0, none⟩) n c).ownBlock) (hs : B ≤ w1.heap.size) (hb : B ≤ b) : Below B w w' :=
  Below.grown (show Below B w w1.drew from hB.drew) hg hs fun j hj => by have := Option.some.inj hj; subst this; exact hb
theorem jel : (Tryz.prog.info? 9).map (fun i => (i.zero, i.size, i.bytes)) = some (some (.string ⟨#[]⟩), 1, 16) := by kernel_rfl
theorem jht {pb : Nat} (h : pb < 4) : ∃ nm : List UInt8, (∀ h, ([Value.string { data := #[115, 117, 98, 106, 101, 99, 116] }, Value.string { data := #[116, 111] }, Value.string { data := #[102, 114, 111, 109] }, Value.string { data := #[120] }] : List Value)[pb]'h = .string (S nm)) ∧ nm.length ≤ 100 := by
  match pb, h with
  | 0, _ => exact ⟨[115, 117, 98, 106, 101, 99, 116], fun _ => rfl, by decide⟩
  | 1, _ => exact ⟨[116, 111], fun _ => rfl, by decide⟩
  | 2, _ => exact ⟨[102, 114, 111, 109], fun _ => rfl, by decide⟩
  | 3, _ => exact ⟨[120], fun _ => rfl, by decide⟩
theorem jmg {pb : Nat} (h : pb < 2) : ∃ nm : List UInt8, (∀ h, ([Value.string { data := #[102, 114, 111, 109] }, Value.string { data := #[116, 111] }] : List Value)[pb]'h = .string (S nm)) ∧ zR nm = true := by
  match pb, h with
  | 0, _ => exact ⟨[102, 114, 111, 109], fun _ => rfl, by decide⟩
  | 1, _ => exact ⟨[116, 111], fun _ => rfl, by decide⟩
theorem jdB {s : List UInt8} (h : zR s = true) : s.length ≤ 100 := by
  unfold zR at h
  simp at h
  rcases h with e | e <;> rw [e] <;> decide
theorem TestP.two {m : Nat} {w w3 : World} {e : Ending} {g cap b : Nat} (k ma p : Int) (nm : List UInt8) (k1 k2 : List UInt8)
    (he : e = .returned (.agg #[.int .i64 k, .int .i64 ma, .int .i64 p, .slice (some ⟨b, 0, none⟩) 1 1, .slice (some ⟨g, 0, none⟩) 2 cap, .bool false, .int .i64 0, .slice none 0 0]))
    (hn : w3.heap[b]? = some (.cells #[.string (S nm)] 9)) (hb : w.heap.size + 1 + 1 < b) (hk : TxtsM (fun b => w.heap.size + 1 + 1 < b) w3 (.slice (some ⟨g, 0, none⟩) 2 cap) [k1, k2]) (hl : nm.length ≤ 100) (h8 : k = 8 → zR nm = true) (l1 : k1.length ≤ 100) (l2 : k2.length ≤ 100) (hf : fitH ⟨k, ma, p, [nm], [k1, k2], false, 0, []⟩ = true) (hB : Below w.heap.size w w3) :
    TestP (m + 1) w e (jM (w3.setCell ⟨w.heap.size + 1 + 1, 4, none⟩ (.slice (some ⟨g, 0, none⟩) 2 cap)) (w.heap.size + 1) 0 [.int .i64 k, .int .i64 ma, .int .i64 p, .slice (some ⟨b, 0, none⟩) 1 1, .slice (some ⟨g, 0, none⟩) 2 cap, .bool false, .int .i64 0, .slice none 0 0]) := by
  have hkp : Keeps (fun b => w.heap.size + 1 + 1 < b) w3 (w3.setCell ⟨w.heap.size + 1 + 1, 4, none⟩ (.slice (some ⟨g, 0, none⟩) 2 cap)) := Keeps.set w3 _ fun k hk => by have : w.heap.size + 1 + 1 < k := hk; show k ≠ w.heap.size + 1 + 1; omega
  have hq : ∀ k, w.heap.size + 1 + 1 < k → w.heap.size + 1 < k := fun k hk => by omega
  refine TestP.fin (t := ⟨k, ma, p, [nm], [k1, k2], false, 0, []⟩) ⟨_, _, _, rfl, TxtsM.imp (zE (t := 9) (fr := (0, 0)) (cs := [.string (S nm)]) hn rfl hb rfl) hq hkp, TxtsM.imp hk hq hkp, jj _ _ _ _ _ _⟩ (NT.mk ?_ ?_ (fun h => ?_) (fun u hu => by cases hu) hf) (hB.setCell (by simp; omega) _) he
  · simp [zy, hl]
  · simp [zy, l1, l2]
  · simp [h8 h]
theorem TestP.tests {m : Nat} {w W1 : World} {e : Ending} (k : Int) (l : List Tst) (v : Value) (he : e = .returned (.agg #[.int .i64 k, .int .i64 0, .int .i64 0, .slice none 0 0, .slice none 0 0, .bool false, .int .i64 0, v]))
    (hl : TstsM (fun b => w.heap.size + 1 < b) m W1 v l) (hN : ∀ u ∈ l, NT u) (hk : k = 4 ∨ k = 5) (h0 : 0 < l.length) (h3 : l.length ≤ 3) (hB : Below w.heap.size w W1) :
    TestP (m + 1) w e (jM W1 (w.heap.size + 1) 0 [.int .i64 k, .int .i64 0, .int .i64 0, .slice none 0 0, .slice none 0 0, .bool false, .int .i64 0, v]) :=
  TestP.fin (t := ⟨k, 0, 0, [], [], false, 0, l⟩) ⟨_, _, _, rfl, jj _ _ _ _ _ _, jj _ _ _ _ _ _, hl⟩ (NT.mk rfl rfl (fun (h : k = 8) => by omega) hN (jhk hk h0 h3)) hB he
theorem TestP.one {m : Nat} {w w2 : World} {e : Ending} (k : Int) (t' : Tst) (cs' : List Value) (he : e = .returned (.agg #[.int .i64 k, .int .i64 0, .int .i64 0, .slice none 0 0, .slice none 0 0, .bool false, .int .i64 0, .slice (some ⟨w2.heap.size, 0, none⟩) 1 1]))
    (hT : TstM (fun b => w.heap.size + 1 + 1 < b) m w2 t' cs') (hN : NT t') (hk : k = 3 ∨ k = 4 ∨ k = 5) (hB : Below w.heap.size w w2) (hs : w.heap.size + 1 + 1 < w2.heap.size) :
    TestP (m + 1) w e ((jM (w2.setCell ⟨w.heap.size + 1 + 1, 7, none⟩ (.slice (some ⟨w2.heap.size, 0, none⟩) 1 1)) (w.heap.size + 1) 0 [.int .i64 k, .int .i64 0, .int .i64 0, .slice none 0 0, .slice none 0 0, .bool false, .int .i64 0, .slice (some ⟨w2.heap.size, 0, none⟩) 1 1]).alloc (.cells cs'.toArray 54)) := by
  have hz : (jM (w2.setCell ⟨w.heap.size + 1 + 1, 7, none⟩ (.slice (some ⟨w2.heap.size, 0, none⟩) 1 1)) (w.heap.size + 1) 0 [.int .i64 k, .int .i64 0, .int .i64 0, .slice none 0 0, .slice none 0 0, .bool false, .int .i64 0, .slice (some ⟨w2.heap.size, 0, none⟩) 1 1]).heap.size = w2.heap.size := by rw [qs]; simp [World.setCell]
  have hkp : Keeps (fun b => w.heap.size + 1 + 1 < b) w2 ((jM (w2.setCell ⟨w.heap.size + 1 + 1, 7, none⟩ (.slice (some ⟨w2.heap.size, 0, none⟩) 1 1)) (w.heap.size + 1) 0 [.int .i64 k, .int .i64 0, .int .i64 0, .slice none 0 0, .slice none 0 0, .bool false, .int .i64 0, .slice (some ⟨w2.heap.size, 0, none⟩) 1 1]).alloc (.cells cs'.toArray 54)) :=
    (qa (fun j (hj : w.heap.size + 1 + 1 < j) => by omega) _ 0 _ w2 (Keeps.set w2 _ fun j (hj : w.heap.size + 1 + 1 < j) => by show j ≠ w.heap.size + 1 + 1; omega)).more _
  refine ⟨⟨k, 0, 0, [], [], false, 0, [t']⟩, _, he, ⟨_, _, _, rfl, jj _ _ _ _ _ _, jj _ _ _ _ _ _, ?_⟩, NT.mk rfl rfl (fun (h : k = 8) => by omega) (fun u hu => by simp at hu; rw [hu]; exact hN) (jhj hk), ?_⟩
  · exact zE (t := 54) (fr := (0, 0)) (jy _ hz.symm) (jl0 hT) (show w.heap.size ≤ w2.heap.size by omega) (TstM.imp (fun j (hj : w.heap.size + 1 + 1 < j) => show w.heap.size ≤ j by omega) hkp _ _ _ hT)
  · exact (j8 (by omega) _ 0 _ w (hB.setCell (by simp; omega) _)).alloc (by rw [hz]; omega) _
theorem jkb {n : Nat} {w : World} {x : Stk} {cs : List Value} (h : StkM n w x cs) : ∃ ai ci, cs = [.int .i64 x.kind, .int .i64 x.a, .int .i64 x.b, .string (S x.s), .string (S x.t), .slice ai x.ins.length ci] := by
  cases n with
  | zero => exact h.elim
  | succ n => obtain ⟨ai, ci, h, _⟩ := h; exact ⟨ai, ci, h⟩
theorem qS (W : World) {pa : Nat} {nm : List UInt8} (h : ∀ h, ([Value.string { data := #[115, 117, 98, 106, 101, 99, 116] }, Value.string { data := #[116, 111] }, Value.string { data := #[99, 99] }] : List Value)[pa]'h = .string (S nm)) (hp : pa < 3) :
    (W.alloc (.cells #[Value.string { data := #[115, 117, 98, 106, 101, 99, 116] }, Value.string { data := #[116, 111] }, Value.string { data := #[99, 99] }] 9)).cell? ⟨W.heap.size, pa, none⟩ = some (.string (S nm)) := by
  rw [World.cell?_alloc_at _ _ _ _ rfl, List.getElem?_toArray, List.getElem?_eq_getElem (by simpa using hp), h]
theorem TestP.exi {m : Nat} {w F : World} {e : Ending} (nm wd : List UInt8) (q bp : Nat) (he : e = .returned (.agg #[.int .i64 9, .int .i64 0, .int .i64 0, .slice (some ⟨bp, 0, none⟩) q 2, .slice none 0 0, .bool false, .int .i64 0, .slice none 0 0]))
    (hp : F.heap[bp]? = some (.cells #[.string (S nm), .string (S wd)] 9)) (hbp : w.heap.size ≤ bp) (h1 : nm.length ≤ 100) (h2 : wd.length ≤ 100) (hq0 : 0 < q) (hq : q ≤ 2) (hB : Below w.heap.size w F) : TestP (m + 1) w e F := by
  have hrow : TxtsM (newB' w.heap.size) F (.slice (some ⟨bp, 0, none⟩) 2 2) [nm, wd] := by
    refine ⟨_, 2, rfl, by unfold maxLen; simp, fun i x hx => ?_⟩; refine ⟨bp, 0, [.string (S x)], rfl, (Array.getElem?_eq_some_iff.1 hp).1, hbp, rfl, fun j u hj => ?_, rfl⟩; cases j with
    | succ j => simp at hj
    | zero =>
      simp at hj
      subst hj; rw [Nat.zero_add, Nat.mul_one, Nat.add_zero]
      match i, hx with
      | 0, hx => simp at hx; subst hx; exact jX hp rfl
      | 1, hx => simp at hx; subst hx; exact jX hp rfl
  have ht : ∀ s ∈ [nm, wd].take q, s.length ≤ 100 := fun s hs => by
    have := List.mem_of_mem_take hs
    simp at this
    rcases this with e | e <;> rw [e] <;> assumption
  refine ⟨⟨9, 0, 0, [nm, wd].take q, [], false, 0, []⟩, _, he, ⟨_, _, _, rfl, RowM.takeR (l := [nm, wd]) hrow q 2 (by simpa using hq), jj _ _ _ _ _ _, jj _ _ _ _ _ _⟩, NT.mk ?_ rfl (fun h => by cases h) (fun u hu => by cases hu) (jk6 hq0 hq), hB⟩
  show List.any _ _ = false
  rw [List.any_eq_false]; intro s hs; have := ht s hs
  simp; omega
theorem jd {w : World} {o : Obj} {b j : Nat} {v : Value} (h : w.cell? ⟨b, j, none⟩ = some v) : (w.alloc o).cell? ⟨b, j, none⟩ = some v :=
  (World.cell?_alloc_past o b j (World.block_lt_of_cell? w _ h)).trans h
theorem jmh {pb : Nat} (h : pb < 3) : ∃ nm : List UInt8, (∀ h, ([Value.string { data := #[115, 117, 98, 106, 101, 99, 116] }, Value.string { data := #[116, 111] }, Value.string { data := #[99, 99] }] : List Value)[pb]'h = .string (S nm)) ∧ nm.length ≤ 100 := by
  match pb, h with
  | 0, _ => exact ⟨[115, 117, 98, 106, 101, 99, 116], fun _ => rfl, by decide⟩
  | 1, _ => exact ⟨[116, 111], fun _ => rfl, by decide⟩
  | 2, _ => exact ⟨[99, 99], fun _ => rfl, by decide⟩
theorem jeG {P : Program} {md : Region.Mode} {ops : Array Oper} {Q : Exit → Act → World → Prop} {S S' : World → Prop} (h : ∀ w, S' w → S w) : ∀ (fuel : Nat) (listed : Array Bool) (a : Act) (w : World), wpAnyH P md ops Q S' fuel listed a w → wpAnyH P md ops Q S fuel listed a w := by
  intro fuel
  induction fuel with
  | zero => intro listed a w hw; exact hw
  | succ fuel ih =>
    intro listed a w hw; exact ⟨hw.1, fun i hi => wpOp_mono (fun a' w' hh => ⟨h _ hh.1, ih _ _ _ hh.2⟩) (hw.2 i hi)⟩
theorem qj (W : World) (b : Nat) (hb : b = W.heap.size) {pa : Nat} {nm : List UInt8} (h : ∀ h, ([Value.string { data := #[115, 117, 98, 106, 101, 99, 116] }, Value.string { data := #[116, 111] }, Value.string { data := #[99, 99] }] : List Value)[pa]'h = .string (S nm)) (hp : pa < 3) :
    (W.alloc (.cells #[Value.string { data := #[115, 117, 98, 106, 101, 99, 116] }, Value.string { data := #[116, 111] }, Value.string { data := #[99, 99] }] 9)).cell? ⟨b, pa, none⟩ = some (.string (S nm)) := by
  subst hb; exact qS W h hp
theorem qh {P : Program} {md : Region.Mode} {ops : Array Oper} {Q : Exit → Act → World → Prop} {S E : World → Prop} {fuel : Nat} {listed : Array Bool} {a : Act} {w : World} (hS : S w) (hE : E w) (k : S w ∧ E w → wpAnyH P md ops Q (fun w => S w ∧ E w) fuel listed a w) : wpAnyH P md ops Q S fuel listed a w :=
  jeG (fun _ h => h.1) _ _ _ _ (k ⟨hS, hE⟩)
theorem TestP.exi1 {m : Nat} {w wS : World} {e : Ending} (nm wd : List UInt8) (q : Nat) (he : e = .returned (.agg #[.int .i64 9, .int .i64 0, .int .i64 0, .slice (some ⟨wS.heap.size, 0, none⟩) q 2, .slice none 0 0, .bool false, .int .i64 0, .slice none 0 0]))
    (h1 : nm.length ≤ 100) (h2 : wd.length ≤ 100) (hq0 : 0 < q) (hq : q ≤ 2) (hB : Below w.heap.size w wS) (hs : w.heap.size + 1 + 1 < wS.heap.size) : TestP (m + 1) w e ((jM (wS.setCell ⟨w.heap.size + 1 + 1, 3, none⟩ (.slice (some ⟨wS.heap.size, 0, none⟩) q 2)) (w.heap.size + 1) 0 [.int .i64 9, .int .i64 0, .int .i64 0, .slice (some ⟨wS.heap.size, 0, none⟩) q 2, .slice none 0 0, .bool false, .int .i64 0, .slice none 0 0]).alloc (.cells #[.string (S nm), .string (S wd)] 9)) := by
  have hz : (jM (wS.setCell ⟨w.heap.size + 1 + 1, 3, none⟩ (.slice (some ⟨wS.heap.size, 0, none⟩) q 2)) (w.heap.size + 1) 0 [.int .i64 9, .int .i64 0, .int .i64 0, .slice (some ⟨wS.heap.size, 0, none⟩) q 2, .slice none 0 0, .bool false, .int .i64 0, .slice none 0 0]).heap.size = wS.heap.size := by rw [qs]; simp [World.setCell]
  have hb0 : Below w.heap.size w (jM (wS.setCell ⟨w.heap.size + 1 + 1, 3, none⟩ (.slice (some ⟨wS.heap.size, 0, none⟩) q 2)) (w.heap.size + 1) 0 [.int .i64 9, .int .i64 0, .int .i64 0, .slice (some ⟨wS.heap.size, 0, none⟩) q 2, .slice none 0 0, .bool false, .int .i64 0, .slice none 0 0]) := j8 (by omega) _ 0 _ w (hB.setCell (by simp; omega) _); exact TestP.exi nm wd q _ he (jy _ hz.symm) (by omega) h1 h2 hq0 hq (hb0.alloc (by rw [hz]; omega) _)
theorem TestP.exi2 {m : Nat} {w wS : World} {e : Ending} (nm wd : List UInt8) (q : Nat) (he : e = .returned (.agg #[.int .i64 9, .int .i64 0, .int .i64 0, .slice (some ⟨wS.heap.size + 1, 0, none⟩) q 2, .slice none 0 0, .bool false, .int .i64 0, .slice none 0 0]))
    (h1 : nm.length ≤ 100) (h2 : wd.length ≤ 100) (hq0 : 0 < q) (hq : q ≤ 2) (hB : Below w.heap.size w wS) (hs : w.heap.size + 1 + 1 < wS.heap.size) : TestP (m + 1) w e (((jM (wS.setCell ⟨w.heap.size + 1 + 1, 3, none⟩ (.slice (some ⟨wS.heap.size + 1, 0, none⟩) q 2)) (w.heap.size + 1) 0 [.int .i64 9, .int .i64 0, .int .i64 0, .slice (some ⟨wS.heap.size + 1, 0, none⟩) q 2, .slice none 0 0, .bool false, .int .i64 0, .slice none 0 0]).alloc (.cells #[.string ⟨#[115, 117, 98, 106, 101, 99, 116]⟩, .string ⟨#[116, 111]⟩, .string ⟨#[99, 99]⟩] 9)).alloc (.cells #[.string (S nm), .string (S wd)] 9)) := by
  have hz : (jM (wS.setCell ⟨w.heap.size + 1 + 1, 3, none⟩ (.slice (some ⟨wS.heap.size + 1, 0, none⟩) q 2)) (w.heap.size + 1) 0 [.int .i64 9, .int .i64 0, .int .i64 0, .slice (some ⟨wS.heap.size + 1, 0, none⟩) q 2, .slice none 0 0, .bool false, .int .i64 0, .slice none 0 0]).heap.size = wS.heap.size := by rw [qs]; simp [World.setCell]
  have hb0 : Below w.heap.size w (jM (wS.setCell ⟨w.heap.size + 1 + 1, 3, none⟩ (.slice (some ⟨wS.heap.size + 1, 0, none⟩) q 2)) (w.heap.size + 1) 0 [.int .i64 9, .int .i64 0, .int .i64 0, .slice (some ⟨wS.heap.size + 1, 0, none⟩) q 2, .slice none 0 0, .bool false, .int .i64 0, .slice none 0 0]) := j8 (by omega) _ 0 _ w (hB.setCell (by simp; omega) _); exact TestP.exi nm wd q _ he (jy _ (by show _ = (Array.push _ _).size; rw [Array.size_push, hz])) (by omega) h1 h2 hq0 hq ((hb0.alloc (by rw [hz]; omega) _).alloc (by show _ ≤ (Array.push _ _).size; rw [Array.size_push, hz]; omega) _)
set_option maxHeartbeats 8000000 in
set_option maxRecDepth 100000 in
theorem jiE (d m n : Nat) (x : Stk) (cs : List Value) (w : World) (h : StkM (n + 1) w x cs) (hp : jR x.kind 10 = 0) :
    Calls Tryz.prog 11 #[.agg cs.toArray, .int .i64 d] w (TestP (m + 1) w) := by
  obtain ⟨ai, ci, rfl, wk, wa, wb, ls, lt, hic, hcm, hR⟩ := h; clear hR
  by_cases hd : d < 3
  all_goals
    go_enter Tryz.func11, Tryz.ntmps11; go_wp2_with fail; refine (jm x.kind 10 _ wk (by omega) (by omega)).mono ?_; rintro e w1 ⟨rfl, rfl⟩; rw [hp]; go_wp2; refine bodyPost_ret (v := .agg #[.int .i64 1, .int .i64 0, .int .i64 0, .slice none 0 0, .slice none 0 0, .bool false, .int .i64 0, .slice none 0 0]) (by simp [results, Tryz.results11, go_sem]) rfl ?_; exact TestP.bare 1 0 0 0 false rfl rfl ((((Below.refl _ _).alloc (Nat.le_refl _) _).alloc (by simp) _).alloc (by simp; omega) _)
set_option maxHeartbeats 8000000 in
set_option maxRecDepth 100000 in
theorem jgG (d m n : Nat) (x : Stk) (cs : List Value) (w : World) (h : StkM (n + 1) w x cs) (hp : jR x.kind 10 = 1) :
    Calls Tryz.prog 11 #[.agg cs.toArray, .int .i64 d] w (TestP (m + 1) w) := by
  obtain ⟨ai, ci, rfl, wk, wa, wb, ls, lt, hic, hcm, hR⟩ := h; clear hR
  by_cases hd : d < 3
  all_goals
    go_enter Tryz.func11, Tryz.ntmps11; go_wp2_with fail; refine (jm x.kind 10 _ wk (by omega) (by omega)).mono ?_; rintro e w1 ⟨rfl, rfl⟩; rw [hp]; go_wp2; refine bodyPost_ret (v := .agg #[.int .i64 2, .int .i64 0, .int .i64 0, .slice none 0 0, .slice none 0 0, .bool false, .int .i64 0, .slice none 0 0]) (by simp [results, Tryz.results11, go_sem]) rfl ?_; exact TestP.bare 2 0 0 0 false rfl rfl ((((Below.refl _ _).alloc (Nat.le_refl _) _).alloc (by simp) _).alloc (by simp; omega) _)
set_option maxHeartbeats 8000000 in
set_option maxRecDepth 100000 in
theorem jgD (d m n : Nat) (x : Stk) (cs : List Value) (w : World) (h : StkM (n + 1) w x cs) (hp : jR x.kind 10 = 2) (hd : ¬ d < 3) :
    Calls Tryz.prog 11 #[.agg cs.toArray, .int .i64 d] w (TestP (m + 1) w) := by
  obtain ⟨ai, ci, rfl, wk, wa, wb, ls, lt, hic, hcm, hR⟩ := h; clear hR; go_enter Tryz.func11, Tryz.ntmps11; go_wp2_with fail; refine (jm x.kind 10 _ wk (by omega) (by omega)).mono ?_; rintro e w1 ⟨rfl, rfl⟩; rw [hp]; go_wp2; refine bodyPost_ret (v := .agg #[.int .i64 1, .int .i64 0, .int .i64 0, .slice none 0 0, .slice none 0 0, .bool false, .int .i64 0, .slice none 0 0]) (by simp [results, Tryz.results11, go_sem]) rfl ?_; exact TestP.bare 1 0 0 0 false rfl rfl ((((Below.refl _ _).alloc (Nat.le_refl _) _).alloc (by simp) _).alloc (by simp; omega) _)
set_option maxHeartbeats 8000000 in
set_option maxRecDepth 100000 in
theorem jgE (d m n : Nat) (x : Stk) (cs : List Value) (w : World) (h : StkM (n + 1) w x cs) (hp : jR x.kind 10 = 3) (hd : ¬ d < 3) :
    Calls Tryz.prog 11 #[.agg cs.toArray, .int .i64 d] w (TestP (m + 1) w) := by
  obtain ⟨ai, ci, rfl, wk, wa, wb, ls, lt, hic, hcm, hR⟩ := h; clear hR; go_enter Tryz.func11, Tryz.ntmps11; go_wp2_with fail; refine (jm x.kind 10 _ wk (by omega) (by omega)).mono ?_; rintro e w1 ⟨rfl, rfl⟩; rw [hp]; go_wp2; refine bodyPost_ret (v := .agg #[.int .i64 1, .int .i64 0, .int .i64 0, .slice none 0 0, .slice none 0 0, .bool false, .int .i64 0, .slice none 0 0]) (by simp [results, Tryz.results11, go_sem]) rfl ?_; exact TestP.bare 1 0 0 0 false rfl rfl ((((Below.refl _ _).alloc (Nat.le_refl _) _).alloc (by simp) _).alloc (by simp; omega) _)
set_option maxHeartbeats 8000000 in
set_option maxRecDepth 100000 in
theorem jgF (d m n : Nat) (x : Stk) (cs : List Value) (w : World) (h : StkM (n + 1) w x cs) (hp : jR x.kind 10 = 4) (hd : ¬ d < 3) :
    Calls Tryz.prog 11 #[.agg cs.toArray, .int .i64 d] w (TestP (m + 1) w) := by
  obtain ⟨ai, ci, rfl, wk, wa, wb, ls, lt, hic, hcm, hR⟩ := h; clear hR; go_enter Tryz.func11, Tryz.ntmps11; go_wp2_with fail; refine (jm x.kind 10 _ wk (by omega) (by omega)).mono ?_; rintro e w1 ⟨rfl, rfl⟩; rw [hp]; go_wp2; refine bodyPost_ret (v := .agg #[.int .i64 1, .int .i64 0, .int .i64 0, .slice none 0 0, .slice none 0 0, .bool false, .int .i64 0, .slice none 0 0]) (by simp [results, Tryz.results11, go_sem]) rfl ?_; exact TestP.bare 1 0 0 0 false rfl rfl ((((Below.refl _ _).alloc (Nat.le_refl _) _).alloc (by simp) _).alloc (by simp; omega) _)
set_option maxHeartbeats 8000000 in
set_option maxRecDepth 100000 in
theorem jiC (d m n : Nat) (x : Stk) (cs : List Value) (w : World) (h : StkM (n + 1) w x cs) (hp : jR x.kind 10 = 9) :
    Calls Tryz.prog 11 #[.agg cs.toArray, .int .i64 d] w (TestP (m + 1) w) := by
  obtain ⟨ai, ci, rfl, wk, wa, wb, ls, lt, hic, hcm, hR⟩ := h; clear hR
  by_cases hd : d < 3
  all_goals
    go_enter Tryz.func11, Tryz.ntmps11; go_wp2_with fail; refine (jm x.kind 10 _ wk (by omega) (by omega)).mono ?_; rintro e w1 ⟨rfl, rfl⟩; rw [hp]; go_wp2_with fail; refine (jm x.a 2 _ wa (by omega) (by omega)).mono ?_; rintro e w1 ⟨rfl, rfl⟩; have hpa := jT x.a 2 (by omega); generalize jR x.a 2 = pa at *; go_wp2_with fail; refine (jm x.b 400 _ wb (by omega) (by omega)).mono ?_; rintro e w1 ⟨rfl, rfl⟩; have hpb := jT x.b 400 (by omega); generalize jR x.b 400 = pb at *; go_wp2; refine bodyPost_ret (v := .agg #[.int .i64 10, .int .i64 0, .int .i64 0, .slice none 0 0, .slice none 0 0, .bool ((pa : Int) == 1), .int .i64 pb, .slice none 0 0]) (by simp [results, Tryz.results11, go_sem]) rfl ?_; exact TestP.bare 10 0 0 pb _ (jjm (by omega) (by omega)) rfl ((((Below.refl _ _).alloc (Nat.le_refl _) _).alloc (by simp) _).alloc (by simp; omega) _)
end Go.Proofs.YtaapmpchcfcniaaGreatDoor
namespace Go.Proofs.YtaapmpchcfcniaaGreatDoor
open Go.RowKit Go.Proofs
def NC (c : Cmd) : Prop := ∀ n, jaA n c ∧ FitC n c
theorem NC.mk {c : Cmd} (h1 : c.kind ≠ 1) (h2 : c.kind = 5 → jao (c.texts.getD 0 []) = 0) (h3 : c.kind = 8 ∨ c.kind = 9 → zJ c.texts ≠ none) (h4 : c.kind = 6 → qv (c.texts.getD 0 []) = 0) (h5 : ∀ n, jcG n c.test) (h6 : ∀ x ∈ c.thn, NC x) (h7 : ∀ x ∈ c.els, NC x) (hf : qJ c = true) (hf2 : c.kind = 2 → NT c.test) : NC c := by
  intro n; cases n with
  | zero => exact ⟨trivial, trivial⟩
  | succ n => exact ⟨⟨h1, h2, h3, h4, h5 n, fun u hu => (h6 u hu n).1, fun u hu => (h7 u hu n).1⟩, hf, fun h => (hf2 h n).2, fun u hu => (h6 u hu n).2, fun u hu => (h7 u hu n).2⟩
theorem NT.none : ∀ n, jcG n zd := by
  intro n; cases n with
  | zero => trivial
  | succ n => exact ⟨rfl, rfl, (fun h => by cases h), fun u hu => by cases hu⟩
def CmdP (m : Nat) (w : World) (e : Ending) (w' : World) : Prop := ∃ (c : Cmd) (cs' : List Value), e = .returned (.agg cs'.toArray) ∧ CmdM (newB' w.heap.size) m w' c cs' ∧ NC c ∧ Below w.heap.size w w'
def CmdQ (m : Nat) (w : World) (e : Ending) (w' : World) : Prop := ∃ (c : Cmd) (cs' : List Value), e = .returned (.agg cs'.toArray) ∧ CmdM (newB' w.heap.size) m w' c cs' ∧ (NC c ∧ c.kind ≠ 2) ∧ Below w.heap.size w w'
theorem CmdQ.p {m : Nat} {w w' : World} {e : Ending} (h : CmdQ m w e w') : CmdP m w e w' := by
  obtain ⟨c, cs, h1, h2, h3, h4⟩ := h; exact ⟨c, cs, h1, h2, h3.1, h4⟩
theorem jhW (Q : Nat → Prop) (n : Nat) (w : World) : TstM Q (n + 1) w zd [.int .i64 0, .int .i64 0, .int .i64 0, .slice none 0 0, .slice none 0 0, .bool false, .int .i64 0, .slice none 0 0] := ⟨_, _, _, rfl, jj _ _ _ _ _ _, jj _ _ _ _ _ _, jj _ _ _ _ _ _⟩
theorem CmdP.texts {m : Nat} {w w' : World} {e : Ending} (k : Int) (ts : List (List UInt8)) (v : Value) (he : e = .returned (.agg #[.int .i64 k, v, .int .i64 0, .int .i64 0, .int .i64 0, .slice none 0 0, .slice none 0 0, .bool false, .int .i64 0, .slice none 0 0, .slice none 0 0, .slice none 0 0]))
    (hv : TxtsM (newB' w.heap.size) w' v ts) (h1 : k ≠ 1) (h2 : k = 5 → jao (ts.getD 0 []) = 0) (h3 : k = 8 ∨ k = 9 → zJ ts ≠ none) (h4 : k = 6 → qv (ts.getD 0 []) = 0) (hf : qJ ⟨k, ts, zd, [], []⟩ = true) (h2' : k ≠ 2) (hb : Below w.heap.size w w') : CmdQ (m + 2) w e w' :=
  ⟨⟨k, ts, zd, [], []⟩, _, he, ⟨_, _, _, _, _, _, rfl, hv, jhW _ _ _, jj _ _ _ _ _ _, jj _ _ _ _ _ _⟩, ⟨NC.mk h1 h2 h3 h4 NT.none (fun u hu => by cases hu) (fun u hu => by cases hu) hf (fun h => absurd h h2'), h2'⟩, hb⟩
theorem CmdQ.drew {m : Nat} {w w' : World} {e : Ending} (h : CmdQ m w e w') : CmdQ m w e w'.drew := by
  obtain ⟨c, cs, h1, h2, h3, h4⟩ := h; exact ⟨c, cs, h1, CmdM.imp (fun _ h => h) (show Keeps _ w' w'.drew from ⟨Nat.le_refl _, fun _ _ _ => rfl⟩) _ _ _ h2, h3, h4.drew⟩
theorem CmdP.fin {m : Nat} {w W1 : World} {e : Ending} {c : Cmd} {cs : List Value} (hT : CmdM (fun b => w.heap.size + 1 < b) m W1 c cs) (hN : NC c) (hB : Below w.heap.size w W1) (he : e = .returned (.agg cs.toArray)) : CmdP m w e (jM W1 (w.heap.size + 1) 0 cs) :=
  ⟨c, cs, he, CmdM.imp (fun b hb => show w.heap.size ≤ b by have : w.heap.size + 1 < b := hb; omega) (qa (fun k (hk : w.heap.size + 1 < k) => by omega) cs 0 W1 W1 (Keeps.refl _ _)) _ _ _ hT, hN, j8 (by omega) cs 0 W1 w hB⟩
def jjo : Array Value := #[.string ⟨#[92, 83, 101, 101, 110]⟩, .string ⟨#[92, 68, 114, 97, 102, 116]⟩, .string ⟨#[92, 70, 108, 97, 103, 103, 101, 100]⟩]
theorem jjq {Q : Nat → Prop} {w : World} {b pa : Nat} (h : w.heap[b]? = some (.cells jjo 9)) (hp : pa < 3) (hQ : Q b) (c : Nat) : ∃ f : List UInt8, TxtsM Q w (.slice (some ⟨b, pa, none⟩) 1 c) [f] ∧ zJ [f] ≠ none := by
  have go : ∀ f : List UInt8, jjo[pa]? = some (.string (S f)) → TxtsM Q w (.slice (some ⟨b, pa, none⟩) 1 c) [f] := by
    intro f hf; refine ⟨_, c, rfl, by unfold maxLen; simp, fun i x hx => ?_⟩; cases i with
    | succ i => simp at hx
    | zero =>
      simp at hx
      subst hx; refine ⟨b, pa, [.string (S f)], rfl, (Array.getElem?_eq_some_iff.1 h).1, hQ, rfl, fun j u hj => ?_, rfl⟩; cases j with
      | succ j => simp at hj
      | zero => simp at hj; subst hj; simpa using jX h hf
  match pa, hp with
  | 0, _ => exact ⟨[92, 83, 101, 101, 110], go _ rfl, by decide⟩
  | 1, _ => exact ⟨[92, 68, 114, 97, 102, 116], go _ rfl, by decide⟩
  | 2, _ => exact ⟨[92, 70, 108, 97, 103, 103, 101, 100], go _ rfl, by decide⟩
theorem CmdP.flag {m : Nat} {w W : World} {e : Ending} (k : Int) (pa c : Nat) (he : e = .returned (.agg #[.int .i64 k, .slice (some ⟨W.heap.size, pa, none⟩) 1 c, .int .i64 0, .int .i64 0, .int .i64 0, .slice none 0 0, .slice none 0 0, .bool false, .int .i64 0, .slice none 0 0, .slice none 0 0, .slice none 0 0]))
    (hp : pa < 3) (hk : k = 8 ∨ k = 9) (hB : Below w.heap.size w W) (hs : w.heap.size + 4 ≤ W.heap.size) :
    CmdQ (m + 2) w e ((jM (W.setCell ⟨w.heap.size + 1 + 1 + 1, 1, none⟩ (.slice (some ⟨W.heap.size, pa, none⟩) 1 c)) (w.heap.size + 1) 0 [.int .i64 k, .slice (some ⟨W.heap.size, pa, none⟩) 1 c, .int .i64 0, .int .i64 0, .int .i64 0, .slice none 0 0, .slice none 0 0, .bool false, .int .i64 0, .slice none 0 0, .slice none 0 0, .slice none 0 0]).alloc (.cells jjo 9)) := by
  have hz : (jM (W.setCell ⟨w.heap.size + 1 + 1 + 1, 1, none⟩ (.slice (some ⟨W.heap.size, pa, none⟩) 1 c)) (w.heap.size + 1) 0 [.int .i64 k, .slice (some ⟨W.heap.size, pa, none⟩) 1 c, .int .i64 0, .int .i64 0, .int .i64 0, .slice none 0 0, .slice none 0 0, .bool false, .int .i64 0, .slice none 0 0, .slice none 0 0, .slice none 0 0]).heap.size = W.heap.size := by rw [qs]; simp [World.setCell]
  obtain ⟨f, hf, hfl⟩ := jjq (Q := newB' w.heap.size) (jy (w := jM (W.setCell ⟨w.heap.size + 1 + 1 + 1, 1, none⟩ (.slice (some ⟨W.heap.size, pa, none⟩) 1 c)) (w.heap.size + 1) 0 [.int .i64 k, .slice (some ⟨W.heap.size, pa, none⟩) 1 c, .int .i64 0, .int .i64 0, .int .i64 0, .slice none 0 0, .slice none 0 0, .bool false, .int .i64 0, .slice none 0 0, .slice none 0 0, .slice none 0 0]) (.cells jjo 9) hz.symm) hp (show w.heap.size ≤ W.heap.size by omega) c; refine CmdP.texts k [f] _ he hf (by omega) (fun h => by omega) (fun _ => hfl) (fun h => by omega) (by rcases hk with rfl | rfl <;> rfl) (by omega) ?_; exact (j8 (by omega) _ 0 _ w (hB.setCell (by simp; omega) _)).alloc (by rw [hz]; omega) _
end Go.Proofs.YtaapmpchcfcniaaGreatDoor
namespace Go.Proofs.YtaapmpchcfcniaaGreatDoor
open Go.RowKit Go.Proofs
def OpsP (l : List Opr) (w : World) (e : Ending) (w' : World) : Prop := ∃ a c, e = .returned (.slice a l.length c) ∧ OpsM (newB w.heap.size) w' (.slice a l.length c) l ∧ Below w.heap.size w w'
set_option maxHeartbeats 1000000 in
set_option maxRecDepth 100000 in
theorem jh3 (n : Nat) (l : List Cmd) (a : Option Addr) (k : Nat) (w : World) (hM : CmdsM anyB n w (.slice a l.length k) l) (hF : ∀ c ∈ l, WfC n c) (hlen : (jK n l).length ≤ 1000) :
    Calls Tryz.prog 22 #[.slice a l.length k] w (OpsP (vv n l) w) := by
  obtain ⟨W1, hW1⟩ : ∃ W1, W1 = w.alloc (.cells #[.slice none 0 0] 113) := ⟨_, rfl⟩; have HWE := hid hW1; have hal : Below w.heap.size w W1 := by rw [hW1]; exact (Below.refl _ _).alloc (Nat.le_refl _) _
  have HB1 := hid hal; have HC1 := hid (show WrC (fun _ => False) W1 w.heap.size [] from ⟨none, 0, by rw [hW1]; exact heap_alloc_new w _, OwnRow.nil _ _ _ _ _⟩); have HCM := hid (jg3 n l a k w (fun _ => False) w.heap.size [] W1 (fun p hp => hp.elim) (Nat.le_refl _) hal hM hF (by simpa using hlen) HC1.out); have HLC := hid (show (vv n l).length ≤ 1000 from Nat.le_trans (jeO n l) hlen); clear hW1 hal hM hF hlen; go_enter Tryz.func22, Tryz.ntmps22; go_wp2_with fail; rw [← HWE.out]; refine HCM.out.mono ?_; rintro e w2 ⟨⟨v, rfl⟩, hW2, hb2, hf2⟩; simp only; rw [List.nil_append] at hW2; obtain ⟨ra, rk, h1, h2⟩ := hW2; have HEND := hid (show OpsP (vv n l) w (.returned (.slice ra (vv n l).length rk)) w2 from ⟨ra, rk, rfl, RowM.imp (OwnRow.rowM (zB _) h2 (by have := HLC.out; unfold maxLen; show (vv n l).length ≤ _; omega)) (fun p (hp : w.heap.size + 1 ≤ p) => show w.heap.size ≤ p by omega) (Keeps.refl _ _) (fun _ _ h => qD _ _ _ _ _ _ (fun p hp => show w.heap.size ≤ p by have h1 : w.heap.size + 1 ≤ p := hp.1; omega) (Keeps.refl _ _) h), HB1.out.trans hb2⟩); have q0 := (box1 h1).1; clear h1 h2 hb2 hf2; go_wp2; go_ret; exact HEND.out
def jiV (l : List Opr) (w : World) (e : Ending) (w' : World) : Prop := ∃ a c, e = .returned (.tuple #[.slice a l.length c, .int .i64 0]) ∧ OpsM (newB w.heap.size) w' (.slice a l.length c) l ∧ Below w.heap.size w w'
set_option maxHeartbeats 1000000 in
set_option maxRecDepth 100000 in
theorem jfr (n : Nat) (l : List Cmd) (a : Option Addr) (k : Nat) (w : World) (hw : Tabs w) (hk : l.length ≤ k) (hn : l = [] → a = none ∧ k = 0) (hs : ∀ x ∈ l, vo (n + 1) x) (hC : CmdsM anyB (n + 1) w (.slice a l.length k) l) (hr : vl (n + 1) l = 0) (hF : ∀ c ∈ l, WfC (n + 1) c) (hlen : (jK (n + 1) l).length ≤ 400) :
    Calls Tryz.prog 7 #[.slice a l.length k] w (jiV (vv (n + 1) l) w) := by
  have HCH := hid (show Calls Tryz.prog 21 #[.slice a l.length k] w fun e w' => e = .returned (.int .i64 0) ∧ Below w.heap.size w w' by
    have := jgs n l a k w hw hk hn hs hC; rw [hr] at this; exact this)
  have HC := hid hC; have HF := hid hF; have HL := hid hlen; have HLC := hid (show (vv (n + 1) l).length ≤ 400 from Nat.le_trans (jeO (n + 1) l) hlen); clear hw hk hn hs hC hr hF hlen; go_enter Tryz.func7, Tryz.ntmps7; go_wp2_with fail; refine HCH.out.mono ?_; rintro e w1 ⟨rfl, hb1⟩; have HOP := hid (jh3 (n + 1) l a k w1 (CmdsM.next HC.out hb1) HF.out (by have := HL.out; omega)); have HB1 := hid hb1; clear hb1; go_wp2_with fail; refine HOP.out.mono ?_; rintro e w2 ⟨ra, rk, he, hM, hb2⟩; rw [he]; simp only; have i1 : ¬ (400 : Int) < ((vv (n + 1) l).length : Int) := by have := HLC.out; omega
  have HEND := hid (show jiV (vv (n + 1) l) w (.returned (.tuple #[.slice ra (vv (n + 1) l).length rk, .int .i64 0])) w2 from ⟨ra, rk, rfl, RowM.imp hM (fun p (hp : w1.heap.size ≤ p) => Nat.le_trans HB1.out.size hp) (Keeps.refl _ _) (fun _ _ h => qD _ _ _ _ _ _ (fun p (hp : w1.heap.size ≤ p) => Nat.le_trans HB1.out.size hp) (Keeps.refl _ _) h), HB1.out.trans (hb2.mono HB1.out.size)⟩); clear he hM hb2; go_wp2; go_ret2; exact HEND.out
theorem jl2 : ∀ (n : Nat) (c : Cmd), FitC n c → WfC n c := by
  intro n
  induction n with
  | zero => intro c _; trivial
  | succ n ih =>
    intro c h; obtain ⟨h1, h2, h3, h4⟩ := h; unfold qJ at h1; simp only [Bool.and_eq_true, decide_eq_true_eq] at h1; exact ⟨by omega, fun k => ⟨h2 k, fun x hx => ih x (h3 x hx), fun x hx => ih x (h4 x hx)⟩⟩
theorem jmR {r : List Cmd} (h : ∀ x ∈ r, NC x) (n : Nat) : ∀ x ∈ reqC :: r, WfC n x := fun x hx => by
  rcases List.mem_cons.1 hx with rfl | hx
  · cases n with
    | zero => trivial
    | succ n => exact ⟨by decide, fun h => by cases h⟩
  · exact jl2 n x (h x hx n).2
theorem jd2 (M : Nat) (r : List Cmd) (a : Option Addr) (k : Nat) (w : World) (hw : Tabs w) (hN : ∀ x ∈ r, NC x) (hc : za (M + 1) (reqC :: r) = 0) (hk : r.length + 1 ≤ k) (hC : CmdsM anyB (M + 1) w (.slice a (reqC :: r).length k) (reqC :: r)) :
    Calls Tryz.prog 7 #[.slice a (r.length + 1) k] w (jiV (vv (M + 1) (reqC :: r)) w) :=
  jfr M (reqC :: r) a k w hw (by simpa using hk) (fun h => by cases h) (fun x hx => by
    rcases List.mem_cons.1 hx with rfl | hx
    · exact ⟨(fun h => by cases h), (fun x hx => by cases hx), fun x hx => by cases hx⟩
    · exact jc5 (fun n => (hN x hx n).1) _) hC (vD hc fun x hx => (hN x hx _).1) (jmR hN _) (jbw hc).2
end Go.Proofs.YtaapmpchcfcniaaGreatDoor
namespace Go.Proofs.YtaapmpchcfcniaaGreatDoor
open Go.RowKit Go.Proofs
theorem jjP {A : Type} {Q : Nat → Prop} {k : Nat} {P : A → List Value → Prop} {w : World} {p : Nat} {cs ds : List Value} {t : TypeId} {fr : Nat × Nat} {x y : A} (h : w.heap[p]? = some (.cells (cs ++ ds).toArray t fr)) (h1 : cs.length = k) (h2 : ds.length = k) (hQ : Q p) (hx : P x cs) (hy : P y ds) : RowM Q k P w (.slice (some ⟨p, 0, none⟩) 2 2) [x, y] := by
  have hp : p < w.heap.size := (Array.getElem?_eq_some_iff.1 h).1; refine ⟨some ⟨p, 0, none⟩, 2, rfl, by unfold maxLen; simp, fun i z hz => ?_⟩
  match i, hz with
  | 0, hz =>
    simp at hz
    subst hz; refine ⟨p, 0, cs, rfl, hp, hQ, h1, fun j u hj => ?_, hx⟩; have hj' : j < cs.length := (List.getElem?_eq_some_iff.1 hj).1; simp only [World.cell?, h]; rw [Nat.zero_add, Nat.zero_mul, Nat.zero_add, List.getElem?_toArray, List.getElem?_append_left hj']; exact hj
  | 1, hz =>
    simp at hz
    subst hz; refine ⟨p, 0, ds, rfl, hp, hQ, h2, fun j u hj => ?_, hy⟩; simp only [World.cell?, h]; rw [Nat.zero_add, Nat.one_mul, List.getElem?_toArray, List.getElem?_append_right (by omega), h1, Nat.add_sub_cancel_left]; exact hj
theorem jdJ {Q : Nat → Prop} {w : World} {p : Nat} (h : w.heap[p]? = some (.cells #[.string ⟨#[102, 105, 108, 101, 105, 110, 116, 111]⟩, .string ⟨#[114, 101, 106, 101, 99, 116]⟩, .string ⟨#[101, 110, 118, 101, 108, 111, 112, 101]⟩, .string ⟨#[105, 109, 97, 112, 52, 102, 108, 97, 103, 115]⟩] 9)) (hQ : Q p) : TxtsM Q w (.slice (some ⟨p, 0, none⟩) 4 4) reqT := by
  refine ⟨_, 4, rfl, by unfold maxLen; decide, fun i x hx => ?_⟩; have hi : i < 4 := (List.getElem?_eq_some_iff.1 hx).1; refine ⟨p, 0, [.string (S x)], rfl, (Array.getElem?_eq_some_iff.1 h).1, hQ, rfl, fun j u hj => ?_, rfl⟩; cases j with
  | succ j => simp at hj
  | zero =>
    simp at hj
    subst hj; rw [Nat.zero_add, Nat.mul_one, Nat.add_zero]; simp only [World.cell?, h]
    match i, hi with
    | 0, _ | 1, _ | 2, _ | 3, _ => cases hx; rfl
end Go.Proofs.YtaapmpchcfcniaaGreatDoor
namespace Go.Proofs.YtaapmpchcfcniaaGreatDoor
open Go.RowKit Go.Proofs
set_option maxHeartbeats 1000000 in
set_option maxRecDepth 100000 in
theorem jau (a : Option Addr) (n c : Nat) (w : World) :
    Calls Tryz.prog 31 #[.slice a n c] w fun e w' => e = .returned (.agg #[.int .i64 1, .slice a n c, .int .i64 0, .int .i64 0, .int .i64 0, .slice none 0 0, .slice none 0 0, .bool false, .int .i64 0, .slice none 0 0, .slice none 0 0, .slice none 0 0]) ∧ Below w.heap.size w w' := by
  go_enter Tryz.func31, Tryz.ntmps31; go_wp2; refine bodyPost_ret (v := .agg #[.int .i64 1, .slice a n c, .int .i64 0, .int .i64 0, .int .i64 0, .slice none 0 0, .slice none 0 0, .bool false, .int .i64 0, .slice none 0 0, .slice none 0 0, .slice none 0 0]) (by simp [results, Tryz.results31, go_sem]) rfl ?_; exact ⟨rfl, (Below.refl _ _).alloc (Nat.le_refl _) _⟩
end Go.Proofs.YtaapmpchcfcniaaGreatDoor
namespace Go.Proofs.YtaapmpchcfcniaaGreatDoor
open Go.RowKit Go.Proofs
def qd (k : Int) : Bool := (k == 3) || (k == 4) || (k == 5)
set_option maxHeartbeats 1000000 in
theorem jW (k : Int) (w : World) : Calls Tryz.prog 76 #[.int .i64 k] w fun e w' => e = .returned (.bool (qd k)) ∧ w' = w := by
  unfold qd
  by_cases h3 : k = 3
  · subst h3; go_enter Tryz.func76, Tryz.ntmps76; go_wp2; go_ret; exact ⟨rfl, rfl⟩
  · have c3 : (k == 3) = false := by simp [h3]
    by_cases h4 : k = 4
    · subst h4; go_enter Tryz.func76, Tryz.ntmps76; go_wp2; go_ret; exact ⟨rfl, rfl⟩
    · have c4 : (k == 4) = false := by simp [h4]
      rw [c3, c4]; simp only [Bool.false_or]; clear h3 h4; go_enter Tryz.func76, Tryz.ntmps76; go_wp2; go_ret; exact ⟨rfl, rfl⟩
set_option maxHeartbeats 1000000 in
theorem zG (k : Int) (w : World) : Calls Tryz.prog 121 #[.int .i64 k] w fun e w' => e = .returned (.bool (qd k)) ∧ w' = w := by
  unfold qd
  by_cases h3 : k = 3
  · subst h3; go_enter Tryz.func121, Tryz.ntmps121; go_wp2; go_ret; exact ⟨rfl, rfl⟩
  · have c3 : (k == 3) = false := by simp [h3]
    by_cases h4 : k = 4
    · subst h4; go_enter Tryz.func121, Tryz.ntmps121; go_wp2; go_ret; exact ⟨rfl, rfl⟩
    · have c4 : (k == 4) = false := by simp [h4]
      rw [c3, c4]; simp only [Bool.false_or]; clear h3 h4; go_enter Tryz.func121, Tryz.ntmps121; go_wp2; go_ret; exact ⟨rfl, rfl⟩
set_option maxHeartbeats 1000000 in
set_option maxRecDepth 100000 in
theorem jaN (p1 p2 p3 : Option Addr) (q1 q2 q3 : Nat) (w : World) : Calls Tryz.prog 119 #[.agg #[.int .i64 0, .int .i64 0, .int .i64 0, .slice p1 0 q1, .slice p2 0 q2, .bool false, .int .i64 0, .slice p3 0 q3]] w fun e w' => e = .returned (.bool true) ∧ Below w.heap.size w w' := by
  go_enter Tryz.func119, Tryz.ntmps119; go_wp2; go_ret; exact ⟨rfl, (Below.refl _ _).alloc (Nat.le_refl _) _⟩
set_option maxHeartbeats 1000000 in
set_option maxRecDepth 100000 in
theorem jdx (p4 p5 p6 p7 p8 p9 : Option Addr) (q4 q5 q6 q7 q8 q9 : Nat) (w : World) : Calls Tryz.prog 120 #[.agg #[.int .i64 0, .slice p4 0 q4, .int .i64 0, .int .i64 0, .int .i64 0, .slice p5 0 q5, .slice p6 0 q6, .bool false, .int .i64 0, .slice p7 0 q7, .slice p8 0 q8, .slice p9 0 q9]] w fun e w' => e = .returned (.bool true) ∧ Below w.heap.size w w' := by
  obtain ⟨W1, hW1⟩ : ∃ W1, W1 = w.alloc (.cells #[.int .i64 0, .slice p4 0 q4, .int .i64 0, .int .i64 0, .int .i64 0, .slice p5 0 q5, .slice p6 0 q6, .bool false, .int .i64 0, .slice p7 0 q7, .slice p8 0 q8, .slice p9 0 q9] 58) := ⟨_, rfl⟩; have HWE := hid hW1; have HB1 := hid (show Below w.heap.size w W1 by rw [hW1]; exact (Below.refl _ _).alloc (Nat.le_refl _) _); have hbx : W1.heap[w.heap.size]? = some (.cells #[.int .i64 0, .slice p4 0 q4, .int .i64 0, .int .i64 0, .int .i64 0, .slice p5 0 q5, .slice p6 0 q6, .bool false, .int .i64 0, .slice p7 0 q7, .slice p8 0 q8, .slice p9 0 q9] 58) := by rw [hW1]; exact heap_alloc_new w _
  have HBX := hid hbx; have HN := hid (jaN p5 p6 p7 q5 q6 q7 W1); clear hW1 hbx; go_enter Tryz.func120, Tryz.ntmps120; go_wp2_with fail; rw [← HWE.out]; refine HN.out.mono ?_; rintro e w2 ⟨rfl, hb2⟩; have h2 := jL hb2 HBX.out; have x10 := jc (j := 10) h2 rfl; have x11 := jc (j := 11) h2 rfl; have HB2 := hid (HB1.out.trans (hb2.mono HB1.out.size)); clear h2 hb2; go_wp2; go_ret; exact ⟨rfl, HB2.out⟩
set_option maxHeartbeats 1000000 in
set_option maxRecDepth 100000 in
theorem jcg (M : Nat) (c : Cmd) (ax an ak at' aa ae : Option Addr) (cx cn ck ct ca ce : Nat) (w : World) (hw : Tabs w) (hC : CmdM anyB (M + 2) w c [.int .i64 c.kind, .slice ax c.texts.length cx, .int .i64 c.test.kind, .int .i64 c.test.mat, .int .i64 c.test.part, .slice an c.test.names.length cn, .slice ak c.test.keys.length ck, .bool c.test.over, .int .i64 c.test.limit, .slice at' c.test.tests.length ct, .slice aa c.thn.length ca, .slice ae c.els.length ce]) (hS : vo (M + 2) c) (hr : vl (M + 2) [reqC, c] = 0) :
    Calls Tryz.prog 78 #[.agg #[.int .i64 c.kind, .slice ax c.texts.length cx, .int .i64 c.test.kind, .int .i64 c.test.mat, .int .i64 c.test.part, .slice an c.test.names.length cn, .slice ak c.test.keys.length ck, .bool c.test.over, .int .i64 c.test.limit, .slice at' c.test.tests.length ct, .slice aa c.thn.length ca, .slice ae c.els.length ce]] w fun e w' => e = .returned (.int .i64 0) ∧ Below w.heap.size w w' := by
  obtain ⟨W3, hW3⟩ : ∃ W3, W3 = (((w.alloc (.cells #[.int .i64 c.kind, .slice ax c.texts.length cx, .int .i64 c.test.kind, .int .i64 c.test.mat, .int .i64 c.test.part, .slice an c.test.names.length cn, .slice ak c.test.keys.length ck, .bool c.test.over, .int .i64 c.test.limit, .slice at' c.test.tests.length ct, .slice aa c.thn.length ca, .slice ae c.els.length ce] 58)).alloc (.cells #[.string ⟨#[102, 105, 108, 101, 105, 110, 116, 111]⟩, .string ⟨#[114, 101, 106, 101, 99, 116]⟩, .string ⟨#[101, 110, 118, 101, 108, 111, 112, 101]⟩, .string ⟨#[105, 109, 97, 112, 52, 102, 108, 97, 103, 115]⟩] 9)).alloc (.cells #[.int .i64 1, .slice (some ⟨w.heap.size + 1, 0, none⟩) 4 4, .int .i64 0, .int .i64 0, .int .i64 0, .slice none 0 0, .slice none 0 0, .bool false, .int .i64 0, .slice none 0 0, .slice none 0 0, .slice none 0 0] 58)).alloc (.cells #[.int .i64 1, .slice (some ⟨w.heap.size + 1, 0, none⟩) 4 4, .int .i64 0, .int .i64 0, .int .i64 0, .slice none 0 0, .slice none 0 0, .bool false, .int .i64 0, .slice none 0 0, .slice none 0 0, .slice none 0 0, .int .i64 c.kind, .slice ax c.texts.length cx, .int .i64 c.test.kind, .int .i64 c.test.mat, .int .i64 c.test.part, .slice an c.test.names.length cn, .slice ak c.test.keys.length ck, .bool c.test.over, .int .i64 c.test.limit, .slice at' c.test.tests.length ct, .slice aa c.thn.length ca, .slice ae c.els.length ce] 58) := ⟨_, rfl⟩; have HWE := hid hW3; have hal : Below w.heap.size w W3 := by rw [hW3]; exact ((((Below.refl _ _).alloc (Nat.le_refl _) _).alloc (by simp) _).alloc (by simp; omega) _).alloc (by simp; omega) _
  have HB3 := hid hal; have HST := hid (show W3.heap[w.heap.size + 1]? = some (.cells #[.string ⟨#[102, 105, 108, 101, 105, 110, 116, 111]⟩, .string ⟨#[114, 101, 106, 101, 99, 116]⟩, .string ⟨#[101, 110, 118, 101, 108, 111, 112, 101]⟩, .string ⟨#[105, 109, 97, 112, 52, 102, 108, 97, 103, 115]⟩] 9) by rw [hW3]; exact jf _ (jf _ (jy _ (by simp)))); have HRW := hid (show CmdsM anyB (M + 2) W3 (.slice (some ⟨w.heap.size + 3, 0, none⟩) [reqC, c].length 2) [reqC, c] by
    refine jjP (t := 58) (fr := (0, 0)) (cs := [.int .i64 1, .slice (some ⟨w.heap.size + 1, 0, none⟩) 4 4, .int .i64 0, .int .i64 0, .int .i64 0, .slice none 0 0, .slice none 0 0, .bool false, .int .i64 0, .slice none 0 0, .slice none 0 0, .slice none 0 0]) (ds := [.int .i64 c.kind, .slice ax c.texts.length cx, .int .i64 c.test.kind, .int .i64 c.test.mat, .int .i64 c.test.part, .slice an c.test.names.length cn, .slice ak c.test.keys.length ck, .bool c.test.over, .int .i64 c.test.limit, .slice at' c.test.tests.length ct, .slice aa c.thn.length ca, .slice ae c.els.length ce]) (by rw [hW3]; exact jy _ (by simp)) rfl rfl trivial ?_ (CmdM.next hC hal); exact ⟨_, _, _, _, _, _, rfl, jdJ HST.out trivial, zS _ _ _, jj _ _ _ _ _ _, jj _ _ _ _ _ _⟩)
  have HCH := hid (show Calls Tryz.prog 21 #[.slice (some ⟨w.heap.size + 3, 0, none⟩) 2 2] W3 fun e w' => e = .returned (.int .i64 0) ∧ Below W3.heap.size W3 w' by
    have := vb (M + 1) [reqC, c] (w.heap.size + 3) 0 2 W3 (hw.next hal) (by simp) (fun y hy => by
      simp at hy
      rcases hy with e | e
      · rw [e]; exact ⟨(fun h => by cases h), (fun x hx => by cases hx), fun x hx => by cases hx⟩
      · rw [e]; exact hS) HRW.out
    rw [show vl (M + 1 + 1) [reqC, c] = 0 from hr] at this; exact this)
  clear hw hC hS hr hal hW3; go_enter Tryz.func78, Tryz.ntmps78; go_wp2_with fail; rw [← HWE.out]; refine HCH.out.mono ?_; rintro e w4 ⟨rfl, hb4⟩; have HB4 := hid (HB3.out.trans (hb4.mono HB3.out.size)); clear hb4; go_wp2; go_ret; exact ⟨rfl, HB4.out⟩
end Go.Proofs.YtaapmpchcfcniaaGreatDoor
