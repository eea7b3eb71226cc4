/-
  A box beside rows of its own that are written: how these stay apart, and what stays as it was.
-/
import Derived.Test.YtgooljlpffnaeaaGreatDoorRows
import Derived.Test.YtgooljlpffnaeaaGreatDoorFQPoMod9
namespace Go.Proofs.YtgooljlpffnaeaaGreatDoor
open Go.RowKit Go.Proofs
structure MRow where
 e : TypeId
 k : Nat
 v : Value
 n : Nat
 xs : List Value
def mB (M : List MRow) : List Nat := M.filterMap (·.v.ownBlock)
def Av (b : Nat) (G : List Nat) (k : Nat) : Prop := k ≠ b ∧ k ∉ G
structure Stp (b : Nat) (G : List Nat) (w : World) (G' : List Nat) (w' : World) : Prop where
 os : w'.os = w.os
 tape : w'.tape = w.tape
 output : w'.output = w.output
 size : w.heap.size ≤ w'.heap.size
 block : ∀ k, k < w.heap.size → Av b G k → w'.heap[k]? = w.heap[k]?
 row : ∀ k ∈ G', k ∈ G ∨ w.heap.size ≤ k
theorem Stp.of {b : Nat} {G : List Nat} {w w' : World} (h : Below w.heap.size w w') : Stp b G w G w' := ⟨h.os, h.tape, h.output, h.size, fun k hk _ => h.block k hk, fun _ h => .inl h⟩
theorem Stp.refl (b : Nat) (G : List Nat) (w : World) : Stp b G w G w := .of (Below.refl _ _)
theorem Stp.trans {b : Nat} {G G' G'' : List Nat} {x y z : World} (h : Stp b G x G' y) (k : Stp b G' y G'' z) : Stp b G x G'' z := by
 refine ⟨k.os.trans h.os, k.tape.trans h.tape, k.output.trans h.output, Nat.le_trans h.size k.size, fun i hi hA => ?_, fun i hi => ?_⟩
 · refine (k.block i (Nat.lt_of_lt_of_le hi h.size) ⟨hA.1, fun e => ?_⟩).trans (h.block i hi hA)
   rcases h.row i e with q | q
   · exact hA.2 q
   · omega
 · rcases k.row i hi with q | q
   · exact h.row i q
   · exact .inr (Nat.le_trans h.size q)
theorem Stp.below {b B : Nat} {G G' : List Nat} {w w' : World} (h : Stp b G w G' w') (hB : B ≤ b) (hw : B ≤ w.heap.size) (hG : ∀ k ∈ G, B ≤ k) : Below B w w' :=
 ⟨h.os, h.tape, h.output, h.size, fun k hk => h.block k (by omega) ⟨by omega, fun e => by have := hG k e; omega⟩⟩
theorem Stp.keeps {b : Nat} {G G' : List Nat} {w w' : World} (h : Stp b G w G' w') : Keeps (Av b G) w w' := ⟨h.size, h.block⟩
theorem Stp.av {b : Nat} {G G' : List Nat} {w w' : World} (h : Stp b G w G' w') {k : Nat} (hk : k < w.heap.size) (hA : Av b G k) : Av b G' k :=
 ⟨hA.1, fun e => by rcases h.row k e with q | q; exact hA.2 q; omega⟩
theorem RowM.stp {A : Type} {b : Nat} {G G' : List Nat} {k : Nat} {P P' : A → List Value → Prop} {w w' : World} {v : Value} {l : List A} (h : RowM (Av b G) k P w v l) (hs : Stp b G w G' w') (hp : ∀ x cs, P x cs → P' x cs) : RowM (Av b G') k P' w' v l := by
 obtain ⟨a, c, hv, hm, hx⟩ := h; refine ⟨a, c, hv, hm, fun i x hi => ?_⟩; obtain ⟨g, o, cs, ha, hg, hQ, hl, hc, hP⟩ := hx i x hi; exact ⟨g, o, cs, ha, Nat.lt_of_lt_of_le hg hs.size, hs.av hg hQ, hl, fun j u hj => (World.cell?_of_block (hs.block g hg hQ)).trans (hc j u hj), hp x cs hP⟩
def AvN (N b : Nat) (G : List Nat) (k : Nat) : Prop := N ≤ k ∧ Av b G k
theorem RowM.stpN {A : Type} {N b : Nat} {G G' : List Nat} {k : Nat} {P P' : A → List Value → Prop} {w w' : World} {v : Value} {l : List A} (h : RowM (AvN N b G) k P w v l) (hs : Stp b G w G' w') (hp : ∀ x cs, P x cs → P' x cs) : RowM (AvN N b G') k P' w' v l := by
 obtain ⟨a, c, hv, hm, hx⟩ := h; refine ⟨a, c, hv, hm, fun i x hx' => ?_⟩; obtain ⟨g, o, cs, ha, hg, hQ, hl, hc, hP⟩ := hx i x hx'; exact ⟨g, o, cs, ha, Nat.lt_of_lt_of_le hg hs.size, ⟨hQ.1, hs.av hg hQ.2⟩, hl, fun j u hj => (World.cell?_of_block (hs.block g hg hQ.2)).trans (hc j u hj), hp x cs hP⟩
theorem TxtsM.stp {N b : Nat} {G G' : List Nat} {w w' : World} {v : Value} {l : List (List UInt8)} (h : TxtsM (AvN N b G) w v l) (hs : Stp b G w G' w') : TxtsM (AvN N b G') w' v l := RowM.stpN h hs fun _ _ h => h
structure MOk (w : World) (B b : Nat) (M : List MRow) : Prop where
 own : ∀ r ∈ M, w.ownsRow B r.e r.k r.v r.n r.xs
 nd : (mB M).Nodup
 far : b ∉ mB M
 lt : b < w.heap.size
theorem jmQ {M : List MRow} {k : Nat} (h : k ∈ mB M) : ∃ r ∈ M, r.v.ownBlock = some k := List.mem_filterMap.1 h
theorem MOk.rng {w : World} {B b : Nat} {M : List MRow} (h : MOk w B b M) : ∀ k ∈ mB M, B ≤ k ∧ k < w.heap.size := fun k hk => by
 obtain ⟨r, hr, e⟩ := jmQ hk; exact World.ownsRow.lt (h.own r hr) k e
theorem MOk.next {w w' : World} {B b : Nat} {M : List MRow} (h : MOk w B b M) (hb : Below w.heap.size w w') : MOk w' B b M := ⟨fun r hr => jU (h.own r hr) hb, h.nd, h.far, Nat.lt_of_lt_of_le h.lt hb.size⟩
theorem MOk.box {w : World} {B b : Nat} {M : List MRow} (h : MOk w B b M) (j : Nat) (u : Value) : MOk (w.setCell ⟨b, j, none⟩ u) B b M := by
 refine ⟨fun r hr => ?_, h.nd, h.far, by have := h.lt; simpa [World.setCell] using this⟩; obtain ⟨h1, h2⟩ := h.own r hr; refine ⟨h1, h2.imp id ?_⟩; rintro ⟨g, cap, cur, hv, hB, hg, hx⟩; refine ⟨g, cap, cur, hv, hB, (Below.heap_setCell _ _ _ _ (show g ≠ b from fun e => h.far ?_)).trans hg, hx⟩; exact List.mem_filterMap.2 ⟨r, hr, by rw [hv]; exact congrArg some e⟩
theorem jkd {w w' : World} {row : Option Nat} {B e k : Nat} {v : Value} {n : Nat} {xs : List Value} (h : w.ownsRow B e k v n xs) (hg : w.grownBy w' row) (hne : ∀ g, v.ownBlock = some g → row ≠ some g) : w'.ownsRow B e k v n xs := by
 obtain ⟨h1, h2⟩ := h; refine ⟨h1, h2.imp id ?_⟩; rintro ⟨g, cap, cur, rfl, hB, hg', hr⟩; exact ⟨g, cap, cur, rfl, hB, (hg.block g (Array.getElem?_eq_some_iff.1 hg').1 (fun e => hne g rfl e.symm)).trans hg', hr⟩
theorem jaD (A Z : List MRow) : mB (A ++ Z) = mB A ++ mB Z := List.filterMap_append
theorem vL (r : MRow) (Z : List MRow) : mB (r :: Z) = r.v.ownBlock.toList ++ mB Z := by
 unfold mB; rw [List.filterMap_cons]; cases r.v.ownBlock <;> rfl
theorem MOk.grow {w w' : World} {B b H : Nat} {A Z : List MRow} {r r' : MRow} (h : MOk w B b (A ++ r :: Z)) (hg : w.grownBy w' r.v.ownBlock) (ho : w'.ownsRow B r'.e r'.k r'.v r'.n r'.xs) (hH : w.heap.size ≤ H)
 (hat : ∀ g, r'.v.ownBlock = some g → r.v.ownBlock = some g ∨ H ≤ g) : MOk w' B b (A ++ r' :: Z) ∧ Stp b (mB (A ++ r :: Z)) w (mB (A ++ r' :: Z)) w' := by
 have hlt := h.rng; have hd := h.nd; have hf := h.far; have hbl := h.lt; rw [jaD, vL] at hd hlt hf; have hd1 := List.nodup_append.1 hd; have hd2 := List.nodup_append.1 hd1.2.1; have hrA : ∀ g, r.v.ownBlock = some g → g ∉ mB A := fun g e hA => hd1.2.2 g hA g (by simp [e]) rfl
 have hrB : ∀ g, r.v.ownBlock = some g → g ∉ mB Z := fun g e hB => hd2.2.2 g (by simp [e]) g hB rfl
 have ho' : ∀ x ∈ A ++ Z, w'.ownsRow B x.e x.k x.v x.n x.xs := fun x hx => by
  refine jkd (h.own x (by rcases List.mem_append.1 hx with q | q <;> simp [q])) hg fun g e e' => ?_
  have hm : g ∈ mB (A ++ Z) := List.mem_filterMap.2 ⟨x, hx, e⟩; rw [jaD] at hm
  rcases List.mem_append.1 hm with q | q
  · exact hrA g e' q
  · exact hrB g e' q
 have hnew : ∀ g, r'.v.ownBlock = some g → g ∉ mB A ∧ g ∉ mB Z := fun g e => by
  rcases hat g e with q | q
  · exact ⟨hrA g q, hrB g q⟩
  · exact ⟨fun hA => by have := hlt g (by simp [hA]); omega, fun hB => by have := hlt g (by simp [hB]); omega⟩
 refine ⟨⟨fun x hx => ?_, ?_, ?_, Nat.lt_of_lt_of_le hbl hg.size⟩, hg.os, hg.tape, hg.output, hg.size, fun k hk hA => hg.block k hk fun e => hA.2 ?_, fun k hk => ?_⟩
 · rcases List.mem_append.1 hx with q | q
   · exact ho' x (by simp [q])
   · rcases List.mem_cons.1 q with rfl | q
     · exact ho
     · exact ho' x (by simp [q])
 · rw [jaD, vL]; refine List.nodup_append.2 ⟨hd1.1, List.nodup_append.2 ⟨by cases r'.v.ownBlock <;> simp, hd2.2.1, ?_⟩, ?_⟩
   · intro a ha c hc e; subst e; exact (hnew a (by simpa using ha)).2 hc
   · intro a ha c hc e; subst e
     rcases List.mem_append.1 hc with q | q
     · exact (hnew a (by simpa using q)).1 ha
     · exact hd1.2.2 a ha a (by simp [q]) rfl
 · rw [jaD, vL]; intro hc
   rcases List.mem_append.1 hc with q | q
   · exact hf (by simp [q])
   · rcases List.mem_append.1 q with q | q
     · have q : r'.v.ownBlock = some b := by simpa using q
       rcases hat b q with e | e
       · exact hf (by simp [e])
       · omega
     · exact hf (by simp [q])
 · rw [jaD, vL]
   simp [e]
 · rw [jaD, vL] at hk ⊢
   rcases List.mem_append.1 hk with q | q
   · exact .inl (by simp [q])
   · rcases List.mem_append.1 q with q | q
     · have q : r'.v.ownBlock = some k := by simpa using q
       rcases hat k q with e | e
       · exact .inl (by simp [e])
       · exact .inr (by omega)
     · exact .inl (by simp [q])
theorem Stp.box {b : Nat} {G G' : List Nat} {w w' : World} (h : Stp b G w G' w') (j : Nat) (u : Value) : Stp b G w G' (w'.setCell ⟨b, j, none⟩ u) :=
 ⟨h.os, h.tape, h.output, by have := h.size; simpa [World.setCell] using this, fun k hk hA => (Below.heap_setCell _ _ _ _ hA.1).trans (h.block k hk hA), h.row⟩
theorem ja6 {A : Type} {B : Nat} {e : TypeId} {w : World} {v : Value} {l : List A} {f : A → Value} {Q : Nat → Prop} (h : w.ownsRow B e 1 v l.length (l.map f)) (hs : l.length ≤ maxLen) (hQ : ∀ g, v.ownBlock = some g → Q g) : RowM Q 1 (fun x cs => cs = [f x]) w v l := by
 rcases h.2 with ⟨rfl, h0⟩ | ⟨g, cap, cur, rfl, hB, hg, hnc, hcm, hcs, htk⟩
 · obtain rfl : l = [] := List.length_eq_zero_iff.1 h0; exact jj _ _ _ _ _ _
 · refine ⟨some ⟨g, 0, none⟩, cap, rfl, hs, fun i x hx => ⟨g, 0, [f x], rfl, (Array.getElem?_eq_some_iff.1 hg).1, hQ g rfl, rfl, fun j u hj => ?_, rfl⟩⟩; have hi : i < l.length := (List.getElem?_eq_some_iff.1 hx).1
   match j, hj with
   | 0, hj =>
     cases hj; have h1 : cur.toList[i]? = some (f x) := by
        rw [← List.getElem?_take_of_lt (show i < l.length * 1 by omega), htk, List.getElem?_map, hx]; rfl
     simp only [World.cell?, hg, Nat.zero_add, Nat.mul_one, Nat.add_zero]
     simpa using h1
section
variable {P : Program} {ops : Array Oper} {Q : Exit → Act → World → Prop} {md : Region.Mode} {T : World → Prop} {late : Nat → Bool}
def js (P : Program) (md : Region.Mode) (ops : Array Oper) (Q : Exit → Act → World → Prop) (late : Nat → Bool) (T : World → Prop) : Nat → Array Bool → Act → World → Prop
 | 0, listed, a, w => Region.ready md ops listed = [] ∧ Q .normal a w
 | fuel + 1, listed, a, w =>
   (Region.ready md ops listed = [] → Q .normal a w) ∧
   ∀ i ∈ Region.ready md ops listed, wpOp P ops Q i (fun a' w' => (late i = false → T w → T w') ∧ js P md ops Q late T fuel (listed.setIfInBounds i true) a' w') a w
theorem jaR : ∀ (fuel : Nat) (listed : Array Bool) (a : Act) (w : World), js P md ops Q late T fuel listed a w → wpAny P md ops Q fuel listed a w
 | 0, _, _, _, h => h
 | fuel + 1, _, _, _, h => ⟨h.1, fun i hi => wpOp_mono (fun a' w' h' => jaR fuel _ a' w' h'.2) (h.2 i hi)⟩
def waits (md : Region.Mode) (ops : Array Oper) (late : Nat → Bool) (i : Nat) : Bool :=
 (List.range ops.size).all fun j => !late j || match ops[j]? with
    | some o => o.after.toList.any fun e => Region.binds md e && e.on == i
    | none => true
theorem jhi {i : Nat} (h : waits md ops late i = true) (j : Nat) (oj : Oper) (hj : ops[j]? = some oj) (hl : late j = true) : ∃ e ∈ oj.after, Region.binds md e = true ∧ e.on = i := by
 have hs : j < ops.size := (Array.getElem?_eq_some_iff.1 hj).1; have := List.all_eq_true.1 h j (List.mem_range.2 hs); rw [hl, hj] at this; simp only [Bool.not_true, Bool.false_or, List.any_eq_true, Bool.and_eq_true, beq_iff_eq] at this; obtain ⟨e, he, h1, h2⟩ := this; exact ⟨e, by simpa using he, h1, h2⟩
theorem jer {i : Nat} {oi : Oper} {v : Value} (hi : ops[i]? = some oi) (hsel : ∀ (j : Nat) (o : Oper) cs b, ops[j]? = some o → o.op ≠ .select cs b)
 (hQ : ∀ c a w, Q (.panic c) (a.put oi.dst v) w → Q (.panic c) a w) (hwt : waits md ops late i = true) :
 ∀ (fuel : Nat) (listed : Array Bool) (a : Act) (w : World),
   (∀ j oj, ops[j]? = some oj → j ≠ i → listed.getD j true = false → (∀ e ∈ oj.after, Region.binds md e = true → e.on ≠ i) → oi.apart ops oj = true) →
   i ∈ Region.ready md ops listed → YieldsIf P ops T oi v a → T w →
   js P md ops Q late T fuel (listed.setIfInBounds i true) (a.put oi.dst v) w → js P md ops Q late T (fuel + 1) listed a w := by
 intro fuel
 induction fuel with
 | zero =>
   intro listed a w _ hr hy hS H; refine ⟨fun h => (by rw [h] at hr; cases hr), fun j hj => ?_⟩
   by_cases hji : j = i
   · subst hji; exact hy.wpOp hi hS ⟨fun _ h => h, H⟩
   · have := ready_mono hj hji; rw [H.1] at this; cases this
 | succ fuel ih =>
   intro listed a w hfree hr hy hS H; refine ⟨fun h => (by rw [h] at hr; cases hr), fun j hj => ?_⟩
   by_cases hji : j = i
   · subst hji; exact hy.wpOp hi hS ⟨fun _ h => h, H⟩
   · have h1 := H.2 j (ready_mono hj hji); obtain ⟨hjun, oj, hoj, hall⟩ := mem_ready.1 hj; have hnot : ∀ e ∈ oj.after, Region.binds md e = true → e.on ≠ i := fun e he hb heq => by
        have h1 := hall e he hb; have h0 := (mem_ready.1 hr).1; rw [heq] at h1
        rcases Nat.lt_or_ge i listed.size with h' | h'
        · simp [h'] at h0 h1; rw [h0] at h1; cases h1
        · simp [Array.getElem?_eq_none h'] at h1
     have hlt : late j = false := by
        cases hl : late j with
        | false => rfl
        | true => obtain ⟨e, he, hb, hon⟩ := jhi hwt j oj hoj hl; exact absurd hon (hnot e he hb)
     have h2 := wpOp_putIf hoj (hfree j oj hoj hji hjun hnot) (fun cs b => hsel i oi cs b hi) (fun cs b => hsel j oj cs b hoj) hQ hy h1; have hfree' : ∀ k ok, ops[k]? = some ok → k ≠ i → (listed.setIfInBounds j true).getD k true = false →
      (∀ e ∈ ok.after, Region.binds md e = true → e.on ≠ i) → oi.apart ops ok = true := fun k ok hk hki hun hno => by
        refine hfree k ok hk hki ?_ hno
        by_cases hjk : j = k
        · subst hjk; exact hjun
        · rw [getD_set_ne true hjk] at hun; exact hun
     refine wpOp_mono (fun a' w' h3 => ⟨h3.2.1, ih (listed.setIfInBounds j true) a' w' hfree' (ready_mono hr (Ne.symm hji)) h3.1 (h3.2.1 hlt hS) ?_⟩) h2; rw [Array.setIfInBounds_comm _ _ hji]; exact h3.2.2
theorem zL {i : Nat} {oi : Oper} {v : Value} {fuel : Nat} {listed : Array Bool} {a : Act} {w : World} (hi : ops[i]? = some oi)
 (hs : Region.noSelect ops = true) (hf : Region.free md ops listed i = true) (hr : (Region.ready md ops listed).contains i = true) (hwt : waits md ops late i = true)
 (hQ : ∀ c a w, Q (.panic c) (a.put oi.dst v) w → Q (.panic c) a w) (hy : YieldsIf P ops T oi v a) (hS : T w)
 (h : js P md ops Q late T fuel (listed.setIfInBounds i true) (a.put oi.dst v) w) : js P md ops Q late T (fuel + 1) listed a w :=
 jer hi (Region.noSelect_spec hs) hQ hwt fuel listed a w (Region.free_spec hi hf) (by simpa using hr) hy hS h
theorem jhm {i : Nat} {oi : Oper} {v : Value} (hi : ops[i]? = some oi) (hsel : ∀ (j : Nat) (o : Oper) cs b, ops[j]? = some o → o.op ≠ .select cs b)
 (hQ : ∀ c a w, Q (.panic c) (a.put oi.dst v) w → Q (.panic c) a w) :
 ∀ (fuel : Nat) (listed : Array Bool) (a : Act) (w : World),
   (∀ j oj, ops[j]? = some oj → j ≠ i → listed.getD j true = false → (∀ e ∈ oj.after, Region.binds md e = true → e.on ≠ i) → oi.apart ops oj = true) →
   i ∈ Region.ready md ops listed → YieldsIf P ops (fun _ => True) oi v a →
   js P md ops Q late T fuel (listed.setIfInBounds i true) (a.put oi.dst v) w → js P md ops Q late T (fuel + 1) listed a w := by
 intro fuel
 induction fuel with
 | zero =>
   intro listed a w _ hr hy H; refine ⟨fun h => (by rw [h] at hr; cases hr), fun j hj => ?_⟩
   by_cases hji : j = i
   · subst hji; exact hy.wpOp hi trivial ⟨fun _ h => h, H⟩
   · have := ready_mono hj hji; rw [H.1] at this; cases this
 | succ fuel ih =>
   intro listed a w hfree hr hy H; refine ⟨fun h => (by rw [h] at hr; cases hr), fun j hj => ?_⟩
   by_cases hji : j = i
   · subst hji; exact hy.wpOp hi trivial ⟨fun _ h => h, H⟩
   · have h1 := H.2 j (ready_mono hj hji); obtain ⟨hjun, oj, hoj, hall⟩ := mem_ready.1 hj; have hnot : ∀ e ∈ oj.after, Region.binds md e = true → e.on ≠ i := fun e he hb heq => by
        have h1 := hall e he hb; have h0 := (mem_ready.1 hr).1; rw [heq] at h1
        rcases Nat.lt_or_ge i listed.size with h' | h'
        · simp [h'] at h0 h1; rw [h0] at h1; cases h1
        · simp [Array.getElem?_eq_none h'] at h1
     have h2 := wpOp_putIf hoj (hfree j oj hoj hji hjun hnot) (fun cs b => hsel i oi cs b hi) (fun cs b => hsel j oj cs b hoj) hQ hy h1; have hfree' : ∀ k ok, ops[k]? = some ok → k ≠ i → (listed.setIfInBounds j true).getD k true = false →
      (∀ e ∈ ok.after, Region.binds md e = true → e.on ≠ i) → oi.apart ops ok = true := fun k ok hk hki hun hno => by
        refine hfree k ok hk hki ?_ hno
        by_cases hjk : j = k
        · subst hjk; exact hjun
        · rw [getD_set_ne true hjk] at hun; exact hun
     refine wpOp_mono (fun a' w' h3 => ⟨h3.2.1, ih (listed.setIfInBounds j true) a' w' hfree' (ready_mono hr (Ne.symm hji)) h3.1 ?_⟩) h2; rw [Array.setIfInBounds_comm _ _ hji]; exact h3.2.2
theorem jf {i : Nat} {oi : Oper} {v : Value} {fuel : Nat} {listed : Array Bool} {a : Act} {w : World} (hi : ops[i]? = some oi)
 (hs : Region.noSelect ops = true) (hf : Region.free md ops listed i = true) (hr : (Region.ready md ops listed).contains i = true)
 (hQ : ∀ c a w, Q (.panic c) (a.put oi.dst v) w → Q (.panic c) a w) (hy : YieldsIf P ops (fun _ => True) oi v a)
 (h : js P md ops Q late T fuel (listed.setIfInBounds i true) (a.put oi.dst v) w) : js P md ops Q late T (fuel + 1) listed a w :=
 jhm hi (Region.noSelect_spec hs) hQ fuel listed a w (Region.free_spec hi hf) (by simpa using hr) hy h
theorem jhl {rs : List Nat} {fuel : Nat} {listed : Array Bool} {a : Act} {w : World} (hr : Region.ready md ops listed = rs) (hne : rs ≠ [])
 (h : ∀ i ∈ rs, wpOp P ops Q i (fun a' w' => (late i = false → T w → T w') ∧ js P md ops Q late T fuel (listed.setIfInBounds i true) a' w') a w) : js P md ops Q late T (fuel + 1) listed a w :=
 ⟨fun h0 => absurd (hr ▸ h0) hne, hr ▸ h⟩
theorem vg {listed : Array Bool} {a : Act} {w : World} (hr : Region.ready md ops listed = []) (h : Q .normal a w) :
 ∀ fuel, js P md ops Q late T fuel listed a w
 | 0 => ⟨hr, h⟩
 | _ + 1 => ⟨fun _ => h, by rw [hr]; simp⟩
def AllL (P : Program) (md : Region.Mode) (ops : Array Oper) (Q : Exit → Act → World → Prop) (late : Nat → Bool) (T : World → Prop) (fuel : Nat) (listed : Array Bool) (a : Act) (w : World) (rs : List Nat) : Prop :=
 ∀ i ∈ rs, wpOp P ops Q i (fun a' w' => (late i = false → T w → T w') ∧ js P md ops Q late T fuel (listed.setIfInBounds i true) a' w') a w
theorem jT {fuel : Nat} {listed : Array Bool} {a : Act} {w : World} : AllL P md ops Q late T fuel listed a w [] := fun _ h => by cases h
theorem jE {fuel : Nat} {listed : Array Bool} {a : Act} {w : World} {i : Nat} {o : Oper} {rs : List Nat} (ho : ops[i]? = some o)
 (h : ∀ K' : Act → World → Prop, Shut (∀ a' w', (late i = false → T w → T w') → js P md ops Q late T fuel (listed.setIfInBounds i true) a' w' → K' a' w') → if Region.wanted o (yielded ops a.tmps) = true then Oper.wp P o a w K' Q else K' (a.put o.dst undef) w)
 (hs : AllL P md ops Q late T fuel listed a w rs) : AllL P md ops Q late T fuel listed a w (i :: rs) := fun j hj => by
 rcases List.mem_cons.1 hj with rfl | hj
 · exact wpOp_step ho (fun K' hK => h K' (fun a' w' hS hW => hK a' w' ⟨hS, hW⟩))
 · exact hs j hj
theorem jt {rs : List Nat} {fuel : Nat} {listed : Array Bool} {a : Act} {w : World} (hr : Region.ready md ops listed = rs) (hne : rs ≠ [])
 (h : AllL P md ops Q late T fuel listed a w rs) : js P md ops Q late T (fuel + 1) listed a w := jhl hr hne h
theorem jas {id : Nat} {a : Act} {w : World} (hm : P.follows .mixedOrders = true)
 (h : js P .any ops Q late T ops.size (Array.replicate ops.size false) a w.drew) : (Code.region id ops true).wp P Q a w :=
 wp_region_any hm (jaR _ _ _ _ h)
end
open Go.RowKit Go.Proofs
theorem CmdsM.stp {b : Nat} {G G' : List Nat} {w w' : World} {Q : Nat → Prop} {n : Nat} {v : Value} {l : List Cmd} (h : CmdsM Q n w v l) (hs : Stp b G w G' w') (hQ : ∀ k, Q k → k < w.heap.size → Av b G k) : CmdsM (fun k => Q k ∧ Av b G' k) n w' v l := by
 have hk : ∀ k, Q k → k < w.heap.size → (Q k ∧ Av b G' k) ∧ w'.heap[k]? = w.heap[k]? := fun k hq hl => ⟨⟨hq, hs.av hl (hQ k hq hl)⟩, hs.block k hl (hQ k hq hl)⟩
 have hr : ∀ {A : Type} {k : Nat} {P P' : A → List Value → Prop} {v : Value} {l : List A}, RowM Q k P w v l → (∀ x cs, P x cs → P' x cs) → RowM (fun k => Q k ∧ Av b G' k) k P' w' v l := by
  intro A k P P' v l h hp; obtain ⟨a, c, hv, hm, hx⟩ := h; refine ⟨a, c, hv, hm, fun i x hi => ?_⟩; obtain ⟨g, o, cs, ha, hg, hq, hl, hc, hP⟩ := hx i x hi; exact ⟨g, o, cs, ha, Nat.lt_of_lt_of_le hg hs.size, (hk g hq hg).1, hl, fun j u hj => (World.cell?_of_block (hk g hq hg).2).trans (hc j u hj), hp x cs hP⟩
 have ht : ∀ (n : Nat) (t : Tst) (cs : List Value), TstM Q n w t cs → TstM (fun k => Q k ∧ Av b G' k) n w' t cs := by
  intro n
  induction n with
  | zero => intro t cs h; exact h
  | succ n ih =>
    intro t cs h; obtain ⟨vn, vk, vt, h0, h1, h2, h3⟩ := h; exact ⟨vn, vk, vt, h0, hr h1 fun _ _ h => h, hr h2 fun _ _ h => h, hr h3 ih⟩
 have hcm : ∀ (n : Nat) (t : Cmd) (cs : List Value), CmdM Q n w t cs → CmdM (fun k => Q k ∧ Av b G' k) n w' t cs := by
  intro n
  induction n with
  | zero => intro t cs h; exact h
  | succ n ih =>
    intro t cs h; obtain ⟨vx, vn, vk, vt, va, ve, h0, h1, h2, h3, h4⟩ := h; exact ⟨vx, vn, vk, vt, va, ve, h0, hr h1 fun _ _ h => h, ht _ _ _ h2, hr h3 ih, hr h4 ih⟩
 exact hr h (hcm n)
def locR (v : Value) (L : List (List UInt8)) : MRow := ⟨9, 1, v, L.length, L.map fun l => .string (S l)⟩
def scrR (v : Value) (X : List Value) : MRow := ⟨88, 1, v, X.length, X⟩
def TA (b p : Nat) (v34 v35 : Value) (lo : List UInt8) (w : World) : Prop := w.cell? ⟨b, 34, none⟩ = some v34 ∧ w.cell? ⟨b, 35, none⟩ = some v35 ∧ w.cell? ⟨p, 0, none⟩ = some (.string (S lo))
structure AdS (w0 : World) (B b p : Nat) (cs : List Value) (l0 s0 : MRow) (v34 v35 : Value) (lo : List UInt8) (l s : MRow) (w : World) : Prop where
 box : RmB w b cs
 own : MOk w B b [l, s]
 stp : Stp b (mB [l0, s0]) w0 (mB [l, s]) w
 ta : TA b p v34 v35 lo w
 hp : p < w0.heap.size ∧ Av b (mB [l0, s0]) p
theorem AdS.next {w0 : World} {B b p : Nat} {cs : List Value} {l0 s0 l s : MRow} {v34 v35 : Value} {lo : List UInt8} {w w' : World} (h : AdS w0 B b p cs l0 s0 v34 v35 lo l s w) (hb : Below w.heap.size w w') : AdS w0 B b p cs l0 s0 v34 v35 lo l s w' :=
 ⟨h.box.next hb, h.own.next hb, h.stp.trans (.of hb), ⟨ja h.ta.1 hb, ja h.ta.2.1 hb, ja h.ta.2.2 hb⟩, h.hp⟩
theorem AdS.put {w0 : World} {B b p : Nat} {cs : List Value} {l0 s0 l s l' s' : MRow} {v34 v35 : Value} {lo : List UInt8} {w w' : World} (h : AdS w0 B b p cs l0 s0 v34 v35 lo l s w) (hM : MOk w' B b [l', s']) (hS : Stp b (mB [l, s]) w (mB [l', s']) w') (hB : w'.heap[b]? = w.heap[b]?) : AdS w0 B b p cs l0 s0 v34 v35 lo l' s' w' := by
 have hz := h.stp.size; have hp := h.hp; refine ⟨⟨hB.trans h.box.1, h.box.2⟩, hM, h.stp.trans hS, ⟨(World.cell?_of_block hB).trans h.ta.1, (World.cell?_of_block hB).trans h.ta.2.1, (World.cell?_of_block (hS.block p (by omega) (h.stp.av hp.1 hp.2))).trans h.ta.2.2⟩, hp⟩
theorem AdS.g1 {w0 : World} {B b p H : Nat} {cs : List Value} {l0 s0 l s l' : MRow} {v34 v35 : Value} {lo : List UInt8} {w w' : World} (h : AdS w0 B b p cs l0 s0 v34 v35 lo l s w) (hg : w.grownBy w' l.v.ownBlock) (ho : w'.ownsRow B l'.e l'.k l'.v l'.n l'.xs) (hH : w.heap.size ≤ H) (hat : ∀ g, l'.v.ownBlock = some g → l.v.ownBlock = some g ∨ H ≤ g) :
 AdS w0 B b p cs l0 s0 v34 v35 lo l' s w' := by
 obtain ⟨h1, h2⟩ := MOk.grow (A := []) (Z := [s]) h.own hg ho hH hat; exact h.put h1 h2 (hg.block b h.own.lt fun e => h.own.far (List.mem_filterMap.2 ⟨l, by simp, e.symm⟩))
theorem AdS.g2 {w0 : World} {B b p H : Nat} {cs : List Value} {l0 s0 l s s' : MRow} {v34 v35 : Value} {lo : List UInt8} {w w' : World} (h : AdS w0 B b p cs l0 s0 v34 v35 lo l s w) (hg : w.grownBy w' s.v.ownBlock) (ho : w'.ownsRow B s'.e s'.k s'.v s'.n s'.xs) (hH : w.heap.size ≤ H) (hat : ∀ g, s'.v.ownBlock = some g → s.v.ownBlock = some g ∨ H ≤ g) :
 AdS w0 B b p cs l0 s0 v34 v35 lo l s' w' := by
 obtain ⟨h1, h2⟩ := MOk.grow (A := [l]) (Z := []) h.own hg ho hH hat; exact h.put h1 h2 (hg.block b h.own.lt fun e => h.own.far (List.mem_filterMap.2 ⟨s, by simp, e.symm⟩))
def Nw (w : World) (q : Nat) (u : Value) : Prop := ∀ j x, [u][j]? = some x → w.cell? ((⟨q, 0, none⟩ : Addr).add j) = some x
theorem Nw.new (w : World) (u : Value) (t : TypeId) (q : Nat) (hq : w.heap.size = q) : Nw (w.alloc (.cells #[u] t)) q u := hq ▸ zD w [u] t
theorem Nw.next {w w' : World} {q : Nat} {u : Value} (h : Nw w q u) (hb : Below w.heap.size w w') : Nw w' q u := fun j x hj => ja (h j x hj) hb
theorem Nw.grow {w w' : World} {q : Nat} {u : Value} {row : Option Nat} (h : Nw w q u) (hg : w.grownBy w' row) (hn : row ≠ some q) : Nw w' q u := fun j x hj => hg.cell (h j x hj) (by rw [Addr.add_lit]; exact fun e => hn e.symm)
def AduP (B b : Nat) (cs : List Value) (L : List (List UInt8)) (X : List Value) (v34 v35 : Value) (lo : List UInt8) (n : Nat) (C : List Cmd) (w : World) (e : Ending) (w' : World) : Prop :=
 e = .returned (.int .i64 0) ∧ ∃ u34 u35 a c, RmB w' b ((cs.set 34 u34).set 35 u35) ∧ MOk w' B b [locR u34 (L ++ [lo]), scrR u35 (X ++ [.slice a C.length c])] ∧ jbz a C.length c ∧
   CmdsM (fun k => w.heap.size ≤ k ∧ Av b (mB [locR u34 (L ++ [lo]), scrR u35 (X ++ [.slice a C.length c])]) k) n w' (.slice a C.length c) C ∧ Stp b (mB [locR v34 L, scrR v35 X]) w (mB [locR u34 (L ++ [lo]), scrR u35 (X ++ [.slice a C.length c])]) w'
theorem jli {w0 w5 : World} {B b p n c : Nat} {cs : List Value} {L : List (List UInt8)} {X : List Value} {v34 v35 u34 u35 : Value} {lo : List UInt8} {a : Option Addr} {C : List Cmd} {w : World} {N : Nat} (h : AdS w0 B b p cs (locR v34 L) (scrR v35 X) v34 v35 lo (locR u34 (L ++ [lo])) (scrR u35 (X ++ [.slice a C.length c])) w5)
 (hw : Below w.heap.size w w0) (hM : MOk w B b [locR v34 L, scrR v35 X]) (hC : CmdsM (newB N) n w0 (.slice a C.length c) C) (hN : w.heap.size ≤ N) (hR : jbz a C.length c) :
 AduP B b cs L X v34 v35 lo n C w (.returned (.int .i64 0)) ((w5.setCell ⟨b, 34, none⟩ u34).setCell ⟨b, 35, none⟩ u35) := by
 refine ⟨rfl, u34, u35, a, c, ⟨?_, by simpa using h.box.2⟩, (h.own.box _ _).box _ _, hR, RowM.imp (CmdsM.stp hC ((h.stp.box _ _).box _ _) (fun k hk hl => ⟨?_, fun e => ?_⟩)) (fun k hk => ⟨Nat.le_trans hN hk.1, hk.2⟩) (Keeps.refl _ _) (fun x cs hx => CmdM.imp (fun k hk => ⟨Nat.le_trans hN hk.1, hk.2⟩) (Keeps.refl _ _) _ _ _ hx), (Stp.of hw).trans ((h.stp.box _ _).box _ _)⟩
 · have h1 := heap_setCell_same _ b 35 _ _ u35 (heap_setCell_same _ b 34 _ _ u34 h.box.1); rw [h1]
   simp
 · have := hM.lt; unfold newB at hk; omega
 · have := (hM.rng k e).2; unfold newB at hk; omega
theorem AdS.frz {w0 : World} {B b p : Nat} {cs : List Value} {l0 s0 l s : MRow} {v34 v35 : Value} {lo : List UInt8} {w : World} (h : AdS w0 B b p cs l0 s0 v34 v35 lo l s w) (u : Value) : w.frozen? ⟨b, 34, none⟩ = false ∧ (w.setCell ⟨b, 34, none⟩ u).frozen? ⟨b, 35, none⟩ = false ∧ (w.setCell ⟨b, 34, none⟩ u).cell? ⟨b, 35, none⟩ = some v35 := by
 have h1 := h.box.1; have h2 := heap_setCell_same _ b 34 _ _ u h1; refine ⟨by simp [World.frozen?, h1], by simp [World.frozen?, h2], ?_⟩; have h3 := h.ta.2.1; simp only [World.cell?, h1] at h3; simp only [World.cell?, h2]
 simpa using h3
theorem jmM : (Tryz.prog.info? 9).map (fun i => (i.zero, i.size, i.bytes)) = some (some (.string ByteArray.empty), 1, 16) := by kernel_rfl
theorem jmN : (Tryz.prog.info? 88).map (fun i => (i.zero, i.size, i.bytes)) = some (some (.slice none 0 0), 1, 24) := by kernel_rfl
set_option linter.unusedSimpArgs false in
set_option maxHeartbeats 2000000 in
set_option maxRecDepth 100000 in
theorem jms (B b : Nat) (lo sc : List UInt8) (cs : List Value) (L : List (List UInt8)) (X : List Value) (v34 v35 : Value) (w : World) (hR : RmB w b cs) (h34 : cs[34]? = some v34) (h35 : cs[35]? = some v35) (hM : MOk w B b [locR v34 L, scrR v35 X]) (hBb : B ≤ b) (hLl : L.length ≤ 10) (hXl : X.length ≤ 10)
 (hc : zZ lo [120] = 0) (hl : lo.length ≤ 2000) (hm : L.contains lo = false) (n : Nat) (C : List Cmd) (hRd : ∀ v, Below w.heap.size w v → Calls Tryz.prog 26 #[.string (S sc)] v (RdP v n (C, 0))) :
 Calls Tryz.prog 15 #[.pointer (some ⟨b, 0, none⟩), .agg #[.string (S lo), .string (S sc)]] w (AduP B b cs L X v34 v35 lo n C w) := by
 have hX : TxtsM (fun _ => True) w v34 L := ja6 (f := fun l => .string (S l)) (hM.own (locR v34 L) (by simp)) (by unfold maxLen; omega) fun _ _ => trivial
 obtain ⟨al, cl, rfl⟩ := RowM.slice hX; obtain ⟨as_, c35, rfl⟩ : ∃ a c, v35 = .slice a X.length c := by
  rcases (hM.own (scrR v35 X) (by simp)).2 with ⟨h, h0⟩ | ⟨g, cap, _, h, _⟩
  · exact ⟨none, 0, by rw [show v35 = _ from h, show X.length = 0 from h0]⟩
  · exact ⟨_, _, h⟩
 have HMM := hid hM; have HRD := hid hRd; clear hRd; have HC := hid (fun u => jdK (S lo) ⟨#[120]⟩ u (by rw [jd]; omega) (by decide)); have HK := hid hc; have HR := hid hR; have HLX := hid hX; have hbl : b < w.heap.size := hM.lt; obtain ⟨i0, hi, hz0, hz1, hz2⟩ := info_parts jmM; obtain ⟨j0, hj, hq0, hq1, hq2⟩ := info_parts jmN; clear hc hR hX hM; go_enter Tryz.func15, Tryz.ntmps15; go_wp2_with fail; refine (HC.out _).mono ?_; rw [show zZ (S lo).data.toList (⟨#[120]⟩ : ByteArray).data.toList = 0 by rw [jw]; exact HK.out]; rintro e w1 ⟨rfl, hb1⟩; have hB1 : Below w.heap.size w w1 := (nb0 _ _).trans (hb1.mono (by simp)); have HB1 := hid hB1; have hu1 : w1.heap[w.heap.size]? = some (.cells #[.string (S lo), .string (S sc)] 57) := (hb1.block _ (by simp)).trans (heap_alloc_new w _); have hz1' : w.heap.size < w1.heap.size := (Array.getElem?_eq_some_iff.1 hu1).1; have u0 : w1.cell? ⟨w.heap.size, 0, none⟩ = some (.string (S lo)) := by simp [World.cell?, hu1]
 have u1 : w1.cell? ⟨w.heap.size, 1, none⟩ = some (.string (S sc)) := by simp [World.cell?, hu1]
 have r34 := (HR.out.next hB1).cell h34; have r35 := (HR.out.next hB1).cell h35; have HCN := hid (show ∀ v, Below w1.heap.size w1 v → Calls Tryz.prog 25 #[.slice al L.length cl, .string (S lo)] v fun e w' => e = .returned (.bool (L.contains lo)) ∧ Below w1.heap.size w1 w' from fun v hv => (jc2 (fun _ => True) L lo al cl v (HLX.out.next (hB1.trans (hv.mono hB1.size)))).mono fun e w' h => ⟨h.1, hv.trans (h.2.mono hv.size)⟩); obtain ⟨q, hq⟩ : ∃ q, q = L.contains lo := ⟨_, rfl⟩; rw [← hq] at hm HCN; have HQ := hid hm; clear hq hm; have HCE := hid (show ∀ v, Below w1.heap.size w1 v → v.cell? ⟨b, 34, none⟩ = some (.slice al L.length cl) ∧ v.cell? ⟨w.heap.size, 0, none⟩ = some (.string (S lo)) from fun v hv => ⟨ja r34 hv, ja u0 hv⟩); clear hb1 hB1 hu1; go_upto_region 3 with fail
 go_cut [13] (fun v wx => v = .bool q ∧ Below w1.heap.size w1 wx)
 case first =>
  go_region_held3 (fun w' => w'.cell? ⟨b, 34, none⟩ = some (.slice al L.length cl) ∧ w'.cell? ⟨w.heap.size, 0, none⟩ = some (.string (S lo))) (first | exact HCE.out _ HBV.out | exact HCE.out _ ((Below.refl _ _).drew) | exact HCE.out _ (Below.refl _ _) | fail)
   (first
        | (go_at_call 25
           with_reducible refine (HCN.out _ ?_).mono ?_
           · first | exact Below.refl _ _ | exact (Below.refl _ _).drew
           rintro e w2 ⟨rfl, hb2⟩; have HBV := hid hb2; clear hb2)
        | fail)
  all_goals (go_wp2_with fail; go_meet; exact ⟨rfl, HBV.out⟩)
 case rest =>
  obtain ⟨hv, hBx⟩ := hcut; subst hv; obtain ⟨W2, rfl⟩ : ∃ W, W = wc := ⟨_, rfl⟩; have HB2 := hid (show Below w.heap.size w W2 from HB1.out.trans (hBx.mono HB1.out.size)); have u1 := ja u1 hBx; have HB12 := hid hBx; rw [HQ.out]; clear hBx; go_wp2_with fail; refine (HRD.out W2 HB2.out).mono ?_; rintro e w3 ⟨a3, c3, rfl, hM3, hb3, hrest3⟩; simp only; simp only at hM3 hrest3; have HB3 := hid (HB2.out.trans (hb3.mono HB2.out.size)); have hB13 : Below w1.heap.size w1 w3 := HB12.out.trans (hb3.mono HB12.out.size); have HS0 : Hid (AdS w3 B b w.heap.size cs (locR (.slice al L.length cl) L) (scrR (.slice as_ X.length c35) X) (.slice al L.length cl) (.slice as_ X.length c35) lo (locR (.slice al L.length cl) L) (scrR (.slice as_ X.length c35) X) w3.drew) :=
   ⟨(HR.out.next HB3.out).next (Below.refl _ _).drew, (HMM.out.next HB3.out).next (Below.refl _ _).drew, .of (Below.refl _ _).drew, ⟨ja r34 hB13.drew, ja r35 hB13.drew, ja u0 hB13.drew⟩, Nat.lt_of_lt_of_le hz1' hB13.size, by omega, fun e => by have := (HMM.out.rng _ e).2; omega⟩
  have hwz : w.heap.size + 1 ≤ w3.heap.size := Nat.le_trans hz1' hB13.size; have HEND := hid (fun (u34 u35 : Value) (w5 : World) (h : AdS w3 B b w.heap.size cs (locR (.slice al L.length cl) L) (scrR (.slice as_ X.length c35) X) (.slice al L.length cl) (.slice as_ X.length c35) lo (locR u34 (L ++ [lo])) (scrR u35 (X ++ [.slice a3 C.length c3])) w5) => jli (w := w) h HB3.out HMM.out hM3 HB2.out.size hrest3); have hlb : ∀ q, w3.heap.size ≤ q → (Value.slice al L.length cl).ownBlock ≠ some q := fun q hq e => by
   have := (HMM.out.rng q (List.mem_filterMap.2 ⟨locR (.slice al L.length cl) L, by simp, e⟩)).2; omega
  have HLB := hid hlb; have HT := hid (HS0.out.ta); clear hM3 hb3 hrest3 hB13 hlb r34 r35 u0 u1 h34 h35; go_upto_region 8 with fail
  have hT3 := HT.out; unfold TA at hT3; refine jas (late := fun i => i == 19 || i == 22) (T := fun w' => w'.cell? ⟨b, 34, none⟩ = some (.slice al L.length cl) ∧ w'.cell? ⟨b, 35, none⟩ = some (.slice as_ X.length c35) ∧ w'.cell? ⟨w.heap.size, 0, none⟩ = some (.string (S lo))) (by rfl) ?_; refine jf (i := 0) (v := ?v1) rfl (by kernel_rfl) (by kernel_rfl) (by kernel_rfl) (fun _ _ _ h => h) (Or.inl ⟨by rfl, ?hy1⟩) ?_
  case hy1 =>
   intro w hSw
   (try dsimp only at hSw)
   go_simp
   all_goals with_reducible rfl
  change js _ _ _ _ _ _ _ _ (Act.put _ (some 30) _) _
  try simp only [Act.put, List.setIfInBounds_toArray, List.set_cons_zero, List.set_cons_succ]
  refine jf (i := 1) (v := ?v2) rfl (by kernel_rfl) (by kernel_rfl) (by kernel_rfl) (fun _ _ _ h => h) (Or.inl ⟨by rfl, ?hy2⟩) ?_
  case hy2 =>
   intro w hSw
   (try dsimp only at hSw)
   go_simp
   all_goals with_reducible rfl
  change js _ _ _ _ _ _ _ _ (Act.put _ (some 31) _) _
  try simp only [Act.put, List.setIfInBounds_toArray, List.set_cons_zero, List.set_cons_succ]
  refine jf (i := 2) (v := ?v3) rfl (by kernel_rfl) (by kernel_rfl) (by kernel_rfl) (fun _ _ _ h => h) (Or.inl ⟨by rfl, ?hy3⟩) ?_
  case hy3 =>
   intro w hSw
   (try dsimp only at hSw)
   go_simp
   all_goals with_reducible rfl
  change js _ _ _ _ _ _ _ _ (Act.put _ (some 32) _) _
  try simp only [Act.put, List.setIfInBounds_toArray, List.set_cons_zero, List.set_cons_succ]
  refine jf (i := 3) (v := ?v4) rfl (by kernel_rfl) (by kernel_rfl) (by kernel_rfl) (fun _ _ _ h => h) (Or.inl ⟨by rfl, ?hy4⟩) ?_
  case hy4 =>
   intro w hSw
   (try dsimp only at hSw)
   go_simp
   all_goals with_reducible rfl
  change js _ _ _ _ _ _ _ _ (Act.put _ (some 33) _) _
  try simp only [Act.put, List.setIfInBounds_toArray, List.set_cons_zero, List.set_cons_succ]
  refine jf (i := 4) (v := ?v5) rfl (by kernel_rfl) (by kernel_rfl) (by kernel_rfl) (fun _ _ _ h => h) (Or.inl ⟨by rfl, ?hy5⟩) ?_
  case hy5 =>
   intro w hSw
   (try dsimp only at hSw)
   go_simp
   all_goals with_reducible rfl
  change js _ _ _ _ _ _ _ _ (Act.put _ (some 34) _) _
  try simp only [Act.put, List.setIfInBounds_toArray, List.set_cons_zero, List.set_cons_succ]
  refine jf (i := 6) (v := ?v6) rfl (by kernel_rfl) (by kernel_rfl) (by kernel_rfl) (fun _ _ _ h => h) (Or.inl ⟨by rfl, ?hy6⟩) ?_
  case hy6 =>
   intro w hSw
   (try dsimp only at hSw)
   go_simp
   all_goals with_reducible rfl
  change js _ _ _ _ _ _ _ _ (Act.put _ (some 36) _) _
  try simp only [Act.put, List.setIfInBounds_toArray, List.set_cons_zero, List.set_cons_succ]
  refine jf (i := 10) (v := ?v7) rfl (by kernel_rfl) (by kernel_rfl) (by kernel_rfl) (fun _ _ _ h => h) (Or.inl ⟨by rfl, ?hy7⟩) ?_
  case hy7 =>
   intro w hSw
   (try dsimp only at hSw)
   go_simp
   all_goals with_reducible rfl
  change js _ _ _ _ _ _ _ _ (Act.put _ (some 40) _) _
  try simp only [Act.put, List.setIfInBounds_toArray, List.set_cons_zero, List.set_cons_succ]
  refine jf (i := 11) (v := ?v8) rfl (by kernel_rfl) (by kernel_rfl) (by kernel_rfl) (fun _ _ _ h => h) (Or.inl ⟨by rfl, ?hy8⟩) ?_
  case hy8 =>
   intro w hSw
   (try dsimp only at hSw)
   go_simp
   all_goals with_reducible rfl
  change js _ _ _ _ _ _ _ _ (Act.put _ (some 41) _) _
  try simp only [Act.put, List.setIfInBounds_toArray, List.set_cons_zero, List.set_cons_succ]
  refine jf (i := 12) (v := ?v9) rfl (by kernel_rfl) (by kernel_rfl) (by kernel_rfl) (fun _ _ _ h => h) (Or.inl ⟨by rfl, ?hy9⟩) ?_
  case hy9 =>
   intro w hSw
   (try dsimp only at hSw)
   go_simp
   all_goals with_reducible rfl
  change js _ _ _ _ _ _ _ _ (Act.put _ (some 42) _) _
  try simp only [Act.put, List.setIfInBounds_toArray, List.set_cons_zero, List.set_cons_succ]
  refine jf (i := 14) (v := ?v10) rfl (by kernel_rfl) (by kernel_rfl) (by kernel_rfl) (fun _ _ _ h => h) (Or.inl ⟨by rfl, ?hy10⟩) ?_
  case hy10 =>
   intro w hSw
   (try dsimp only at hSw)
   go_simp
   all_goals with_reducible rfl
  change js _ _ _ _ _ _ _ _ (Act.put _ (some 44) _) _
  try simp only [Act.put, List.setIfInBounds_toArray, List.set_cons_zero, List.set_cons_succ]
  refine zL (i := 5) (v := ?v11) rfl (by kernel_rfl) (by kernel_rfl) (by kernel_rfl) (by kernel_rfl) (fun _ _ _ h => h) (Or.inl ⟨by rfl, ?hy11⟩) (by assumption) ?_
  case hy11 =>
   intro w hSw
   (try dsimp only at hSw)
   go_simp
   all_goals with_reducible rfl
  change js _ _ _ _ _ _ _ _ (Act.put _ (some 35) _) _
  try simp only [Act.put, List.setIfInBounds_toArray, List.set_cons_zero, List.set_cons_succ]
  refine zL (i := 7) (v := ?v12) rfl (by kernel_rfl) (by kernel_rfl) (by kernel_rfl) (by kernel_rfl) (fun _ _ _ h => h) (Or.inl ⟨by rfl, ?hy12⟩) (by assumption) ?_
  case hy12 =>
   intro w hSw
   (try dsimp only at hSw)
   go_simp
   all_goals with_reducible rfl
  change js _ _ _ _ _ _ _ _ (Act.put _ (some 37) _) _
  try simp only [Act.put, List.setIfInBounds_toArray, List.set_cons_zero, List.set_cons_succ]
  refine zL (i := 13) (v := ?v13) rfl (by kernel_rfl) (by kernel_rfl) (by kernel_rfl) (by kernel_rfl) (fun _ _ _ h => h) (Or.inl ⟨by rfl, ?hy13⟩) (by assumption) ?_
  case hy13 =>
   intro w hSw
   (try dsimp only at hSw)
   go_simp
   all_goals with_reducible rfl
  change js _ _ _ _ _ _ _ _ (Act.put _ (some 43) _) _
  try simp only [Act.put, List.setIfInBounds_toArray, List.set_cons_zero, List.set_cons_succ]
  refine jt (rs := [8, 15]) (by kernel_rfl) (by simp) ?_; refine jE rfl (fun K hK => ?_) ?_
  · skip
    go_simp
    have HS1 := hid (HS0.out.next ((Below.refl _ _).alloc (Nat.le_refl _) (.cells #[.string (S lo)] 9))); have HE1 := hid (Nw.new w3.drew (.string (S lo)) 9 w3.heap.size (by first | rfl | simp)); refine hK.out _ _ (fun _ _ => HS1.out.ta) ?_; clear hK K
    try simp only [Act.put, List.setIfInBounds_toArray, List.set_cons_zero, List.set_cons_succ]
    refine jt (rs := [9, 15]) (by kernel_rfl) (by simp) ?_; refine jE rfl (fun K hK => ?_) ?_
    · skip
      refine step_append_lies _ (by rfl) _ _ _ (by rfl) B 9 i0 _ 1 16 Tryz.underlying73 hi hz0 hz1 hz2 rfl (by omega) (.slice al L.length cl) L.length (L.map fun l => .string (S l)) (by rfl) (HS1.out.own.own _ (List.mem_cons_self ..)) ⟨w3.heap.size, 0, none⟩ 1 1 [.string (S lo)] (by rfl) (by rfl) HE1.out (by simp [Value.oneCell']) (by omega) (by unfold maxLen; omega) (by omega) (Nat.le_of_lt (Nat.lt_of_le_of_lt hBb HS1.out.own.lt)) _ rfl ?_; intro g1 cap1 w4 hown1 hgrow1 hat1 hlt1; have HS2 := hid (HS1.out.g1 (l' := locR (.slice (some ⟨g1, 0, none⟩) (L.length + 1) cap1) (L ++ [lo])) hgrow1 (by simpa [locR] using hown1) (Nat.le_refl _) (fun g e => by cases e; exact hat1.imp id fun h => Nat.le_of_eq h.symm)); clear hown1 hgrow1 hat1 hlt1; refine hK.out _ _ (fun _ _ => HS2.out.ta) ?_; clear hK K
      try simp only [Act.put, List.setIfInBounds_toArray, List.set_cons_zero, List.set_cons_succ]
      refine jt (rs := [15]) (by kernel_rfl) (by simp) ?_; refine jE rfl (fun K hK => ?_) jT
      go_simp
      have HS3 := hid (HS2.out.next ((Below.refl _ _).alloc (Nat.le_refl _) (.cells #[.slice a3 C.length c3] 88))); have HE2 := hid (Nw.new w4 (.slice a3 C.length c3) 88 w4.heap.size (by first | rfl | simp)); refine hK.out _ _ (fun _ _ => HS3.out.ta) ?_; clear hK K
      try simp only [Act.put, List.setIfInBounds_toArray, List.set_cons_zero, List.set_cons_succ]
      refine jt (rs := [16]) (by kernel_rfl) (by simp) ?_; refine jE rfl (fun K hK => ?_) jT; refine step_append_lies _ (by rfl) _ _ _ (by rfl) B 88 j0 _ 1 24 Tryz.underlying74 hj hq0 hq1 hq2 rfl (by omega) (.slice as_ X.length c35) X.length X (by rfl) (HS3.out.own.own _ (List.mem_cons_of_mem _ (List.mem_cons_self ..))) ⟨w4.heap.size, 0, none⟩ 1 1 [.slice a3 C.length c3] (by rfl) (by rfl) HE2.out (by simp [Value.oneCell']) (by omega) (by unfold maxLen; omega) (by omega) (Nat.le_of_lt (Nat.lt_of_le_of_lt hBb HS3.out.own.lt)) _ rfl ?_; intro g2 cap2 w5 hown2 hgrow2 hat2 hlt2; have HS4 := hid (HS3.out.g2 (s' := scrR (.slice (some ⟨g2, 0, none⟩) (X.length + 1) cap2) (X ++ [.slice a3 C.length c3])) hgrow2 (by simpa [scrR] using hown2) (Nat.le_refl _) (fun g e => by cases e; exact hat2.imp id fun h => Nat.le_of_eq h.symm)); clear hown2 hgrow2 hat2 hlt2; refine hK.out _ _ (fun _ _ => HS4.out.ta) ?_; clear hK K
      try simp only [Act.put, List.setIfInBounds_toArray, List.set_cons_zero, List.set_cons_succ]
      refine jf (i := 17) (v := ?v14) rfl (by kernel_rfl) (by kernel_rfl) (by kernel_rfl) (fun _ _ _ h => h) (Or.inl ⟨by rfl, ?hy14⟩) ?_
      case hy14 =>
       intro w hSw
       (try dsimp only at hSw)
       go_simp
       all_goals with_reducible rfl
      change js _ _ _ _ _ _ _ _ (Act.put _ (some 47) _) _
      try simp only [Act.put, List.setIfInBounds_toArray, List.set_cons_zero, List.set_cons_succ]
      refine jf (i := 18) (v := ?v15) rfl (by kernel_rfl) (by kernel_rfl) (by kernel_rfl) (fun _ _ _ h => h) (Or.inl ⟨by rfl, ?hy15⟩) ?_
      case hy15 =>
       intro w hSw
       (try dsimp only at hSw)
       go_simp
       all_goals with_reducible rfl
      change js _ _ _ _ _ _ _ _ (Act.put _ (some 48) _) _
      try simp only [Act.put, List.setIfInBounds_toArray, List.set_cons_zero, List.set_cons_succ]
      obtain ⟨z1, z2, z3⟩ := HS4.out.frz (.slice (some ⟨g1, 0, none⟩) (L.length + 1) cap1); have z0 := HS4.out.ta.1; refine jt (rs := [19]) (by kernel_rfl) (by simp) ?_; refine jE rfl (fun K hK => ?_) jT
      go_simp
      refine hK.out _ _ (fun h => absurd h (by decide)) ?_; clear hK K
      try simp only [Act.put, List.setIfInBounds_toArray, List.set_cons_zero, List.set_cons_succ]
      refine jf (i := 20) (v := ?v16) rfl (by kernel_rfl) (by kernel_rfl) (by kernel_rfl) (fun _ _ _ h => h) (Or.inl ⟨by rfl, ?hy16⟩) ?_
      case hy16 =>
       intro w hSw
       (try dsimp only at hSw)
       go_simp
       all_goals with_reducible rfl
      change js _ _ _ _ _ _ _ _ (Act.put _ (some 49) _) _
      try simp only [Act.put, List.setIfInBounds_toArray, List.set_cons_zero, List.set_cons_succ]
      refine jf (i := 21) (v := ?v17) rfl (by kernel_rfl) (by kernel_rfl) (by kernel_rfl) (fun _ _ _ h => h) (Or.inl ⟨by rfl, ?hy17⟩) ?_
      case hy17 =>
       intro w hSw
       (try dsimp only at hSw)
       go_simp
       all_goals with_reducible rfl
      change js _ _ _ _ _ _ _ _ (Act.put _ (some 50) _) _
      try simp only [Act.put, List.setIfInBounds_toArray, List.set_cons_zero, List.set_cons_succ]
      refine jt (rs := [22]) (by kernel_rfl) (by simp) ?_; refine jE rfl (fun K hK => ?_) jT
      go_simp
      refine hK.out _ _ (fun h => absurd h (by decide)) ?_; clear hK K
      try simp only [Act.put, List.setIfInBounds_toArray, List.set_cons_zero, List.set_cons_succ]
      refine vg (by kernel_rfl) ?_ _; go_wp2_with fail; go_ret; exact HEND.out _ _ _ HS4.out
    refine jE rfl (fun K hK => ?_) jT
    go_simp
    have HS2 := hid (HS1.out.next ((Below.refl _ _).alloc (Nat.le_refl _) (.cells #[.slice a3 C.length c3] 88))); have HE1 := hid (HE1.out.next ((Below.refl _ _).alloc (Nat.le_refl _) (.cells #[.slice a3 C.length c3] 88))); have HE2 := hid (Nw.new (w3.drew.alloc (.cells #[.string (S lo)] 9)) (.slice a3 C.length c3) 88 (w3.heap.size + 1) (by first | rfl | simp)); refine hK.out _ _ (fun _ _ => HS2.out.ta) ?_; clear hK K
    try simp only [Act.put, List.setIfInBounds_toArray, List.set_cons_zero, List.set_cons_succ]
    refine jt (rs := [9]) (by kernel_rfl) (by simp) ?_; refine jE rfl (fun K hK => ?_) jT; refine step_append_lies _ (by rfl) _ _ _ (by rfl) B 9 i0 _ 1 16 Tryz.underlying73 hi hz0 hz1 hz2 rfl (by omega) (.slice al L.length cl) L.length (L.map fun l => .string (S l)) (by rfl) (HS2.out.own.own _ (List.mem_cons_self ..)) ⟨w3.heap.size, 0, none⟩ 1 1 [.string (S lo)] (by rfl) (by rfl) HE1.out (by simp [Value.oneCell']) (by omega) (by unfold maxLen; omega) (by omega) (Nat.le_of_lt (Nat.lt_of_le_of_lt hBb HS2.out.own.lt)) _ rfl ?_; intro g1 cap1 w4 hown1 hgrow1 hat1 hlt1; have HS3 := hid (HS2.out.g1 (l' := locR (.slice (some ⟨g1, 0, none⟩) (L.length + 1) cap1) (L ++ [lo])) hgrow1 (by simpa [locR] using hown1) (Nat.le_refl _) (fun g e => by cases e; exact hat1.imp id fun h => Nat.le_of_eq h.symm)); have HE2 := hid (HE2.out.grow hgrow1 (HLB.out _ (by simp))); clear hown1 hgrow1 hat1 hlt1; refine hK.out _ _ (fun _ _ => HS3.out.ta) ?_; clear hK K
    try simp only [Act.put, List.setIfInBounds_toArray, List.set_cons_zero, List.set_cons_succ]
    refine jt (rs := [16]) (by kernel_rfl) (by simp) ?_; refine jE rfl (fun K hK => ?_) jT; refine step_append_lies _ (by rfl) _ _ _ (by rfl) B 88 j0 _ 1 24 Tryz.underlying74 hj hq0 hq1 hq2 rfl (by omega) (.slice as_ X.length c35) X.length X (by rfl) (HS3.out.own.own _ (List.mem_cons_of_mem _ (List.mem_cons_self ..))) ⟨(w3.heap.size + 1), 0, none⟩ 1 1 [.slice a3 C.length c3] (by rfl) (by rfl) HE2.out (by simp [Value.oneCell']) (by omega) (by unfold maxLen; omega) (by omega) (Nat.le_of_lt (Nat.lt_of_le_of_lt hBb HS3.out.own.lt)) _ rfl ?_; intro g2 cap2 w5 hown2 hgrow2 hat2 hlt2; have HS4 := hid (HS3.out.g2 (s' := scrR (.slice (some ⟨g2, 0, none⟩) (X.length + 1) cap2) (X ++ [.slice a3 C.length c3])) hgrow2 (by simpa [scrR] using hown2) (Nat.le_refl _) (fun g e => by cases e; exact hat2.imp id fun h => Nat.le_of_eq h.symm)); clear hown2 hgrow2 hat2 hlt2; refine hK.out _ _ (fun _ _ => HS4.out.ta) ?_; clear hK K
    try simp only [Act.put, List.setIfInBounds_toArray, List.set_cons_zero, List.set_cons_succ]
    refine jf (i := 17) (v := ?v18) rfl (by kernel_rfl) (by kernel_rfl) (by kernel_rfl) (fun _ _ _ h => h) (Or.inl ⟨by rfl, ?hy18⟩) ?_
    case hy18 =>
        intro w hSw
        (try dsimp only at hSw)
        go_simp
        all_goals with_reducible rfl
    change js _ _ _ _ _ _ _ _ (Act.put _ (some 47) _) _
    try simp only [Act.put, List.setIfInBounds_toArray, List.set_cons_zero, List.set_cons_succ]
    refine jf (i := 18) (v := ?v19) rfl (by kernel_rfl) (by kernel_rfl) (by kernel_rfl) (fun _ _ _ h => h) (Or.inl ⟨by rfl, ?hy19⟩) ?_
    case hy19 =>
        intro w hSw
        (try dsimp only at hSw)
        go_simp
        all_goals with_reducible rfl
    change js _ _ _ _ _ _ _ _ (Act.put _ (some 48) _) _
    try simp only [Act.put, List.setIfInBounds_toArray, List.set_cons_zero, List.set_cons_succ]
    obtain ⟨z1, z2, z3⟩ := HS4.out.frz (.slice (some ⟨g1, 0, none⟩) (L.length + 1) cap1); have z0 := HS4.out.ta.1; refine jt (rs := [19]) (by kernel_rfl) (by simp) ?_; refine jE rfl (fun K hK => ?_) jT
    go_simp
    refine hK.out _ _ (fun h => absurd h (by decide)) ?_; clear hK K
    try simp only [Act.put, List.setIfInBounds_toArray, List.set_cons_zero, List.set_cons_succ]
    refine jf (i := 20) (v := ?v20) rfl (by kernel_rfl) (by kernel_rfl) (by kernel_rfl) (fun _ _ _ h => h) (Or.inl ⟨by rfl, ?hy20⟩) ?_
    case hy20 =>
        intro w hSw
        (try dsimp only at hSw)
        go_simp
        all_goals with_reducible rfl
    change js _ _ _ _ _ _ _ _ (Act.put _ (some 49) _) _
    try simp only [Act.put, List.setIfInBounds_toArray, List.set_cons_zero, List.set_cons_succ]
    refine jf (i := 21) (v := ?v21) rfl (by kernel_rfl) (by kernel_rfl) (by kernel_rfl) (fun _ _ _ h => h) (Or.inl ⟨by rfl, ?hy21⟩) ?_
    case hy21 =>
        intro w hSw
        (try dsimp only at hSw)
        go_simp
        all_goals with_reducible rfl
    change js _ _ _ _ _ _ _ _ (Act.put _ (some 50) _) _
    try simp only [Act.put, List.setIfInBounds_toArray, List.set_cons_zero, List.set_cons_succ]
    refine jt (rs := [22]) (by kernel_rfl) (by simp) ?_; refine jE rfl (fun K hK => ?_) jT
    go_simp
    refine hK.out _ _ (fun h => absurd h (by decide)) ?_; clear hK K
    try simp only [Act.put, List.setIfInBounds_toArray, List.set_cons_zero, List.set_cons_succ]
    refine vg (by kernel_rfl) ?_ _; go_wp2_with fail; go_ret; exact HEND.out _ _ _ HS4.out
  refine jE rfl (fun K hK => ?_) jT
  go_simp
  have HS1 := hid (HS0.out.next ((Below.refl _ _).alloc (Nat.le_refl _) (.cells #[.slice a3 C.length c3] 88))); have HE2 := hid (Nw.new w3.drew (.slice a3 C.length c3) 88 w3.heap.size (by first | rfl | simp)); refine hK.out _ _ (fun _ _ => HS1.out.ta) ?_; clear hK K
  try simp only [Act.put, List.setIfInBounds_toArray, List.set_cons_zero, List.set_cons_succ]
  refine jt (rs := [8]) (by kernel_rfl) (by simp) ?_; refine jE rfl (fun K hK => ?_) jT
  go_simp
  have HS2 := hid (HS1.out.next ((Below.refl _ _).alloc (Nat.le_refl _) (.cells #[.string (S lo)] 9))); have HE2 := hid (HE2.out.next ((Below.refl _ _).alloc (Nat.le_refl _) (.cells #[.string (S lo)] 9))); have HE1 := hid (Nw.new (w3.drew.alloc (.cells #[.slice a3 C.length c3] 88)) (.string (S lo)) 9 (w3.heap.size + 1) (by first | rfl | simp)); refine hK.out _ _ (fun _ _ => HS2.out.ta) ?_; clear hK K
  try simp only [Act.put, List.setIfInBounds_toArray, List.set_cons_zero, List.set_cons_succ]
  refine jt (rs := [9]) (by kernel_rfl) (by simp) ?_; refine jE rfl (fun K hK => ?_) jT; refine step_append_lies _ (by rfl) _ _ _ (by rfl) B 9 i0 _ 1 16 Tryz.underlying73 hi hz0 hz1 hz2 rfl (by omega) (.slice al L.length cl) L.length (L.map fun l => .string (S l)) (by rfl) (HS2.out.own.own _ (List.mem_cons_self ..)) ⟨(w3.heap.size + 1), 0, none⟩ 1 1 [.string (S lo)] (by rfl) (by rfl) HE1.out (by simp [Value.oneCell']) (by omega) (by unfold maxLen; omega) (by omega) (Nat.le_of_lt (Nat.lt_of_le_of_lt hBb HS2.out.own.lt)) _ rfl ?_; intro g1 cap1 w4 hown1 hgrow1 hat1 hlt1; have HS3 := hid (HS2.out.g1 (l' := locR (.slice (some ⟨g1, 0, none⟩) (L.length + 1) cap1) (L ++ [lo])) hgrow1 (by simpa [locR] using hown1) (Nat.le_refl _) (fun g e => by cases e; exact hat1.imp id fun h => Nat.le_of_eq h.symm)); have HE2 := hid (HE2.out.grow hgrow1 (HLB.out _ (by simp))); clear hown1 hgrow1 hat1 hlt1; refine hK.out _ _ (fun _ _ => HS3.out.ta) ?_; clear hK K
  try simp only [Act.put, List.setIfInBounds_toArray, List.set_cons_zero, List.set_cons_succ]
  refine jt (rs := [16]) (by kernel_rfl) (by simp) ?_; refine jE rfl (fun K hK => ?_) jT; refine step_append_lies _ (by rfl) _ _ _ (by rfl) B 88 j0 _ 1 24 Tryz.underlying74 hj hq0 hq1 hq2 rfl (by omega) (.slice as_ X.length c35) X.length X (by rfl) (HS3.out.own.own _ (List.mem_cons_of_mem _ (List.mem_cons_self ..))) ⟨w3.heap.size, 0, none⟩ 1 1 [.slice a3 C.length c3] (by rfl) (by rfl) HE2.out (by simp [Value.oneCell']) (by omega) (by unfold maxLen; omega) (by omega) (Nat.le_of_lt (Nat.lt_of_le_of_lt hBb HS3.out.own.lt)) _ rfl ?_; intro g2 cap2 w5 hown2 hgrow2 hat2 hlt2; have HS4 := hid (HS3.out.g2 (s' := scrR (.slice (some ⟨g2, 0, none⟩) (X.length + 1) cap2) (X ++ [.slice a3 C.length c3])) hgrow2 (by simpa [scrR] using hown2) (Nat.le_refl _) (fun g e => by cases e; exact hat2.imp id fun h => Nat.le_of_eq h.symm)); clear hown2 hgrow2 hat2 hlt2; refine hK.out _ _ (fun _ _ => HS4.out.ta) ?_; clear hK K
  try simp only [Act.put, List.setIfInBounds_toArray, List.set_cons_zero, List.set_cons_succ]
  refine jf (i := 17) (v := ?v22) rfl (by kernel_rfl) (by kernel_rfl) (by kernel_rfl) (fun _ _ _ h => h) (Or.inl ⟨by rfl, ?hy22⟩) ?_
  case hy22 =>
   intro w hSw
   (try dsimp only at hSw)
   go_simp
   all_goals with_reducible rfl
  change js _ _ _ _ _ _ _ _ (Act.put _ (some 47) _) _
  try simp only [Act.put, List.setIfInBounds_toArray, List.set_cons_zero, List.set_cons_succ]
  refine jf (i := 18) (v := ?v23) rfl (by kernel_rfl) (by kernel_rfl) (by kernel_rfl) (fun _ _ _ h => h) (Or.inl ⟨by rfl, ?hy23⟩) ?_
  case hy23 =>
   intro w hSw
   (try dsimp only at hSw)
   go_simp
   all_goals with_reducible rfl
  change js _ _ _ _ _ _ _ _ (Act.put _ (some 48) _) _
  try simp only [Act.put, List.setIfInBounds_toArray, List.set_cons_zero, List.set_cons_succ]
  obtain ⟨z1, z2, z3⟩ := HS4.out.frz (.slice (some ⟨g1, 0, none⟩) (L.length + 1) cap1); have z0 := HS4.out.ta.1; refine jt (rs := [19]) (by kernel_rfl) (by simp) ?_; refine jE rfl (fun K hK => ?_) jT
  go_simp
  refine hK.out _ _ (fun h => absurd h (by decide)) ?_; clear hK K
  try simp only [Act.put, List.setIfInBounds_toArray, List.set_cons_zero, List.set_cons_succ]
  refine jf (i := 20) (v := ?v24) rfl (by kernel_rfl) (by kernel_rfl) (by kernel_rfl) (fun _ _ _ h => h) (Or.inl ⟨by rfl, ?hy24⟩) ?_
  case hy24 =>
   intro w hSw
   (try dsimp only at hSw)
   go_simp
   all_goals with_reducible rfl
  change js _ _ _ _ _ _ _ _ (Act.put _ (some 49) _) _
  try simp only [Act.put, List.setIfInBounds_toArray, List.set_cons_zero, List.set_cons_succ]
  refine jf (i := 21) (v := ?v25) rfl (by kernel_rfl) (by kernel_rfl) (by kernel_rfl) (fun _ _ _ h => h) (Or.inl ⟨by rfl, ?hy25⟩) ?_
  case hy25 =>
   intro w hSw
   (try dsimp only at hSw)
   go_simp
   all_goals with_reducible rfl
  change js _ _ _ _ _ _ _ _ (Act.put _ (some 50) _) _
  try simp only [Act.put, List.setIfInBounds_toArray, List.set_cons_zero, List.set_cons_succ]
  refine jt (rs := [22]) (by kernel_rfl) (by simp) ?_; refine jE rfl (fun K hK => ?_) jT
  go_simp
  refine hK.out _ _ (fun h => absurd h (by decide)) ?_; clear hK K
  try simp only [Act.put, List.setIfInBounds_toArray, List.set_cons_zero, List.set_cons_succ]
  refine vg (by kernel_rfl) ?_ _; go_wp2_with fail; go_ret; exact HEND.out _ _ _ HS4.out
end Go.Proofs.YtgooljlpffnaeaaGreatDoor
