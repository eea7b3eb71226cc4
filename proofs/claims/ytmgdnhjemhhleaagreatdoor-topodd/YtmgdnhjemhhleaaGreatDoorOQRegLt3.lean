/-
  Drawn regions whose last operations write what others of them load: a condition T is to be kept by every operation but the late ones, and an operation for which all late ones wait may be taken first under T.
-/
import Derived.Test.YtmgdnhjemhhleaaGreatDoorRows
import Derived.Test.YtmgdnhjemhhleaaGreatDoorOQPoMod9
namespace Go.Proofs.YtmgdnhjemhhleaaGreatDoor
open Go.Proofs
section
variable {P : Program} {ops : Array Oper} {Q : Exit → Act → World → Prop} {md : Region.Mode} {T : World → Prop} {late : Nat → Bool}
def jB (P : Program) (md : Region.Mode) (ops : Array Oper) (Q : Exit → Act → World → Prop) (late : Nat → Bool) (T : World → Prop) : Nat → Array Bool → Act → World → Prop
 | 0, listed, a, w => Region.ready md ops listed = [] ∧ Q .normal a w
 | fuel + 1, listed, a, w =>
   (Region.ready md ops listed = [] → Q .normal a w) ∧
   ∀ i ∈ Region.ready md ops listed, wpOp P ops Q i (fun a' w' => (late i = false → T w → T w') ∧ jB P md ops Q late T fuel (listed.setIfInBounds i true) a' w') a w
theorem jaS : ∀ (fuel : Nat) (listed : Array Bool) (a : Act) (w : World), jB P md ops Q late T fuel listed a w → wpAny P md ops Q fuel listed a w
 | 0, _, _, _, h => h
 | fuel + 1, _, _, _, h => ⟨h.1, fun i hi => wpOp_mono (fun a' w' h' => jaS fuel _ a' w' h'.2) (h.2 i hi)⟩
def waits (md : Region.Mode) (ops : Array Oper) (late : Nat → Bool) (i : Nat) : Bool :=
 (List.range ops.size).all fun j => !late j || match ops[j]? with
    | some o => o.after.toList.any fun e => Region.binds md e && e.on == i
    | none => true
theorem jhK {i : Nat} (h : waits md ops late i = true) (j : Nat) (oj : Oper) (hj : ops[j]? = some oj) (hl : late j = true) : ∃ e ∈ oj.after, Region.binds md e = true ∧ e.on = i := by
 have hs : j < ops.size := (Array.getElem?_eq_some_iff.1 hj).1; have := List.all_eq_true.1 h j (List.mem_range.2 hs); rw [hl, hj] at this; simp only [Bool.not_true, Bool.false_or, List.any_eq_true, Bool.and_eq_true, beq_iff_eq] at this; obtain ⟨e, he, h1, h2⟩ := this; exact ⟨e, by simpa using he, h1, h2⟩
theorem jeQ {i : Nat} {oi : Oper} {v : Value} (hi : ops[i]? = some oi) (hsel : ∀ (j : Nat) (o : Oper) cs b, ops[j]? = some o → o.op ≠ .select cs b)
 (hQ : ∀ c a w, Q (.panic c) (a.put oi.dst v) w → Q (.panic c) a w) (hwt : waits md ops late i = true) :
 ∀ (fuel : Nat) (listed : Array Bool) (a : Act) (w : World),
   (∀ j oj, ops[j]? = some oj → j ≠ i → listed.getD j true = false → (∀ e ∈ oj.after, Region.binds md e = true → e.on ≠ i) → oi.apart ops oj = true) →
   i ∈ Region.ready md ops listed → YieldsIf P ops T oi v a → T w →
   jB P md ops Q late T fuel (listed.setIfInBounds i true) (a.put oi.dst v) w → jB P md ops Q late T (fuel + 1) listed a w := by
 intro fuel
 induction fuel with
 | zero =>
   intro listed a w _ hr hy hS H; refine ⟨fun h => (by rw [h] at hr; cases hr), fun j hj => ?_⟩
   by_cases hji : j = i
   · subst hji; exact hy.wpOp hi hS ⟨fun _ h => h, H⟩
   · have := ready_mono hj hji; rw [H.1] at this; cases this
 | succ fuel ih =>
   intro listed a w hfree hr hy hS H; refine ⟨fun h => (by rw [h] at hr; cases hr), fun j hj => ?_⟩
   by_cases hji : j = i
   · subst hji; exact hy.wpOp hi hS ⟨fun _ h => h, H⟩
   · have h1 := H.2 j (ready_mono hj hji); obtain ⟨hjun, oj, hoj, hall⟩ := mem_ready.1 hj; have hnot : ∀ e ∈ oj.after, Region.binds md e = true → e.on ≠ i := fun e he hb heq => by
        have h1 := hall e he hb; have h0 := (mem_ready.1 hr).1; rw [heq] at h1
        rcases Nat.lt_or_ge i listed.size with h' | h'
        · simp [h'] at h0 h1; rw [h0] at h1; cases h1
        · simp [Array.getElem?_eq_none h'] at h1
     have hlt : late j = false := by
        cases hl : late j with
        | false => rfl
        | true => obtain ⟨e, he, hb, hon⟩ := jhK hwt j oj hoj hl; exact absurd hon (hnot e he hb)
     have h2 := wpOp_putIf hoj (hfree j oj hoj hji hjun hnot) (fun cs b => hsel i oi cs b hi) (fun cs b => hsel j oj cs b hoj) hQ hy h1; have hfree' : ∀ k ok, ops[k]? = some ok → k ≠ i → (listed.setIfInBounds j true).getD k true = false →
      (∀ e ∈ ok.after, Region.binds md e = true → e.on ≠ i) → oi.apart ops ok = true := fun k ok hk hki hun hno => by
        refine hfree k ok hk hki ?_ hno
        by_cases hjk : j = k
        · subst hjk; exact hjun
        · rw [getD_set_ne true hjk] at hun; exact hun
     refine wpOp_mono (fun a' w' h3 => ⟨h3.2.1, ih (listed.setIfInBounds j true) a' w' hfree' (ready_mono hr (Ne.symm hji)) h3.1 (h3.2.1 hlt hS) ?_⟩) h2; rw [Array.setIfInBounds_comm _ _ hji]; exact h3.2.2
theorem jao {i : Nat} {oi : Oper} {v : Value} {fuel : Nat} {listed : Array Bool} {a : Act} {w : World} (hi : ops[i]? = some oi)
 (hs : Region.noSelect ops = true) (hf : Region.free md ops listed i = true) (hr : (Region.ready md ops listed).contains i = true) (hwt : waits md ops late i = true)
 (hQ : ∀ c a w, Q (.panic c) (a.put oi.dst v) w → Q (.panic c) a w) (hy : YieldsIf P ops T oi v a) (hS : T w)
 (h : jB P md ops Q late T fuel (listed.setIfInBounds i true) (a.put oi.dst v) w) : jB P md ops Q late T (fuel + 1) listed a w :=
 jeQ hi (Region.noSelect_spec hs) hQ hwt fuel listed a w (Region.free_spec hi hf) (by simpa using hr) hy hS h
theorem jhN {i : Nat} {oi : Oper} {v : Value} (hi : ops[i]? = some oi) (hsel : ∀ (j : Nat) (o : Oper) cs b, ops[j]? = some o → o.op ≠ .select cs b)
 (hQ : ∀ c a w, Q (.panic c) (a.put oi.dst v) w → Q (.panic c) a w) :
 ∀ (fuel : Nat) (listed : Array Bool) (a : Act) (w : World),
   (∀ j oj, ops[j]? = some oj → j ≠ i → listed.getD j true = false → (∀ e ∈ oj.after, Region.binds md e = true → e.on ≠ i) → oi.apart ops oj = true) →
   i ∈ Region.ready md ops listed → YieldsIf P ops (fun _ => True) oi v a →
   jB P md ops Q late T fuel (listed.setIfInBounds i true) (a.put oi.dst v) w → jB P md ops Q late T (fuel + 1) listed a w := by
 intro fuel
 induction fuel with
 | zero =>
   intro listed a w _ hr hy H; refine ⟨fun h => (by rw [h] at hr; cases hr), fun j hj => ?_⟩
   by_cases hji : j = i
   · subst hji; exact hy.wpOp hi trivial ⟨fun _ h => h, H⟩
   · have := ready_mono hj hji; rw [H.1] at this; cases this
 | succ fuel ih =>
   intro listed a w hfree hr hy H; refine ⟨fun h => (by rw [h] at hr; cases hr), fun j hj => ?_⟩
   by_cases hji : j = i
   · subst hji; exact hy.wpOp hi trivial ⟨fun _ h => h, H⟩
   · have h1 := H.2 j (ready_mono hj hji); obtain ⟨hjun, oj, hoj, hall⟩ := mem_ready.1 hj; have hnot : ∀ e ∈ oj.after, Region.binds md e = true → e.on ≠ i := fun e he hb heq => by
        have h1 := hall e he hb; have h0 := (mem_ready.1 hr).1; rw [heq] at h1
        rcases Nat.lt_or_ge i listed.size with h' | h'
        · simp [h'] at h0 h1; rw [h0] at h1; cases h1
        · simp [Array.getElem?_eq_none h'] at h1
     have h2 := wpOp_putIf hoj (hfree j oj hoj hji hjun hnot) (fun cs b => hsel i oi cs b hi) (fun cs b => hsel j oj cs b hoj) hQ hy h1; have hfree' : ∀ k ok, ops[k]? = some ok → k ≠ i → (listed.setIfInBounds j true).getD k true = false →
      (∀ e ∈ ok.after, Region.binds md e = true → e.on ≠ i) → oi.apart ops ok = true := fun k ok hk hki hun hno => by
        refine hfree k ok hk hki ?_ hno
        by_cases hjk : j = k
        · subst hjk; exact hjun
        · rw [getD_set_ne true hjk] at hun; exact hun
     refine wpOp_mono (fun a' w' h3 => ⟨h3.2.1, ih (listed.setIfInBounds j true) a' w' hfree' (ready_mono hr (Ne.symm hji)) h3.1 ?_⟩) h2; rw [Array.setIfInBounds_comm _ _ hji]; exact h3.2.2
theorem jo {i : Nat} {oi : Oper} {v : Value} {fuel : Nat} {listed : Array Bool} {a : Act} {w : World} (hi : ops[i]? = some oi)
 (hs : Region.noSelect ops = true) (hf : Region.free md ops listed i = true) (hr : (Region.ready md ops listed).contains i = true)
 (hQ : ∀ c a w, Q (.panic c) (a.put oi.dst v) w → Q (.panic c) a w) (hy : YieldsIf P ops (fun _ => True) oi v a)
 (h : jB P md ops Q late T fuel (listed.setIfInBounds i true) (a.put oi.dst v) w) : jB P md ops Q late T (fuel + 1) listed a w :=
 jhN hi (Region.noSelect_spec hs) hQ fuel listed a w (Region.free_spec hi hf) (by simpa using hr) hy h
theorem jhM {rs : List Nat} {fuel : Nat} {listed : Array Bool} {a : Act} {w : World} (hr : Region.ready md ops listed = rs) (hne : rs ≠ [])
 (h : ∀ i ∈ rs, wpOp P ops Q i (fun a' w' => (late i = false → T w → T w') ∧ jB P md ops Q late T fuel (listed.setIfInBounds i true) a' w') a w) : jB P md ops Q late T (fuel + 1) listed a w :=
 ⟨fun h0 => absurd (hr ▸ h0) hne, hr ▸ h⟩
theorem jan {listed : Array Bool} {a : Act} {w : World} (hr : Region.ready md ops listed = []) (h : Q .normal a w) :
 ∀ fuel, jB P md ops Q late T fuel listed a w
 | 0 => ⟨hr, h⟩
 | _ + 1 => ⟨fun _ => h, by rw [hr]; simp⟩
def AllL (P : Program) (md : Region.Mode) (ops : Array Oper) (Q : Exit → Act → World → Prop) (late : Nat → Bool) (T : World → Prop) (fuel : Nat) (listed : Array Bool) (a : Act) (w : World) (rs : List Nat) : Prop :=
 ∀ i ∈ rs, wpOp P ops Q i (fun a' w' => (late i = false → T w → T w') ∧ jB P md ops Q late T fuel (listed.setIfInBounds i true) a' w') a w
theorem zb {fuel : Nat} {listed : Array Bool} {a : Act} {w : World} : AllL P md ops Q late T fuel listed a w [] := fun _ h => by cases h
theorem jM {fuel : Nat} {listed : Array Bool} {a : Act} {w : World} {i : Nat} {o : Oper} {rs : List Nat} (ho : ops[i]? = some o)
 (h : ∀ K' : Act → World → Prop, Shut (∀ a' w', (late i = false → T w → T w') → jB P md ops Q late T fuel (listed.setIfInBounds i true) a' w' → K' a' w') → if Region.wanted o (yielded ops a.tmps) = true then Oper.wp P o a w K' Q else K' (a.put o.dst undef) w)
 (hs : AllL P md ops Q late T fuel listed a w rs) : AllL P md ops Q late T fuel listed a w (i :: rs) := fun j hj => by
 rcases List.mem_cons.1 hj with rfl | hj
 · exact wpOp_step ho (fun K' hK => h K' (fun a' w' hS hW => hK a' w' ⟨hS, hW⟩))
 · exact hs j hj
theorem jv {rs : List Nat} {fuel : Nat} {listed : Array Bool} {a : Act} {w : World} (hr : Region.ready md ops listed = rs) (hne : rs ≠ [])
 (h : AllL P md ops Q late T fuel listed a w rs) : jB P md ops Q late T (fuel + 1) listed a w := jhM hr hne h
theorem jcF {id : Nat} {a : Act} {w : World} (hm : P.follows .mixedOrders = true)
 (h : jB P .any ops Q late T ops.size (Array.replicate ops.size false) a w.drew) : (Code.region id ops true).wp P Q a w :=
 wp_region_any hm (jaS _ _ _ _ h)
end
open Go.RowKit Go.Proofs
theorem CmdsM.stp {b : Nat} {G G' : List Nat} {w w' : World} {Q : Nat → Prop} {n : Nat} {v : Value} {l : List Cmd} (h : CmdsM Q n w v l) (hs : Stp b G w G' w') (hQ : ∀ k, Q k → k < w.heap.size → Av b G k) : CmdsM (fun k => Q k ∧ Av b G' k) n w' v l := by
 have hk : ∀ k, Q k → k < w.heap.size → (Q k ∧ Av b G' k) ∧ w'.heap[k]? = w.heap[k]? := fun k hq hl => ⟨⟨hq, hs.av hl (hQ k hq hl)⟩, hs.block k hl (hQ k hq hl)⟩
 have hr : ∀ {A : Type} {k : Nat} {P P' : A → List Value → Prop} {v : Value} {l : List A}, RowM Q k P w v l → (∀ x cs, P x cs → P' x cs) → RowM (fun k => Q k ∧ Av b G' k) k P' w' v l := by
  intro A k P P' v l h hp; obtain ⟨a, c, hv, hm, hx⟩ := h; refine ⟨a, c, hv, hm, fun i x hi => ?_⟩; obtain ⟨g, o, cs, ha, hg, hq, hl, hc, hP⟩ := hx i x hi; exact ⟨g, o, cs, ha, Nat.lt_of_lt_of_le hg hs.size, (hk g hq hg).1, hl, fun j u hj => (World.cell?_of_block (hk g hq hg).2).trans (hc j u hj), hp x cs hP⟩
 have ht : ∀ (n : Nat) (t : Tst) (cs : List Value), TstM Q n w t cs → TstM (fun k => Q k ∧ Av b G' k) n w' t cs := by
  intro n
  induction n with
  | zero => intro t cs h; exact h
  | succ n ih =>
    intro t cs h; obtain ⟨vn, vk, vt, h0, h1, h2, h3⟩ := h; exact ⟨vn, vk, vt, h0, hr h1 fun _ _ h => h, hr h2 fun _ _ h => h, hr h3 ih⟩
 have hcm : ∀ (n : Nat) (t : Cmd) (cs : List Value), CmdM Q n w t cs → CmdM (fun k => Q k ∧ Av b G' k) n w' t cs := by
  intro n
  induction n with
  | zero => intro t cs h; exact h
  | succ n ih =>
    intro t cs h; obtain ⟨vx, vn, vk, vt, va, ve, h0, h1, h2, h3, h4⟩ := h; exact ⟨vx, vn, vk, vt, va, ve, h0, hr h1 fun _ _ h => h, ht _ _ _ h2, hr h3 ih, hr h4 ih⟩
 exact hr h (hcm n)
def locR (v : Value) (L : List (List UInt8)) : MRow := ⟨9, 1, v, L.length, L.map fun l => .string (S l)⟩
def scrR (v : Value) (X : List Value) : MRow := ⟨101, 1, v, X.length, X⟩
def TA (b p : Nat) (v34 v35 : Value) (lo : List UInt8) (w : World) : Prop := w.cell? ⟨b, 34, none⟩ = some v34 ∧ w.cell? ⟨b, 35, none⟩ = some v35 ∧ w.cell? ⟨p, 0, none⟩ = some (.string (S lo))
structure AdS (w0 : World) (B b p : Nat) (cs : List Value) (l0 s0 : MRow) (v34 v35 : Value) (lo : List UInt8) (l s : MRow) (w : World) : Prop where
 box : RmB w b cs
 own : MOk w B b [l, s]
 stp : Stp b (mB [l0, s0]) w0 (mB [l, s]) w
 ta : TA b p v34 v35 lo w
 hp : p < w0.heap.size ∧ Av b (mB [l0, s0]) p
theorem AdS.next {w0 : World} {B b p : Nat} {cs : List Value} {l0 s0 l s : MRow} {v34 v35 : Value} {lo : List UInt8} {w w' : World} (h : AdS w0 B b p cs l0 s0 v34 v35 lo l s w) (hb : Below w.heap.size w w') : AdS w0 B b p cs l0 s0 v34 v35 lo l s w' :=
 ⟨h.box.next hb, h.own.next hb, h.stp.trans (.of hb), ⟨ja h.ta.1 hb, ja h.ta.2.1 hb, ja h.ta.2.2 hb⟩, h.hp⟩
theorem AdS.put {w0 : World} {B b p : Nat} {cs : List Value} {l0 s0 l s l' s' : MRow} {v34 v35 : Value} {lo : List UInt8} {w w' : World} (h : AdS w0 B b p cs l0 s0 v34 v35 lo l s w) (hM : MOk w' B b [l', s']) (hS : Stp b (mB [l, s]) w (mB [l', s']) w') (hB : w'.heap[b]? = w.heap[b]?) : AdS w0 B b p cs l0 s0 v34 v35 lo l' s' w' := by
 have hz := h.stp.size; have hp := h.hp; refine ⟨⟨hB.trans h.box.1, h.box.2⟩, hM, h.stp.trans hS, ⟨(World.cell?_of_block hB).trans h.ta.1, (World.cell?_of_block hB).trans h.ta.2.1, (World.cell?_of_block (hS.block p (by omega) (h.stp.av hp.1 hp.2))).trans h.ta.2.2⟩, hp⟩
theorem AdS.g1 {w0 : World} {B b p H : Nat} {cs : List Value} {l0 s0 l s l' : MRow} {v34 v35 : Value} {lo : List UInt8} {w w' : World} (h : AdS w0 B b p cs l0 s0 v34 v35 lo l s w) (hg : w.grownBy w' l.v.ownBlock) (ho : w'.ownsRow B l'.e l'.k l'.v l'.n l'.xs) (hH : w.heap.size ≤ H) (hat : ∀ g, l'.v.ownBlock = some g → l.v.ownBlock = some g ∨ H ≤ g) :
 AdS w0 B b p cs l0 s0 v34 v35 lo l' s w' := by
 obtain ⟨h1, h2⟩ := MOk.grow (A := []) (Z := [s]) h.own hg ho hH hat; exact h.put h1 h2 (hg.block b h.own.lt fun e => h.own.far (List.mem_filterMap.2 ⟨l, by simp, e.symm⟩))
theorem AdS.g2 {w0 : World} {B b p H : Nat} {cs : List Value} {l0 s0 l s s' : MRow} {v34 v35 : Value} {lo : List UInt8} {w w' : World} (h : AdS w0 B b p cs l0 s0 v34 v35 lo l s w) (hg : w.grownBy w' s.v.ownBlock) (ho : w'.ownsRow B s'.e s'.k s'.v s'.n s'.xs) (hH : w.heap.size ≤ H) (hat : ∀ g, s'.v.ownBlock = some g → s.v.ownBlock = some g ∨ H ≤ g) :
 AdS w0 B b p cs l0 s0 v34 v35 lo l s' w' := by
 obtain ⟨h1, h2⟩ := MOk.grow (A := [l]) (Z := []) h.own hg ho hH hat; exact h.put h1 h2 (hg.block b h.own.lt fun e => h.own.far (List.mem_filterMap.2 ⟨s, by simp, e.symm⟩))
def Nw (w : World) (q : Nat) (u : Value) : Prop := ∀ j x, [u][j]? = some x → w.cell? ((⟨q, 0, none⟩ : Addr).add j) = some x
theorem Nw.new (w : World) (u : Value) (t : TypeId) (q : Nat) (hq : w.heap.size = q) : Nw (w.alloc (.cells #[u] t)) q u := hq ▸ qk w [u] t
theorem Nw.next {w w' : World} {q : Nat} {u : Value} (h : Nw w q u) (hb : Below w.heap.size w w') : Nw w' q u := fun j x hj => ja (h j x hj) hb
theorem Nw.grow {w w' : World} {q : Nat} {u : Value} {row : Option Nat} (h : Nw w q u) (hg : w.grownBy w' row) (hn : row ≠ some q) : Nw w' q u := fun j x hj => hg.cell (h j x hj) (by rw [Addr.add_lit]; exact fun e => hn e.symm)
def AduP (B b : Nat) (cs : List Value) (L : List (List UInt8)) (X : List Value) (v34 v35 : Value) (lo : List UInt8) (n : Nat) (C : List Cmd) (w : World) (e : Ending) (w' : World) : Prop :=
 e = .returned (.int .i64 0) ∧ ∃ u34 u35 a c, RmB w' b ((cs.set 34 u34).set 35 u35) ∧ MOk w' B b [locR u34 (L ++ [lo]), scrR u35 (X ++ [.slice a C.length c])] ∧ jbl a C.length c ∧
   CmdsM (fun k => w.heap.size ≤ k ∧ Av b (mB [locR u34 (L ++ [lo]), scrR u35 (X ++ [.slice a C.length c])]) k) n w' (.slice a C.length c) C ∧ Stp b (mB [locR v34 L, scrR v35 X]) w (mB [locR u34 (L ++ [lo]), scrR u35 (X ++ [.slice a C.length c])]) w'
theorem jlS {w0 w5 : World} {B b p n c : Nat} {cs : List Value} {L : List (List UInt8)} {X : List Value} {v34 v35 u34 u35 : Value} {lo : List UInt8} {a : Option Addr} {C : List Cmd} {w : World} {N : Nat} (h : AdS w0 B b p cs (locR v34 L) (scrR v35 X) v34 v35 lo (locR u34 (L ++ [lo])) (scrR u35 (X ++ [.slice a C.length c])) w5)
 (hw : Below w.heap.size w w0) (hM : MOk w B b [locR v34 L, scrR v35 X]) (hC : CmdsM (newB N) n w0 (.slice a C.length c) C) (hN : w.heap.size ≤ N) (hR : jbl a C.length c) :
 AduP B b cs L X v34 v35 lo n C w (.returned (.int .i64 0)) ((w5.setCell ⟨b, 34, none⟩ u34).setCell ⟨b, 35, none⟩ u35) := by
 refine ⟨rfl, u34, u35, a, c, ⟨?_, by simpa using h.box.2⟩, (h.own.box _ _).box _ _, hR, RowM.imp (CmdsM.stp hC ((h.stp.box _ _).box _ _) (fun k hk hl => ⟨?_, fun e => ?_⟩)) (fun k hk => ⟨Nat.le_trans hN hk.1, hk.2⟩) (Keeps.refl _ _) (fun x cs hx => CmdM.imp (fun k hk => ⟨Nat.le_trans hN hk.1, hk.2⟩) (Keeps.refl _ _) _ _ _ hx), (Stp.of hw).trans ((h.stp.box _ _).box _ _)⟩
 · have h1 := heap_setCell_same _ b 35 _ _ u35 (heap_setCell_same _ b 34 _ _ u34 h.box.1); rw [h1]
   simp
 · have := hM.lt; unfold newB at hk; omega
 · have := (hM.rng k e).2; unfold newB at hk; omega
theorem AdS.frz {w0 : World} {B b p : Nat} {cs : List Value} {l0 s0 l s : MRow} {v34 v35 : Value} {lo : List UInt8} {w : World} (h : AdS w0 B b p cs l0 s0 v34 v35 lo l s w) (u : Value) : w.frozen? ⟨b, 34, none⟩ = false ∧ (w.setCell ⟨b, 34, none⟩ u).frozen? ⟨b, 35, none⟩ = false ∧ (w.setCell ⟨b, 34, none⟩ u).cell? ⟨b, 35, none⟩ = some v35 := by
 have h1 := h.box.1; have h2 := heap_setCell_same _ b 34 _ _ u h1; refine ⟨by simp [World.frozen?, h1], by simp [World.frozen?, h2], ?_⟩; have h3 := h.ta.2.1; simp only [World.cell?, h1] at h3; simp only [World.cell?, h2]
 simpa using h3
theorem jm3 : (Tryz.prog.info? 9).map (fun i => (i.zero, i.size, i.bytes)) = some (some (.string ByteArray.empty), 1, 16) := by kernel_rfl
theorem jm5 : (Tryz.prog.info? 101).map (fun i => (i.zero, i.size, i.bytes)) = some (some (.slice none 0 0), 1, 24) := by kernel_rfl
set_option linter.unusedSimpArgs false in
set_option maxHeartbeats 2000000 in
set_option maxRecDepth 100000 in
theorem jmT (B b : Nat) (lo sc : List UInt8) (cs : List Value) (L : List (List UInt8)) (X : List Value) (v34 v35 : Value) (w : World) (hR : RmB w b cs) (h34 : cs[34]? = some v34) (h35 : cs[35]? = some v35) (hM : MOk w B b [locR v34 L, scrR v35 X]) (hBb : B ≤ b) (hLl : L.length ≤ 10) (hXl : X.length ≤ 10)
 (hc : jS lo [120] = 0) (hl : lo.length ≤ 2000) (hm : L.contains lo = false) (n : Nat) (C : List Cmd) (hRd : ∀ v, Below w.heap.size w v → Calls Tryz.prog 36 #[.string (S sc)] v (RdP v n (C, 0))) :
 Calls Tryz.prog 22 #[.pointer (some ⟨b, 0, none⟩), .agg #[.string (S lo), .string (S sc)]] w (AduP B b cs L X v34 v35 lo n C w) := by
 have hX : TxtsM (fun _ => True) w v34 L := jam (f := fun l => .string (S l)) (hM.own (locR v34 L) (by simp)) (by unfold maxLen; omega) fun _ _ => trivial
 obtain ⟨al, cl, rfl⟩ := RowM.slice hX; obtain ⟨as_, c35, rfl⟩ : ∃ a c, v35 = .slice a X.length c := by
  rcases (hM.own (scrR v35 X) (by simp)).2 with ⟨h, h0⟩ | ⟨g, cap, _, h, _⟩
  · exact ⟨none, 0, by rw [show v35 = _ from h, show X.length = 0 from h0]⟩
  · exact ⟨_, _, h⟩
 have HMM := hid hM; have HRD := hid hRd; clear hRd; have HC := hid (fun u => zR (S lo) ⟨#[120]⟩ u (by rw [jd]; omega) (by decide)); have HK := hid hc; have HR := hid hR; have HLX := hid hX; have hbl : b < w.heap.size := hM.lt; obtain ⟨i0, hi, hz0, hz1, hz2⟩ := info_parts jm3; obtain ⟨j0, hj, hq0, hq1, hq2⟩ := info_parts jm5; clear hc hR hX hM; go_enter Tryz.func22, Tryz.ntmps22; go_wp2_with fail; refine (HC.out _).mono ?_; rw [show jS (S lo).data.toList (⟨#[120]⟩ : ByteArray).data.toList = 0 by rw [jj]; exact HK.out]; rintro e w1 ⟨rfl, hb1⟩; have hB1 : Below w.heap.size w w1 := (nb0 _ _).trans (hb1.mono (by simp)); have HB1 := hid hB1; have hu1 : w1.heap[w.heap.size]? = some (.cells #[.string (S lo), .string (S sc)] 59) := (hb1.block _ (by simp)).trans (heap_alloc_new w _); have hz1' : w.heap.size < w1.heap.size := (Array.getElem?_eq_some_iff.1 hu1).1; have u0 : w1.cell? ⟨w.heap.size, 0, none⟩ = some (.string (S lo)) := by simp [World.cell?, hu1]
 have u1 : w1.cell? ⟨w.heap.size, 1, none⟩ = some (.string (S sc)) := by simp [World.cell?, hu1]
 have r34 := (HR.out.next hB1).cell h34; have r35 := (HR.out.next hB1).cell h35; have HCN := hid (show ∀ v, Below w1.heap.size w1 v → Calls Tryz.prog 35 #[.slice al L.length cl, .string (S lo)] v fun e w' => e = .returned (.bool (L.contains lo)) ∧ Below w1.heap.size w1 w' from fun v hv => (jaw (fun _ => True) L lo al cl v (HLX.out.next (hB1.trans (hv.mono hB1.size)))).mono fun e w' h => ⟨h.1, hv.trans (h.2.mono hv.size)⟩); obtain ⟨q, hq⟩ : ∃ q, q = L.contains lo := ⟨_, rfl⟩; rw [← hq] at hm HCN; have HQ := hid hm; clear hq hm; have HCE := hid (show ∀ v, Below w1.heap.size w1 v → v.cell? ⟨b, 34, none⟩ = some (.slice al L.length cl) ∧ v.cell? ⟨w.heap.size, 0, none⟩ = some (.string (S lo)) from fun v hv => ⟨ja r34 hv, ja u0 hv⟩); clear hb1 hB1 hu1; go_upto_region 3 with fail
 go_cut [13] (fun v wx => v = .bool q ∧ Below w1.heap.size w1 wx)
 case first =>
  go_region_held3 (fun w' => w'.cell? ⟨b, 34, none⟩ = some (.slice al L.length cl) ∧ w'.cell? ⟨w.heap.size, 0, none⟩ = some (.string (S lo))) (first | exact HCE.out _ HBV.out | exact HCE.out _ ((Below.refl _ _).drew) | exact HCE.out _ (Below.refl _ _) | fail)
   (first
        | (go_at_call 35
           with_reducible refine (HCN.out _ ?_).mono ?_
           · first | exact Below.refl _ _ | exact (Below.refl _ _).drew
           rintro e w2 ⟨rfl, hb2⟩; have HBV := hid hb2; clear hb2)
        | fail)
  all_goals (go_wp2_with fail; go_meet; exact ⟨rfl, HBV.out⟩)
 case rest =>
  obtain ⟨hv, hBx⟩ := hcut; subst hv; obtain ⟨W2, rfl⟩ : ∃ W, W = wc := ⟨_, rfl⟩; have HB2 := hid (show Below w.heap.size w W2 from HB1.out.trans (hBx.mono HB1.out.size)); have u1 := ja u1 hBx; have HB12 := hid hBx; rw [HQ.out]; clear hBx; go_wp2_with fail; refine (HRD.out W2 HB2.out).mono ?_; rintro e w3 ⟨a3, c3, rfl, hM3, hb3, hrest3⟩; simp only; simp only at hM3 hrest3; have HB3 := hid (HB2.out.trans (hb3.mono HB2.out.size)); have hB13 : Below w1.heap.size w1 w3 := HB12.out.trans (hb3.mono HB12.out.size); have HS0 : Hid (AdS w3 B b w.heap.size cs (locR (.slice al L.length cl) L) (scrR (.slice as_ X.length c35) X) (.slice al L.length cl) (.slice as_ X.length c35) lo (locR (.slice al L.length cl) L) (scrR (.slice as_ X.length c35) X) w3.drew) :=
   ⟨(HR.out.next HB3.out).next (Below.refl _ _).drew, (HMM.out.next HB3.out).next (Below.refl _ _).drew, .of (Below.refl _ _).drew, ⟨ja r34 hB13.drew, ja r35 hB13.drew, ja u0 hB13.drew⟩, Nat.lt_of_lt_of_le hz1' hB13.size, by omega, fun e => by have := (HMM.out.rng _ e).2; omega⟩
  have hwz : w.heap.size + 1 ≤ w3.heap.size := Nat.le_trans hz1' hB13.size; have HEND := hid (fun (u34 u35 : Value) (w5 : World) (h : AdS w3 B b w.heap.size cs (locR (.slice al L.length cl) L) (scrR (.slice as_ X.length c35) X) (.slice al L.length cl) (.slice as_ X.length c35) lo (locR u34 (L ++ [lo])) (scrR u35 (X ++ [.slice a3 C.length c3])) w5) => jlS (w := w) h HB3.out HMM.out hM3 HB2.out.size hrest3); have hlb : ∀ q, w3.heap.size ≤ q → (Value.slice al L.length cl).ownBlock ≠ some q := fun q hq e => by
   have := (HMM.out.rng q (List.mem_filterMap.2 ⟨locR (.slice al L.length cl) L, by simp, e⟩)).2; omega
  have HLB := hid hlb; have HT := hid (HS0.out.ta); clear hM3 hb3 hrest3 hB13 hlb r34 r35 u0 u1 h34 h35; go_upto_region 8 with fail
  have hT3 := HT.out; unfold TA at hT3; refine jcF (late := fun i => i == 19 || i == 22) (T := fun w' => w'.cell? ⟨b, 34, none⟩ = some (.slice al L.length cl) ∧ w'.cell? ⟨b, 35, none⟩ = some (.slice as_ X.length c35) ∧ w'.cell? ⟨w.heap.size, 0, none⟩ = some (.string (S lo))) (by rfl) ?_; refine jo (i := 0) (v := ?v1) rfl (by kernel_rfl) (by kernel_rfl) (by kernel_rfl) (fun _ _ _ h => h) (Or.inl ⟨by rfl, ?hy1⟩) ?_
  case hy1 =>
   intro w hSw
   (try dsimp only at hSw)
   go_simp
   all_goals with_reducible rfl
  change jB _ _ _ _ _ _ _ _ (Act.put _ (some 30) _) _
  try simp only [Act.put, List.setIfInBounds_toArray, List.set_cons_zero, List.set_cons_succ]
  refine jo (i := 1) (v := ?v2) rfl (by kernel_rfl) (by kernel_rfl) (by kernel_rfl) (fun _ _ _ h => h) (Or.inl ⟨by rfl, ?hy2⟩) ?_
  case hy2 =>
   intro w hSw
   (try dsimp only at hSw)
   go_simp
   all_goals with_reducible rfl
  change jB _ _ _ _ _ _ _ _ (Act.put _ (some 31) _) _
  try simp only [Act.put, List.setIfInBounds_toArray, List.set_cons_zero, List.set_cons_succ]
  refine jo (i := 2) (v := ?v3) rfl (by kernel_rfl) (by kernel_rfl) (by kernel_rfl) (fun _ _ _ h => h) (Or.inl ⟨by rfl, ?hy3⟩) ?_
  case hy3 =>
   intro w hSw
   (try dsimp only at hSw)
   go_simp
   all_goals with_reducible rfl
  change jB _ _ _ _ _ _ _ _ (Act.put _ (some 32) _) _
  try simp only [Act.put, List.setIfInBounds_toArray, List.set_cons_zero, List.set_cons_succ]
  refine jo (i := 3) (v := ?v4) rfl (by kernel_rfl) (by kernel_rfl) (by kernel_rfl) (fun _ _ _ h => h) (Or.inl ⟨by rfl, ?hy4⟩) ?_
  case hy4 =>
   intro w hSw
   (try dsimp only at hSw)
   go_simp
   all_goals with_reducible rfl
  change jB _ _ _ _ _ _ _ _ (Act.put _ (some 33) _) _
  try simp only [Act.put, List.setIfInBounds_toArray, List.set_cons_zero, List.set_cons_succ]
  refine jo (i := 4) (v := ?v5) rfl (by kernel_rfl) (by kernel_rfl) (by kernel_rfl) (fun _ _ _ h => h) (Or.inl ⟨by rfl, ?hy5⟩) ?_
  case hy5 =>
   intro w hSw
   (try dsimp only at hSw)
   go_simp
   all_goals with_reducible rfl
  change jB _ _ _ _ _ _ _ _ (Act.put _ (some 34) _) _
  try simp only [Act.put, List.setIfInBounds_toArray, List.set_cons_zero, List.set_cons_succ]
  refine jo (i := 6) (v := ?v6) rfl (by kernel_rfl) (by kernel_rfl) (by kernel_rfl) (fun _ _ _ h => h) (Or.inl ⟨by rfl, ?hy6⟩) ?_
  case hy6 =>
   intro w hSw
   (try dsimp only at hSw)
   go_simp
   all_goals with_reducible rfl
  change jB _ _ _ _ _ _ _ _ (Act.put _ (some 36) _) _
  try simp only [Act.put, List.setIfInBounds_toArray, List.set_cons_zero, List.set_cons_succ]
  refine jo (i := 10) (v := ?v7) rfl (by kernel_rfl) (by kernel_rfl) (by kernel_rfl) (fun _ _ _ h => h) (Or.inl ⟨by rfl, ?hy7⟩) ?_
  case hy7 =>
   intro w hSw
   (try dsimp only at hSw)
   go_simp
   all_goals with_reducible rfl
  change jB _ _ _ _ _ _ _ _ (Act.put _ (some 40) _) _
  try simp only [Act.put, List.setIfInBounds_toArray, List.set_cons_zero, List.set_cons_succ]
  refine jo (i := 11) (v := ?v8) rfl (by kernel_rfl) (by kernel_rfl) (by kernel_rfl) (fun _ _ _ h => h) (Or.inl ⟨by rfl, ?hy8⟩) ?_
  case hy8 =>
   intro w hSw
   (try dsimp only at hSw)
   go_simp
   all_goals with_reducible rfl
  change jB _ _ _ _ _ _ _ _ (Act.put _ (some 41) _) _
  try simp only [Act.put, List.setIfInBounds_toArray, List.set_cons_zero, List.set_cons_succ]
  refine jo (i := 12) (v := ?v9) rfl (by kernel_rfl) (by kernel_rfl) (by kernel_rfl) (fun _ _ _ h => h) (Or.inl ⟨by rfl, ?hy9⟩) ?_
  case hy9 =>
   intro w hSw
   (try dsimp only at hSw)
   go_simp
   all_goals with_reducible rfl
  change jB _ _ _ _ _ _ _ _ (Act.put _ (some 42) _) _
  try simp only [Act.put, List.setIfInBounds_toArray, List.set_cons_zero, List.set_cons_succ]
  refine jo (i := 14) (v := ?v10) rfl (by kernel_rfl) (by kernel_rfl) (by kernel_rfl) (fun _ _ _ h => h) (Or.inl ⟨by rfl, ?hy10⟩) ?_
  case hy10 =>
   intro w hSw
   (try dsimp only at hSw)
   go_simp
   all_goals with_reducible rfl
  change jB _ _ _ _ _ _ _ _ (Act.put _ (some 44) _) _
  try simp only [Act.put, List.setIfInBounds_toArray, List.set_cons_zero, List.set_cons_succ]
  refine jao (i := 5) (v := ?v11) rfl (by kernel_rfl) (by kernel_rfl) (by kernel_rfl) (by kernel_rfl) (fun _ _ _ h => h) (Or.inl ⟨by rfl, ?hy11⟩) (by assumption) ?_
  case hy11 =>
   intro w hSw
   (try dsimp only at hSw)
   go_simp
   all_goals with_reducible rfl
  change jB _ _ _ _ _ _ _ _ (Act.put _ (some 35) _) _
  try simp only [Act.put, List.setIfInBounds_toArray, List.set_cons_zero, List.set_cons_succ]
  refine jao (i := 7) (v := ?v12) rfl (by kernel_rfl) (by kernel_rfl) (by kernel_rfl) (by kernel_rfl) (fun _ _ _ h => h) (Or.inl ⟨by rfl, ?hy12⟩) (by assumption) ?_
  case hy12 =>
   intro w hSw
   (try dsimp only at hSw)
   go_simp
   all_goals with_reducible rfl
  change jB _ _ _ _ _ _ _ _ (Act.put _ (some 37) _) _
  try simp only [Act.put, List.setIfInBounds_toArray, List.set_cons_zero, List.set_cons_succ]
  refine jao (i := 13) (v := ?v13) rfl (by kernel_rfl) (by kernel_rfl) (by kernel_rfl) (by kernel_rfl) (fun _ _ _ h => h) (Or.inl ⟨by rfl, ?hy13⟩) (by assumption) ?_
  case hy13 =>
   intro w hSw
   (try dsimp only at hSw)
   go_simp
   all_goals with_reducible rfl
  change jB _ _ _ _ _ _ _ _ (Act.put _ (some 43) _) _
  try simp only [Act.put, List.setIfInBounds_toArray, List.set_cons_zero, List.set_cons_succ]
  refine jv (rs := [8, 15]) (by kernel_rfl) (by simp) ?_; refine jM rfl (fun K hK => ?_) ?_
  · skip
    go_simp
    have HS1 := hid (HS0.out.next ((Below.refl _ _).alloc (Nat.le_refl _) (.cells #[.string (S lo)] 9))); have HE1 := hid (Nw.new w3.drew (.string (S lo)) 9 w3.heap.size (by first | rfl | simp)); refine hK.out _ _ (fun _ _ => HS1.out.ta) ?_; clear hK K
    try simp only [Act.put, List.setIfInBounds_toArray, List.set_cons_zero, List.set_cons_succ]
    refine jv (rs := [9, 15]) (by kernel_rfl) (by simp) ?_; refine jM rfl (fun K hK => ?_) ?_
    · skip
      refine step_append_lies _ (by rfl) _ _ _ (by rfl) B 9 i0 _ 1 16 Tryz.underlying22 hi hz0 hz1 hz2 rfl (by omega) (.slice al L.length cl) L.length (L.map fun l => .string (S l)) (by rfl) (HS1.out.own.own _ (List.mem_cons_self ..)) ⟨w3.heap.size, 0, none⟩ 1 1 [.string (S lo)] (by rfl) (by rfl) HE1.out (by simp [Value.oneCell']) (by omega) (by unfold maxLen; omega) (by omega) (Nat.le_of_lt (Nat.lt_of_le_of_lt hBb HS1.out.own.lt)) _ rfl ?_; intro g1 cap1 w4 hown1 hgrow1 hat1 hlt1; have HS2 := hid (HS1.out.g1 (l' := locR (.slice (some ⟨g1, 0, none⟩) (L.length + 1) cap1) (L ++ [lo])) hgrow1 (by simpa [locR] using hown1) (Nat.le_refl _) (fun g e => by cases e; exact hat1.imp id fun h => Nat.le_of_eq h.symm)); clear hown1 hgrow1 hat1 hlt1; refine hK.out _ _ (fun _ _ => HS2.out.ta) ?_; clear hK K
      try simp only [Act.put, List.setIfInBounds_toArray, List.set_cons_zero, List.set_cons_succ]
      refine jv (rs := [15]) (by kernel_rfl) (by simp) ?_; refine jM rfl (fun K hK => ?_) zb
      go_simp
      have HS3 := hid (HS2.out.next ((Below.refl _ _).alloc (Nat.le_refl _) (.cells #[.slice a3 C.length c3] 101))); have HE2 := hid (Nw.new w4 (.slice a3 C.length c3) 101 w4.heap.size (by first | rfl | simp)); refine hK.out _ _ (fun _ _ => HS3.out.ta) ?_; clear hK K
      try simp only [Act.put, List.setIfInBounds_toArray, List.set_cons_zero, List.set_cons_succ]
      refine jv (rs := [16]) (by kernel_rfl) (by simp) ?_; refine jM rfl (fun K hK => ?_) zb; refine step_append_lies _ (by rfl) _ _ _ (by rfl) B 101 j0 _ 1 24 Tryz.underlying83 hj hq0 hq1 hq2 rfl (by omega) (.slice as_ X.length c35) X.length X (by rfl) (HS3.out.own.own _ (List.mem_cons_of_mem _ (List.mem_cons_self ..))) ⟨w4.heap.size, 0, none⟩ 1 1 [.slice a3 C.length c3] (by rfl) (by rfl) HE2.out (by simp [Value.oneCell']) (by omega) (by unfold maxLen; omega) (by omega) (Nat.le_of_lt (Nat.lt_of_le_of_lt hBb HS3.out.own.lt)) _ rfl ?_; intro g2 cap2 w5 hown2 hgrow2 hat2 hlt2; have HS4 := hid (HS3.out.g2 (s' := scrR (.slice (some ⟨g2, 0, none⟩) (X.length + 1) cap2) (X ++ [.slice a3 C.length c3])) hgrow2 (by simpa [scrR] using hown2) (Nat.le_refl _) (fun g e => by cases e; exact hat2.imp id fun h => Nat.le_of_eq h.symm)); clear hown2 hgrow2 hat2 hlt2; refine hK.out _ _ (fun _ _ => HS4.out.ta) ?_; clear hK K
      try simp only [Act.put, List.setIfInBounds_toArray, List.set_cons_zero, List.set_cons_succ]
      refine jo (i := 17) (v := ?v14) rfl (by kernel_rfl) (by kernel_rfl) (by kernel_rfl) (fun _ _ _ h => h) (Or.inl ⟨by rfl, ?hy14⟩) ?_
      case hy14 =>
       intro w hSw
       (try dsimp only at hSw)
       go_simp
       all_goals with_reducible rfl
      change jB _ _ _ _ _ _ _ _ (Act.put _ (some 47) _) _
      try simp only [Act.put, List.setIfInBounds_toArray, List.set_cons_zero, List.set_cons_succ]
      refine jo (i := 18) (v := ?v15) rfl (by kernel_rfl) (by kernel_rfl) (by kernel_rfl) (fun _ _ _ h => h) (Or.inl ⟨by rfl, ?hy15⟩) ?_
      case hy15 =>
       intro w hSw
       (try dsimp only at hSw)
       go_simp
       all_goals with_reducible rfl
      change jB _ _ _ _ _ _ _ _ (Act.put _ (some 48) _) _
      try simp only [Act.put, List.setIfInBounds_toArray, List.set_cons_zero, List.set_cons_succ]
      obtain ⟨z1, z2, z3⟩ := HS4.out.frz (.slice (some ⟨g1, 0, none⟩) (L.length + 1) cap1); have z0 := HS4.out.ta.1; refine jv (rs := [19]) (by kernel_rfl) (by simp) ?_; refine jM rfl (fun K hK => ?_) zb
      go_simp
      refine hK.out _ _ (fun h => absurd h (by decide)) ?_; clear hK K
      try simp only [Act.put, List.setIfInBounds_toArray, List.set_cons_zero, List.set_cons_succ]
      refine jo (i := 20) (v := ?v16) rfl (by kernel_rfl) (by kernel_rfl) (by kernel_rfl) (fun _ _ _ h => h) (Or.inl ⟨by rfl, ?hy16⟩) ?_
      case hy16 =>
       intro w hSw
       (try dsimp only at hSw)
       go_simp
       all_goals with_reducible rfl
      change jB _ _ _ _ _ _ _ _ (Act.put _ (some 49) _) _
      try simp only [Act.put, List.setIfInBounds_toArray, List.set_cons_zero, List.set_cons_succ]
      refine jo (i := 21) (v := ?v17) rfl (by kernel_rfl) (by kernel_rfl) (by kernel_rfl) (fun _ _ _ h => h) (Or.inl ⟨by rfl, ?hy17⟩) ?_
      case hy17 =>
       intro w hSw
       (try dsimp only at hSw)
       go_simp
       all_goals with_reducible rfl
      change jB _ _ _ _ _ _ _ _ (Act.put _ (some 50) _) _
      try simp only [Act.put, List.setIfInBounds_toArray, List.set_cons_zero, List.set_cons_succ]
      refine jv (rs := [22]) (by kernel_rfl) (by simp) ?_; refine jM rfl (fun K hK => ?_) zb
      go_simp
      refine hK.out _ _ (fun h => absurd h (by decide)) ?_; clear hK K
      try simp only [Act.put, List.setIfInBounds_toArray, List.set_cons_zero, List.set_cons_succ]
      refine jan (by kernel_rfl) ?_ _; go_wp2_with fail; go_ret; exact HEND.out _ _ _ HS4.out
    refine jM rfl (fun K hK => ?_) zb
    go_simp
    have HS2 := hid (HS1.out.next ((Below.refl _ _).alloc (Nat.le_refl _) (.cells #[.slice a3 C.length c3] 101))); have HE1 := hid (HE1.out.next ((Below.refl _ _).alloc (Nat.le_refl _) (.cells #[.slice a3 C.length c3] 101))); have HE2 := hid (Nw.new (w3.drew.alloc (.cells #[.string (S lo)] 9)) (.slice a3 C.length c3) 101 (w3.heap.size + 1) (by first | rfl | simp)); refine hK.out _ _ (fun _ _ => HS2.out.ta) ?_; clear hK K
    try simp only [Act.put, List.setIfInBounds_toArray, List.set_cons_zero, List.set_cons_succ]
    refine jv (rs := [9]) (by kernel_rfl) (by simp) ?_; refine jM rfl (fun K hK => ?_) zb; refine step_append_lies _ (by rfl) _ _ _ (by rfl) B 9 i0 _ 1 16 Tryz.underlying22 hi hz0 hz1 hz2 rfl (by omega) (.slice al L.length cl) L.length (L.map fun l => .string (S l)) (by rfl) (HS2.out.own.own _ (List.mem_cons_self ..)) ⟨w3.heap.size, 0, none⟩ 1 1 [.string (S lo)] (by rfl) (by rfl) HE1.out (by simp [Value.oneCell']) (by omega) (by unfold maxLen; omega) (by omega) (Nat.le_of_lt (Nat.lt_of_le_of_lt hBb HS2.out.own.lt)) _ rfl ?_; intro g1 cap1 w4 hown1 hgrow1 hat1 hlt1; have HS3 := hid (HS2.out.g1 (l' := locR (.slice (some ⟨g1, 0, none⟩) (L.length + 1) cap1) (L ++ [lo])) hgrow1 (by simpa [locR] using hown1) (Nat.le_refl _) (fun g e => by cases e; exact hat1.imp id fun h => Nat.le_of_eq h.symm)); have HE2 := hid (HE2.out.grow hgrow1 (HLB.out _ (by simp))); clear hown1 hgrow1 hat1 hlt1; refine hK.out _ _ (fun _ _ => HS3.out.ta) ?_; clear hK K
    try simp only [Act.put, List.setIfInBounds_toArray, List.set_cons_zero, List.set_cons_succ]
    refine jv (rs := [16]) (by kernel_rfl) (by simp) ?_; refine jM rfl (fun K hK => ?_) zb; refine step_append_lies _ (by rfl) _ _ _ (by rfl) B 101 j0 _ 1 24 Tryz.underlying83 hj hq0 hq1 hq2 rfl (by omega) (.slice as_ X.length c35) X.length X (by rfl) (HS3.out.own.own _ (List.mem_cons_of_mem _ (List.mem_cons_self ..))) ⟨(w3.heap.size + 1), 0, none⟩ 1 1 [.slice a3 C.length c3] (by rfl) (by rfl) HE2.out (by simp [Value.oneCell']) (by omega) (by unfold maxLen; omega) (by omega) (Nat.le_of_lt (Nat.lt_of_le_of_lt hBb HS3.out.own.lt)) _ rfl ?_; intro g2 cap2 w5 hown2 hgrow2 hat2 hlt2; have HS4 := hid (HS3.out.g2 (s' := scrR (.slice (some ⟨g2, 0, none⟩) (X.length + 1) cap2) (X ++ [.slice a3 C.length c3])) hgrow2 (by simpa [scrR] using hown2) (Nat.le_refl _) (fun g e => by cases e; exact hat2.imp id fun h => Nat.le_of_eq h.symm)); clear hown2 hgrow2 hat2 hlt2; refine hK.out _ _ (fun _ _ => HS4.out.ta) ?_; clear hK K
    try simp only [Act.put, List.setIfInBounds_toArray, List.set_cons_zero, List.set_cons_succ]
    refine jo (i := 17) (v := ?v18) rfl (by kernel_rfl) (by kernel_rfl) (by kernel_rfl) (fun _ _ _ h => h) (Or.inl ⟨by rfl, ?hy18⟩) ?_
    case hy18 =>
        intro w hSw
        (try dsimp only at hSw)
        go_simp
        all_goals with_reducible rfl
    change jB _ _ _ _ _ _ _ _ (Act.put _ (some 47) _) _
    try simp only [Act.put, List.setIfInBounds_toArray, List.set_cons_zero, List.set_cons_succ]
    refine jo (i := 18) (v := ?v19) rfl (by kernel_rfl) (by kernel_rfl) (by kernel_rfl) (fun _ _ _ h => h) (Or.inl ⟨by rfl, ?hy19⟩) ?_
    case hy19 =>
        intro w hSw
        (try dsimp only at hSw)
        go_simp
        all_goals with_reducible rfl
    change jB _ _ _ _ _ _ _ _ (Act.put _ (some 48) _) _
    try simp only [Act.put, List.setIfInBounds_toArray, List.set_cons_zero, List.set_cons_succ]
    obtain ⟨z1, z2, z3⟩ := HS4.out.frz (.slice (some ⟨g1, 0, none⟩) (L.length + 1) cap1); have z0 := HS4.out.ta.1; refine jv (rs := [19]) (by kernel_rfl) (by simp) ?_; refine jM rfl (fun K hK => ?_) zb
    go_simp
    refine hK.out _ _ (fun h => absurd h (by decide)) ?_; clear hK K
    try simp only [Act.put, List.setIfInBounds_toArray, List.set_cons_zero, List.set_cons_succ]
    refine jo (i := 20) (v := ?v20) rfl (by kernel_rfl) (by kernel_rfl) (by kernel_rfl) (fun _ _ _ h => h) (Or.inl ⟨by rfl, ?hy20⟩) ?_
    case hy20 =>
        intro w hSw
        (try dsimp only at hSw)
        go_simp
        all_goals with_reducible rfl
    change jB _ _ _ _ _ _ _ _ (Act.put _ (some 49) _) _
    try simp only [Act.put, List.setIfInBounds_toArray, List.set_cons_zero, List.set_cons_succ]
    refine jo (i := 21) (v := ?v21) rfl (by kernel_rfl) (by kernel_rfl) (by kernel_rfl) (fun _ _ _ h => h) (Or.inl ⟨by rfl, ?hy21⟩) ?_
    case hy21 =>
        intro w hSw
        (try dsimp only at hSw)
        go_simp
        all_goals with_reducible rfl
    change jB _ _ _ _ _ _ _ _ (Act.put _ (some 50) _) _
    try simp only [Act.put, List.setIfInBounds_toArray, List.set_cons_zero, List.set_cons_succ]
    refine jv (rs := [22]) (by kernel_rfl) (by simp) ?_; refine jM rfl (fun K hK => ?_) zb
    go_simp
    refine hK.out _ _ (fun h => absurd h (by decide)) ?_; clear hK K
    try simp only [Act.put, List.setIfInBounds_toArray, List.set_cons_zero, List.set_cons_succ]
    refine jan (by kernel_rfl) ?_ _; go_wp2_with fail; go_ret; exact HEND.out _ _ _ HS4.out
  refine jM rfl (fun K hK => ?_) zb
  go_simp
  have HS1 := hid (HS0.out.next ((Below.refl _ _).alloc (Nat.le_refl _) (.cells #[.slice a3 C.length c3] 101))); have HE2 := hid (Nw.new w3.drew (.slice a3 C.length c3) 101 w3.heap.size (by first | rfl | simp)); refine hK.out _ _ (fun _ _ => HS1.out.ta) ?_; clear hK K
  try simp only [Act.put, List.setIfInBounds_toArray, List.set_cons_zero, List.set_cons_succ]
  refine jv (rs := [8]) (by kernel_rfl) (by simp) ?_; refine jM rfl (fun K hK => ?_) zb
  go_simp
  have HS2 := hid (HS1.out.next ((Below.refl _ _).alloc (Nat.le_refl _) (.cells #[.string (S lo)] 9))); have HE2 := hid (HE2.out.next ((Below.refl _ _).alloc (Nat.le_refl _) (.cells #[.string (S lo)] 9))); have HE1 := hid (Nw.new (w3.drew.alloc (.cells #[.slice a3 C.length c3] 101)) (.string (S lo)) 9 (w3.heap.size + 1) (by first | rfl | simp)); refine hK.out _ _ (fun _ _ => HS2.out.ta) ?_; clear hK K
  try simp only [Act.put, List.setIfInBounds_toArray, List.set_cons_zero, List.set_cons_succ]
  refine jv (rs := [9]) (by kernel_rfl) (by simp) ?_; refine jM rfl (fun K hK => ?_) zb; refine step_append_lies _ (by rfl) _ _ _ (by rfl) B 9 i0 _ 1 16 Tryz.underlying22 hi hz0 hz1 hz2 rfl (by omega) (.slice al L.length cl) L.length (L.map fun l => .string (S l)) (by rfl) (HS2.out.own.own _ (List.mem_cons_self ..)) ⟨(w3.heap.size + 1), 0, none⟩ 1 1 [.string (S lo)] (by rfl) (by rfl) HE1.out (by simp [Value.oneCell']) (by omega) (by unfold maxLen; omega) (by omega) (Nat.le_of_lt (Nat.lt_of_le_of_lt hBb HS2.out.own.lt)) _ rfl ?_; intro g1 cap1 w4 hown1 hgrow1 hat1 hlt1; have HS3 := hid (HS2.out.g1 (l' := locR (.slice (some ⟨g1, 0, none⟩) (L.length + 1) cap1) (L ++ [lo])) hgrow1 (by simpa [locR] using hown1) (Nat.le_refl _) (fun g e => by cases e; exact hat1.imp id fun h => Nat.le_of_eq h.symm)); have HE2 := hid (HE2.out.grow hgrow1 (HLB.out _ (by simp))); clear hown1 hgrow1 hat1 hlt1; refine hK.out _ _ (fun _ _ => HS3.out.ta) ?_; clear hK K
  try simp only [Act.put, List.setIfInBounds_toArray, List.set_cons_zero, List.set_cons_succ]
  refine jv (rs := [16]) (by kernel_rfl) (by simp) ?_; refine jM rfl (fun K hK => ?_) zb; refine step_append_lies _ (by rfl) _ _ _ (by rfl) B 101 j0 _ 1 24 Tryz.underlying83 hj hq0 hq1 hq2 rfl (by omega) (.slice as_ X.length c35) X.length X (by rfl) (HS3.out.own.own _ (List.mem_cons_of_mem _ (List.mem_cons_self ..))) ⟨w3.heap.size, 0, none⟩ 1 1 [.slice a3 C.length c3] (by rfl) (by rfl) HE2.out (by simp [Value.oneCell']) (by omega) (by unfold maxLen; omega) (by omega) (Nat.le_of_lt (Nat.lt_of_le_of_lt hBb HS3.out.own.lt)) _ rfl ?_; intro g2 cap2 w5 hown2 hgrow2 hat2 hlt2; have HS4 := hid (HS3.out.g2 (s' := scrR (.slice (some ⟨g2, 0, none⟩) (X.length + 1) cap2) (X ++ [.slice a3 C.length c3])) hgrow2 (by simpa [scrR] using hown2) (Nat.le_refl _) (fun g e => by cases e; exact hat2.imp id fun h => Nat.le_of_eq h.symm)); clear hown2 hgrow2 hat2 hlt2; refine hK.out _ _ (fun _ _ => HS4.out.ta) ?_; clear hK K
  try simp only [Act.put, List.setIfInBounds_toArray, List.set_cons_zero, List.set_cons_succ]
  refine jo (i := 17) (v := ?v22) rfl (by kernel_rfl) (by kernel_rfl) (by kernel_rfl) (fun _ _ _ h => h) (Or.inl ⟨by rfl, ?hy22⟩) ?_
  case hy22 =>
   intro w hSw
   (try dsimp only at hSw)
   go_simp
   all_goals with_reducible rfl
  change jB _ _ _ _ _ _ _ _ (Act.put _ (some 47) _) _
  try simp only [Act.put, List.setIfInBounds_toArray, List.set_cons_zero, List.set_cons_succ]
  refine jo (i := 18) (v := ?v23) rfl (by kernel_rfl) (by kernel_rfl) (by kernel_rfl) (fun _ _ _ h => h) (Or.inl ⟨by rfl, ?hy23⟩) ?_
  case hy23 =>
   intro w hSw
   (try dsimp only at hSw)
   go_simp
   all_goals with_reducible rfl
  change jB _ _ _ _ _ _ _ _ (Act.put _ (some 48) _) _
  try simp only [Act.put, List.setIfInBounds_toArray, List.set_cons_zero, List.set_cons_succ]
  obtain ⟨z1, z2, z3⟩ := HS4.out.frz (.slice (some ⟨g1, 0, none⟩) (L.length + 1) cap1); have z0 := HS4.out.ta.1; refine jv (rs := [19]) (by kernel_rfl) (by simp) ?_; refine jM rfl (fun K hK => ?_) zb
  go_simp
  refine hK.out _ _ (fun h => absurd h (by decide)) ?_; clear hK K
  try simp only [Act.put, List.setIfInBounds_toArray, List.set_cons_zero, List.set_cons_succ]
  refine jo (i := 20) (v := ?v24) rfl (by kernel_rfl) (by kernel_rfl) (by kernel_rfl) (fun _ _ _ h => h) (Or.inl ⟨by rfl, ?hy24⟩) ?_
  case hy24 =>
   intro w hSw
   (try dsimp only at hSw)
   go_simp
   all_goals with_reducible rfl
  change jB _ _ _ _ _ _ _ _ (Act.put _ (some 49) _) _
  try simp only [Act.put, List.setIfInBounds_toArray, List.set_cons_zero, List.set_cons_succ]
  refine jo (i := 21) (v := ?v25) rfl (by kernel_rfl) (by kernel_rfl) (by kernel_rfl) (fun _ _ _ h => h) (Or.inl ⟨by rfl, ?hy25⟩) ?_
  case hy25 =>
   intro w hSw
   (try dsimp only at hSw)
   go_simp
   all_goals with_reducible rfl
  change jB _ _ _ _ _ _ _ _ (Act.put _ (some 50) _) _
  try simp only [Act.put, List.setIfInBounds_toArray, List.set_cons_zero, List.set_cons_succ]
  refine jv (rs := [22]) (by kernel_rfl) (by simp) ?_; refine jM rfl (fun K hK => ?_) zb
  go_simp
  refine hK.out _ _ (fun h => absurd h (by decide)) ?_; clear hK K
  try simp only [Act.put, List.setIfInBounds_toArray, List.set_cons_zero, List.set_cons_succ]
  refine jan (by kernel_rfl) ?_ _; go_wp2_with fail; go_ret; exact HEND.out _ _ _ HS4.out
end Go.Proofs.YtmgdnhjemhhleaaGreatDoor
