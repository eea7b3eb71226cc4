/-
  More keys, or more names, fit no less: walked.
-/
import Derived.Test.YtkciflocpelhiaaGreatDoorMkTesq
import Derived.Test.YtkciflocpelhiaaGreatDoorAskLeaf
import Derived.Test.YtkciflocpelhiaaGreatDoorLtrMsg
import Derived.Test.YtkciflocpelhiaaGreatDoorBx
import Derived.Test.YtkciflocpelhiaaGreatDoorGlobLaws
import Derived.Deep.RegionLaw
import Derived.Deep.RegionHeld3
import Derived.Deep.DeepCutAuto
namespace Go.Proofs.YtkciflocpelhiaaGreatDoor
open Go.RowKit Go.Proofs

/- Plain facts. -/
def cmpT (kd ma p : Int) (names keys : List (List UInt8)) : Tst := ⟨kd, ma, p, names, keys, false, 0, []⟩
theorem any_more {A : Type} {f : A → Bool} {l m : List A} (h : l.any f = true) : (l ++ m).any f = true := by rw [List.any_append, h]; rfl
theorem any_impl {A : Type} {f g : A → Bool} {l : List A} (hi : ∀ x, f x = true → g x = true) (h : l.any f = true) : l.any g = true := by
  rw [List.any_eq_true] at h ⊢
  obtain ⟨x, h1, h2⟩ := h
  exact ⟨x, h1, hi x h2⟩
theorem keys_more {kd ma p : Int} (hk : kd = 6 ∨ kd = 7) (o : Opn) (names keys more : List (List UInt8)) (h : tellsP o 1 (cmpT kd ma p names keys) = true) : tellsP o 1 (cmpT kd ma p names (keys ++ more)) = true := by
  have hf : ∀ s, fitsP (cmpT kd ma p names keys) s = true → fitsP (cmpT kd ma p names (keys ++ more)) s = true := fun s h => any_more h
  rcases hk with rfl | rfl
  · refine any_impl (fun f hf' => ?_) (show hasValP o.fs names (fitsP (cmpT 6 ma p names keys)) = true from h)
    rw [Bool.and_eq_true] at hf' ⊢
    exact ⟨hf'.1, hf _ hf'.2⟩
  · refine any_impl (fun f hf' => ?_) (show hasValP o.fs names (anyAdr (cmpT 7 ma p names keys)) = true from h)
    rw [Bool.and_eq_true] at hf' ⊢
    exact ⟨hf'.1, any_impl (fun a ha => hf _ ha) hf'.2⟩
theorem names_more {kd ma p : Int} (hk : kd = 6 ∨ kd = 7) (o : Opn) (names keys more : List (List UInt8)) (h : tellsP o 1 (cmpT kd ma p names keys) = true) : tellsP o 1 (cmpT kd ma p (names ++ more) keys) = true := by
  rcases hk with rfl | rfl
  · refine any_impl (fun f hf' => ?_) (show hasValP o.fs names (fitsP (cmpT 6 ma p names keys)) = true from h)
    rw [Bool.and_eq_true] at hf' ⊢
    exact ⟨any_more hf'.1, hf'.2⟩
  · refine any_impl (fun f hf' => ?_) (show hasValP o.fs names (anyAdr (cmpT 7 ma p names keys)) = true from h)
    rw [Bool.and_eq_true] at hf' ⊢
    exact ⟨any_more hf'.1, hf'.2⟩
theorem long_no {l : List (List UInt8)} (h : ∀ s ∈ l, s.length ≤ 100) : longP l = false := by
  unfold longP
  rw [List.any_eq_false]
  intro s hs
  have := h s hs
  simp
  omega
theorem cmp_leaf {kd ma p : Int} (hp : (kd = 6 ∧ p = 0) ∨ (kd = 7 ∧ 1 ≤ p ∧ p ≤ 3)) (hm : 1 ≤ ma ∧ ma ≤ 3) {names keys : List (List UInt8)} (h1 : ∀ s ∈ names, s.length ≤ 100) (h2 : ∀ s ∈ keys, s.length ≤ 100) (n1 : 1 ≤ names.length) (k1 : 1 ≤ keys.length) (n2 : names.length ≤ 20) (k2 : keys.length ≤ 20) : LeafT (cmpT kd ma p names keys) := by
  refine ⟨by show 1 ≤ kd; omega, by show kd ≤ 10; omega, ?_, rfl, long_no h1, long_no h2, fun h => ?_, n2, k2⟩
  · rcases hp with ⟨rfl, rfl⟩ | ⟨rfl, q1, q2⟩
    · unfold fitsT cmpB cmpT
      simp [isNum_mat]
      exact ⟨⟨⟨hm, by omega⟩, by omega⟩, rfl⟩
    · unfold fitsT cmpB cmpT
      simp [isNum_mat, isNum_part]
      exact ⟨⟨⟨⟨hm, by omega⟩, by omega⟩, q1, q2⟩, rfl⟩
  · exfalso
    have h : kd = 8 := h
    omega
def sureT : Tst := ⟨8, 2, 1, [[116, 111]], [[64]], false, 0, []⟩
theorem sure_leaf : LeafT sureT := ⟨by decide, by decide, by decide, rfl, by decide, by decide, fun _ => by decide, by decide, by decide⟩
theorem sure_tells {o : Opn} (ho : Opened o) : tellsP o 1 sureT = true := by
  have hc : checkA o.tl o.td = 0 := by
    unfold Opened judgeL at ho
    split at ho
    · rename_i h; exact absurd (congrArg (fun x => x.2.2) ho) h
    · split at ho
      · rename_i h; exact absurd (congrArg (fun x => x.2.2) ho) h
      · rename_i h; simpa using h
  have hl := checkA_len hc
  show ([([116, 111] : List UInt8)].any fun n => adrFits sureT (partyP o n)) = true
  have hp : partyP o [116, 111] = (o.tl, o.td) := rfl
  simp only [List.any_cons, List.any_nil, Bool.or_false, hp]
  show fitsP sureT (partM 1 o.tl o.td).1 = true
  have e : (partM 1 o.tl o.td).1 = o.tl ++ 64 :: o.td := by
    unfold partM
    rw [if_neg (by simpa using hc), if_pos rfl]
  rw [e]
  show ([([64] : List UInt8)].any fun k => matP 2 (o.tl ++ 64 :: o.td) k) = true
  simp only [List.any_cons, List.any_nil, Bool.or_false]
  unfold matP
  rw [if_neg (by decide), if_neg (by simp; omega)]
  unfold matchB
  rw [if_neg (by decide), if_pos rfl, low_list, low_list, list_S, list_S]
  refine (contains_iff _ _).2 ⟨lowL o.tl, lowL o.td, ?_⟩
  unfold lowL
  simp
/- Memory. -/
def ltrCs (o : Opn) : Array Value := #[.string (S o.fl), .string (S o.fd), .string (S o.tl), .string (S o.td), .string (S o.tx)]
/-- A test that compares in its box, the rows of its names and keys its own, beside a letter in its box. -/
structure AmS (B TB LB : Nat) (o : Opn) (kd ma p : Int) (gn gk cn ck : Nat) (names keys : List (List UInt8)) (w : World) : Prop where
  t : w.heap[TB]? = some (.cells #[.int .i64 kd, .int .i64 ma, .int .i64 p, .slice (some ⟨gn, 0, none⟩) names.length cn, .slice (some ⟨gk, 0, none⟩) keys.length ck, .bool false, .int .i64 0, .slice none 0 0] 40)
  l : w.heap[LB]? = some (.cells (ltrCs o) 33)
  n : OwnTx w B gn cn names
  k : OwnTx w B gk ck keys
  d : gn ≠ gk ∧ gn ≠ TB ∧ gk ≠ TB ∧ LB ≠ TB ∧ gn ≠ LB ∧ gk ≠ LB ∧ B ≤ TB
theorem AmS.next {B TB LB : Nat} {o : Opn} {kd ma p : Int} {gn gk cn ck : Nat} {names keys : List (List UInt8)} {w w' : World} (h : AmS B TB LB o kd ma p gn gk cn ck names keys w) (hb : Below w.heap.size w w') : AmS B TB LB o kd ma p gn gk cn ck names keys w' :=
  ⟨tl_low hb h.t, tl_low hb h.l, own_next h.n hb, own_next h.k hb, h.d⟩
theorem AmS.ask {B TB LB : Nat} {o : Opn} (ho : Opened o) {kd ma p : Int} {gn gk cn ck : Nat} {names keys : List (List UInt8)} {w : World} (h : AmS B TB LB o kd ma p gn gk cn ck names keys w) (hl : LeafT (cmpT kd ma p names keys)) (hw : Tabs w) (hm : maxLenCell w) :
    Calls Tryz.prog 7 #[.agg #[.int .i64 kd, .int .i64 ma, .int .i64 p, .slice (some ⟨gn, 0, none⟩) names.length cn, .slice (some ⟨gk, 0, none⟩) keys.length ck, .bool false, .int .i64 0, .slice none 0 0], .agg #[.string (S o.fl), .string (S o.fd), .string (S o.tl), .string (S o.td), .string (S o.tx)]] w fun e w' => e = .returned (.tuple #[.bool (tellsP o 1 (cmpT kd ma p names keys)), .int .i64 0]) ∧ Below w.heap.size w w' :=
  ask_leaf o ho (cmpT kd ma p names keys) hl _ _ none _ _ 0 w hw hm (mk_txts h.n rfl (fun _ _ => trivial) (show names.length ≤ maxLen by have : names.length ≤ 20 := hl.2.2.2.2.2.2.2.1; unfold maxLen; omega)) (mk_txts h.k rfl (fun _ _ => trivial) (show keys.length ≤ maxLen by have : keys.length ≤ 20 := hl.2.2.2.2.2.2.2.2; unfold maxLen; omega))
/-- Keys are put behind the others. -/
theorem AmS.keys {B TB LB : Nat} {o : Opn} {kd ma p : Int} {gn gk cn ck : Nat} {names keys : List (List UInt8)} {w w1 w2 : World} (h : AmS B TB LB o kd ma p gn gk cn ck names keys w) (hb : Below w.heap.size w w1) {x : List UInt8} {g cap : Nat} (hg : w1.grownBy w2 (Value.slice (some ⟨gk, 0, none⟩) keys.length ck).ownBlock) (ho : w2.ownsRow B 9 1 (.slice (some ⟨g, 0, none⟩) (keys.length + 1) cap) (keys.length + 1) ((keys.map fun s => .string (S s)) ++ [.string (S x)]))
    (hat : (Value.slice (some ⟨gk, 0, none⟩) keys.length ck).ownBlock = some g ∨ w1.heap.size ≤ g) : AmS B TB LB o kd ma p gn g cn cap names (keys ++ [x]) (w2.setCell ⟨TB, 4, none⟩ (.slice (some ⟨g, 0, none⟩) (keys.length + 1) cap)) := by
  obtain ⟨ht, hl, hn, hk, d1, d2, d3, d4, d5, d6, d7⟩ := h
  have lt : ∀ {b : Nat} {x : Obj}, w.heap[b]? = some x → b < w1.heap.size := fun h => Nat.lt_of_lt_of_le (Array.getElem?_eq_some_iff.1 h).1 hb.size
  have hnl := (World.ownsRow.lt hn gn rfl).2
  have hgg : g = gk ∨ w1.heap.size ≤ g := hat.imp (fun e => (Option.some.inj e).symm) id
  have e1 : g ≠ TB := by have := lt ht; rcases hgg with h | h <;> omega
  have e2 : g ≠ LB := by have := lt hl; rcases hgg with h | h <;> omega
  have e3 : gn ≠ g := by have := hb.size; rcases hgg with h | h <;> omega
  have st : ∀ q, q ≠ TB → (w2.setCell ⟨TB, 4, none⟩ (.slice (some ⟨g, 0, none⟩) (keys.length + 1) cap)).heap[q]? = w2.heap[q]? := fun q hq => Below.heap_setCell _ _ _ _ hq
  have gr : ∀ {b : Nat} {x : Obj}, w.heap[b]? = some x → b ≠ gk → w2.heap[b]? = some x := fun h hq => grown_heap hg (tl_low hb h) (own_ne hq)
  refine ⟨?_, (st LB d4).trans (gr hl d6.symm), ?_, ?_, e3, d2, e1, d4, d5, e2, d7⟩
  · have := heap_setCell_same w2 TB 4 _ _ (.slice (some ⟨g, 0, none⟩) (keys.length + 1) cap) (gr ht d3.symm)
    simp at this
    rw [List.length_append]
    exact this
  · have h1 : w2.ownsRow B 9 1 (.slice (some ⟨gn, 0, none⟩) names.length cn) names.length (names.map fun s => .string (S s)) := World.ownsRow.kept (own_next hn hb) hg (.inr fun e => d1 (Option.some.inj e))
    exact own_keepB h1 fun q hq => st q (by rw [← Option.some.inj hq]; exact d2)
  · unfold OwnTx
    rw [List.length_append, List.map_append]
    exact own_keepB ho fun q hq => st q (by rw [← Option.some.inj hq]; exact e1)
/-- Names are put behind the others. -/
theorem AmS.names {B TB LB : Nat} {o : Opn} {kd ma p : Int} {gn gk cn ck : Nat} {names keys : List (List UInt8)} {w w1 w2 : World} (h : AmS B TB LB o kd ma p gn gk cn ck names keys w) (hb : Below w.heap.size w w1) {x : List UInt8} {g cap : Nat} (hg : w1.grownBy w2 (Value.slice (some ⟨gn, 0, none⟩) names.length cn).ownBlock) (ho : w2.ownsRow B 9 1 (.slice (some ⟨g, 0, none⟩) (names.length + 1) cap) (names.length + 1) ((names.map fun s => .string (S s)) ++ [.string (S x)]))
    (hat : (Value.slice (some ⟨gn, 0, none⟩) names.length cn).ownBlock = some g ∨ w1.heap.size ≤ g) : AmS B TB LB o kd ma p g gk cap ck (names ++ [x]) keys (w2.setCell ⟨TB, 3, none⟩ (.slice (some ⟨g, 0, none⟩) (names.length + 1) cap)) := by
  obtain ⟨ht, hl, hn, hk, d1, d2, d3, d4, d5, d6, d7⟩ := h
  have lt : ∀ {b : Nat} {x : Obj}, w.heap[b]? = some x → b < w1.heap.size := fun h => Nat.lt_of_lt_of_le (Array.getElem?_eq_some_iff.1 h).1 hb.size
  have hnl := (World.ownsRow.lt hk gk rfl).2
  have hgg : g = gn ∨ w1.heap.size ≤ g := hat.imp (fun e => (Option.some.inj e).symm) id
  have e1 : g ≠ TB := by have := lt ht; rcases hgg with h | h <;> omega
  have e2 : g ≠ LB := by have := lt hl; rcases hgg with h | h <;> omega
  have e3 : g ≠ gk := by have := hb.size; rcases hgg with h | h <;> omega
  have st : ∀ q, q ≠ TB → (w2.setCell ⟨TB, 3, none⟩ (.slice (some ⟨g, 0, none⟩) (names.length + 1) cap)).heap[q]? = w2.heap[q]? := fun q hq => Below.heap_setCell _ _ _ _ hq
  have gr : ∀ {b : Nat} {x : Obj}, w.heap[b]? = some x → b ≠ gn → w2.heap[b]? = some x := fun h hq => grown_heap hg (tl_low hb h) (own_ne hq)
  refine ⟨?_, (st LB d4).trans (gr hl d5.symm), ?_, ?_, e3, e1, d3, d4, e2, d6, d7⟩
  · have := heap_setCell_same w2 TB 3 _ _ (.slice (some ⟨g, 0, none⟩) (names.length + 1) cap) (gr ht d2.symm)
    simp at this
    rw [List.length_append]
    exact this
  · unfold OwnTx
    rw [List.length_append, List.map_append]
    exact own_keepB ho fun q hq => st q (by rw [← Option.some.inj hq]; exact e1)
  · have h1 : w2.ownsRow B 9 1 (.slice (some ⟨gk, 0, none⟩) keys.length ck) keys.length (keys.map fun s => .string (S s)) := World.ownsRow.kept (own_next hk hb) hg (.inr fun e => d1 (Option.some.inj e).symm)
    exact own_keepB h1 fun q hq => st q (by rw [← Option.some.inj hq]; exact d3)
def AmC (w : World) (B TB LB : Nat) (o : Opn) (kd ma p : Int) (gn cn : Nat) (names keys : List (List UInt8)) (wx : World) : Prop := ∃ g cap k2, k2 = keys ∧ AmS B TB LB o kd ma p gn g cn cap names k2 wx ∧ Below w.heap.size w wx
set_option maxHeartbeats 8000000 in
set_option maxRecDepth 100000 in
theorem askMore_walk (w : World) (hm : TabsM w) (fl fd fg tl td tg : ByteArray) (a : Option Addr) (c : Nat) (fs : List F) (body : ByteArray) (hF : FieldsAt w a fs) (hL : fs.length ≤ maxLen) (hB : ∀ f ∈ fs, f.1.length ≤ maxLen ∧ f.2.length ≤ maxLen) (hY : body.size ≤ maxLen) (s1 : fl.size ≤ maxLen) (s2 : fd.size ≤ maxLen) (s3 : tl.size ≤ maxLen) (s4 : td.size ≤ maxLen) (x : Stk) (nx : Nat) (cx : List Value) (hx : StkM nx w x cx) (key : ByteArray) (hkey : key.size ≤ maxLen) :
    Calls Tryz.prog 3 #[.agg #[.string fl, .string fd, .string fg, .string tl, .string td, .string tg, .slice a fs.length c, .string body], .agg cx.toArray, .string key] w fun e w' => e = .returned (.bool true) ∧ Below w.heap.size w w' := by
  obtain ⟨i0, hi, hz0, hz1, hz2⟩ := info_parts infoTxt
  obtain ⟨kl, rfl⟩ : ∃ kl, key = S kl := ⟨key.data.toList, (S_list key).symm⟩
  have hkl : kl.length ≤ maxLen := by rw [size_S] at hkey; exact hkey
  have HM := hid hm
  obtain ⟨n0, rfl⟩ : ∃ n0, nx = n0 + 1 := by
    cases nx with
    | zero => exact hx.elim
    | succ n => exact ⟨n, rfl⟩
  obtain ⟨ax, kx, rfl, wk, wa, wb, ls, lt, hic, hcm, hRw⟩ := hx
  have HRW := hid hRw
  have HRC := hid (And.intro hic hcm)
  obtain ⟨o, ho⟩ : ∃ o, o = ltrO fl fd tl td fs body := ⟨_, rfl⟩
  have HO := hid (show Opened o by rw [ho]; exact ltr_opened _ _ _ _ _ _)
  obtain ⟨W0, hW0⟩ : ∃ W0, W0 = (w.alloc (.cells #[.string fl, .string fd, .string fg, .string tl, .string td, .string tg, .slice a fs.length c, .string body] 26)).alloc (.cells #[.int .i64 x.kind, .int .i64 x.a, .int .i64 x.b, .string (S x.s), .string (S x.t), .slice ax x.ins.length kx] 29) := ⟨_, rfl⟩
  have HWE := hid hW0
  have HB0 := hid (show Below w.heap.size w W0 by rw [hW0]; exact ((Below.refl _ _).alloc (Nat.le_refl _) _).alloc (by simp) _)
  have HXB := hid (show W0.heap[w.heap.size + 1]? = some (.cells #[.int .i64 x.kind, .int .i64 x.a, .int .i64 x.b, .string (S x.s), .string (S x.t), .slice ax x.ins.length kx] 29) by rw [hW0]; exact heap_at _ (by simp))
  have HLt := hid (show Calls Tryz.prog 4 #[.agg #[.string fl, .string fd, .string fg, .string tl, .string td, .string tg, .slice a fs.length c, .string body]] W0 (LtrP W0 o) by
    rw [ho]
    exact letter_ok fl fd fg tl td tg a c fs body W0 (hF.below HB0.out) hL hB hY s1 s2 s3 s4 (maxLenCell_below hm.2 HB0.out))
  clear hm hF hL hB hY s1 s2 s3 s4 hW0 ho hRw hic hcm hkey
  go_enter Tryz.func3, Tryz.ntmps3
  go_wp2_with fail
  rw [← HWE.out]
  refine HLt.out.mono ?_
  rintro e w1 ⟨he, hb1⟩
  rw [show e = .returned (.tuple #[.agg #[.string (S o.fl), .string (S o.fd), .string (S o.tl), .string (S o.td), .string (S o.tx)], .bool true]) from he]
  simp only
  obtain ⟨W1, hW1⟩ : ∃ W1, W1 = w1.alloc (.cells #[.string (S o.fl), .string (S o.fd), .string (S o.tl), .string (S o.td), .string (S o.tx)] 33) := ⟨_, rfl⟩
  have HWE1 := hid hW1
  have hal : Below w1.heap.size w1 W1 := by rw [hW1]; exact (Below.refl _ _).alloc (Nat.le_refl _) _
  have hb01 := hb1.trans (hal.mono hb1.size)
  have HB1 := hid (HB0.out.trans (hb01.mono HB0.out.size))
  have HX1 := hid (tl_low hb01 HXB.out)
  obtain ⟨LB, hLB⟩ : ∃ LB, LB = w1.heap.size := ⟨_, rfl⟩
  have HLB := hid hLB
  have HL1 := hid (show W1.heap[LB]? = some (.cells (ltrCs o) 33) by rw [hW1, hLB]; exact tl_at _ rfl)
  have HLX := hid (show w.heap.size + 1 < LB by
    have h1 := (Array.getElem?_eq_some_iff.1 HXB.out).1
    have h2 := hb1.size
    omega)
  have hX1 := HX1.out
  rw [HWE1.out] at hX1
  obtain ⟨x0, x1, x2, x3, x4, x5⟩ := bx6 hX1
  clear he hb1 hal hb01 hW1 hLB hX1 HWE HLt
  go_wp2_with fail
  rw [← HWE1.out, ← HLB.out]
  refine (picked_any x.kind 2 _ wk (by omega) (by omega)).mono ?_
  rintro e u ⟨rfl, hu⟩
  have hu' := hu.symm
  subst hu'
  clear hu x0 x1 x2 x3 x4 x5
  have hpk := pickN_lt x.kind 2 (by omega)
  generalize pickN x.kind 2 = pk at *
  have hp2 : (pk : Int) < 2 := by omega
  have hp0 : (0 : Int) ≤ (pk : Int) := by omega
  obtain ⟨W2, hW2⟩ : ∃ W2, W2 = W1.setCell ⟨w.heap.size + 1, 0, none⟩ (.int .i64 (5 + (pk : Int))) := ⟨_, rfl⟩
  have hx2 : W2.heap[w.heap.size + 1]? = some (.cells #[.int .i64 (5 + (pk : Int)), .int .i64 x.a, .int .i64 x.b, .string (S x.s), .string (S x.t), .slice ax x.ins.length kx] 29) := by
    rw [hW2]
    have := heap_setCell_same W1 (w.heap.size + 1) 0 _ _ (.int .i64 (5 + (pk : Int))) HX1.out
    simpa using this
  have HB2 := hid (show Below w.heap.size w W2 by rw [hW2]; exact HB1.out.setCell (p := ⟨w.heap.size + 1, 0, none⟩) (Nat.le_succ _) _)
  have HL2 := hid (show W2.heap[LB]? = some (.cells (ltrCs o) 33) by rw [hW2]; exact (Below.heap_setCell _ _ _ _ (show LB ≠ w.heap.size + 1 by have := HLX.out; omega)).trans HL1.out)
  have HTQ := hid (show Calls Tryz.prog 6 #[.agg #[.int .i64 (5 + (pk : Int)), .int .i64 x.a, .int .i64 x.b, .string (S x.s), .string (S x.t), .slice ax x.ins.length kx], .int .i64 3] W2 (TestQ (6 + (pk : Int)) W2) from by
    have hr := RowM.imp HRW.out (fun _ h => h) (Keeps.of_below HB2.out) (fun _ _ h => StkM.next h HB2.out)
    obtain rfl | rfl : pk = 0 ∨ pk = 1 := by omega
    · exact test_hdrq 3 n0 ⟨5, x.a, x.b, x.s, x.t, x.ins⟩ _ W2 ⟨ax, kx, rfl, show (Lit.int .i64 5).wf = true by decide, wa, wb, ls, lt, HRC.out.1, HRC.out.2, hr⟩ (by decide) rfl
    · exact test_adrq 3 n0 ⟨6, x.a, x.b, x.s, x.t, x.ins⟩ _ W2 ⟨ax, kx, rfl, show (Lit.int .i64 6).wf = true by decide, wa, wb, ls, lt, HRC.out.1, HRC.out.2, hr⟩ (by decide) rfl)
  have HKD := hid (show ((6 : Int) + (pk : Int)) = 6 ∨ ((6 : Int) + (pk : Int)) = 7 by omega)
  generalize (6 : Int) + (pk : Int) = kd at *
  have HWE2 := hid hW2
  have hX1 := HX1.out
  obtain ⟨x0, x1, x2, x3, x4, x5⟩ := bx6 hX1
  have zx : W1.frozen? ⟨w.heap.size + 1, 0, none⟩ = false := by simp [World.frozen?, hX1]
  clear hX1 hW2 hx2 HRW
  go_wp2_with fail
  rw [← HWE2.out]
  refine HTQ.out.mono ?_
  rintro e w3 ⟨ma, p, nm, keys, gn, gk, ck, rfl, hN, hK, hne, l1, l2, l3, l4, hma, hpp, hb3⟩
  clear x0 x1 x2 x3 x4 x5 zx HTQ HWE2
  obtain ⟨W3, hW3⟩ : ∃ W3, W3 = w3.alloc (.cells #[.int .i64 kd, .int .i64 ma, .int .i64 p, .slice (some ⟨gn, 0, none⟩) 1 1, .slice (some ⟨gk, 0, none⟩) keys.length ck, .bool false, .int .i64 0, .slice none 0 0] 40) := ⟨_, rfl⟩
  have hal : Below w3.heap.size w3 W3 := by rw [hW3]; exact (Below.refl _ _).alloc (Nat.le_refl _) _
  have hb23 := hb3.trans (hal.mono hb3.size)
  have HB3 := hid (HB2.out.trans (hb23.mono HB2.out.size))
  obtain ⟨TB, hTB⟩ : ∃ TB, TB = w3.heap.size := ⟨_, rfl⟩
  have HTB := hid hTB
  have HWE3 := hid hW3
  have HS3 := hid (show AmS W2.heap.size TB LB o kd ma p gn gk 1 ck [nm] keys W3 from by
    have q1 := World.ownsRow.lt hN gn rfl
    have q2 := World.ownsRow.lt hK gk rfl
    have q3 := (Array.getElem?_eq_some_iff.1 HL2.out).1
    have q4 := hb3.size
    exact ⟨by rw [hW3, hTB]; exact tl_at _ rfl, tl_low hb23 HL2.out, own_next hN hal, own_next hK hal, hne, by omega, by omega, by omega, by omega, by omega, by omega⟩)
  have HLF1 := hid (show LeafT (cmpT kd ma p [nm] keys) from cmp_leaf hpp hma (fun s hs => by simp at hs; rw [hs]; exact l1) l2 (by simp) l3 (by simp) (by omega))
  have HLF2 := hid (show LeafT (cmpT kd ma p [nm] (keys ++ [kl.take 12])) from cmp_leaf hpp hma (fun s hs => by simp at hs; rw [hs]; exact l1) (fun s hs => by
    rcases List.mem_append.1 hs with h | h
    · exact l2 s h
    · simp at h; rw [h, List.length_take]; omega) (by simp) (by simp) (by simp) (by simp; omega))
  have HLF3 := hid (show LeafT (cmpT kd ma p ([nm] ++ [[99, 99]]) (keys ++ [kl.take 12])) from cmp_leaf hpp hma (fun s hs => by
    rcases List.mem_append.1 hs with h | h
    · simp at h; rw [h]; exact l1
    · simp at h; rw [h]; decide) (fun s hs => by
    rcases List.mem_append.1 hs with h | h
    · exact l2 s h
    · simp at h; rw [h, List.length_take]; omega) (by simp) (by simp) (by simp) (by simp; omega))
  have HTA := hid (fun (v : World) (hv : Below w.heap.size w v) => (HM.out.next hv))
  obtain ⟨t1, ht1⟩ : ∃ t1, t1 = tellsP o 1 (cmpT kd ma p [nm] keys) := ⟨_, rfl⟩
  obtain ⟨t2, ht2⟩ : ∃ t2, t2 = tellsP o 1 (cmpT kd ma p [nm] (keys ++ [kl.take 12])) := ⟨_, rfl⟩
  obtain ⟨t3, ht3⟩ : ∃ t3, t3 = tellsP o 1 (cmpT kd ma p ([nm] ++ [[99, 99]]) (keys ++ [kl.take 12])) := ⟨_, rfl⟩
  have HT1 := hid ht1
  have HT2 := hid ht2
  have HT3 := hid ht3
  have HCS := hid (show (t1 = false ∧ t2 = false) ∨ (t1 = false ∧ t2 = true ∧ t3 = true) ∨ (t1 = true ∧ t2 = true ∧ t3 = true) from by
    have i1 : t1 = true → t2 = true := fun h => by rw [ht2]; exact keys_more HKD.out o _ _ _ (by rw [← ht1]; exact h)
    have i2 : t2 = true → t3 = true := fun h => by rw [ht3]; exact names_more HKD.out o _ _ _ (by rw [← ht2]; exact h)
    cases t1 with
    | true => exact .inr (.inr ⟨rfl, i1 rfl, i2 (i1 rfl)⟩)
    | false =>
      cases h2 : t2 with
      | true => exact .inr (.inl ⟨rfl, rfl, i2 h2⟩)
      | false => exact .inl ⟨rfl, rfl⟩)
  have HA1 := hid (HS3.out.ask HO.out HLF1.out (HTA.out W3 HB3.out).1 (HTA.out W3 HB3.out).2)
  rw [← ht1] at HA1
  have ht := HS3.out.t
  have hl := HS3.out.l
  rw [hW3] at ht hl
  unfold ltrCs at hl
  obtain ⟨c0, c1, c2, c3, c4, c5, c6, c7⟩ := bx8 ht
  obtain ⟨d0, d1, d2, d3, d4⟩ := bx5 hl
  clear hN hK hne l1 l2 l3 l4 hma hpp hb3 hal hb23 hW3 hTB ht1 ht2 ht3 ht hl
  go_wp2_with fail
  rw [← HWE3.out, ← HTB.out]
  refine HA1.out.mono ?_
  rintro e w4 ⟨rfl, hb4⟩
  clear c0 c1 c2 c3 c4 c5 c6 c7 d0 d1 d2 d3 d4 HWE3 HA1
  have HS4 := hid (HS3.out.next hb4)
  have HB4 := hid (HB3.out.trans (hb4.mono HB3.out.size))
  clear hb4
  go_upto_region 5 with fail
  have hlt4 : TB < w4.heap.size := (Array.getElem?_eq_some_iff.1 HS4.out.t).1
  have HLT4 := hid hlt4
  obtain ⟨c0, c1, c2, c3, c4, c5, c6, c7, f0, f1, f2, f3, f4, f5, f6, f7⟩ := box8 HS4.out.t
  have HBT := hid (show W2.heap.size ≤ w4.heap.size from by have := HS4.out.d; omega)
  have HKL := hid (show keys.length ≤ 20 from HLF1.out.2.2.2.2.2.2.2.2)
  go_cut [] (fun wx => AmC w W2.heap.size TB LB o kd ma p gn 1 [nm] (keys ++ [kl.take 12]) wx)
  case first =>
    go_region_law
      (first
        | (refine step_append_lies _ (by rfl) _ _ _ (by rfl) W2.heap.size 9 i0 _ 1 16 Tryz.underlying37 hi hz0 hz1 hz2 rfl (by omega) (.slice (some ⟨gk, 0, none⟩) keys.length ck) keys.length (keys.map fun s => .string (S s)) (by rfl) (World.ownsRow.alloc (World.ownsRow.drew HS4.out.k) _) ⟨_, 0, none⟩ 1 1 [.string (S (kl.take 12))] (by rfl) (by rfl) (cell_one_fresh _ _ _) (by simp [Value.oneCell']) (by omega) (by have := HKL.out; unfold maxLen; omega) (by have := HKL.out; omega) (by have := HBT.out; simp; omega) _ rfl ?_
           intro g cap w5 hown5 hgrow hat hlt5
           have ht5 := grown_heap hgrow (heap_old _ (show w4.drew.heap[TB]? = _ from HS4.out.t)) (own_ne HS4.out.d.2.2.1.symm)
           have HF5 := hid (show AmC w W2.heap.size TB LB o kd ma p gn 1 [nm] (keys ++ [kl.take 12]) (w5.setCell ⟨TB, 4, none⟩ (.slice (some ⟨g, 0, none⟩) (keys.length + 1) cap)) from ⟨g, cap, _, rfl, HS4.out.keys ((Below.refl _ _).drew.alloc (Nat.le_refl _) _) hgrow hown5 (hat.imp id fun e => Nat.le_of_eq (by rw [e]; try simp)), ((Below.grown (HB4.out.drew.alloc (by have := HB4.out.size; exact this) _) hgrow (by have := HB4.out.size; simp; omega) (fun j hj => by have := Option.some.inj hj; subst this; have h1 := (World.ownsRow.lt HS4.out.k gk rfl).1; have h2 := HB2.out.size; show w.heap.size ≤ gk; omega)).setCell (p := ⟨TB, 4, none⟩) (by have := HS4.out.d; have := HB2.out.size; show w.heap.size ≤ TB; omega) _)⟩)
           obtain ⟨u0, u1, u2, u3, u4, u5, u6, u7, v0, v1, v2, v3, v4, v5, v6, v7⟩ := box8 ht5
           clear hown5 hgrow hat ht5)
        | (go_simp
           go_at_call 8
           refine (short_any kl _ hkl).mono ?_
           rintro e wS ⟨rfl, rfl⟩)
        | fail)
    all_goals
      go_wp2_with fail
      go_meet
      exact HF5.out
  case rest =>
    obtain ⟨g5, cap5, k2, hk2, hS5, hb5⟩ := hcut
    obtain ⟨W5, rfl⟩ : ∃ W, W = wc := ⟨_, rfl⟩
    have HK2 := hid hk2
    rw [← hk2] at HLF2 HLF3 HT2 HT3
    have HS5 := hid hS5
    have HB5 := hid hb5
    have HA2 := hid (HS5.out.ask HO.out HLF2.out (HTA.out W5 HB5.out).1 (HTA.out W5 HB5.out).2)
    rw [← HT2.out] at HA2
    obtain ⟨c0, c1, c2, c3, c4, c5, c6, c7⟩ := bx8 HS5.out.t
    have hl := HS5.out.l
    unfold ltrCs at hl
    obtain ⟨d0, d1, d2, d3, d4⟩ := bx5 hl
    clear hk2 hS5 hb5 hl
    go_wp2_with fail
    refine HA2.out.mono ?_
    rintro e w6 ⟨rfl, hb6⟩
    have HS6 := hid (HS5.out.next hb6)
    have HB6 := hid (HB5.out.trans (hb6.mono HB5.out.size))
    clear c0 c1 c2 c3 c4 c5 c6 c7 d0 d1 d2 d3 d4 hb6 HA2
    obtain ⟨c0, c1, c2, c3, c4, c5, c6, c7⟩ := bx8 HS6.out.t
    have HLT6 := hid (show TB < w6.heap.size from (Array.getElem?_eq_some_iff.1 HS6.out.t).1)
    have HBT6 := hid (show W2.heap.size ≤ w6.heap.size from by have := HS6.out.d; have := HLT6.out; omega)
    go_wp2_with (first
      | (at_builtin; refine wpList_append_lies _ rfl _ _ 37 rfl W2.heap.size 9 i0 _ 1 16 Tryz.underlying37 hi hz0 hz1 hz2 rfl (by omega) (.slice (some ⟨gn, 0, none⟩) 1 1) 1 [.string (S nm)] rfl (World.ownsRow.alloc HS6.out.n _) ⟨w6.heap.size, 0, none⟩ 1 1 [.string ⟨#[99, 99]⟩] rfl rfl (cell_one_fresh w6 _ _) ?c1 (by omega) ?c2 ?c3 ?c4 _ rfl ?_)
      | fail)
    case c1 => simp [Value.oneCell']
    case c2 => unfold maxLen; omega
    case c3 => omega
    case c4 => have := HBT6.out; simp; omega
    intro g7 cap7 w7 hown7 hgrow hat hlt7
    have ht7 := grown_heap hgrow (heap_old _ HS6.out.t) (own_ne HS6.out.d.2.1.symm)
    obtain ⟨u0, u1, u2, u3, u4, u5, u6, u7, v0, v1, v2, v3, v4, v5, v6, v7⟩ := box8 ht7
    obtain ⟨W8, hW8⟩ : ∃ W8, W8 = w7.setCell ⟨TB, 3, none⟩ (.slice (some ⟨g7, 0, none⟩) 2 cap7) := ⟨_, rfl⟩
    obtain ⟨n2, hn2⟩ : ∃ n2, n2 = [nm] ++ [([99, 99] : List UInt8)] := ⟨_, rfl⟩
    have HN2 := hid (show n2.length = 2 by rw [hn2]; rfl)
    have HS8 := hid (show AmS W2.heap.size TB LB o kd ma p g7 g5 cap7 cap5 n2 k2 W8 from by
      rw [hW8, hn2]
      exact HS6.out.names ((Below.refl _ _).alloc (Nat.le_refl _) _) hgrow hown7 (hat.imp id fun e => Nat.le_of_eq (by rw [e]; try simp)))
    have HB8 := hid (show Below w.heap.size w W8 from by
      rw [hW8]
      exact (Below.grown (HB6.out.alloc HB6.out.size _) hgrow (by have := HB6.out.size; simp; omega) (fun j hj => by have := Option.some.inj hj; subst this; have h1 := (World.ownsRow.lt HS6.out.n gn rfl).1; have h2 := HB2.out.size; show w.heap.size ≤ gn; omega)).setCell (p := ⟨TB, 3, none⟩) (by have := HS6.out.d; have := HB2.out.size; show w.heap.size ≤ TB; omega) _)
    rw [← hn2] at HLF3 HT3
    have HA3 := hid (HS8.out.ask HO.out HLF3.out (HTA.out W8 HB8.out).1 (HTA.out W8 HB8.out).2)
    rw [← HT3.out, HN2.out] at HA3
    have ht8 := HS8.out.t
    have hl8 := HS8.out.l
    rw [HN2.out] at ht8
    unfold ltrCs at hl8
    have HT8 := hid ht8
    have HL8 := hid hl8
    have HWE8 := hid hW8
    clear hown7 hgrow hat ht7 hW8 hn2 ht8 hl8 c0 c1 c2 c3 c4 c5 c6 c7
    go_upto_region 8 with fail
    rw [← HWE8.out]
    obtain ⟨c0, c1, c2, c3, c4, c5, c6, c7⟩ := bx8 HT8.out
    obtain ⟨d0, d1, d2, d3, d4⟩ := bx5 HL8.out
    clear u0 u1 u2 u3 u4 u5 u6 u7 v0 v1 v2 v3 v4 v5 v6 v7
    go_wp2_with fail
    refine HA3.out.mono ?_
    rintro e w9 ⟨rfl, hb9⟩
    have HB9 := hid (HB8.out.trans (hb9.mono HB8.out.size))
    have hl9 := tl_low hb9 HL8.out
    clear c0 c1 c2 c3 c4 c5 c6 c7 d0 d1 d2 d3 d4 hb9 HA3
    obtain ⟨d0, d1, d2, d3, d4⟩ := bx5 hl9
    have hlb9 : LB < w9.heap.size := (Array.getElem?_eq_some_iff.1 hl9).1
    have hlb10 : LB < w9.heap.size + 1 := by omega
    obtain ⟨W10, hW10⟩ : ∃ W10, W10 = (w9.alloc (.cells #[.string ⟨#[116, 111]⟩] 9)).alloc (.cells #[.string ⟨#[64]⟩] 9) := ⟨_, rfl⟩
    have HB10 := hid (show Below w9.heap.size w9 W10 from by rw [hW10]; exact ((Below.refl _ _).alloc (Nat.le_refl _) _).alloc (by simp) _)
    have hbw := HB9.out.trans (HB10.out.mono HB9.out.size)
    have HA4 := hid (show Calls Tryz.prog 7 #[.agg #[.int .i64 8, .int .i64 2, .int .i64 1, .slice (some ⟨w9.heap.size, 0, none⟩) 1 1, .slice (some ⟨w9.heap.size + 1, 0, none⟩) 1 1, .bool false, .int .i64 0, .slice none 0 0], .agg #[.string (S o.fl), .string (S o.fd), .string (S o.tl), .string (S o.td), .string (S o.tx)]] W10 (fun e w' => e = .returned (.tuple #[.bool (tellsP o 1 sureT), .int .i64 0]) ∧ Below W10.heap.size W10 w') from
      ask_leaf o HO.out sureT sure_leaf _ _ none 1 1 0 W10 (HTA.out W10 hbw).1 (HTA.out W10 hbw).2 (rowM_one (t := 9) (fr := (0, 0)) (cs := [.string (S [116, 111])]) (by rw [hW10]; exact heap_old _ (heap_at _ rfl)) rfl trivial rfl) (rowM_one (t := 9) (fr := (0, 0)) (cs := [.string (S [64])]) (by rw [hW10]; exact heap_at _ (by simp)) rfl trivial rfl))
    rw [sure_tells HO.out] at HA4
    have HBW := hid hbw
    have HWE10 := hid hW10
    clear hl9 hbw hW10
    go_wp2_with fail
    rw [← HWE10.out]
    refine HA4.out.mono ?_
    rintro e w11 ⟨rfl, hb11⟩
    have HF := hid (HBW.out.trans (hb11.mono HBW.out.size))
    clear hb11
    rcases HCS.out with ⟨rfl, rfl⟩ | ⟨rfl, rfl, rfl⟩ | ⟨rfl, rfl, rfl⟩
    all_goals
      go_wp2
      go_ret
      exact ⟨rfl, HF.out⟩
end Go.Proofs.YtkciflocpelhiaaGreatDoor
