/-
  Bytes in memory: how they are read, rows of bytes that a call has made, and bytes put behind them. No function of the program is named here.
  Tapes: which may be, copies of bytes, Sync and Crash: the walks.
-/
import Derived.Test.YtkkkbggbeihbnaaDoorRows
import Derived.Test.YtkkkbggbeihbnaaDoorTxt
import Derived.WalkKit
import Derived.Laws.AppendOwn
import Derived.Laws.IdiomStrings
import Derived.Laws.BytesArg
import Derived.Lib.AppendStr
import Derived.Deep.AppendLies
import Derived.Deep.QuietTactic
import Derived.BigQuiet
import Derived.Lib.SliceRun
import Derived.OwnWalk
import Derived.Deep.RegionHeld3
import Derived.Deep.RegionLaw
import Derived.Deep.DeepCutAuto
namespace Go.Proofs.YtkkkbggbeihbnaaDoor
open Go.RowKit Go.Proofs

theorem bhid {p : Prop} (h : p) : Hid p := h
theorem binfo_parts {P : Program} {t : TypeId} {z : Value} {s b : Nat} (h : (P.info? t).map (fun i => (i.zero, i.size, i.bytes)) = some (some z, s, b)) : ∃ i, P.info? t = some i ∧ i.zero = some z ∧ i.size = s ∧ i.bytes = b := by
  cases hi : P.info? t with
  | none => rw [hi] at h; cases h
  | some i =>
    rw [hi] at h
    simp only [Option.map_some, Option.some.injEq, Prod.mk.injEq] at h
    exact ⟨i, rfl, h.1, h.2.1, h.2.2⟩
theorem infoBy : (Tryd.prog.info? 5).map (fun i => (i.zero, i.size, i.bytes)) = some (some (.int .u8 0), 1, 1) := by kernel_rfl
def byC (l : List UInt8) : List Value := l.map fun c => .int .u8 c.toNat
theorem byC_app (l r : List UInt8) : byC (l ++ r) = byC l ++ byC r := List.map_append
theorem byC_len (l : List UInt8) : (byC l).length = l.length := List.length_map _
theorem byC_one (l : List UInt8) : ∀ u ∈ byC l, u.oneCell' = true := by
  intro u hu
  obtain ⟨c, _, rfl⟩ := List.mem_map.1 hu
  rfl
theorem byC_str (l : List UInt8) : Lib.strCells (S l) = byC l := by
  unfold Lib.strCells byC
  rw [show (S l).data.toList = l from list_S l]
/-- Bytes that can be read, in blocks that Q lets. -/
def BysM (Q : Nat → Prop) (w : World) (v : Value) (l : List UInt8) : Prop :=
  ∃ a c, v = .slice a l.length c ∧ l.length ≤ c ∧ l.length ≤ maxLen ∧ ∀ (j : Nat) (x : UInt8), l[j]? = some x → ∃ b o, a = some ⟨b, o, none⟩ ∧ Q b ∧ w.cell? ⟨b, o + j, none⟩ = some (.int .u8 x.toNat)
theorem BysM.nil (Q : Nat → Prop) (w : World) (a : Option Addr) (c : Nat) : BysM Q w (.slice a 0 c) [] := ⟨a, c, rfl, Nat.zero_le _, Nat.zero_le _, fun j x h => by simp at h⟩
theorem BysM.imp {Q Q' : Nat → Prop} {w w' : World} {v : Value} {l : List UInt8} (h : BysM Q w v l) (hq : ∀ b, Q b → Q' b) (hk : ∀ b, b < w.heap.size → Q b → w'.heap[b]? = w.heap[b]?) : BysM Q' w' v l := by
  obtain ⟨a, c, h1, h2, h3, h4⟩ := h
  refine ⟨a, c, h1, h2, h3, fun j x hx => ?_⟩
  obtain ⟨b, o, e, q, hc⟩ := h4 j x hx
  exact ⟨b, o, e, hq b q, (World.cell?_of_block (w := w) (hk b (World.block_lt_of_cell? w _ hc) q)).trans hc⟩
theorem BysM.next {Q : Nat → Prop} {w w' : World} {v : Value} {l : List UInt8} (h : BysM Q w v l) (hb : Below w.heap.size w w') : BysM Q w' v l := h.imp (fun _ h => h) fun b hlt _ => hb.block b hlt
theorem BysM.slice {Q : Nat → Prop} {w : World} {v : Value} {l : List UInt8} (h : BysM Q w v l) : ∃ a c, v = .slice a l.length c ∧ l.length ≤ c ∧ l.length ≤ maxLen := by
  obtain ⟨a, c, h1, h2, h3, _⟩ := h; exact ⟨a, c, h1, h2, h3⟩
theorem BysM.at {Q : Nat → Prop} {w : World} {a : Option Addr} {n c : Nat} {l : List UInt8} (h : BysM Q w (.slice a n c) l) {j : Nat} {x : UInt8} (hx : l[j]? = some x) : ∃ b o, a = some ⟨b, o, none⟩ ∧ Q b ∧ w.cell? ⟨b, o + j, none⟩ = some (.int .u8 x.toNat) := by
  obtain ⟨a', c', h1, _, _, h4⟩ := h
  simp only [Value.slice.injEq] at h1
  obtain ⟨rfl, _, rfl⟩ := h1
  exact h4 j x hx
theorem BysM.take {Q : Nat → Prop} {w : World} {a : Option Addr} {n c : Nat} {l : List UInt8} (h : BysM Q w (.slice a n c) l) {k : Nat} (hk : k ≤ l.length) : BysM Q w (.slice a k c) (l.take k) := by
  obtain ⟨a', c', h1, h2, h3, h4⟩ := h
  simp only [Value.slice.injEq] at h1
  obtain ⟨rfl, _, rfl⟩ := h1
  have hl : (l.take k).length = k := by rw [List.length_take]; omega
  refine ⟨a, c, by rw [hl], by omega, by omega, fun j x hx => ?_⟩
  have hj : j < k := by have := (List.getElem?_eq_some_iff.1 hx).1; omega
  exact h4 j x (by rw [List.getElem?_take_of_lt hj] at hx; exact hx)
theorem BysM.drop {Q : Nat → Prop} {w : World} {a : Addr} {n c : Nat} {l : List UInt8} (h : BysM Q w (.slice (some a) n c) l) {k : Nat} (hk : k ≤ l.length) : BysM Q w (.slice (some (a.add k)) (l.length - k) (c - k)) (l.drop k) := by
  obtain ⟨a', c', h1, h2, h3, h4⟩ := h
  simp only [Value.slice.injEq] at h1
  obtain ⟨rfl, _, rfl⟩ := h1
  have hl : (l.drop k).length = l.length - k := by simp
  refine ⟨_, _, by rw [hl], by omega, by omega, fun j x hx => ?_⟩
  rw [List.getElem?_drop] at hx
  obtain ⟨b, o, e, q, hc⟩ := h4 _ x hx
  simp only [Option.some.injEq] at e
  subst e
  exact ⟨b, o + k, by rw [Addr.add_lit], q, by rw [Nat.add_assoc]; exact hc⟩
/-- What is owned can be read. -/
theorem own_by {B n : Nat} {w : World} {v : Value} {l : List UInt8} {Q : Nat → Prop} (h : w.ownsRow B 5 1 v n (byC l)) (hn : n = l.length) (hm : n ≤ maxLen) (hQ : ∀ g, v.ownBlock = some g → Q g) : BysM Q w v l := by
  subst hn
  rcases h.2 with ⟨rfl, h0⟩ | ⟨g, cap, cur, rfl, hb, hg, h1, h2, h3, ht⟩
  · have : l = [] := List.length_eq_zero_iff.1 h0
    subst this
    exact BysM.nil _ _ _ _
  · refine ⟨some ⟨g, 0, none⟩, cap, rfl, h1, hm, fun j x hx => ⟨g, 0, rfl, hQ g rfl, ?_⟩⟩
    have := World.ownsRow.cells h (g := g) rfl j (.int .u8 x.toNat) (by unfold byC; rw [List.getElem?_map, hx]; rfl)
    rw [Addr.add_lit] at this
    exact this
theorem bk_slice {B n k : Nat} {e : TypeId} {w : World} {v : Value} {xs : List Value} (h : w.ownsRow B e k v n xs) : ∃ a c, v = .slice a n c ∧ n ≤ c := by
  rcases h.2 with ⟨rfl, h0⟩ | ⟨g, cap, cur, rfl, hb, hg, h1, _⟩
  · exact ⟨none, 0, by rw [h0], by omega⟩
  · exact ⟨_, _, rfl, h1⟩
/-- Bytes turned to a text. -/
theorem by_text {Q : Nat → Prop} {w : World} {a : Option Addr} {n c : Nat} {l : List UInt8} (h : BysM Q w (.slice a n c) l) : (convert 39 9 (.slice a n c)).run Tryd.prog w = .ok (.string (S l)) w := by
  obtain ⟨a', c', h1, h2, h3, h4⟩ := h
  simp only [Value.slice.injEq] at h1
  obtain ⟨rfl, rfl, rfl⟩ := h1
  cases a with
  | none =>
    have : l = [] := by
      cases l with
      | nil => rfl
      | cons x l => obtain ⟨b, o, e, _⟩ := h4 0 x rfl; cases e
    subst this
    exact run_convert_bytes_nil (P := Tryd.prog) w 39 5 Tryd.underlying39 Tryd.underlying5 0 c 9 Tryd.underlying9
  | some a =>
    exact run_convert_bytes_back (P := Tryd.prog) w 39 9 5 a c l Tryd.underlying39 Tryd.underlying5 Tryd.underlying9 (fun j hj => by
      obtain ⟨b, o, e, _, hc⟩ := h4 j l[j] (List.getElem?_eq_getElem hj)
      cases e
      rw [Addr.add_lit]
      exact hc)
/-- Bytes behind a row that is owned, wherever they lie. -/
theorem run_app_by {Q : Nat → Prop} {base n m c : Nat} {ty : TypeId} {w : World} {v : Value} {xs : List Value} {a : Option Addr} {l : List UInt8} (hown : w.ownsRow base 5 1 v n xs) (hs : BysM Q w (.slice a m c) l)
    (h63 : n + m ≤ maxLen) (hbytes : n + m ≤ 140737488355328) (hbase : base ≤ w.heap.size) :
    ∃ v' w', (Builtin.append_ #[39, 39] ty #[v, .slice a m c]).run Tryd.prog w = .ok v' w' ∧ w'.ownsRow base 5 1 v' (n + m) (xs ++ byC l) ∧ w.grownBy w' v.ownBlock ∧ (∀ k, v'.ownBlock = some k → v.ownBlock = some k ∨ w.heap.size ≤ k) := by
  obtain ⟨i0, hi, hz0, hz1, hz2⟩ := binfo_parts infoBy
  obtain ⟨a', c', h1, h2, h3, h4⟩ := hs
  simp only [Value.slice.injEq] at h1
  obtain ⟨rfl, rfl, rfl⟩ := h1
  cases a with
  | none =>
    have : l = [] := by
      cases l with
      | nil => rfl
      | cons x l => obtain ⟨b, o, e, _⟩ := h4 0 x rfl; cases e
    subst this
    refine ⟨v, w, ?_, by simpa [byC] using hown, ⟨rfl, rfl, rfl, Nat.le_refl _, fun _ _ _ => rfl⟩, fun k hk => .inl hk⟩
    rcases hown.2 with ⟨rfl, rfl⟩ | ⟨g, cap, cur, rfl, hbg, hg, hnc, hcm, hcs, htake⟩
    · simp [Builtin.append_, run_underlying Tryd.underlying39, sizeOf, typeInfo, hi, Builtin.lenOf, Builtin.firstCells]
    · simp [Builtin.append_, run_underlying Tryd.underlying39, sizeOf, typeInfo, hi, Builtin.lenOf, Builtin.firstCells, storeCells, hnc]
  | some a =>
    by_cases h0 : l.length = 0
    · have : l = [] := List.length_eq_zero_iff.1 h0
      subst this
      refine ⟨v, w, ?_, by simpa [byC] using hown, ⟨rfl, rfl, rfl, Nat.le_refl _, fun _ _ _ => rfl⟩, fun k hk => .inl hk⟩
      rcases hown.2 with ⟨rfl, rfl⟩ | ⟨g, cap, cur, rfl, hbg, hg, hnc, hcm, hcs, htake⟩
      · simp [Builtin.append_, run_underlying Tryd.underlying39, sizeOf, typeInfo, hi, Builtin.lenOf, Builtin.firstCells, loadCells, loadCellsFrom]
      · simp [Builtin.append_, run_underlying Tryd.underlying39, sizeOf, typeInfo, hi, Builtin.lenOf, Builtin.firstCells, loadCells, loadCellsFrom, storeCells, hnc]
    · obtain ⟨g, cap, w', hr, q1, q2, q3, _⟩ := run_append_lies (P := Tryd.prog) w 39 ty base 5 i0 (.int .u8 0) 1 1 Tryd.underlying39 hi hz0 hz1 hz2 rfl (by decide) v n xs hown a l.length c (byC l) (by rw [byC_len]; omega) (fun j u hj => by
        unfold byC at hj
        rw [List.getElem?_map] at hj
        cases hx : l[j]? with
        | none => rw [hx] at hj; cases hj
        | some x =>
          rw [hx] at hj
          simp only [Option.map_some, Option.some.injEq] at hj
          subst hj
          obtain ⟨b, o, e, _, hc⟩ := h4 j x hx
          cases e
          rw [Addr.add_lit]
          exact hc) (byC_one l) (by omega) h63 (by omega) hbase w.heap.size rfl
      refine ⟨_, w', hr, q1, q2, fun k hk => ?_⟩
      simp only [Value.ownBlock, Option.some.injEq] at hk
      subst hk
      rcases q3 with q | q
      · exact .inl q
      · exact .inr (by omega)
theorem wpList_app_by {Q0 : Nat → Prop} {base n m c : Nat} {w : World} {v : Value} {xs : List Value} {ad : Option Addr} {l : List UInt8} {ops : Array Oper} {rest : List Oper} {o : Oper} {a : Act} {Q : Exit → Act → World → Prop} (hgd : o.guard = none) (s x : Operand)
    (ho : o.op = .call { callee := .builtin .append, args := #[s, x], argTypes := #[39, 39] }) (hs : a.eval s = v) (hown : w.ownsRow base 5 1 v n xs) (hx : a.eval x = .slice ad m c) (hsrc : BysM Q0 w (.slice ad m c) l)
    (h63 : n + m ≤ maxLen) (hbytes : n + m ≤ 140737488355328) (hbase : base ≤ w.heap.size)
    (h : ∀ a' c' w', w'.ownsRow base 5 1 (.slice a' (n + m) c') (n + m) (xs ++ byC l) → w.grownBy w' v.ownBlock → (∀ k, (Value.slice a' (n + m) c').ownBlock = some k → v.ownBlock = some k ∨ w.heap.size ≤ k) → wpList Tryd.prog ops Q rest (a.put o.dst (.slice a' (n + m) c')) w') : wpList Tryd.prog ops Q (o :: rest) a w := by
  refine wpList_plain hgd fun K hK => ?_
  obtain ⟨v', w', hr, h2, h3, h4⟩ := run_app_by (ty := o.type) hown hsrc h63 hbytes hbase
  obtain ⟨a', c', rfl, _⟩ := bk_slice h2
  unfold Oper.wp execOp
  simp only [ho, resolve, invoke, builtin, Sem.run_bind, Sem.run_pure, Result.andThen_ok, List.map_toArray, List.map_cons, List.map_nil, hs, hx, hr]
  exact hK _ _ (h a' c' w' h2 h3 h4)
theorem step_app_by {Q0 : Nat → Prop} {base n m c : Nat} {w : World} {v : Value} {xs : List Value} {ad : Option Addr} {l : List UInt8} {ops : Array Oper} {o : Oper} {a : Act} {K : Act → World → Prop} {Q : Exit → Act → World → Prop} {E : Prop} (hgd : o.guard = none) (s x : Operand)
    (ho : o.op = .call { callee := .builtin .append, args := #[s, x], argTypes := #[39, 39] }) (hs : a.eval s = v) (hown : w.ownsRow base 5 1 v n xs) (hx : a.eval x = .slice ad m c) (hsrc : BysM Q0 w (.slice ad m c) l)
    (h63 : n + m ≤ maxLen) (hbytes : n + m ≤ 140737488355328) (hbase : base ≤ w.heap.size)
    (h : ∀ a' c' w', w'.ownsRow base 5 1 (.slice a' (n + m) c') (n + m) (xs ++ byC l) → w.grownBy w' v.ownBlock → (∀ k, (Value.slice a' (n + m) c').ownBlock = some k → v.ownBlock = some k ∨ w.heap.size ≤ k) → K (a.put o.dst (.slice a' (n + m) c')) w') :
    if Region.wanted o (yielded ops a.tmps) = true then Oper.wp Tryd.prog o a w K Q else E := by
  have hw : Region.wanted o (yielded ops a.tmps) = true := by simp [Region.wanted, hgd]
  rw [if_pos hw]
  obtain ⟨v', w', hr, h2, h3, h4⟩ := run_app_by (ty := o.type) hown hsrc h63 hbytes hbase
  obtain ⟨a', c', rfl, _⟩ := bk_slice h2
  unfold Oper.wp execOp
  simp only [ho, resolve, invoke, builtin, Sem.run_bind, Sem.run_pure, Result.andThen_ok, List.map_toArray, List.map_cons, List.map_nil, hs, hx, hr]
  exact h a' c' w' h2 h3 h4
theorem run_app_str {base n : Nat} {ty : TypeId} {w : World} {v : Value} {xs : List Value} {l : List UInt8} (hown : w.ownsRow base 5 1 v n xs)
    (h63 : n + l.length ≤ maxLen) (hbytes : n + l.length ≤ 140737488355328) (hbase : base ≤ w.heap.size) :
    ∃ v' w', (Builtin.append_ #[39, 9] ty #[v, .string (S l)]).run Tryd.prog w = .ok v' w' ∧ w'.ownsRow base 5 1 v' (n + l.length) (xs ++ byC l) ∧ w.grownBy w' v.ownBlock ∧ (∀ k, v'.ownBlock = some k → v.ownBlock = some k ∨ w.heap.size ≤ k) := by
  obtain ⟨i0, hi, hz0, hz1, hz2⟩ := binfo_parts infoBy
  obtain ⟨v', w', hr, h2, h3, h4⟩ := Lib.run_append_own_string (P := Tryd.prog) w base 39 9 ty 5 i0 Tryd.underlying39 Tryd.underlying9 hi hz0 hz1 hz2 v n xs hown (S l) (by rw [size_S]; exact h63) (by rw [size_S]; exact hbytes) hbase
  rw [size_S, byC_str] at h2
  rw [size_S] at h4
  refine ⟨v', w', hr, h2, h3, fun k hk => ?_⟩
  have hsmall : n + l.length ≤ 9223372036854775807 := by simp only [maxLen] at h63; omega
  rcases hown.2 with ⟨rfl, rfl⟩ | ⟨g, cap, cur, rfl, hbg, hg, hnc, hcm, hcs, htake⟩
  · by_cases hm : l.length = 0
    · rw [h4.2 ⟨rfl, hm⟩] at hk; cases hk
    · have hr2 := run_append_nil_string (P := Tryd.prog) w 39 9 ty 5 i0 (.int .u8 0) Tryd.underlying39 Tryd.underlying9 hi hz0 (S l) (by rw [size_S]; omega) (by rw [size_S]; omega) (by rw [hz2, size_S]; omega)
      rw [hr2] at hr
      simp only [Result.ok.injEq] at hr
      rw [← hr.1] at hk
      cases hk
      exact .inr (Nat.le_refl _)
  · by_cases hroom : n + l.length ≤ cap
    · have hcs' : cur.size = cap := by simpa using hcs
      have hr2 := Lib.run_append_room_string (P := Tryd.prog) w 39 9 ty 5 i0 Tryd.underlying39 Tryd.underlying9 hi hz1 g n cap cur hg (S l) (by rw [size_S]; exact hroom) (by rw [size_S]; omega)
      rw [hr2] at hr
      simp only [Result.ok.injEq] at hr
      rw [← hr.1] at hk
      exact .inl hk
    · have holds : ∀ j u, xs[j]? = some u → w.cell? ((⟨g, 0, none⟩ : Addr).add j) = some u := hown.cells (g := g) rfl
      have hr2 := Lib.run_append_grow_string (P := Tryd.prog) w 39 9 ty 5 i0 (.int .u8 0) Tryd.underlying39 Tryd.underlying9 hi hz0 ⟨g, 0, none⟩ n cap xs (by rw [hz1]; exact hown.1) holds (S l) (by rw [size_S]; omega) (by rw [size_S]; omega) (by rw [hz2, size_S]; exact growslice_fits (by omega) (by omega))
      rw [hr2] at hr
      simp only [Result.ok.injEq] at hr
      rw [← hr.1] at hk
      cases hk
      exact .inr (Nat.le_refl _)
theorem wpList_app_str {base n : Nat} {w : World} {v : Value} {xs : List Value} {l : List UInt8} {ops : Array Oper} {rest : List Oper} {o : Oper} {a : Act} {Q : Exit → Act → World → Prop} (hgd : o.guard = none) (s x : Operand)
    (ho : o.op = .call { callee := .builtin .append, args := #[s, x], argTypes := #[39, 9] }) (hs : a.eval s = v) (hown : w.ownsRow base 5 1 v n xs) (hx : a.eval x = .string (S l))
    (h63 : n + l.length ≤ maxLen) (hbytes : n + l.length ≤ 140737488355328) (hbase : base ≤ w.heap.size)
    (h : ∀ a' c' w', w'.ownsRow base 5 1 (.slice a' (n + l.length) c') (n + l.length) (xs ++ byC l) → w.grownBy w' v.ownBlock → (∀ k, (Value.slice a' (n + l.length) c').ownBlock = some k → v.ownBlock = some k ∨ w.heap.size ≤ k) → wpList Tryd.prog ops Q rest (a.put o.dst (.slice a' (n + l.length) c')) w') : wpList Tryd.prog ops Q (o :: rest) a w := by
  refine wpList_plain hgd fun K hK => ?_
  obtain ⟨v', w', hr, h2, h3, h4⟩ := run_app_str (ty := o.type) hown h63 hbytes hbase
  obtain ⟨a', c', rfl, _⟩ := bk_slice h2
  unfold Oper.wp execOp
  simp only [ho, resolve, invoke, builtin, Sem.run_bind, Sem.run_pure, Result.andThen_ok, List.map_toArray, List.map_cons, List.map_nil, hs, hx, hr]
  exact hK _ _ (h a' c' w' h2 h3 h4)
/- Boxes. -/
theorem bk_low {w w' : World} {p : Nat} {o : Obj} (hb : Below w.heap.size w w') (h : w.heap[p]? = some o) : w'.heap[p]? = some o := (hb.block p (Array.getElem?_eq_some_iff.1 h).1).trans h
theorem bk_box2 {w : World} {p : Nat} {v0 v1 : Value} {t : TypeId} (h : w.heap[p]? = some (.cells #[v0, v1] t)) : w.cell? ⟨p, 0, none⟩ = some v0 ∧ w.cell? ⟨p, 1, none⟩ = some v1 ∧ w.frozen? ⟨p, 0, none⟩ = false ∧ w.frozen? ⟨p, 1, none⟩ = false := by
  refine ⟨?_, ?_, ?_, ?_⟩ <;> simp [World.cell?, World.frozen?, h]
theorem bk_put0 {w : World} {p : Nat} {v0 v1 u : Value} {t : TypeId} (h : w.heap[p]? = some (.cells #[v0, v1] t)) : (w.setCell ⟨p, 0, none⟩ u).heap[p]? = some (.cells #[u, v1] t) := by
  have := heap_setCell_same w p 0 #[v0, v1] t u h
  simpa using this
theorem bk_put1 {w : World} {p : Nat} {v0 v1 u : Value} {t : TypeId} (h : w.heap[p]? = some (.cells #[v0, v1] t)) : (w.setCell ⟨p, 1, none⟩ u).heap[p]? = some (.cells #[v0, u] t) := by
  have := heap_setCell_same w p 1 #[v0, v1] t u h
  simpa using this
theorem bk_put {w : World} {p : Nat} {v0 v1 u0 u1 : Value} {t : TypeId} (h : w.heap[p]? = some (.cells #[v0, v1] t)) : ((w.setCell ⟨p, 0, none⟩ u0).setCell ⟨p, 1, none⟩ u1).heap[p]? = some (.cells #[u0, u1] t) := bk_put1 (bk_put0 h)
theorem bk_other {w : World} {g j k : Nat} {u : Value} (h : k ≠ g) : (w.setCell ⟨g, j, none⟩ u).heap[k]? = w.heap[k]? := Below.heap_setCell _ _ _ _ h
theorem bk_keep {w w' : World} {B n k : Nat} {e : TypeId} {v : Value} {xs : List Value} (h : w.ownsRow B e k v n xs) (hk : ∀ g, v.ownBlock = some g → w'.heap[g]? = w.heap[g]?) : w'.ownsRow B e k v n xs := by
  refine ⟨h.1, ?_⟩
  rcases h.2 with hn | ⟨g, cap, cur, rfl, hb, hgg, rest⟩
  · exact .inl hn
  · exact .inr ⟨g, cap, cur, rfl, hb, (hk g rfl).trans hgg, rest⟩
theorem bk_base {w : World} {B B' n k : Nat} {e : TypeId} {v : Value} {xs : List Value} (h : w.ownsRow B e k v n xs) (hB : B' ≤ B) : w.ownsRow B' e k v n xs := by
  refine ⟨h.1, ?_⟩
  rcases h.2 with hn | ⟨g, cap, cur, rfl, hb, hgg, rest⟩
  · exact .inl hn
  · exact .inr ⟨g, cap, cur, rfl, by omega, hgg, rest⟩
end Go.Proofs.YtkkkbggbeihbnaaDoor

namespace Go.Proofs.YtkkkbggbeihbnaaDoor
open Go.RowKit Go.Proofs

/- P10.1. -/
def mayN (n : Nat) (s : Int) : Bool := decide (n ≤ 100000) && (decide (0 ≤ s) && decide (s ≤ n))
def TpC (w : World) (l : List UInt8) (e : Ending) (w' : World) : Prop := ∃ a c, e = .returned (.slice a l.length c) ∧ w'.ownsRow w.heap.size 5 1 (.slice a l.length c) l.length (byC l) ∧ Below w.heap.size w w'
/-- A tape of the call's own, and an error. -/
def TpP (w : World) (l : List UInt8) (s er : Int) (e : Ending) (w' : World) : Prop := ∃ a c, e = .returned (.tuple #[.agg #[.slice a l.length c, .int .i64 s], .int .i64 er]) ∧ w'.ownsRow w.heap.size 5 1 (.slice a l.length c) l.length (byC l) ∧ Below w.heap.size w w'
set_option maxHeartbeats 1000000 in
theorem tmay_any (a : Option Addr) (n c : Nat) (s : Int) (w : World) :
    Calls Tryd.prog 33 #[.agg #[.slice a n c, .int .i64 s]] w fun e w' => e = .returned (.bool (mayN n s)) ∧ Below w.heap.size w w' := by
  have HB := bhid ((Below.refl w.heap.size w).alloc (Nat.le_refl _) (.cells #[.slice a n c, .int .i64 s] 49))
  obtain ⟨r, hr⟩ : ∃ r, r = mayN n s := ⟨_, rfl⟩
  have HR := bhid hr
  rw [← hr]
  clear hr
  go_enter Tryd.func33, Tryd.ntmps33
  go_wp2
  all_goals
    go_ret
    refine ⟨?_, HB.out⟩
    rw [HR.out]
    unfold mayN
    simp [*]
    try omega
set_option maxHeartbeats 1000000 in
set_option maxRecDepth 100000 in
theorem clone_by (a : Option Addr) (c : Nat) (l : List UInt8) (Q : Nat → Prop) (w : World) (h : BysM Q w (.slice a l.length c) l) (hl : l.length ≤ 140737488355328) :
    Calls Tryd.prog 34 #[.slice a l.length c] w (TpC w l) := by
  have q22 : ∀ (w : World) (a : Option Addr) (n c n' c' : Nat), (binOp .eql 39 (.slice a n c) (.slice none n' c')).run Tryd.prog w = .ok (.bool a.isNone) w := fun w a n c n' c' => Lib.run_eql_slice_nil w _ _ a n c n' c' Tryd.underlying39
  have hm : l.length ≤ maxLen := h.slice.elim fun _ h => h.elim fun _ h => h.2.2
  have HH := bhid h
  cases a with
  | none =>
    have h0 : l = [] := by
      cases l with
      | nil => rfl
      | cons x l => obtain ⟨b, o, e, _⟩ := h.at (j := 0) (x := x) rfl; cases e
    subst h0
    have HE := bhid (show TpC w [] (.returned (.slice none 0 0)) w from ⟨none, 0, rfl, World.ownsRow_nil _ _ _ _, Below.refl _ _⟩)
    clear h hl hm HH
    go_enter Tryd.func34, Tryd.ntmps34
    go_wp2
    go_ret
    exact HE.out
  | some ad =>
    clear h
    go_enter Tryd.func34, Tryd.ntmps34
    go_wp2_with (at_builtin; refine wpList_app_by rfl _ _ rfl rfl (World.ownsRow_made w #[] 0 (Nat.le_refl _) (Nat.zero_le _) rfl) rfl (HH.out.next ((Below.refl _ _).alloc (Nat.le_refl _) _)) ?qc1 ?qc2 ?qc3 ?_)
    case qc1 => omega
    case qc2 => omega
    case qc3 => simp
    intro a' c' w1 hown hgrow hat
    have HO := bhid hown
    have HB := bhid (show Below w.heap.size w w1 from ((Below.refl _ w).alloc (Nat.le_refl _) _).grown hgrow (by simp) (by intro k hk; simp [Value.ownBlock] at hk; omega))
    clear hown hgrow hat
    have HE := bhid (show TpC w l (.returned (.slice a' (0 + l.length) c')) w1 by
      have h1 := HO.out
      simp only [Nat.zero_add] at h1 ⊢
      exact ⟨a', c', rfl, h1, HB.out⟩)
    go_wp2
    go_ret
    simpa using HE.out
theorem tp_new2 (w : World) (o1 o2 : Obj) : ((w.alloc o1).alloc o2).heap[w.heap.size]? = some o1 ∧ ((w.alloc o1).alloc o2).heap[w.heap.size + 1]? = some o2 := by
  constructor
  · have := Below.heap_alloc (w.alloc o1) o2 w.heap.size (by simp)
    rw [this]
    exact heap_alloc_new w o1
  · have := heap_alloc_new (w.alloc o1) o2
    simpa using this
theorem tp_low2 (w : World) (o1 o2 : Obj) : Below w.heap.size w ((w.alloc o1).alloc o2) := ((Below.refl _ _).alloc (Nat.le_refl _) _).alloc (by simp) _
theorem TpP.refused (w w1 : World) (er : Int) (p : Nat) (hp : w.heap.size ≤ p) (hb : Below w.heap.size w w1) : TpP w [] 0 er (.returned (.tuple #[.agg #[.slice none 0 0, .int .i64 0], .int .i64 er])) ((w1.setCell ⟨p, 0, none⟩ (.slice none 0 0)).setCell ⟨p, 1, none⟩ (.int .i64 0)) :=
  ⟨none, 0, rfl, World.ownsRow_nil _ _ _ _, (hb.setCell hp _).setCell hp _⟩
theorem TpP.done {w w1 w2 : World} {l : List UInt8} {s : Int} {p : Nat} {a : Option Addr} {c : Nat} (hp : w.heap.size ≤ p) (hp1 : p < w1.heap.size) (hb : Below w.heap.size w w1) (h : TpC w1 l (.returned (.slice a l.length c)) w2) : TpP w l s 0 (.returned (.tuple #[.agg #[.slice a l.length c, .int .i64 s], .int .i64 0])) ((w2.setCell ⟨p, 0, none⟩ (.slice a l.length c)).setCell ⟨p, 1, none⟩ (.int .i64 s)) := by
  obtain ⟨a', c', e, hO, hb2⟩ := h
  cases e
  refine ⟨a, c, rfl, ?_, ((hb.trans (hb2.mono hb.size)).setCell hp _).setCell hp _⟩
  refine bk_base (B := w1.heap.size) (bk_keep hO fun g hg => ?_) hb.size
  have := (World.ownsRow.lt hO g hg).1
  exact (bk_other (by omega)).trans (bk_other (by omega))
end Go.Proofs.YtkkkbggbeihbnaaDoor
