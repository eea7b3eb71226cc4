/-
  What glob.pieces and glob.matches do: the walks (a range over a function).
-/
import Derived.RangeFuncNested
import Derived.RangeFuncBound
import Derived.RangeFuncCalls
import Derived.RangeFuncLeaves
import Derived.Shelf.Abstract
import Derived.Shelf.RegionOpen
import Derived.WalkKit
import Derived.OwnWalkIn
import Derived.TacticsInMore
import Derived.LoopNIn
import Derived.LoopIn
import Derived.Test.YtaolohlpdampgaaRows
import Derived.Test.YtaolohlpdampgaaReach
namespace Go.Proofs.Ytaolohlpdampgaa
open Go.RowKit Go.Shelf
attribute [local go_sem] Oper.semAt_some

/-- No block has gone, and block b is as it was. -/
def KeepAt (b : Nat) (W W' : World) : Prop := W.heap.size ≤ W'.heap.size ∧ (b < W.heap.size → W'.heap[b]? = W.heap[b]?)
theorem KeepAt.refl (b : Nat) (W : World) : KeepAt b W W := ⟨Nat.le_refl _, fun _ => rfl⟩
theorem KeepAt.trans {b : Nat} {A B C : World} (h : KeepAt b A B) (k : KeepAt b B C) : KeepAt b A C := ⟨Nat.le_trans h.1 k.1, fun hb => (k.2 (Nat.lt_of_lt_of_le hb h.1)).trans (h.2 hb)⟩
theorem KeepAt.alloc {b : Nat} {A B : World} (h : KeepAt b A B) (o : Obj) : KeepAt b A (B.alloc o) := h.trans ⟨by simp, fun hb => Below.heap_alloc B o b hb⟩
theorem KeepAt.cell {b : Nat} {A B : World} (h : KeepAt b A B) (hb : b < A.heap.size) : B.cell? ⟨b, 0, none⟩ = A.cell? ⟨b, 0, none⟩ := World.cell?_of_block (w := A) (h.2 hb)
theorem KeepAt.put {b : Nat} {w : World} (hb : b < w.heap.size) (W : World) (l : Nat) (o o' : Obj) (hl : w.heap.size ≤ l) (_ : W.heap[l]? = some o) (_ : o.isCells = false) (_ : o.isWalk = false) : KeepAt b W (W.putObj l o') :=
  ⟨(grownBy_putObj' W l o').size, fun hbl => (grownBy_putObj' W l o').block b hbl (fun e => by cases e; omega)⟩

/-- A piece as yield is handed it. -/
def pieceV (x : Piece) : Array Value := #[.agg #[.int .i64 x.1, .int .u8 x.2.toNat]]

set_option maxHeartbeats 1000000 in
/-- glob.pieces: the pattern is boxed; the function value captures the box. -/
theorem pieces_in (F : Fence) (n : Nat) (h5 : F.fn 22) (hro : F.round = none) (p : ByteArray) (w : World) :
    CallsIn F n Try.prog 22 #[.string p] w fun e w' => e = .returned (.func (.func 27) #[] #[.pointer (some ⟨w.heap.size, 0, none⟩)]) ∧ w' = w.alloc (.cells #[.string p] 9) := by
  refine callsIn_of_wp Try.func22 rfl h5 ?_ hro
  simp only [Try.ntmps22, List.size_toArray, List.length_cons, List.length_nil, Nat.reduceAdd, Nat.reduceSub, Array.replicate_succ, Array.replicate_zero, List.push_toArray, List.append_toArray, List.nil_append, List.cons_append]
  gi_wp2
  go_ret
  exact ⟨rfl, rfl⟩

set_option maxRecDepth 100000 in
set_option maxHeartbeats 1000000 in
/-- The iterator: all pieces in their order, or a part of them, a round having said no more. -/
theorem pieces1_in (F : Fence) (n : Nat) (h6 : F.fn 27) (hro : F.round = none) (hn : 1 ≤ n) (l Bn : Nat) (p : ByteArray) (hp : p.size ≤ 1048576) (J Jx : List Piece → World → Prop)
    (W : World) (hBn0 : Bn < W.heap.size) (hJ : AbidesFrom W.heap.size J)
    (hY : ∀ pre x W, J pre W → pre.length < (piecesL p.data.toList).length → YieldAt F (n - 1) Try.prog l (pieceV x) W fun e W' =>
      (e = .returned (.bool true) ∧ J (pre ++ [x]) W' ∧ KeepAt Bn W W') ∨ (e = .returned (.bool false) ∧ Jx (pre ++ [x]) W'))
    (hBn : W.cell? ⟨Bn, 0, none⟩ = some (.string p)) (h0 : J [] W) :
    CallsIn F n Try.prog 27 #[.func (.yield l) #[] #[], .pointer (some ⟨Bn, 0, none⟩)] W fun e W' => (∃ v, e = .returned v) ∧
      ((∃ ys, ys = piecesL p.data.toList ∧ J ys W') ∨ (∃ pre, pre <+: piecesL p.data.toList ∧ Jx pre W')) := by
  refine callsIn_of_wp Try.func27 rfl h6 ?_ hro
  simp only [Try.ntmps27, List.size_toArray, List.length_cons, List.length_nil, Nat.reduceAdd, Nat.reduceSub, Array.replicate_succ, Array.replicate_zero, List.push_toArray, List.append_toArray, List.nil_append, List.cons_append]
  gi_wp2
  gi_loopw [3] (fun i wr => ∃ (k : Nat) (pre : List Piece), i = .int .i64 (k : Int) ∧ k ≤ p.size ∧ piecesL p.data.toList = pre ++ piecesL (p.data.toList.drop k) ∧ KeepAt Bn W wr ∧ J pre wr)
    (fun i _ => p.size - (intOf i).toNat)
  case atStart =>
    exact ⟨0, [], rfl, by omega, by simp, KeepAt.refl _ _, h0⟩
  case round =>
    obtain ⟨k, pre, rfl, hk, hx, hB, hJs⟩ := hrel
    have hBl : Bn < wr.heap.size := Nat.lt_of_lt_of_le hBn0 hB.1
    have hc := (hB.cell hBn0).trans hBn
    by_cases hlt : k < p.size
    · have hd := drop_at p k hlt
      by_cases h42 : ((p[k].toNat : Int) == 42) = true
      · have hxs : piecesL (p.data.toList.drop k) = (2, 0) :: piecesL (p.data.toList.drop (k + 1)) := by rw [hd, byte_eq (d := 42) (by omega) h42]; exact pl_star _
        clear hd
        obtain ⟨fn, tmps, assign, body, hy, hR⟩ := hY pre (2, 0) (wr.alloc (.cells #[.int .i64 2, .int .u8 0] 42)) (hJ _ _ _ none hJs (World.grownBy_alloc _ _ _) (fun r e => by cases e)) (by rw [hx, hxs]; simp)
        replace hy : (Instr.yield l #[.agg #[.int .i64 2, .int .u8 0]]).run Try.prog (wr.alloc (.cells #[.int .i64 2, .int .u8 0] 42)) = _ := hy
        have HX : Hid _ := hxs
        clear hxs hY
        gi_wp2
        refine hR.mono ?_
        rintro e W3 (⟨rfl, hJ3, hk3⟩ | ⟨rfl, hJx3⟩)
        · have hB3 := (hB.alloc (.cells #[.int .i64 2, .int .u8 0] 42)).trans hk3
          gi_wp2
          go_roundw
          case rel => exact ⟨k + 1, pre ++ [(2, 0)], by go_num, by omega, by rw [hx, HX.out]; simp, hB3, hJ3⟩
          case measure => simp [intOf]; omega
        · gi_wp2
          refine bodyPost_ret (results_none rfl _ _ _) rfl ?_
          exact ⟨⟨_, rfl⟩, .inr ⟨pre ++ [(2, 0)], ⟨piecesL (p.data.toList.drop (k + 1)), by rw [hx, HX.out]; simp⟩, hJx3⟩⟩
      · replace h42 : ((p[k].toNat : Int) == 42) = false := by simpa using h42
        by_cases h63 : ((p[k].toNat : Int) == 63) = true
        · have hxs : piecesL (p.data.toList.drop k) = (1, 0) :: piecesL (p.data.toList.drop (k + 1)) := by rw [hd, byte_eq (d := 63) (by omega) h63]; exact pl_any _
          clear hd
          obtain ⟨fn, tmps, assign, body, hy, hR⟩ := hY pre (1, 0) (wr.alloc (.cells #[.int .i64 1, .int .u8 0] 42)) (hJ _ _ _ none hJs (World.grownBy_alloc _ _ _) (fun r e => by cases e)) (by rw [hx, hxs]; simp)
          replace hy : (Instr.yield l #[.agg #[.int .i64 1, .int .u8 0]]).run Try.prog (wr.alloc (.cells #[.int .i64 1, .int .u8 0] 42)) = _ := hy
          have HX : Hid _ := hxs
          clear hxs hY
          gi_wp2
          refine hR.mono ?_
          rintro e W3 (⟨rfl, hJ3, hk3⟩ | ⟨rfl, hJx3⟩)
          · have hB3 := (hB.alloc (.cells #[.int .i64 1, .int .u8 0] 42)).trans hk3
            gi_wp2
            go_roundw
            case rel => exact ⟨k + 1, pre ++ [(1, 0)], by go_num, by omega, by rw [hx, HX.out]; simp, hB3, hJ3⟩
            case measure => simp [intOf]; omega
          · gi_wp2
            refine bodyPost_ret (results_none rfl _ _ _) rfl ?_
            exact ⟨⟨_, rfl⟩, .inr ⟨pre ++ [(1, 0)], ⟨piecesL (p.data.toList.drop (k + 1)), by rw [hx, HX.out]; simp⟩, hJx3⟩⟩
        · replace h63 : ((p[k].toNat : Int) == 63) = false := by simpa using h63
          by_cases h92 : ((p[k].toNat : Int) == 92) = true
          · by_cases hl1 : k + 1 < p.size
            · have hxs : piecesL (p.data.toList.drop k) = (0, p[k + 1]) :: piecesL (p.data.toList.drop (k + 2)) := by rw [hd, byte_eq (d := 92) (by omega) h92, drop_at p (k + 1) hl1]; exact pl_esc _ _
              have hl2 : (k : Int) + 1 < (p.size : Int) := by omega
              clear hd
              obtain ⟨fn, tmps, assign, body, hy, hR⟩ := hY pre (0, p[k + 1]) (wr.alloc (.cells #[.int .i64 0, .int .u8 (p[k + 1].toNat : Int)] 42)) (hJ _ _ _ none hJs (World.grownBy_alloc _ _ _) (fun r e => by cases e)) (by rw [hx, hxs]; simp)
              replace hy : (Instr.yield l #[.agg #[.int .i64 0, .int .u8 (p[k + 1].toNat : Int)]]).run Try.prog (wr.alloc (.cells #[.int .i64 0, .int .u8 (p[k + 1].toNat : Int)] 42)) = _ := hy
              have HX : Hid _ := hxs
              clear hxs hY
              gi_wp2
              refine hR.mono ?_
              rintro e W3 (⟨rfl, hJ3, hk3⟩ | ⟨rfl, hJx3⟩)
              · have hB3 := (hB.alloc (.cells #[.int .i64 0, .int .u8 (p[k + 1].toNat : Int)] 42)).trans hk3
                gi_wp2
                go_roundw
                case rel => exact ⟨k + 2, pre ++ [(0, p[k + 1])], by go_num, by omega, by rw [hx, HX.out]; simp, hB3, hJ3⟩
                case measure => simp [intOf]; omega
              · gi_wp2
                refine bodyPost_ret (results_none rfl _ _ _) rfl ?_
                exact ⟨⟨_, rfl⟩, .inr ⟨pre ++ [(0, p[k + 1])], ⟨piecesL (p.data.toList.drop (k + 2)), by rw [hx, HX.out]; simp⟩, hJx3⟩⟩
            · have hxs : piecesL (p.data.toList.drop k) = (0, p[k]) :: piecesL (p.data.toList.drop (k + 1)) := by rw [hd]; exact pl_byte (byte_ne (d := 42) (by omega) h42) (byte_ne (d := 63) (by omega) h63) (.inr (List.drop_eq_nil_of_le (by rw [size_list]; omega)))
              clear hd
              have hl2 : ¬ (k : Int) + 1 < (p.size : Int) := by omega
              obtain ⟨fn, tmps, assign, body, hy, hR⟩ := hY pre (0, p[k]) (wr.alloc (.cells #[.int .i64 0, .int .u8 (p[k].toNat : Int)] 42)) (hJ _ _ _ none hJs (World.grownBy_alloc _ _ _) (fun r e => by cases e)) (by rw [hx, hxs]; simp)
              replace hy : (Instr.yield l #[.agg #[.int .i64 0, .int .u8 (p[k].toNat : Int)]]).run Try.prog (wr.alloc (.cells #[.int .i64 0, .int .u8 (p[k].toNat : Int)] 42)) = _ := hy
              have HX : Hid _ := hxs
              clear hxs hY
              gi_wp2
              refine hR.mono ?_
              rintro e W3 (⟨rfl, hJ3, hk3⟩ | ⟨rfl, hJx3⟩)
              · have hB3 := (hB.alloc (.cells #[.int .i64 0, .int .u8 (p[k].toNat : Int)] 42)).trans hk3
                gi_wp2
                go_roundw
                case rel => exact ⟨k + 1, pre ++ [(0, p[k])], by go_num, by omega, by rw [hx, HX.out]; simp, hB3, hJ3⟩
                case measure => simp [intOf]; omega
              · gi_wp2
                refine bodyPost_ret (results_none rfl _ _ _) rfl ?_
                exact ⟨⟨_, rfl⟩, .inr ⟨pre ++ [(0, p[k])], ⟨piecesL (p.data.toList.drop (k + 1)), by rw [hx, HX.out]; simp⟩, hJx3⟩⟩
          · replace h92 : ((p[k].toNat : Int) == 92) = false := by simpa using h92
            have hxs : piecesL (p.data.toList.drop k) = (0, p[k]) :: piecesL (p.data.toList.drop (k + 1)) := by rw [hd]; exact pl_byte (byte_ne (d := 42) (by omega) h42) (byte_ne (d := 63) (by omega) h63) (.inl (byte_ne (d := 92) (by omega) h92))
            clear hd
            obtain ⟨fn, tmps, assign, body, hy, hR⟩ := hY pre (0, p[k]) (wr.alloc (.cells #[.int .i64 0, .int .u8 (p[k].toNat : Int)] 42)) (hJ _ _ _ none hJs (World.grownBy_alloc _ _ _) (fun r e => by cases e)) (by rw [hx, hxs]; simp)
            replace hy : (Instr.yield l #[.agg #[.int .i64 0, .int .u8 (p[k].toNat : Int)]]).run Try.prog (wr.alloc (.cells #[.int .i64 0, .int .u8 (p[k].toNat : Int)] 42)) = _ := hy
            have HX : Hid _ := hxs
            clear hxs hY
            gi_wp2
            refine hR.mono ?_
            rintro e W3 (⟨rfl, hJ3, hk3⟩ | ⟨rfl, hJx3⟩)
            · have hB3 := (hB.alloc (.cells #[.int .i64 0, .int .u8 (p[k].toNat : Int)] 42)).trans hk3
              gi_wp2
              go_roundw
              case rel => exact ⟨k + 1, pre ++ [(0, p[k])], by go_num, by omega, by rw [hx, HX.out]; simp, hB3, hJ3⟩
              case measure => simp [intOf]; omega
            · gi_wp2
              refine bodyPost_ret (results_none rfl _ _ _) rfl ?_
              exact ⟨⟨_, rfl⟩, .inr ⟨pre ++ [(0, p[k])], ⟨piecesL (p.data.toList.drop (k + 1)), by rw [hx, HX.out]; simp⟩, hJx3⟩⟩
    · gi_wp2
      go_end0
      exact ⟨⟨_, rfl⟩, .inl ⟨pre, by rw [hx, List.drop_eq_nil_of_le (by rw [size_list]; omega)]; simp [piecesL], hJs⟩⟩
end Go.Proofs.Ytaolohlpdampgaa
