/-
  Scripts of flag commands, in memory: what the walk of JudgeFlags stands on.
-/
import Derived.Test.YtcphpnnhopflgaaGreatDoorJudFlg
import Derived.Test.YtcphpnnhopflgaaGreatDoorJudSmA
import Derived.Test.YtcphpnnhopflgaaGreatDoorLtrMsg
import Derived.Test.YtcphpnnhopflgaaGreatDoorAppCmd
import Derived.Test.YtcphpnnhopflgaaGreatDoorReqFm
import Derived.Test.YtcphpnnhopflgaaGreatDoorRulTabs
import Derived.Test.YtcphpnnhopflgaaGreatDoorTokNums
import Derived.Deep.RegionLaw
import Derived.Deep.RegionHeld3
import Derived.Deep.DeepCutAuto
namespace Go.Proofs.YtcphpnnhopflgaaGreatDoor
open Go.RowKit Go.Proofs

theorem own_reqF {B : Nat} {u w' : World} {p : Nat} {v0 v1 v2 v3 v4 v5 v6 v7 v8 v9 v10 v11 : Value} (hC : CmdM (newB B) 2 u reqC [v0, v1, v2, v3, v4, v5, v6, v7, v8, v9, v10, v11]) (hp : u.heap.size ≤ p) (hBp : B ≤ p) (hb : Below u.heap.size u w') (h : w'.heap[p]? = some (.cells #[v0, v1, v2, v3, v4, v5, v6, v7, v8, v9, v10, v11] 40)) : OwnCs B 3 w' (.slice (some ⟨p, 0, none⟩) 1 1) [reqC] :=
  own_one (cs := [v0, v1, v2, v3, v4, v5, v6, v7, v8, v9, v10, v11]) (Q2 := fun b => B ≤ b ∧ b < u.heap.size) h (CmdM.more _ 3 _ _ (by omega) (CmdM.imp (fun b hb => hb) (Keeps.of_below hb) _ _ _ (CmdM.both _ _ _ hC))) (fun b hq => ⟨hq.1, Nat.lt_of_lt_of_le hq.2 hb.size, fun e => by subst e; exact absurd hq.2 (Nat.not_lt.2 hp)⟩) hBp
/-- The names of the flags, in a box. -/
def flgV : Array Value := #[.string ⟨#[92, 83, 101, 101, 110]⟩, .string ⟨#[92, 65, 110, 115, 119, 101, 114, 101, 100]⟩, .string ⟨#[92, 70, 108, 97, 103, 103, 101, 100]⟩, .string ⟨#[92, 68, 101, 108, 101, 116, 101, 100]⟩, .string ⟨#[92, 68, 114, 97, 102, 116]⟩]
theorem flgV_at {w : World} {b : Nat} {t : TypeId} (h : w.heap[b]? = some (.cells flgV t)) {i : Nat} (hi : i < 5) : w.cell? ⟨b, i, none⟩ = some (.string (S (flgA.getD i []))) := by
  have : flgV[i]? = some (.string (S (flgA.getD i []))) := by
    obtain rfl | rfl | rfl | rfl | rfl : i = 0 ∨ i = 1 ∨ i = 2 ∨ i = 3 ∨ i = 4 := by omega
    all_goals rfl
  exact tl_cell h this
/-- A command of one flag, in memory. -/
theorem flg_cmd {Q : Nat → Prop} {w : World} {p i : Nat} {k : Int} (h : w.heap[p]? = some (.cells #[.string (S (flgA.getD i []))] 9)) (hQ : Q p) : CmdM Q 3 w ⟨k, [flgA.getD i []], noneT, [], []⟩ [.int .i64 k, .slice (some ⟨p, 0, none⟩) 1 1, .int .i64 0, .int .i64 0, .int .i64 0, .slice none 0 0, .slice none 0 0, .bool false, .int .i64 0, .slice none 0 0, .slice none 0 0, .slice none 0 0] :=
  ⟨_, _, _, _, _, _, rfl, rowM_one (cs := [.string (S (flgA.getD i []))]) h rfl hQ rfl, none_tst _ _ _, rowM_nil _ _ _ _ _ _, rowM_nil _ _ _ _ _ _⟩
theorem shl_one (i : Nat) (h : i < 5) : Op.shift BinOp.shl IntKind.i64 (1 : Int) IntKind.i64 (i : Int) = pure (.int .i64 ((2 ^ i : Nat) : Int)) := by
  obtain rfl | rfl | rfl | rfl | rfl : i = 0 ∨ i = 1 ∨ i = 2 ∨ i = 3 ∨ i = 4 := by omega
  all_goals rfl
def pks (ns : List Int) (j : Nat) : List Nat := (ns.take j).map fun z => pickN z 10
theorem pks_more {ns : List Int} {j : Nat} {z : Int} (h : ns[j]? = some z) : pks ns (j + 1) = pks ns j ++ [pickN z 10] := by
  unfold pks
  rw [take_some h, List.map_append]
  rfl
theorem pks_len {ns : List Int} {j : Nat} (h : j ≤ ns.length) : (pks ns j).length = j := by unfold pks; simp; omega
theorem pks_lt (ns : List Int) (j : Nat) : ∀ k ∈ pks ns j, k < 10 := by
  intro k hk
  obtain ⟨z, _, rfl⟩ := List.mem_map.1 hk
  exact pickN_lt z 10 (by omega)
theorem flgS_more (ks : List Nat) (k : Nat) : flgS (ks ++ [k]) = flgS ks ++ [flgC k] := by unfold flgS; simp
theorem flgN_more (ks : List Nat) (k : Nat) : flgN (ks ++ [k]) = flgX (flgN ks) k := by unfold flgN; rw [List.foldl_append]; rfl
theorem flgS_len (ks : List Nat) : (flgS ks).length = ks.length + 1 := by unfold flgS; simp
theorem flg_half {k i r : Nat} (hk : k < 10) (hi : i = k / 2) (hr : r = k % 2) : i < 5 ∧ (k : Int).tdiv 2 = (i : Int) ∧ IntKind.i64.wrap (i : Int) = (i : Int) ∧ (k : Int).tmod 2 = (r : Int) ∧ IntKind.i64.wrap (r : Int) = (r : Int) ∧ (0 : Int) ≤ (i : Int) ∧ (i : Int) < 5 ∧ r < 2 := by
  refine ⟨by omega, ?_, ?_, ?_, ?_, by omega, by omega, by omega⟩
  · rw [Int.tdiv_eq_ediv_of_nonneg (by omega)]; omega
  · simp only [IntKind.wrap_i64]; omega
  · rw [Int.tmod_eq_emod_of_nonneg (by omega)]; omega
  · simp only [IntKind.wrap_i64]; omega
theorem flg_or {f i : Nat} (hf : f < 32) (hi : i < 5) : bits BinOp.or IntKind.i64 (f : Int) (wrap64 ((2 : Int) ^ i)) = ((f ||| 2 ^ i : Nat) : Int) := by
  have h : wrap64 ((2 : Int) ^ i) = ((2 ^ i : Nat) : Int) ∧ 2 ^ i < 32 := by
    obtain rfl | rfl | rfl | rfl | rfl : i = 0 ∨ i = 1 ∨ i = 2 ∨ i = 3 ∨ i = 4 := by omega
    all_goals exact ⟨by unfold wrap64; decide, by decide⟩
  rw [h.1]
  exact bits_or hf h.2
end Go.Proofs.YtcphpnnhopflgaaGreatDoor
