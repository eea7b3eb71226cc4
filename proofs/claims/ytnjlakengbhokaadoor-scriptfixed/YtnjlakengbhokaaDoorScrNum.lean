/-
  What script.numberOf does: the walk.
-/
import Derived.Test.YtnjlakengbhokaaDoorScrMemX
import Derived.Test.YtnjlakengbhokaaDoorScrCk
namespace Go.Proofs.YtnjlakengbhokaaDoor
open Go.RowKit Go.Proofs

set_option maxHeartbeats 8000000 in
set_option maxRecDepth 100000 in
theorem number_any (k : Nat) (hk : k < 4) (s : List UInt8) (w : World) (hw : WordsAt w) :
    Calls Tryd.prog 75 #[.int .i64 k, .string (S s)] w fun e w' => e = .returned (.int .i64 (numberP k s : Nat)) ∧ w' = w := by
  have k4 : (k : Int) < 4 := by omega
  have k0 : (0 : Int) ≤ (k : Int) := by omega
  have q0 := hw k 0 hk (by omega)
  have q1 := hw k 1 hk (by omega)
  have q2 := hw k 2 hk (by omega)
  have q3 := hw k 3 hk (by omega)
  have q4 := hw k 4 hk (by omega)
  have q5 := hw k 5 hk (by omega)
  have q6 := hw k 6 hk (by omega)
  have q7 := hw k 7 hk (by omega)
  have q8 := hw k 8 hk (by omega)
  have q9 := hw k 9 hk (by omega)
  have q10 := hw k 10 hk (by omega)
  have hlen := row_len k hk
  have HN : Hid (numberP k s = numIn ((wTabs.getD k []).drop 0) 0 s) := rfl
  rw [Nat.add_zero] at q0
  go_enter Tryd.func75, Tryd.ntmps75
  go_wp2
  go_loopw [10] (fun v wr => ∃ i : Nat, i ≤ 11 ∧ v = .int .i64 i ∧ wr = w ∧ Hid (numberP k s = numIn ((wTabs.getD k []).drop i) i s)) (fun v _ => 11 - (intOf v).toNat)
  case atStart => exact ⟨0, by omega, rfl, rfl, HN⟩
  case round =>
    obtain ⟨i, hi, rfl, rfl, hN⟩ := hrel
    by_cases hlt : i < 11
    · have i1 : (i : Int) < 11 := by omega
      have hidx : ∀ w : World, (Instr.index 86 (.agg #[.string (S (wordOf k 0)), .string (S (wordOf k 1)), .string (S (wordOf k 2)), .string (S (wordOf k 3)), .string (S (wordOf k 4)), .string (S (wordOf k 5)), .string (S (wordOf k 6)), .string (S (wordOf k 7)), .string (S (wordOf k 8)), .string (S (wordOf k 9)), .string (S (wordOf k 10))]) (.int .i64 i)).run Tryd.prog w = .ok (.string (S (wordOf k i))) w := by
        intro w
        match i, hlt with
        | 0, _ | 1, _ | 2, _ | 3, _ | 4, _ | 5, _ | 6, _ | 7, _ | 8, _ | 9, _ | 10, _ => rfl
      have HS := numIn_step (wTabs.getD k []) i i s (by omega)
      rw [row_at k i (by omega)] at HS
      by_cases hs : wordOf k i = s
      · have HE : Hid (numberP k s = i) := by unfold Hid; rw [hN.out, HS, if_pos hs]
        have hq : ((S (wordOf k i)).toList == (S s).toList) = true := by rw [hs]; simp
        clear HS hs
        go_wp2
        go_ret
        exact ⟨ret_int (by rw [HE.out]), rfl⟩
      · have HE : Hid (numberP k s = numIn ((wTabs.getD k []).drop (i + 1)) (i + 1) s) := by unfold Hid; rw [hN.out, HS, if_neg hs]
        have hq : ((S (wordOf k i)).toList == (S s).toList) = false := S_ne hs
        clear HS hs
        go_wp2
        case roundEnd => exact ⟨⟨i + 1, by omega, by go_num, trivial, HE⟩, by simp [intOf]; omega⟩
    · have i1 : ¬ (i : Int) < 11 := by omega
      have HE : Hid (numberP k s = 0) := by unfold Hid; rw [hN.out, List.drop_eq_nil_of_le (by omega)]; rfl
      go_wp2
      go_ret
      exact ⟨ret_int (by rw [HE.out]; rfl), rfl⟩
end Go.Proofs.YtnjlakengbhokaaDoor
