/-
  What the laws' copying and comparing of messages do: the walks.
-/
import Derived.Test.YtpkfafglpilkoaaDoorLetRow
namespace Go.Proofs.YtpkfafglpilkoaaDoor
open Go.RowKit

set_option maxHeartbeats 1000000 in
theorem messages_any (a : Option Addr) (c : Nat) (fs : List F) (body : ByteArray) (w : World) (hF : FieldsAt w a fs) (hM : Mild fs body) :
    Calls Tryd.prog 9 #[.agg #[.slice a fs.length c, .string body]] w fun e w' => ∃ a' c', e = .returned (.agg #[.slice a' fs.length c', .string body]) ∧ FieldsAt w' a' fs ∧ Below w.heap.size w w' := by
  obtain ⟨hM1, hM2, hM3⟩ := hM
  obtain ⟨i0, hi, hz0, hz1, hz2⟩ := info_parts infoField
  by_cases h0 : fs = []
  · subst h0
    clear hM3
    cases a
    all_goals
      go_enter Tryd.func9, Tryd.ntmps9
      go_wp2
      go_region
      all_goals
        go_wp2
        exact bodyPost_ret (v := .agg #[.slice none 0 0, .string body]) (by simp [results, Tryd.results9, go_sem]) rfl ⟨none, 0, rfl, fields_nil _ _, by first | exact (((Below.refl w.heap.size w).alloc (Nat.le_refl _) _).alloc (by simp) _).drew | exact (((((Below.refl w.heap.size w).alloc (Nat.le_refl _) _).alloc (by simp) _).drew.setCell (by simp) _).setCell (by simp) _)⟩
  · have hpos : 0 < fs.length := List.length_pos_iff.2 h0
    obtain ⟨f0, hf0⟩ : ∃ f, fs[0]? = some f := ⟨_, List.getElem?_eq_getElem hpos⟩
    obtain ⟨b, off, ha, hb, _, _⟩ := hF 0 f0 hf0
    have hcell := cellsF_at hF ha
    subst ha
    have HC : Hid _ := hcell
    clear hcell hM3 hf0 h0
    go_enter Tryd.func9, Tryd.ntmps9
    go_wp2
    go_region_law
      (refine step_append_lies _ rfl _ _ 22 rfl (w.heap.size + 2) 44 i0 _ 2 32 Tryd.underlying22 hi hz0 hz1 hz2 rfl (by decide) (.slice none 0 0) 0 [] rfl (World.ownsRow_nil _ _ _ _) ⟨b, off, none⟩ fs.length c (cellsF fs) (by simp [Act.eval]) (cellsF_length fs) (fun j u hu => cell_more (cell_more (HC.out j u hu) _) _) cellsF_one' hpos (by unfold maxLen; omega) (by omega) (by simp) _ rfl ?_
       intro g cap w1 hown hgrow hat hlt
       have hB1 := (Below.refl (w.heap.size + 2) _).grown hgrow (by simp) (fun j hj => by cases hj)
       have q1 : w1.cell? ⟨w.heap.size, 1, none⟩ = some (.string body) := (hB1.cell (by simp)).trans (by simp)
       have q2 : w1.cell? ⟨w.heap.size + 1, 0, none⟩ = some (.slice none 0 0) := (hB1.cell (by simp)).trans (by simp)
       have q3 : w1.cell? ⟨w.heap.size + 1, 1, none⟩ = some (.string ⟨#[]⟩) := (hB1.cell (by simp)).trans (by simp)
       have q4 : w1.frozen? ⟨w.heap.size + 1, 0, none⟩ = false := (hB1.frozen (by simp)).trans (by simp)
       have q5 : w1.frozen? ⟨w.heap.size + 1, 1, none⟩ = false := (hB1.frozen (by simp)).trans (by simp)
       clear hgrow hat)
    all_goals
      go_wp2
      simp only [Nat.zero_add, List.nil_append] at hown
      have hbase := own_base hown
      exact bodyPost_ret (v := .agg #[.slice (some ⟨g, 0, none⟩) fs.length cap, .string body]) (by simp [results, Tryd.results9, go_sem, q2, q3]) rfl
        ⟨_, _, rfl, ((fields_own hown hlt).set _ (by simp; omega)).set _ (by simp; omega),
          (((((Below.refl w.heap.size w).alloc (Nat.le_refl _) _).alloc (by simp) _).drew.trans (hB1.mono (by omega))).setCell (by simp) _).setCell (by simp) _⟩

set_option maxHeartbeats 1000000 in
theorem sameL_any (a b : Option Addr) (c d : Nat) (fs : List F) (body : ByteArray) (w : World) (hF : FieldsAt w a fs) (hG : FieldsAt w b fs) (hM1 : fs.length ≤ 2000000) :
    Calls Tryd.prog 12 #[.agg #[.slice a fs.length c, .string body], .agg #[.slice b fs.length d, .string body]] w fun e w' => e = .returned (.bool true) ∧ Below w.heap.size w w' := by
  go_enter Tryd.func12, Tryd.ntmps12
  go_wp2
  go_loopw [5] (fun i wr => ∃ k : Nat, k ≤ fs.length ∧ i = .int .i64 k ∧ ∃ q, wr = ((w.alloc (.cells #[.slice a fs.length c, .string body] 24)).alloc (.cells #[.slice b fs.length d, .string body] 24)).drewN q) (fun i _ => fs.length - (intOf i).toNat)
  case atStart => exact ⟨0, Nat.zero_le _, rfl, 0, rfl⟩
  case round =>
    obtain ⟨k, hk, rfl, q, rfl⟩ := hrel
    by_cases hlt : k < fs.length
    · obtain ⟨f, hf⟩ : ∃ f, fs[k]? = some f := ⟨_, List.getElem?_eq_getElem hlt⟩
      obtain ⟨b1, o1, rfl, hb1, h1, h2⟩ := hF k f hf
      obtain ⟨b2, o2, rfl, hb2, h3, h4⟩ := hG k f hf
      clear hf
      go_wp2
      go_quiet (fail)
      go_wp2
      go_roundw
      case rel => exact ⟨k + 1, by omega, by go_num, _, rfl⟩
      case measure => simp [intOf]; omega
    · go_wp2
      go_ret
      exact ⟨rfl, bdrew (((Below.refl w.heap.size w).alloc (Nat.le_refl _) _).alloc (by simp) _) _⟩
end Go.Proofs.YtpkfafglpilkoaaDoor
