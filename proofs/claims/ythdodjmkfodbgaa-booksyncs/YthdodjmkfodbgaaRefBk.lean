/-
  The document's answers on tapes: which may be, bytes joined, synced and crashed tapes; and the laws' copies and comparisons: the walks.
-/
import Derived.Test.YthdodjmkfodbgaaBkCr
namespace Go.Proofs.Ythdodjmkfodbgaa
open Go.RowKit Go.Proofs

set_option maxHeartbeats 1000000 in
theorem in_by (x lo hi : Int) (w : World) : Calls Try.prog 15 #[.int .i64 x, .int .i64 lo, .int .i64 hi] w fun e w' => e = .returned (.bool (decide (lo ≤ x) && decide (x ≤ hi))) ∧ w' = w := by
  go_enter Try.func15, Try.ntmps15
  go_wp2
  all_goals
    go_ret
    simp [*]
    try omega
set_option maxHeartbeats 1000000 in
theorem tapeMay_any (a : Option Addr) (n c : Nat) (s : Int) (w : World) :
    Calls Try.prog 13 #[.agg #[.slice a n c, .int .i64 s]] w fun e w' => e = .returned (.bool (mayN n s)) ∧ Below w.heap.size w w' := by
  have HB := bhid ((Below.refl w.heap.size w).alloc (Nat.le_refl _) (.cells #[.slice a n c, .int .i64 s] 24))
  obtain ⟨r, hr⟩ : ∃ r, r = mayN n s := ⟨_, rfl⟩
  have HR := bhid hr
  rw [← hr]
  clear hr
  by_cases hn : (n : Int) ≤ 100000
  · go_enter Try.func13, Try.ntmps13
    go_wp2_with fail
    refine (in_by s 0 n _).mono ?_
    rintro e u ⟨rfl, hu⟩
    subst hu
    go_wp2
    all_goals
      go_ret
      refine ⟨?_, HB.out⟩
      rw [HR.out]
      unfold mayN
      have : n ≤ 100000 := by omega
      simp [*]
  · go_enter Try.func13, Try.ntmps13
    go_wp2
    all_goals
      go_ret
      refine ⟨?_, HB.out⟩
      rw [HR.out]
      unfold mayN
      have : ¬ n ≤ 100000 := by omega
      simp [*]
theorem by_step {l : List UInt8} {k : Nat} {x : UInt8} (h : l[k]? = some x) : byC (l.take (k + 1)) = byC (l.take k) ++ [.int .u8 x.toNat] := by
  have hk : k < l.length := (List.getElem?_eq_some_iff.1 h).1
  rw [List.take_succ_eq_append_getElem hk, (List.getElem?_eq_some_iff.1 h).2, byC_app]
  rfl
theorem one_cell (W : World) (v : Value) (t : TypeId) : ∀ j u, [v][j]? = some u → (W.alloc (.cells #[v] t)).cell? ((⟨W.heap.size, 0, none⟩ : Addr).add j) = some u := by
  intro j u hj
  cases j with
  | zero => simp at hj; subst hj; rw [Addr.add_lit]; simp
  | succ j => simp at hj
set_option maxHeartbeats 2000000 in
set_option maxRecDepth 100000 in
theorem joined_nil (a : Option Addr) (c : Nat) (l : List UInt8) (Q : Nat → Prop) (w : World) (h : BysM Q w (.slice a l.length c) l) (hl : l.length ≤ 100000) :
    Calls Try.prog 14 #[.slice a l.length c, .slice none 0 0] w (TpC w l) := by
  obtain ⟨i0, hi, hz0, hz1, hz2⟩ := binfo_parts infoBy
  have HH := bhid h
  clear h
  go_enter Try.func14, Try.ntmps14
  go_wp2
  go_loopw [5, 6] (fun q v wr => ∃ (k : Nat) (a9 : Option Addr) (c9 : Nat), k ≤ l.length ∧ v = .int .i64 k ∧ q = .slice a9 k c9 ∧ Hid (wr.ownsRow w.heap.size 5 1 (.slice a9 k c9) k (byC (l.take k))) ∧ Hid (Below w.heap.size w wr)) (fun _ v _ => l.length - (intOf v).toNat)
  case atStart => exact ⟨0, none, 0, Nat.zero_le _, rfl, rfl, World.ownsRow_nil _ _ _ _, Below.refl _ _⟩
  case round =>
    obtain ⟨k, a9, c9, hk, rfl, rfl, HO, HB⟩ := hrel
    by_cases hlt : k < l.length
    · have k1 : (k : Int) < (l.length : Int) := by omega
      have k0 : (0 : Int) ≤ (k : Int) := by omega
      obtain ⟨x, hx⟩ : ∃ x, l[k]? = some x := ⟨_, List.getElem?_eq_getElem hlt⟩
      obtain ⟨b, o, rfl, _, e0⟩ := (HH.out.imp (Q' := fun _ => True) (fun _ _ => trivial) fun b hlt _ => HB.out.block b hlt).at hx
      have HS := bhid (by_step hx)
      clear hx
      go_wp2_with (first
        | (at_builtin; refine wpList_append_lies _ rfl _ _ 22 rfl w.heap.size 5 i0 _ 1 1 Try.underlying22 hi hz0 hz1 hz2 rfl (by decide) (.slice a9 k c9) k (byC (l.take k)) rfl (World.ownsRow.alloc HO.out _) ⟨wr.heap.size, 0, none⟩ 1 1 [.int .u8 x.toNat] rfl rfl (one_cell wr _ _) ?c1 (by omega) ?c2 ?c3 ?c4 _ rfl ?_)
        | fail)
      case c1 => simp [Value.oneCell']
      case c2 => unfold maxLen; omega
      case c3 => omega
      case c4 => have := HB.out.size; simp; omega
      intro gm cap w4 hown hgrow hat hlt4
      have HB4 := bhid (show Below w.heap.size w w4 from (HB.out.alloc HB.out.size _).grown hgrow (by have := HB.out.size; simp; omega) (fun j hj => (World.ownsRow.lt HO.out j hj).1))
      have HO4 := bhid (show w4.ownsRow w.heap.size 5 1 (.slice (some ⟨gm, 0, none⟩) (k + 1) cap) (k + 1) (byC (l.take (k + 1))) by rw [HS.out]; exact hown)
      clear hown hgrow hat
      go_wp2
      go_roundw
      case rel => first | exact ⟨k + 1, _, cap, by omega, by go_num, rfl, HO4, HB4⟩ | ((repeat apply Exists.intro); exact ⟨⟨k + 1, _, cap, by omega, by go_num, rfl, HO4, HB4⟩, rfl⟩)
      case measure => simp [intOf]; omega
    · have k1 : ¬ (k : Int) < (l.length : Int) := by omega
      have hkl : k = l.length := by omega
      have HE := bhid (show TpC w l (.returned (.slice a9 k c9)) wr by
        have h1 := HO.out
        rw [List.take_of_length_le (by omega)] at h1
        rw [hkl] at h1 ⊢
        exact ⟨a9, c9, rfl, h1, HB.out⟩)
      clear HO HB hkl
      obtain ⟨W5, hW5⟩ : ∃ W5, W5 = wr := ⟨_, rfl⟩
      subst hW5
      go_wp2
      go_loopw [5, 7] (fun q v wr' => q = .slice a9 k c9 ∧ v = .int .i64 0 ∧ wr' = W5) (fun _ _ _ => 0)
      case atStart => exact ⟨rfl, rfl, rfl⟩
      case round =>
        obtain ⟨rfl, rfl, rfl⟩ := hrel
        go_wp2
        go_ret
        exact HE.out
end Go.Proofs.Ythdodjmkfodbgaa
