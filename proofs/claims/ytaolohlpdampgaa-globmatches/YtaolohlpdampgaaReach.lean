/-
  What glob.reach does: the walks.
-/
import Derived.Test.YtaolohlpdampgaaRows
import Derived.Test.YtaolohlpdampgaaGlob
import Derived.WalkKit
import Derived.WalkSpells
import Derived.WalkLawsBesides
import Derived.Deep.QuietTactic
import Derived.BigQuiet
namespace Go.Proofs.Ytaolohlpdampgaa
open Go.RowKit

theorem infoInt : (Try.prog.info? 3).map (fun i => (i.zero, i.size, i.bytes)) = some (some (.int .i64 0), 1, 8) := by kernel_rfl

/-- Places as cells. -/
def cellsI (l : List Nat) : List Value := l.map fun (i : Nat) => Value.int .i64 (i : Int)

theorem cellsI_snoc (l : List Nat) (i : Nat) (x : Int) (h : (i : Int) = x) : cellsI (l ++ [i]) = cellsI l ++ [.int .i64 x] := by simp [cellsI, h]
theorem cellsI_length (l : List Nat) : (cellsI l).length = l.length := by simp [cellsI]

def upTo (i m : Nat) : List Nat := (List.range m).map (i + ·)
theorem upTo_succ (i m : Nat) : upTo i (m + 1) = upTo i m ++ [i + m] := by simp [upTo, List.range_succ]
theorem upTo_length (i m : Nat) : (upTo i m).length = m := by simp [upTo]

theorem own_up {w : World} {base : Nat} {v : Value} {m i n : Nat} (h : w.ownsRow base 3 1 v m (cellsI (upTo i m))) (hm : m = n + 1 - i) : w.ownsRow base 3 1 v (upL n i).length (cellsI (upL n i)) := by
  have e : upL n i = upTo i m := by rw [hm]; rfl
  rw [e, upTo_length]
  exact h

set_option maxHeartbeats 400000 in
/-- A piece that stands for any bytes: all places from the first one on. -/
theorem reach_star (s : ByteArray) (b : UInt8) (g cap i0 : Nat) (zs : List Nat) (w : World) (hs : s.size ≤ 1048576) (hi0 : i0 ≤ s.size) (hz : 1 ≤ zs.length)
    (hc0 : w.cell? ⟨g, 0, none⟩ = some (.int .i64 (i0 : Int))) :
    Calls Try.prog 23 #[.string s, .agg #[.int .i64 2, .int .u8 b.toNat], .slice (some ⟨g, 0, none⟩) zs.length cap] w fun e w' =>
      ∃ v, e = .returned v ∧ w'.ownsRow w.heap.size 3 1 v (upL s.size i0).length (cellsI (upL s.size i0)) ∧ Below w.heap.size w w' := by
  obtain ⟨ii, hi, hz0, hz1, hz2⟩ := info_parts infoInt
  have hg : g < w.heap.size := World.block_lt_of_cell? w _ hc0
  have hB0 : Below w.heap.size w (w.alloc (.cells #[.int .i64 2, .int .u8 b.toNat] 42)) := (Below.refl _ _).alloc (Nat.le_refl _) _
  go_enter Try.func23, Try.ntmps23
  go_wp2
  go_loopw [7, 8] (fun v i wr => ∃ m : Nat, i0 + m ≤ s.size + 1 ∧ i = .int .i64 ((i0 + m : Nat) : Int) ∧ wr.ownsRow w.heap.size 3 1 v m (cellsI (upTo i0 m)) ∧ Below w.heap.size w wr) (fun _ i _ => s.size + 1 - (intOf i).toNat)
  case atStart => exact ⟨0, by omega, rfl, World.ownsRow_nil _ _ _ _, hB0⟩
  case round =>
    obtain ⟨m, hm, rfl, hown, hB⟩ := hrel
    clear hB0 hc0
    by_cases hlt : i0 + m ≤ s.size
    · have HS : Hid _ := cellsI_snoc (upTo i0 m) (i0 + m) ((i0 : Int) + m) (by omega)
      go_wp2_with (at_builtin; refine wpList_append_own _ rfl _ _ 37 rfl w.heap.size 3 ii (.int .i64 0) 1 8 Try.underlying37 hi hz0 hz1 hz2 rfl (by decide) _ _ _ rfl (hown.alloc _) ⟨wr.heap.size, 0, none⟩ 1 1 [.int .i64 ((i0 : Int) + m)] rfl rfl (cell_one_new _ _ _) ?c2 ?c3 ?c4 ?c5 ?_)
      case c2 => intro u hu; simp at hu; subst hu; rfl
      case c3 => unfold maxLen; omega
      case c4 => omega
      case c5 => have := hB.size; simp; omega
      intro v' w2 hown' hgrow _
      have hsz := hB.size
      have hB2 : Below w.heap.size w w2 := (hB.alloc hsz _).grown hgrow (by simp; omega) (fun j hj => (hown.lt j hj).1)
      rw [← HS.out, ← upTo_succ] at hown'
      clear hgrow hown
      go_wp2
      go_roundw
      case rel => exact ⟨m + 1, by omega, by go_num, hown', hB2⟩
      case measure => simp [intOf]; omega
    · have hm' : m = s.size + 1 - i0 := by omega
      have hown2 := own_up hown hm'
      clear hown hm'
      go_wp2
      go_ret
      exact ⟨_, rfl, hown2, hB⟩

theorem take_filter {s : List UInt8} {p : Piece} {zs : List Nat} {k z : Nat} (h : zs[k]? = some z) : (zs.take (k + 1)).filterMap (stepL s p) = (zs.take k).filterMap (stepL s p) ++ (stepL s p z).toList := by
  rw [List.take_add_one, h, List.filterMap_append]
  cases hs : stepL s p z <;> simp [hs]
theorem filter_le {s : List UInt8} {p : Piece} {zs : List Nat} (k : Nat) : ((zs.take k).filterMap (stepL s p)).length ≤ k := by
  have h1 := List.length_filterMap_le (stepL s p) (zs.take k)
  have h2 := List.length_take_le k zs
  omega

theorem step_out {s : ByteArray} {p : Piece} {z : Nat} (h : ¬ z < s.size) : stepL s.data.toList p z = none := by
  cases hs : stepL s.data.toList p z with
  | none => rfl
  | some j => exact absurd (by have := (stepL_some hs).2; rwa [size_list] at this) h
theorem step_any {s : ByteArray} {b : UInt8} {z : Nat} (h : z < s.size) : stepL s.data.toList (1, b) z = some (z + 1) := by
  have : z < s.data.toList.length := by rw [size_list]; exact h
  unfold stepL
  rw [if_pos]
  simp
  exact .inl h
theorem step_yes {s : ByteArray} {k : Nat} {b : UInt8} {z : Nat} (h : z < s.size) (e : s[z] = b) : stepL s.data.toList (k, b) z = some (z + 1) := by
  unfold stepL
  rw [if_pos]
  rw [get_list s z h, e]
  simp
theorem step_no {s : ByteArray} {k : Nat} {b : UInt8} {z : Nat} (hk : k ≠ 1) (h : z < s.size) (e : s[z] ≠ b) : stepL s.data.toList (k, b) z = none := by
  unfold stepL
  rw [if_neg]
  rw [get_list s z h]
  simp [hk]
  exact e

theorem own_base {w : World} {b b' : Nat} {e : TypeId} {v : Value} {n : Nat} {xs : List Value} (hb : b' ≤ b) (h : w.ownsRow b e 1 v n xs) : w.ownsRow b' e 1 v n xs := by
  refine ⟨h.1, ?_⟩
  rcases h.2 with h | ⟨g, cap, cur, h1, h2, r⟩
  · exact .inl h
  · exact .inr ⟨g, cap, cur, h1, Nat.le_trans hb h2, r⟩

theorem own_keep {w : World} {base : Nat} {v : Value} {s : List UInt8} {p : Piece} {zs : List Nat} {k z : Nat} (hz : zs[k]? = some z) (hs : stepL s p z = none)
    (h : w.ownsRow base 3 1 v ((zs.take k).filterMap (stepL s p)).length (cellsI ((zs.take k).filterMap (stepL s p)))) :
    w.ownsRow base 3 1 v ((zs.take (k + 1)).filterMap (stepL s p)).length (cellsI ((zs.take (k + 1)).filterMap (stepL s p))) := by
  rw [take_filter hz, hs]
  simpa using h
theorem own_more {w : World} {base : Nat} {v : Value} {s : List UInt8} {p : Piece} {zs : List Nat} {k z : Nat} (hz : zs[k]? = some z) (hs : stepL s p z = some (z + 1)) {x : Int} (hx : ((z + 1 : Nat) : Int) = x)
    (h : w.ownsRow base 3 1 v (((zs.take k).filterMap (stepL s p)).length + 1) (cellsI ((zs.take k).filterMap (stepL s p)) ++ [.int .i64 x])) :
    w.ownsRow base 3 1 v ((zs.take (k + 1)).filterMap (stepL s p)).length (cellsI ((zs.take (k + 1)).filterMap (stepL s p))) := by
  rw [take_filter hz, hs]
  rw [← cellsI_snoc _ _ _ hx] at h
  simpa using h

set_option maxHeartbeats 400000 in
/-- A piece that stands for one byte: the places behind it. -/
theorem reach_one (s : ByteArray) (p : Piece) (g cap : Nat) (zs : List Nat) (w : World) (hs : s.size ≤ 1048576) (hp : p.1 ≠ 2) (hl : zs.length ≤ 1048577) (hz : ∀ z ∈ zs, z ≤ s.size)
    (hc0 : ∀ k z : Nat, zs[k]? = some z → w.cell? ⟨g, k, none⟩ = some (.int .i64 (z : Int))) (hg : g < w.heap.size) :
    Calls Try.prog 23 #[.string s, .agg #[.int .i64 p.1, .int .u8 p.2.toNat], .slice (some ⟨g, 0, none⟩) zs.length cap] w fun e w' =>
      ∃ v, e = .returned v ∧ w'.ownsRow w.heap.size 3 1 v (zs.filterMap (stepL s.data.toList p)).length (cellsI (zs.filterMap (stepL s.data.toList p))) ∧ Below w.heap.size w w' := by
  obtain ⟨kd, b⟩ := p
  simp only at hp ⊢
  obtain ⟨ii, hi, hz0, hz1, hz2⟩ := info_parts infoInt
  have hB0 : Below (w.heap.size + 1) (w.alloc (.cells #[.int .i64 (kd : Int), .int .u8 b.toNat] 42)) (w.alloc (.cells #[.int .i64 (kd : Int), .int .u8 b.toNat] 42)) := Below.refl _ _
  have hc1 : (w.alloc (.cells #[.int .i64 (kd : Int), .int .u8 b.toNat] 42)).cell? ⟨w.heap.size, 0, none⟩ = some (.int .i64 (kd : Int)) := by simp
  have hc2 : (w.alloc (.cells #[.int .i64 (kd : Int), .int .u8 b.toNat] 42)).cell? ⟨w.heap.size, 1, none⟩ = some (.int .u8 b.toNat) := by simp
  have hcW : ∀ k z : Nat, zs[k]? = some z → (w.alloc (.cells #[.int .i64 (kd : Int), .int .u8 b.toNat] 42)).cell? ⟨g, k, none⟩ = some (.int .i64 (z : Int)) := fun k z h => (World.cell?_alloc_past _ _ _ hg).trans (hc0 k z h)
  have hBw : Below w.heap.size w (w.alloc (.cells #[.int .i64 (kd : Int), .int .u8 b.toNat] 42)) := (Below.refl _ _).alloc (Nat.le_refl _) _
  clear hc0
  have hkd2 : ((kd : Int) == 2) = false := by rw [beq_eq_false_iff_ne]; omega
  go_enter Try.func23, Try.ntmps23
  go_wp2
  generalize hW0 : w.alloc (.cells #[.int .i64 (kd : Int), .int .u8 b.toNat] 42) = W0 at *
  go_loopw [7, 30] (fun v i wr => ∃ k : Nat, k ≤ zs.length ∧ i = .int .i64 (k : Int) ∧ wr.ownsRow (w.heap.size + 1) 3 1 v ((zs.take k).filterMap (stepL s.data.toList (kd, b))).length (cellsI ((zs.take k).filterMap (stepL s.data.toList (kd, b)))) ∧ Below (w.heap.size + 1) W0 wr) (fun _ i _ => zs.length - (intOf i).toNat)
  case atStart => exact ⟨0, by omega, rfl, World.ownsRow_nil _ _ _ _, hB0⟩
  case round =>
    obtain ⟨k, hk, rfl, hown, hB⟩ := hrel
    have hsW : W0.heap.size = w.heap.size + 1 := by rw [← hW0]; simp
    clear hB0 hW0
    have hq0 := (hB.cell (p := ⟨w.heap.size, 0, none⟩) (by simp)).trans hc1
    have hq1 := (hB.cell (p := ⟨w.heap.size, 1, none⟩) (by simp)).trans hc2
    have hle := filter_le (s := s.data.toList) (p := (kd, b)) (zs := zs) k
    by_cases hlt : k < zs.length
    · obtain ⟨z, hzk⟩ : ∃ z, zs[k]? = some z := ⟨_, List.getElem?_eq_getElem hlt⟩
      have hzn : z ≤ s.size := hz z (List.mem_of_getElem? hzk)
      have hcz := (hB.cell (p := ⟨g, k, none⟩) (by simp; omega)).trans (hcW k z hzk)
      clear hcW hc1 hc2 hz
      have hwz := hB.size
      by_cases hin : z < s.size
      · have hd : decide ((z : Int) < (s.size : Int)) = true := by simp; omega
        have hd' : (z : Int) < (s.size : Int) := by omega
        by_cases hk1 : kd = 1
        · have HM : Hid _ := fun v (u : World) => own_more (w := u) (v := v) (base := w.heap.size + 1) hzk (step_any (b := b) hin) (x := (z : Int) + 1) (by omega)
          subst hk1
          clear hzk
          go_wp2
          go_quiet (fail)
          go_wp2_with (at_builtin; refine wpList_append_own _ rfl _ _ 37 rfl (w.heap.size + 1) 3 ii (.int .i64 0) 1 8 Try.underlying37 hi hz0 hz1 hz2 rfl (by decide) _ _ _ rfl (World.ownsRow.alloc (show World.ownsRow (wr.drewN nq) _ _ _ _ _ _ from hown) _) ⟨wr.heap.size, 0, none⟩ 1 1 [.int .i64 ((z : Int) + 1)] rfl rfl (cell_one_new _ _ _) ?c2 ?c3 ?c4 ?c5 ?_)
          case c2 => intro u hu; simp at hu; subst hu; rfl
          case c3 => unfold maxLen; omega
          case c4 => omega
          case c5 => have := hB.size; simp; omega
          intro v' w2 hown' hgrow _
          have hB2 : Below (w.heap.size + 1) W0 w2 := ((below_drewN hB nq).alloc (by show _ ≤ wr.heap.size; omega) _).grown hgrow (by simp; omega) (fun j hj => (hown.lt j hj).1)
          have hown2 := HM.out v' w2 hown'
          clear hgrow hown hown'
          go_wp2
          go_roundw
          case rel => first | exact ⟨k + 1, by omega, by go_num, hown2, hB2⟩ | ((repeat apply Exists.intro); exact ⟨⟨k + 1, by omega, by go_num, hown2, hB2⟩, rfl⟩)
          case measure => simp [intOf]; omega
        · have hk1' : ((kd : Int) == 1) = false := by rw [beq_eq_false_iff_ne]; omega
          by_cases hb : s[z] = b
          · have HM : Hid _ := fun v (u : World) => own_more (w := u) (v := v) (base := w.heap.size + 1) hzk (step_yes (k := kd) hin hb) (x := (z : Int) + 1) (by omega)
            have hbb : (((s[z]).toNat : Int) == (b.toNat : Int)) = true := by simp [hb]
            clear hzk hb
            go_wp2
            go_quiet (fail)
            go_wp2_with (at_builtin; refine wpList_append_own _ rfl _ _ 37 rfl (w.heap.size + 1) 3 ii (.int .i64 0) 1 8 Try.underlying37 hi hz0 hz1 hz2 rfl (by decide) _ _ _ rfl (World.ownsRow.alloc (show World.ownsRow (wr.drewN nq) _ _ _ _ _ _ from hown) _) ⟨wr.heap.size, 0, none⟩ 1 1 [.int .i64 ((z : Int) + 1)] rfl rfl (cell_one_new _ _ _) ?d2 ?d3 ?d4 ?d5 ?_)
            case d2 => intro u hu; simp at hu; subst hu; rfl
            case d3 => unfold maxLen; omega
            case d4 => omega
            case d5 => have := hB.size; simp; omega
            intro v' w2 hown' hgrow _
            have hB2 : Below (w.heap.size + 1) W0 w2 := ((below_drewN hB nq).alloc (by show _ ≤ wr.heap.size; omega) _).grown hgrow (by simp; omega) (fun j hj => (hown.lt j hj).1)
            have hown2 := HM.out v' w2 hown'
            clear hgrow hown hown'
            go_wp2
            go_roundw
            case rel => first | exact ⟨k + 1, by omega, by go_num, hown2, hB2⟩ | ((repeat apply Exists.intro); exact ⟨⟨k + 1, by omega, by go_num, hown2, hB2⟩, rfl⟩)
            case measure => simp [intOf]; omega
          · have HN : Hid _ := own_keep hzk (step_no hk1 hin hb) hown
            have hbb : (((s[z]).toNat : Int) == (b.toNat : Int)) = false := by
              rw [beq_eq_false_iff_ne]
              intro e
              exact hb (UInt8.toNat_inj.1 (by omega))
            clear hown hzk hb
            go_wp2
            go_quiet (fail)
            go_wp2
            go_roundw
            case rel => exact ⟨k + 1, by omega, by go_num, HN.out, below_drewN hB _⟩
            case measure => simp [intOf]; omega
      · have HN : Hid _ := own_keep hzk (step_out hin) hown
        have hd : decide ((z : Int) < (s.size : Int)) = false := by simp; omega
        clear hown hzk
        go_wp2
        go_quiet (fail)
        go_wp2
        go_roundw
        case rel => exact ⟨k + 1, by omega, by go_num, HN.out, below_drewN hB _⟩
        case measure => simp [intOf]; omega
    · rw [List.take_of_length_le (by omega)] at hown
      have hown2 := own_base (b' := w.heap.size) (by omega) hown
      clear hown
      go_wp2
      go_ret
      exact ⟨_, rfl, hown2, hBw.trans (hB.mono (by omega))⟩

/-- glob.reach: the places behind a piece. -/
theorem reach_any (s : ByteArray) (p : Piece) (v : Value) (base : Nat) (zs : List Nat) (w : World) (hs : s.size ≤ 1048576) (hne : zs ≠ []) (hr : Rising s.data.toList.length zs) (hl : zs.length ≤ 1048577)
    (hown : w.ownsRow base 3 1 v zs.length (cellsI zs)) :
    Calls Try.prog 23 #[.string s, .agg #[.int .i64 p.1, .int .u8 p.2.toNat], v] w fun e w' =>
      ∃ v', e = .returned v' ∧ w'.ownsRow w.heap.size 3 1 v' (reachL s.data.toList p zs).length (cellsI (reachL s.data.toList p zs)) ∧ Below w.heap.size w w' := by
  have hpos : 0 < zs.length := List.length_pos_iff.2 hne
  rcases hown.2 with ⟨_, h0⟩ | ⟨g, cap, cur, rfl, _, hg, _⟩
  · omega
  · have hcell : ∀ k z : Nat, zs[k]? = some z → w.cell? ⟨g, k, none⟩ = some (.int .i64 (z : Int)) := fun k z h => by
      rw [hown.cellAt k (by have := (List.getElem?_eq_some_iff.1 h).1; omega)]
      simp [cellsI, h]
    have hgs : g < w.heap.size := (Array.getElem?_eq_some_iff.1 hg).1
    by_cases hp : p.1 = 2
    · obtain ⟨kd, b⟩ := p
      simp only at hp
      subst hp
      cases zs with
      | nil => exact absurd rfl hne
      | cons i0 r =>
        have e : reachL s.data.toList (2, b) (i0 :: r) = upL s.size i0 := by rw [reachL, if_pos rfl, size_list]
        rw [e]
        have hi := hr.2 i0 (by simp)
        rw [size_list] at hi
        exact reach_star s b g cap i0 (i0 :: r) w hs hi (by simp) (hcell 0 i0 (by simp))
    · have e : reachL s.data.toList p zs = zs.filterMap (stepL s.data.toList p) := by unfold reachL; rw [if_neg hp]
      rw [e]
      exact reach_one s p g cap zs w hs hp hl (fun z hz => by have := hr.2 z hz; rwa [size_list] at this) hcell hgs
end Go.Proofs.Ytaolohlpdampgaa
