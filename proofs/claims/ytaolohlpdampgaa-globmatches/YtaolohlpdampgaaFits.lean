/-
  What postroomref.fits does: the walk.
-/
import Derived.Test.YtaolohlpdampgaaRows
import Derived.Test.YtaolohlpdampgaaFitsPure
import Derived.Test.YtaolohlpdampgaaRefFold
import Derived.WalkKit
import Derived.WalkSpells
import Derived.WalkLawsBesides
namespace Go.Proofs.Ytaolohlpdampgaa
open Go.RowKit

theorem infoBool : (Try.prog.info? 4).map (fun i => (i.zero, i.size, i.bytes)) = some (some (.bool false), 1, 1) := by kernel_rfl

theorem byte_beq (a b : UInt8) : (a == b) = ((a.toNat : Int) == (b.toNat : Int)) := by
  rw [Bool.eq_iff_iff]
  simp only [beq_iff_eq]
  constructor
  · intro h; rw [h]
  · intro h; exact UInt8.toNat_inj.1 (by omega)

/-- A row of truth values. -/
def BRow (W : World) (g n : Nat) (f : Nat → Bool) : Prop := ∃ cur : Array Value, W.heap[g]? = some (.cells cur 4 (0, 0)) ∧ cur.size = n + 1 ∧ ∀ j, j ≤ n → cur[j]? = some (.bool (f j))
theorem BRow.lt {W : World} {g n : Nat} {f : Nat → Bool} (h : BRow W g n f) : g < W.heap.size := by obtain ⟨cur, h1, _⟩ := h; exact (Array.getElem?_eq_some_iff.1 h1).1
theorem BRow.cell {W : World} {g n : Nat} {f : Nat → Bool} (h : BRow W g n f) (j : Nat) (hj : j ≤ n) : W.cell? ⟨g, j, none⟩ = some (.bool (f j)) := by
  obtain ⟨cur, h1, _, h3⟩ := h
  exact (cell_of_row _ _ _ _ _ _ h1).trans (h3 j hj)
theorem BRow.frozen {W : World} {g n : Nat} {f : Nat → Bool} (h : BRow W g n f) (j : Nat) : W.frozen? ⟨g, j, none⟩ = false := by
  obtain ⟨cur, h1, _⟩ := h
  exact frozen_of_row _ _ _ _ _ h1
theorem BRow.congr {W : World} {g n : Nat} {f f' : Nat → Bool} (h : BRow W g n f) (e : ∀ j, j ≤ n → f j = f' j) : BRow W g n f' := by
  obtain ⟨cur, h1, h2, h3⟩ := h
  exact ⟨cur, h1, h2, fun j hj => by rw [h3 j hj, e j hj]⟩
theorem BRow.set {W : World} {g n : Nat} {f : Nat → Bool} (h : BRow W g n f) (i : Nat) (hi : i ≤ n) (b : Bool) : BRow (W.setCell ⟨g, i, none⟩ (.bool b)) g n (setF f i b) := by
  obtain ⟨cur, h1, h2, h3⟩ := h
  refine ⟨_, setCell_mark _ h1, by simpa using h2, fun j hj => ?_⟩
  unfold setF
  by_cases e : j = i
  · subst e
    rw [if_pos rfl, Array.getElem?_setIfInBounds_self_of_lt (by omega)]
  · rw [if_neg e, Array.getElem?_setIfInBounds_ne (by omega)]
    exact h3 j hj
theorem BRow.other {W : World} {g g' n : Nat} {f : Nat → Bool} (h : BRow W g n f) (hne : g ≠ g') (i : Nat) (v : Value) : BRow (W.setCell ⟨g', i, none⟩ v) g n f := by
  obtain ⟨cur, h1, r⟩ := h
  exact ⟨cur, (Below.heap_setCell W ⟨g', i, none⟩ v g hne).trans h1, r⟩
theorem BRow.alloc {W : World} {g n : Nat} {f : Nat → Bool} (h : BRow W g n f) (o : Obj) : BRow (W.alloc o) g n f := by
  have hl := h.lt
  obtain ⟨cur, h1, r⟩ := h
  exact ⟨cur, (Below.heap_alloc W o g hl).trans h1, r⟩
theorem BRow.new (W : World) (n : Nat) : BRow (W.alloc (.cells (madeCells #[.bool false] (n + 1)) 4)) W.heap.size n (fun _ => false) := by
  refine ⟨_, heap_alloc_new W _, size_madeCells _ _, fun j hj => ?_⟩
  rw [← Array.getElem?_toList, toList_madeCells_one, List.getElem?_replicate, if_pos (by omega)]

theorem BRow.start (W : World) (n : Nat) : BRow (W.alloc (.cells ((madeCells #[.bool false] (n + 1)).setIfInBounds 0 (.bool true)) 4)) W.heap.size n startF := by
  refine ⟨_, heap_alloc_new W _, by simp [size_madeCells], fun j hj => ?_⟩
  cases j with
  | zero => rw [Array.getElem?_setIfInBounds_self_of_lt (by simp [size_madeCells])]; rfl
  | succ j =>
    rw [Array.getElem?_setIfInBounds_ne (by omega), ← Array.getElem?_toList, toList_madeCells_one, List.getElem?_replicate, if_pos (by omega)]
    simp [startF]

theorem make_bools (n : Nat) (hn : n ≤ 1048576) (u : World) : (Instr.makeSlice 45 (.int .i64 ((n : Int) + 1)) (.int .i64 ((n : Int) + 1))).run Try.prog u =
    .ok (.slice (some ⟨u.heap.size, 0, none⟩) (n + 1) (n + 1)) (u.alloc (.cells (madeCells #[.bool false] (n + 1)) 4)) := by
  obtain ⟨i0, hi, hz0, hz1, hz2⟩ := info_parts infoBool
  have h := run_make (P := Try.prog) u 45 4 i0 (.bool false) Try.underlying45 hi hz0 .i64 .i64 ((n : Int) + 1) ((n : Int) + 1) (by omega) (Int.le_refl _) (by rw [hz2]; omega) (by omega)
  have e : ((n : Int) + 1).toNat = n + 1 := by omega
  rw [e] at h
  simpa [hz1, Value.cells] using h

set_option maxRecDepth 100000 in
set_option maxHeartbeats 4000000 in
theorem fits_any (s p : ByteArray) (w : World) (hs : s.size ≤ 1048576) (hp : p.size ≤ 1048576) :
    Calls Try.prog 25 #[.string s, .string p] w fun e w' => e = .returned (.bool (globB s.data.toList p.data.toList)) ∧ Below w.heap.size w w' := by
  have hmk := make_bools s.size hs
  obtain ⟨S, HS⟩ : ∃ S, Hid (S = s.data.toList) := ⟨_, rfl⟩
  have hb0 : BRow (w.alloc (.cells (madeCells #[.bool false] (s.size + 1)) 4)) w.heap.size s.size (fun _ => false) := BRow.new w s.size
  have hf0 := hb0.frozen 0
  have hc0 := hb0.cell 0 (Nat.zero_le _)
  clear hb0
  go_enter Try.func25, Try.ntmps25
  go_wp2
  clear hf0 hc0
  go_loopw [5, 6] (fun v i wr => ∃ (k : Nat) (pre : List Piece) (g : Nat), i = .int .i64 (k : Int) ∧ k ≤ p.size ∧ v = .slice (some ⟨g, 0, none⟩) (s.size + 1) (s.size + 1) ∧ piecesL p.data.toList = pre ++ piecesL (p.data.toList.drop k) ∧ w.heap.size ≤ g ∧ BRow wr g s.size (fitF S pre) ∧ Below w.heap.size w wr) (fun _ i _ => p.size - (intOf i).toNat)
  case atStart => exact ⟨0, [], w.heap.size, rfl, by omega, rfl, by simp, Nat.le_refl _, BRow.start w s.size, (Below.refl _ _).alloc (Nat.le_refl _) _⟩
  case round =>
    obtain ⟨k, pre, g, rfl, hk, rfl, hx, hg, hrow, hB⟩ := hrel
    obtain ⟨wo, hwo⟩ : ∃ wo, wo = wr := ⟨_, rfl⟩
    subst hwo
    have HX : Hid _ := hx
    clear hx
    have hwr := hB.size
    have hgl := hrow.lt
    have hnew := BRow.new wo s.size
    by_cases hlt : k < p.size
    · have hd := drop_at p k hlt
      by_cases h42 : ((p[k].toNat : Int) == 42) = true
      · have hxs : piecesL (p.data.toList.drop k) = (2, 0) :: piecesL (p.data.toList.drop (k + 1)) := by rw [hd, byte_eq (d := 42) (by omega) h42]; exact pl_star _
        have h63 : ((p[k].toNat : Int) == 63) = false := by rw [beq_eq_false_iff_ne]; have := eq_of_beq h42; omega
        have h92 : ((p[k].toNat : Int) == 92) = false := by rw [beq_eq_false_iff_ne]; have := eq_of_beq h42; omega
        clear hd
        have HXs : Hid _ := hxs
        clear hxs
        go_wp2
        go_loopw [11] (fun i wq => ∃ j : Nat, j ≤ s.size + 1 ∧ i = .int .i64 (j : Int) ∧ BRow wq wo.heap.size s.size (partF (stepF S (2, 0) (fitF S pre)) j) ∧ BRow wq g s.size (fitF S pre) ∧ Below w.heap.size w wq) (fun i _ => s.size + 1 - (intOf i).toNat)
        case atStart => exact ⟨0, by omega, rfl, hnew.congr (fun j _ => by simp [partF]), hrow.alloc _, hB.alloc hwr _⟩
        case round =>
          obtain ⟨j, hj, rfl, hR, hN, hBq⟩ := hrel
          clear hrow hnew hB
          by_cases hlt : j ≤ s.size
          · have cN := hN.cell j hlt
            have fR := hR.frozen j
            have cR := hR.cell j hlt
            have hgn : g ≠ wo.heap.size := by omega
            have hst : stepF S (2, 0) (fitF S pre) = orUp (fitF S pre) := rfl
            by_cases hf : fitF S pre j = true
            · have HR : Hid _ := (hR.set j hlt true).congr (fun i _ => partF_set _ j true (by rw [hst]; cases j <;> simp [orUp, hf]) i)
              have HN : Hid _ := hN.other hgn j (.bool true)
              have HB : Hid _ := hBq.setCell (p := ⟨wo.heap.size, j, none⟩) (by simpa using hwr) (.bool true)
              rw [hf] at cN
              clear hR hN hBq hf hst
              go_wp2
              go_roundw
              case rel => first | exact ⟨j + 1, by omega, by go_num, HR.out, HN.out, HB.out⟩ | ((repeat apply Exists.intro); exact ⟨⟨j + 1, by omega, by go_num, HR.out, HN.out, HB.out⟩, rfl⟩)
              case measure => first | (simp [intOf]; done) | (simp [intOf]; omega)

            · replace hf : fitF S pre j = false := by simpa using hf
              rw [hf] at cN
              cases j with
              | zero =>
                have HR : Hid _ := (hR.set 0 hlt false).congr (fun i _ => partF_set _ 0 false (by rw [hst]; exact hf) i)
                have HN : Hid _ := hN.other hgn 0 (.bool false)
                have HB : Hid _ := hBq.setCell (p := ⟨wo.heap.size, 0, none⟩) (by simpa using hwr) (.bool false)
                clear hR hN hBq hf hst
                go_wp2
                go_roundw
                case rel => first | exact ⟨1, by omega, by go_num, HR.out, HN.out, HB.out⟩ | ((repeat apply Exists.intro); exact ⟨⟨1, by omega, by go_num, HR.out, HN.out, HB.out⟩, rfl⟩)
                case measure => first | (simp [intOf]; done) | (simp [intOf]; omega)

              | succ q =>
                have cP := hR.cell q (by omega)
                rw [partF_full _ _ _ (by omega), hst] at cP
                have HR : Hid _ := (hR.set (q + 1) hlt (orUp (fitF S pre) q)).congr (fun i _ => partF_set _ (q + 1) (orUp (fitF S pre) q) (by rw [hst]; simp [orUp, hf]) i)
                have HN : Hid _ := hN.other hgn (q + 1) (.bool (orUp (fitF S pre) q))
                have HB : Hid _ := hBq.setCell (p := ⟨wo.heap.size, q + 1, none⟩) (by simpa using hwr) (.bool (orUp (fitF S pre) q))
                generalize orUp (fitF S pre) q = bb at *
                clear hR hN hBq hf hst
                go_wp2
                go_roundw
                case rel => first | exact ⟨q + 1 + 1, by omega, by go_num, HR.out, HN.out, HB.out⟩ | ((repeat apply Exists.intro); exact ⟨⟨q + 1 + 1, by omega, by go_num, HR.out, HN.out, HB.out⟩, rfl⟩)
                case measure => first | (simp [intOf]; done) | (simp [intOf]; omega)

          · have hfull := hR.congr (f' := stepF S (2, 0) (fitF S pre)) (fun i hi => partF_full _ _ _ (by omega))
            rw [← fitF_snoc] at hfull
            have HF : Hid _ := hfull
            clear hR hN hfull
            go_wp2
            go_roundw
            case rel => first | exact ⟨k + 1, pre ++ [(2, 0)], wo.heap.size, by go_num, by omega, rfl, by rw [HX.out, HXs.out]; simp, hwr, HF.out, hBq⟩ | ((repeat apply Exists.intro); exact ⟨⟨k + 1, pre ++ [(2, 0)], wo.heap.size, by go_num, by omega, rfl, by rw [HX.out, HXs.out]; simp, hwr, HF.out, hBq⟩, rfl⟩)
            case measure => first | (simp [intOf]; done) | (simp [intOf]; omega)
      · replace h42 : ((p[k].toNat : Int) == 42) = false := by simpa using h42
        by_cases h63 : ((p[k].toNat : Int) == 63) = true
        · have hxs : piecesL (p.data.toList.drop k) = (1, 0) :: piecesL (p.data.toList.drop (k + 1)) := by rw [hd, byte_eq (d := 63) (by omega) h63]; exact pl_any _
          have h92 : ((p[k].toNat : Int) == 92) = false := by rw [beq_eq_false_iff_ne]; have := eq_of_beq h63; omega
          clear hd
          have HXs : Hid _ := hxs
          clear hxs
          go_wp2
          go_loopw [11] (fun i wq => ∃ j : Nat, j ≤ s.size + 1 ∧ i = .int .i64 (j : Int) ∧ BRow wq wo.heap.size s.size (partF (stepF S (1, 0) (fitF S pre)) j) ∧ BRow wq g s.size (fitF S pre) ∧ Below w.heap.size w wq) (fun i _ => s.size + 1 - (intOf i).toNat)
          case atStart => exact ⟨0, by omega, rfl, hnew.congr (fun j _ => by simp [partF]), hrow.alloc _, hB.alloc hwr _⟩
          case round =>
            obtain ⟨j, hj, rfl, hR, hN, hBq⟩ := hrel
            clear hrow hnew hB
            by_cases hlt : j ≤ s.size
            · have hst : stepF S (1, 0) (fitF S pre) = oneUp S (1, 0) (fitF S pre) := rfl
              have hgn : g ≠ wo.heap.size := by omega
              cases j with
              | zero =>
                have HR : Hid _ := hR.congr (fun i _ => partF_skip _ (by rw [hst]; rfl) i)
                have HN : Hid _ := hN
                have HB : Hid _ := hBq
                clear hR hN hBq hst
                go_wp2
                go_roundw
                case rel => first | exact ⟨1, by omega, by go_num, HR.out, HN.out, HB.out⟩ | ((repeat apply Exists.intro); exact ⟨⟨1, by omega, by go_num, HR.out, HN.out, HB.out⟩, rfl⟩)
                case measure => first | (simp [intOf]; done) | (simp [intOf]; omega)

              | succ q =>
                have cN := hN.cell q (by omega)
                have fR := hR.frozen (q + 1)
                have cR := hR.cell (q + 1) hlt
                have hqs : q < s.size := by omega
                have hSq : S[q]? = some s[q] := by rw [HS.out]; exact get_list s q hqs
                have hval : stepF S (1, 0) (fitF S pre) (q + 1) = (fitF S pre q && (true)) := by rw [hst]; simp [oneUp, hSq]
                by_cases hf : fitF S pre q = true
                · rw [hf] at cN
                  have HR : Hid _ := (hR.set (q + 1) hlt (true)).congr (fun i _ => partF_set _ (q + 1) (true) (by rw [hval, hf]; simp) i)
                  have HN : Hid _ := hN.other hgn (q + 1) (.bool (true))
                  have HB : Hid _ := hBq.setCell (p := ⟨wo.heap.size, q + 1, none⟩) (by simpa using hwr) (.bool (true))
                  clear hR hN hBq hf hst hSq hval
                  go_wp2
                  go_roundw
                  case rel => first | exact ⟨q + 1 + 1, by omega, by go_num, HR.out, HN.out, HB.out⟩ | ((repeat apply Exists.intro); exact ⟨⟨q + 1 + 1, by omega, by go_num, HR.out, HN.out, HB.out⟩, rfl⟩)
                  case measure => first | (simp [intOf]; done) | (simp [intOf]; omega)

                · replace hf : fitF S pre q = false := by simpa using hf
                  rw [hf] at cN
                  have HR : Hid _ := (hR.set (q + 1) hlt false).congr (fun i _ => partF_set _ (q + 1) false (by rw [hval, hf]; simp) i)
                  have HN : Hid _ := hN.other hgn (q + 1) (.bool false)
                  have HB : Hid _ := hBq.setCell (p := ⟨wo.heap.size, q + 1, none⟩) (by simpa using hwr) (.bool false)
                  clear hR hN hBq hf hst hSq hval
                  go_wp2
                  go_roundw
                  case rel => first | exact ⟨q + 1 + 1, by omega, by go_num, HR.out, HN.out, HB.out⟩ | ((repeat apply Exists.intro); exact ⟨⟨q + 1 + 1, by omega, by go_num, HR.out, HN.out, HB.out⟩, rfl⟩)
                  case measure => first | (simp [intOf]; done) | (simp [intOf]; omega)

            · have hfull := hR.congr (f' := stepF S (1, 0) (fitF S pre)) (fun i hi => partF_full _ _ _ (by omega))
              rw [← fitF_snoc] at hfull
              have HF : Hid _ := hfull
              clear hR hN hfull
              go_wp2
              go_roundw
              case rel => first | exact ⟨k + 1, pre ++ [(1, 0)], wo.heap.size, by go_num, by omega, rfl, by rw [HX.out, HXs.out]; simp, hwr, HF.out, hBq⟩ | ((repeat apply Exists.intro); exact ⟨⟨k + 1, pre ++ [(1, 0)], wo.heap.size, by go_num, by omega, rfl, by rw [HX.out, HXs.out]; simp, hwr, HF.out, hBq⟩, rfl⟩)
              case measure => first | (simp [intOf]; done) | (simp [intOf]; omega)
        · replace h63 : ((p[k].toNat : Int) == 63) = false := by simpa using h63
          by_cases h92 : ((p[k].toNat : Int) == 92) = true
          · by_cases hl1 : k + 1 < p.size
            · have hxs : piecesL (p.data.toList.drop k) = (0, p[k + 1]) :: piecesL (p.data.toList.drop (k + 2)) := by rw [hd, byte_eq (d := 92) (by omega) h92, drop_at p (k + 1) hl1]; exact pl_esc _ _
              have hl2 : (k : Int) + 1 < (p.size : Int) := by omega
              clear hd
              have HXs : Hid _ := hxs
              clear hxs
              go_wp2
              go_loopw [11] (fun i wq => ∃ j : Nat, j ≤ s.size + 1 ∧ i = .int .i64 (j : Int) ∧ BRow wq wo.heap.size s.size (partF (stepF S (0, p[k + 1]) (fitF S pre)) j) ∧ BRow wq g s.size (fitF S pre) ∧ Below w.heap.size w wq) (fun i _ => s.size + 1 - (intOf i).toNat)
              case atStart => exact ⟨0, by omega, rfl, hnew.congr (fun j _ => by simp [partF]), hrow.alloc _, hB.alloc hwr _⟩
              case round =>
                obtain ⟨j, hj, rfl, hR, hN, hBq⟩ := hrel
                clear hrow hnew hB
                by_cases hlt : j ≤ s.size
                · have hst : stepF S (0, p[k + 1]) (fitF S pre) = oneUp S (0, p[k + 1]) (fitF S pre) := rfl
                  have hgn : g ≠ wo.heap.size := by omega
                  cases j with
                  | zero =>
                    have HR : Hid _ := hR.congr (fun i _ => partF_skip _ (by rw [hst]; rfl) i)
                    have HN : Hid _ := hN
                    have HB : Hid _ := hBq
                    clear hR hN hBq hst
                    go_wp2
                    go_roundw
                    case rel => first | exact ⟨1, by omega, by go_num, HR.out, HN.out, HB.out⟩ | ((repeat apply Exists.intro); exact ⟨⟨1, by omega, by go_num, HR.out, HN.out, HB.out⟩, rfl⟩)
                    case measure => first | (simp [intOf]; done) | (simp [intOf]; omega)

                  | succ q =>
                    have cN := hN.cell q (by omega)
                    have fR := hR.frozen (q + 1)
                    have cR := hR.cell (q + 1) hlt
                    have hqs : q < s.size := by omega
                    have hSq : S[q]? = some s[q] := by rw [HS.out]; exact get_list s q hqs
                    have hval : stepF S (0, p[k + 1]) (fitF S pre) (q + 1) = (fitF S pre q && (s[q] == p[k + 1])) := by rw [hst]; simp [oneUp, hSq]
                    by_cases hf : fitF S pre q = true
                    · rw [hf] at cN
                      have HR : Hid _ := (hR.set (q + 1) hlt (((s[q].toNat : Int) == (p[k + 1].toNat : Int)))).congr (fun i _ => partF_set _ (q + 1) (((s[q].toNat : Int) == (p[k + 1].toNat : Int))) (by rw [hval, hf, byte_beq]; simp) i)
                      have HN : Hid _ := hN.other hgn (q + 1) (.bool (((s[q].toNat : Int) == (p[k + 1].toNat : Int))))
                      have HB : Hid _ := hBq.setCell (p := ⟨wo.heap.size, q + 1, none⟩) (by simpa using hwr) (.bool (((s[q].toNat : Int) == (p[k + 1].toNat : Int))))
                      clear hR hN hBq hf hst hSq hval
                      go_wp2
                      go_roundw
                      case rel => first | exact ⟨q + 1 + 1, by omega, by go_num, HR.out, HN.out, HB.out⟩ | ((repeat apply Exists.intro); exact ⟨⟨q + 1 + 1, by omega, by go_num, HR.out, HN.out, HB.out⟩, rfl⟩)
                      case measure => first | (simp [intOf]; done) | (simp [intOf]; omega)

                    · replace hf : fitF S pre q = false := by simpa using hf
                      rw [hf] at cN
                      have HR : Hid _ := (hR.set (q + 1) hlt false).congr (fun i _ => partF_set _ (q + 1) false (by rw [hval, hf]; simp) i)
                      have HN : Hid _ := hN.other hgn (q + 1) (.bool false)
                      have HB : Hid _ := hBq.setCell (p := ⟨wo.heap.size, q + 1, none⟩) (by simpa using hwr) (.bool false)
                      clear hR hN hBq hf hst hSq hval
                      go_wp2
                      go_roundw
                      case rel => first | exact ⟨q + 1 + 1, by omega, by go_num, HR.out, HN.out, HB.out⟩ | ((repeat apply Exists.intro); exact ⟨⟨q + 1 + 1, by omega, by go_num, HR.out, HN.out, HB.out⟩, rfl⟩)
                      case measure => first | (simp [intOf]; done) | (simp [intOf]; omega)

                · have hfull := hR.congr (f' := stepF S (0, p[k + 1]) (fitF S pre)) (fun i hi => partF_full _ _ _ (by omega))
                  rw [← fitF_snoc] at hfull
                  have HF : Hid _ := hfull
                  clear hR hN hfull
                  go_wp2
                  go_roundw
                  case rel => first | exact ⟨k + 2, pre ++ [(0, p[k + 1])], wo.heap.size, by go_num, by omega, rfl, by rw [HX.out, HXs.out]; simp, hwr, HF.out, hBq⟩ | ((repeat apply Exists.intro); exact ⟨⟨k + 2, pre ++ [(0, p[k + 1])], wo.heap.size, by go_num, by omega, rfl, by rw [HX.out, HXs.out]; simp, hwr, HF.out, hBq⟩, rfl⟩)
                  case measure => first | (simp [intOf]; done) | (simp [intOf]; omega)
            · have hxs : piecesL (p.data.toList.drop k) = (0, p[k]) :: piecesL (p.data.toList.drop (k + 1)) := by rw [hd]; exact pl_byte (byte_ne (d := 42) (by omega) h42) (byte_ne (d := 63) (by omega) h63) (.inr (List.drop_eq_nil_of_le (by rw [size_list]; omega)))
              clear hd
              have hl2 : ¬ (k : Int) + 1 < (p.size : Int) := by omega
              have HXs : Hid _ := hxs
              clear hxs
              go_wp2
              go_loopw [11] (fun i wq => ∃ j : Nat, j ≤ s.size + 1 ∧ i = .int .i64 (j : Int) ∧ BRow wq wo.heap.size s.size (partF (stepF S (0, p[k]) (fitF S pre)) j) ∧ BRow wq g s.size (fitF S pre) ∧ Below w.heap.size w wq) (fun i _ => s.size + 1 - (intOf i).toNat)
              case atStart => exact ⟨0, by omega, rfl, hnew.congr (fun j _ => by simp [partF]), hrow.alloc _, hB.alloc hwr _⟩
              case round =>
                obtain ⟨j, hj, rfl, hR, hN, hBq⟩ := hrel
                clear hrow hnew hB
                by_cases hlt : j ≤ s.size
                · have hst : stepF S (0, p[k]) (fitF S pre) = oneUp S (0, p[k]) (fitF S pre) := rfl
                  have hgn : g ≠ wo.heap.size := by omega
                  cases j with
                  | zero =>
                    have HR : Hid _ := hR.congr (fun i _ => partF_skip _ (by rw [hst]; rfl) i)
                    have HN : Hid _ := hN
                    have HB : Hid _ := hBq
                    clear hR hN hBq hst
                    go_wp2
                    go_roundw
                    case rel => first | exact ⟨1, by omega, by go_num, HR.out, HN.out, HB.out⟩ | ((repeat apply Exists.intro); exact ⟨⟨1, by omega, by go_num, HR.out, HN.out, HB.out⟩, rfl⟩)
                    case measure => first | (simp [intOf]; done) | (simp [intOf]; omega)

                  | succ q =>
                    have cN := hN.cell q (by omega)
                    have fR := hR.frozen (q + 1)
                    have cR := hR.cell (q + 1) hlt
                    have hqs : q < s.size := by omega
                    have hSq : S[q]? = some s[q] := by rw [HS.out]; exact get_list s q hqs
                    have hval : stepF S (0, p[k]) (fitF S pre) (q + 1) = (fitF S pre q && (s[q] == p[k])) := by rw [hst]; simp [oneUp, hSq]
                    by_cases hf : fitF S pre q = true
                    · rw [hf] at cN
                      have HR : Hid _ := (hR.set (q + 1) hlt (((s[q].toNat : Int) == (p[k].toNat : Int)))).congr (fun i _ => partF_set _ (q + 1) (((s[q].toNat : Int) == (p[k].toNat : Int))) (by rw [hval, hf, byte_beq]; simp) i)
                      have HN : Hid _ := hN.other hgn (q + 1) (.bool (((s[q].toNat : Int) == (p[k].toNat : Int))))
                      have HB : Hid _ := hBq.setCell (p := ⟨wo.heap.size, q + 1, none⟩) (by simpa using hwr) (.bool (((s[q].toNat : Int) == (p[k].toNat : Int))))
                      clear hR hN hBq hf hst hSq hval
                      go_wp2
                      go_roundw
                      case rel => first | exact ⟨q + 1 + 1, by omega, by go_num, HR.out, HN.out, HB.out⟩ | ((repeat apply Exists.intro); exact ⟨⟨q + 1 + 1, by omega, by go_num, HR.out, HN.out, HB.out⟩, rfl⟩)
                      case measure => first | (simp [intOf]; done) | (simp [intOf]; omega)

                    · replace hf : fitF S pre q = false := by simpa using hf
                      rw [hf] at cN
                      have HR : Hid _ := (hR.set (q + 1) hlt false).congr (fun i _ => partF_set _ (q + 1) false (by rw [hval, hf]; simp) i)
                      have HN : Hid _ := hN.other hgn (q + 1) (.bool false)
                      have HB : Hid _ := hBq.setCell (p := ⟨wo.heap.size, q + 1, none⟩) (by simpa using hwr) (.bool false)
                      clear hR hN hBq hf hst hSq hval
                      go_wp2
                      go_roundw
                      case rel => first | exact ⟨q + 1 + 1, by omega, by go_num, HR.out, HN.out, HB.out⟩ | ((repeat apply Exists.intro); exact ⟨⟨q + 1 + 1, by omega, by go_num, HR.out, HN.out, HB.out⟩, rfl⟩)
                      case measure => first | (simp [intOf]; done) | (simp [intOf]; omega)

                · have hfull := hR.congr (f' := stepF S (0, p[k]) (fitF S pre)) (fun i hi => partF_full _ _ _ (by omega))
                  rw [← fitF_snoc] at hfull
                  have HF : Hid _ := hfull
                  clear hR hN hfull
                  go_wp2
                  go_roundw
                  case rel => first | exact ⟨k + 1, pre ++ [(0, p[k])], wo.heap.size, by go_num, by omega, rfl, by rw [HX.out, HXs.out]; simp, hwr, HF.out, hBq⟩ | ((repeat apply Exists.intro); exact ⟨⟨k + 1, pre ++ [(0, p[k])], wo.heap.size, by go_num, by omega, rfl, by rw [HX.out, HXs.out]; simp, hwr, HF.out, hBq⟩, rfl⟩)
                  case measure => first | (simp [intOf]; done) | (simp [intOf]; omega)
          · replace h92 : ((p[k].toNat : Int) == 92) = false := by simpa using h92
            have hxs : piecesL (p.data.toList.drop k) = (0, p[k]) :: piecesL (p.data.toList.drop (k + 1)) := by rw [hd]; exact pl_byte (byte_ne (d := 42) (by omega) h42) (byte_ne (d := 63) (by omega) h63) (.inl (byte_ne (d := 92) (by omega) h92))
            clear hd
            have HXs : Hid _ := hxs
            clear hxs
            go_wp2
            go_loopw [11] (fun i wq => ∃ j : Nat, j ≤ s.size + 1 ∧ i = .int .i64 (j : Int) ∧ BRow wq wo.heap.size s.size (partF (stepF S (0, p[k]) (fitF S pre)) j) ∧ BRow wq g s.size (fitF S pre) ∧ Below w.heap.size w wq) (fun i _ => s.size + 1 - (intOf i).toNat)
            case atStart => exact ⟨0, by omega, rfl, hnew.congr (fun j _ => by simp [partF]), hrow.alloc _, hB.alloc hwr _⟩
            case round =>
              obtain ⟨j, hj, rfl, hR, hN, hBq⟩ := hrel
              clear hrow hnew hB
              by_cases hlt : j ≤ s.size
              · have hst : stepF S (0, p[k]) (fitF S pre) = oneUp S (0, p[k]) (fitF S pre) := rfl
                have hgn : g ≠ wo.heap.size := by omega
                cases j with
                | zero =>
                  have HR : Hid _ := hR.congr (fun i _ => partF_skip _ (by rw [hst]; rfl) i)
                  have HN : Hid _ := hN
                  have HB : Hid _ := hBq
                  clear hR hN hBq hst
                  go_wp2
                  go_roundw
                  case rel => first | exact ⟨1, by omega, by go_num, HR.out, HN.out, HB.out⟩ | ((repeat apply Exists.intro); exact ⟨⟨1, by omega, by go_num, HR.out, HN.out, HB.out⟩, rfl⟩)
                  case measure => first | (simp [intOf]; done) | (simp [intOf]; omega)

                | succ q =>
                  have cN := hN.cell q (by omega)
                  have fR := hR.frozen (q + 1)
                  have cR := hR.cell (q + 1) hlt
                  have hqs : q < s.size := by omega
                  have hSq : S[q]? = some s[q] := by rw [HS.out]; exact get_list s q hqs
                  have hval : stepF S (0, p[k]) (fitF S pre) (q + 1) = (fitF S pre q && (s[q] == p[k])) := by rw [hst]; simp [oneUp, hSq]
                  by_cases hf : fitF S pre q = true
                  · rw [hf] at cN
                    have HR : Hid _ := (hR.set (q + 1) hlt (((s[q].toNat : Int) == (p[k].toNat : Int)))).congr (fun i _ => partF_set _ (q + 1) (((s[q].toNat : Int) == (p[k].toNat : Int))) (by rw [hval, hf, byte_beq]; simp) i)
                    have HN : Hid _ := hN.other hgn (q + 1) (.bool (((s[q].toNat : Int) == (p[k].toNat : Int))))
                    have HB : Hid _ := hBq.setCell (p := ⟨wo.heap.size, q + 1, none⟩) (by simpa using hwr) (.bool (((s[q].toNat : Int) == (p[k].toNat : Int))))
                    clear hR hN hBq hf hst hSq hval
                    go_wp2
                    go_roundw
                    case rel => first | exact ⟨q + 1 + 1, by omega, by go_num, HR.out, HN.out, HB.out⟩ | ((repeat apply Exists.intro); exact ⟨⟨q + 1 + 1, by omega, by go_num, HR.out, HN.out, HB.out⟩, rfl⟩)
                    case measure => first | (simp [intOf]; done) | (simp [intOf]; omega)

                  · replace hf : fitF S pre q = false := by simpa using hf
                    rw [hf] at cN
                    have HR : Hid _ := (hR.set (q + 1) hlt false).congr (fun i _ => partF_set _ (q + 1) false (by rw [hval, hf]; simp) i)
                    have HN : Hid _ := hN.other hgn (q + 1) (.bool false)
                    have HB : Hid _ := hBq.setCell (p := ⟨wo.heap.size, q + 1, none⟩) (by simpa using hwr) (.bool false)
                    clear hR hN hBq hf hst hSq hval
                    go_wp2
                    go_roundw
                    case rel => first | exact ⟨q + 1 + 1, by omega, by go_num, HR.out, HN.out, HB.out⟩ | ((repeat apply Exists.intro); exact ⟨⟨q + 1 + 1, by omega, by go_num, HR.out, HN.out, HB.out⟩, rfl⟩)
                    case measure => first | (simp [intOf]; done) | (simp [intOf]; omega)

              · have hfull := hR.congr (f' := stepF S (0, p[k]) (fitF S pre)) (fun i hi => partF_full _ _ _ (by omega))
                rw [← fitF_snoc] at hfull
                have HF : Hid _ := hfull
                clear hR hN hfull
                go_wp2
                go_roundw
                case rel => first | exact ⟨k + 1, pre ++ [(0, p[k])], wo.heap.size, by go_num, by omega, rfl, by rw [HX.out, HXs.out]; simp, hwr, HF.out, hBq⟩ | ((repeat apply Exists.intro); exact ⟨⟨k + 1, pre ++ [(0, p[k])], wo.heap.size, by go_num, by omega, rfl, by rw [HX.out, HXs.out]; simp, hwr, HF.out, hBq⟩, rfl⟩)
                case measure => first | (simp [intOf]; done) | (simp [intOf]; omega)
    · have hpre : pre = piecesL p.data.toList := by rw [HX.out, List.drop_eq_nil_of_le (by rw [size_list]; omega)]; simp [piecesL]
      have hcl := hrow.cell s.size (Nat.le_refl _)
      have hfin : fitF S pre s.size = globB s.data.toList p.data.toList := by
        rw [hpre, HS.out, globB, ← fitF_last, size_list]
      rw [hfin] at hcl
      clear hpre hfin hrow hnew
      go_wp2
      go_ret
      exact ⟨rfl, hB⟩
end Go.Proofs.Ytaolohlpdampgaa
