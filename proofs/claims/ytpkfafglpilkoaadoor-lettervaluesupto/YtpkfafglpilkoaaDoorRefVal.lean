/-
  What letter.Values does otherwise, and what the reference's ValuesOf does: the walks.
-/
import Derived.Test.YtpkfafglpilkoaaDoorLetVal
import Derived.Test.YtpkfafglpilkoaaDoorMatchSize
import Derived.Test.YtpkfafglpilkoaaDoorRefLower
import Derived.Test.YtpkfafglpilkoaaDoorRefFault
namespace Go.Proofs.YtpkfafglpilkoaaDoor
open Go.RowKit

set_option maxHeartbeats 1000000 in
theorem values_bad (a : Option Addr) (c : Nat) (fs : List F) (body n : ByteArray) (w : World) (hF : FieldsAt w a fs) (hM : Mild fs body) (hm : maxLenCell w) (m : Int) (hf : faultM fs body.data.toList = m) (hn : (m == 0) = false) :
    Calls Tryd.prog 17 #[.agg #[.slice a fs.length c, .string body], .string n] w fun e w' => e = .returned (.tuple #[.slice none 0 0, .int .i64 m]) ∧ Below w.heap.size w w' := by
  have hB0 : ∀ o, Below w.heap.size w (w.alloc o) := fun o => (Below.refl _ _).alloc (Nat.le_refl _) o
  have HF : Hid _ := hf
  clear hf
  go_enter Tryd.func17, Tryd.ntmps17
  go_wp2_with fail
  refine (check_any a c fs body _ (hF.below (hB0 _)) hM (maxLenCell_below hm (hB0 _))).mono ?_
  rintro e w1 ⟨rfl, hb1⟩
  rw [HF.out]
  go_wp2
  go_ret2
  exact ⟨rfl, bnext (hB0 _) hb1 (Nat.le_refl _)⟩

set_option maxHeartbeats 4000000 in
set_option maxRecDepth 100000 in
theorem values_long (a : Option Addr) (c : Nat) (fs : List F) (body n : ByteArray) (w : World) (hF : FieldsAt w a fs) (hM : Mild fs body) (hm : maxLenCell w) (hf : faultM fs body.data.toList = 0) (hn : 100 < n.size) :
    Calls Tryd.prog 17 #[.agg #[.slice a fs.length c, .string body], .string n] w fun e w' => e = .returned (.tuple #[.slice none 0 0, .int .i64 0]) ∧ Below w.heap.size w w' := by
  have hB0 : ∀ o, Below w.heap.size w (w.alloc o) := fun o => (Below.refl _ _).alloc (Nat.le_refl _) o
  have HX : Hid _ := fault_few hf
  have hl := HX.out.1
  have HF : Hid _ := hf
  have HN : Hid _ := hn
  clear hf hn
  go_enter Tryd.func17, Tryd.ntmps17
  go_wp2_with fail
  refine (check_any a c fs body _ (hF.below (hB0 _)) hM (maxLenCell_below hm (hB0 _))).mono ?_
  rintro e w1 ⟨rfl, hb1⟩
  have p0 : w1.cell? ⟨w.heap.size, 0, none⟩ = some (.slice a fs.length c) := cell_next (by simp) hb1
  have hB1 := bnext (hB0 _) hb1 (Nat.le_refl _)
  have hF1 := hF.below hB1
  rw [HF.out]
  go_wp2
  go_loopw [7, 20] (fun v i wr => ∃ k : Nat, k ≤ fs.length ∧ i = .int .i64 k ∧ v = .slice none 0 0 ∧ Below w1.heap.size w1 wr) (fun _ i _ => fs.length - (intOf i).toNat)
  case atStart => exact ⟨0, Nat.zero_le _, rfl, rfl, Below.refl _ _⟩
  case round =>
    obtain ⟨k, hk, rfl, rfl, hB⟩ := hrel
    by_cases hlt : k < fs.length
    · obtain ⟨f, hf⟩ : ∃ f, fs[k]? = some f := ⟨_, List.getElem?_eq_getElem hlt⟩
      obtain ⟨b, off, rfl, hb, h1, h2⟩ := (hF1.below hB) k f hf
      clear hf
      go_wp2_with fail
      refine (match_size 1 (S f.1) n _ (by omega) (by omega) (.inr HN.out)).mono ?_
      rintro e u ⟨rfl, hbu⟩
      have hBu := bnext (hB.alloc hB.size (.cells #[.string (S f.1), .string (S f.2)] 44)) hbu (Nat.le_refl _)
      go_wp2
      go_roundw
      case rel => first | exact ⟨k + 1, by omega, by go_num, rfl, hBu⟩ | ((repeat apply Exists.intro); exact ⟨⟨k + 1, by omega, by go_num, rfl, hBu⟩, rfl⟩) | (refine ⟨trivial, ?_⟩; (repeat apply Exists.intro); exact ⟨⟨k + 1, by omega, by go_num, rfl, hBu⟩, rfl⟩)
      case measure => simp [intOf]; omega
    · go_wp2
      go_ret2
      exact ⟨rfl, bnext hB1 hB (Nat.le_refl _)⟩

set_option maxHeartbeats 4000000 in
set_option maxRecDepth 100000 in
theorem valuesOf_any (a : Option Addr) (c : Nat) (fs : List F) (body n : ByteArray) (w : World) (hF : FieldsAt w a fs) (hl : fs.length ≤ 30) (hb : ∀ f ∈ fs, f.1.length ≤ 2000) (hn : n.size ≤ 100) :
    Calls Tryd.prog 37 #[.agg #[.slice a fs.length c, .string body], .string n] w fun e w' => ∃ a' c', e = .returned (.slice a' (valuesM fs n.data.toList).length c') ∧ TextsAt w' a' (valuesM fs n.data.toList) ∧ Below w.heap.size w w' := by
  obtain ⟨i0, hi, hz0, hz1, hz2⟩ := info_parts infoStr
  have HB : Hid _ := hb
  clear hb
  go_enter Tryd.func37, Tryd.ntmps37
  go_wp2
  go_loopw [5, 6] (fun v i wr => ∃ k : Nat, k ≤ fs.length ∧ i = .int .i64 k ∧ wr.ownsRow (w.heap.size + 1) 9 1 v (valuesM (fs.take k) n.data.toList).length (textsC (valuesM (fs.take k) n.data.toList)) ∧ Below w.heap.size w wr ∧ wr.cell? ⟨w.heap.size, 0, none⟩ = some (.slice a fs.length c) ∧ w.heap.size + 1 ≤ wr.heap.size) (fun _ i _ => fs.length - (intOf i).toNat)
  case atStart => exact ⟨0, Nat.zero_le _, rfl, World.ownsRow_nil _ _ _ _, (Below.refl _ _).alloc (Nat.le_refl _) _, by simp, by simp⟩
  case round =>
    obtain ⟨k, hk, rfl, hown, hB, p0, hsz⟩ := hrel
    by_cases hlt : k < fs.length
    · obtain ⟨f, hf⟩ : ∃ f, fs[k]? = some f := ⟨_, List.getElem?_eq_getElem hlt⟩
      obtain ⟨b, off, rfl, hbb, h1, h2⟩ := (hF.below hB) k f hf
      have hs1 : (S f.1).size ≤ 2000 := by rw [size_S]; exact HB.out f (List.mem_of_getElem? hf)
      have hvl := values_len fs n.data.toList k
      have HE : Hid (((low (S f.1)).toList == (low n).toList) = sameN n.data.toList f) := by
        unfold Hid sameN; rw [Lib.toList_data, Lib.toList_data, low_list, low_list, list_S]
      cases hs : sameN n.data.toList f with
      | true =>
        have HV : Hid _ := values_yes hf hs
        have HS : Hid _ := hs
        clear hs hf
        obtain ⟨vs, hvs⟩ : ∃ vs, vs = valuesM (fs.take k) n.data.toList := ⟨_, rfl⟩
        rw [← hvs] at hown hvl HV
        clear hvs
        obtain ⟨a0, c0, rfl⟩ := own_any hown
        go_wp2_with fail
        refine (lower_any (S f.1) _ (by omega)).mono ?_
        rintro e u1 ⟨rfl, hb1⟩
        go_wp2_with fail
        refine (lower_any n _ (by omega)).mono ?_
        rintro e u ⟨rfl, hb2⟩
        have hbu := bnext hb1 hb2 (Nat.le_refl _)
        have heq : ((low (S f.1)).toList == (low n).toList) = true := by rw [HE.out, HS.out]
        have g0 := cell_next p0 hbu
        have g2 := cell_next h2 hbu
        have hou : u.ownsRow (w.heap.size + 1) 9 1 (.slice a0 vs.length c0) vs.length (textsC vs) := own_below hown hbu
        have hBu := bnext hB hbu (Nat.le_refl _)
        have hszu : w.heap.size + 1 ≤ u.heap.size := Nat.le_trans hsz hbu.size
        go_wp2_with (at_builtin; refine wpList_append_own _ rfl _ _ 35 rfl (w.heap.size + 1) 9 i0 _ 1 16 Tryd.underlying35 hi hz0 hz1 hz2 rfl (by decide) (.slice a0 vs.length c0) vs.length (textsC vs) rfl (hou.alloc _) ⟨u.heap.size, 0, none⟩ 1 1 [.string (S f.2)] rfl rfl (cell_text_fresh _ _ _) ?c2 ?c3 ?c4 ?c5 ?_)
        case c2 => intro x hx; simp at hx; subst hx; rfl
        case c3 => unfold maxLen; omega
        case c4 => omega
        case c5 => simp; omega
        intro v' w2 hown' hgrow _
        have hB2' : Below (w.heap.size + 1) u w2 := ((Below.refl (w.heap.size + 1) u).alloc hszu _).grown hgrow (by simp; omega) (fun j hj => (hou.lt j hj).1)
        have ho2 : w2.ownsRow (w.heap.size + 1) 9 1 v' (valuesM (fs.take (k + 1)) n.data.toList).length (textsC (valuesM (fs.take (k + 1)) n.data.toList)) := by
          rw [HV.out, List.length_append]; unfold textsC; rw [List.map_append]; exact hown'
        have HO : Hid _ := ho2
        have y0 : w2.cell? ⟨w.heap.size, 0, none⟩ = some (.slice (some ⟨b, off, none⟩) fs.length c) := (hB2'.cell (by simp)).trans g0
        have hB2 : Below w.heap.size w w2 := hBu.trans (hB2'.mono (by omega))
        have hsz2 : w.heap.size + 1 ≤ w2.heap.size := Nat.le_trans hszu hB2'.size
        clear hgrow hown hown' ho2 hou
        go_wp2
        go_roundw
        case rel => first | exact ⟨k + 1, by omega, by go_num, HO.out, hB2, y0, hsz2⟩ | ((repeat apply Exists.intro); exact ⟨⟨k + 1, by omega, by go_num, HO.out, hB2, y0, hsz2⟩, rfl⟩) | (refine ⟨trivial, ?_⟩; (repeat apply Exists.intro); exact ⟨⟨k + 1, by omega, by go_num, HO.out, hB2, y0, hsz2⟩, rfl⟩)
        case measure => simp [intOf]; omega
      | false =>
        have HV : Hid _ := values_no hf hs
        have HS : Hid _ := hs
        clear hs hf
        go_wp2_with fail
        refine (lower_any (S f.1) _ (by omega)).mono ?_
        rintro e u1 ⟨rfl, hb1⟩
        go_wp2_with fail
        refine (lower_any n _ (by omega)).mono ?_
        rintro e u ⟨rfl, hb2⟩
        have hbu := bnext hb1 hb2 (Nat.le_refl _)
        have heq : ((low (S f.1)).toList == (low n).toList) = false := by rw [HE.out, HS.out]
        have g0 := cell_next p0 hbu
        have hou : u.ownsRow (w.heap.size + 1) 9 1 u5 (valuesM (fs.take (k + 1)) n.data.toList).length (textsC (valuesM (fs.take (k + 1)) n.data.toList)) := by rw [HV.out]; exact own_below hown hbu
        have hBu := bnext hB hbu (Nat.le_refl _)
        have hszu : w.heap.size + 1 ≤ u.heap.size := Nat.le_trans hsz hbu.size
        have HO : Hid _ := hou
        clear hown hou
        go_wp2
        go_roundw
        case rel => first | exact ⟨k + 1, by omega, by go_num, HO.out, hBu, g0, hszu⟩ | ((repeat apply Exists.intro); exact ⟨⟨k + 1, by omega, by go_num, HO.out, hBu, g0, hszu⟩, rfl⟩) | (refine ⟨trivial, ?_⟩; (repeat apply Exists.intro); exact ⟨⟨k + 1, by omega, by go_num, HO.out, hBu, g0, hszu⟩, rfl⟩)
        case measure => simp [intOf]; omega
    · have HT : Hid (fs.take k = fs) := List.take_of_length_le (by omega)
      have ho2 := hown
      rw [HT.out] at ho2
      obtain ⟨a0, c0, rfl⟩ := own_any ho2
      have HO : Hid _ := ho2
      clear hown ho2
      go_wp2
      go_ret
      exact ⟨a0, c0, rfl, texts_own HO.out, hB⟩

set_option maxHeartbeats 1000000 in
theorem refValues_bad (a : Option Addr) (c : Nat) (fs : List F) (body n : ByteArray) (w : World) (hF : FieldsAt w a fs) (hM : Mild fs body) (m : Int) (hf : faultM fs body.data.toList = m) (hn : (m == 0) = false) :
    Calls Tryd.prog 18 #[.agg #[.slice a fs.length c, .string body], .string n] w fun e w' => e = .returned (.tuple #[.slice none 0 0, .int .i64 m]) ∧ Below w.heap.size w w' := by
  have hB0 : ∀ o, Below w.heap.size w (w.alloc o) := fun o => (Below.refl _ _).alloc (Nat.le_refl _) o
  have HF : Hid _ := hf
  clear hf
  go_enter Tryd.func18, Tryd.ntmps18
  go_wp2_with fail
  refine (fault_any a c fs body _ (hF.below (hB0 _)) hM).mono ?_
  rintro e w1 ⟨rfl, hb1⟩
  rw [HF.out]
  go_wp2
  go_ret2
  exact ⟨rfl, bnext (hB0 _) hb1 (Nat.le_refl _)⟩
set_option maxHeartbeats 1000000 in
theorem refValues_long (a : Option Addr) (c : Nat) (fs : List F) (body n : ByteArray) (w : World) (hF : FieldsAt w a fs) (hM : Mild fs body) (hf : faultM fs body.data.toList = 0) (hn : 100 < n.size) (hn2 : n.size ≤ 1048576) :
    Calls Tryd.prog 18 #[.agg #[.slice a fs.length c, .string body], .string n] w fun e w' => e = .returned (.tuple #[.slice none 0 0, .int .i64 0]) ∧ Below w.heap.size w w' := by
  have hB0 : ∀ o, Below w.heap.size w (w.alloc o) := fun o => (Below.refl _ _).alloc (Nat.le_refl _) o
  have HF : Hid _ := hf
  clear hf
  go_enter Tryd.func18, Tryd.ntmps18
  go_wp2_with fail
  refine (fault_any a c fs body _ (hF.below (hB0 _)) hM).mono ?_
  rintro e w1 ⟨rfl, hb1⟩
  rw [HF.out]
  go_wp2
  go_ret2
  exact ⟨rfl, bnext (hB0 _) hb1 (Nat.le_refl _)⟩
set_option maxHeartbeats 1000000 in
theorem refValues_ok (a : Option Addr) (c : Nat) (fs : List F) (body n : ByteArray) (w : World) (hF : FieldsAt w a fs) (hM : Mild fs body) (hf : faultM fs body.data.toList = 0) (hn : n.size ≤ 100) :
    Calls Tryd.prog 18 #[.agg #[.slice a fs.length c, .string body], .string n] w fun e w' => ∃ a' c', e = .returned (.tuple #[.slice a' (valuesM fs n.data.toList).length c', .int .i64 0]) ∧ TextsAt w' a' (valuesM fs n.data.toList) ∧ Below w.heap.size w w' := by
  have hB0 : ∀ o, Below w.heap.size w (w.alloc o) := fun o => (Below.refl _ _).alloc (Nat.le_refl _) o
  have HX : Hid _ := fault_few hf
  have HS : Hid (∀ f ∈ fs, f.1.length ≤ 2000) := by
    intro f hf'
    obtain ⟨k, hk⟩ := List.getElem?_of_mem hf'
    have h1 := sumF_le fs (k + 1)
    rw [sumF_take hk] at h1
    have := (fault_few hf).2.2
    unfold sizeF at h1; omega
  have HF : Hid _ := hf
  clear hf
  go_enter Tryd.func18, Tryd.ntmps18
  go_wp2_with fail
  refine (fault_any a c fs body _ (hF.below (hB0 _)) hM).mono ?_
  rintro e w1 ⟨rfl, hb1⟩
  have p0 : w1.cell? ⟨w.heap.size, 0, none⟩ = some (.slice a fs.length c) := cell_next (by simp) hb1
  have p1 : w1.cell? ⟨w.heap.size, 1, none⟩ = some (.string body) := cell_next (by simp) hb1
  have hB1 := bnext (hB0 _) hb1 (Nat.le_refl _)
  rw [HF.out]
  go_wp2_with fail
  refine (valuesOf_any a c fs body n _ (hF.below hB1) HX.out.1 HS.out hn).mono ?_
  rintro e w2 ⟨a2, c2, rfl, hT, hb2⟩
  go_wp2
  go_ret2
  exact ⟨a2, c2, rfl, hT, bnext hB1 hb2 (Nat.le_refl _)⟩

set_option maxHeartbeats 1000000 in
theorem sameTL_any (a b : Option Addr) (c d : Nat) (ts : List (List UInt8)) (w : World) (hF : TextsAt w a ts) (hG : TextsAt w b ts) (hM1 : ts.length ≤ 2000000) :
    Calls Tryd.prog 19 #[.slice a ts.length c, .slice b ts.length d] w fun e w' => e = .returned (.bool true) ∧ Below w.heap.size w w' := by
  go_enter Tryd.func19, Tryd.ntmps19
  go_wp2
  go_loopw [5] (fun i wr => ∃ k : Nat, k ≤ ts.length ∧ i = .int .i64 k ∧ ∃ q, wr = w.drewN q) (fun i _ => ts.length - (intOf i).toNat)
  case atStart => exact ⟨0, Nat.zero_le _, rfl, 0, rfl⟩
  case round =>
    obtain ⟨k, hk, rfl, q, rfl⟩ := hrel
    by_cases hlt : k < ts.length
    · obtain ⟨f, hf⟩ : ∃ f, ts[k]? = some f := ⟨_, List.getElem?_eq_getElem hlt⟩
      obtain ⟨b1, o1, rfl, hb1, h1⟩ := hF k f hf
      obtain ⟨b2, o2, rfl, hb2, h2⟩ := hG k f hf
      clear hf
      go_wp2
      go_quiet (fail)
      go_wp2
      go_roundw
      case rel => first | exact ⟨k + 1, by omega, by go_num, _, rfl⟩ | ((repeat apply Exists.intro); exact ⟨⟨k + 1, by omega, by go_num, _, rfl⟩, rfl⟩) | (refine ⟨trivial, ?_⟩; (repeat apply Exists.intro); exact ⟨⟨k + 1, by omega, by go_num, _, rfl⟩, rfl⟩)
      case measure => simp [intOf]; omega
    · go_wp2
      go_ret
      exact ⟨rfl, bdrew (Below.refl _ _) _⟩
end Go.Proofs.YtpkfafglpilkoaaDoor
