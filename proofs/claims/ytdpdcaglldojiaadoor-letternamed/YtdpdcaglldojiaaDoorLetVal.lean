/-
  What letter.Values does, at a name that is not too long: the walk.
-/
import Derived.Test.YtdpdcaglldojiaaDoorLetShow
import Derived.Test.YtdpdcaglldojiaaDoorLetParseW
import Derived.Test.YtdpdcaglldojiaaDoorMatchIs
namespace Go.Proofs.YtdpdcaglldojiaaDoor
open Go.RowKit

theorem infoStr : (Tryd.prog.info? 9).map (fun i => (i.zero, i.size, i.bytes)) = some (some (.string ByteArray.empty), 1, 16) := by kernel_rfl
def textsC (ts : List (List UInt8)) : List Value := ts.map fun t => .string (S t)
def TextsAt (w : World) (a : Option Addr) (ts : List (List UInt8)) : Prop :=
  ∀ (i : Nat) t, ts[i]? = some t → ∃ b off, a = some ⟨b, off, none⟩ ∧ b < w.heap.size ∧ w.cell? ⟨b, off + i, none⟩ = some (.string (S t))
theorem TextsAt.below {w w' : World} {a : Option Addr} {ts : List (List UInt8)} (h : TextsAt w a ts) (hb : Below w.heap.size w w') : TextsAt w' a ts := by
  intro i f hf
  obtain ⟨b, off, ha, hlt, h1⟩ := h i f hf
  exact ⟨b, off, ha, Nat.lt_of_lt_of_le hlt hb.size, (hb.cell (p := ⟨b, off + i, none⟩) hlt).trans h1⟩
theorem texts_own {w : World} {base : Nat} {a : Option Addr} {c : Nat} {ts : List (List UInt8)} (h : w.ownsRow base 9 1 (.slice a ts.length c) ts.length (textsC ts)) : TextsAt w a ts := by
  intro i t ht
  have hi : i < ts.length := (List.getElem?_eq_some_iff.1 ht).1
  obtain ⟨g, cap, e, _, hg⟩ := World.ownsRow.form h (by omega)
  simp only [Value.slice.injEq, true_and] at e
  obtain ⟨rfl, rfl⟩ := e
  refine ⟨g, 0, rfl, hg, ?_⟩
  rw [Nat.zero_add, h.cellAt _ (by omega)]
  simp [textsC, ht]
/-- They lie in a row that was made from a block on. -/
def TextsFrom (B : Nat) (a : Option Addr) (ts : List (List UInt8)) : Prop := ∀ (i : Nat) t, ts[i]? = some t → ∃ b off, a = some ⟨b, off, none⟩ ∧ B ≤ b
theorem TextsFrom.mono {B B' : Nat} {a : Option Addr} {ts : List (List UInt8)} (h : TextsFrom B a ts) (hB : B' ≤ B) : TextsFrom B' a ts := fun i t ht => let ⟨b, off, h1, h2⟩ := h i t ht; ⟨b, off, h1, Nat.le_trans hB h2⟩
theorem texts_from {w : World} {base : Nat} {a : Option Addr} {c : Nat} {ts : List (List UInt8)} (h : w.ownsRow base 9 1 (.slice a ts.length c) ts.length (textsC ts)) : TextsFrom base a ts := by
  intro i t ht
  have hi : i < ts.length := (List.getElem?_eq_some_iff.1 ht).1
  obtain ⟨g, cap, e, hb, _⟩ := World.ownsRow.form h (by omega)
  simp only [Value.slice.injEq, true_and] at e
  obtain ⟨rfl, rfl⟩ := e
  exact ⟨g, 0, rfl, hb⟩
def sameN (l : List UInt8) (f : F) : Bool := lowL f.1 == lowL l
def valuesM (fs : List F) (l : List UInt8) : List (List UInt8) := (fs.filter (sameN l)).map (·.2)
theorem values_yes {fs : List F} {l : List UInt8} {k : Nat} {f : F} (h : fs[k]? = some f) (hs : sameN l f = true) : valuesM (fs.take (k + 1)) l = valuesM (fs.take k) l ++ [f.2] := by
  unfold valuesM; rw [take_some h, List.filter_append]; simp [hs]
theorem values_no {fs : List F} {l : List UInt8} {k : Nat} {f : F} (h : fs[k]? = some f) (hs : sameN l f = false) : valuesM (fs.take (k + 1)) l = valuesM (fs.take k) l := by
  unfold valuesM; rw [take_some h, List.filter_append]; simp [hs]
theorem values_len (fs : List F) (l : List UInt8) (k : Nat) : (valuesM (fs.take k) l).length ≤ k := by
  unfold valuesM
  rw [List.length_map]
  exact Nat.le_trans (List.length_filter_le _ _) (List.length_take_le _ _)
theorem cell_text_fresh (w : World) (x : Value) (t : TypeId) : ∀ (j : Nat) u, [x][j]? = some u → (w.alloc (.cells #[x] t)).cell? ((⟨w.heap.size, 0, none⟩ : Addr).add j) = some u := by
  intro j u hj
  rw [Addr.add_lit, Nat.zero_add]
  match j, hj with
  | 0, hj => simp at hj; subst hj; simp
theorem own_any {w : World} {base : Nat} {e : TypeId} {size : Nat} {v : Value} {n : Nat} {xs : List Value} (h : w.ownsRow base e size v n xs) : ∃ a c, v = .slice a n c := by
  rcases h.2 with ⟨hv, rfl⟩ | ⟨g, cap, cur, hv, _⟩
  · exact ⟨_, _, hv⟩
  · exact ⟨_, _, hv⟩

set_option maxHeartbeats 4000000 in
set_option maxRecDepth 100000 in
/-- With the place of what it has made. -/
theorem values_full (a : Option Addr) (c : Nat) (fs : List F) (body n : ByteArray) (w : World) (hF : FieldsAt w a fs) (hM : Mild fs body) (hm : maxLenCell w) (hf : faultM fs body.data.toList = 0) (hn : n.size ≤ 100) :
    Calls Tryd.prog 10 #[.agg #[.slice a fs.length c, .string body], .string n] w fun e w' => ∃ a' c', e = .returned (.tuple #[.slice a' (valuesM fs n.data.toList).length c', .int .i64 0]) ∧ TextsAt w' a' (valuesM fs n.data.toList) ∧ TextsFrom w.heap.size a' (valuesM fs n.data.toList) ∧ Below w.heap.size w w' := by
  obtain ⟨i0, hi, hz0, hz1, hz2⟩ := info_parts infoStr
  have hB0 : ∀ o, Below w.heap.size w (w.alloc o) := fun o => (Below.refl _ _).alloc (Nat.le_refl _) o
  have HX : Hid _ := fault_few hf
  have hl := HX.out.1
  have HF : Hid _ := hf
  clear hf
  go_enter Tryd.func10, Tryd.ntmps10
  go_wp2_with fail
  refine (check_any a c fs body _ (hF.below (hB0 _)) hM (maxLenCell_below hm (hB0 _))).mono ?_
  rintro e w1 ⟨rfl, hb1⟩
  have p0 : w1.cell? ⟨w.heap.size, 0, none⟩ = some (.slice a fs.length c) := cell_next (by simp) hb1
  have hB1 := bnext (hB0 _) hb1 (Nat.le_refl _)
  have hF1 := hF.below hB1
  rw [HF.out]
  go_wp2
  go_loopw [7, 20] (fun v i wr => ∃ k : Nat, k ≤ fs.length ∧ i = .int .i64 k ∧ wr.ownsRow w1.heap.size 9 1 v (valuesM (fs.take k) n.data.toList).length (textsC (valuesM (fs.take k) n.data.toList)) ∧ Below w1.heap.size w1 wr) (fun _ i _ => fs.length - (intOf i).toNat)
  case atStart => exact ⟨0, Nat.zero_le _, rfl, World.ownsRow_nil _ _ _ _, Below.refl _ _⟩
  case round =>
    obtain ⟨k, hk, rfl, hown, hB⟩ := hrel
    by_cases hlt : k < fs.length
    · obtain ⟨f, hf⟩ : ∃ f, fs[k]? = some f := ⟨_, List.getElem?_eq_getElem hlt⟩
      obtain ⟨b, off, rfl, hb, h1, h2⟩ := (hF1.below hB) k f hf
      have hsum := sumF_le fs (k + 1)
      rw [sumF_take hf] at hsum
      have hs1 : (S f.1).size ≤ 2000 := by rw [size_S]; have := HX.out.2.2; unfold sizeF at hsum; omega
      have hvl := values_len fs n.data.toList k
      have HE : Hid (((low (S f.1)).toList == (low n).toList) = sameN n.data.toList f) := by
        unfold Hid sameN; rw [Lib.toList_data, Lib.toList_data, low_list, low_list, list_S]
      clear hsum
      cases hs : sameN n.data.toList f with
      | true =>
        have HV : Hid _ := values_yes hf hs
        have HS : Hid _ := hs
        clear hs hf
        obtain ⟨vs, hvs⟩ : ∃ vs, vs = valuesM (fs.take k) n.data.toList := ⟨_, rfl⟩
        rw [← hvs] at hown hvl HV
        clear hvs
        obtain ⟨a0, c0, rfl⟩ := own_any hown
        go_wp2_with fail
        refine (match_is (S f.1) n _ hs1 hn).mono ?_
        rintro e u ⟨rfl, hbu⟩
        rw [HE.out, HS.out]
        have g1 : u.cell? ⟨wr.heap.size, 1, none⟩ = some (.string (S f.2)) := cell_next (by simp) hbu
        have hou : u.ownsRow w1.heap.size 9 1 (.slice a0 vs.length c0) vs.length (textsC vs) := own_below (hown.alloc _) hbu
        have hBu := bnext (hB.alloc hB.size (.cells #[.string (S f.1), .string (S f.2)] 41)) hbu (Nat.le_refl _)
        go_wp2_with (at_builtin; refine wpList_append_own _ rfl _ _ 29 rfl w1.heap.size 9 i0 _ 1 16 Tryd.underlying29 hi hz0 hz1 hz2 rfl (by decide) (.slice a0 vs.length c0) vs.length (textsC vs) rfl (hou.alloc _) ⟨u.heap.size, 0, none⟩ 1 1 [.string (S f.2)] rfl rfl (cell_text_fresh _ _ _) ?c2 ?c3 ?c4 ?c5 ?_)
        case c2 => intro x hx; simp at hx; subst hx; rfl
        case c3 => unfold maxLen; omega
        case c4 => omega
        case c5 => have := hBu.size; simp; omega
        intro v' w2 hown' hgrow _
        have hsz := hBu.size
        have hB2 : Below w1.heap.size w1 w2 := (hBu.alloc hsz _).grown hgrow (by simp; omega) (fun j hj => (hou.lt j hj).1)
        have ho2 : w2.ownsRow w1.heap.size 9 1 v' (valuesM (fs.take (k + 1)) n.data.toList).length (textsC (valuesM (fs.take (k + 1)) n.data.toList)) := by
          rw [HV.out, List.length_append]; unfold textsC; rw [List.map_append]; exact hown'
        have HO : Hid _ := ho2
        clear hgrow hown hown' ho2 hou
        go_wp2
        go_roundw
        case rel => first | exact ⟨k + 1, by omega, by go_num, HO.out, hB2⟩ | ((repeat apply Exists.intro); exact ⟨⟨k + 1, by omega, by go_num, HO.out, hB2⟩, rfl⟩) | (refine ⟨trivial, ?_⟩; (repeat apply Exists.intro); exact ⟨⟨k + 1, by omega, by go_num, HO.out, hB2⟩, rfl⟩)
        case measure => simp [intOf]; omega
      | false =>
        have HV : Hid _ := values_no hf hs
        have HS : Hid _ := hs
        clear hs hf
        go_wp2_with fail
        refine (match_is (S f.1) n _ hs1 hn).mono ?_
        rintro e u ⟨rfl, hbu⟩
        rw [HE.out, HS.out]
        have hou : u.ownsRow w1.heap.size 9 1 u7 (valuesM (fs.take (k + 1)) n.data.toList).length (textsC (valuesM (fs.take (k + 1)) n.data.toList)) := by rw [HV.out]; exact own_below (hown.alloc _) hbu
        have hBu := bnext (hB.alloc hB.size (.cells #[.string (S f.1), .string (S f.2)] 41)) hbu (Nat.le_refl _)
        have HO : Hid _ := hou
        clear hown hou
        go_wp2
        go_roundw
        case rel => first | exact ⟨k + 1, by omega, by go_num, HO.out, hBu⟩ | ((repeat apply Exists.intro); exact ⟨⟨k + 1, by omega, by go_num, HO.out, hBu⟩, rfl⟩) | (refine ⟨trivial, ?_⟩; (repeat apply Exists.intro); exact ⟨⟨k + 1, by omega, by go_num, HO.out, hBu⟩, rfl⟩)
        case measure => simp [intOf]; omega
    · have HT : Hid (fs.take k = fs) := List.take_of_length_le (by omega)
      have ho2 := hown
      rw [HT.out] at ho2
      obtain ⟨a0, c0, rfl⟩ := own_any ho2
      have HO : Hid _ := ho2
      clear hown ho2
      go_wp2
      go_ret2
      exact ⟨a0, c0, rfl, texts_own HO.out, (texts_from HO.out).mono hB1.size, bnext hB1 hB (Nat.le_refl _)⟩

theorem values_ok (a : Option Addr) (c : Nat) (fs : List F) (body n : ByteArray) (w : World) (hF : FieldsAt w a fs) (hM : Mild fs body) (hm : maxLenCell w) (hf : faultM fs body.data.toList = 0) (hn : n.size ≤ 100) :
    Calls Tryd.prog 10 #[.agg #[.slice a fs.length c, .string body], .string n] w fun e w' => ∃ a' c', e = .returned (.tuple #[.slice a' (valuesM fs n.data.toList).length c', .int .i64 0]) ∧ TextsAt w' a' (valuesM fs n.data.toList) ∧ Below w.heap.size w w' :=
  (values_full a c fs body n w hF hM hm hf hn).mono fun _ _ ⟨a', c', h1, h2, _, h3⟩ => ⟨a', c', h1, h2, h3⟩
end Go.Proofs.YtdpdcaglldojiaaDoor
