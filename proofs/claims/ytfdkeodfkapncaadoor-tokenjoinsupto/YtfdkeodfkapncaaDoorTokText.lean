/-
  What token.textOf does: the walk.
-/
import Derived.Test.YtfdkeodfkapncaaDoorTokMem
import Derived.Test.YtfdkeodfkapncaaDoorTokLaws
import Derived.Test.YtfdkeodfkapncaaDoorTokRep
import Derived.Test.YtfdkeodfkapncaaDoorShelf
import Derived.Lib.SmallJoins
namespace Go.Proofs.YtfdkeodfkapncaaDoor
open Go.RowKit Go.Proofs Go.Joins

/-- What the library's variables hold. -/
def Env (w : World) : Prop := maxLenCell w ∧ powTab w
theorem pow_there : (Tryd.prog.globalNamed "internal/strconv.uint64pow10").isSome = true := by kernel_rfl
theorem Env.below {w w' : World} (h : Env w) (hb : Below w.heap.size w w') : Env w' := by
  obtain ⟨g, hg⟩ := Option.isSome_iff_exists.1 pow_there
  exact ⟨maxLenCell_below h.1 hb, tab_stays hg h.2 hb (Nat.le_refl _)⟩
theorem Env.next {w w' : World} {B : Nat} (h : Env w) (hb : Below B w w') (hB : w.heap.size ≤ B) : Env w' := h.below (hb.mono hB)
theorem grow_below (w : World) (k : Nat) (os : Array Obj) : Below w.heap.size w (Go.Sort.grow (w.drewN k) os) :=
  ⟨rfl, rfl, rfl, by show w.heap.size ≤ (w.heap ++ os).size; rw [Array.size_append]; omega, fun _ hj => Go.Sort.heap_grow_old (w.drewN k) os hj⟩

theorem S_app (a b : List UInt8) : S a ++ S b = S (a ++ b) := by
  rw [← S_list (S a ++ S b)]
  simp [list_S]
theorem repL_len (c : UInt8) (l : List UInt8) : (repL c l).length ≤ 2 * l.length := by
  induction l with
  | nil => simp [repL]
  | cons x l ih =>
    have e : repL c (x :: l) = (if x = c then [92, c] else [x]) ++ repL c l := by simp [repL]
    rw [e]
    split <;> simp <;> omega
theorem replaceAll_one (c : UInt8) (l : List UInt8) : Lib.replaceAll l [c] [92, c] = repL c l := by
  unfold Lib.replaceAll Lib.replace
  rw [if_neg (by simp)]
  have e : Lib.replaceNum l [c] (-1) = l.count c := by
    unfold Lib.replaceNum
    rw [if_pos (Or.inl (by decide)), Lib.count_one]
  rw [e]
  exact replaceK_one c _ l (Nat.le_refl _)

set_option maxHeartbeats 8000000 in
set_option maxRecDepth 100000 in
theorem textOf_any (t : Tok) (w : World) (hE : Env w) (hf : faultT t = 0) (hl : t.text.length ≤ 2000) :
    Calls Tryd.prog 17 #[.agg #[.int .i64 t.kind, .string (S t.text), .int .i64 t.num]] w fun e w' => e = .returned (.string (S (textT t))) ∧ Below w.heap.size w w' := by
  obtain ⟨W0, hW0⟩ : ∃ W0, W0 = w.alloc (.cells #[.int .i64 t.kind, .string (S t.text), .int .i64 t.num] 34) := ⟨_, rfl⟩
  have hT : TokB W0 w.heap.size t := by rw [hW0]; exact tokB_new w t
  have HB0 : Hid (Below w.heap.size w W0) := by unfold Hid; rw [hW0]; exact (Below.refl _ _).alloc (Nat.le_refl _) _
  have HE : Hid (Env W0) := hE.below HB0.out
  have HW : Hid _ := hW0
  have k0 := hT.c0
  have k1 := hT.c1
  have k2 := hT.c2
  have hz : (S t.text).size ≤ 2000 := by rw [size_S]; exact hl
  clear hW0 hT hE
  have hkc := kind_cases hf
  by_cases h3 : t.kind = 3
  · have hn : 0 ≤ t.num ∧ t.num ≤ 2147483647 := by
      rcases hkc with ⟨k, _⟩ | ⟨k, _⟩ | ⟨_, a, b, _⟩ | ⟨k, _⟩ | ⟨k, _⟩
      · omega
      · omega
      · exact ⟨a, b⟩
      · omega
      · omega
    have HT : Hid (textT t = Lib.itoa t.num) := by
      unfold Hid textT Lib.itoa
      rw [if_pos h3, if_neg (by omega), decL_lib]
    have hq : (t.kind == 3) = true := by simp [h3]
    obtain ⟨n1, n2⟩ := hn
    clear hkc hf h3
    go_enter Tryd.func17, Tryd.ntmps17
    go_wp2_with fail
    rw [← HW.out]
    refine (itoa_any t.num (by omega) (by omega) _ HE.out.2).mono ?_
    rintro e u ⟨rfl, k, os, rfl⟩
    go_wp2
    go_ret
    exact ⟨by rw [HT.out]; rfl, HB0.out.trans ((grow_below W0 k os).mono HB0.out.size)⟩
  have q3 : (t.kind == 3) = false := by simp [h3]
  by_cases h2 : t.kind = 2
  · have HT : Hid (textT t = 58 :: t.text) := by unfold Hid textT; rw [if_neg h3, if_pos h2]
    have q2 : (t.kind == 2) = true := by simp [h2]
    have HC : Hid ((⟨#[58]⟩ : ByteArray) ++ S t.text = S (58 :: t.text)) := S_app [58] t.text
    have hadd : ¬ 9223372036854775807 < (⟨#[58]⟩ : ByteArray).size + (S t.text).size := by
      have : (⟨#[58]⟩ : ByteArray).size = 1 := rfl
      omega
    clear hkc hf h3 h2
    go_enter Tryd.func17, Tryd.ntmps17
    go_wp2
    go_ret
    refine ⟨?_, by first | exact HB0.out | (rw [← HW.out]; exact HB0.out) | exact (Below.refl _ _).alloc (Nat.le_refl _) _⟩
    rw [HT.out, ← HC.out]
    rfl
  have q2 : (t.kind == 2) = false := by simp [h2]
  by_cases h4 : t.kind = 4
  · have HT : Hid (textT t = 34 :: (quoteL t.text ++ [34])) := by unfold Hid textT; rw [if_neg h3, if_neg h2, if_pos h4]
    have q4 : (t.kind == 4) = true := by simp [h4]
    have hr1 := repL_len 92 t.text
    have hr2 := repL_len 34 (repL 92 t.text)
    have HR1 : Hid ((⟨(Lib.replaceAll (S t.text).data.toList (⟨#[92]⟩ : ByteArray).data.toList (⟨#[92, 92]⟩ : ByteArray).data.toList).toArray⟩ : ByteArray) = S (repL 92 t.text)) := by
      unfold Hid
      rw [list_S]
      show S (Lib.replaceAll t.text [92] [92, 92]) = _
      rw [replaceAll_one 92]
    have HR2 : Hid ((⟨(Lib.replaceAll (S (repL 92 t.text)).data.toList (⟨#[34]⟩ : ByteArray).data.toList (⟨#[92, 34]⟩ : ByteArray).data.toList).toArray⟩ : ByteArray) = S (quoteL t.text)) := by
      unfold Hid
      rw [list_S]
      show S (Lib.replaceAll (repL 92 t.text) [34] [92, 34]) = _
      rw [replaceAll_one 34, quote_two]
    have HL1 : Hid ((S t.text).size + Lib.countB (S t.text) ⟨#[92]⟩ * (⟨#[92, 92]⟩ : ByteArray).size ≤ 140737488355328) := by
      unfold Hid
      have e : Lib.countB (S t.text) ⟨#[92]⟩ = t.text.count 92 := by
        show Lib.count (S t.text).data.toList [92] = _
        rw [list_S, Lib.count_one]
      have h2 : (⟨#[92, 92]⟩ : ByteArray).size = 2 := rfl
      have := List.count_le_length (a := (92 : UInt8)) (l := t.text)
      rw [e, h2]; omega
    have HL2 : Hid ((S (repL 92 t.text)).size + Lib.countB (S (repL 92 t.text)) ⟨#[34]⟩ * (⟨#[92, 34]⟩ : ByteArray).size ≤ 140737488355328) := by
      unfold Hid
      have e : Lib.countB (S (repL 92 t.text)) ⟨#[34]⟩ = (repL 92 t.text).count 34 := by
        show Lib.count (S (repL 92 t.text)).data.toList [34] = _
        rw [list_S, Lib.count_one]
      have h2 : (⟨#[92, 34]⟩ : ByteArray).size = 2 := rfl
      have := List.count_le_length (a := (34 : UInt8)) (l := repL 92 t.text)
      rw [e, h2, size_S]; omega
    have HS1 : Hid ((S t.text).size < 4294967281) := by unfold Hid; omega
    have HS2 : Hid ((S (repL 92 t.text)).size < 4294967281) := by unfold Hid; rw [size_S]; omega
    have hqz : (S (quoteL t.text)).size ≤ 4000 := by rw [size_S]; have := quoteL_len t.text; omega
    have HC1 : Hid ((⟨#[34]⟩ : ByteArray) ++ S (quoteL t.text) ++ (⟨#[34]⟩ : ByteArray) = S (34 :: (quoteL t.text ++ [34]))) := by
      unfold Hid
      have e1 : (⟨#[34]⟩ : ByteArray) = S [34] := rfl
      rw [e1, S_app, S_app]
      rfl
    clear hkc hf h3 h2 h4 hr1 hr2
    go_enter Tryd.func17, Tryd.ntmps17
    go_wp2_with fail
    rw [← HW.out]
    refine (replaceAll_any (S t.text) ⟨#[92]⟩ ⟨#[92, 92]⟩ _ HS1.out HE.out.1 (by decide) HL1.out).mono ?_
    rintro e u ⟨rfl, hb1⟩
    rw [HR1.out]
    have HE1 : Hid (Env u) := HE.out.below hb1
    have HB1 : Hid (Below w.heap.size w u) := HB0.out.trans (hb1.mono HB0.out.size)
    clear hb1
    go_wp2_with fail
    refine (replaceAll_any (S (repL 92 t.text)) ⟨#[34]⟩ ⟨#[92, 34]⟩ _ HS2.out HE1.out.1 (by decide) HL2.out).mono ?_
    rintro e u2 ⟨rfl, hb2⟩
    rw [HR2.out]
    have HB2 : Hid (Below w.heap.size w u2) := HB1.out.trans (hb2.mono HB1.out.size)
    clear hb2
    go_wp2
    go_ret
    exact ⟨by rw [HT.out, ← HC1.out]; rfl, HB2.out⟩
  have q4 : (t.kind == 4) = false := by simp [h4]
  have HT : Hid (textT t = t.text) := by unfold Hid textT; rw [if_neg h3, if_neg h2, if_neg h4]
  clear hkc hf h3 h2 h4
  go_enter Tryd.func17, Tryd.ntmps17
  go_wp2
  go_ret
  exact ⟨by rw [HT.out]; rfl, by first | exact HB0.out | (rw [← HW.out]; exact HB0.out) | exact (Below.refl _ _).alloc (Nat.le_refl _) _⟩
end Go.Proofs.YtfdkeodfkapncaaDoor
