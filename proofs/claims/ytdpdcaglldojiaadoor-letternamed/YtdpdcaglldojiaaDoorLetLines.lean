/-
  How an argument that holds raw lines is read; what the message that is made of them is.
-/
import Derived.Test.YtdpdcaglldojiaaDoorLetOpen
import Derived.Test.YtdpdcaglldojiaaDoorKeepMsg
import Derived.Test.YtdpdcaglldojiaaDoorLetShow
import Derived.Test.YtdpdcaglldojiaaDoorLetLaws
import Derived.Test.YtdpdcaglldojiaaDoorLetParseX
namespace Go.Proofs.YtdpdcaglldojiaaDoor
open Go.RowKit Go.Deep Go.Joins Go.ChangeShapes Go.WideShapes

theorem open_lines {H : Type} {enc : TypeId × Value → H} {w : World} {base b0 : Nat} {spare : Nat → Bool} {held : Bool} {v : Value} {d : DataW H} {p : List MemPlace}
    (hv : Value.okWide Tryd.prog w .any b0 34 v) (h : DataW.Trod enc Tryd.prog w base spare held 34 v d p) :
    ∃ a c, ∃ fs : List F, v = .slice a fs.length c ∧ FieldsAt w a fs ∧ fs.length ≤ maxLen ∧ ∀ f ∈ fs, f.1.length ≤ maxLen ∧ f.2.length ≤ maxLen := by
  obtain ⟨a0, len, cap, rfl⟩ := okWide_slice Tryd.underlying34 hv
  obtain ⟨fuel, hf⟩ := h
  obtain ⟨a, c, fs, e, hF, h1, h2, _⟩ := open_pairs Tryd.underlying34 Tryd.underlying56 (by kernel_rfl) rfl rfl (by kernel_rfl) (by kernel_rfl) Tryd.underlying9 Tryd.underlying9 (by simpa [Value.cells] using hf)
  exact ⟨a, c, fs, e, hF, h1, h2⟩

theorem wordC_name (c : UInt8) : nameC (wordC c) = true := by
  have h := wordC_nat c
  have h2 : (wordC c).toNat = 97 + c.toNat % 26 := by omega
  have h3 : wordC c ≠ 58 := fun e => by rw [e] at h2; simp at h2; omega
  simp [nameC, h2, h3]; omega
theorem word_name (l : List UInt8) : nameB (wordL l) = true := by
  unfold wordL
  split
  · decide
  · rename_i h
    have : wordK l 8 ≠ [] := by
      unfold wordK
      intro e
      have := congrArg List.length e
      simp at this
      exact h this
    simp only [nameB, Bool.and_eq_true, Bool.not_eq_true', List.all_eq_true]
    refine ⟨by cases hw : wordK l 8 with | nil => exact absurd hw this | cons a t => rfl, fun x hx => ?_⟩
    obtain ⟨c, _, rfl⟩ := List.mem_map.1 hx
    exact wordC_name c
theorem valK_mem {l : List UInt8} {k : Nat} {x : UInt8} (h : x ∈ valK l k) : ∃ i c, i < k ∧ x = valC l.length i c := by
  induction k with
  | zero => cases h
  | succ k ih =>
    rcases List.mem_append.1 h with h | h
    · obtain ⟨i, c, hi, e⟩ := ih h; exact ⟨i, c, by omega, e⟩
    · simp only [List.mem_singleton] at h; exact ⟨k, _, by omega, h⟩
theorem valC_not13 (n i : Nat) (c : UInt8) : valC n i c ≠ 13 := by
  unfold valC
  split
  · decide
  · rename_i h; intro e; exact h (.inl e)
theorem valL_end (l : List UInt8) : hasEnd (valL l) = false := by
  refine hasEnd_plain fun h => ?_
  obtain ⟨i, c, _, e⟩ := valK_mem h
  exact valC_not13 _ _ _ e.symm
theorem valC_edge {n i : Nat} {c : UInt8} (h : i = 0 ∨ i + 1 = n ∨ i = 39) : blankB (valC n i c) = false := by
  unfold valC
  split
  · decide
  · rename_i hn
    simp only [not_or, not_and] at hn
    unfold blankB
    simp only [Bool.or_eq_false_iff, beq_eq_false_iff_ne]
    refine ⟨fun e => ?_, fun e => ?_⟩
    · have := hn.2.2 (.inl e); rcases h with h | h | h
      · exact this.1 h
      · exact this.2.1 h
      · exact this.2.2 h
    · have := hn.2.2 (.inr e); rcases h with h | h | h
      · exact this.1 h
      · exact this.2.1 h
      · exact this.2.2 h
theorem valK_head {l : List UInt8} {k : Nat} {x : UInt8} (h : (valK l k).head? = some x) : ∃ c, x = valC l.length 0 c := by
  induction k with
  | zero => cases h
  | succ k ih =>
    cases k with
    | zero => simp [valK] at h; exact ⟨_, h.symm⟩
    | succ k =>
      have e : (valK l (k + 1 + 1)).head? = (valK l (k + 1)).head? := by
        show (valK l (k + 1) ++ _).head? = _
        cases hv : valK l (k + 1) with
        | nil => have := valK_len l (k + 1); rw [hv] at this; simp at this
        | cons a t => rfl
      rw [e] at h
      exact ih h
theorem valL_trim (l : List UInt8) : trimW (valL l) = valL l := by
  have := trim_core (a := []) (m := valL l) (b := []) (by simp) (by simp) ?_ ?_
  · simpa using this
  · intro x hx
    obtain ⟨c, rfl⟩ := valK_head hx
    exact valC_edge (.inl rfl)
  · intro x hx
    unfold valL at hx
    cases hk : min l.length 40 with
    | zero => rw [hk] at hx; cases hx
    | succ k =>
      rw [hk] at hx
      have : x = valC l.length k (l[k]?.getD 0) := by simpa [valK] using hx.symm
      rw [this]
      exact valC_edge (by omega)
theorem mk_may (f : F) : mayF (mkF f) = true := by
  simp only [mayF, mkF, valueB, word_name, valL_end, valL_trim, Bool.not_false, Bool.true_and, beq_self_eq_true]
theorem msg_may (fs : List F) : ∀ f ∈ msgK fs 6, mayF f = true := by
  intro f hf
  obtain ⟨g, _, rfl⟩ := List.mem_map.1 hf
  exact mk_may g
theorem msg_size (fs : List F) : ∀ f ∈ msgK fs 6, f.1.length ≤ 8 ∧ f.2.length ≤ 40 := by
  intro f hf
  obtain ⟨g, _, rfl⟩ := List.mem_map.1 hf
  exact ⟨wordL_len _, valL_len _⟩
theorem msg_len (fs : List F) : (msgK fs 6).length ≤ 6 := by simp [msgK]; omega
theorem msg_sum (fs : List F) : sumF (msgK fs 6) ≤ 312 := by
  have key : ∀ l : List F, (∀ f ∈ l, f.1.length ≤ 8 ∧ f.2.length ≤ 40) → sumF l ≤ l.length * 52 := by
    intro l
    induction l with
    | nil => intro _; simp [sumF]
    | cons f l ih =>
      intro h
      have h1 := h f (by simp)
      have h2 := ih fun g hg => h g (by simp [hg])
      have e : sumF (f :: l) = sizeF f + sumF l := by simp [sumF]
      rw [e]; simp only [sizeF, List.length_cons]; omega
  have := key _ (msg_size fs)
  have := msg_len fs
  omega
theorem msg_mild (fs : List F) (body : ByteArray) (hb : body.size ≤ 2000000) : Mild (msgK fs 6) body :=
  ⟨by have := msg_len fs; omega, hb, fun f hf => by have := msg_size fs f hf; omega⟩
theorem msg_fault (fs : List F) (body : List UInt8) (hb : body.length ≤ 200) : faultM (msgK fs 6) body = 0 := by
  have h1 := msg_len fs
  have h2 := msg_sum fs
  unfold faultM
  rw [if_neg (by omega), if_neg (by simpa using msg_may fs), if_neg (by omega)]
theorem msg_parse (fs : List F) (body : List UInt8) (hb : body.length ≤ 200) : parseM (textM (msgK fs 6) body) = (msgK fs 6, body, 0, 0) := by
  have h1 := msg_len fs
  have h2 := msg_sum fs
  unfold parseM
  rw [length_textM, if_neg (by omega)]
  exact parse_text (msg_may fs) (by omega)
theorem parse_isL (s : ByteArray) (fs : List F) (body : ByteArray) (p e : Int) (h : parseM s.data.toList = (fs, body.data.toList, p, e)) (w : World) (hs : s.size ≤ maxLen) (hm : maxLenCell w) :
    Calls Tryd.prog 9 #[.string s] w fun x w' => ∃ a c, x = .returned (.tuple #[.agg #[.slice a fs.length c, .string body], .int .i64 p, .int .i64 e]) ∧ FieldsAt w' a fs ∧ Below w.heap.size w w' := by
  have := parse_any s w hs hm
  rw [h] at this
  unfold parseV at this
  simp only [S_list] at this
  exact this
theorem text_size (fs : List F) (body : List UInt8) (hb : body.length ≤ 200) : (S (textM (msgK fs 6) body)).size ≤ maxLen ∧ 2 ≤ (S (textM (msgK fs 6) body)).size := by
  have h2 := msg_sum fs
  rw [size_S, length_textM]; unfold maxLen; omega
end Go.Proofs.YtdpdcaglldojiaaDoor
