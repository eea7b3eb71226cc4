
/-
  How an argument that holds fields is read: a slice of pairs of texts; a message; and how great it can be where its bulk is bounded.
  How an argument that holds raw lines is read; what the message that is made of them is.
-/
import Derived.Test.YtdjdmlcmjdapaaaDoorLetLines
import Derived.Test.YtdjdmlcmjdapaaaDoorLetPar
import Derived.Deep.SlicePairs
import Derived.Lib.SmallJoins
import Derived.ProofKit
import Derived.OpenShut
import Derived.Test.YtdjdmlcmjdapaaaDoorKeepMsg
import Derived.Test.YtdjdmlcmjdapaaaDoorLetShow
import Derived.Test.YtdjdmlcmjdapaaaDoorPure
namespace Go.Proofs.YtdjdmlcmjdapaaaDoor
open Go.RowKit Go.Deep Go.Joins Go.ChangeShapes Go.WideShapes

/- Bulk. -/
theorem bulk_one {H : Type} (d : DataW H) : 1 ≤ Rows.uptoBulk d := by
  cases d with
  | lit l => cases l <;> simp [Rows.uptoBulk]
  | nil => simp [Rows.uptoBulk]
  | ptr d => simp [Rows.uptoBulk]
  | slice elems spare => simp [Rows.uptoBulk]
  | agg parts => simp [Rows.uptoBulk]
  | iface t d => simp [Rows.uptoBulk]
  | map entries => simp [Rows.uptoBulk]
  | held h => simp [Rows.uptoBulk]
theorem bulk_part {H : Type} {d : DataW H} {l : List (DataW H)} (h : d ∈ l) : Rows.uptoBulk d ≤ Rows.uptoBulkAll l := by
  induction l with
  | nil => cases h
  | cons x r ih =>
    simp only [Rows.uptoBulkAll]
    cases List.mem_cons.1 h with
    | inl e => subst e; omega
    | inr e => have := ih e; omega
theorem bulk_len {H : Type} (l : List (DataW H)) : l.length ≤ Rows.uptoBulkAll l := by
  induction l with
  | nil => simp [Rows.uptoBulkAll]
  | cons x r ih => have := bulk_one x; simp only [Rows.uptoBulkAll, List.length_cons]; omega
theorem bulk_pair {H : Type} (f : F) : Rows.uptoBulk (pairD (H := H) f) = f.1.length + f.2.length + 3 := by
  simp [pairD, Rows.uptoBulk, Rows.uptoBulkAll]; omega
theorem bulk_fields {H : Type} {d : DataW H} {fs : List F} (h : (d = .nil ∧ fs = []) ∨ ∃ sp, d = .slice (fs.map pairD) sp) (n : Nat) (hn : Rows.uptoBulk d ≤ n) :
    fs.length ≤ n ∧ ∀ f ∈ fs, f.1.length ≤ n ∧ f.2.length ≤ n := by
  rcases h with ⟨rfl, rfl⟩ | ⟨sp, rfl⟩
  · simp
  · simp only [Rows.uptoBulk] at hn
    have h1 := bulk_len (fs.map (pairD (H := H)))
    rw [List.length_map] at h1
    refine ⟨by omega, fun f hf => ?_⟩
    have h2 := bulk_part (List.mem_map_of_mem (f := pairD (H := H)) hf)
    rw [bulk_pair] at h2
    omega

set_option maxRecDepth 100000 in
/-- A message, by value. -/
theorem open_message {H : Type} {enc : TypeId × Value → H} {w : World} {base b0 : Nat} {spare : Nat → Bool} {held : Bool} {v : Value} {d : DataW H} {p : List MemPlace}
    (hv : Value.okWide Tryd.prog w .any b0 25 v) (h : DataW.Trod enc Tryd.prog w base spare held 25 v d p) :
    ∃ a c, ∃ fs : List F, ∃ body : ByteArray, v = .agg #[.slice a fs.length c, .string body] ∧ FieldsAt w a fs ∧ (Rows.uptoBulk d ≤ 1048576 → fs.length ≤ 1048576 ∧ body.size ≤ 1048576 ∧ ∀ f ∈ fs, f.1.length ≤ 1048576 ∧ f.2.length ≤ 1048576) := by
  obtain ⟨v0, v1, y0, y1, m, rfl, rfl, rfl, h0, h1⟩ := open_agg2 Tryd.underlying25 (by kernel_rfl) (by kernel_rfl) hv h
  obtain ⟨s, e1, g1, _⟩ := DataW.trod_string Tryd.underlying9 h1
  simp only [List.cons.injEq, and_true] at e1
  subst e1
  obtain ⟨a, c, fs, rfl, hF, _, _, hd⟩ := open_pairs Tryd.underlying23 Tryd.underlying57 (by kernel_rfl) rfl rfl (by kernel_rfl) (by kernel_rfl) Tryd.underlying9 Tryd.underlying9 h0
  refine ⟨a, c, fs, s, rfl, hF, fun hk => ?_⟩
  have e : y1.1 = .lit (.string s.data.toList) := by rw [g1]
  rw [e] at hk
  simp only [Rows.uptoBulk, Rows.uptoBulkAll] at hk
  rw [size_list] at hk
  obtain ⟨h2, h3⟩ := bulk_fields hd (Rows.uptoBulk y0.1) (Nat.le_refl _)
  exact ⟨by omega, by omega, fun f hf => by have := h3 f hf; omega⟩
end Go.Proofs.YtdjdmlcmjdapaaaDoor

namespace Go.Proofs.YtdjdmlcmjdapaaaDoor
open Go.RowKit Go.Deep Go.Joins Go.ChangeShapes Go.WideShapes

set_option maxRecDepth 100000 in
theorem open_lines {H : Type} {enc : TypeId × Value → H} {w : World} {base b0 : Nat} {spare : Nat → Bool} {held : Bool} {v : Value} {d : DataW H} {p : List MemPlace}
    (hv : Value.okWide Tryd.prog w .any b0 22 v) (h : DataW.Trod enc Tryd.prog w base spare held 22 v d p) :
    ∃ a c, ∃ fs : List F, v = .slice a fs.length c ∧ FieldsAt w a fs ∧ fs.length ≤ maxLen ∧ ∀ f ∈ fs, f.1.length ≤ maxLen ∧ f.2.length ≤ maxLen := by
  obtain ⟨a0, len, cap, rfl⟩ := okWide_slice Tryd.underlying22 hv
  obtain ⟨fuel, hf⟩ := h
  obtain ⟨a, c, fs, e, hF, h1, h2, _⟩ := open_pairs Tryd.underlying22 Tryd.underlying56 (by kernel_rfl) rfl rfl (by kernel_rfl) (by kernel_rfl) Tryd.underlying9 Tryd.underlying9 (by simpa [Value.cells] using hf)
  exact ⟨a, c, fs, e, hF, h1, h2⟩

set_option maxRecDepth 100000 in
theorem msg_sum (fs : List F) : sumF (msgK fs 6) ≤ 312 := by
  have key : ∀ l : List F, (∀ f ∈ l, f.1.length ≤ 8 ∧ f.2.length ≤ 40) → sumF l ≤ l.length * 52 := by
    intro l
    induction l with
    | nil => intro _; simp [sumF]
    | cons f l ih =>
      intro h
      have h1 := h f (by simp)
      have h2 := ih fun g hg => h g (by simp [hg])
      have e : sumF (f :: l) = sizeF f + sumF l := by simp [sumF]
      rw [e]; simp only [sizeF, List.length_cons]; omega
  have := key _ (msg_size fs)
  have := msg_len fs
  omega
set_option maxRecDepth 100000 in
theorem msg_mild (fs : List F) (body : ByteArray) (hb : body.size ≤ 2000000) : Mild (msgK fs 6) body :=
  ⟨by have := msg_len fs; omega, hb, fun f hf => by have := msg_size fs f hf; omega⟩
set_option maxRecDepth 100000 in
theorem msg_fault (fs : List F) (body : List UInt8) (hb : body.length ≤ 200) : faultM (msgK fs 6) body = 0 := by
  have h1 := msg_len fs
  have h2 := msg_sum fs
  unfold faultM
  rw [if_neg (by omega), if_neg (by simpa using msg_may fs), if_neg (by omega)]
set_option maxRecDepth 100000 in
theorem msg_parse (fs : List F) (body : List UInt8) (hb : body.length ≤ 200) : parseM (textM (msgK fs 6) body) = (msgK fs 6, body, 0, 0) := by
  have h1 := msg_len fs
  have h2 := msg_sum fs
  unfold parseM
  rw [length_textM, if_neg (by omega)]
  exact parse_text (msg_may fs) (by omega)
set_option maxRecDepth 100000 in
theorem parse_isL (s : ByteArray) (fs : List F) (body : ByteArray) (p e : Int) (h : parseM s.data.toList = (fs, body.data.toList, p, e)) (w : World) (hs : s.size ≤ maxLen) (hm : maxLenCell w) :
    Calls Tryd.prog 7 #[.string s] w fun x w' => ∃ a c, x = .returned (.tuple #[.agg #[.slice a fs.length c, .string body], .int .i64 p, .int .i64 e]) ∧ FieldsAt w' a fs ∧ Below w.heap.size w w' := by
  have := parse_any s w hs hm
  rw [h] at this
  unfold parseV at this
  simp only [S_list] at this
  exact this
set_option maxRecDepth 100000 in
theorem text_size (fs : List F) (body : List UInt8) (hb : body.length ≤ 200) : (S (textM (msgK fs 6) body)).size ≤ maxLen ∧ 2 ≤ (S (textM (msgK fs 6) body)).size := by
  have h2 := msg_sum fs
  rw [size_S, length_textM]; unfold maxLen; omega
end Go.Proofs.YtdjdmlcmjdapaaaDoor
