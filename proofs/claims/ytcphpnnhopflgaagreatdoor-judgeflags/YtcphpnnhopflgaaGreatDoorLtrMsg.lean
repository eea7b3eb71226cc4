/-
  The letter that a law makes of raw bytes: what it is, and that it may be.
-/
import Derived.Test.YtcphpnnhopflgaaGreatDoorKeepLtr
import Derived.Test.YtcphpnnhopflgaaGreatDoorLetLines
import Derived.Test.YtcphpnnhopflgaaGreatDoorJudOpn
namespace Go.Proofs.YtcphpnnhopflgaaGreatDoor
open Go.RowKit Go.Proofs

def ltrM (fs : List F) : List F := (msgK fs 6).map ltrF
def ltrB (body : ByteArray) : ByteArray := cutB (cutB body 100) 200
def ltrO (fl fd tl td : ByteArray) (fs : List F) (body : ByteArray) : Opn :=
  ⟨(adrOf fl.data.toList fd.data.toList).1, (adrOf fl.data.toList fd.data.toList).2, (adrOf tl.data.toList td.data.toList).1, (adrOf tl.data.toList td.data.toList).2, textM (ltrM fs) (ltrB body).data.toList, ltrM fs, (ltrB body).data.toList⟩
theorem ltrName_ok (n : Nat) : nameB (ltrName n) = true ∧ (ltrName n).length ≤ 8 := by
  unfold ltrName
  have h : n % 5 < 5 := Nat.mod_lt _ (by omega)
  generalize n % 5 = q at *
  match q, h with
  | 0, _ | 1, _ | 2, _ | 3, _ | 4, _ => decide
theorem ann_ok : valueB annL = true := by decide +kernel
theorem ltrF_may {f : F} (h : mayF f = true) : mayF (ltrF f) = true := by
  unfold mayF ltrF at *
  simp only [Bool.and_eq_true] at *
  refine ⟨(ltrName_ok _).1, ?_⟩
  split
  · exact ann_ok
  · exact h.2
theorem ltr_may (fs : List F) : ∀ f ∈ ltrM fs, mayF f = true := by
  intro f hf
  obtain ⟨g, hg, rfl⟩ := List.mem_map.1 hf
  exact ltrF_may (msg_may fs g hg)
theorem ltr_size (fs : List F) : ∀ f ∈ ltrM fs, f.1.length ≤ 8 ∧ f.2.length ≤ 40 := by
  intro f hf
  obtain ⟨g, hg, rfl⟩ := List.mem_map.1 hf
  refine ⟨(ltrName_ok _).2, ?_⟩
  unfold ltrF
  simp only
  split
  · decide
  · exact (msg_size fs g hg).2
theorem ltr_len (fs : List F) : (ltrM fs).length ≤ 6 := by
  have := msg_len fs
  unfold ltrM
  rw [List.length_map]; exact this
theorem ltr_sum (fs : List F) : sumF (ltrM fs) ≤ 312 := by
  have key : ∀ l : List F, (∀ f ∈ l, f.1.length ≤ 8 ∧ f.2.length ≤ 40) → sumF l ≤ l.length * 52 := by
    intro l
    induction l with
    | nil => intro _; simp [sumF]
    | cons f l ih =>
      intro h
      have h1 := h f (by simp)
      have h2 := ih fun g hg => h g (by simp [hg])
      have e : sumF (f :: l) = sizeF f + sumF l := by simp [sumF]
      rw [e]; simp only [sizeF, List.length_cons]; omega
  have := key _ (ltr_size fs)
  have := ltr_len fs
  omega
theorem ltrB_size (body : ByteArray) : (ltrB body).size ≤ 100 := by unfold ltrB; rw [cutB_size, cutB_size]; omega
theorem ltr_fault (fs : List F) (body : ByteArray) : faultM (ltrM fs) (ltrB body).data.toList = 0 := by
  have h1 := ltr_len fs
  have h2 := ltr_sum fs
  have h3 := ltrB_size body
  rw [← size_list] at h3
  unfold faultM
  rw [if_neg (by omega), if_neg (by simpa using ltr_may fs), if_neg (by omega)]
theorem ltr_text (fs : List F) (body : ByteArray) : 2 ≤ (textM (ltrM fs) (ltrB body).data.toList).length ∧ (textM (ltrM fs) (ltrB body).data.toList).length ≤ 500 := by
  have h2 := ltr_sum fs
  have h3 := ltrB_size body
  rw [← size_list] at h3
  rw [length_textM]; omega
theorem ltr_parse (fs : List F) (body : ByteArray) : parseM (textM (ltrM fs) (ltrB body).data.toList) = (ltrM fs, (ltrB body).data.toList, 0, 0) := by
  have h := ltr_text fs body
  have h1 := ltr_len fs
  unfold parseM
  rw [if_neg (by omega)]
  exact parse_text (ltr_may fs) (by omega)
theorem ltr_opened (fl fd tl td : ByteArray) (fs : List F) (body : ByteArray) : Opened (ltrO fl fd tl td fs body) := by
  unfold Opened judgeL ltrO
  simp only
  rw [if_neg (by rw [(adrOf_lawful _ _).check]; simp), if_neg (by rw [(adrOf_lawful _ _).check]; simp), ltr_parse]
/-- What a maker of a letter hands back. -/
def LtrP (w : World) (o : Opn) (e : Ending) (w' : World) : Prop :=
  e = .returned (.tuple #[.agg #[.string (S o.fl), .string (S o.fd), .string (S o.tl), .string (S o.td), .string (S o.tx)], .bool true]) ∧ Below w.heap.size w w'
theorem letter_ok (fl fd fg tl td tg : ByteArray) (a : Option Addr) (c : Nat) (fs : List F) (body : ByteArray) (w : World) (hF : FieldsAt w a fs) (hl : fs.length ≤ maxLen) (hb : ∀ f ∈ fs, f.1.length ≤ maxLen ∧ f.2.length ≤ maxLen) (hbody : body.size ≤ maxLen) (h1 : fl.size ≤ maxLen) (h2 : fd.size ≤ maxLen) (h3 : tl.size ≤ maxLen) (h4 : td.size ≤ maxLen) (hm : maxLenCell w) :
    Calls Tryz.prog 4 #[.agg #[.string fl, .string fd, .string fg, .string tl, .string td, .string tg, .slice a fs.length c, .string body]] w (LtrP w (ltrO fl fd tl td fs body)) :=
  letter_any fl fd fg tl td tg a c fs body w hF hl hb hbody h1 h2 h3 h4 hm (fun f hf => (msg_size fs f hf).2) (ltrM fs) rfl (ltrB body) rfl
    ⟨by have := ltr_len fs; omega, by have := ltrB_size body; omega, fun f hf => by have := ltr_size fs f hf; omega⟩ (ltr_fault fs body) (by have := ltr_text fs body; omega)
end Go.Proofs.YtcphpnnhopflgaaGreatDoor
