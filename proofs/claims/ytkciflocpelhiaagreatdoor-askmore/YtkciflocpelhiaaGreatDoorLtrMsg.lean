/-
  The letter that a law makes of raw bytes: what it is, and that it may be.
-/
import Derived.Test.YtkciflocpelhiaaGreatDoorLtrFac
import Derived.Test.YtkciflocpelhiaaGreatDoorJudOpn
namespace Go.Proofs.YtkciflocpelhiaaGreatDoor
open Go.RowKit Go.Proofs

def ltrO (fl fd tl td : ByteArray) (fs : List F) (body : ByteArray) : Opn :=
  ⟨(adrOf fl.data.toList fd.data.toList).1, (adrOf fl.data.toList fd.data.toList).2, (adrOf tl.data.toList td.data.toList).1, (adrOf tl.data.toList td.data.toList).2, textM (ltrM fs) (ltrB body).data.toList, ltrM fs, (ltrB body).data.toList⟩
theorem ltr_opened (fl fd tl td : ByteArray) (fs : List F) (body : ByteArray) : Opened (ltrO fl fd tl td fs body) := by
  unfold Opened judgeL ltrO
  simp only
  rw [if_neg (by rw [(adrOf_lawful _ _).check]; simp), if_neg (by rw [(adrOf_lawful _ _).check]; simp), ltr_parse]
/-- What a maker of a letter hands back. -/
def LtrP (w : World) (o : Opn) (e : Ending) (w' : World) : Prop :=
  e = .returned (.tuple #[.agg #[.string (S o.fl), .string (S o.fd), .string (S o.tl), .string (S o.td), .string (S o.tx)], .bool true]) ∧ Below w.heap.size w w'
theorem letter_ok (fl fd fg tl td tg : ByteArray) (a : Option Addr) (c : Nat) (fs : List F) (body : ByteArray) (w : World) (hF : FieldsAt w a fs) (hl : fs.length ≤ maxLen) (hb : ∀ f ∈ fs, f.1.length ≤ maxLen ∧ f.2.length ≤ maxLen) (hbody : body.size ≤ maxLen) (h1 : fl.size ≤ maxLen) (h2 : fd.size ≤ maxLen) (h3 : tl.size ≤ maxLen) (h4 : td.size ≤ maxLen) (hm : maxLenCell w) :
    Calls Tryz.prog 4 #[.agg #[.string fl, .string fd, .string fg, .string tl, .string td, .string tg, .slice a fs.length c, .string body]] w (LtrP w (ltrO fl fd tl td fs body)) :=
  letter_any fl fd fg tl td tg a c fs body w hF hl hb hbody h1 h2 h3 h4 hm (fun f hf => (msg_size fs f hf).2) (ltrM fs) rfl (ltrB body) rfl
    ⟨by have := ltr_len fs; omega, by have := ltrB_size body; omega, fun f hf => by have := ltr_size fs f hf; omega⟩ (ltr_fault fs body) (by have := ltr_text fs body; omega)
end Go.Proofs.YtkciflocpelhiaaGreatDoor
