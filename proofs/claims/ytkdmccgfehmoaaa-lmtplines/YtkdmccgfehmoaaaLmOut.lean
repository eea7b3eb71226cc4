/-
  What Line and Lined hand back, for every session: one plain answer, and how it is stored.
-/
import Derived.Test.YtkdmccgfehmoaaaRefCmd
import Derived.Test.YtkdmccgfehmoaaaRefLin
namespace Go.Proofs.Ytkdmccgfehmoaaa
open Go.RowKit Go.Proofs

/-- P12.4, for every session. -/
def outM (s : Ses) (known : List (List UInt8)) (line : List UInt8) : Ses × Int × List Ltr × Int :=
  if mayS s = true then ((lineM s known line).1, (lineM s known line).2.1, (lineM s known line).2.2, 0) else (atS 0, 0, [], 11)
theorem out_len {s r : Ses} {known : List (List UInt8)} {line : List UInt8} {c er : Int} {ls : List Ltr} (h : outM s known line = (r, c, ls, er)) : r.to.length ≤ 5 ∧ ls.length ≤ 5 := by
  unfold outM at h
  split at h
  · rename_i hm
    simp only [Prod.mk.injEq] at h
    obtain ⟨rfl, _, rfl, _⟩ := h
    refine ⟨may_to (may_line hm known line), ?_⟩
    have h5 := may_to hm
    unfold lineM bodyM
    split
    · simp
    · split
      · split
        · simp only [lettersM, List.length_map]; exact h5
        · simp
      · simp
  · simp only [Prod.mk.injEq] at h
    obtain ⟨rfl, _, rfl, _⟩ := h
    simp [atS]
/-- What Line hands back, a world W being older than the call's. -/
def LxG (W u : World) (r : Ses) (c : Int) (ls : List Ltr) (er : Int) (e : Ending) (w' : World) : Prop := ∃ a k al cl, e = .returned (.tuple #[.agg #[.int .i64 r.step, .string (S r.frm.1), .string (S r.frm.2), .slice a r.to.length k, .string (S r.text), .bool r.large], .int .i64 c, .slice al ls.length cl, .int .i64 er]) ∧ OwnL w' u.heap.size (.slice a r.to.length k) r.to ∧ OwnT w' u.heap.size (.slice al ls.length cl) ls ∧ Below u.heap.size u w' ∧ Below W.heap.size W w' ∧ W.heap.size ≤ u.heap.size
theorem line_x {W u : World} {s r : Ses} {c er : Int} {ls : List Ltr} {known : List (List UInt8)} {line : List UInt8} {a ka : Option Addr} {k kc : Nat} (hf : Fit s) (hl : outM s known line = (r, c, ls, er)) (ha : AdrsM anyB u (.slice a s.to.length k) s.to) (hr : Roomy (.slice a s.to.length k)) (hk : TxtsM anyB u (.slice ka known.length kc) known) (hn : line.length ≤ 140737488355328) (hu : Below W.heap.size W u) :
    Calls Try.prog 8 #[.agg #[.int .i64 s.step, .string (S s.frm.1), .string (S s.frm.2), .slice a s.to.length k, .string (S s.text), .bool s.large], .slice ka known.length kc, .string (S line)] u (LxG W u r c ls er) := by
  refine (line_any anyB s (.slice a s.to.length k) _ known line u hf hr ha hk hn).mono ?_
  rintro e w' ⟨h1, h2, h3⟩
  unfold outM at hl
  by_cases hm : mayS s = true
  · rw [if_pos hm] at hl
    obtain ⟨v, lv, he, ho, ht⟩ := h1 hm
    simp only [Prod.mk.injEq] at hl
    obtain ⟨e1, e2, e3, e4⟩ := hl
    rw [e1, e2] at he
    rw [e1] at ho
    rw [e3] at ht
    obtain ⟨a', k', rfl⟩ := ho.slice
    obtain ⟨al, cl, rfl⟩ := ht.slice
    subst e4
    exact ⟨a', k', al, cl, he, ho, ht, h3, hu.trans (h3.mono hu.size), hu.size⟩
  · rw [if_neg hm] at hl
    have he := h2 (by simpa using hm)
    simp only [Prod.mk.injEq] at hl
    obtain ⟨rfl, rfl, rfl, rfl⟩ := hl
    exact ⟨none, 0, none, 0, he, OwnL.nil _ _, OwnT.nil _ _, h3, hu.trans (h3.mono hu.size), hu.size⟩
/-- What Lined hands back. -/
def LyG (u : World) (r : Ses) (c : Int) (ls : List Ltr) (er : Int) (e : Ending) (w' : World) : Prop := ∃ a k al cl, e = .returned (.tuple #[.agg #[.int .i64 r.step, .string (S r.frm.1), .string (S r.frm.2), .slice a r.to.length k, .string (S r.text), .bool r.large], .int .i64 c, .slice al ls.length cl, .int .i64 er]) ∧ AdrsM anyB w' (.slice a r.to.length k) r.to ∧ LtrsM anyB w' (.slice al ls.length cl) ls ∧ Below u.heap.size u w'
theorem cmd_ok : CmdOk := fun Q s a k known ka kc line w hm ha hQ hk hl => commandedR_any Q s a k known ka kc line w hm ha hQ hk hl
theorem lined_x {u : World} {s r : Ses} {c er : Int} {ls : List Ltr} {known : List (List UInt8)} {line : List UInt8} {a ka : Option Addr} {k kc : Nat} (hf : Fit s) (hl : outM s known line = (r, c, ls, er)) (ha : AdrsM anyB u (.slice a s.to.length k) s.to) (hr : Roomy (.slice a s.to.length k)) (hk : TxtsM anyB u (.slice ka known.length kc) known) (hn : line.length ≤ 140737488355328) :
    Calls Try.prog 10 #[.agg #[.int .i64 s.step, .string (S s.frm.1), .string (S s.frm.2), .slice a s.to.length k, .string (S s.text), .bool s.large], .slice ka known.length kc, .string (S line)] u (LyG u r c ls er) := by
  refine (lined_any cmd_ok s a k known ka kc line u hf hr ha hk hn).mono ?_
  rintro e w' ⟨h1, h2, h3⟩
  unfold outM at hl
  by_cases hm : mayS s = true
  · rw [if_pos hm] at hl
    obtain ⟨v, lv, he, ho, ht⟩ := h1 hm
    simp only [Prod.mk.injEq] at hl
    obtain ⟨e1, e2, e3, e4⟩ := hl
    rw [e1, e2] at he
    rw [e1] at ho
    rw [e3] at ht
    obtain ⟨a', k', rfl⟩ : ∃ a' k', v = .slice a' r.to.length k' := by obtain ⟨a', k', h, _⟩ := ho; exact ⟨a', k', h⟩
    obtain ⟨al, cl, rfl⟩ : ∃ a' k', lv = .slice a' ls.length k' := by obtain ⟨a', k', h, _⟩ := ht; exact ⟨a', k', h⟩
    subst e4
    exact ⟨a', k', al, cl, he, ho, ht, h3⟩
  · rw [if_neg hm] at hl
    have he := h2 (by simpa using hm)
    simp only [Prod.mk.injEq] at hl
    obtain ⟨rfl, rfl, rfl, rfl⟩ := hl
    exact ⟨none, 0, none, 0, he, adrs_nilQ _ _, ltrs_nil _ _, h3⟩
/-- What Line hands back, stored: the session in a box of its own. -/
def LxB (W : World) (r : Ses) (c : Int) (ls : List Ltr) (er : Int) (vp vc vl ve : Value) (wx : World) : Prop := ∃ P al cl, vp = .pointer (some ⟨P, 0, none⟩) ∧ vc = .int .i64 c ∧ vl = .slice al ls.length cl ∧ ve = .int .i64 er ∧ SesB wx P W.heap.size r ∧ OwnT wx W.heap.size (.slice al ls.length cl) ls ∧ Below W.heap.size W wx
theorem LxB.new {W u w' : World} {r : Ses} {c er : Int} {ls : List Ltr} {a al : Option Addr} {k cl : Nat} (h1 : OwnL w' u.heap.size (.slice a r.to.length k) r.to) (h2 : OwnT w' u.heap.size (.slice al ls.length cl) ls) (h4 : Below W.heap.size W w') (h5 : W.heap.size ≤ u.heap.size) :
    LxB W r c ls er (.pointer (some ⟨w'.heap.size, 0, none⟩)) (.int .i64 c) (.slice al ls.length cl) (.int .i64 er) (w'.alloc (.cells #[.int .i64 r.step, .string (S r.frm.1), .string (S r.frm.2), .slice a r.to.length k, .string (S r.text), .bool r.large] 26)) := by
  obtain ⟨P, al', cl', e1, _, e3, _, _, h6, h7, h8⟩ := LnB.new (c := c) h1 h2 h4 h5
  exact ⟨P, al', cl', e1, rfl, e3, rfl, h6, h7, h8⟩
theorem LxB.old {W u w' : World} {r : Ses} {c er : Int} {ls : List Ltr} {a al : Option Addr} {k cl P : Nat} {v0 v1 v2 v3 v4 v5 : Value} (h1 : OwnL w' u.heap.size (.slice a r.to.length k) r.to) (h2 : OwnT w' u.heap.size (.slice al ls.length cl) ls) (h4 : Below W.heap.size W w') (h5 : W.heap.size ≤ u.heap.size) (hP : W.heap.size ≤ P) (hl : P < u.heap.size) (hk : w'.heap[P]? = some (.cells #[v0, v1, v2, v3, v4, v5] 26)) :
    LxB W r c ls er (.pointer (some ⟨P, 0, none⟩)) (.int .i64 c) (.slice al ls.length cl) (.int .i64 er) ((((((w'.setCell ⟨P, 0, none⟩ (.int .i64 r.step)).setCell ⟨P, 1, none⟩ (.string (S r.frm.1))).setCell ⟨P, 2, none⟩ (.string (S r.frm.2))).setCell ⟨P, 3, none⟩ (.slice a r.to.length k)).setCell ⟨P, 4, none⟩ (.string (S r.text))).setCell ⟨P, 5, none⟩ (.bool r.large)) := by
  obtain ⟨Q, al', cl', e1, _, e3, _, _, h6, h7, h8⟩ := LnB.old (c := c) h1 h2 h4 h5 hP hl hk
  exact ⟨Q, al', cl', e1, rfl, e3, rfl, h6, h7, h8⟩
theorem txts_next {w w' : World} {v : Value} {l : List (List UInt8)} (h : TxtsM anyB w v l) (hb : Below w.heap.size w w') : TxtsM anyB w' v l := TxtsM.imp h (fun _ h => h) (Keeps.of_below hb)
theorem txts_slice {w : World} {v : Value} {l : List (List UInt8)} (h : TxtsM anyB w v l) : ∃ a c, v = .slice a l.length c := by
  obtain ⟨a, c, h, _⟩ := h
  exact ⟨a, c, h⟩
end Go.Proofs.Ytkdmccgfehmoaaa
