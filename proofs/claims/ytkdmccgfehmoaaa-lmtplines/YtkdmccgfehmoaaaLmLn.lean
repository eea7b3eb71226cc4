/-
  lmtp.Line's answer, in its parts and in a box.
-/
import Derived.Test.YtkdmccgfehmoaaaLmLine
import Derived.Test.YtkdmccgfehmoaaaLmLaw
namespace Go.Proofs.Ytkdmccgfehmoaaa
open Go.RowKit Go.Proofs

theorem may_fit {s : Ses} (h : mayS s = true) : Fit s := by
  obtain ⟨p0, p5, ps, pg, pt⟩ := mayS_parts.1 h
  have hf : s.frm.1.length ≤ 100 ∧ s.frm.2.length ≤ 100 := by
    unfold senderS at ps
    split at ps
    · simp only [Bool.and_eq_true, List.isEmpty_iff] at ps
      rw [ps.1, ps.2]; simp
    · have := adrOk_len ps
      omega
  have ht : s.text.length ≤ 2000 := by
    unfold textS at pt
    split at pt
    · simpa using pt
    · simp only [Bool.and_eq_true, List.isEmpty_iff] at pt
      rw [pt.1]; simp
  have hg : ∀ x ∈ s.to, x.1.length + 1 + x.2.length ≤ 100 := by
    unfold goalsS at pg
    split at pg
    · simp only [List.isEmpty_iff] at pg
      rw [pg]; simp
    · simp only [Bool.and_eq_true] at pg
      exact fun x hx => adrOk_len (diffA_mem pg.2 hx)
  exact ⟨by omega, by omega, by omega, by omega, by omega, fun x hx => by have := hg x hx; omega⟩
theorem may_to {s : Ses} (h : mayS s = true) : s.to.length ≤ 5 := by
  have h := (mayS_parts.1 h).2.2.2.1
  unfold goalsS at h
  split at h
  · have : s.to = [] := by simpa using h
    rw [this]; simp
  · simp only [Bool.and_eq_true, decide_eq_true_eq] at h
    exact h.1.2
/-- What Line hands back, a world W being older than the call's. -/
def LnG (W u : World) (r : Ses) (c : Int) (ls : List Ltr) (e : Ending) (w' : World) : Prop := ∃ a k al cl, e = .returned (.tuple #[.agg #[.int .i64 r.step, .string (S r.frm.1), .string (S r.frm.2), .slice a r.to.length k, .string (S r.text), .bool r.large], .int .i64 c, .slice al ls.length cl, .int .i64 0]) ∧ OwnL w' u.heap.size (.slice a r.to.length k) r.to ∧ OwnT w' u.heap.size (.slice al ls.length cl) ls ∧ Below u.heap.size u w' ∧ Below W.heap.size W w' ∧ W.heap.size ≤ u.heap.size
theorem line_ok {W u : World} {s r : Ses} {c : Int} {ls : List Ltr} {known : List (List UInt8)} {line : List UInt8} {a : Option Addr} {k : Nat} {kv : Value} (hm : mayS s = true) (hl : lineM s known line = (r, c, ls)) (ha : AdrsM anyB u (.slice a s.to.length k) s.to) (hr : Roomy (.slice a s.to.length k)) (hk : TxtsM anyB u kv known) (hn : line.length ≤ 140737488355328) (hu : Below W.heap.size W u) :
    Calls Try.prog 8 #[.agg #[.int .i64 s.step, .string (S s.frm.1), .string (S s.frm.2), .slice a s.to.length k, .string (S s.text), .bool s.large], kv, .string (S line)] u (LnG W u r c ls) := by
  refine (line_any anyB s (.slice a s.to.length k) kv known line u (may_fit hm) hr ha hk hn).mono ?_
  rintro e w' ⟨h1, _, h3⟩
  obtain ⟨v, lv, he, ho, ht⟩ := h1 hm
  rw [hl] at he ho ht
  simp only at he ho ht
  obtain ⟨a', k', rfl⟩ := ho.slice
  obtain ⟨al, cl, rfl⟩ := ht.slice
  exact ⟨a', k', al, cl, he, ho, ht, h3, hu.trans (h3.mono hu.size), hu.size⟩
/-- A session lies in a box, its list in a row that was made from a block on. -/
def SesB (w : World) (b B : Nat) (s : Ses) : Prop := ∃ a k, w.heap[b]? = some (.cells #[.int .i64 s.step, .string (S s.frm.1), .string (S s.frm.2), .slice a s.to.length k, .string (S s.text), .bool s.large] 26) ∧ OwnL w B (.slice a s.to.length k) s.to
theorem own_roomy {w : World} {B : Nat} {v : Value} {l : List Adr} (h : OwnL w B v l) : Roomy v := by
  intro a n c hv
  rcases h.2 with ⟨h1, h2⟩ | ⟨g, cap, cur, h1, hb, hg, h2, h3, h4, h5⟩
  · rw [h1] at hv; cases hv; exact Nat.le_refl _
  · rw [h1] at hv; cases hv; omega
theorem SesB.next {w w' : World} {b B : Nat} {s : Ses} (h : SesB w b B s) (hb : Below w.heap.size w w') : SesB w' b B s := by
  obtain ⟨a, k, h1, h2⟩ := h
  exact ⟨a, k, lm_next hb h1, own_next h2 hb⟩
theorem SesB.from {w : World} {b B B' : Nat} {s : Ses} (h : SesB w b B s) (hb : B' ≤ B) : SesB w b B' s := by
  obtain ⟨a, k, h1, h2⟩ := h
  exact ⟨a, k, h1, own_from h2 hb⟩
/-- What Line hands back, stored: the session in a box of its own. -/
def LnB (W : World) (r : Ses) (c : Int) (ls : List Ltr) (vp vc vl ve : Value) (wx : World) : Prop := ∃ P al cl, vp = .pointer (some ⟨P, 0, none⟩) ∧ vc = .int .i64 c ∧ vl = .slice al ls.length cl ∧ ve = .int .i64 0 ∧ W.heap.size ≤ P ∧ SesB wx P W.heap.size r ∧ OwnT wx W.heap.size (.slice al ls.length cl) ls ∧ Below W.heap.size W wx
theorem LnB.new {W u w' : World} {r : Ses} {c : Int} {ls : List Ltr} {a al : Option Addr} {k cl : Nat} (h1 : OwnL w' u.heap.size (.slice a r.to.length k) r.to) (h2 : OwnT w' u.heap.size (.slice al ls.length cl) ls) (h4 : Below W.heap.size W w') (h5 : W.heap.size ≤ u.heap.size) :
    LnB W r c ls (.pointer (some ⟨w'.heap.size, 0, none⟩)) (.int .i64 c) (.slice al ls.length cl) (.int .i64 0) (w'.alloc (.cells #[.int .i64 r.step, .string (S r.frm.1), .string (S r.frm.2), .slice a r.to.length k, .string (S r.text), .bool r.large] 26)) := by
  have hn : Below w'.heap.size w' (w'.alloc (.cells #[.int .i64 r.step, .string (S r.frm.1), .string (S r.frm.2), .slice a r.to.length k, .string (S r.text), .bool r.large] 26)) := (Below.refl _ _).alloc (Nat.le_refl _) _
  exact ⟨_, al, cl, rfl, rfl, rfl, rfl, h4.size, ⟨a, k, heap_alloc_new _ _, own_next (own_from h1 h5) hn⟩, ownT_next (ownT_from h2 h5) hn, h4.alloc h4.size _⟩
theorem LnB.old {W u w' : World} {r : Ses} {c : Int} {ls : List Ltr} {a al : Option Addr} {k cl P : Nat} {v0 v1 v2 v3 v4 v5 : Value} (h1 : OwnL w' u.heap.size (.slice a r.to.length k) r.to) (h2 : OwnT w' u.heap.size (.slice al ls.length cl) ls) (h4 : Below W.heap.size W w') (h5 : W.heap.size ≤ u.heap.size) (hP : W.heap.size ≤ P) (hl : P < u.heap.size) (hk : w'.heap[P]? = some (.cells #[v0, v1, v2, v3, v4, v5] 26)) :
    LnB W r c ls (.pointer (some ⟨P, 0, none⟩)) (.int .i64 c) (.slice al ls.length cl) (.int .i64 0) ((((((w'.setCell ⟨P, 0, none⟩ (.int .i64 r.step)).setCell ⟨P, 1, none⟩ (.string (S r.frm.1))).setCell ⟨P, 2, none⟩ (.string (S r.frm.2))).setCell ⟨P, 3, none⟩ (.slice a r.to.length k)).setCell ⟨P, 4, none⟩ (.string (S r.text))).setCell ⟨P, 5, none⟩ (.bool r.large)) := by
  exact ⟨_, al, cl, rfl, rfl, rfl, rfl, hP, ⟨a, k, six_put' hk, own_from (own_low (own_low (own_low (own_low (own_low (own_low h1 hl) hl) hl) hl) hl) hl) h5⟩, ownT_from (ownT_low (ownT_low (ownT_low (ownT_low (ownT_low (ownT_low h2 hl) hl) hl) hl) hl) hl) h5, h4.trans (low7 w' _ _ _ _ _ _ hP)⟩
/-- A session's box is written with another one's cells. -/
theorem SesB.copy {w : World} {b B P : Nat} {r : Ses} {a : Option Addr} {k : Nat} {v0 v1 v2 v3 v4 v5 : Value} (hk : w.heap[b]? = some (.cells #[v0, v1, v2, v3, v4, v5] 26)) (ho : OwnL w P (.slice a r.to.length k) r.to) (hb : b < P) (hB : B ≤ P) :
    SesB ((((((w.setCell ⟨b, 0, none⟩ (.int .i64 r.step)).setCell ⟨b, 1, none⟩ (.string (S r.frm.1))).setCell ⟨b, 2, none⟩ (.string (S r.frm.2))).setCell ⟨b, 3, none⟩ (.slice a r.to.length k)).setCell ⟨b, 4, none⟩ (.string (S r.text))).setCell ⟨b, 5, none⟩ (.bool r.large)) b B r :=
  ⟨a, k, six_put' hk, own_from (own_low (own_low (own_low (own_low (own_low (own_low ho hb) hb) hb) hb) hb) hb) hB⟩
/-- A row of one text. -/
theorem txt_one {w : World} {q c : Nat} {t : List UInt8} (h : w.heap[q]? = some (.cells #[.string (S t)] 9)) : TxtsM anyB w (.slice (some ⟨q, 0, none⟩) 1 c) [t] := by
  refine ⟨some ⟨q, 0, none⟩, c, rfl, by simp [maxLen], fun i x hx => ?_⟩
  have hi : i < 1 := (List.getElem?_eq_some_iff.1 hx).1
  obtain rfl : i = 0 := by omega
  simp only [List.getElem?_cons_zero, Option.some.injEq] at hx
  subst hx
  refine ⟨q, 0, [.string (S t)], rfl, (Array.getElem?_eq_some_iff.1 h).1, trivial, rfl, fun j u hj => ?_, rfl⟩
  match j, hj with
  | 0, hj => cases hj; simp [World.cell?, h]
theorem lm_at0 {w : World} (o : Obj) : (w.alloc o).heap[w.heap.size]? = some o := heap_alloc_new w o
theorem lm_at1 {w : World} (p o : Obj) : ((w.alloc p).alloc o).heap[w.heap.size + 1]? = some o := heap_at _ (by simp)
theorem lm_at2 {w : World} (p q o : Obj) : (((w.alloc p).alloc q).alloc o).heap[w.heap.size + 2]? = some o := heap_at _ (by simp)
theorem lm_up0 {w : World} (p o : Obj) : ((w.alloc p).alloc o).heap[w.heap.size]? = some p := heap_old _ (heap_alloc_new w p)
theorem lm_up1 {w : World} (p q o : Obj) : (((w.alloc p).alloc q).alloc o).heap[w.heap.size + 1]? = some q := heap_old _ (lm_at1 p q)
theorem lm_up2 {w : World} (p q o : Obj) : (((w.alloc p).alloc q).alloc o).heap[w.heap.size]? = some p := heap_old _ (lm_up0 p q)
theorem txt_none (w : World) : TxtsM anyB w (.slice none 0 0) [] := ⟨none, 0, rfl, by simp, fun i x h => by simp at h⟩
end Go.Proofs.Ytkdmccgfehmoaaa
