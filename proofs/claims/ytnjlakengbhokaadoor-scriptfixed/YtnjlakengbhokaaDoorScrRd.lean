/-
  The reader of tokens in memory: one block that holds the tokens and a place; what its small methods do: the walks.
-/
import Derived.Test.YtnjlakengbhokaaDoorScrCk
import Derived.Test.YtnjlakengbhokaaDoorTokMem
import Derived.Deep.QuietTactic
import Derived.BigQuiet
namespace Go.Proofs.YtnjlakengbhokaaDoor
open Go.RowKit Go.Proofs

/-- The reader's block: all tokens, and this rest is still to be read. -/
structure RdS (w : World) (b : Nat) (A : Option Addr) (C : Nat) (L r : List Tok) : Prop where
  heap : w.heap[b]? = some (.cells #[.slice A L.length C, .int .i64 (L.length - r.length : Nat)] 74)
  toks : ToksAt w A L
  low : ∀ (i : Nat) (x : Tok), L[i]? = some x → ∀ q o, A = some ⟨q, o, none⟩ → q < b
  rest : ∃ pre, L = pre ++ r
  small : L.length ≤ 400
theorem RdS.lt {w : World} {b : Nat} {A : Option Addr} {C : Nat} {L r : List Tok} (h : RdS w b A C L r) : b < w.heap.size := (Array.getElem?_eq_some_iff.1 h.heap).1
theorem RdS.len {w : World} {b : Nat} {A : Option Addr} {C : Nat} {L r : List Tok} (h : RdS w b A C L r) : r.length ≤ L.length := by
  obtain ⟨pre, rfl⟩ := h.rest; simp
theorem RdS.c0 {w : World} {b : Nat} {A : Option Addr} {C : Nat} {L r : List Tok} (h : RdS w b A C L r) : w.cell? ⟨b, 0, none⟩ = some (.slice A L.length C) := by simp [World.cell?, h.heap]
theorem RdS.c1 {w : World} {b : Nat} {A : Option Addr} {C : Nat} {L r : List Tok} (h : RdS w b A C L r) : w.cell? ⟨b, 1, none⟩ = some (.int .i64 (L.length - r.length : Nat)) := by simp [World.cell?, h.heap]
theorem RdS.z1 {w : World} {b : Nat} {A : Option Addr} {C : Nat} {L r : List Tok} (h : RdS w b A C L r) : w.frozen? ⟨b, 1, none⟩ = false := by simp [World.frozen?, h.heap]
theorem RdS.next {w w' : World} {b : Nat} {A : Option Addr} {C : Nat} {L r : List Tok} (h : RdS w b A C L r) (hb : Below w.heap.size w w') : RdS w' b A C L r :=
  ⟨(hb.block b h.lt).trans h.heap, h.toks.below hb, h.low, h.rest, h.small⟩
/-- The first of the rest lies there. -/
theorem RdS.at {w : World} {b : Nat} {A : Option Addr} {C : Nat} {L r : List Tok} {t : Tok} (h : RdS w b A C L (t :: r)) : ∃ q o, A = some ⟨q, o, none⟩ ∧ q < b ∧ L.length - (t :: r).length < L.length ∧
    w.cell? ⟨q, o + (L.length - (t :: r).length) * 3, none⟩ = some (.int .i64 t.kind) ∧ w.cell? ⟨q, o + (L.length - (t :: r).length) * 3 + 1, none⟩ = some (.string (S t.text)) ∧ w.cell? ⟨q, o + (L.length - (t :: r).length) * 3 + 2, none⟩ = some (.int .i64 t.num) := by
  obtain ⟨pre, hp⟩ := h.rest
  have hl : L.length - (t :: r).length = pre.length := by rw [hp]; simp
  have hx : L[L.length - (t :: r).length]? = some t := by rw [hl, hp]; simp
  obtain ⟨q, o, ha, _, h1, h2, h3⟩ := h.toks _ t hx
  refine ⟨q, o, ha, h.low _ _ hx q o ha, ?_, h1, h2, h3⟩
  have := (List.getElem?_eq_some_iff.1 hx).1
  exact this
theorem But.setO {b : Nat} (w : World) (o : Nat) (v : Value) : But b w (w.setCell ⟨b, o, none⟩ v) :=
  ⟨rfl, rfl, rfl, by simp [World.setCell], fun k _ hn => Below.heap_setCell _ _ _ _ hn⟩
theorem RdS.step {w : World} {b : Nat} {A : Option Addr} {C : Nat} {L r : List Tok} {t : Tok} (h : RdS w b A C L (t :: r)) : RdS (w.setCell ⟨b, 1, none⟩ (.int .i64 (L.length - r.length : Nat))) b A C L r := by
  have hb : Below b w (w.setCell ⟨b, 1, none⟩ (.int .i64 (L.length - r.length : Nat)))   := (Below.refl b w).setCell (p := ⟨b, 1, none⟩) (Nat.le_refl b) _
  refine ⟨?_, ?_, h.low, ?_, h.small⟩
  · have := setCell_mark (i := 1) (.int .i64 (L.length - r.length : Nat)) h.heap
    simpa using this
  · intro i x hx
    obtain ⟨q, o, ha, hq, h1, h2, h3⟩ := h.toks i x hx
    have hqb := h.low _ _ hx q o ha
    exact ⟨q, o, ha, by simpa [World.setCell] using hq, (hb.cell hqb).trans h1, (hb.cell hqb).trans h2, (hb.cell hqb).trans h3⟩
  · obtain ⟨pre, hp⟩ := h.rest
    exact ⟨pre ++ [t], by rw [hp]; simp⟩
def nextT (r : List Tok) : Tok := match r with | [] => zeroT | t :: _ => t

set_option maxHeartbeats 4000000 in
theorem rended_draw (b : Nat) (A : Option Addr) (C : Nat) (L r : List Tok) (w : World) (h : RdS w b A C L r) :
    Calls Tryd.prog 41 #[.pointer (some ⟨b, 0, none⟩)] w fun e w' => e = .returned (.bool r.isEmpty) ∧ ∃ k, w' = w.drewN k := by
  have c0 := h.c0
  have c1 := h.c1
  have hlen := h.len
  cases r with
  | nil =>
    simp at c1
    clear h
    go_enter Tryd.func41, Tryd.ntmps41
    go_wp2
    go_quiet (fail)
    go_wp2
    go_ret
    exact ⟨rfl, nq, rfl⟩
  | cons t r =>
    obtain ⟨i, hie⟩ : ∃ i, i = L.length - (t :: r).length := ⟨_, rfl⟩
    rw [← hie] at c1
    have hin : ((i : Int) == (L.length : Int)) = false := by
      rw [beq_eq_false_iff_ne]
      simp at hlen hie
      omega
    clear h hie
    go_enter Tryd.func41, Tryd.ntmps41
    go_wp2
    go_quiet (fail)
    go_wp2
    go_ret
    exact ⟨rfl, nq, rfl⟩

theorem rended_any (b : Nat) (A : Option Addr) (C : Nat) (L r : List Tok) (w : World) (h : RdS w b A C L r) :
    Calls Tryd.prog 41 #[.pointer (some ⟨b, 0, none⟩)] w fun e w' => e = .returned (.bool r.isEmpty) ∧ Below w.heap.size w w' := by
  refine (rended_draw b A C L r w h).mono ?_
  rintro e w' ⟨he, k, rfl⟩
  exact ⟨he, wdrew (Below.refl _ _) k⟩

set_option maxHeartbeats 4000000 in
theorem rnext_any (b : Nat) (A : Option Addr) (C : Nat) (L r : List Tok) (w : World) (h : RdS w b A C L r) :
    Calls Tryd.prog 76 #[.pointer (some ⟨b, 0, none⟩)] w fun e w' => e = .returned (tokV (nextT r)) ∧ Below w.heap.size w w' := by
  have hbl := h.lt
  have hne : b ≠ w.heap.size := by omega
  have c0 := h.c0
  have c1 := h.c1
  have hlen := h.len
  have hsm := h.small
  have H := hid h
  obtain ⟨W0, hW0⟩ : ∃ W0, W0 = w.alloc (.cells #[.int .i64 0, .string ⟨#[]⟩, .int .i64 0] 44) := ⟨_, rfl⟩
  have hal : Below w.heap.size w W0 := by rw [hW0]; exact (Below.refl _ _).alloc (Nat.le_refl _) _
  have HWE := hid hW0
  have HAL := hid hal
  clear hW0 hal
  cases r with
  | nil =>
    simp at c1
    clear h
    go_enter Tryd.func76, Tryd.ntmps76
    go_wp2_with fail
    rw [← HWE.out]
    refine (rended_draw b A C L [] W0 (H.out.next HAL.out)).mono ?_
    rintro e w1 ⟨rfl, nq, hw1⟩
    rw [HWE.out] at hw1
    subst hw1
    go_wp2
    refine bodyPost_ret (v := tokV zeroT) (by simp [results, Tryd.results76, go_sem, tokV, zeroT, S]) rfl ⟨rfl, ?_⟩
    exact (((wdrew ((Below.refl _ _).alloc (Nat.le_refl _) _) _).setCell (Nat.le_refl _) _).setCell (Nat.le_refl _) _).setCell (Nat.le_refl _) _
  | cons t r =>
    obtain ⟨q, o, rfl, hq, hi, e0, e1, e2⟩ := h.at
    obtain ⟨i, hie⟩ : ∃ i, i = L.length - (t :: r).length := ⟨_, rfl⟩
    rw [← hie] at c1 hi e0 e1 e2
    clear hie
    have hi1 : (i : Int) < (L.length : Int) := by omega
    have hi0 : (0 : Int) ≤ (i : Int) := by omega
    have hqn : q ≠ w.heap.size := by omega
    have hqs : q < w.heap.size := by omega
    clear h
    go_enter Tryd.func76, Tryd.ntmps76
    go_wp2_with fail
    rw [← HWE.out]
    refine (rended_draw b _ C L (t :: r) W0 (H.out.next HAL.out)).mono ?_
    rintro e w1 ⟨rfl, nq, hw1⟩
    rw [HWE.out] at hw1
    subst hw1
    go_wp2
    go_region
    all_goals go_wp2
    all_goals refine bodyPost_ret (v := tokV t) (by simp [results, Tryd.results76, go_sem, tokV]) rfl ⟨rfl, ?_⟩
    all_goals exact (((wdrew ((Below.refl _ _).alloc (Nat.le_refl _) _) _).setCell (Nat.le_refl _) _).setCell (Nat.le_refl _) _).setCell (Nat.le_refl _) _
end Go.Proofs.YtnjlakengbhokaaDoor
