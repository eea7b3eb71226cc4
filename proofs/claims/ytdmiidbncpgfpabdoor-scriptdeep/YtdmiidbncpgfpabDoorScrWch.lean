/-
  What script's writer.branches does: the walk. Its loop goes down what is else.
-/
import Derived.Test.YtdmiidbncpgfpabDoorScrWcmd
namespace Go.Proofs.YtdmiidbncpgfpabDoor
open Go.RowKit Go.Proofs

/-- What stands behind the block of an If. -/
def tailT (m : Nat) (c : Cmd) : List Tok :=
  match elsifP c.els with
  | some x => wordT elsifW :: restT m x
  | none => if c.els.length = 0 then [] else wordT elseW :: (markT 123 :: (cmdsT m c.els ++ [markT 125]))
theorem restT_if (m : Nat) (c : Cmd) (h : c.kind = 2) : restT (m + 1) c = testT m c.test ++ ((markT 123 :: (cmdsT m c.thn ++ [markT 125])) ++ tailT m c) := by
  rw [restT, if_pos h, List.append_assoc]
  unfold tailT cmdsT cmdT
  cases elsifP c.els with
  | some x => rfl
  | none => rfl
/-- How many Ifs go down what is else, in memory. -/
def chainW : Nat → World → Value → Nat
  | 0, _, _ => 0
  | f + 1, w, .slice (some a) 1 _ => (match w.cell? ⟨a.block, a.off, none⟩ with
      | some (.int .i64 2) => (match w.cell? ⟨a.block, a.off + 11, none⟩ with | some v => 1 + chainW f w v | none => 1)
      | _ => 0)
  | _ + 1, _, _ => 0
def chainP : Nat → List Cmd → Nat
  | 0, _ => 0
  | f + 1, els => match elsifP els with | some x => 1 + chainP f x.els | none => 0
theorem chain_eq {Q : Nat → Prop} {w : World} : ∀ (f m : Nat) (els : List Cmd) (v : Value), CmdsM Q m w v els → chainW f w v = chainP f els := by
  intro f
  induction f with
  | zero => intro m els v _; rfl
  | succ f ih =>
    intro m els v h
    obtain ⟨a, c, rfl⟩ := h.slice
    unfold chainP
    cases he : elsifP els with
    | some x =>
      obtain ⟨rfl, hk⟩ := elsifP_some he
      obtain ⟨q, o, ax, cx, an, cn, ak, ck, at', ct, aa, ca, ae, ce, rfl, hq, e0, e1, e2, e3, e4, e5, e6, e7, e8, e9, e10, e11, hx⟩ := cmd_at h (i := 0) (x := x) rfl
      rw [Nat.zero_mul, Nat.add_zero] at e0 e11
      obtain ⟨k, _, _, _, _, h4⟩ := cmd_parts hx
      have := ih k x.els _ h4
      simp only [chainW, List.length_singleton, e0, e11, hk]
      rw [this]
    | none =>
      by_cases h1 : els.length = 1
      · obtain ⟨x, rfl⟩ : ∃ x, els = [x] := List.length_eq_one_iff.1 h1
        have hk : x.kind ≠ 2 := by
          intro hk
          simp [elsifP, hk] at he
        obtain ⟨q, o, ax, cx, an, cn, ak, ck, at', ct, aa, ca, ae, ce, rfl, hq, e0, _⟩ := cmd_at h (i := 0) (x := x) rfl
        rw [Nat.zero_mul, Nat.add_zero] at e0
        simp only [chainW, List.length_singleton, e0]
        split
        · rename_i h; simp at h; exact absurd h hk
        · rfl
      · cases a with
        | none => rfl
        | some a =>
          unfold chainW
          split
          · rename_i hh; simp at hh
          · rename_i hh1 hh2 hh3; simp at hh3; omega
          · rfl
theorem chain_more {Q : Nat → Prop} {w : World} : ∀ (m f : Nat) (x : Cmd) (cs : List Value), CmdM Q m w x cs → m ≤ f → chainP (f + 1) x.els = chainP f x.els := by
  intro m
  induction m with
  | zero => intro f x cs h _; exact h.elim
  | succ m ih =>
    intro f x cs h hf
    cases f with
    | zero => omega
    | succ f =>
      obtain ⟨vx, vn, vk, vt, va, ve, h0, h1, h2, h3, h4⟩ := h
      rw [chainP, chainP]
      cases he : elsifP x.els with
      | none => rfl
      | some y =>
        obtain ⟨hl, _⟩ := elsifP_some he
        obtain ⟨a, c, _, _, hr⟩ := h4
        obtain ⟨b, o, cs', _, _, _, _, _, hy⟩ := hr 0 y (by rw [hl]; rfl)
        simp only
        rw [ih f y cs' hy (by omega)]
theorem Wrote.far {b : Nat} {g g' : Option Nat} {w w' : World} (h : Wrote b g g' w w') {n : Nat} (hn : w.heap.size ≤ n) (o : Nat) (v : Value) : Wrote b g g' w (w'.setCell ⟨n, o, none⟩ v) :=
  ⟨h.os, h.tape, h.output, by have := h.size; simpa [World.setCell] using this, fun k hk hb hg => (Below.heap_setCell _ _ _ _ (by show k ≠ n; omega)).trans (h.block k hk hb hg), h.row⟩
theorem WrB.far {w : World} {b : Nat} {g : Option Nat} {l : List Tok} (h : WrB w b g l) {n : Nat} (hb : b ≠ n) (hg : g ≠ some n) (o : Nat) (v : Value) : WrB (w.setCell ⟨n, o, none⟩ v) b g l := by
  obtain ⟨a, c, h1, h2, h3⟩ := h
  refine ⟨a, c, (Below.heap_setCell _ _ _ _ hb).trans h1, h2, h3.1, ?_⟩
  rcases h3.2 with q | ⟨k, cap, cur, e, hk, hg', r⟩
  · exact .inl q
  · refine .inr ⟨k, cap, cur, e, hk, ?_, r⟩
    have hne : k ≠ n := by
      intro e'
      apply hg
      rw [← h2, e, e']
      rfl
    exact (Below.heap_setCell _ _ _ _ hne).trans hg'
theorem low_far {w : World} {b n : Nat} (hn : b ≤ n) (o : Nat) (v : Value) : Below b w (w.setCell ⟨n, o, none⟩ v) := (Below.refl _ _).setCell hn v
end Go.Proofs.YtdmiidbncpgfpabDoor
