/-
  What the reference's commanded and Lined hand back, in their parts.
-/
import Derived.Test.YtkdmccgfehmoaaaRefLns
import Derived.Test.YtkdmccgfehmoaaaRefTxs
import Derived.Test.YtkdmccgfehmoaaaRefSam
namespace Go.Proofs.Ytkdmccgfehmoaaa
open Go.RowKit Go.Proofs

/-- What commanded hands back. -/
def CmP (Q : Nat → Prop) (w : World) (o : Ses × Int) (e : Ending) (w' : World) : Prop := ∃ v, e = .returned (.tuple #[sesV o.1 v, .int .i64 o.2]) ∧ AdrsM Q w' v o.1.to ∧ Below w.heap.size w w'
theorem AdrsM.snd {P Q : Nat → Prop} {w : World} {v : Value} {l : List Adr} (h : AdrsM (fun g => P g ∧ Q g) w v l) : AdrsM Q w v l := RowM.imp h (fun _ h => h.2) (Keeps.refl _ _) fun _ _ h => h
theorem outW_low {w : World} {n p : Nat} {r : Ses} {v : Value} (hp : n ≤ p) : Below n w (outW w p r v) := low7 w _ _ _ _ _ _ hp
theorem cm_same {Q : Nat → Prop} {w W1 u : World} {s : Ses} {c : Int} {a : Option Addr} {k : Nat} (h1 : Below w.heap.size w W1) (hu : Below W1.heap.size W1 u) (ha : AdrsM (fun g => g < w.heap.size ∧ Q g) w (.slice a s.to.length k) s.to) :
    CmP Q w (s, c) (.returned (.tuple #[.agg #[.int .i64 s.step, .string (S s.frm.1), .string (S s.frm.2), .slice a s.to.length k, .string (S s.text), .bool s.large], .int .i64 c])) (outW u (w.heap.size + 1) s (.slice a s.to.length k)) := by
  have hb : Below w.heap.size w (outW u (w.heap.size + 1) s (.slice a s.to.length k)) := (h1.trans (hu.mono h1.size)).trans (outW_low (Nat.le_succ _))
  exact ⟨_, rfl, (ha.snd).next hb, hb⟩
theorem cm_any {Q : Nat → Prop} {w U : World} {r : Ses} {c : Int} {a : Option Addr} {k : Nat} (hu : Below w.heap.size w U) (ha : AdrsM (fun g => g < w.heap.size ∧ Q g) w (.slice a r.to.length k) r.to) :
    CmP Q w (r, c) (.returned (.tuple #[.agg #[.int .i64 r.step, .string (S r.frm.1), .string (S r.frm.2), .slice a r.to.length k, .string (S r.text), .bool r.large], .int .i64 c])) (outW U (w.heap.size + 1) r (.slice a r.to.length k)) := by
  have hb : Below w.heap.size w (outW U (w.heap.size + 1) r (.slice a r.to.length k)) := hu.trans (outW_low (Nat.le_succ _))
  exact ⟨_, rfl, (ha.snd).next hb, hb⟩
theorem low_S (l : List UInt8) : low (S l) = S (lowL l) := by
  unfold low S
  rfl
theorem cm_new {Q : Nat → Prop} {w W1 u : World} {r : Ses} {c : Int} (h1 : Below w.heap.size w W1) (hu : Below W1.heap.size W1 u) (hr : r.to = []) :
    CmP Q w (r, c) (.returned (.tuple #[.agg #[.int .i64 r.step, .string (S r.frm.1), .string (S r.frm.2), .slice none 0 0, .string (S r.text), .bool r.large], .int .i64 c])) (outW u (w.heap.size + 1) r (.slice none 0 0)) := by
  have hb : Below w.heap.size w (outW u (w.heap.size + 1) r (.slice none 0 0)) := (h1.trans (hu.mono h1.size)).trans (outW_low (Nat.le_succ _))
  refine ⟨_, rfl, ?_, hb⟩
  show AdrsM Q _ _ r.to
  rw [hr]
  exact ⟨none, 0, rfl, by simp, fun i x h => by simp at h⟩
theorem cm_own {Q : Nat → Prop} {w U : World} {r : Ses} {c : Int} {v : Value} {B : Nat} (hu : Below w.heap.size w U) (ho : OwnL U B v r.to) (hB : w.heap.size + 1 < B) (hl : r.to.length ≤ 10) (hQ : ∀ g, w.heap.size ≤ g → Q g) :
    CmP Q w (r, c) (.returned (.tuple #[.agg #[.int .i64 r.step, .string (S r.frm.1), .string (S r.frm.2), v, .string (S r.text), .bool r.large], .int .i64 c])) (outW U (w.heap.size + 1) r v) := by
  have hb : Below w.heap.size w (outW U (w.heap.size + 1) r v) := hu.trans (outW_low (Nat.le_succ _))
  have ho' : OwnL (outW U (w.heap.size + 1) r v) B v r.to := own_low (own_low (own_low (own_low (own_low (own_low ho hB) hB) hB) hB) hB) hB
  exact ⟨_, rfl, RowM.imp (ho'.row (by unfold maxLen; omega)) (fun g h => hQ g (by have h' : B ≤ g := h; omega)) (Keeps.refl _ _) fun _ _ h => h, hb⟩
theorem cm_long {s : Ses} {known : List (List UInt8)} {line : List UInt8} (h : 300 < line.length) : cmdM s known line = (s, 500) := by
  unfold cmdM
  rw [if_pos h]
theorem cm_short {s : Ses} {known : List (List UInt8)} {line : List UInt8} (h : ¬ 300 < line.length) : cmdM s known line = cmd1 s known line (behindM wLhlo line) := by
  unfold cmdM
  rw [if_neg h]
theorem ad_end {B n gm cap : Nat} {w W WA w5 : World} {v : Value} {l : List Adr} {x : Adr} (hl : l.length = n) (ho : OwnL W B v l) (h0 : Below B w W) (hBw : B ≤ w.heap.size) (hWA : Below W.heap.size W WA) (hg : WA.grownBy w5 v.ownBlock)
    (hown : w5.ownsRow B 23 2 (.slice (some ⟨gm, 0, none⟩) (n + 1) cap) (n + 1) (cellsL l ++ [.string (S x.1), .string (S x.2)])) :
    OwnL w5 B (.slice (some ⟨gm, 0, none⟩) (n + 1) cap) (l ++ [x]) ∧ Below B w w5 := by
  refine ⟨?_, (h0.trans (hWA.mono (Nat.le_trans hBw h0.size))).grown hg (by have := h0.size; have := hWA.size; omega) (fun k hk => lm_base ho k hk)⟩
  unfold OwnL
  rw [cellsL_snoc, List.length_append, hl]
  exact hown
theorem lt_end {B n gm cap : Nat} {w W WA w5 : World} {v : Value} {l : List Ltr} {x : Ltr} (hl : l.length = n) (ho : OwnT W B v l) (h0 : Below B w W) (hBw : B ≤ w.heap.size) (hWA : Below W.heap.size W WA) (hg : WA.grownBy w5 v.ownBlock)
    (hown : w5.ownsRow B 50 5 (.slice (some ⟨gm, 0, none⟩) (n + 1) cap) (n + 1) (cellsT l ++ ltrC x)) :
    OwnT w5 B (.slice (some ⟨gm, 0, none⟩) (n + 1) cap) (l ++ [x]) ∧ Below B w w5 := by
  refine ⟨?_, (h0.trans (hWA.mono (Nat.le_trans hBw h0.size))).grown hg (by have := h0.size; have := hWA.size; omega) (fun k hk => ownT_base ho k hk)⟩
  unfold OwnT
  rw [cellsT_snoc, List.length_append, hl]
  exact hown
theorem cp_ne {b : Nat} {W : World} {v : Value} {l : List Adr} (ho : OwnL W (b + 1) v l) : some b ≠ v.ownBlock := fun e => by
  have := lm_base ho b e.symm
  omega
theorem cp_end {b n gm cap : Nat} {w W WA w5 : World} {v v0 v1 v2 v4 v5 : Value} {l : List Adr} {x : Adr} (hl : l.length = n) (hs : W.heap[b]? = some (.cells #[v0, v1, v2, v, v4, v5] 26)) (ho : OwnL W (b + 1) v l) (h0 : Below b w W) (hWA : Below W.heap.size W WA) (hg : WA.grownBy w5 v.ownBlock)
    (hown : w5.ownsRow (b + 1) 23 2 (.slice (some ⟨gm, 0, none⟩) (n + 1) cap) (n + 1) (cellsL l ++ [.string (S x.1), .string (S x.2)])) :
    (w5.setCell ⟨b, 3, none⟩ (.slice (some ⟨gm, 0, none⟩) (n + 1) cap)).heap[b]? = some (.cells #[v0, v1, v2, .slice (some ⟨gm, 0, none⟩) (n + 1) cap, v4, v5] 26) ∧
      OwnL (w5.setCell ⟨b, 3, none⟩ (.slice (some ⟨gm, 0, none⟩) (n + 1) cap)) (b + 1) (.slice (some ⟨gm, 0, none⟩) (n + 1) cap) (l ++ [x]) ∧
      Below b w (w5.setCell ⟨b, 3, none⟩ (.slice (some ⟨gm, 0, none⟩) (n + 1) cap)) := by
  have hlt := (Array.getElem?_eq_some_iff.1 hs).1
  have hbA := lm_next hWA hs
  have hb5 := (hg.block b (Nat.lt_of_lt_of_le hlt hWA.size) (cp_ne ho)).trans hbA
  have h1 := lm_put (j := 3) (u := .slice (some ⟨gm, 0, none⟩) (n + 1) cap) hb5
  simp only [List.setIfInBounds_toArray, List.set_cons_zero, List.set_cons_succ] at h1
  have hO : OwnL w5 (b + 1) (.slice (some ⟨gm, 0, none⟩) (n + 1) cap) (l ++ [x]) := by
    unfold OwnL
    rw [cellsL_snoc, List.length_append, hl]
    exact hown
  refine ⟨h1, own_low hO (Nat.lt_succ_self _), ?_⟩
  have hbl : Below b w w5 := (h0.trans (hWA.mono (by omega))).grown hg (by have := h0.size; have := hWA.size; omega) (fun k hk => by have := lm_base ho k hk; omega)
  exact hbl.setCell (p := ⟨b, 3, none⟩) (Nat.le_refl _) _
theorem row_put {A : Type} {B k b j : Nat} {P : A → List Value → Prop} {w : World} {v u : Value} {l : List A} (h : RowM (B ≤ ·) k P w v l) (hb : b < B) : RowM (B ≤ ·) k P (w.setCell ⟨b, j, none⟩ u) v l :=
  RowM.imp h (fun _ h => h) ⟨((Below.refl 0 w).setCell (p := ⟨b, j, none⟩) (Nat.zero_le _) u).size, by
    intro g h1 h2
    have h3 : B ≤ g := by first | exact h1 | exact h2
    exact Below.heap_setCell _ _ _ _ (show g ≠ b by omega)⟩ fun _ _ h => h
theorem row_any {A : Type} {Q : Nat → Prop} {k : Nat} {P : A → List Value → Prop} {w : World} {v : Value} {l : List A} (h : RowM Q k P w v l) : RowM anyB k P w v l := RowM.imp h (fun _ _ => trivial) (Keeps.refl _ _) fun _ _ h => h
/-- What Lined hands back. -/
def LdP (w : World) (s : Ses) (known : List (List UInt8)) (line : List UInt8) (e : Ending) (w' : World) : Prop :=
  (mayS s = true → ∃ v lv, e = .returned (.tuple #[sesV (lineM s known line).1 v, .int .i64 (lineM s known line).2.1, lv, .int .i64 0]) ∧ AdrsM anyB w' v (lineM s known line).1.to ∧ LtrsM anyB w' lv (lineM s known line).2.2) ∧
  (mayS s = false → e = .returned (.tuple #[sesV (atS 0) (.slice none 0 0), .int .i64 0, .slice none 0 0, .int .i64 11])) ∧ Below w.heap.size w w'
theorem ld_end {B : Nat} {w U : World} {s r : Ses} {known : List (List UInt8)} {line : List UInt8} {c : Int} {v lv : Value} {ls : List Ltr} (hm : mayS s = true) (hl : lineM s known line = (r, c, ls)) (hu : Below w.heap.size w U) (ha : AdrsM (B ≤ ·) U v r.to) (ht : LtrsM (B ≤ ·) U lv ls) (hB : w.heap.size + 1 < B) :
    LdP w s known line (.returned (.tuple #[.agg #[.int .i64 r.step, .string (S r.frm.1), .string (S r.frm.2), v, .string (S r.text), .bool r.large], .int .i64 c, lv, .int .i64 0])) (outW U (w.heap.size + 1) r v) := by
  refine ⟨fun _ => ?_, (fun h => by rw [hm] at h; cases h), hu.trans (outW_low (Nat.le_succ _))⟩
  rw [hl]
  exact ⟨v, lv, rfl, row_any (row_put (row_put (row_put (row_put (row_put (row_put ha hB) hB) hB) hB) hB) hB), row_any (row_put (row_put (row_put (row_put (row_put (row_put ht hB) hB) hB) hB) hB) hB)⟩
theorem ld_bad {w U : World} {s : Ses} {known : List (List UInt8)} {line : List UInt8} (hm : ¬ mayS s = true) (hu : Below w.heap.size w U) :
    LdP w s known line (.returned (.tuple #[.agg #[.int .i64 0, .string ⟨#[]⟩, .string ⟨#[]⟩, .slice none 0 0, .string ⟨#[]⟩, .bool false], .int .i64 0, .slice none 0 0, .int .i64 11])) (outW U (w.heap.size + 1) (atS 0) (.slice none 0 0)) :=
  ⟨fun h => absurd h hm, fun _ => rfl, hu.trans (outW_low (Nat.le_succ _))⟩
theorem ltrs_nil (Q : Nat → Prop) (w : World) : LtrsM Q w (.slice none 0 0) [] := ⟨none, 0, rfl, by simp, fun i x h => by simp at h⟩
theorem adrs_nilQ (Q : Nat → Prop) (w : World) : AdrsM Q w (.slice none 0 0) [] := ⟨none, 0, rfl, by simp, fun i x h => by simp at h⟩
def CmdOk : Prop := ∀ (Q : Nat → Prop) (s : Ses) (a : Option Addr) (k : Nat) (known : List (List UInt8)) (ka : Option Addr) (kc : Nat) (line : List UInt8) (w : World), mayS s = true → AdrsM Q w (.slice a s.to.length k) s.to → (∀ g, w.heap.size ≤ g → Q g) → TxtsM anyB w (.slice ka known.length kc) known → line.length ≤ 140737488355328 →
    Calls Try.prog 20 #[.agg #[.int .i64 s.step, .string (S s.frm.1), .string (S s.frm.2), .slice a s.to.length k, .string (S s.text), .bool s.large], .slice ka known.length kc, .string (S line)] w (CmP Q w (cmdM s known line))
end Go.Proofs.Ytkdmccgfehmoaaa
