/-
  A token in a block of its own, as the walks of package token make it.
-/
import Derived.Test.YtgfbdgheencmaaaGreatDoorRows
import Derived.Test.YtgfbdgheencmaaaGreatDoorXQWhoPure4
import Derived.WalkSpells
import Derived.WalkLawsBesides
import Derived.Shelf.Abstract
import Derived.Laws.IdiomStrings
namespace Go.Proofs.YtgfbdgheencmaaaGreatDoor
open Go.RowKit Go.Proofs
def TokB (w : World) (b : Nat) (t : Tok) : Prop := w.heap[b]? = some (.cells #[.int .i64 t.kind, .string (S t.text), .int .i64 t.num] 211)
theorem TokB.c0 {w : World} {b : Nat} {t : Tok} (h : TokB w b t) : w.cell? ⟨b, 0, none⟩ = some (.int .i64 t.kind) := by unfold TokB at h; simp [World.cell?, h]
theorem TokB.c1 {w : World} {b : Nat} {t : Tok} (h : TokB w b t) : w.cell? ⟨b, 1, none⟩ = some (.string (S t.text)) := by unfold TokB at h; simp [World.cell?, h]
theorem TokB.c2 {w : World} {b : Nat} {t : Tok} (h : TokB w b t) : w.cell? ⟨b, 2, none⟩ = some (.int .i64 t.num) := by unfold TokB at h; simp [World.cell?, h]
theorem TokB.free {w : World} {b : Nat} {t : Tok} (h : TokB w b t) (o : Nat) : w.frozen? ⟨b, o, none⟩ = false := by unfold TokB at h; simp [World.frozen?, h]
theorem TokB.lt {w : World} {b : Nat} {t : Tok} (h : TokB w b t) : b < w.heap.size := World.block_lt_of_cell? w _ h.c0
theorem TokB.far {w : World} {b : Nat} {t : Tok} (h : TokB w b t) {p : Addr} (hn : b ≠ p.block) (v : Value) : TokB (w.setCell p v) b t := (Below.heap_setCell _ _ _ _ hn).trans h
theorem TokB.but {w w' : World} {r b : Nat} {t : Tok} (h : TokB w b t) (hb : But r w w') (hn : b ≠ r) : TokB w' b t := (hb.block b h.lt hn).trans h
theorem TokB.below {w w' : World} {b B : Nat} {t : Tok} (h : TokB w b t) (hb : Below B w w') (hB : b < B) : TokB w' b t := (hb.block b hB).trans h
theorem TokB.next {w w' : World} {b : Nat} {t : Tok} (h : TokB w b t) (hb : Below w.heap.size w w') : TokB w' b t := (hb.block b h.lt).trans h
theorem jnm : (Tryz.prog.info? 211).map (fun i => (i.zero, i.size, i.bytes)) = some (some (.agg #[.int .i64 0, .string ByteArray.empty, .int .i64 0]), 3, 32) := by kernel_rfl
def vz (l : List Tok) : List Value := l.flatMap fun t => [.int .i64 t.kind, .string (S t.text), .int .i64 t.num]
theorem jfp (l : List Tok) (t : Tok) : vz (l ++ [t]) = vz l ++ [.int .i64 t.kind, .string (S t.text), .int .i64 t.num] := by simp [vz]
theorem jg7 {l : List Tok} {i : Nat} {t : Tok} (h : l[i]? = some t) : (vz l)[i * 3]? = some (.int .i64 t.kind) ∧ (vz l)[i * 3 + 1]? = some (.string (S t.text)) ∧ (vz l)[i * 3 + 2]? = some (.int .i64 t.num) := by
 induction l generalizing i with
 | nil => simp at h
 | cons g l ih =>
   cases i with
   | zero => simp at h; subst h; simp [vz]
   | succ i =>
     have := ih (i := i) (by simpa using h); have e1 : (i + 1) * 3 = i * 3 + 3 := by omega
     rw [e1]
     simpa [vz] using this
def OwnT (w : World) (B : Nat) (v : Value) (l : List Tok) : Prop := w.ownsRow B 211 3 v l.length (vz l)
def ToksAt (w : World) (a : Option Addr) (l : List Tok) : Prop :=
 ∀ (i : Nat) t, l[i]? = some t → ∃ b o, a = some ⟨b, o, none⟩ ∧ b < w.heap.size ∧ w.cell? ⟨b, o + i * 3, none⟩ = some (.int .i64 t.kind) ∧ w.cell? ⟨b, o + i * 3 + 1, none⟩ = some (.string (S t.text)) ∧ w.cell? ⟨b, o + i * 3 + 2, none⟩ = some (.int .i64 t.num)
theorem ToksAt.below {w w' : World} {a : Option Addr} {l : List Tok} (h : ToksAt w a l) (hb : Below w.heap.size w w') : ToksAt w' a l := by
 intro i x hx; obtain ⟨b, o, ha, hlt, h1, h2, h3⟩ := h i x hx; exact ⟨b, o, ha, Nat.lt_of_lt_of_le hlt hb.size, jb h1 hb, jb h2 hb, jb h3 hb⟩
theorem OwnT.any {w : World} {B : Nat} {v : Value} {l : List Tok} (h : OwnT w B v l) : ∃ a cap, v = .slice a l.length cap := by
 rcases h.2 with ⟨rfl, hn⟩ | ⟨g, cap, cur, rfl, _⟩
 · exact ⟨none, 0, by rw [hn]⟩
 · exact ⟨_, _, rfl⟩
theorem OwnT.at {w : World} {B : Nat} {a : Option Addr} {c : Nat} {l : List Tok} (h : OwnT w B (.slice a l.length c) l) : ToksAt w a l := by
 intro i x hx; have hi : i < l.length := (List.getElem?_eq_some_iff.1 hx).1
 rcases h.2 with ⟨_, hn⟩ | ⟨g, cap, cur, hv, hb, hg, q⟩
 · omega
 · simp only [Value.slice.injEq, true_and] at hv; obtain ⟨rfl, rfl⟩ := hv; have hgl : g < w.heap.size := by
    rcases Nat.lt_or_ge g w.heap.size with h' | h'
    · exact h'
    · rw [Array.getElem?_eq_none h'] at hg; cases hg
   obtain ⟨h1, h2, h3⟩ := jg7 hx; refine ⟨g, 0, rfl, hgl, ?_, ?_, ?_⟩
   · rw [Nat.zero_add, World.ownsRow.cellAt h (i * 3) (by omega)]; exact h1
   · rw [Nat.zero_add, World.ownsRow.cellAt h (i * 3 + 1) (by omega)]; exact h2
   · rw [Nat.zero_add, World.ownsRow.cellAt h (i * 3 + 2) (by omega)]; exact h3
theorem jdQ {w w' : World} {base : Nat} {e : TypeId} {size : Nat} {v : Value} {n : Nat} {xs : List Value} (h : w.ownsRow base e size v n xs) (hb : Below w.heap.size w w') : w'.ownsRow base e size v n xs := by
 refine ⟨h.1, ?_⟩
 rcases h.2 with h' | ⟨g, cap, cur, h1, h2, hg, q⟩
 · exact .inl h'
 · refine .inr ⟨g, cap, cur, h1, h2, ?_, q⟩; rw [hb.block g (by
    rcases Nat.lt_or_ge g w.heap.size with h' | h'
    · exact h'
    · rw [Array.getElem?_eq_none h'] at hg; cases hg)]
   exact hg
theorem jgH (W : World) (n : Nat) (hn : W.heap.size = n) (x y z : Value) (t : TypeId) : ∀ (j : Nat) u, [x, y, z][j]? = some u → (W.alloc (.cells #[x, y, z] t)).cell? ((⟨n, 0, none⟩ : Addr).add j) = some u := by
 subst hn; intro j u hj; rw [Addr.add_lit, Nat.zero_add]
 match j, hj with
 | 0, hj => simp at hj; subst hj; simp
 | 1, hj => simp at hj; subst hj; simp
 | 2, hj => simp at hj; subst hj; simp
end Go.Proofs.YtgfbdgheencmaaaGreatDoor
