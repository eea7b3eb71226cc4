/-
  A room's rows of orders, of what waits and of states, written into: plain facts on memory.
-/
import Derived.Test.YtgooljlpffnaeaaGreatDoorFQPoOp45
import Derived.Test.YtgooljlpffnaeaaGreatDoorRows
import Derived.Laws.Strings3
set_option maxHeartbeats 2000000
set_option maxRecDepth 100000
namespace Go.Proofs.YtgooljlpffnaeaaGreatDoor
open Go.RowKit Go.Proofs
theorem MOk.put {w : World} {B b g c : Nat} {A Z : List MRow} {r : MRow} (h : MOk w B b (A ++ r :: Z)) (hv : r.v = .slice (some ⟨g, 0, none⟩) r.n c) (j : Nat) (u : Value) :
 MOk (w.setCell ⟨g, j, none⟩ u) B b (A ++ ⟨r.e, r.k, r.v, r.n, r.xs.set j u⟩ :: Z) ∧ Stp b (mB (A ++ r :: Z)) w (mB (A ++ ⟨r.e, r.k, r.v, r.n, r.xs.set j u⟩ :: Z)) (w.setCell ⟨g, j, none⟩ u) := by
 have h1 := h.own r (by simp); obtain ⟨e, k, v, n, xs⟩ := r; have hv' : v = .slice (some ⟨g, 0, none⟩) n c := hv; subst hv'; exact h.grow (H := w.heap.size) (r' := ⟨e, k, .slice (some ⟨g, 0, none⟩) n c, n, xs.set j u⟩) ⟨rfl, rfl, rfl, by simp [World.setCell], fun i hi hne => Below.heap_setCell _ _ _ _ (fun e => hne (by rw [e]; rfl))⟩ (jaF h1 j u) (Nat.le_refl _) (fun g' e => .inl e)
theorem jfM {w : World} {B e k n : Nat} {v : Value} {xs : List Value} (h : w.ownsRow B e k v n xs) (hn : 0 < n) : ∃ g c cur, v = .slice (some ⟨g, 0, none⟩) n c ∧ w.heap[g]? = some (.cells cur e) ∧ ∀ j u, xs[j]? = some u → w.cell? ⟨g, j, none⟩ = some u := by
 rcases h.2 with ⟨_, h0⟩ | ⟨g, cap, cur, hv, hB, hg, hx⟩
 · omega
 · subst hv; refine ⟨g, cap, cur, rfl, hg, fun j u hj => ?_⟩; have := World.ownsRow.cells h (g := g) rfl j u hj; rw [Addr.add_lit] at this
   simpa using this
def oSet (R : Rom) (u : Nat) (l : List Int) : Rom := ⟨R.up, R.tape, R.tsyn, R.syn, R.waits, R.safe, R.states, R.c0, R.c1, R.c2, R.orders.set u l, R.due⟩
def tuR (R : Rom) (u : Nat) (e : Int) : Rom := oSet R u (R.orders.getD u [] ++ [e])
def dueR (R : Rom) (l : List Int) : Rom := ⟨R.up, R.tape, R.tsyn, R.syn, R.waits, R.safe, R.states, R.c0, R.c1, R.c2, R.orders, l⟩
def errR (v : Value) (l : List Int) : MRow := intR 37 v l
def jec (R : Rom) (X : Vals) : List MRow := [intR 3 X.c0.l R.c0.told, intR 3 X.c1.l R.c1.told, intR 3 X.c2.l R.c2.told, intR 3 X.du R.due, sttR X.st X.sv]
def osV (X : Vals) (os : List Value) : Vals := ⟨X.td, X.sf, X.st, X.lo, X.sc, X.od, X.du, X.c0, X.c1, X.c2, os, X.sv⟩
theorem jme (R : Rom) (X : Vals) (h1 : X.os.length = 3) (h2 : R.orders.length = 3) {u : Nat} (hu : u < 3) : ∃ (A Z : List MRow) (Q : Value → List Int → List MRow), jO R X = A ++ errR (X.os.getD u (.slice none 0 0)) (R.orders.getD u []) :: Z ∧ jO R X = jec R X ++ ordR X.od X.os :: Q (X.os.getD u (.slice none 0 0)) (R.orders.getD u []) ∧
 ∀ v l, A ++ errR v l :: Z = jec R X ++ ordR X.od X.os :: Q v l ∧ jO (oSet R u l) (osV X (X.os.set u v)) = jec R X ++ ordR X.od (X.os.set u v) :: Q v l := by
 obtain ⟨td, sf, st, lo, sc, od, du, c0, c1, c2, os, sv⟩ := X; obtain ⟨up, tape, tsyn, syn, waits, safe, states, d0, d1, d2, orders, due⟩ := R
 match os, h1, orders, h2 with
 | [a0, a1, a2], _, [l0, l1, l2], _ =>
   match u, hu with
   | 0, _ => exact ⟨jec _ _ ++ [ordR od [a0, a1, a2]], [errR a1 l1, errR a2 l2], fun v l => [errR v l, errR a1 l1, errR a2 l2], rfl, rfl, fun v l => ⟨rfl, rfl⟩⟩
   | 1, _ => exact ⟨jec _ _ ++ [ordR od [a0, a1, a2], errR a0 l0], [errR a2 l2], fun v l => [errR a0 l0, errR v l, errR a2 l2], rfl, rfl, fun v l => ⟨rfl, rfl⟩⟩
   | 2, _ => exact ⟨jec _ _ ++ [ordR od [a0, a1, a2], errR a0 l0, errR a1 l1], [], fun v l => [errR a0 l0, errR a1 l1, errR v l], rfl, rfl, fun v l => ⟨rfl, rfl⟩⟩
theorem RoomM.teller {K : List (List UInt8)} {Cs : List (List Cmd)} {B b : Nat} {G : List Nat} {R : Rom} {w : World} (h : RoomM K Cs B b G R w) {u : Nat} (hu : u < 3) : ∃ (a : Option Addr) (c g cg : Nat), w.cell? ⟨b, 36, none⟩ = some (.slice (some ⟨g, 0, none⟩) 3 cg) ∧ w.cell? ⟨g, u, none⟩ = some (.slice a (R.orders.getD u []).length c) ∧ w.ownsRow B 37 1 (.slice a (R.orders.getD u []).length c) (R.orders.getD u []).length ((R.orders.getD u []).map fun k => .int .i64 k) ∧ B ≤ w.heap.size ∧
 ∀ (wa w1 : World) (p cap : Nat) (e : Int), Below w.heap.size w wa → wa.ownsRow B 37 1 (.slice a (R.orders.getD u []).length c) (R.orders.getD u []).length ((R.orders.getD u []).map fun k => .int .i64 k) → w1.ownsRow B 37 1 (.slice (some ⟨p, 0, none⟩) ((R.orders.getD u []).length + 1) cap) ((R.orders.getD u []).length + 1) (((R.orders.getD u []).map fun k => .int .i64 k) ++ [.int .i64 e]) → wa.grownBy w1 ((.slice a (R.orders.getD u []).length c : Value).ownBlock) → ((.slice a (R.orders.getD u []).length c : Value).ownBlock = some p ∨ p = wa.heap.size) →
   w1.cell? ⟨g, u, none⟩ = some (.slice a (R.orders.getD u []).length c) ∧ w1.frozen? ⟨g, u, none⟩ = false ∧ w1.heap[b]? = w.heap[b]? ∧ ∃ G', RoomM K Cs B b G' (tuR R u e) (w1.setCell ⟨g, u, none⟩ (.slice (some ⟨p, 0, none⟩) ((R.orders.getD u []).length + 1) cap)) ∧ Stp b G w G' (w1.setCell ⟨g, u, none⟩ (.slice (some ⟨p, 0, none⟩) ((R.orders.getD u []).length + 1) cap)) ∧ (w1.setCell ⟨g, u, none⟩ (.slice (some ⟨p, 0, none⟩) ((R.orders.getD u []).length + 1) cap)).heap[b]? = w.heap[b]? := by
 obtain ⟨X, hG, hB, hX, hM, hQ⟩ := h; obtain ⟨A, Z, Q, e1, e2, e3⟩ := jme R X hQ.os.1 hQ.os.2 hu; have ho := hM.own (ordR X.od X.os) (by rw [e2]; simp); have ho : w.ownsRow B 36 1 X.od X.os.length X.os := ho; obtain ⟨g, cg, cur, hv, hg, hc⟩ := jfM ho (by rw [hQ.os.1]; decide); have hown := hM.own (errR (X.os.getD u (.slice none 0 0)) (R.orders.getD u [])) (by rw [e1]; simp); have hown : w.ownsRow B 37 1 (X.os.getD u (.slice none 0 0)) (R.orders.getD u []).length ((R.orders.getD u []).map fun k => .int .i64 k) := hown; obtain ⟨a, c, ha, _⟩ := ql hown; have hu3 : u < X.os.length := by rw [hQ.os.1]; exact hu
 have hxu : X.os[u]? = some (X.os.getD u (.slice none 0 0)) := by rw [List.getD_eq_getElem?_getD, List.getElem?_eq_getElem hu3]; rfl
 refine ⟨a, c, g, cg, hX.cell (by rw [← hQ.os.1, ← hv]; rfl), by rw [← ha]; exact hc u _ hxu, by rw [← ha]; exact hown, by have := hM.lt; omega, fun wa w1 p cap e hb hoa h1 h2 h3 => ?_⟩; have hMa := hM.next hb; rw [e1] at hMa; rw [← ha] at h2 h3; obtain ⟨k1, k2⟩ := hMa.grow (H := wa.heap.size) (r' := errR (.slice (some ⟨p, 0, none⟩) ((R.orders.getD u []).length + 1) cap) (R.orders.getD u [] ++ [e])) h2 (by simpa [errR, intR] using h1) (Nat.le_refl _) (fun g' e' => by cases e'; exact h3.imp id fun h => Nat.le_of_eq h.symm); obtain ⟨q1, q2⟩ := e3 (.slice (some ⟨p, 0, none⟩) ((R.orders.getD u []).length + 1) cap) (R.orders.getD u [] ++ [e]); rw [q1] at k1 k2; have ho1 := k1.own (ordR X.od X.os) (by simp); have ho1 : w1.ownsRow B 36 1 X.od X.os.length X.os := ho1; obtain ⟨g1, cg1, cur1, hv1, hg1, hc1⟩ := jfM ho1 (by rw [hQ.os.1]; decide); obtain ⟨rfl, rfl⟩ : g1 = g ∧ cg1 = cg := by
  rw [hv] at hv1; simp only [Value.slice.injEq, Option.some.injEq, Addr.mk.injEq, and_true, true_and] at hv1; exact ⟨hv1.1.symm, hv1.2.symm⟩
 obtain ⟨m1, m2⟩ := MOk.put (g := g1) (c := cg1) k1 (by show X.od = .slice (some ⟨g1, 0, none⟩) X.os.length cg1; exact hv1) u (.slice (some ⟨p, 0, none⟩) ((R.orders.getD u []).length + 1) cap); have q3 : jec R X ++ (⟨(ordR X.od X.os).e, (ordR X.od X.os).k, (ordR X.od X.os).v, (ordR X.od X.os).n, (ordR X.od X.os).xs.set u (.slice (some ⟨p, 0, none⟩) ((R.orders.getD u []).length + 1) cap)⟩ : MRow) :: Q (.slice (some ⟨p, 0, none⟩) ((R.orders.getD u []).length + 1) cap) (R.orders.getD u [] ++ [e]) = jO (tuR R u e) (osV X (X.os.set u (.slice (some ⟨p, 0, none⟩) ((R.orders.getD u []).length + 1) cap))) := by
  rw [show tuR R u e = oSet R u (R.orders.getD u [] ++ [e]) from rfl, q2]
  show _ = jec R X ++ (⟨36, 1, X.od, (X.os.set u _).length, X.os.set u _⟩ : MRow) :: _
  rw [List.length_set]; rfl
 rw [q3] at m1 m2; have hgb : g1 ≠ b := fun e => hM.far (by rw [e2]; exact List.mem_filterMap.2 ⟨ordR X.od X.os, by simp, by show X.od.ownBlock = _; rw [hv, ← e]; rfl⟩)
 have hbx : w1.heap[b]? = wa.heap[b]? := h2.block b (Nat.lt_of_lt_of_le hM.lt hb.size) fun e => hM.far (by rw [e1]; exact List.mem_filterMap.2 ⟨errR (X.os.getD u (.slice none 0 0)) (R.orders.getD u []), by simp, e.symm⟩)
 have hbx2 : (w1.setCell ⟨g1, u, none⟩ (.slice (some ⟨p, 0, none⟩) ((R.orders.getD u []).length + 1) cap)).heap[b]? = w.heap[b]? := (Below.heap_setCell _ _ _ _ (Ne.symm hgb)).trans (hbx.trans (hb.block b hM.lt)); have hs : Stp b G w (mB (jO (tuR R u e) (osV X (X.os.set u (.slice (some ⟨p, 0, none⟩) ((R.orders.getD u []).length + 1) cap))))) (w1.setCell ⟨g1, u, none⟩ (.slice (some ⟨p, 0, none⟩) ((R.orders.getD u []).length + 1) cap)) := by
  rw [hG, e1]; exact ((Stp.of hb).trans k2).trans m2
 have q := hQ.stp hs; exact ⟨by rw [← ha]; exact hc1 u _ hxu, by simp [World.frozen?, hg1], hbx.trans (hb.block b hM.lt), _, ⟨osV X (X.os.set u _), rfl, hB, ⟨hbx2.trans hX.1, hX.2⟩, m1, q.k0, q.k1, q.k2, q.lo, q.sc, q.sf, q.sv, ⟨by show (X.os.set u _).length = 3; rw [List.length_set]; exact hQ.os.1, by show (R.orders.set u _).length = 3; rw [List.length_set]; exact hQ.os.2⟩, q.td⟩, hs, hbx2⟩
def FieldsAt (w : World) (a : Option Addr) (fs : List F) : Prop :=
 ∀ (i : Nat) f, fs[i]? = some f → ∃ b off, a = some ⟨b, off, none⟩ ∧ b < w.heap.size ∧ w.cell? ⟨b, off + i * 2, none⟩ = some (.string (S f.1)) ∧ w.cell? ⟨b, off + i * 2 + 1, none⟩ = some (.string (S f.2))
theorem FieldsAt.below {w w' : World} {a : Option Addr} {fs : List F} (h : FieldsAt w a fs) (hb : Below w.heap.size w w') : FieldsAt w' a fs := by
 intro i f hf; obtain ⟨b, off, ha, hlt, h1, h2⟩ := h i f hf; exact ⟨b, off, ha, Nat.lt_of_lt_of_le hlt hb.size, (hb.cell (p := ⟨b, off + i * 2, none⟩) hlt).trans h1, (hb.cell (p := ⟨b, off + i * 2 + 1, none⟩) hlt).trans h2⟩
def jcw (fs : List F) : List Value := fs.flatMap fun f => [.string (S f.1), .string (S f.2)]
theorem jf6 {fs : List F} {i : Nat} {f : F} (h : fs[i]? = some f) : (jcw fs)[i * 2]? = some (.string (S f.1)) ∧ (jcw fs)[i * 2 + 1]? = some (.string (S f.2)) := by
 induction fs generalizing i with
 | nil => simp at h
 | cons g fs ih =>
   cases i with
   | zero => simp at h; subst h; simp [jcw]
   | succ i =>
     have := ih (i := i) (by simpa using h); have e1 : (i + 1) * 2 = i * 2 + 2 := by omega
     rw [e1]
     simpa [jcw] using this
theorem jgr {w : World} {base g cap : Nat} {fs : List F} (h : w.ownsRow base 362 2 (.slice (some ⟨g, 0, none⟩) fs.length cap) fs.length (jcw fs)) (hg : g < w.heap.size) : FieldsAt w (some ⟨g, 0, none⟩) fs := by
 intro i f hf; have hi : i < fs.length := by
  rcases Nat.lt_or_ge i fs.length with h | h
  · exact h
  · rw [List.getElem?_eq_none h] at hf; cases hf
 obtain ⟨h1, h2⟩ := jf6 hf; refine ⟨g, 0, rfl, hg, ?_, ?_⟩
 · rw [Nat.zero_add, h.cellAt _ (by omega)]; exact h1
 · rw [Nat.zero_add, h.cellAt _ (by omega)]; exact h2
theorem jbc {w : World} {p a : Addr} {v : Value} (h : p.block ≠ a.block) : (w.setCell p v).cell? a = w.cell? a :=
 World.cell?_of_block (heap_setCell_other w p a.block v (fun e => h e.symm))
theorem FieldsAt.set {w : World} {g : Nat} {fs : List F} (h : FieldsAt w (some ⟨g, 0, none⟩) fs) {p : Addr} (v : Value) (hp : p.block ≠ g) : FieldsAt (w.setCell p v) (some ⟨g, 0, none⟩) fs := by
 intro i f hf; obtain ⟨b, off, ha, hb, h1, h2⟩ := h i f hf; simp only [Option.some.injEq, Addr.mk.injEq, and_true] at ha; obtain ⟨rfl, rfl⟩ := ha; exact ⟨_, _, rfl, by simpa using hb, (jbc hp).trans h1, (jbc hp).trans h2⟩
theorem jgq (w : World) (a : Option Addr) : FieldsAt w a [] := by intro i f hf; simp at hf
def OwnF (w : World) (B : Nat) (v : Value) (fs : List F) : Prop := w.ownsRow B 362 2 v fs.length (jcw fs)
theorem OwnF.form {w : World} {B : Nat} {v : Value} {fs : List F} (h : OwnF w B v fs) (h0 : fs ≠ []) : ∃ g cap, v = .slice (some ⟨g, 0, none⟩) fs.length cap ∧ B ≤ g ∧ g < w.heap.size :=
 World.ownsRow.form h (List.length_pos_iff.2 h0)
theorem OwnF.any {w : World} {B : Nat} {v : Value} {fs : List F} (h : OwnF w B v fs) : ∃ a cap, v = .slice a fs.length cap := by
 by_cases h0 : fs = []
 · rcases h.2 with ⟨rfl, hn⟩ | ⟨g, cap, cur, rfl, _⟩
   · subst h0; exact ⟨none, 0, rfl⟩
   · exact ⟨_, _, rfl⟩
 · obtain ⟨g, cap, rfl, _⟩ := h.form h0; exact ⟨_, _, rfl⟩
theorem OwnF.fields {w : World} {B : Nat} {a : Option Addr} {c : Nat} {fs : List F} (h : OwnF w B (.slice a fs.length c) fs) : FieldsAt w a fs := by
 by_cases h0 : fs = []
 · subst h0; exact jgq _ _
 · obtain ⟨g, cap, e, hb, hg⟩ := h.form h0; simp only [Value.slice.injEq, true_and] at e; obtain ⟨rfl, rfl⟩ := e; exact jgr h hg
theorem jeD (c : UInt8) : (0 ≤ Lib.indexByte [32, 9] c) ↔ jct c = true := by
 unfold jct Lib.indexByte Lib.indexByte Lib.indexByte
 by_cases h1 : c = 32
 · subst h1; decide
 · by_cases h2 : c = 9
   · subst h2; decide
   · have e1 : (32 == c) = false := by simpa using fun h => h1 h.symm
     have e2 : (9 == c) = false := by simpa using fun h => h2 h.symm
     simp [e1, e2, h1, h2]
theorem index_none {c : UInt8} (h : jct c = false) : Lib.indexByte [32, 9] c = -1 := by
 have h1 : ¬ 0 ≤ Lib.indexByte [32, 9] c := fun h0 => by rw [(jeD c).1 h0] at h; cases h
 unfold jct at h; simp only [Bool.or_eq_false_iff, beq_eq_false_iff_ne] at h; have e1 : (32 == c) = false := by simpa using fun e => h.1 e.symm
 have e2 : (9 == c) = false := by simpa using fun e => h.2 e.symm
 simp [Lib.indexByte, e1, e2]
theorem jhG (s : ByteArray) (l a b : List UInt8) (t : Bool) (sep : ByteArray) (hl : sep.data.toList = l) (h : Lib.cut s.data.toList l = (a, b, t)) :
 (⟨(Lib.cut s.data.toList sep.data.toList).1.toArray⟩ : ByteArray) = S a ∧ (⟨(Lib.cut s.data.toList sep.data.toList).2.1.toArray⟩ : ByteArray) = S b ∧ (Lib.cut s.data.toList sep.data.toList).2.2 = t := by
 rw [hl, h]; exact ⟨rfl, rfl, rfl⟩
theorem jhF (s sep : ByteArray) (l a b : List UInt8) (t : Bool) (hl : sep.data.toList = l) (h : Lib.cut s.data.toList l = (a, b, t)) (w : World) (hs : s.size < 4294967281) (hm : maxLenCell w) :
 Calls Tryz.prog 50 #[.string s, .string sep] w fun e w' => e = .returned (.tuple #[.string (S a), .string (S b), .bool t]) ∧ ∃ n, w' = w.drewN n := by
 have := cutS_any s sep w hs hm; obtain ⟨e1, e2, e3⟩ := jhG s l a b t sep hl h
 rwa [e1, e2, e3] at this
theorem jiw {w w' : World} {base : Nat} {e : TypeId} {size : Nat} {v : Value} {n : Nat} {xs : List Value} (h : w.ownsRow base e size v n xs) (hb : Below w.heap.size w w') : w'.ownsRow base e size v n xs := by
 refine ⟨h.1, ?_⟩
 rcases h.2 with h' | ⟨g, cap, cur, h1, h2, hg, r⟩
 · exact .inl h'
 · refine .inr ⟨g, cap, cur, h1, h2, ?_, r⟩; rw [hb.block g (by
    rcases Nat.lt_or_ge g w.heap.size with h' | h'
    · exact h'
    · rw [Array.getElem?_eq_none h'] at hg; cases hg)]
   exact hg
theorem OwnF.below {w w' : World} {B : Nat} {v : Value} {fs : List F} (h : OwnF w B v fs) (hb : Below w.heap.size w w') : OwnF w' B v fs := jiw h hb
theorem OwnF.far {w : World} {B : Nat} {v : Value} {fs : List F} (h : OwnF w B v fs) {p : Addr} (hp : p.block < B) (u : Value) : OwnF (w.setCell p u) B v fs := ownsRow_setCell_below h hp u
theorem OwnF.nil (w : World) (B : Nat) : OwnF w B (.slice none 0 0) [] := World.ownsRow_nil _ _ _ _
def FreshA (n : Nat) (a : Option Addr) : Prop := ∀ b o q, a = some ⟨b, o, q⟩ → n ≤ b
theorem FreshA.nil (n : Nat) : FreshA n none := fun _ _ _ h => by cases h
theorem OwnF.fresh {w : World} {B n : Nat} {a : Option Addr} {c k : Nat} {fs : List F} (h : OwnF w B (.slice a k c) fs) (hn : n ≤ B) : FreshA n a := by
 intro b o q e; subst e
 rcases h.2 with ⟨h', _⟩ | ⟨g, cap, cur, h', hb, _⟩
 · simp at h'
 · simp only [Value.slice.injEq, Option.some.injEq, Addr.mk.injEq] at h'; obtain ⟨⟨e, _⟩, _⟩ := h'; omega
def jdg (n : Int) (m : Nat) : Nat := ((if n < 0 then -(n + 1) else n) % (m : Int)).toNat
theorem jkj (n : Int) (m : Nat) (hm : 0 < m) : jdg n m < m := by
 unfold jdg; have h1 := Int.emod_nonneg (if n < 0 then -(n + 1) else n) (b := (m : Int)) (by omega); have h2 := Int.emod_lt_of_pos (if n < 0 then -(n + 1) else n) (b := (m : Int)) (by omega); omega
theorem jgT (n : Int) (m : Nat) (w : World) (hn : (Lit.int .i64 n).wf = true) (hm : 0 < m) (hm2 : m ≤ 9223372036854775807) :
 Calls Tryz.prog 7 #[.int .i64 n, .int .i64 m] w fun e w' => e = .returned (.int .i64 (jdg n m)) ∧ w' = w := by
 have hb := bounds_i64 hn; obtain ⟨hb1, hb2⟩ := hb; clear hn; have HP : Hid ((jdg n m : Int) = (if n < 0 then -(n + 1) else n) % (m : Int)) := by
  unfold Hid jdg; have h1 := Int.emod_nonneg (if n < 0 then -(n + 1) else n) (b := (m : Int)) (by omega); omega
 have hmz : ((m : Int) == 0) = false := by simp; omega
 by_cases h : n < 0
 · have HQ : Hid ((jdg n m : Int) = (-(n + 1)) % (m : Int)) := by unfold Hid; rw [HP.out, if_pos h]
   clear HP; go_enter Tryz.func7, Tryz.ntmps7; go_wp2; go_ret; exact ⟨jb (by rw [HQ.out, ← Int.neg_tmod]; exact Int.tmod_eq_emod_of_nonneg (by omega)), rfl⟩
 · have HQ : Hid ((jdg n m : Int) = n % (m : Int)) := by unfold Hid; rw [HP.out, if_neg h]
   clear HP; go_enter Tryz.func7, Tryz.ntmps7; go_wp2; go_ret; exact ⟨jb (by rw [HQ.out]), rfl⟩
structure Gea where
 kind : Int
 conn : Int
 user : Int
 a : Int
 b : Int
 text : ByteArray
theorem jfZ (n : Int) (m : Nat) (w : World) (hn : (Lit.int .i64 n).wf = true) (hm : 0 < m) (hm2 : m ≤ 9223372036854775807) :
 Calls Tryz.prog 4 #[.int .i64 n, .int .i64 m] w fun e w' => e = .returned (.int .i64 (jdg n m)) ∧ w' = w := by
 have HP := hid (jgT n m w hn hm hm2); clear hn hm hm2; go_enter Tryz.func4, Tryz.ntmps4; go_wp2_with fail; refine HP.out.mono ?_; rintro e u ⟨rfl, hu⟩; subst hu; go_wp2; go_ret; exact ⟨rfl, rfl⟩
theorem jlH (R : Rom) (i : Nat) (c : Con) : (R.put i c).con i = c := by
 match i with
 | 0 | 1 | _ + 2 => rfl
theorem jl9 (R : Rom) (i : Nat) (c d : Con) : (R.put i c).put i d = R.put i d := by
 match i with
 | 0 | 1 | _ + 2 => rfl
theorem RmQ.trans {K : List (List UInt8)} {Cs : List (List Cmd)} {B b : Nat} {G G' : List Nat} {w w1 w' : World} {R : Rom} {r : Value} {e : Ending} (hs : Stp b G w G' w1) (h : RmQ K Cs B b G' w1 R r e w') : RmQ K Cs B b G w R r e w' := by
 obtain ⟨h1, G2, h2, h3⟩ := h; exact ⟨h1, G2, h2, hs.trans h3⟩
theorem ja0 {Q : Nat → Prop} {w : World} {v : Value} {l : List Int} (h : IntsM Q w v l) : ∃ a c, v = .slice a l.length c := RowM.slice h
theorem RoomM.cells {K : List (List UInt8)} {Cs : List (List Cmd)} {B b i o : Nat} {G : List Nat} {R : Rom} {w : World} (h : RoomM K Cs B b G R w) (hi : i < 3) (ho : o = 7 + i * 9) : ∃ at_ ct ad cd,
 w.cell? ⟨b, o, none⟩ = some (.int .i64 (R.con i).ses.step) ∧ w.cell? ⟨b, o + 1, none⟩ = some (.string (S (R.con i).ses.frm.1)) ∧ w.cell? ⟨b, o + 2, none⟩ = some (.string (S (R.con i).ses.frm.2)) ∧ w.cell? ⟨b, o + 3, none⟩ = some (.slice at_ (R.con i).ses.to.length ct) ∧
 w.cell? ⟨b, o + 4, none⟩ = some (.string (S (R.con i).ses.text)) ∧ w.cell? ⟨b, o + 5, none⟩ = some (.bool (R.con i).ses.large) ∧ w.cell? ⟨b, o + 6, none⟩ = some (.string (S (R.con i).held)) ∧ w.cell? ⟨b, o + 7, none⟩ = some (.slice ad (R.con i).due.length cd) ∧
 AdrsM (AvN B b G) w (.slice at_ (R.con i).ses.to.length ct) (R.con i).ses.to ∧ jhn (.slice at_ (R.con i).ses.to.length ct) ∧ IntsM (AvN B b G) w (.slice ad (R.con i).due.length cd) (R.con i).due := by
 obtain ⟨X, hG, hB, hX, hM, hQ⟩ := h; obtain ⟨h1, h2, h3⟩ := hQ.con hi; obtain ⟨at_, ct, ht⟩ := RowM.slice h1; obtain ⟨ad, cd, hd⟩ := ja0 h3; obtain ⟨c0, c1, c2, c3, c4, c5, c6, c7, c8⟩ := jdL hX hi ho; rw [ht] at h1 h2 c3; rw [hd] at h3 c7; exact ⟨at_, ct, ad, cd, c0, c1, c2, c3, c4, c5, c6, c7, h1, h2, h3⟩
theorem RoomM.frz {K : List (List UInt8)} {Cs : List (List Cmd)} {B b : Nat} {G : List Nat} {R : Rom} {w : World} (h : RoomM K Cs B b G R w) (j : Nat) : w.frozen? ⟨b, j, none⟩ = false := by
 obtain ⟨X, hG, hB, hX, hM, hQ⟩ := h; exact hX.frz j
theorem jb1 (R : Rom) (X : Vals) {i : Nat} (hi : i < 3) {c : Con} {x : Cv} (hc : c.told = (R.con i).told) (hx : x.l = (X.con i).l) : jO (R.put i c) (X.put i x) = jO R X := by
 obtain ⟨A, Z, h1, h2⟩ := vP R X hi; rw [h1, h2, hc, hx]
theorem RoomM.held {K : List (List UInt8)} {Cs : List (List Cmd)} {B b i o : Nat} {G : List Nat} {R : Rom} {w : World} (h : RoomM K Cs B b G R w) (hi : i < 3) (ho : o = 7 + i * 9) (t : List UInt8) : RoomM K Cs B b G (R.put i (jeV (R.con i) t)) (w.setCell ⟨b, o + 6, none⟩ (.string (S t))) ∧ Stp b G w G (w.setCell ⟨b, o + 6, none⟩ (.string (S t))) := by
 obtain ⟨X, hG, hB, hX, hM, hQ⟩ := h; have hs : Stp b G w G (w.setCell ⟨b, o + 6, none⟩ (.string (S t))) := (Stp.refl b G w).box _ _; have e := jb1 R X hi (c := jeV (R.con i) t) (x := X.con i) rfl rfl; have hc := (hQ.stp hs).con hi; exact ⟨⟨_, by rw [e]; exact hG, hB, (hX.put _ _).ty (by rw [ho]; exact jiK R X hi t), by rw [e]; exact hM.box _ _, (hQ.stp hs).put hi ⟨hc.gl, hc.ry, hc.du⟩⟩, hs⟩
theorem RoomM.due {K : List (List UInt8)} {Cs : List (List Cmd)} {B b i o : Nat} {G : List Nat} {R : Rom} {w : World} (h : RoomM K Cs B b G R w) (hi : i < 3) (ho : o = 7 + i * 9) (v : Value) (l : List Int) (hv : IntsM (AvN B b G) w v l) : RoomM K Cs B b G (R.put i (dueC (R.con i) l)) (w.setCell ⟨b, o + 7, none⟩ v) ∧ Stp b G w G (w.setCell ⟨b, o + 7, none⟩ v) := by
 obtain ⟨X, hG, hB, hX, hM, hQ⟩ := h; have hs : Stp b G w G (w.setCell ⟨b, o + 7, none⟩ v) := (Stp.refl b G w).box _ _; have e := jb1 R X hi (c := dueC (R.con i) l) (x := ⟨(X.con i).t, v, (X.con i).l⟩) rfl rfl; have hc := (hQ.stp hs).con hi; exact ⟨⟨X.put i ⟨(X.con i).t, v, (X.con i).l⟩, by rw [e]; exact hG, hB, (hX.put _ _).ty (by rw [ho]; exact jkr R X hi v l), by rw [e]; exact hM.box _ _, (hQ.stp hs).put hi ⟨hc.gl, hc.ry, hv.stp hs⟩⟩, hs⟩
theorem jeq (K : List (List UInt8)) (Cs : List (List Cmd)) (B b : Nat) (G : List Nat) (R : Rom) (w : World) (hR : RoomM K Cs B b G R w) (i o : Nat) (hi : i < 3) (ho : o = 7 + i * 9) :
 Calls Tryz.prog 49 #[.pointer (some ⟨b, o, none⟩)] w fun e w' => e = .returned (.bool (decide (0 < (R.con i).due.length))) ∧ w' = w := by
 obtain ⟨at_, ct, ad, cd, c0, c1, c2, c3, c4, c5, c6, c7, _⟩ := hR.cells hi ho; generalize (R.con i).due.length = n at *; clear ho hR c0 c1 c2 c3 c4 c5 c6; go_enter Tryz.func49, Tryz.ntmps49; go_wp2; go_ret
 simp
theorem qO (w : World) (n : Nat) : Below w.heap.size w (w.drewN n) :=
 ⟨rfl, rfl, rfl, Nat.le_refl _, fun _ _ => rfl⟩
theorem jka (K : List (List UInt8)) (Cs : List (List Cmd)) (B b : Nat) (G : List Nat) (R : Rom) (w : World) (hR : RoomM K Cs B b G R w) (i o : Nat) (hi : i < 3) (ho : o = 7 + i * 9) (hm : maxLenCell w) (hn : (R.con i).held.length ≤ 1000000000) (hd : (R.con i).due = []) (x y : List UInt8) (hx : Lib.cut (R.con i).held [13, 10] = (x, y, true)) :
 Calls Tryz.prog 32 #[.pointer (some ⟨b, o, none⟩)] w (RmQ K Cs B b G w (R.put i (jeV (R.con i) y)) (.tuple #[.string (S x), .bool true])) := by
 have HW := hid (jeq K Cs B b G R w hR i o hi ho); rw [hd] at HW; obtain ⟨at_, ct, ad, cd, c0, c1, c2, c3, c4, c5, c6, c7, _⟩ := hR.cells hi ho; have HC := hid (jhF (S (R.con i).held) ⟨#[13, 10]⟩ [13, 10] x y true rfl (by rw [jw]; exact hx) w (by rw [jd]; omega) hm); have HR := hid hR; have HO := hid ho; clear hR ho hd c0 c1 c2 c3 c4 c5 c7 hm hx; go_enter Tryz.func32, Tryz.ntmps32; go_wp2_with fail; refine HW.out.mono ?_; rintro e w1 ⟨rfl, hw1⟩; have hw1' := hw1.symm; subst hw1'; clear hw1; go_wp2_with fail; refine HC.out.mono ?_; rintro e w2 ⟨rfl, n, hw2⟩; have hb2 : Below w.heap.size w w2 := by rw [hw2]; exact qO _ _
 have hR2 := HR.out.next hb2; have hz := hR2.frz (o + 6); obtain ⟨_, _, _, _, _, _, _, _, _, _, d6, _⟩ := hR2.cells hi HO.out; obtain ⟨k1, k2⟩ := hR2.held hi HO.out y; have HF := hid (show RmQ K Cs B b G w (R.put i (jeV (R.con i) y)) (.tuple #[.string (S x), .bool true]) (.returned (.tuple #[.string (S x), .bool true])) (w2.setCell ⟨b, o + 6, none⟩ (.string (S y))) from ⟨rfl, G, k1, (Stp.of hb2).trans k2⟩); clear k1 k2 hR2 hw2 hb2 c6; go_wp2; go_ret2; exact HF.out
theorem jlZ (K : List (List UInt8)) (Cs : List (List Cmd)) (B b : Nat) (G : List Nat) (R : Rom) (w : World) (hR : RoomM K Cs B b G R w) (i o : Nat) (hi : i < 3) (ho : o = 7 + i * 9) (hm : maxLenCell w) (hn : (R.con i).held.length ≤ 1000000000) (x y : List UInt8) (hx : (R.con i).due ≠ [] ∨ Lib.cut (R.con i).held [13, 10] = (x, y, false)) :
 Calls Tryz.prog 32 #[.pointer (some ⟨b, o, none⟩)] w (RmQ K Cs B b G w R (.tuple #[.string ⟨#[]⟩, .bool false])) := by
 have HW := hid (jeq K Cs B b G R w hR i o hi ho); obtain ⟨at_, ct, ad, cd, c0, c1, c2, c3, c4, c5, c6, c7, _⟩ := hR.cells hi ho; have HR := hid hR; have HX := hid hx; have HM := hid hm; obtain ⟨q, hq⟩ : ∃ q, q = decide (0 < (R.con i).due.length) := ⟨_, rfl⟩; rw [← hq] at HW; have HQ := hid hq; clear hR ho c0 c1 c2 c3 c4 c5 c7 hm hx hq; go_enter Tryz.func32, Tryz.ntmps32; go_wp2_with fail; refine HW.out.mono ?_; rintro e w1 ⟨rfl, hw1⟩; have hw1' := hw1.symm; subst hw1'; clear hw1; cases q with
 | true =>
   go_wp2; go_ret2; exact ⟨rfl, G, HR.out, Stp.refl _ _ _⟩
 | false =>
   have hcx : Lib.cut (R.con i).held [13, 10] = (x, y, false) := by
    rcases HX.out with h | h
    · have := HQ.out; have h0 : 0 < (R.con i).due.length := List.length_pos_iff.2 h; rw [decide_eq_true h0] at this; cases this
    · exact h
   have HC := hid (jhF (S (R.con i).held) ⟨#[13, 10]⟩ [13, 10] x y false rfl (by rw [jw]; exact hcx) w (by rw [jd]; omega) HM.out); clear hcx; go_wp2_with fail; refine HC.out.mono ?_; rintro e w2 ⟨rfl, n, hw2⟩; have HB2 := hid (show Below w.heap.size w w2 by rw [hw2]; exact qO _ _); clear hw2 c6; go_wp2; go_ret2; exact ⟨rfl, G, HR.out.next HB2.out, .of HB2.out⟩
def SB (w : World) (b : Nat) (s : Ses) (v lv : Value) : Prop := w.heap[b]? = some (.cells #[.int .i64 s.step, .string (S s.frm.1), .string (S s.frm.2), v, .string (S s.text), .bool s.large, lv] 155)
def SesW (w : World) (b B : Nat) (s : Ses) (lv : Value) : Prop := ∃ v, SB w b s v lv ∧ OwnL w B v s.to
theorem jcC {w : World} {p j : Nat} {cs : Array Value} {u : Value} {t : TypeId} (h : w.heap[p]? = some (.cells cs t)) : (w.setCell ⟨p, j, none⟩ u).heap[p]? = some (.cells (cs.setIfInBounds j u) t) := heap_setCell_same w p j cs t u h
theorem jih {w w' : World} {p : Nat} {o : Obj} (hb : Below w.heap.size w w') (h : w.heap[p]? = some o) : w'.heap[p]? = some o := (hb.block p (Array.getElem?_eq_some_iff.1 h).1).trans h
theorem jbV {w w' : World} {B : Nat} {v : Value} {l : List Adr} (h : OwnL w B v l) (hb : Below w.heap.size w w') : OwnL w' B v l := by
 unfold OwnL at *; refine ⟨h.1, ?_⟩
 rcases h.2 with h' | ⟨g, cap, cur, hv, hB, hg, hr⟩
 · exact .inl h'
 · exact .inr ⟨g, cap, cur, hv, hB, (hb.block g (Array.getElem?_eq_some_iff.1 hg).1).trans hg, hr⟩
theorem low7 {B p : Nat} (W : World) (v0 v1 v2 v3 v4 v5 : Value) (hp : B ≤ p) : Below B W ((((((W.setCell ⟨p, 0, none⟩ v0).setCell ⟨p, 1, none⟩ v1).setCell ⟨p, 2, none⟩ v2).setCell ⟨p, 3, none⟩ v3).setCell ⟨p, 4, none⟩ v4).setCell ⟨p, 5, none⟩ v5) := by
 have h0 := (Below.refl B W).setCell (p := ⟨p, 0, none⟩) hp v0; have h1 := h0.setCell (p := ⟨p, 1, none⟩) hp v1; have h2 := h1.setCell (p := ⟨p, 2, none⟩) hp v2; have h3 := h2.setCell (p := ⟨p, 3, none⟩) hp v3; have h4 := h3.setCell (p := ⟨p, 4, none⟩) hp v4; exact h4.setCell (p := ⟨p, 5, none⟩) hp v5
theorem SesW.next {w w' : World} {b B : Nat} {s : Ses} {lv : Value} (h : SesW w b B s lv) (hb : Below w.heap.size w w') : SesW w' b B s lv := by
 obtain ⟨v, h1, h2⟩ := h; exact ⟨v, jih hb h1, jbV h2 hb⟩
theorem SB.lt {w : World} {b : Nat} {s : Ses} {v lv : Value} (h : SB w b s v lv) : b < w.heap.size := (Array.getElem?_eq_some_iff.1 h).1
def ltrC (x : Ltr) : List Value := [.string (S x.1.1), .string (S x.1.2), .string (S x.2.1.1), .string (S x.2.1.2), .string (S x.2.2)]
def jc9 (l : List Ltr) : List Value := (l.map ltrC).flatten
def LOwnT (w : World) (B : Nat) (v : Value) (l : List Ltr) : Prop := w.ownsRow B 159 5 v l.length (jc9 l)
def LtrM (x : Ltr) (cs : List Value) : Prop := cs = ltrC x
def LtrsM (Q : Nat → Prop) (w : World) (v : Value) (l : List Ltr) : Prop := RowM Q 5 LtrM w v l
theorem jeX {l : List Ltr} {i : Nat} {x : Ltr} (h : l[i]? = some x) (j : Nat) (hj : j < 5) : (jc9 l)[i * 5 + j]? = (ltrC x)[j]? := by
 induction l generalizing i with
 | nil => simp at h
 | cons g l ih =>
   have hl : (ltrC g).length = 5 := rfl; cases i with
   | zero =>
     simp at h
     subst h; simp only [jc9, List.map_cons, List.flatten_cons]; rw [List.getElem?_append_left (by rw [hl]; omega)]
     simp
   | succ i =>
     have := ih (i := i) (by simpa using h); simp only [jc9, List.map_cons, List.flatten_cons]; rw [List.getElem?_append_right (by rw [hl]; omega), hl, show (i + 1) * 5 + j - 5 = i * 5 + j by omega]; exact this
theorem LOwnT.slice {w : World} {B : Nat} {v : Value} {l : List Ltr} (h : LOwnT w B v l) : ∃ a c, v = .slice a l.length c := by
 rcases h.2 with ⟨rfl, hn⟩ | ⟨g, cap, cur, rfl, _⟩
 · exact ⟨none, 0, by rw [hn]⟩
 · exact ⟨_, _, rfl⟩
theorem LOwnT.row {w : World} {B : Nat} {v : Value} {l : List Ltr} (h : LOwnT w B v l) (hm : l.length ≤ maxLen) : LtrsM (B ≤ ·) w v l := by
 obtain ⟨a, c, rfl⟩ := h.slice; refine ⟨a, c, rfl, hm, fun i x hx => ?_⟩; have hi : i < l.length := (List.getElem?_eq_some_iff.1 hx).1; obtain ⟨g, cap, e, hb, hg⟩ := World.ownsRow.form h (by omega); simp only [Value.slice.injEq, true_and] at e; obtain ⟨rfl, rfl⟩ := e; refine ⟨g, 0, ltrC x, rfl, hg, hb, rfl, ?_, rfl⟩; intro j u hj; have hj5 : j < 5 := (List.getElem?_eq_some_iff.1 hj).1; rw [Nat.zero_add, World.ownsRow.cellAt h (i * 5 + j) (by omega), jeX hx j hj5]; exact hj
theorem LOwnT.nil (w : World) (B : Nat) : LOwnT w B (.slice none 0 0) [] := World.ownsRow_nil _ _ _ _
theorem jiv {w w' : World} {B : Nat} {v : Value} {l : List Ltr} (h : LOwnT w B v l) (hb : Below w.heap.size w w') : LOwnT w' B v l := by
 unfold LOwnT at *; refine ⟨h.1, ?_⟩
 rcases h.2 with h' | ⟨g, cap, cur, hv, hB, hg, hr⟩
 · exact .inl h'
 · exact .inr ⟨g, cap, cur, hv, hB, (hb.block g (Array.getElem?_eq_some_iff.1 hg).1).trans hg, hr⟩
theorem ja5 {w : World} {B b j : Nat} {v u : Value} {l : List Adr} (h : OwnL w B v l) (hb : b < B) : OwnL (w.setCell ⟨b, j, none⟩ u) B v l := by
 unfold OwnL at *; refine ⟨h.1, ?_⟩
 rcases h.2 with h' | ⟨g, cap, cur, hv, hB, hg, hr⟩
 · exact .inl h'
 · exact .inr ⟨g, cap, cur, hv, hB, (Below.heap_setCell _ _ _ _ (show g ≠ b by omega)).trans hg, hr⟩
theorem jdf {w : World} {B B' : Nat} {v : Value} {l : List Adr} (h : OwnL w B v l) (hb : B' ≤ B) : OwnL w B' v l := by
 unfold OwnL at *; refine ⟨h.1, ?_⟩
 rcases h.2 with h' | ⟨g, cap, cur, hv, hB, hg, hr⟩
 · exact .inl h'
 · exact .inr ⟨g, cap, cur, hv, by omega, hg, hr⟩
theorem jd1 {w : World} {B B' : Nat} {v : Value} {l : List Ltr} (h : LOwnT w B v l) (hb : B' ≤ B) : LOwnT w B' v l := by
 unfold LOwnT at *; refine ⟨h.1, ?_⟩
 rcases h.2 with h' | ⟨g, cap, cur, hv, hB, hg, hr⟩
 · exact .inl h'
 · exact .inr ⟨g, cap, cur, hv, by omega, hg, hr⟩
theorem jai {w : World} {B b j : Nat} {v u : Value} {l : List Ltr} (h : LOwnT w B v l) (hb : b < B) : LOwnT (w.setCell ⟨b, j, none⟩ u) B v l := by
 unfold LOwnT at *; refine ⟨h.1, ?_⟩
 rcases h.2 with h' | ⟨g, cap, cur, hv, hB, hg, hr⟩
 · exact .inl h'
 · exact .inr ⟨g, cap, cur, hv, hB, (Below.heap_setCell _ _ _ _ (show g ≠ b by omega)).trans hg, hr⟩
theorem jkw {W : World} {p : Nat} {u0 u1 u2 u3 u4 u5 v0 v1 v2 v3 v4 v5 : Value} {t : TypeId} (h : W.heap[p]? = some (.cells #[u0, u1, u2, u3, u4, u5] t)) : ((((((W.setCell ⟨p, 0, none⟩ v0).setCell ⟨p, 1, none⟩ v1).setCell ⟨p, 2, none⟩ v2).setCell ⟨p, 3, none⟩ v3).setCell ⟨p, 4, none⟩ v4).setCell ⟨p, 5, none⟩ v5).heap[p]? = some (.cells #[v0, v1, v2, v3, v4, v5] t) := by
 have := jcC (j := 5) (u := v5) (jcC (j := 4) (u := v4) (jcC (j := 3) (u := v3) (jcC (j := 2) (u := v2) (jcC (j := 1) (u := v1) (jcC (j := 0) (u := v0) h))))); simp only [List.setIfInBounds_toArray, List.set_cons_succ, List.set_cons_zero] at this; exact this
theorem lawful.ok {a : Adr} (h : lawful a) : jmr a = true := by unfold jmr; rw [h.check]; rfl
def SesB (w : World) (b B : Nat) (s : Ses) : Prop := ∃ a k, w.heap[b]? = some (.cells #[.int .i64 s.step, .string (S s.frm.1), .string (S s.frm.2), .slice a s.to.length k, .string (S s.text), .bool s.large] 68) ∧ OwnL w B (.slice a s.to.length k) s.to
theorem SesB.next {w w' : World} {b B : Nat} {s : Ses} (h : SesB w b B s) (hb : Below w.heap.size w w') : SesB w' b B s := by
 obtain ⟨a, k, h1, h2⟩ := h; exact ⟨a, k, jih hb h1, jbV h2 hb⟩
theorem SesB.from {w : World} {b B B' : Nat} {s : Ses} (h : SesB w b B s) (hb : B' ≤ B) : SesB w b B' s := by
 obtain ⟨a, k, h1, h2⟩ := h; exact ⟨a, k, h1, jdf h2 hb⟩
def LnB (W : World) (r : Ses) (c : Int) (ls : List Ltr) (vp vc vl ve : Value) (wx : World) : Prop := ∃ P al cl, vp = .pointer (some ⟨P, 0, none⟩) ∧ vc = .int .i64 c ∧ vl = .slice al ls.length cl ∧ ve = .int .i64 0 ∧ W.heap.size ≤ P ∧ SesB wx P W.heap.size r ∧ LOwnT wx W.heap.size (.slice al ls.length cl) ls ∧ Below W.heap.size W wx
theorem LnB.new {W u w' : World} {r : Ses} {c : Int} {ls : List Ltr} {a al : Option Addr} {k cl : Nat} (h1 : OwnL w' u.heap.size (.slice a r.to.length k) r.to) (h2 : LOwnT w' u.heap.size (.slice al ls.length cl) ls) (h4 : Below W.heap.size W w') (h5 : W.heap.size ≤ u.heap.size) :
 LnB W r c ls (.pointer (some ⟨w'.heap.size, 0, none⟩)) (.int .i64 c) (.slice al ls.length cl) (.int .i64 0) (w'.alloc (.cells #[.int .i64 r.step, .string (S r.frm.1), .string (S r.frm.2), .slice a r.to.length k, .string (S r.text), .bool r.large] 68)) := by
 have hn : Below w'.heap.size w' (w'.alloc (.cells #[.int .i64 r.step, .string (S r.frm.1), .string (S r.frm.2), .slice a r.to.length k, .string (S r.text), .bool r.large] 68)) := nb0 _ _; exact ⟨_, al, cl, rfl, rfl, rfl, rfl, h4.size, ⟨a, k, heap_alloc_new _ _, jbV (jdf h1 h5) hn⟩, jiv (jd1 h2 h5) hn, h4.alloc h4.size _⟩
theorem LnB.old {W u w' : World} {r : Ses} {c : Int} {ls : List Ltr} {a al : Option Addr} {k cl P : Nat} {v0 v1 v2 v3 v4 v5 : Value} (h1 : OwnL w' u.heap.size (.slice a r.to.length k) r.to) (h2 : LOwnT w' u.heap.size (.slice al ls.length cl) ls) (h4 : Below W.heap.size W w') (h5 : W.heap.size ≤ u.heap.size) (hP : W.heap.size ≤ P) (hl : P < u.heap.size) (hk : w'.heap[P]? = some (.cells #[v0, v1, v2, v3, v4, v5] 68)) :
 LnB W r c ls (.pointer (some ⟨P, 0, none⟩)) (.int .i64 c) (.slice al ls.length cl) (.int .i64 0) ((((((w'.setCell ⟨P, 0, none⟩ (.int .i64 r.step)).setCell ⟨P, 1, none⟩ (.string (S r.frm.1))).setCell ⟨P, 2, none⟩ (.string (S r.frm.2))).setCell ⟨P, 3, none⟩ (.slice a r.to.length k)).setCell ⟨P, 4, none⟩ (.string (S r.text))).setCell ⟨P, 5, none⟩ (.bool r.large)) := by
 exact ⟨_, al, cl, rfl, rfl, rfl, rfl, hP, ⟨a, k, jkw hk, jdf (ja5 (ja5 (ja5 (ja5 (ja5 (ja5 h1 hl) hl) hl) hl) hl) hl) h5⟩, jd1 (jai (jai (jai (jai (jai (jai h2 hl) hl) hl) hl) hl) hl) h5, h4.trans (low7 w' _ _ _ _ _ _ hP)⟩
theorem jkJ (K : List (List UInt8)) (Cs : List (List Cmd)) (B b : Nat) (G : List Nat) (R : Rom) (w : World) (hR : RoomM K Cs B b G R w) (i o : Nat) (hi : i < 3) (ho : o = 7 + i * 9) {Q : Nat → Prop} (v : Value) (l : List Int) (hv : IntsM Q w v l) (hn : (R.con i).told.length + l.length ≤ 1000000000) :
 Calls Tryz.prog 52 #[.pointer (some ⟨b, o, none⟩), v] w (RmQ K Cs B b G w (R.put i (jhd (R.con i) l)) (.tuple #[])) := by
 obtain ⟨a, c, rfl⟩ := ja0 hv
 match l, hv, hn with
 | [], hv, hn =>
   rw [jkK, jc1 R i hi]; exact jja K Cs B b G R w hR i o hi ho a c (by simpa using hn)
 | x :: t, hv, hn =>
   obtain ⟨a', c', he, _, hx⟩ := hv; obtain ⟨g, q, cs, ha, _⟩ := hx 0 x rfl; simp only [Value.slice.injEq, true_and] at he; obtain ⟨rfl, rfl⟩ := he; subst ha; refine jjb K Cs B b G R w hR i o hi ho ⟨g, q, none⟩ c (x :: t) (by simp) hn fun j u hj => ?_
   rw [Addr.add_lit]; rw [List.getElem?_map] at hj; cases hk : (x :: t)[j]? with
   | none => rw [hk] at hj; cases hj
   | some k =>
     rw [hk] at hj; cases hj; obtain ⟨g', q', cs', ha', _, _, _, hc, rfl⟩ := hx j k hk; cases ha'; have := hc 0 _ rfl
     simpa using this
theorem je8 (K : List (List UInt8)) (Cs : List (List Cmd)) (B b : Nat) (G : List Nat) (R : Rom) (w : World) (hR : RoomM K Cs B b G R w) (i o : Nat) (hi : i < 3) (ho : o = 7 + i * 9) (hn : (R.con i).told.length + (R.con i).due.length ≤ 1000000000) :
 Calls Tryz.prog 35 #[.pointer (some ⟨b, o, none⟩)] w (RmQ K Cs B b G w (R.put i (jdj (R.con i))) (.tuple #[])) := by
 obtain ⟨_, _, ad, cd, _, _, _, _, _, _, _, c7, _, _, hd⟩ := hR.cells hi ho; have HT := hid (jkJ K Cs B b G R w hR i o hi ho _ _ hd hn); have HO := hid ho; clear ho hR hd; go_enter Tryz.func35, Tryz.ntmps35; go_wp2_with fail; refine HT.out.mono ?_; rintro e w1 ⟨rfl, G1, hR1, hs1⟩; obtain ⟨_, _, _, _, _, _, _, _, _, _, _, d7, _⟩ := hR1.cells hi HO.out; have hz := hR1.frz (o + 7); obtain ⟨k1, k2⟩ := hR1.due hi HO.out (.slice none 0 0) [] (jj _ _ _ _ _ _); rw [jlH, jl9] at k1; have HF := hid (show RmQ K Cs B b G w (R.put i (jdj (R.con i))) (.tuple #[]) (.returned (.tuple #[])) (w1.setCell ⟨b, o + 7, none⟩ (.slice none 0 0)) from ⟨rfl, G1, k1, hs1.trans k2⟩); clear k1 k2 hR1 hs1; go_wp2; go_end0; exact HF.out
theorem RoomM.names {K : List (List UInt8)} {Cs : List (List Cmd)} {B b : Nat} {G : List Nat} {R : Rom} {w : World} (h : RoomM K Cs B b G R w) : ∃ a c, w.cell? ⟨b, 34, none⟩ = some (.slice a K.length c) ∧ TxtsM (AvN B b G) w (.slice a K.length c) K := by
 obtain ⟨X, hG, hB, hX, hM, hQ⟩ := h; obtain ⟨a, c, e⟩ := RowM.slice hQ.lo; exact ⟨a, c, hX.cell (by rw [← e]; rfl), by rw [← e]; exact hQ.lo⟩
theorem jks (R : Rom) (X : Vals) {i : Nat} (hi : i < 3) (s : Ses) (v : Value) : ((((((qX R X).set (7 + i * 9) (.int .i64 s.step)).set (7 + i * 9 + 1) (.string (S s.frm.1))).set (7 + i * 9 + 2) (.string (S s.frm.2))).set (7 + i * 9 + 3) v).set (7 + i * 9 + 4) (.string (S s.text))).set (7 + i * 9 + 5) (.bool s.large) = qX (R.put i (sesC (R.con i) s)) (X.put i ⟨v, (X.con i).d, (X.con i).l⟩) := by
 match i, hi with
 | 0, _ | 1, _ | 2, _ => rfl
theorem RoomM.ses {K : List (List UInt8)} {Cs : List (List Cmd)} {B b i o : Nat} {G : List Nat} {R : Rom} {w : World} (h : RoomM K Cs B b G R w) (hi : i < 3) (ho : o = 7 + i * 9) (s : Ses) (v : Value) (hv : AdrsM (AvN B b G) w v s.to) (hr : jhn v) :
 RoomM K Cs B b G (R.put i (sesC (R.con i) s)) ((((((w.setCell ⟨b, o, none⟩ (.int .i64 s.step)).setCell ⟨b, o + 1, none⟩ (.string (S s.frm.1))).setCell ⟨b, o + 2, none⟩ (.string (S s.frm.2))).setCell ⟨b, o + 3, none⟩ v).setCell ⟨b, o + 4, none⟩ (.string (S s.text))).setCell ⟨b, o + 5, none⟩ (.bool s.large)) ∧
 Stp b G w G ((((((w.setCell ⟨b, o, none⟩ (.int .i64 s.step)).setCell ⟨b, o + 1, none⟩ (.string (S s.frm.1))).setCell ⟨b, o + 2, none⟩ (.string (S s.frm.2))).setCell ⟨b, o + 3, none⟩ v).setCell ⟨b, o + 4, none⟩ (.string (S s.text))).setCell ⟨b, o + 5, none⟩ (.bool s.large)) := by
 obtain ⟨X, hG, hB, hX, hM, hQ⟩ := h; have hs := ((((((Stp.refl b G w).box o (.int .i64 s.step)).box (o + 1) (.string (S s.frm.1))).box (o + 2) (.string (S s.frm.2))).box (o + 3) v).box (o + 4) (.string (S s.text))).box (o + 5) (.bool s.large); have e := jb1 R X hi (c := sesC (R.con i) s) (x := ⟨v, (X.con i).d, (X.con i).l⟩) rfl rfl; have hc := (hQ.stp hs).con hi; exact ⟨⟨X.put i ⟨v, (X.con i).d, (X.con i).l⟩, by rw [e]; exact hG, hB, ((((((hX.put _ _).put _ _).put _ _).put _ _).put _ _).put _ _).ty (by rw [ho]; exact jks R X hi s v), by rw [e]; exact (((((hM.box _ _).box _ _).box _ _).box _ _).box _ _).box _ _, (hQ.stp hs).put hi ⟨hv.stp hs, hr, hc.du⟩⟩, hs⟩
theorem jfw {K : List (List UInt8)} {Cs : List (List Cmd)} {B b : Nat} {G : List Nat} {R : Rom} {w : World} (h : RoomM K Cs B b G R w) {k : Nat} (hk : w.heap.size ≤ k) : Av b G k := by
 obtain ⟨h1, _, h3⟩ := h.lt; exact ⟨by omega, fun e => by have := (h3 k e).2; omega⟩
theorem LtrsM.stp {b : Nat} {G G' : List Nat} {w w' : World} {v : Value} {l : List Ltr} (h : LtrsM (Av b G) w v l) (hs : Stp b G w G' w') : LtrsM (Av b G') w' v l := RowM.stp h hs fun _ _ h => h
theorem jkC (a : Option Addr) (c : Nat) (l : List UInt8) (s : Int) (Q : Nat → Prop) (w : World) (h : BysM Q w (.slice a l.length c) l) :
 Calls Tryz.prog 55 #[.agg #[.slice a l.length c, .int .i64 s]] w (if mayN l.length s then TpP w l l.length 0 else TpP w [] 0 11) := by
 obtain ⟨W1, hW1⟩ : ∃ W1, W1 = (w.alloc (.cells #[.slice a l.length c, .int .i64 s] 60)).alloc (.cells #[.slice none 0 0, .int .i64 0] 60) := ⟨_, rfl⟩; have HWE := bhid hW1; have HB1 := bhid (show Below w.heap.size w W1 by rw [hW1]; exact jjd _ _ _); have hp0 : W1.heap[w.heap.size]? = some (.cells #[.slice a l.length c, .int .i64 s] 60) := by rw [hW1]; exact (jdu w _ _).1
 have hr0 : W1.heap[w.heap.size + 1]? = some (.cells #[.slice none 0 0, .int .i64 0] 60) := by rw [hW1]; exact (jdu w _ _).2
 have HP := bhid hp0; have HR := bhid hr0; obtain ⟨x0, x1, _, _⟩ := j8 hp0; have HH := bhid (h.next HB1.out); cases hm : mayN l.length s with
 | false =>
   rw [if_neg (by simp)]; have HM := bhid hm; clear hm h hp0 hr0 hW1; go_enter Tryz.func55, Tryz.ntmps55; go_wp2_with fail; rw [← HWE.out]; refine (jds a l.length c s W1).mono ?_; rintro e w2 ⟨rfl, hb⟩; rw [HM.out]; obtain ⟨y0, y1, f0, f1⟩ := j8 (qp hb HR.out); obtain ⟨z0, z1, _, _⟩ := j8 (jhw (u0 := .slice none 0 0) (u1 := .int .i64 0) (qp hb HR.out)); have HE := bhid (TpP.refused w w2 11 (w.heap.size + 1) (Nat.le_succ _) (HB1.out.trans (hb.mono HB1.out.size))); clear hb; go_wp2; refine bodyPost_ret (v := .tuple #[.agg #[.slice none 0 0, .int .i64 0], .int .i64 11]) (by simp [results, Tryz.results55, go_sem, *]) rfl ?_; exact HE.out
 | true =>
   rw [if_pos rfl]; have HM := bhid hm; have hl : l.length ≤ 140737488355328 := by
    unfold mayN at hm
    simp at hm
    omega
   clear hm h hp0 hr0 hW1; go_enter Tryz.func55, Tryz.ntmps55; go_wp2_with fail; rw [← HWE.out]; refine (jds a l.length c s W1).mono ?_; rintro e w2 ⟨rfl, hb⟩; rw [HM.out]; have hP2 := qp hb HP.out; have hR2 := qp hb HR.out; obtain ⟨y0, y1, _, _⟩ := j8 hP2; have HB2 := bhid (HB1.out.trans (hb.mono HB1.out.size)); have HC := bhid (fun (u : World) (hu : Below w2.heap.size w2 u) => jfB a c l Q u ((HH.out.next hb).next hu) hl); have HP2 := bhid hP2; have HR2 := bhid hR2; clear hb hP2 hR2 x0 x1 hl; go_upto_region 3 with fail
   go_region_held3 (fun w' => w'.cell? ⟨w.heap.size, 0, none⟩ = some (.slice a l.length c) ∧ w'.cell? ⟨w.heap.size, 1, none⟩ = some (.int .i64 s)) (go_keep)
    (first
        | (go_at_call 84
           with_reducible refine (HC.out w2.drew (Below.refl _ _).drew).mono ?_
           rintro e w3 ⟨a3, c3, rfl, hO3, hb3⟩; have hb3' : Below w2.heap.size w2 w3 := (Below.refl _ _).drew.trans hb3; obtain ⟨z0, z1, _, _⟩ := j8 (qp hb3' HP2.out); obtain ⟨r0, r1, f0, f1⟩ := j8 (qp hb3' HR2.out); obtain ⟨q0, q1, _, _⟩ := j8 (jhw (u0 := .slice a3 l.length c3) (u1 := .int .i64 l.length) (qp hb3' HR2.out)); have HE := bhid (TpP.done (s := l.length) (p := w.heap.size + 1) (Nat.le_succ _) (Array.getElem?_eq_some_iff.1 HR2.out).1 HB2.out (show TpC w2 l (.returned (.slice a3 l.length c3)) w3 from ⟨a3, c3, rfl, hO3, hb3'⟩)); clear hO3 hb3 hb3')
        | fail)
   all_goals
    go_wp2; refine bodyPost_ret (v := .tuple #[.agg #[.slice a3 l.length c3, .int .i64 l.length], .int .i64 0]) (by simp [results, Tryz.results55, go_sem, *]) rfl ?_; exact HE.out
def jfe (R : Rom) : Rom := ⟨R.up, R.tape, R.tsyn, R.syn + R.waits, 0, R.states, R.states, R.c0, R.c1, R.c2, R.orders, R.due⟩
def jip (R : Rom) (x y : Int) : Rom := ⟨R.up, R.tape, R.tsyn, x, y, R.safe, R.states, R.c0, R.c1, R.c2, R.orders, R.due⟩
def jcq (R : Rom) (t : List UInt8) (s : Int) : Rom := ⟨R.up, t, s, R.syn, R.waits, R.safe, R.states, R.c0, R.c1, R.c2, R.orders, R.due⟩
def vq (R : Rom) : Rom := jfe (jcq R R.tape R.tape.length)
def RmS (K : List (List UInt8)) (Cs : List (List Cmd)) (B b : Nat) (G : List Nat) (R : Rom) (w wx : World) : Prop := RoomM K Cs B b G R wx ∧ Stp b G w G wx
theorem RmS.num {K : List (List UInt8)} {Cs : List (List Cmd)} {B b : Nat} {G : List Nat} {R : Rom} {w : World} (h : RoomM K Cs B b G R w) (x y : Int) : RmS K Cs B b G (jip R x y) w ((w.setCell ⟨b, 3, none⟩ (.int .i64 x)).setCell ⟨b, 4, none⟩ (.int .i64 y)).drew := by
 obtain ⟨X, hG, hB, hX, hM, hQ⟩ := h; have hs := (((Stp.refl b G w).box 3 (.int .i64 x)).box 4 (.int .i64 y)); have hs' : Stp b G w G ((w.setCell ⟨b, 3, none⟩ (.int .i64 x)).setCell ⟨b, 4, none⟩ (.int .i64 y)).drew := hs.trans (.of (Below.refl _ _).drew); have q := hQ.stp hs'; exact ⟨⟨X, hG, hB, (((hX.put 3 (.int .i64 x)).put 4 (.int .i64 y)).next (Below.refl _ _).drew).ty rfl, ((hM.box 3 (.int .i64 x)).box 4 (.int .i64 y)).next (Below.refl _ _).drew, q.k0, q.k1, q.k2, q.lo, q.sc, q.sf, q.sv, q.os, q.td⟩, hs'⟩
theorem RmS.num' {K : List (List UInt8)} {Cs : List (List Cmd)} {B b : Nat} {G : List Nat} {R : Rom} {w : World} (h : RoomM K Cs B b G R w) (x y : Int) : RmS K Cs B b G (jip R x y) w ((w.setCell ⟨b, 4, none⟩ (.int .i64 y)).setCell ⟨b, 3, none⟩ (.int .i64 x)).drew := by
 obtain ⟨X, hG, hB, hX, hM, hQ⟩ := h; have hs := (((Stp.refl b G w).box 4 (.int .i64 y)).box 3 (.int .i64 x)); have hs' : Stp b G w G ((w.setCell ⟨b, 4, none⟩ (.int .i64 y)).setCell ⟨b, 3, none⟩ (.int .i64 x)).drew := hs.trans (.of (Below.refl _ _).drew); have q := hQ.stp hs'; exact ⟨⟨X, hG, hB, (((hX.put 4 (.int .i64 y)).put 3 (.int .i64 x)).next (Below.refl _ _).drew).ty rfl, ((hM.box 4 (.int .i64 y)).box 3 (.int .i64 x)).next (Below.refl _ _).drew, q.k0, q.k1, q.k2, q.lo, q.sc, q.sf, q.sv, q.os, q.td⟩, hs'⟩
theorem RoomM.ledger {K : List (List UInt8)} {Cs : List (List Cmd)} {B b : Nat} {G : List Nat} {R : Rom} {w : World} (h : RoomM K Cs B b G R w) : ∃ at_ ct vf g cs vs, w.cell? ⟨b, 1, none⟩ = some (.slice at_ R.tape.length ct) ∧ w.cell? ⟨b, 2, none⟩ = some (.int .i64 R.tsyn) ∧ w.cell? ⟨b, 3, none⟩ = some (.int .i64 R.syn) ∧ w.cell? ⟨b, 4, none⟩ = some (.int .i64 R.waits) ∧ w.cell? ⟨b, 5, none⟩ = some vf ∧ w.cell? ⟨b, 6, none⟩ = some vs ∧
 BysM (AvN B b G) w (.slice at_ R.tape.length ct) R.tape ∧ (0 < R.states.length → vs = .slice (some ⟨g, 0, none⟩) R.states.length cs ∧ g ≠ b) := by
 obtain ⟨X, hG, hB, hX, hM, hQ⟩ := h; obtain ⟨at_, ct, e, _, _⟩ := hQ.td.slice; have hown := hM.own (sttR X.st X.sv) (by simp [jO]); have hst : ∃ g cs, 0 < R.states.length → X.st = .slice (some ⟨g, 0, none⟩) R.states.length cs ∧ g ≠ b := by
  rcases hown.2 with ⟨_, h0⟩ | ⟨g, cap, cur, hv, _⟩
  · exact ⟨0, 0, fun h => by have h0 : X.sv.length = 0 := h0; rw [hQ.sv.1] at h0; omega⟩
  · have hv : X.st = .slice (some ⟨g, 0, none⟩) X.sv.length cap := hv; exact ⟨g, cap, fun _ => ⟨by rw [hv, hQ.sv.1], fun e => hM.far (List.mem_filterMap.2 ⟨sttR X.st X.sv, by simp [jO], by show X.st.ownBlock = _; rw [hv, ← e]; rfl⟩)⟩⟩
 obtain ⟨g, cs, hst⟩ := hst; exact ⟨at_, ct, X.sf, g, cs, X.st, hX.cell (by rw [← e]; rfl), hX.cell rfl, hX.cell rfl, hX.cell rfl, hX.cell rfl, hX.cell rfl, by rw [← e]; exact hQ.td, hst⟩
theorem RoomM.safe {K : List (List UInt8)} {Cs : List (List Cmd)} {B b : Nat} {G : List Nat} {R : Rom} {w : World} (h : RoomM K Cs B b G R w) (hn : R.states.length ≤ 1000) : ∃ news, news.length = R.states.length * 2 ∧ (∀ u ∈ news, u.oneCell' = true) ∧ (∀ g cs, w.cell? ⟨b, 6, none⟩ = some (.slice (some ⟨g, 0, none⟩) R.states.length cs) → ∀ (j : Nat) u, news[j]? = some u → w.cell? ((⟨g, 0, none⟩ : Addr).add j) = some u) ∧
 ∀ (w' : World) (v : Value), Below w.heap.size w w' → w'.ownsRow w.heap.size 44 2 v R.states.length news → RmS K Cs B b G ⟨R.up, R.tape, R.tsyn, R.syn, R.waits, R.states, R.states, R.c0, R.c1, R.c2, R.orders, R.due⟩ w (w'.setCell ⟨b, 5, none⟩ v) := by
 have hr := h; obtain ⟨X, hG, hB, hX, hM, hQ⟩ := h; have hown := hM.own (sttR X.st X.sv) (by simp [jO]); have hl : ((X.sv.map fun x => [x.1, x.2]).flatten).length = R.states.length * 2 := by
  rw [← hQ.sv.1]; generalize X.sv = l
  induction l with
  | nil => rfl
  | cons x t ih => simp only [List.map_cons, List.flatten_cons, List.length_append, ih, List.length_cons, List.length_nil]; omega
 refine ⟨(X.sv.map fun x => [x.1, x.2]).flatten, hl, fun u hu => ?_, fun g cs hc j u hj => ?_, fun w' v hb ho => ?_⟩
 · obtain ⟨y, hy, hu⟩ := List.mem_flatten.1 hu; obtain ⟨x, hx, rfl⟩ := List.mem_map.1 hy; obtain ⟨i, hi⟩ := List.getElem?_of_mem hx; obtain ⟨h1, h2, _⟩ := hQ.sv.2 i _ x (List.getElem?_eq_getElem (by have := (List.getElem?_eq_some_iff.1 hi).1; have := hQ.sv.1; omega)) hi; obtain ⟨_, _, e1⟩ := RowM.slice h1; obtain ⟨_, _, e2⟩ := RowM.slice h2; simp only [List.mem_cons, List.not_mem_nil, or_false] at hu
   rcases hu with rfl | rfl
   · rw [e1]; rfl
   · rw [e2]; rfl
 · have e : X.st = .slice (some ⟨g, 0, none⟩) R.states.length cs := Option.some.inj ((hX.cell (j := 6) rfl).symm.trans hc); have hown : w.ownsRow B 44 2 X.st X.sv.length ((X.sv.map fun x => [x.1, x.2]).flatten) := hown; rw [e, hQ.sv.1] at hown; have hjl : j < ((X.sv.map fun x => [x.1, x.2]).flatten).length := (List.getElem?_eq_some_iff.1 hj).1; rw [Addr.add_lit, Nat.zero_add, World.ownsRow.cellAt hown j (by rw [hl] at hjl; exact hjl)]; exact hj
 · have hs : Stp b G w G (w'.setCell ⟨b, 5, none⟩ v) := (Stp.of hb).box 5 v; have q := hQ.stp hs; have ho5 : (w'.setCell ⟨b, 5, none⟩ v).ownsRow w.heap.size 44 2 v R.states.length ((X.sv.map fun x => [x.1, x.2]).flatten) := je ho fun g hg => Below.heap_setCell _ _ _ _ (fun e => by have e' : g = b := e; have := (World.ownsRow.lt ho g hg).1; have := hM.lt; omega)
   exact ⟨⟨{ X with sf := v }, hG, hB, ((hX.next hb).put 5 v).ty rfl, (hM.next hb).box 5 v, q.k0, q.k1, q.k2, q.lo, q.sc, qB (css := X.sv.map fun x => [x.1, x.2]) ho5 rfl (show R.states.length ≤ maxLen by unfold maxLen; omega) (by rw [List.length_map]; exact hQ.sv.1) (fun cs hcs => by
        obtain ⟨x, _, rfl⟩ := List.mem_map.1 hcs; rfl) (fun i s cs hi hcs => by
        rw [List.getElem?_map] at hcs; cases hx : X.sv[i]? with
        | none => rw [hx] at hcs; cases hcs
        | some x =>
          rw [hx] at hcs; cases hcs; exact ⟨_, _, rfl, q.sv.2 i s x hi hx⟩) (fun g hg => by
        have := (World.ownsRow.lt ho5 g hg).1; exact ⟨by have := hM.lt; omega, jfw hr this⟩), q.sv, q.os, q.td⟩, hs⟩
theorem jfb (K : List (List UInt8)) (Cs : List (List Cmd)) (B b : Nat) (G : List Nat) (R : Rom) (w : World) (hR : RoomM K Cs B b G R w) (hsy : 0 ≤ R.syn ∧ R.syn ≤ 1000000) (hwa : 0 ≤ R.waits ∧ R.waits ≤ 1000000) (hn : 0 < R.states.length ∧ R.states.length ≤ 1000) :
 Calls Tryz.prog 23 #[.pointer (some ⟨b, 1, none⟩)] w (RmQ K Cs B b G w (jfe R) (.tuple #[])) := by
 obtain ⟨at_, ct, vf, g, cs, vs, _, _, c3, c4, _, _, _, _⟩ := hR.ledger; have hwr : IntKind.i64.wrap (R.syn + R.waits) = R.syn + R.waits := by rw [IntKind.wrap_i64]; omega
 have z3 := hR.frz 3; have z4 := hR.frz 4; have HE1 := hid (RmS.num hR (R.syn + R.waits) 0); have HE2 := hid (RmS.num' hR (R.syn + R.waits) 0); have HNN := hid hn; clear hR hn; go_enter Tryz.func23, Tryz.ntmps23; go_upto_region 0 with fail
 go_cut [] (fun wx => RmS K Cs B b G (jip R (R.syn + R.waits) 0) w wx)
 case first =>
  go_region_law (fail)
  all_goals first
   | (have HE := HE1; go_wp2_with fail; go_meet; exact HE.out)
   | (have HE := HE2; go_wp2_with fail; go_meet; exact HE.out)
   | fail
 case rest =>
  obtain ⟨hx, hB⟩ := hcut; obtain ⟨W1, rfl⟩ : ∃ W, W = wc := ⟨_, rfl⟩; obtain ⟨_, _, vf1, g1, cs1, vs1, _, _, _, _, d5, d6, _, hst⟩ := hx.ledger; obtain ⟨rfl, hgb⟩ := hst HNN.out.1; obtain ⟨news, n1, n2, n3, n4⟩ := hx.safe HNN.out.2; have HC := hid (n3 g1 cs1 d6); have HN4 := hid n4; have HB := hid hB; have hlt := hx.lt.1; have hz := fun (w2 : World) (h : Below W1.heap.size W1 w2) => (hx.next h).frz 5
  have HZ := hid hz; have H5 := hid (fun (w2 : World) (h : Below W1.heap.size W1 w2) => ja d5 h); have HCL := hid (jhB ⟨g1, 0, none⟩ R.states.length cs1 news W1 n1 HNN.out.2 HC.out n2); clear hx hB hst n1 n2 n3 n4 hz c3 c4 z3 z4 HE1 HE2; have d6' : W1.cell? ⟨b, 6, none⟩ = some (.slice (some ⟨g1, 0, none⟩) R.states.length cs1) := d6; clear d6; go_wp2_with fail; refine HCL.out.mono ?_; rintro e w2 ⟨v', rfl, ho, hb2⟩; obtain ⟨a', c', rfl⟩ := jbu ho; obtain ⟨k1, k2⟩ := HN4.out w2 _ hb2 ho; have e5 := H5.out w2 hb2; have zf := HZ.out w2 hb2; have HF := hid (show RmQ K Cs B b G w (jfe R) (.tuple #[]) (.returned (.tuple #[])) (w2.setCell ⟨b, 5, none⟩ (.slice a' R.states.length c')) from ⟨rfl, G, k1, HB.out.trans k2⟩); clear ho hb2 k1 k2; go_wp2; go_end0; exact HF.out
theorem jii (K : List (List UInt8)) (Cs : List (List Cmd)) (B b : Nat) (G : List Nat) (R : Rom) (w : World) (hR : RoomM K Cs B b G R w) (hm : mayN R.tape.length R.tsyn = true) (hsy : 0 ≤ R.syn ∧ R.syn ≤ 1000000) (hwa : 0 ≤ R.waits ∧ R.waits ≤ 1000000) (hn : 0 < R.states.length ∧ R.states.length ≤ 1000) :
 Calls Tryz.prog 34 #[.pointer (some ⟨b, 1, none⟩)] w (RmQ K Cs B b G w (vq R) (.tuple #[])) := by
 obtain ⟨at_, ct, vf, g, cs, vs, c1, c2, _, _, _, _, hT, _⟩ := hR.ledger; have HS := hid (jkC at_ ct R.tape R.tsyn _ w hT); rw [if_pos hm] at HS; have HN := hid (show ∀ (w2 : World) (a : Option Addr) (c : Nat), Below w.heap.size w w2 → w2.ownsRow w.heap.size 5 1 (.slice a R.tape.length c) R.tape.length (byC R.tape) → w2.cell? ⟨b, 1, none⟩ = some (.slice at_ R.tape.length ct) ∧ w2.cell? ⟨b, 2, none⟩ = some (.int .i64 R.tsyn) ∧ w2.frozen? ⟨b, 1, none⟩ = false ∧ w2.frozen? ⟨b, 2, none⟩ = false ∧
  RmS K Cs B b G (jcq R R.tape R.tape.length) w ((w2.setCell ⟨b, 1, none⟩ (.slice a R.tape.length c)).setCell ⟨b, 2, none⟩ (.int .i64 R.tape.length)) from fun w2 a c hb ho => by
  have hr := hR; have f1 := (hR.next hb).frz 1; have f2 := (hR.next hb).frz 2; obtain ⟨X, hG, hB, hX, hM, hQ⟩ := hR; have hs : Stp b G w G ((w2.setCell ⟨b, 1, none⟩ (.slice a R.tape.length c)).setCell ⟨b, 2, none⟩ (.int .i64 R.tape.length)) := ((Stp.of hb).box 1 _).box 2 _; have q := hQ.stp hs; have ho5 : ((w2.setCell ⟨b, 1, none⟩ (.slice a R.tape.length c)).setCell ⟨b, 2, none⟩ (.int .i64 R.tape.length)).ownsRow w.heap.size 5 1 (.slice a R.tape.length c) R.tape.length (byC R.tape) := je ho fun g hg => by
   have hn : g ≠ b := fun e => by have := (World.ownsRow.lt ho g hg).1; have := hM.lt; omega
   exact (Below.heap_setCell _ _ _ _ hn).trans (Below.heap_setCell _ _ _ _ hn)
  have hml : R.tape.length ≤ maxLen := by obtain ⟨_, _, _, _, h⟩ := hQ.td.slice; exact h
  exact ⟨ja c1 hb, ja c2 hb, f1, f2, ⟨{ X with td := .slice a R.tape.length c }, hG, hB, (((hX.next hb).put 1 _).put 2 _).ty rfl, ((hM.next hb).box 1 _).box 2 _, q.k0, q.k1, q.k2, q.lo, q.sc, q.sf, q.sv, q.os, jix ho5 rfl hml fun g hg => by
        have := (World.ownsRow.lt ho5 g hg).1; exact ⟨by have := hM.lt; omega, jfw hr this⟩⟩, hs⟩)
 have HST := hid (fun (w3 : World) (h : RoomM K Cs B b G (jcq R R.tape R.tape.length) w3) => jfb K Cs B b G _ w3 h hsy hwa hn); clear hR hT hn; go_enter Tryz.func34, Tryz.ntmps34; go_wp2_with fail; refine HS.out.mono ?_; rintro e w2 ⟨a, c, rfl, ho, hb⟩; obtain ⟨e1, e2, z1, z2, k1, k2⟩ := HN.out w2 a c hb ho; have HK1 := hid k1; have HK2 := hid k2; clear ho hb k1 k2; go_wp2_with fail; refine (HST.out _ HK1.out).mono ?_; rintro e w3 ⟨rfl, h⟩; have HF := hid (show RmQ K Cs B b G w (vq R) (.tuple #[]) (.returned (.tuple #[])) w3 from RmQ.trans HK2.out ⟨rfl, h⟩); clear h; go_wp2; go_end0; exact HF.out
end Go.Proofs.YtgooljlpffnaeaaGreatDoor
