/-
  A room's ledger, written into: plain facts on memory.
-/
import Derived.Test.YtgooljlpffnaeaaGreatDoorFQPoTu25
import Derived.Test.YtgooljlpffnaeaaGreatDoorRows
set_option maxHeartbeats 2000000
set_option maxRecDepth 100000
namespace Go.Proofs.YtgooljlpffnaeaaGreatDoor
open Go.RowKit Go.Proofs
theorem RoomM.duer {K : List (List UInt8)} {Cs : List (List Cmd)} {B b : Nat} {G : List Nat} {R : Rom} {w : World} (h : RoomM K Cs B b G R w) : ∃ (a : Option Addr) (c : Nat), w.cell? ⟨b, 37, none⟩ = some (.slice a R.due.length c) ∧ w.ownsRow B 3 1 (.slice a R.due.length c) R.due.length (R.due.map fun k => .int .i64 k) ∧ B ≤ w.heap.size ∧
 ∀ (wa w1 : World) (p cap : Nat) (e : Int), Below w.heap.size w wa → w1.ownsRow B 3 1 (.slice (some ⟨p, 0, none⟩) (R.due.length + 1) cap) (R.due.length + 1) ((R.due.map fun k => .int .i64 k) ++ [.int .i64 e]) → wa.grownBy w1 ((.slice a R.due.length c : Value).ownBlock) → ((.slice a R.due.length c : Value).ownBlock = some p ∨ p = wa.heap.size) →
   w1.cell? ⟨b, 37, none⟩ = some (.slice a R.due.length c) ∧ w1.frozen? ⟨b, 37, none⟩ = false ∧ ∃ G', RoomM K Cs B b G' (dueR R (R.due ++ [e])) (w1.setCell ⟨b, 37, none⟩ (.slice (some ⟨p, 0, none⟩) (R.due.length + 1) cap)) ∧ Stp b G w G' (w1.setCell ⟨b, 37, none⟩ (.slice (some ⟨p, 0, none⟩) (R.due.length + 1) cap)) := by
 obtain ⟨X, hG, hB, hX, hM, hQ⟩ := h; have hrow : ∀ v l, jO (dueR R l) { X with du := v } = [intR 3 X.c0.l R.c0.told, intR 3 X.c1.l R.c1.told, intR 3 X.c2.l R.c2.told] ++ intR 3 v l :: ([sttR X.st X.sv, ordR X.od X.os] ++ (List.range 3).map fun u => intR 37 (X.os.getD u (.slice none 0 0)) (R.orders.getD u [])) := fun v l => rfl
 have e1 : jO R X = _ := hrow X.du R.due; have hown := hM.own (intR 3 X.du R.due) (by simp [jO]); have hown : w.ownsRow B 3 1 X.du R.due.length (R.due.map fun k => .int .i64 k) := hown; obtain ⟨a, c, ha, _⟩ := ql hown; refine ⟨a, c, hX.cell (by rw [← ha]; rfl), by rw [← ha]; exact hown, by have := hM.lt; omega, fun wa w1 p cap e hb h1 h2 h3 => ?_⟩; have hMa := hM.next hb; rw [e1] at hMa; rw [← ha] at h2 h3; obtain ⟨k1, k2⟩ := hMa.grow (H := wa.heap.size) (r' := intR 3 (.slice (some ⟨p, 0, none⟩) (R.due.length + 1) cap) (R.due ++ [e])) h2 (by simpa [intR] using h1) (Nat.le_refl _) (fun g' e' => by cases e'; exact h3.imp id fun h => Nat.le_of_eq h.symm); have hbx : w1.heap[b]? = wa.heap[b]? := h2.block b (Nat.lt_of_lt_of_le hM.lt hb.size) fun e => hM.far (by rw [e1]; exact List.mem_filterMap.2 ⟨intR 3 X.du R.due, by simp, e.symm⟩)
 have hX1 : RmB w1 b (qX R X) := ⟨hbx.trans ((hb.block b hM.lt).trans hX.1), hX.2⟩; rw [← hrow] at k1 k2; have hs : Stp b G w (mB (jO (dueR R (R.due ++ [e])) { X with du := .slice (some ⟨p, 0, none⟩) (R.due.length + 1) cap })) (w1.setCell ⟨b, 37, none⟩ (.slice (some ⟨p, 0, none⟩) (R.due.length + 1) cap)) := by
  rw [hG, e1]; exact ((Stp.of hb).trans k2).box 37 _
 have q := hQ.stp hs; exact ⟨by rw [← ha]; exact hX1.cell rfl, hX1.frz _, _, ⟨{ X with du := .slice (some ⟨p, 0, none⟩) (R.due.length + 1) cap }, rfl, hB, (hX1.put 37 _).ty rfl, k1.box 37 _, q.k0, q.k1, q.k2, q.lo, q.sc, q.sf, q.sv, q.os, q.td⟩, hs⟩
theorem RoomM.setTape {K : List (List UInt8)} {Cs : List (List Cmd)} {B b : Nat} {G : List Nat} {R : Rom} {w : World} (h : RoomM K Cs B b G R w) {H : Nat} {a : Option Addr} {c : Nat} {t : List UInt8} (s : Int) (ho : w.ownsRow H 5 1 (.slice a t.length c) t.length (byC t)) (hH : b < H) (hn : ∀ k, H ≤ k → k < w.heap.size → AvN B b G k) (hm : t.length ≤ maxLen) :
 RmS K Cs B b G (jcq R t s) w ((w.setCell ⟨b, 1, none⟩ (.slice a t.length c)).setCell ⟨b, 2, none⟩ (.int .i64 s)) := by
 obtain ⟨X, hG, hB, hX, hM, hQ⟩ := h; have hs : Stp b G w G ((w.setCell ⟨b, 1, none⟩ (.slice a t.length c)).setCell ⟨b, 2, none⟩ (.int .i64 s)) := ((Stp.refl b G w).box 1 _).box 2 _; have q := hQ.stp hs; have ho5 : ((w.setCell ⟨b, 1, none⟩ (.slice a t.length c)).setCell ⟨b, 2, none⟩ (.int .i64 s)).ownsRow H 5 1 (.slice a t.length c) t.length (byC t) := je ho fun g hg => by
  have hn : g ≠ b := fun e => by have := (World.ownsRow.lt ho g hg).1; omega
  exact (Below.heap_setCell _ _ _ _ hn).trans (Below.heap_setCell _ _ _ _ hn)
 exact ⟨⟨{ X with td := .slice a t.length c }, hG, hB, ((hX.put 1 _).put 2 _).ty rfl, (hM.box 1 _).box 2 _, q.k0, q.k1, q.k2, q.lo, q.sc, q.sf, q.sv, q.os, jix ho5 rfl hm fun g hg => hn g (World.ownsRow.lt ho g hg).1 (World.ownsRow.lt ho g hg).2⟩, hs⟩
theorem RoomM.setWaits {K : List (List UInt8)} {Cs : List (List Cmd)} {B b : Nat} {G : List Nat} {R : Rom} {w : World} (h : RoomM K Cs B b G R w) (y : Int) : RmS K Cs B b G (jip R R.syn y) w (w.setCell ⟨b, 4, none⟩ (.int .i64 y)) := by
 obtain ⟨X, hG, hB, hX, hM, hQ⟩ := h; have hs := (Stp.refl b G w).box 4 (.int .i64 y); have q := hQ.stp hs; exact ⟨⟨X, hG, hB, (hX.put 4 (.int .i64 y)).ty rfl, hM.box 4 (.int .i64 y), q.k0, q.k1, q.k2, q.lo, q.sc, q.sf, q.sv, q.os, q.td⟩, hs⟩
def stR (R : Rom) (l : List Stt) : Rom := ⟨R.up, R.tape, R.tsyn, R.syn, R.waits, R.safe, l, R.c0, R.c1, R.c2, R.orders, R.due⟩
theorem RoomM.stater {K : List (List UInt8)} {Cs : List (List Cmd)} {B b : Nat} {G : List Nat} {R : Rom} {w : World} (h : RoomM K Cs B b G R w) (h3 : R.states.length = 3) {u : Nat} (hu : u < 3) {s : Stt} (hs : R.states[u]? = some s) : ∃ (g c : Nat) (vb vs : Value), w.cell? ⟨b, 6, none⟩ = some (.slice (some ⟨g, 0, none⟩) 3 c) ∧ w.cell? ⟨g, u * 2, none⟩ = some vb ∧ w.cell? ⟨g, u * 2 + 1, none⟩ = some vs ∧ SttM (AvN B b G) w vb vs s ∧ g ≠ b ∧ g < w.heap.size ∧ (∀ j, w.frozen? ⟨g, j, none⟩ = false) ∧
 ∀ (vb' vs' : Value) (s' : Stt), SttM (AvN B b G) w vb' vs' s' → RmS K Cs B b G (stR R (R.states.set u s')) w ((w.setCell ⟨g, u * 2, none⟩ vb').setCell ⟨g, u * 2 + 1, none⟩ vs') := by
 obtain ⟨X, hG, hB, hX, hM, hQ⟩ := h; have hl := hQ.sv.1; rw [h3] at hl; have ho := hM.own (sttR X.st X.sv) (by simp [jO]); have ho : w.ownsRow B 44 2 X.st X.sv.length ((X.sv.map fun x => [x.1, x.2]).flatten) := ho; obtain ⟨g, c, cur, hv, hg, hc⟩ := jfM ho (by rw [hl]; decide); have hrow : ∀ l, jO R { X with sv := l } = [intR 3 X.c0.l R.c0.told, intR 3 X.c1.l R.c1.told, intR 3 X.c2.l R.c2.told, intR 3 X.du R.due] ++ sttR X.st l :: (ordR X.od X.os :: (List.range 3).map fun u => intR 37 (X.os.getD u (.slice none 0 0)) (R.orders.getD u [])) := fun l => rfl
 have e1 : jO R X = _ := hrow X.sv; have hgb : g ≠ b := fun e => hM.far (by rw [e1]; exact List.mem_filterMap.2 ⟨sttR X.st X.sv, by simp, by show X.st.ownBlock = _; rw [hv, ← e]; rfl⟩)
 have hgG : g ∈ G := by rw [hG, e1]; exact List.mem_filterMap.2 ⟨sttR X.st X.sv, by simp, by show X.st.ownBlock = _; rw [hv]; rfl⟩
 obtain ⟨x, hx⟩ : ∃ x, X.sv[u]? = some x := ⟨_, List.getElem?_eq_getElem (by omega)⟩; have hfl : ((X.sv.map fun x => [x.1, x.2]).flatten)[u * 2]? = some x.1 ∧ ((X.sv.map fun x => [x.1, x.2]).flatten)[u * 2 + 1]? = some x.2 ∧ ∀ p q : Value, (((X.sv.map fun x => [x.1, x.2]).flatten).set (u * 2) p).set (u * 2 + 1) q = ((X.sv.set u (p, q)).map fun x => [x.1, x.2]).flatten := by
  have hx' := hx; generalize X.sv = l at hl hx'
  match l, hl with
  | [x0, x1, x2], _ =>
    match u, hu with
    | 0, _ | 1, _ | 2, _ => simp at hx'; subst hx'; exact ⟨rfl, rfl, fun _ _ => rfl⟩
 refine ⟨g, c, x.1, x.2, hX.cell (by rw [← hl, ← hv]; rfl), hc _ _ hfl.1, hc _ _ hfl.2.1, hQ.sv.2 u s x hs hx, hgb, (Array.getElem?_eq_some_iff.1 hg).1, fun j => by simp [World.frozen?, hg], fun vb' vs' s' hS => ?_⟩; have hM' := hM; rw [e1] at hM'; obtain ⟨k1, k2⟩ := MOk.put (g := g) (c := c) hM' (show X.st = .slice (some ⟨g, 0, none⟩) X.sv.length c from hv) (u * 2) vb'; obtain ⟨m1, m2⟩ := MOk.put (g := g) (c := c) k1 (show X.st = .slice (some ⟨g, 0, none⟩) X.sv.length c from hv) (u * 2 + 1) vs'; have q3 : (⟨44, 2, X.st, X.sv.length, (((X.sv.map fun x => [x.1, x.2]).flatten).set (u * 2) vb').set (u * 2 + 1) vs'⟩ : MRow) = sttR X.st (X.sv.set u (vb', vs')) := by
  rw [hfl.2.2]; unfold sttR; rw [List.length_set]
 simp only [sttR] at m1 m2; have m3 := m1; have m4 := k2.trans m2; rw [show (⟨44, 2, X.st, X.sv.length, (((X.sv.map fun x => [x.1, x.2]).flatten).set (u * 2) vb').set (u * 2 + 1) vs'⟩ : MRow) = sttR X.st (X.sv.set u (vb', vs')) from q3, ← hrow (X.sv.set u (vb', vs'))] at m3 m4; have hG' : mB (jO R { X with sv := X.sv.set u (vb', vs') }) = G := by
  rw [hG, hrow, e1, jaD, jaD, vL, vL]; rfl
 rw [hG', ← e1, ← hG] at m4; have q := hQ.stp m4; have hbx : ((w.setCell ⟨g, u * 2, none⟩ vb').setCell ⟨g, u * 2 + 1, none⟩ vs').heap[b]? = w.heap[b]? := (Below.heap_setCell _ _ _ _ (Ne.symm hgb)).trans (Below.heap_setCell _ _ _ _ (Ne.symm hgb)); refine ⟨⟨{ X with sv := X.sv.set u (vb', vs') }, hG'.symm, hB, ⟨hbx.trans hX.1, hX.2⟩, m3, q.k0, q.k1, q.k2, q.lo, q.sc, q.sf, ⟨by show (X.sv.set u _).length = (R.states.set u s').length; rw [List.length_set, List.length_set]; exact hQ.sv.1, fun i s0 y hi hy => ?_⟩, q.os, q.td⟩, m4⟩; have hi' : (R.states.set u s')[i]? = some s0 := hi; have hy' : (X.sv.set u (vb', vs'))[i]? = some y := hy
 by_cases hiu : i = u
 · subst hiu; rw [List.getElem?_set_self (by omega)] at hi' hy'; cases hi'; cases hy'; exact hS.stp m4
 · rw [List.getElem?_set_ne (Ne.symm hiu)] at hi' hy'; exact q.sv.2 i s0 y hi' hy'
structure Bat where
 user : Int
 ents : List Ent
def beB : Nat → Nat → List UInt8
 | _, 0 => []
 | n, k + 1 => UInt8.ofNat (n / 256 ^ k) :: beB n k
def txB (s : List UInt8) : List UInt8 := beB s.length 2 ++ s
def entB (x : Ent) : List UInt8 := beB x.kind.toNat 1 ++ (beB x.flags.toNat 1 ++ (beB x.uid.toNat 3 ++ (txB x.box ++ (txB x.goal ++ txB x.text))))
def zA : List Ent → List UInt8
 | [] => []
 | x :: l => entB x ++ zA l
def batB (b : Bat) : List UInt8 := beB b.user.toNat 1 ++ (beB b.ents.length 1 ++ zA b.ents)
def takeR (k : Nat) (r : List UInt8 × Bool) : List UInt8 × (List UInt8 × Bool) := if k ≤ r.1.length then (r.1.take k, (r.1.drop k, r.2)) else ([], ([], true))
theorem ze (n k : Nat) : (beB n k).length = k := by
 induction k with
 | zero => rfl
 | succ k ih => simp [beB, ih]
structure Fits (x : Ent) : Prop where
 kind : 0 ≤ x.kind ∧ x.kind < 256
 flags : 0 ≤ x.flags ∧ x.flags < 256
 uid : 0 ≤ x.uid ∧ x.uid < 16777216
 box : x.box.length < 65536
 goal : x.goal.length < 65536
 text : x.text.length < 65536
structure FitB (b : Bat) : Prop where
 user : 0 ≤ b.user ∧ b.user < 256
 many : b.ents.length < 256
 each : ∀ x ∈ b.ents, Fits x
def frB (b : Bat) : List UInt8 := beB (batB b).length 3 ++ batB b
theorem jhY (b : Bat) : (frB b).length = 3 + (batB b).length := by unfold frB; rw [List.length_append, ze]
theorem jfJ {s : List UInt8} (h : qI s = 0) : s.length ≤ 12 := by
 unfold qI at h; split at h
 · cases h
 · omega
theorem jeC {s : List UInt8} (h : jhZ s = 0) : s.length ≤ 100 := by
 unfold jhZ at h; split at h
 · cases h
 · omega
theorem jbO {x : Ent} (h : Formed x) : x.box.length ≤ 12 ∧ x.goal.length ≤ 100 ∧ x.text.length ≤ 2000 := by
 obtain ⟨⟨k1, k2⟩, ⟨b1, b2, b3, b4, b5⟩, _, _, ht, hg, hn, hto⟩ := h; refine ⟨?_, ?_, ht⟩
 · by_cases h6 : x.kind = 6
   · rw [(b5 h6).1]; simp
   · exact jfJ (hn h6)
 · by_cases h6 : x.kind = 6
   · exact jeC (hg h6)
   · by_cases h5 : x.kind = 5
     · have := jfJ (hto h5); omega
     · have : x.goal = [] := by
        by_cases h1 : x.kind = 1
        · exact (b1 (.inl h1)).2.2.1
        · by_cases h4 : x.kind = 4
          · exact (b1 (.inr h4)).2.2.1
          · by_cases h2 : x.kind = 2
            · exact (b2 h2).2
            · exact (b3 (by omega)).1
       rw [this]; simp
theorem jeU {x : Ent} (h : Formed x) : Fits x := by
 obtain ⟨h1, h2, h3⟩ := jbO h; have hk := h.kind; have hf := h.flags; have hu := h.uid; exact ⟨by omega, by omega, by omega, by omega, by omega, by omega⟩
structure BatOk (b : Bat) : Prop where
 user : 0 ≤ b.user ∧ b.user < 3
 many : 1 ≤ b.ents.length ∧ b.ents.length ≤ 10
 each : ∀ x ∈ b.ents, Formed x
theorem BatOk.fit {b : Bat} (h : BatOk b) : FitB b := ⟨by have := h.user; omega, by have := h.many; omega, fun x hx => jeU (h.each x hx)⟩
theorem jfC (x : Ent) : (entB x).length = 11 + x.box.length + x.goal.length + x.text.length := by
 unfold entB txB; simp only [List.length_append, ze]; omega
theorem jjT (m : Nat) : ∀ (l : List Ent), (∀ x ∈ l, (entB x).length ≤ m) → (zA l).length ≤ m * l.length := by
 intro l
 induction l with
 | nil => intro _; simp [zA]
 | cons x l ih =>
   intro h; have h1 := ih fun y hy => h y (by simp [hy])
   have h2 := h x (by simp); simp only [zA, List.length_append, List.length_cons, Nat.mul_succ]; omega
theorem jjv (b : Bat) : (batB b).length = 2 + (zA b.ents).length := by
 unfold batB; simp only [List.length_append, ze]; omega
theorem BatOk.len {b : Bat} (h : BatOk b) : (batB b).length ≤ 21232 := by
 have := jjT 2123 b.ents fun x hx => by
  obtain ⟨h1, h2, h3⟩ := jbO (h.each x hx); rw [jfC]; omega
 have h2 := h.many; rw [jjv]; have : 2123 * b.ents.length ≤ 2123 * 10 := Nat.mul_le_mul_left _ h2.2; omega
theorem jcU (n k : Nat) : beB n (k + 1) = UInt8.ofNat (n / 256 ^ k) :: beB n k := rfl
structure Wro (b : Nat) (g g' : Option Nat) (w w' : World) : Prop where
 os : w'.os = w.os
 tape : w'.tape = w.tape
 output : w'.output = w.output
 size : w.heap.size ≤ w'.heap.size
 block : ∀ k, k < w.heap.size → k ≠ b → g ≠ some k → w'.heap[k]? = w.heap[k]?
 row : ∀ k, g' = some k → g = some k ∨ w.heap.size ≤ k
theorem Wro.refl (b : Nat) (g : Option Nat) (w : World) : Wro b g g w w := ⟨rfl, rfl, rfl, Nat.le_refl _, fun _ _ _ _ => rfl, fun _ h => .inl h⟩
theorem Wro.trans {b : Nat} {g g' g'' : Option Nat} {x y z : World} (h : Wro b g g' x y) (k : Wro b g' g'' y z) : Wro b g g'' x z :=
 ⟨k.os.trans h.os, k.tape.trans h.tape, k.output.trans h.output, Nat.le_trans h.size k.size,
  fun i hi hn hg => (k.block i (Nat.lt_of_lt_of_le hi h.size) hn (fun e => by rcases h.row i e with q | q; exact hg q; omega)).trans (h.block i hi hn hg),
  fun i e => by
   rcases k.row i e with q | q
   · exact h.row i q
   · exact .inr (Nat.le_trans h.size q)⟩
theorem Wro.of {b : Nat} {g : Option Nat} {w w' : World} (h : Below w.heap.size w w') : Wro b g g w w' := ⟨h.os, h.tape, h.output, h.size, fun k hk _ _ => h.block k hk, fun _ h => .inl h⟩
theorem Wro.below {b B : Nat} {g g' : Option Nat} {w w' : World} (h : Wro b g g' w w') (hB : B ≤ b) (hw : B ≤ w.heap.size) (hg : ∀ k, g = some k → B ≤ k) : Below B w w' :=
 ⟨h.os, h.tape, h.output, h.size, fun k hk => h.block k (by omega) (by omega) (fun e => by have := hg k e; omega)⟩
def ByW (B : Nat) (w : World) (b : Nat) (g : Option Nat) (l : List UInt8) : Prop :=
 ∃ a c, w.heap[b]? = some (.cells #[.slice a l.length c] 203) ∧ (Value.slice a l.length c).ownBlock = g ∧ g ≠ some b ∧ B ≤ b ∧ w.ownsRow B 5 1 (.slice a l.length c) l.length (byC l)
theorem ByW.lt {B b : Nat} {w : World} {g : Option Nat} {l : List UInt8} (h : ByW B w b g l) : b < w.heap.size := by
 obtain ⟨a, c, h1, _⟩ := h; exact (Array.getElem?_eq_some_iff.1 h1).1
theorem ByW.row {B b : Nat} {w : World} {g : Option Nat} {l : List UInt8} (h : ByW B w b g l) : ∀ k, g = some k → B ≤ k ∧ k < w.heap.size ∧ k ≠ b := by
 obtain ⟨a, c, _, h2, h3, _, h4⟩ := h; intro k hk; have := World.ownsRow.lt h4 k (h2.trans hk); exact ⟨this.1, this.2, fun e => h3 (by rw [hk, e])⟩
theorem ByW.next {B b : Nat} {w w' : World} {g : Option Nat} {l : List UInt8} (h : ByW B w b g l) (hb : Below w.heap.size w w') : ByW B w' b g l := by
 obtain ⟨a, c, h1, h2, h3, h4, h5⟩ := h; exact ⟨a, c, qp hb h1, h2, h3, h4, qQ h5 fun g hg => hb.block g (World.ownsRow.lt h5 g hg).2⟩
theorem Wro.low {B b : Nat} {w w' : World} {g g' : Option Nat} {l : List UInt8} (h : Wro b g g' w w') (hb : ByW B w b g l) : Below B w w' := by
 have h1 := hb.lt; have h2 : B ≤ b := by obtain ⟨_, _, _, _, _, h, _⟩ := hb; exact h
 exact h.below h2 (by omega) fun k hk => (hb.row k hk).1
theorem Wro.obj {B b p : Nat} {w w' : World} {g g' : Option Nat} {l : List UInt8} {o : Obj} (h : Wro b g g' w w') (_hb : ByW B w b g l) (hp : w.heap[p]? = some o) (hn : p ≠ b) (hg : g ≠ some p) : w'.heap[p]? = some o :=
 (h.block p (Array.getElem?_eq_some_iff.1 hp).1 hn hg).trans hp
theorem Wro.stay {b p : Nat} {w w' : World} {g g' : Option Nat} (h : Wro b g g' w w') (hp : p < w.heap.size) (hg : g ≠ some p) : g' ≠ some p := by
 intro e
 rcases h.row p e with q | q
 · exact hg q
 · omega
def WnP (B b : Nat) (g : Option Nat) (w : World) (l : List UInt8) (e : Ending) (w' : World) : Prop := e = .returned (.tuple #[]) ∧ ∃ g', ByW B w' b g' l ∧ Wro b g g' w w'
theorem jaT (W : World) (H : Nat) (hH : W.heap.size = H) (v : Value) (t : TypeId) : ∀ j u, [v][j]? = some u → (W.alloc (.cells #[v] t)).cell? ((⟨H, 0, none⟩ : Addr).add j) = some u := by
 intro j u hj; subst hH; cases j with
 | zero => simp at hj; subst hj; rw [Addr.add_lit]; simp
 | succ j => simp at hj
theorem jeG (l : List UInt8) (n : Nat) : byC (l ++ [UInt8.ofNat n]) = byC l ++ [.int .u8 ((n % 256 : Nat) : Int)] := by
 rw [jhz]
 simp [byC]
theorem jci {b g2 : Nat} {w w3 : World} {g : Option Nat} (o : Obj) (hg : (w.drew.alloc o).grownBy w3 g) (hat : g = some g2 ∨ g2 = (w.drew.alloc o).heap.size) : Wro b g (some g2) w w3 := by
 have hz : (w.drew.alloc o).heap.size = w.heap.size + 1 := by simp
 refine ⟨hg.os, hg.tape, hg.output, by have := hg.size; omega, fun k hk _ hn => ?_, fun k hk => ?_⟩
 · refine (hg.block k (by omega) fun e => hn e.symm).trans ?_; exact Below.heap_alloc w.drew o k hk
 · cases hk
   rcases hat with h | h
   · exact .inl h
   · exact .inr (by omega)
theorem Wro.set {b : Nat} {g g' : Option Nat} {w w' : World} (h : Wro b g g' w w') (o : Nat) (v : Value) : Wro b g g' w (w'.setCell ⟨b, o, none⟩ v) :=
 ⟨h.os, h.tape, h.output, by have := h.size; simpa [World.setCell] using this, fun k hk hb hg => (Below.heap_setCell _ _ _ _ hb).trans (h.block k hk hb hg), h.row⟩
theorem qb (n k B b : Nat) (g : Option Nat) (l : List UInt8) (w : World) (hw : ByW B w b g l) (hk : k ≤ 3) (hl : l.length ≤ 1000000) :
 Calls Tryz.prog 121 #[.pointer (some ⟨b, 0, none⟩), .int .i64 n, .int .i64 k] w (WnP B b g w (l ++ beB n k)) := by
 obtain ⟨i0, hi, hz0, hz1, hz2⟩ := jat jh5; have HW := bhid hw; clear hw; go_enter Tryz.func121, Tryz.ntmps121; go_wp2
 go_loopw [6] (fun v wr => ∃ (i : Nat) (pre : List UInt8) (g9 : Option Nat), i ≤ k ∧ v = .int .i64 ((i : Int) - 1) ∧ Hid (beB n k = pre ++ beB n i) ∧ pre.length + i = k ∧ Hid (ByW B wr b g9 (l ++ pre)) ∧ Hid (Wro b g g9 w wr)) (fun v _ => (intOf v + 1).toNat)
 case atStart => exact ⟨k, [], g, Nat.le_refl _, rfl, rfl, by simp, by rw [List.append_nil]; exact HW, Wro.refl _ _ _⟩
 case round =>
  obtain ⟨i, pre, g9, hik, rfl, HP, hpl, HY, HX⟩ := hrel; cases i with
  | zero =>
    have HE := bhid (show WnP B b g w (l ++ beB n k) (.returned (.tuple #[])) wr from ⟨rfl, g9, by rw [HP.out]; simpa [beB] using HY.out, HX.out⟩); go_wp2; go_end0; exact HE.out
  | succ i =>
    have h3 : i < 3 := by omega
    match i, h3 with
    | 0, _ =>
      obtain ⟨m, hm⟩ : ∃ m, m = n / 256 ^ 0 := ⟨_, rfl⟩; have hsh : Op.shift BinOp.shr IntKind.i64 (n : Int) IntKind.i64 (IntKind.i64.wrap 0) = pure (.int .i64 (m : Int)) := by
       rw [show IntKind.i64.wrap 0 = 0 by decide, shift_shr_any _ _ _ _ (by decide), hm]
       simp [IntKind.bits]
      have hcv : IntKind.u8.wrap (m : Int) = ((m % 256 : Nat) : Int) := by simp [IntKind.wrap, IntKind.bits, IntKind.signed]
      have HBS := bhid (show byC (l ++ pre ++ [UInt8.ofNat m]) = byC (l ++ pre) ++ [.int .u8 ((m % 256 : Nat) : Int)] from jeG _ _); have HPS := bhid (show beB n k = pre ++ [UInt8.ofNat m] ++ beB n 0 by rw [HP.out, jcU, ← hm]; simp); have HAS := bhid (List.append_assoc l pre [UInt8.ofNat m]); obtain ⟨a, c, h1, h2, h3, h4, h5⟩ := HY.out; have hc0 : wr.cell? ⟨b, 0, none⟩ = some (.slice a (l ++ pre).length c) := by simp [World.cell?, h1]
      have hf0 : wr.frozen? ⟨b, 0, none⟩ = false := by simp [World.frozen?, h1]
      have hbl : b < wr.heap.size := HY.out.lt; have hne : b ≠ wr.heap.size := by omega
      have hne' : wr.heap.size ≠ b := by omega
      have H1 := bhid h1; have H2 := bhid h2; have H3 := bhid h3; have H5 := bhid h5; have hB9 : B ≤ wr.heap.size := by omega
      have hql : (l ++ pre).length ≤ 1000003 := by rw [List.length_append]; omega
      generalize l ++ pre = q at *; clear h1 h2 h3 h5 hm; go_upto_region 3 with fail
      go_region_law
       (refine step_append_lies _ (by rfl) _ _ _ (by rfl) B 5 i0 _ 1 1 Tryz.underlying58 hi hz0 hz1 hz2 rfl (by omega) (.slice a q.length c) q.length (byC q) (by rfl) (by exact World.ownsRow.alloc (show World.ownsRow wr.drew _ _ _ _ _ _ from H5.out) _)
         ⟨wr.heap.size, 0, none⟩ 1 1 [.int .u8 ((m % 256 : Nat) : Int)] (by rfl) (by rfl) (by exact jaT wr.drew _ rfl _ _) (by simp [Value.oneCell']) (by omega) (by unfold maxLen; omega) (by omega) (by simp; omega) _ rfl ?_
        intro g2 cap w3 hown3 hgrow hat hlt3; have HW3 := bhid (jci (b := b) _ hgrow hat); have H3b := bhid (show w3.heap[b]? = some (.cells #[.slice a q.length c] 203) from (hgrow.block b (by simp; omega) (fun e => H3.out (H2.out.symm.trans e.symm))).trans ((Below.heap_alloc wr.drew _ b hbl).trans H1.out)); have q3 : w3.cell? ⟨b, 0, none⟩ = some (.slice a q.length c) := by simp [World.cell?, H3b.out]
        have z3 : w3.frozen? ⟨b, 0, none⟩ = false := by simp [World.frozen?, H3b.out]
        have hg2 : g2 ≠ b := by
           intro e
           rcases hat with h | h
           · exact H3.out (H2.out.symm.trans (by rw [h, e]))
           · simp at h; omega
        clear hgrow hat)
      all_goals
       have HE := bhid (show ByW B (w3.setCell ⟨b, 0, none⟩ (.slice (some ⟨g2, 0, none⟩) (q.length + 1) cap)) b (some g2) (l ++ (pre ++ [UInt8.ofNat m])) by
            rw [← HAS.out]; refine ⟨some ⟨g2, 0, none⟩, cap, ?_, rfl, fun e => hg2 (Option.some.inj e), h4, ?_⟩
            · have := heap_setCell_same w3 b 0 #[.slice a q.length c] 203 (.slice (some ⟨g2, 0, none⟩) (q.length + 1) cap) H3b.out
              simpa using this
            · rw [HBS.out, List.length_append]; refine qQ hown3 fun g hg => ?_
              cases hg; exact qq hg2)
       have HF := bhid (show Wro b g (some g2) w (w3.setCell ⟨b, 0, none⟩ (.slice (some ⟨g2, 0, none⟩) (q.length + 1) cap)) from HX.out.trans (H2.out ▸ HW3.out.set 0 _)); have hpl2 : (pre ++ [UInt8.ofNat m]).length + 0 = k := by rw [List.length_append]; simp; omega
       clear hown3; go_wp2
       go_roundw
       case rel => first | exact ⟨0, pre ++ [UInt8.ofNat m], some g2, by omega, by first | rfl | go_num, HPS, hpl2, HE, HF⟩ | ((repeat apply Exists.intro); exact ⟨⟨0, pre ++ [UInt8.ofNat m], some g2, by omega, by first | rfl | go_num, HPS, hpl2, HE, HF⟩, rfl⟩)
       case measure => simp [intOf]
    | 1, _ =>
      obtain ⟨m, hm⟩ : ∃ m, m = n / 256 ^ 1 := ⟨_, rfl⟩; have hsh : Op.shift BinOp.shr IntKind.i64 (n : Int) IntKind.i64 (IntKind.i64.wrap 8) = pure (.int .i64 (m : Int)) := by
       rw [show IntKind.i64.wrap 8 = 8 by decide, shift_shr_any _ _ _ _ (by decide), hm]
       simp [IntKind.bits]
      have hcv : IntKind.u8.wrap (m : Int) = ((m % 256 : Nat) : Int) := by simp [IntKind.wrap, IntKind.bits, IntKind.signed]
      have HBS := bhid (show byC (l ++ pre ++ [UInt8.ofNat m]) = byC (l ++ pre) ++ [.int .u8 ((m % 256 : Nat) : Int)] from jeG _ _); have HPS := bhid (show beB n k = pre ++ [UInt8.ofNat m] ++ beB n 1 by rw [HP.out, jcU, ← hm]; simp); have HAS := bhid (List.append_assoc l pre [UInt8.ofNat m]); obtain ⟨a, c, h1, h2, h3, h4, h5⟩ := HY.out; have hc0 : wr.cell? ⟨b, 0, none⟩ = some (.slice a (l ++ pre).length c) := by simp [World.cell?, h1]
      have hf0 : wr.frozen? ⟨b, 0, none⟩ = false := by simp [World.frozen?, h1]
      have hbl : b < wr.heap.size := HY.out.lt; have hne : b ≠ wr.heap.size := by omega
      have hne' : wr.heap.size ≠ b := by omega
      have H1 := bhid h1; have H2 := bhid h2; have H3 := bhid h3; have H5 := bhid h5; have hB9 : B ≤ wr.heap.size := by omega
      have hql : (l ++ pre).length ≤ 1000003 := by rw [List.length_append]; omega
      generalize l ++ pre = q at *; clear h1 h2 h3 h5 hm; go_upto_region 3 with fail
      go_region_law
       (refine step_append_lies _ (by rfl) _ _ _ (by rfl) B 5 i0 _ 1 1 Tryz.underlying58 hi hz0 hz1 hz2 rfl (by omega) (.slice a q.length c) q.length (byC q) (by rfl) (by exact World.ownsRow.alloc (show World.ownsRow wr.drew _ _ _ _ _ _ from H5.out) _)
         ⟨wr.heap.size, 0, none⟩ 1 1 [.int .u8 ((m % 256 : Nat) : Int)] (by rfl) (by rfl) (by exact jaT wr.drew _ rfl _ _) (by simp [Value.oneCell']) (by omega) (by unfold maxLen; omega) (by omega) (by simp; omega) _ rfl ?_
        intro g2 cap w3 hown3 hgrow hat hlt3; have HW3 := bhid (jci (b := b) _ hgrow hat); have H3b := bhid (show w3.heap[b]? = some (.cells #[.slice a q.length c] 203) from (hgrow.block b (by simp; omega) (fun e => H3.out (H2.out.symm.trans e.symm))).trans ((Below.heap_alloc wr.drew _ b hbl).trans H1.out)); have q3 : w3.cell? ⟨b, 0, none⟩ = some (.slice a q.length c) := by simp [World.cell?, H3b.out]
        have z3 : w3.frozen? ⟨b, 0, none⟩ = false := by simp [World.frozen?, H3b.out]
        have hg2 : g2 ≠ b := by
           intro e
           rcases hat with h | h
           · exact H3.out (H2.out.symm.trans (by rw [h, e]))
           · simp at h; omega
        clear hgrow hat)
      all_goals
       have HE := bhid (show ByW B (w3.setCell ⟨b, 0, none⟩ (.slice (some ⟨g2, 0, none⟩) (q.length + 1) cap)) b (some g2) (l ++ (pre ++ [UInt8.ofNat m])) by
            rw [← HAS.out]; refine ⟨some ⟨g2, 0, none⟩, cap, ?_, rfl, fun e => hg2 (Option.some.inj e), h4, ?_⟩
            · have := heap_setCell_same w3 b 0 #[.slice a q.length c] 203 (.slice (some ⟨g2, 0, none⟩) (q.length + 1) cap) H3b.out
              simpa using this
            · rw [HBS.out, List.length_append]; refine qQ hown3 fun g hg => ?_
              cases hg; exact qq hg2)
       have HF := bhid (show Wro b g (some g2) w (w3.setCell ⟨b, 0, none⟩ (.slice (some ⟨g2, 0, none⟩) (q.length + 1) cap)) from HX.out.trans (H2.out ▸ HW3.out.set 0 _)); have hpl2 : (pre ++ [UInt8.ofNat m]).length + 1 = k := by rw [List.length_append]; simp; omega
       clear hown3; go_wp2
       go_roundw
       case rel => first | exact ⟨1, pre ++ [UInt8.ofNat m], some g2, by omega, by first | rfl | go_num, HPS, hpl2, HE, HF⟩ | ((repeat apply Exists.intro); exact ⟨⟨1, pre ++ [UInt8.ofNat m], some g2, by omega, by first | rfl | go_num, HPS, hpl2, HE, HF⟩, rfl⟩)
       case measure => simp [intOf]
    | 2, _ =>
      obtain ⟨m, hm⟩ : ∃ m, m = n / 256 ^ 2 := ⟨_, rfl⟩; have hsh : Op.shift BinOp.shr IntKind.i64 (n : Int) IntKind.i64 (IntKind.i64.wrap 16) = pure (.int .i64 (m : Int)) := by
       rw [show IntKind.i64.wrap 16 = 16 by decide, shift_shr_any _ _ _ _ (by decide), hm]
       simp [IntKind.bits]
      have hcv : IntKind.u8.wrap (m : Int) = ((m % 256 : Nat) : Int) := by simp [IntKind.wrap, IntKind.bits, IntKind.signed]
      have HBS := bhid (show byC (l ++ pre ++ [UInt8.ofNat m]) = byC (l ++ pre) ++ [.int .u8 ((m % 256 : Nat) : Int)] from jeG _ _); have HPS := bhid (show beB n k = pre ++ [UInt8.ofNat m] ++ beB n 2 by rw [HP.out, jcU, ← hm]; simp); have HAS := bhid (List.append_assoc l pre [UInt8.ofNat m]); obtain ⟨a, c, h1, h2, h3, h4, h5⟩ := HY.out; have hc0 : wr.cell? ⟨b, 0, none⟩ = some (.slice a (l ++ pre).length c) := by simp [World.cell?, h1]
      have hf0 : wr.frozen? ⟨b, 0, none⟩ = false := by simp [World.frozen?, h1]
      have hbl : b < wr.heap.size := HY.out.lt; have hne : b ≠ wr.heap.size := by omega
      have hne' : wr.heap.size ≠ b := by omega
      have H1 := bhid h1; have H2 := bhid h2; have H3 := bhid h3; have H5 := bhid h5; have hB9 : B ≤ wr.heap.size := by omega
      have hql : (l ++ pre).length ≤ 1000003 := by rw [List.length_append]; omega
      generalize l ++ pre = q at *; clear h1 h2 h3 h5 hm; go_upto_region 3 with fail
      go_region_law
       (refine step_append_lies _ (by rfl) _ _ _ (by rfl) B 5 i0 _ 1 1 Tryz.underlying58 hi hz0 hz1 hz2 rfl (by omega) (.slice a q.length c) q.length (byC q) (by rfl) (by exact World.ownsRow.alloc (show World.ownsRow wr.drew _ _ _ _ _ _ from H5.out) _)
         ⟨wr.heap.size, 0, none⟩ 1 1 [.int .u8 ((m % 256 : Nat) : Int)] (by rfl) (by rfl) (by exact jaT wr.drew _ rfl _ _) (by simp [Value.oneCell']) (by omega) (by unfold maxLen; omega) (by omega) (by simp; omega) _ rfl ?_
        intro g2 cap w3 hown3 hgrow hat hlt3; have HW3 := bhid (jci (b := b) _ hgrow hat); have H3b := bhid (show w3.heap[b]? = some (.cells #[.slice a q.length c] 203) from (hgrow.block b (by simp; omega) (fun e => H3.out (H2.out.symm.trans e.symm))).trans ((Below.heap_alloc wr.drew _ b hbl).trans H1.out)); have q3 : w3.cell? ⟨b, 0, none⟩ = some (.slice a q.length c) := by simp [World.cell?, H3b.out]
        have z3 : w3.frozen? ⟨b, 0, none⟩ = false := by simp [World.frozen?, H3b.out]
        have hg2 : g2 ≠ b := by
           intro e
           rcases hat with h | h
           · exact H3.out (H2.out.symm.trans (by rw [h, e]))
           · simp at h; omega
        clear hgrow hat)
      all_goals
       have HE := bhid (show ByW B (w3.setCell ⟨b, 0, none⟩ (.slice (some ⟨g2, 0, none⟩) (q.length + 1) cap)) b (some g2) (l ++ (pre ++ [UInt8.ofNat m])) by
            rw [← HAS.out]; refine ⟨some ⟨g2, 0, none⟩, cap, ?_, rfl, fun e => hg2 (Option.some.inj e), h4, ?_⟩
            · have := heap_setCell_same w3 b 0 #[.slice a q.length c] 203 (.slice (some ⟨g2, 0, none⟩) (q.length + 1) cap) H3b.out
              simpa using this
            · rw [HBS.out, List.length_append]; refine qQ hown3 fun g hg => ?_
              cases hg; exact qq hg2)
       have HF := bhid (show Wro b g (some g2) w (w3.setCell ⟨b, 0, none⟩ (.slice (some ⟨g2, 0, none⟩) (q.length + 1) cap)) from HX.out.trans (H2.out ▸ HW3.out.set 0 _)); have hpl2 : (pre ++ [UInt8.ofNat m]).length + 2 = k := by rw [List.length_append]; simp; omega
       clear hown3; go_wp2
       go_roundw
       case rel => first | exact ⟨2, pre ++ [UInt8.ofNat m], some g2, by omega, by first | rfl | go_num, HPS, hpl2, HE, HF⟩ | ((repeat apply Exists.intro); exact ⟨⟨2, pre ++ [UInt8.ofNat m], some g2, by omega, by first | rfl | go_num, HPS, hpl2, HE, HF⟩, rfl⟩)
       case measure => simp [intOf]
theorem ByW.append {B b : Nat} {w w3 : World} {g : Option Nat} {q s : List UInt8} {a a' : Option Addr} {c c' : Nat} (h1 : w.heap[b]? = some (.cells #[.slice a q.length c] 203)) (h2 : (Value.slice a q.length c).ownBlock = g) (h3 : g ≠ some b) (h4 : B ≤ b) (hbl : b < w.heap.size)
 (hown : w3.ownsRow B 5 1 (.slice a' (q.length + s.length) c') (q.length + s.length) (byC q ++ byC s)) (hgrow : w.grownBy w3 (Value.slice a q.length c).ownBlock) (hrow : ∀ k, (Value.slice a' (q.length + s.length) c').ownBlock = some k → g = some k ∨ w.heap.size ≤ k) :
 ∃ g', ByW B (w3.setCell ⟨b, 0, none⟩ (.slice a' (q.length + s.length) c')) b g' (q ++ s) ∧ Wro b g g' w (w3.setCell ⟨b, 0, none⟩ (.slice a' (q.length + s.length) c')) := by
 have hb3 : w3.heap[b]? = some (.cells #[.slice a q.length c] 203) := (hgrow.block b hbl (fun e => h3 (h2.symm.trans e.symm))).trans h1; have hnb : ∀ k, (Value.slice a' (q.length + s.length) c').ownBlock = some k → k ≠ b := fun k hk e => by
  rcases hrow k hk with h | h
  · exact h3 (by rw [h, e])
  · omega
 refine ⟨(Value.slice a' (q.length + s.length) c').ownBlock, ⟨a', c', ?_, by rw [List.length_append], fun e => hnb b e rfl, h4, ?_⟩, ?_⟩
 · have := heap_setCell_same w3 b 0 #[.slice a q.length c] 203 (.slice a' (q.length + s.length) c') hb3; rw [List.length_append]
   simpa using this
 · rw [List.length_append, jhz]; exact qQ hown fun k hk => qq (hnb k hk)
 · exact ⟨hgrow.os, hgrow.tape, hgrow.output, by have := hgrow.size; simpa [World.setCell] using this, fun k hk hn hg => (Below.heap_setCell _ _ _ _ hn).trans (hgrow.block k hk fun e => hg (h2.symm.trans e.symm)), hrow⟩
def wrT (x : Ent) : Nat → List UInt8
 | 0 => txB x.box ++ (txB x.goal ++ txB x.text)
 | 1 => txB x.goal ++ txB x.text
 | 2 => txB x.text
 | _ => []
def wrH (x : Ent) : List UInt8 := beB x.kind.toNat 1 ++ (beB x.flags.toNat 1 ++ beB x.uid.toNat 3)
theorem jgj (x : Ent) : entB x = wrH x ++ wrT x 0 := by unfold entB wrH wrT; simp only [List.append_assoc]
theorem ByW.base {B b : Nat} {w : World} {g : Option Nat} {l : List UInt8} (h : ByW B w b g l) : B ≤ b := by obtain ⟨_, _, _, _, _, h, _⟩ := h; exact h
theorem arr0 (u v z : ByteArray) (w : World) : (Instr.index 306 (.agg #[.string u, .string v, .string z]) (.int .i64 0)).run Tryz.prog w = .ok (.string u) w := by kernel_rfl
theorem arr1 (u v z : ByteArray) (w : World) : (Instr.index 306 (.agg #[.string u, .string v, .string z]) (.int .i64 1)).run Tryz.prog w = .ok (.string v) w := by kernel_rfl
theorem arr2 (u v z : ByteArray) (w : World) : (Instr.index 306 (.agg #[.string u, .string v, .string z]) (.int .i64 2)).run Tryz.prog w = .ok (.string z) w := by kernel_rfl
theorem jkQ (x : Ent) (hx : Fits x) (B b : Nat) (g : Option Nat) (l : List UInt8) (w : World) (hw : ByW B w b g l) (hl : l.length ≤ 700000) :
 Calls Tryz.prog 201 #[.pointer (some ⟨b, 0, none⟩), .agg #[.int .i64 x.kind, .string (S x.box), .int .i64 x.uid, .int .i64 x.flags, .string (S x.goal), .string (S x.text)]] w (WnP B b g w (l ++ entB x)) := by
 obtain ⟨⟨k0, k1⟩, ⟨f0, f1⟩, ⟨u0, u1⟩, hb, hg, ht⟩ := hx; obtain ⟨kn, hkn⟩ : ∃ kn : Nat, x.kind = (kn : Int) := ⟨x.kind.toNat, by omega⟩; obtain ⟨fn, hfn⟩ : ∃ fn : Nat, x.flags = (fn : Int) := ⟨x.flags.toNat, by omega⟩; obtain ⟨un, hun⟩ : ∃ un : Nat, x.uid = (un : Int) := ⟨x.uid.toNat, by omega⟩; have HH0 := bhid (show wrH x = beB kn 1 ++ (beB fn 1 ++ beB un 3) by unfold wrH; rw [hkn, hfn, hun]; simp); have HEB := bhid (jgj x); have HT0 := bhid (show wrT x 0 = txB x.box ++ wrT x 1 from rfl); have HT1 := bhid (show wrT x 1 = txB x.goal ++ wrT x 2 from rfl); have HT2 := bhid (show wrT x 2 = txB x.text ++ wrT x 3 by simp [wrT]); rw [hkn, hfn, hun]; obtain ⟨W1, hW1⟩ : ∃ W1, W1 = w.alloc (.cells #[.int .i64 kn, .string (S x.box), .int .i64 un, .int .i64 fn, .string (S x.goal), .string (S x.text)] 25) := ⟨_, rfl⟩; have HWE := bhid hW1; have hB1 : Below w.heap.size w W1 := by rw [hW1]; exact nb0 _ _
 have hp : W1.heap[w.heap.size]? = some (.cells #[.int .i64 kn, .string (S x.box), .int .i64 un, .int .i64 fn, .string (S x.goal), .string (S x.text)] 25) := by rw [hW1]; exact heap_alloc_new w _
 have hpb : w.heap.size ≠ b := by have := hw.lt; omega
 have hpg : g ≠ some w.heap.size := fun e => by have := hw.row _ e; omega
 have HP := bhid hp; have HPB := bhid hpb; have HPG := bhid hpg; have HY1 := bhid (hw.next hB1); have HX1 := bhid (show Wro b g g w W1 from Wro.of hB1); have hBb := hw.base; have c0 : W1.cell? ⟨w.heap.size, 0, none⟩ = some (.int .i64 kn) := by simp [World.cell?, hp]
 have hpl := (Array.getElem?_eq_some_iff.1 hp).1; have HPL := bhid hpl; clear hw hW1 hB1 hp hpb hpg hkn hfn hun k0 k1 f0 f1 u0 u1 hpl; go_enter Tryz.func201, Tryz.ntmps201; go_wp2_with fail; rw [← HWE.out]; refine (qb kn 1 B b g l W1 HY1.out (by decide) (by omega)).mono ?_; rintro e w2 ⟨rfl, g2, hy2, hx2⟩; have HP2 := bhid (hx2.obj HY1.out HP.out HPB.out HPG.out); have HG2 := bhid (hx2.stay HPL.out HPG.out); have c3 : w2.cell? ⟨w.heap.size, 3, none⟩ = some (.int .i64 fn) := by simp [World.cell?, HP2.out]
 have HX2 := bhid (HX1.out.trans hx2); have HY2 := bhid hy2; have hl2 : (l ++ beB kn 1).length ≤ 700001 := by rw [List.length_append, ze]; omega
 clear hy2 hx2 c0; go_wp2_with fail; refine (qb fn 1 B b g2 (l ++ beB kn 1) w2 HY2.out (by decide) (by omega)).mono ?_; rintro e w3 ⟨rfl, g3, hy3, hx3⟩; have HP3 := bhid (hx3.obj HY2.out HP2.out HPB.out HG2.out); have HG3 := bhid (hx3.stay (Array.getElem?_eq_some_iff.1 HP2.out).1 HG2.out); have c2 : w3.cell? ⟨w.heap.size, 2, none⟩ = some (.int .i64 un) := by simp [World.cell?, HP3.out]
 have HX3 := bhid (HX2.out.trans hx3); have HY3 := bhid hy3; have hl3 : (l ++ beB kn 1 ++ beB fn 1).length ≤ 700002 := by rw [List.length_append, ze]; omega
 clear hy3 hx3 c3 hl2; go_wp2_with fail; refine (qb un 3 B b g3 (l ++ beB kn 1 ++ beB fn 1) w3 HY3.out (by decide) (by omega)).mono ?_; rintro e w4 ⟨rfl, g4, hy4, hx4⟩; have HP4 := bhid (hx4.obj HY3.out HP3.out HPB.out HG3.out); have c1 : w4.cell? ⟨w.heap.size, 1, none⟩ = some (.string (S x.box)) := by simp [World.cell?, HP4.out]
 have c4 : w4.cell? ⟨w.heap.size, 4, none⟩ = some (.string (S x.goal)) := by simp [World.cell?, HP4.out]
 have c5 : w4.cell? ⟨w.heap.size, 5, none⟩ = some (.string (S x.text)) := by simp [World.cell?, HP4.out]
 have HX4 := bhid (HX3.out.trans hx4); have HY4 := bhid (show ByW B w4 b g4 (l ++ wrH x) by rw [HH0.out]; simpa only [List.append_assoc] using hy4); have hlh : (wrH x).length = 5 := by rw [HH0.out]; simp [ze]
 clear hy4 hx4 c2 hl3; go_wp2
 go_loopw [25] (fun v wr => ∃ (i : Nat) (pre : List UInt8) (g9 : Option Nat), i ≤ 3 ∧ v = .int .i64 (i : Int) ∧ Hid (entB x = pre ++ wrT x i) ∧ pre.length ≤ 5 + 65538 * i ∧ Hid (ByW B wr b g9 (l ++ pre)) ∧ Hid (Wro b g g9 w wr)) (fun v _ => (3 - intOf v).toNat)
 case atStart => exact ⟨0, wrH x, g4, by omega, rfl, HEB, by omega, HY4, HX4⟩
 case round =>
  obtain ⟨i, pre, g9, hi3, rfl, HPR, hpl, HY, HX⟩ := hrel
  by_cases hi : i = 3
  · subst hi; have HE := bhid (show WnP B b g w (l ++ entB x) (.returned (.tuple #[])) wr from ⟨rfl, g9, by rw [HPR.out]; simpa [wrT] using HY.out, HX.out⟩); go_wp2; go_end0; exact HE.out
  · have h3 : i < 3 := by omega
    clear hi hi3
    match i, h3 with
    | 0, _ =>
      have hq : (l ++ pre).length ≤ 900000 := by rw [List.length_append]; omega
      have HPN := bhid (show entB x = pre ++ txB x.box ++ wrT x (0 + 1) by rw [HPR.out, HT0.out]; simp); have HLN := bhid (show (pre ++ txB x.box).length ≤ 5 + 65538 * (0 + 1) by unfold txB; simp only [List.length_append, ze]; omega); have HAS := bhid (show l ++ pre ++ beB x.box.length 2 ++ x.box = l ++ (pre ++ txB x.box) by unfold txB; simp only [List.append_assoc]); generalize l ++ pre = q at *; generalize x.box = s at *; have ar := arr0 (S s) (S x.goal) (S x.text); go_wp2_with fail; rw [jd]; refine (qb s.length 2 B b g9 q wr HY.out (by decide) (by omega)).mono ?_; rintro e w5 ⟨rfl, g5, hy5, hx5⟩; have HX5 := bhid (HX.out.trans hx5); obtain ⟨a, c, h1, h2, h3, h4, h5⟩ := hy5; have hq5 : (q ++ beB s.length 2).length ≤ 900002 := by rw [List.length_append, ze]; omega
      generalize q ++ beB s.length 2 = q5 at *; have d0 : w5.cell? ⟨b, 0, none⟩ = some (.slice a q5.length c) := by simp [World.cell?, h1]
      have e0 : w5.frozen? ⟨b, 0, none⟩ = false := by simp [World.frozen?, h1]
      have hbl := (Array.getElem?_eq_some_iff.1 h1).1; have H1 := bhid h1; have H2 := bhid h2; have H3 := bhid h3; have H5 := bhid h5; have HBL := bhid hbl; have hB5 : B ≤ w5.heap.size := by omega
      clear h1 h2 h3 h5 hx5 hbl
      go_wp2_with (at_builtin; refine qD rfl _ _ rfl rfl H5.out rfl ?qc1 ?qc2 hB5 ?_)
      case qc1 => unfold maxLen; omega
      case qc2 => omega
      intro a6 c6 w6 hown hgrow hrow; obtain ⟨g6, hy6, hx6⟩ := ByW.append (s := s) H1.out H2.out H3.out h4 HBL.out hown hgrow (fun k hk => by rw [← H2.out]; exact hrow k hk); have z6 : w6.frozen? ⟨b, 0, none⟩ = false := (World.frozen?_of_block (w := w5) (hgrow.block b HBL.out fun e => H3.out (H2.out.symm.trans e.symm))).trans e0; have z7 : w6.cell? ⟨b, 0, none⟩ = some (.slice a q5.length c) := (World.cell?_of_block (w := w5) (hgrow.block b HBL.out fun e => H3.out (H2.out.symm.trans e.symm))).trans d0; rw [HAS.out] at hy6; have HY6 := bhid hy6; have HX6 := bhid (HX5.out.trans hx6); clear hown hgrow hrow hy6 hx6; go_wp2
      go_roundw
      case rel => first | exact ⟨1, pre ++ txB s, g6, by omega, by first | rfl | go_num, HPN, HLN.out, HY6, HX6⟩ | ((repeat apply Exists.intro); exact ⟨⟨1, pre ++ txB s, g6, by omega, by first | rfl | go_num, HPN, HLN.out, HY6, HX6⟩, rfl⟩)
      case measure => simp [intOf]
    | 1, _ =>
      have hq : (l ++ pre).length ≤ 900000 := by rw [List.length_append]; omega
      have HPN := bhid (show entB x = pre ++ txB x.goal ++ wrT x (1 + 1) by rw [HPR.out, HT1.out]; simp); have HLN := bhid (show (pre ++ txB x.goal).length ≤ 5 + 65538 * (1 + 1) by unfold txB; simp only [List.length_append, ze]; omega); have HAS := bhid (show l ++ pre ++ beB x.goal.length 2 ++ x.goal = l ++ (pre ++ txB x.goal) by unfold txB; simp only [List.append_assoc]); generalize l ++ pre = q at *; generalize x.goal = s at *; have ar := arr1 (S x.box) (S s) (S x.text); go_wp2_with fail; rw [jd]; refine (qb s.length 2 B b g9 q wr HY.out (by decide) (by omega)).mono ?_; rintro e w5 ⟨rfl, g5, hy5, hx5⟩; have HX5 := bhid (HX.out.trans hx5); obtain ⟨a, c, h1, h2, h3, h4, h5⟩ := hy5; have hq5 : (q ++ beB s.length 2).length ≤ 900002 := by rw [List.length_append, ze]; omega
      generalize q ++ beB s.length 2 = q5 at *; have d0 : w5.cell? ⟨b, 0, none⟩ = some (.slice a q5.length c) := by simp [World.cell?, h1]
      have e0 : w5.frozen? ⟨b, 0, none⟩ = false := by simp [World.frozen?, h1]
      have hbl := (Array.getElem?_eq_some_iff.1 h1).1; have H1 := bhid h1; have H2 := bhid h2; have H3 := bhid h3; have H5 := bhid h5; have HBL := bhid hbl; have hB5 : B ≤ w5.heap.size := by omega
      clear h1 h2 h3 h5 hx5 hbl
      go_wp2_with (at_builtin; refine qD rfl _ _ rfl rfl H5.out rfl ?qc1 ?qc2 hB5 ?_)
      case qc1 => unfold maxLen; omega
      case qc2 => omega
      intro a6 c6 w6 hown hgrow hrow; obtain ⟨g6, hy6, hx6⟩ := ByW.append (s := s) H1.out H2.out H3.out h4 HBL.out hown hgrow (fun k hk => by rw [← H2.out]; exact hrow k hk); have z6 : w6.frozen? ⟨b, 0, none⟩ = false := (World.frozen?_of_block (w := w5) (hgrow.block b HBL.out fun e => H3.out (H2.out.symm.trans e.symm))).trans e0; have z7 : w6.cell? ⟨b, 0, none⟩ = some (.slice a q5.length c) := (World.cell?_of_block (w := w5) (hgrow.block b HBL.out fun e => H3.out (H2.out.symm.trans e.symm))).trans d0; rw [HAS.out] at hy6; have HY6 := bhid hy6; have HX6 := bhid (HX5.out.trans hx6); clear hown hgrow hrow hy6 hx6; go_wp2
      go_roundw
      case rel => first | exact ⟨2, pre ++ txB s, g6, by omega, by first | rfl | go_num, HPN, HLN.out, HY6, HX6⟩ | ((repeat apply Exists.intro); exact ⟨⟨2, pre ++ txB s, g6, by omega, by first | rfl | go_num, HPN, HLN.out, HY6, HX6⟩, rfl⟩)
      case measure => simp [intOf]
    | 2, _ =>
      have hq : (l ++ pre).length ≤ 900000 := by rw [List.length_append]; omega
      have HPN := bhid (show entB x = pre ++ txB x.text ++ wrT x (2 + 1) by rw [HPR.out, HT2.out]; simp); have HLN := bhid (show (pre ++ txB x.text).length ≤ 5 + 65538 * (2 + 1) by unfold txB; simp only [List.length_append, ze]; omega); have HAS := bhid (show l ++ pre ++ beB x.text.length 2 ++ x.text = l ++ (pre ++ txB x.text) by unfold txB; simp only [List.append_assoc]); generalize l ++ pre = q at *; generalize x.text = s at *; have ar := arr2 (S x.box) (S x.goal) (S s); go_wp2_with fail; rw [jd]; refine (qb s.length 2 B b g9 q wr HY.out (by decide) (by omega)).mono ?_; rintro e w5 ⟨rfl, g5, hy5, hx5⟩; have HX5 := bhid (HX.out.trans hx5); obtain ⟨a, c, h1, h2, h3, h4, h5⟩ := hy5; have hq5 : (q ++ beB s.length 2).length ≤ 900002 := by rw [List.length_append, ze]; omega
      generalize q ++ beB s.length 2 = q5 at *; have d0 : w5.cell? ⟨b, 0, none⟩ = some (.slice a q5.length c) := by simp [World.cell?, h1]
      have e0 : w5.frozen? ⟨b, 0, none⟩ = false := by simp [World.frozen?, h1]
      have hbl := (Array.getElem?_eq_some_iff.1 h1).1; have H1 := bhid h1; have H2 := bhid h2; have H3 := bhid h3; have H5 := bhid h5; have HBL := bhid hbl; have hB5 : B ≤ w5.heap.size := by omega
      clear h1 h2 h3 h5 hx5 hbl
      go_wp2_with (at_builtin; refine qD rfl _ _ rfl rfl H5.out rfl ?qc1 ?qc2 hB5 ?_)
      case qc1 => unfold maxLen; omega
      case qc2 => omega
      intro a6 c6 w6 hown hgrow hrow; obtain ⟨g6, hy6, hx6⟩ := ByW.append (s := s) H1.out H2.out H3.out h4 HBL.out hown hgrow (fun k hk => by rw [← H2.out]; exact hrow k hk); have z6 : w6.frozen? ⟨b, 0, none⟩ = false := (World.frozen?_of_block (w := w5) (hgrow.block b HBL.out fun e => H3.out (H2.out.symm.trans e.symm))).trans e0; have z7 : w6.cell? ⟨b, 0, none⟩ = some (.slice a q5.length c) := (World.cell?_of_block (w := w5) (hgrow.block b HBL.out fun e => H3.out (H2.out.symm.trans e.symm))).trans d0; rw [HAS.out] at hy6; have HY6 := bhid hy6; have HX6 := bhid (HX5.out.trans hx6); clear hown hgrow hrow hy6 hx6; go_wp2
      go_roundw
      case rel => first | exact ⟨3, pre ++ txB s, g6, by omega, by first | rfl | go_num, HPN, HLN.out, HY6, HX6⟩ | ((repeat apply Exists.intro); exact ⟨⟨3, pre ++ txB s, g6, by omega, by first | rfl | go_num, HPN, HLN.out, HY6, HX6⟩, rfl⟩)
      case measure => simp [intOf]
theorem jll (bx : List UInt8) (w : World) : Calls Tryz.prog 73 #[.agg #[.int .i64 1, .string (S bx), .int .i64 0, .int .i64 0, .string ⟨#[]⟩, .string ⟨#[]⟩]] w fun e w' => e = .returned (.agg #[.int .i64 1, .string (S bx), .int .i64 0, .int .i64 0, .string ⟨#[]⟩, .string ⟨#[]⟩]) ∧ Below w.heap.size w w' := by
 have HB := hid (show ∀ a b c : Obj, Below w.heap.size w (((w.alloc a).alloc b).alloc c) from fun a b c => (((Below.refl _ _).alloc (Nat.le_refl _) a).alloc (by simp) b).alloc (by simp; omega) c); go_enter Tryz.func73, Tryz.ntmps73; go_wp2; refine bodyPost_ret (v := .agg #[.int .i64 1, .string (S bx), .int .i64 0, .int .i64 0, .string ⟨#[]⟩, .string ⟨#[]⟩]) (by simp [results, Tryz.results73, go_sem, *]) rfl ?_
 first | exact ⟨rfl, HB.out _ _ _⟩ | exact ⟨rfl, (HB.out _ _ _).drew⟩
theorem jlm (bx t : List UInt8) (f : Int) (w : World) : Calls Tryz.prog 73 #[.agg #[.int .i64 2, .string (S bx), .int .i64 0, .int .i64 f, .string ⟨#[]⟩, .string (S t)]] w fun e w' => e = .returned (.agg #[.int .i64 2, .string (S bx), .int .i64 0, .int .i64 f, .string ⟨#[]⟩, .string (S t)]) ∧ Below w.heap.size w w' := by
 have HB := hid (show ∀ a b c : Obj, Below w.heap.size w (((w.alloc a).alloc b).alloc c) from fun a b c => (((Below.refl _ _).alloc (Nat.le_refl _) a).alloc (by simp) b).alloc (by simp; omega) c); go_enter Tryz.func73, Tryz.ntmps73; go_wp2
 go_region_law (fail)
 all_goals
  go_wp2; refine bodyPost_ret (v := .agg #[.int .i64 2, .string (S bx), .int .i64 0, .int .i64 f, .string ⟨#[]⟩, .string (S t)]) (by simp [results, Tryz.results73, go_sem, *]) rfl ?_
  first | exact ⟨rfl, HB.out _ _ _⟩ | exact ⟨rfl, (HB.out _ _ _).drew⟩
theorem jln (bx : List UInt8) (u f : Int) (w : World) : Calls Tryz.prog 73 #[.agg #[.int .i64 3, .string (S bx), .int .i64 u, .int .i64 f, .string ⟨#[]⟩, .string ⟨#[]⟩]] w fun e w' => e = .returned (.agg #[.int .i64 3, .string (S bx), .int .i64 u, .int .i64 f, .string ⟨#[]⟩, .string ⟨#[]⟩]) ∧ Below w.heap.size w w' := by
 have HB := hid (show ∀ a b c : Obj, Below w.heap.size w (((w.alloc a).alloc b).alloc c) from fun a b c => (((Below.refl _ _).alloc (Nat.le_refl _) a).alloc (by simp) b).alloc (by simp; omega) c); go_enter Tryz.func73, Tryz.ntmps73; go_wp2
 go_region_law (fail)
 all_goals
  go_wp2; refine bodyPost_ret (v := .agg #[.int .i64 3, .string (S bx), .int .i64 u, .int .i64 f, .string ⟨#[]⟩, .string ⟨#[]⟩]) (by simp [results, Tryz.results73, go_sem, *]) rfl ?_
  first | exact ⟨rfl, HB.out _ _ _⟩ | exact ⟨rfl, (HB.out _ _ _).drew⟩
theorem jlo (bx : List UInt8) (w : World) : Calls Tryz.prog 73 #[.agg #[.int .i64 4, .string (S bx), .int .i64 0, .int .i64 0, .string ⟨#[]⟩, .string ⟨#[]⟩]] w fun e w' => e = .returned (.agg #[.int .i64 4, .string (S bx), .int .i64 0, .int .i64 0, .string ⟨#[]⟩, .string ⟨#[]⟩]) ∧ Below w.heap.size w w' := by
 have HB := hid (show ∀ a b c : Obj, Below w.heap.size w (((w.alloc a).alloc b).alloc c) from fun a b c => (((Below.refl _ _).alloc (Nat.le_refl _) a).alloc (by simp) b).alloc (by simp; omega) c); go_enter Tryz.func73, Tryz.ntmps73; go_wp2; refine bodyPost_ret (v := .agg #[.int .i64 4, .string (S bx), .int .i64 0, .int .i64 0, .string ⟨#[]⟩, .string ⟨#[]⟩]) (by simp [results, Tryz.results73, go_sem, *]) rfl ?_
 first | exact ⟨rfl, HB.out _ _ _⟩ | exact ⟨rfl, (HB.out _ _ _).drew⟩
theorem jlp (bx g : List UInt8) (u : Int) (w : World) : Calls Tryz.prog 73 #[.agg #[.int .i64 5, .string (S bx), .int .i64 u, .int .i64 0, .string (S g), .string ⟨#[]⟩]] w fun e w' => e = .returned (.agg #[.int .i64 5, .string (S bx), .int .i64 u, .int .i64 0, .string (S g), .string ⟨#[]⟩]) ∧ Below w.heap.size w w' := by
 have HB := hid (show ∀ a b c : Obj, Below w.heap.size w (((w.alloc a).alloc b).alloc c) from fun a b c => (((Below.refl _ _).alloc (Nat.le_refl _) a).alloc (by simp) b).alloc (by simp; omega) c); go_enter Tryz.func73, Tryz.ntmps73; go_wp2
 go_region_law (fail)
 all_goals
  go_wp2; refine bodyPost_ret (v := .agg #[.int .i64 5, .string (S bx), .int .i64 u, .int .i64 0, .string (S g), .string ⟨#[]⟩]) (by simp [results, Tryz.results73, go_sem, *]) rfl ?_
  first | exact ⟨rfl, HB.out _ _ _⟩ | exact ⟨rfl, (HB.out _ _ _).drew⟩
theorem jlq (g t : List UInt8) (w : World) : Calls Tryz.prog 73 #[.agg #[.int .i64 6, .string ⟨#[]⟩, .int .i64 0, .int .i64 0, .string (S g), .string (S t)]] w fun e w' => e = .returned (.agg #[.int .i64 6, .string ⟨#[]⟩, .int .i64 0, .int .i64 0, .string (S g), .string (S t)]) ∧ Below w.heap.size w w' := by
 have HB := hid (show ∀ a b c : Obj, Below w.heap.size w (((w.alloc a).alloc b).alloc c) from fun a b c => (((Below.refl _ _).alloc (Nat.le_refl _) a).alloc (by simp) b).alloc (by simp; omega) c); go_enter Tryz.func73, Tryz.ntmps73; go_wp2
 go_region_law (fail)
 all_goals
  go_wp2; refine bodyPost_ret (v := .agg #[.int .i64 6, .string ⟨#[]⟩, .int .i64 0, .int .i64 0, .string (S g), .string (S t)]) (by simp [results, Tryz.results73, go_sem, *]) rfl ?_
  first | exact ⟨rfl, HB.out _ _ _⟩ | exact ⟨rfl, (HB.out _ _ _).drew⟩
theorem jlr (x : Ent) (w : World) (hk : 1 ≤ x.kind ∧ x.kind ≤ 6) (hb : jmt x) :
 Calls Tryz.prog 73 #[.agg #[.int .i64 x.kind, .string (S x.box), .int .i64 x.uid, .int .i64 x.flags, .string (S x.goal), .string (S x.text)]] w fun e w' => e = .returned (.agg #[.int .i64 x.kind, .string (S x.box), .int .i64 x.uid, .int .i64 x.flags, .string (S x.goal), .string (S x.text)]) ∧ Below w.heap.size w w' := by
 obtain ⟨k, bx, u, f, g, t⟩ := x; obtain ⟨h1, h2, h3, h5, h6⟩ := hb; simp only at hk h1 h2 h3 h5 h6 ⊢; have hcase : k = 1 ∨ k = 2 ∨ k = 3 ∨ k = 4 ∨ k = 5 ∨ k = 6 := by omega
 rcases hcase with rfl | rfl | rfl | rfl | rfl | rfl
 · obtain ⟨rfl, rfl, rfl, rfl⟩ := h1 (.inl rfl); exact jll bx w
 · obtain ⟨rfl, rfl⟩ := h2 rfl; exact jlm bx t f w
 · obtain ⟨rfl, rfl⟩ := h3 rfl; exact jln bx u f w
 · obtain ⟨rfl, rfl, rfl, rfl⟩ := h1 (.inr rfl); exact jlo bx w
 · obtain ⟨rfl, rfl⟩ := h5 rfl; exact jlp bx g u w
 · obtain ⟨rfl, rfl, rfl⟩ := h6 rfl; exact jlq g t w
end Go.Proofs.YtgooljlpffnaeaaGreatDoor
