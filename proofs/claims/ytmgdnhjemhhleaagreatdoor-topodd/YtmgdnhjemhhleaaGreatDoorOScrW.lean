/-
  The writer of tokens in memory: one block that holds a row of its own; what script's writer.add and writer.put do: the walks.
-/
import Derived.Test.YtmgdnhjemhhleaaGreatDoorOScrCk
import Derived.Deep.RegionLaw
set_option maxHeartbeats 16000000
set_option maxRecDepth 100000
namespace Go.Proofs.YtmgdnhjemhhleaaGreatDoor
open Go.RowKit Go.Proofs
theorem jaD (w : World) (o : Obj) {k : Nat} (h : k < w.heap.size) : (w.alloc o).heap[k]? = w.heap[k]? := by
 show (w.heap.push o)[k]? = _
 rw [Array.getElem?_push_lt h, Array.getElem?_eq_getElem h]
theorem jmz {w : World} {base b : Nat} {e : TypeId} {size g cap n : Nat} {xs : List Value} {v : Value} (h : w.ownsRow base e size (.slice (some ⟨g, 0, none⟩) n cap) n xs) (hg : b < g) : (w.setCell ⟨b, 0, none⟩ v).ownsRow base e size (.slice (some ⟨g, 0, none⟩) n cap) n xs := by
 refine ⟨h.1, ?_⟩
 rcases h.2 with ⟨h', _⟩ | ⟨g', cap', cur, h1, h2, hg', q⟩
 · cases h'
 · refine .inr ⟨g', cap', cur, h1, h2, ?_, q⟩; simp only [Value.slice.injEq, Option.some.injEq, Addr.mk.injEq, and_true, true_and] at h1; obtain ⟨rfl, rfl⟩ := h1; exact (Below.heap_setCell _ _ _ _ (by show g ≠ b; omega)).trans hg'
structure Wrote (b : Nat) (g g' : Option Nat) (w w' : World) : Prop where
 os : w'.os = w.os
 tape : w'.tape = w.tape
 output : w'.output = w.output
 size : w.heap.size ≤ w'.heap.size
 block : ∀ k, k < w.heap.size → k ≠ b → some k ≠ g → w'.heap[k]? = w.heap[k]?
 row : ∀ k, g' = some k → g = some k ∨ w.heap.size ≤ k
theorem Wrote.refl (b : Nat) (g : Option Nat) (w : World) : Wrote b g g w w := ⟨rfl, rfl, rfl, Nat.le_refl _, fun _ _ _ _ => rfl, fun _ h => .inl h⟩
theorem Wrote.trans {b : Nat} {g g' g'' : Option Nat} {x y z : World} (h : Wrote b g g' x y) (k : Wrote b g' g'' y z) : Wrote b g g'' x z := by
 refine ⟨k.os.trans h.os, k.tape.trans h.tape, k.output.trans h.output, Nat.le_trans h.size k.size, fun i hi hb hg => ?_, fun i hi => ?_⟩
 · refine (k.block i (Nat.lt_of_lt_of_le hi h.size) hb fun e => ?_).trans (h.block i hi hb hg)
   rcases h.row i e.symm with q | q
   · exact hg q.symm
   · omega
 · rcases k.row i hi with q | q
   · exact h.row i q
   · exact .inr (Nat.le_trans h.size q)
theorem Wrote.of {b : Nat} {g : Option Nat} {w w' : World} (h : Below w.heap.size w w') : Wrote b g g w w' := ⟨h.os, h.tape, h.output, h.size, fun k hk _ _ => h.block k hk, fun _ h => .inl h⟩
theorem Wrote.below {b B : Nat} {g g' : Option Nat} {w w' : World} (h : Wrote b g g' w w') (hB : B ≤ b) (hw : B ≤ w.heap.size) (hg : ∀ k, g = some k → B ≤ k) : Below B w w' :=
 ⟨h.os, h.tape, h.output, h.size, fun k hk => h.block k (by omega) (by omega) (fun e => by have := hg k e.symm; omega)⟩
theorem Wrote.stay {b : Nat} {g g' : Option Nat} {w w' : World} (h : Wrote b g g' w w') {k : Nat} (hk : k < w.heap.size) (hn : g ≠ some k) : g' ≠ some k := by
 intro e
 rcases h.row k e with q | q
 · exact hn q
 · omega
def WrB (w : World) (b : Nat) (g : Option Nat) (l : List Tok) : Prop :=
 ∃ a c, w.heap[b]? = some (.cells #[.slice a l.length c] 237) ∧ (Value.slice a l.length c).ownBlock = g ∧ OwnT w (b + 1) (.slice a l.length c) l
theorem WrB.lt {w : World} {b : Nat} {g : Option Nat} {l : List Tok} (h : WrB w b g l) : b < w.heap.size := by
 obtain ⟨a, c, h1, _⟩ := h; exact (Array.getElem?_eq_some_iff.1 h1).1
theorem WrB.row {w : World} {b : Nat} {g : Option Nat} {l : List Tok} (h : WrB w b g l) : ∀ k, g = some k → b + 1 ≤ k ∧ k < w.heap.size := by
 obtain ⟨a, c, _, h2, h3⟩ := h; intro k hk; exact World.ownsRow.lt h3 k (h2.trans hk)
theorem WrB.fresh {w : World} {b : Nat} {g : Option Nat} {l : List Tok} (h : WrB w b g l) : g ≠ some w.heap.size := fun e => by have := h.row _ e; omega
theorem WrB.next {w w' : World} {b : Nat} {g : Option Nat} {l : List Tok} (h : WrB w b g l) (hb : Below w.heap.size w w') : WrB w' b g l := by
 obtain ⟨a, c, h1, h2, h3⟩ := h; exact ⟨a, c, (hb.block b (Array.getElem?_eq_some_iff.1 h1).1).trans h1, h2, j2 h3 hb⟩
theorem WrB.below {w w' : World} {b : Nat} {g g' : Option Nat} {l : List Tok} (h : WrB w b g l) (hb : Wrote b g g' w w') : Below b w w' := hb.below (Nat.le_refl _) (Nat.le_of_lt h.lt) fun k hk => by have := h.row k hk; omega
def Wd (b : Nat) (g : Option Nat) (w : World) (l ts : List Tok) (e : Ending) (w' : World) : Prop :=
 e = .returned (.tuple #[]) ∧ ∃ g', WrB w' b g' ((l ++ ts).take 401) ∧ Wrote b g g' w w'
theorem jl (l x y : List Tok) : ((l ++ x).take 401 ++ y).take 401 = (l ++ (x ++ y)).take 401 := by
 rw [← List.append_assoc]; generalize l ++ x = z; rw [List.take_append, List.take_take, List.length_take, Nat.min_self, List.take_append]
 congr 2
 omega
theorem jfR {b g2 H : Nat} {w W0 w3 : World} {g : Option Nat} (hB0 : Below w.heap.size w W0) (o : Obj) (hg : (W0.drew.alloc o).grownBy w3 g) (hat : g = some g2 ∨ g2 = H) (hH : w.heap.size ≤ H) : Wrote b g (some g2) w w3 := by
 have hs : w.heap.size ≤ W0.heap.size := hB0.size; have hz : (W0.drew.alloc o).heap.size = W0.heap.size + 1 := by simp
 refine ⟨hg.os.trans hB0.os, hg.tape.trans hB0.tape, hg.output.trans hB0.output, by have := hg.size; omega, fun k hk _ hn => ?_, fun k hk => ?_⟩
 · refine (hg.block k (by omega) hn).trans (Eq.trans ?_ (hB0.block k hk)); exact jaD W0.drew o (show k < W0.heap.size by omega)
 · cases hk
   rcases hat with h | h
   · exact .inl h
   · exact .inr (by omega)
theorem Wrote.set {b : Nat} {g g' : Option Nat} {w w' : World} (h : Wrote b g g' w w') (o : Nat) (v : Value) : Wrote b g g' w (w'.setCell ⟨b, o, none⟩ v) :=
 ⟨h.os, h.tape, h.output, by have := h.size; simpa [World.setCell] using this, fun k hk hb hg => (Below.heap_setCell _ _ _ _ hb).trans (h.block k hk hb hg), h.row⟩
theorem jeX (b : Nat) (g : Option Nat) (l : List Tok) (t : Tok) (w : World) (hR : WrB w b g l) (hl : l.length ≤ 401) :
 Calls Tryz.prog 232 #[.pointer (some ⟨b, 0, none⟩), .agg #[.int .i64 t.kind, .string (S t.text), .int .i64 t.num]] w (Wd b g w l [t]) := by
 have hbl := hR.lt; have HRr : Hid (WrB w b g l) := hR; obtain ⟨a, c, h1, h2, h3⟩ := hR; have hc0 : w.cell? ⟨b, 0, none⟩ = some (.slice a l.length c) := by simp [World.cell?, h1]
 have hf0 : w.frozen? ⟨b, 0, none⟩ = false := by simp [World.frozen?, h1]
 have hne : b ≠ w.heap.size := by omega
 have hne' : w.heap.size ≠ b := by omega
 by_cases hle : l.length ≤ 400
 · have hle' : (l.length : Int) ≤ 400 := by omega
   have HT : Hid ((l ++ [t]).take 401 = l ++ [t]) := List.take_of_length_le (by simp; omega); have H1 : Hid _ := h1; have H2 : Hid _ := h2; have hO : World.ownsRow w (b + 1) 164 3 (.slice a l.length c) l.length (qv l) := h3; obtain ⟨i0, hi, hz0, hz1, hz2⟩ := info_parts jiB; clear h1 h2 h3; obtain ⟨W0, hW0⟩ : ∃ W0, W0 = w.alloc (.cells #[.int .i64 t.kind, .string (S t.text), .int .i64 t.num] 164) := ⟨_, rfl⟩; have hB0 : Below w.heap.size w W0 := by rw [hW0]; exact nb0 _ _
   have hz : W0.heap.size = w.heap.size + 1 := by rw [hW0]; simp
   have hH : W0.heap[w.heap.size]? = some (.cells #[.int .i64 t.kind, .string (S t.text), .int .i64 t.num] 164) := by rw [hW0]; exact heap_alloc_new w _
   obtain ⟨k0, k1, k2⟩ := bx3 hH; have m0 : W0.cell? ⟨b, 0, none⟩ = some (.slice a l.length c) := ja hc0 hB0; have n0 : W0.frozen? ⟨b, 0, none⟩ = false := (hB0.frozen (by simp; omega)).trans hf0; have hO0 : World.ownsRow W0 (b + 1) 164 3 (.slice a l.length c) l.length (qv l) := j2 hO hB0; have HWE : Hid _ := hW0; clear hW0 hH; go_enter Tryz.func232, Tryz.ntmps232; go_wp2; rw [← HWE.out]
   go_region_law
    (refine step_append_lies _ (by rfl) _ _ _ (by rfl) (b + 1) 164 i0 _ 3 32 Tryz.underlying129 hi hz0 hz1 hz2 rfl (by omega) (.slice a l.length c) l.length (qv l) (by rfl) (by first | exact World.ownsRow.alloc (show World.ownsRow W0.drew _ _ _ _ _ _ from hO0) _ | exact (World.ownsRow.alloc hO0 _).drew)
        ⟨w.heap.size + 1, 0, none⟩ 1 1 [.int .i64 t.kind, .string (S t.text), .int .i64 t.num] (by rfl) (by rfl) (by first | exact jjE W0.drew _ hz _ _ _ _ | exact jjE W0 _ hz _ _ _ _) (by simp [Value.oneCell']) (by omega) (by unfold maxLen; omega) (by omega) (by simp; omega) _ rfl ?_
     intro g2 cap w3 hown3 hgrow hat hlt3; have HW3 : Hid (Wrote b (Value.slice a l.length c).ownBlock (some g2) w w3) := jfR (W0 := W0) hB0 _ hgrow hat (by simp; omega); have hrow : b + 1 ≤ g2 := by
        rcases hat with h | h
        · exact (World.ownsRow.lt hO g2 h).1
        · simp at h; omega
     have z3 : w3.frozen? ⟨b, 0, none⟩ = false := (World.frozen?_of_block (w := W0.drew) ((hgrow.block b (by simp; omega) (fun e => by have := (World.ownsRow.lt hO b e.symm).1; omega)).trans (jaD W0.drew _ (show b < W0.heap.size by omega)))).trans n0; have q3 : w3.cell? ⟨b, 0, none⟩ = some (.slice a l.length c) := (World.cell?_of_block (w := W0.drew) ((hgrow.block b (by simp; omega) (fun e => by have := (World.ownsRow.lt hO b e.symm).1; omega)).trans (jaD W0.drew _ (show b < W0.heap.size by omega)))).trans m0; have H3b : Hid (w3.heap[b]? = some (.cells #[.slice a l.length c] 237)) := (hgrow.block b (by simp; omega) (fun e => by have := (World.ownsRow.lt hO b e.symm).1; omega)).trans ((jaD W0.drew _ (show b < W0.heap.size by omega)).trans ((hB0.block b hbl).trans H1.out)); clear hgrow hat)
   all_goals
    have HO3 : Hid (OwnT w3 (b + 1) (.slice (some ⟨g2, 0, none⟩) (l ++ [t]).length cap) (l ++ [t])) := by
        unfold Hid OwnT; rw [jbR, List.length_append]; exact hown3
    clear hown3; go_wp2; go_end0; refine ⟨rfl, some g2, ?_, ?_⟩
    · rw [HT.out]; refine ⟨some ⟨g2, 0, none⟩, cap, ?_, rfl, ?_⟩
      · have := ji (i := 0) (.slice (some ⟨g2, 0, none⟩) (l ++ [t]).length cap) H3b.out
        simpa using this
      · exact jmz HO3.out hrow
    · have := HW3.out.set 0 (.slice (some ⟨g2, 0, none⟩) (l.length + 1) cap); rw [H2.out] at this; exact this
 · have hle' : ¬ (l.length : Int) ≤ 400 := by omega
   have HT : Hid ((l ++ [t]).take 401 = l) := by
    unfold Hid; rw [List.take_append, List.take_of_length_le (by omega)]; have e : 401 - l.length = 0 := by omega
    rw [e]; simp
   clear h1 h2 h3; go_enter Tryz.func232, Tryz.ntmps232; go_wp2; go_end0; have hal : Below w.heap.size w (w.alloc (.cells #[.int .i64 t.kind, .string (S t.text), .int .i64 t.num] 164)) := nb0 _ _; exact ⟨rfl, g, by rw [HT.out]; exact HRr.out.next hal, Wrote.of hal⟩
theorem jW (b : Nat) (g : Option Nat) (l : List Tok) (k : Int) (x : List UInt8) (w : World) (hR : WrB w b g l) (hl : l.length ≤ 401) :
 Calls Tryz.prog 201 #[.pointer (some ⟨b, 0, none⟩), .int .i64 k, .string (S x)] w (Wd b g w l [⟨k, x, 0⟩]) := by
 have HR : Hid (WrB w b g l) := hR; clear hR; go_enter Tryz.func201, Tryz.ntmps201; go_wp2_with fail; refine (jeX b g l ⟨k, x, 0⟩ w HR.out hl).mono ?_; rintro e u ⟨rfl, hu⟩; have HU : Hid _ := hu; clear hu; go_wp2; go_end0; exact ⟨rfl, HU.out⟩
theorem jq (l : List Tok) : (l.take 401).length ≤ 401 := by rw [List.length_take]; omega
theorem jhW (b : Nat) (g : Option Nat) (l : List Tok) (o : Bool) (n : Int) (w : World) (hR : WrB w b g l) (hl : l.length ≤ 401) :
 Calls Tryz.prog 257 #[.pointer (some ⟨b, 0, none⟩), .bool o, .int .i64 n] w (Wd b g w l [tagT (if o then jhl else jc8), ⟨3, [], n⟩]) := by
 have HR : Hid (WrB w b g l) := hR; clear hR; cases o with
 | false =>
   go_enter Tryz.func257, Tryz.ntmps257; go_wp2_with fail; refine (jW b g l 2 jc8 w HR.out hl).mono ?_; rintro e u ⟨rfl, g2, hU, hW⟩; have HU : Hid _ := hU; have HW : Hid _ := hW; clear hU hW; go_wp2_with fail; refine (jeX b g2 _ ⟨3, [], n⟩ u HU.out (jq _)).mono ?_; rintro e v ⟨rfl, g3, hU3, hW3⟩; rw [jl] at hU3; have HU3 : Hid _ := hU3; have HW3 : Hid _ := HW.out.trans hW3; clear hU3 hW3; go_wp2; go_end0; exact ⟨rfl, g3, HU3.out, HW3.out⟩
 | true =>
   go_enter Tryz.func257, Tryz.ntmps257; go_wp2_with fail; refine (jW b g l 2 jhl w HR.out hl).mono ?_; rintro e u ⟨rfl, g2, hU, hW⟩; have HU : Hid _ := hU; have HW : Hid _ := hW; clear hU hW; go_wp2_with fail; refine (jeX b g2 _ ⟨3, [], n⟩ u HU.out (jq _)).mono ?_; rintro e v ⟨rfl, g3, hU3, hW3⟩; rw [jl] at hU3; have HU3 : Hid _ := hU3; have HW3 : Hid _ := HW.out.trans hW3; clear hU3 hW3; go_wp2; go_end0; exact ⟨rfl, g3, HU3.out, HW3.out⟩
theorem jlM {Q : Nat → Prop} {w : World} {a : Option Addr} {c : Nat} {l : List (List UInt8)} (h : TxtsM Q w (.slice a l.length c) l) {i : Nat} {x : List UInt8} (hx : l[i]? = some x) :
 ∃ b o, a = some ⟨b, o, none⟩ ∧ b < w.heap.size ∧ w.cell? ⟨b, o + i, none⟩ = some (.string (S x)) := by
 obtain ⟨a', c', hv, _, hr⟩ := h; simp only [Value.slice.injEq, true_and] at hv; obtain ⟨rfl, rfl⟩ := hv; obtain ⟨b, o, cs, ha, hb, _, _, hc, hP⟩ := hr i x hx; unfold TxtM at hP; subst hP; have := hc 0 _ rfl; rw [Nat.mul_one, Nat.add_zero] at this; exact ⟨b, o, ha, hb, this⟩
abbrev und (b : Nat) : Nat → Prop := fun k => k < b
theorem TxtsM.wrote {w w' : World} {b : Nat} {v : Value} {l : List (List UInt8)} (h : TxtsM (und b) w v l) (hb : Below b w w') : TxtsM (und b) w' v l := TxtsM.imp h (fun _ h => h) (Keeps.of_below' hb fun _ h => h)
theorem TstM.wrote {w w' : World} {b n : Nat} {t : Tst} {cs : List Value} (h : TstM (und b) n w t cs) (hb : Below b w w') : TstM (und b) n w' t cs := TstM.imp (fun _ h => h) (Keeps.of_below' hb fun _ h => h) _ _ _ h
theorem CmdM.wrote {w w' : World} {b n : Nat} {t : Cmd} {cs : List Value} (h : CmdM (und b) n w t cs) (hb : Below b w w') : CmdM (und b) n w' t cs := CmdM.imp (fun _ h => h) (Keeps.of_below' hb fun _ h => h) _ _ _ h
theorem TstsM.wrote {w w' : World} {b n : Nat} {v : Value} {l : List Tst} (h : TstsM (und b) n w v l) (hb : Below b w w') : TstsM (und b) n w' v l := RowM.imp h (fun _ h => h) (Keeps.of_below' hb fun _ h => h) fun _ _ h => h.wrote hb
theorem CmdsM.wrote {w w' : World} {b n : Nat} {v : Value} {l : List Cmd} (h : CmdsM (und b) n w v l) (hb : Below b w w') : CmdsM (und b) n w' v l := RowM.imp h (fun _ h => h) (Keeps.of_below' hb fun _ h => h) fun _ _ h => h.wrote hb
def sepK {A : Type} (f : A → List Tok) (l : List A) (k : Nat) : List Tok := sepT f (l.take k)
theorem jeC {A : Type} (f : A → List Tok) (l : List A) (k : Nat) (x : A) (h : l[k]? = some x) : sepK f l (k + 1) = sepK f l k ++ ((if 0 < k then [jP 44] else []) ++ f x) := by
 unfold sepK; have hk : k < l.length := (List.getElem?_eq_some_iff.1 h).1; have hg : l[k] = x := (List.getElem?_eq_some_iff.1 h).2; rw [List.take_succ_eq_append_getElem hk, hg]; cases k with
 | zero => simp [sepT]
 | succ k =>
   cases l with
   | nil => simp at hk
   | cons y r => simp [sepT]
theorem jgg {A : Type} (f : A → List Tok) (l : List A) : sepK f l l.length = sepT f l := by unfold sepK; rw [List.take_length]
theorem qP (b : Nat) (g : Option Nat) (l : List Tok) (ls : List (List UInt8)) (a : Option Addr) (c : Nat) (w : World) (hR : WrB w b g l) (hl : l.length ≤ 401) (hT : TxtsM (und b) w (.slice a ls.length c) ls) :
 Calls Tryz.prog 203 #[.pointer (some ⟨b, 0, none⟩), .slice a ls.length c] w (Wd b g w l (jbr ls)) := by
 have HR : Hid (WrB w b g l) := hR; have HT : Hid (TxtsM (und b) w (.slice a ls.length c) ls) := hT; have hmx := hT.small; unfold maxLen at hmx; clear hR hT
 by_cases h1 : ls.length = 1
 · obtain ⟨x, rfl⟩ : ∃ x, ls = [x] := List.length_eq_one_iff.1 h1; obtain ⟨q, o, rfl, hq, e0⟩ := jlM HT.out (i := 0) (x := x) rfl; rw [Nat.add_zero] at e0; go_enter Tryz.func203, Tryz.ntmps203; go_wp2_with fail; refine (jW b g l 4 x w HR.out hl).mono ?_; rintro e u ⟨rfl, hu⟩; have HU : Hid _ := hu; clear hu; go_wp2; go_end0; exact ⟨rfl, HU.out⟩
 · have h1' : ((ls.length : Int) == 1) = false := by rw [beq_eq_false_iff_ne]; omega
   have HLT : Hid (jbr ls = jP 91 :: (sepT (fun x => [strT x]) ls ++ [jP 93])) := by
    unfold Hid
    match ls, h1 with
    | [], _ => rfl
    | [x], h => simp at h
    | x :: y :: r, _ => rfl
   clear h1; go_enter Tryz.func203, Tryz.ntmps203; go_wp2_with fail; refine (jW b g l 5 [91] w HR.out hl).mono ?_; rintro e w1 ⟨rfl, g1, hU1, hW1⟩; have HU1 : Hid (WrB w1 b g1 ((l ++ ([jP 91] ++ sepK (fun x => [strT x]) ls 0)).take 401)) := hU1; have HW1 : Hid _ := hW1; clear hU1 hW1; go_wp2
   go_loopw [18] (fun v wr => ∃ (i : Nat) (g' : Option Nat), i ≤ ls.length ∧ v = .int .i64 i ∧ WrB wr b g' ((l ++ ([jP 91] ++ sepK (fun x => [strT x]) ls i)).take 401) ∧ Wrote b g g' w wr) (fun v _ => ls.length - (intOf v).toNat)
   case atStart => exact ⟨0, g1, Nat.zero_le _, rfl, HU1.out, HW1.out⟩
   case round =>
    obtain ⟨i, g', hi, rfl, hRr, hWr⟩ := hrel; have HRr : Hid _ := hRr; have HWr : Hid _ := hWr; have hTr := HT.out.wrote (HR.out.below hWr)
    by_cases hlt : i < ls.length
    · have i1 : (i : Int) < (ls.length : Int) := by omega
      have i3 : (0 : Int) ≤ (i : Int) := by omega
      obtain ⟨x, hx⟩ : ∃ x, ls[i]? = some x := ⟨_, List.getElem?_eq_getElem hlt⟩; obtain ⟨q, o, rfl, hq, e0⟩ := jlM hTr hx; have HS : Hid _ := jeC (fun x => [strT x]) ls i x hx; clear hx hTr hRr hWr
      by_cases hpos : 0 < i
      · have i4 : (0 : Int) < (i : Int) := by omega
        go_wp2_with fail; refine (jW b g' _ 5 [44] wr HRr.out (jq _)).mono ?_; rintro e w2 ⟨rfl, g2, hU2, hW2⟩; rw [jl] at hU2; have HU2 : Hid _ := hU2; have HW2 : Hid _ := HWr.out.trans hW2; clear hU2 hW2 e0; go_wp2_with fail; refine (jW b g2 _ 4 x w2 HU2.out (jq _)).mono ?_; rintro e w3 ⟨rfl, g3, hU3, hW3⟩; rw [jl] at hU3; have HU3 : Hid (WrB w3 b g3 ((l ++ ([jP 91] ++ sepK (fun x => [strT x]) ls (i + 1))).take 401)) := by
            unfold Hid; rw [HS.out, if_pos hpos]
            simpa [jP, strT] using hU3
        have HW3 : Hid _ := HW2.out.trans hW3; clear hU3 hW3; go_wp2; exact ⟨⟨i + 1, g3, by omega, by go_num, HU3.out, HW3.out⟩, by simp [intOf]; omega⟩
      · have i4 : ¬ (0 : Int) < (i : Int) := by omega
        go_wp2_with fail; refine (jW b g' _ 4 x wr HRr.out (jq _)).mono ?_; rintro e w3 ⟨rfl, g3, hU3, hW3⟩; rw [jl] at hU3; have HU3 : Hid (WrB w3 b g3 ((l ++ ([jP 91] ++ sepK (fun x => [strT x]) ls (i + 1))).take 401)) := by
            unfold Hid; rw [HS.out, if_neg hpos]
            simpa [jP, strT] using hU3
        have HW3 : Hid _ := HWr.out.trans hW3; clear hU3 hW3 e0; go_wp2; exact ⟨⟨i + 1, g3, by omega, by go_num, HU3.out, HW3.out⟩, by simp [intOf]; omega⟩
    · have i1 : ¬ (i : Int) < (ls.length : Int) := by omega
      obtain rfl : i = ls.length := by omega
      clear hTr hRr hWr; go_wp2_with fail; refine (jW b g' _ 5 [93] wr HRr.out (jq _)).mono ?_; rintro e w2 ⟨rfl, g2, hU2, hW2⟩; rw [jl] at hU2; have HU2 : Hid (WrB w2 b g2 ((l ++ jbr ls).take 401)) := by
       unfold Hid; rw [HLT.out]; rw [jgg] at hU2
       simpa [jP] using hU2
      have HW2 : Hid _ := HWr.out.trans hW2; clear hU2 hW2; go_wp2; go_end0; exact ⟨rfl, g2, HU2.out, HW2.out⟩
theorem Wrote.cellAt {b : Nat} {g g' : Option Nat} {w w' : World} (h : Wrote b g g' w w') {p : Addr} {v : Value} (hp : w.cell? p = some v) (hb : p.block ≠ b) (hg : g ≠ some p.block) : w'.cell? p = some v :=
 (World.cell?_of_block (w := w) (h.block p.block (World.block_lt_of_cell? w _ hp) hb (fun e => hg e.symm))).trans hp
theorem WordsAt.low {w w' : World} {b : Nat} (h : WordsAt w) (hb : Below b w w') (hG : 3 < b) : WordsAt w' := h.keeps (Q := und b) (Keeps.of_below' hb fun _ h => h) hG
theorem jil {n d : Nat} {t : Tst} (h : jp (n + 1) d t = 0) : (1 ≤ t.kind ∧ t.kind ≤ 10) ∧ d ≤ 6 ∧ jcq t = true ∧ jh (jp n (d + 1)) t.tests = 0 := by
 unfold jp at h
 by_cases h1 : oneP (jL 1 t.kind) d (jcq t) = 0
 · rw [if_pos h1] at h; unfold oneP at h1; cases hk : jL 1 t.kind with
   | false => rw [hk] at h1; simp at h1
   | true =>
     rw [hk] at h1; cases hf : jcq t with
     | false => rw [hf] at h1; rcases Nat.lt_or_ge 6 d with hd | hd <;> simp [hd, Nat.not_lt.2] at h1 <;> omega
     | true =>
       rw [hf] at h1; rw [jiE] at hk; simp only [Bool.and_eq_true, decide_eq_true_eq] at hk; refine ⟨hk, ?_, rfl, h⟩
       rcases Nat.lt_or_ge 6 d with hd | hd
       · rw [if_pos hd] at h1; simp at h1
       · exact hd
 · rw [if_neg h1] at h; exact absurd h h1
theorem qi {A : Type} {f : A → Int} {l : List A} (h : jh f l = 0) : ∀ x ∈ l, f x = 0 := by
 induction l with
 | nil => intro x hx; cases hx
 | cons y r ih =>
   unfold jh at h
   by_cases hy : f y = 0
   · rw [if_pos hy] at h; intro x hx; cases List.mem_cons.1 hx with
     | inl e => rw [e]; exact hy
     | inr e => exact ih h x e
   · rw [if_neg hy] at h; exact absurd h hy
def WrT (n : Nat) : Prop := ∀ (t : Tst) (d b : Nat) (g : Option Nat) (l : List Tok) (w : World) (an ak at' : Option Addr) (cn ck ct : Nat), WrB w b g l → l.length ≤ 401 → 3 < b → WordsAt w → jp n d t = 0 →
    TstM (und b) n w t [.int .i64 t.kind, .int .i64 t.mat, .int .i64 t.part, .slice an t.names.length cn, .slice ak t.keys.length ck, .bool t.over, .int .i64 t.limit, .slice at' t.tests.length ct] →
    Calls Tryz.prog 233 #[.pointer (some ⟨b, 0, none⟩), .agg #[.int .i64 t.kind, .int .i64 t.mat, .int .i64 t.part, .slice an t.names.length cn, .slice ak t.keys.length ck, .bool t.over, .int .i64 t.limit, .slice at' t.tests.length ct]] w (Wd b g w l (vN n t))
theorem jjN (n : Nat) (ih : WrT n) (ts : List Tst) (d b : Nat) (g : Option Nat) (l : List Tok) (w : World) (a : Option Addr) (c : Nat) (hR : WrB w b g l) (hl : l.length ≤ 401) (hG : 3 < b) (hw : WordsAt w) (hF : jh (jp n d) ts = 0) (hT : TstsM (und b) n w (.slice a ts.length c) ts) :
 Calls Tryz.prog 256 #[.pointer (some ⟨b, 0, none⟩), .slice a ts.length c] w (Wd b g w l (jP 40 :: (sepT (vN n) ts ++ [jP 41]))) := by
 have HR : Hid (WrB w b g l) := hR; have HT : Hid (TstsM (und b) n w (.slice a ts.length c) ts) := hT; have HIH : Hid (WrT n) := ih; have HW : Hid (WordsAt w) := hw; have HF : Hid (jh (jp n d) ts = 0) := hF; have hmx := hT.small; unfold maxLen at hmx; clear hR hT ih hw hF; go_enter Tryz.func256, Tryz.ntmps256; go_wp2_with fail; refine (jW b g l 5 [40] w HR.out hl).mono ?_; rintro e w1 ⟨rfl, g1, hU1, hW1⟩; have HU1 : Hid (WrB w1 b g1 ((l ++ ([jP 40] ++ sepK (vN n) ts 0)).take 401)) := hU1; have HW1 := hid (hW1); clear hU1 hW1; go_wp2
 go_loopw [10] (fun v wr => ∃ (i : Nat) (g' : Option Nat), i ≤ ts.length ∧ v = .int .i64 i ∧ WrB wr b g' ((l ++ ([jP 40] ++ sepK (vN n) ts i)).take 401) ∧ Wrote b g g' w wr) (fun v _ => ts.length - (intOf v).toNat)
 case atStart => exact ⟨0, g1, Nat.zero_le _, rfl, HU1.out, HW1.out⟩
 case round =>
  obtain ⟨i, g', hi, rfl, hRr, hWr⟩ := hrel; have HRr := hid (hRr); have HWr := hid (hWr); have hlw := HR.out.below hWr; have hTr := HT.out.wrote hlw
  by_cases hlt : i < ts.length
  · have i1 : (i : Int) < (ts.length : Int) := by omega
    have i3 : (0 : Int) ≤ (i : Int) := by omega
    obtain ⟨x, hx⟩ : ∃ x, ts[i]? = some x := ⟨_, List.getElem?_eq_getElem hlt⟩; obtain ⟨q, o, an, cn, ak, ck, at', ct, rfl, hq, e0, e1, e2, e3, e4, e5, e6, e7, hTx⟩ := jeO hTr hx; have HS := hid (jeC (vN n) ts i x hx); have HFx : Hid (jp n d x = 0) := qi HF.out x (List.mem_of_getElem? hx); have HTx : Hid (TstM (und b) n wr x [.int .i64 x.kind, .int .i64 x.mat, .int .i64 x.part, .slice an x.names.length cn, .slice ak x.keys.length ck, .bool x.over, .int .i64 x.limit, .slice at' x.tests.length ct]) := hTx; have HWwr : Hid (WordsAt wr) := HW.out.low hlw hG; have hbl := hRr.lt; have hgf := hRr.fresh; have hal : Below wr.heap.size wr (wr.alloc (.cells #[.int .i64 x.kind, .int .i64 x.mat, .int .i64 x.part, .slice an x.names.length cn, .slice ak x.keys.length ck, .bool x.over, .int .i64 x.limit, .slice at' x.tests.length ct] 205)) := nb0 _ _; obtain ⟨W0, hW0⟩ : ∃ W0, W0 = wr.alloc (.cells #[.int .i64 x.kind, .int .i64 x.mat, .int .i64 x.part, .slice an x.names.length cn, .slice ak x.keys.length ck, .bool x.over, .int .i64 x.limit, .slice at' x.tests.length ct] 205) := ⟨_, rfl⟩; rw [← hW0] at hal; have hz0 : W0.heap.size = wr.heap.size + 1 := by rw [hW0]; simp
    have hH : W0.heap[wr.heap.size]? = some (.cells #[.int .i64 x.kind, .int .i64 x.mat, .int .i64 x.part, .slice an x.names.length cn, .slice ak x.keys.length ck, .bool x.over, .int .i64 x.limit, .slice at' x.tests.length ct] 205) := by rw [hW0]; exact heap_alloc_new wr _
    obtain ⟨f0, f1, f2, f3, f4, f5, f6, f7⟩ := bx8 hH; have HWE := hid (hW0); have HAL := hid (hal); have hbne : wr.heap.size ≠ b := by omega
    have hltb : wr.heap.size < W0.heap.size := by omega
    clear hx hTr hRr hWr hTx hlw hW0 hal hH
    by_cases hpos : 0 < i
    · have i4 : (0 : Int) < (i : Int) := by omega
      go_wp2_with fail; rw [← HWE.out]; refine (jW b g' _ 5 [44] W0 (HRr.out.next HAL.out) (jq _)).mono ?_; rintro e w2 ⟨rfl, g2, hU2, hW2⟩; rw [jl] at hU2; have k0 := hW2.cellAt f0 hbne hgf; have k1 := hW2.cellAt f1 hbne hgf; have k2 := hW2.cellAt f2 hbne hgf; have k3 := hW2.cellAt f3 hbne hgf; have k4 := hW2.cellAt f4 hbne hgf; have k5 := hW2.cellAt f5 hbne hgf; have k6 := hW2.cellAt f6 hbne hgf; have k7 := hW2.cellAt f7 hbne hgf; have hlw2 := (HRr.out.next HAL.out).below hW2; have HU2 := hid (hU2); have HW2 := hid ((HWr.out.trans (Wrote.of HAL.out)).trans hW2); have HWw2 : Hid (WordsAt w2) := (HWwr.out.next HAL.out).low hlw2 hG; have HT2 := hid ((HTx.out.next HAL.out).wrote hlw2); clear hU2 hW2 hlw2 e0 e1 e2 e3 e4 e5 e6 e7 f0 f1 f2 f3 f4 f5 f6 f7; go_wp2_with fail; refine (HIH.out x d b g2 _ w2 _ _ _ _ _ _ HU2.out (jq _) hG HWw2.out HFx.out HT2.out).mono ?_; rintro e w3 ⟨rfl, g3, hU3, hW3⟩; rw [jl] at hU3; have HU3 : Hid (WrB w3 b g3 ((l ++ ([jP 40] ++ sepK (vN n) ts (i + 1))).take 401)) := by
       unfold Hid; rw [HS.out, if_pos hpos]
       simpa [jP, List.append_assoc] using hU3
      have HW3 := hid (HW2.out.trans hW3); clear hU3 hW3; go_wp2; exact ⟨⟨i + 1, g3, by omega, by go_num, HU3.out, HW3.out⟩, by simp [intOf]; omega⟩
    · have i4 : ¬ (0 : Int) < (i : Int) := by omega
      have HT2 := hid (HTx.out.next HAL.out); have HWw2 : Hid (WordsAt W0) := HWwr.out.next HAL.out; have HU2 := hid (HRr.out.next HAL.out); go_wp2_with fail; rw [← HWE.out]; refine (HIH.out x d b g' _ W0 _ _ _ _ _ _ HU2.out (jq _) hG HWw2.out HFx.out HT2.out).mono ?_; rintro e w3 ⟨rfl, g3, hU3, hW3⟩; rw [jl] at hU3; have HU3 : Hid (WrB w3 b g3 ((l ++ ([jP 40] ++ sepK (vN n) ts (i + 1))).take 401)) := by
       unfold Hid; rw [HS.out, if_neg hpos]
       simpa [jP, List.append_assoc] using hU3
      have HW3 := hid ((HWr.out.trans (Wrote.of HAL.out)).trans hW3); clear hU3 hW3 e0 e1 e2 e3 e4 e5 e6 e7 f0 f1 f2 f3 f4 f5 f6 f7; go_wp2; exact ⟨⟨i + 1, g3, by omega, by go_num, HU3.out, HW3.out⟩, by simp [intOf]; omega⟩
  · have i1 : ¬ (i : Int) < (ts.length : Int) := by omega
    obtain rfl : i = ts.length := by omega
    clear hTr hRr hWr hlw; go_wp2_with fail; refine (jW b g' _ 5 [41] wr HRr.out (jq _)).mono ?_; rintro e w2 ⟨rfl, g2, hU2, hW2⟩; rw [jl] at hU2; have HU2 : Hid (WrB w2 b g2 ((l ++ (jP 40 :: (sepT (vN n) ts ++ [jP 41]))).take 401)) := by
        unfold Hid; rw [jgg] at hU2
        simpa [jP] using hU2
    have HW2 := hid (HWr.out.trans hW2); clear hU2 hW2; go_wp2; go_end0; exact ⟨rfl, g2, HU2.out, HW2.out⟩
theorem Wrote.box {b : Nat} {g g' : Option Nat} {w w' : World} (h : Wrote b g g' w w') {k : Nat} {o : Obj} (hk : w.heap[k]? = some o) (hb : k ≠ b) (hg : g ≠ some k) : w'.heap[k]? = some o :=
 (h.block k (Array.getElem?_eq_some_iff.1 hk).1 hb fun e => hg e.symm).trans hk
theorem jeR (n : Nat) : WrT n := by
 induction n with
 | zero => intro t d b g l w an ak at' cn ck ct _ _ _ _ _ h; exact h.elim
 | succ n ih =>
   intro t d b g l w an ak at' cn ck ct hR hl hG hw hF hT; obtain ⟨_, _, _, _, _, _, m, hm, he, h1, h2, h3⟩ := zF hT; simp only [List.cons.injEq, Value.slice.injEq, true_and, and_true] at he; obtain ⟨⟨rfl, rfl⟩, ⟨rfl, rfl⟩, rfl, rfl⟩ := he; obtain rfl : n = m := by omega
   obtain ⟨⟨hq1, hq2⟩, hd6, hfit, hF2⟩ := jil hF; obtain ⟨kind, mat, part, names, keys, over, limit, tests⟩ := t
   dsimp only at hq1 hq2 hF2 h1 h2 h3 ⊢
   have HF2 := hid hF2; have HIH := hid ih; have HR := hid hR; have HN := hid h1; have HK := hid h2; have HT := hid h3; have HFT := hid hfit; have hbl := hR.lt; have hgf := hR.fresh; have hbne : w.heap.size ≠ b := by omega
   clear hF hF2 ih h1 h2 h3 hT hm hfit; obtain ⟨W0, hW0⟩ : ∃ W0, W0 = w.alloc (.cells #[.int .i64 kind, .int .i64 mat, .int .i64 part, .slice an names.length cn, .slice ak keys.length ck, .bool over, .int .i64 limit, .slice at' tests.length ct] 205) := ⟨_, rfl⟩; have hal : Below w.heap.size w W0 := by rw [hW0]; exact nb0 _ _
   have hH : W0.heap[w.heap.size]? = some (.cells #[.int .i64 kind, .int .i64 mat, .int .i64 part, .slice an names.length cn, .slice ak keys.length ck, .bool over, .int .i64 limit, .slice at' tests.length ct] 205) := by rw [hW0]; exact heap_alloc_new w _
   obtain ⟨f0, f1, f2, f3, f4, f5, f6, f7⟩ := bx8 hH; have HH0 := hid hH; have HWE := hid hW0; have HAL := hid hal; have hki : kind < 11 := by omega
   have hk0 : 0 ≤ kind := by omega
   have hc := hw 1 kind.toNat (by omega) (by omega)
   simp at hc
   have hGn : (3 : Nat) ≠ w.heap.size := by omega
   have hG0 : 3 < w.heap.size := by omega
   have HWW := hid (hw.next hal); clear hW0 hal hH hw hR; go_enter Tryz.func233, Tryz.ntmps233; go_wp2_with fail; rw [← HWE.out]; refine (jW b g l 1 (jJ 1 kind.toNat) W0 (HR.out.next HAL.out) hl).mono ?_; rintro e w1 ⟨rfl, g1, hU1, hW1⟩; have HX1 := hid (hW1.box HH0.out hbne hgf); obtain ⟨k0, k1, k2, k3, k4, k5, k6, k7⟩ := bx8 HX1.out; have hs1 := hW1.stay (k := w.heap.size) (World.block_lt_of_cell? W0 _ f0) hgf; have HL1 := hid ((HR.out.next HAL.out).below hW1); have HU1 := hid hU1; have HW1 := hid ((Wrote.of HAL.out).trans hW1); clear hU1 hW1 f0 f1 f2 f3 f4 f5 f6 f7 hc; have HB1 := hid ((HAL.out.mono (Nat.le_of_lt hbl)).trans HL1.out); have h10 : (kind = 1 ∨ kind = 2) ∨ kind = 3 ∨ (kind = 4 ∨ kind = 5) ∨ kind = 6 ∨ (kind = 7 ∨ kind = 8) ∨ kind = 9 ∨ kind = 10 := by omega
   rcases h10 with (rfl | rfl) | rfl | (rfl | rfl) | rfl | (rfl | rfl) | rfl | rfl
   iterate 2
    · go_wp2; go_end0; exact ⟨rfl, g1, HU1.out, HW1.out⟩
   · have h1 : tests.length = 1 := by
        have := HFT.out; unfold jcq at this
        simp at this
        exact this.1
     obtain ⟨x, rfl⟩ : ∃ x, tests = [x] := List.length_eq_one_iff.1 h1; obtain ⟨q, o, an2, cn2, ak2, ck2, at2, ct2, rfl, hq, e0, e1, e2, e3, e4, e5, e6, e7, hTx⟩ := jeO (HT.out.wrote HB1.out) (i := 0) (x := x) rfl; rw [Nat.zero_mul, Nat.add_zero] at e0 e1 e2 e3 e4 e5 e6 e7; have HTx := hid hTx; have HFx := hid (qi HF2.out x (by simp)); clear hTx h1; go_wp2_with fail; refine (HIH.out x (d + 1) b g1 _ w1 _ _ _ _ _ _ HU1.out (jq _) hG (HWW.out.low HL1.out hG) HFx.out HTx.out).mono ?_; rintro e w2 ⟨rfl, g2, hU2, hW2⟩; rw [jl] at hU2; have HE := hid (And.intro hU2 (HW1.out.trans hW2)); clear hU2 hW2; go_wp2; go_end0; exact ⟨rfl, g2, HE.out⟩
   iterate 2
    · go_wp2_with fail; refine (jjN n HIH.out tests (d + 1) b g1 _ w1 _ _ HU1.out (jq _) hG (HWW.out.low HL1.out hG) HF2.out (HT.out.wrote HB1.out)).mono ?_; rintro e w2 ⟨rfl, g2, hU2, hW2⟩; rw [jl] at hU2; have HE := hid (And.intro hU2 (HW1.out.trans hW2)); clear hU2 hW2; go_wp2; go_end0; exact ⟨rfl, g2, HE.out⟩
   · have hmat : 1 ≤ mat ∧ mat ≤ 3 := by
        have := HFT.out; unfold jcq cmpB at this
        simp [jeg] at this
        omega
     obtain ⟨m, rfl⟩ := Int.eq_ofNat_of_zero_le (show 0 ≤ mat by omega); have hm11 : m < 11 := by omega
     have hmi : (m : Int) < 11 := by omega
     have hm0 : (0 : Int) ≤ (m : Int) := by omega
     have hcm := (HWW.out.low HL1.out hG) 2 m (by omega) hm11
     simp at hcm
     go_wp2_with fail; refine (jW b g1 _ 2 (jJ 2 m) w1 HU1.out (jq _)).mono ?_; rintro e w3 ⟨rfl, g3, hU3, hW3⟩; rw [jl] at hU3; have HX3 := hid (hW3.box HX1.out hbne hs1); have hs3 := hW3.stay (k := w.heap.size) (World.block_lt_of_cell? w1 _ k0) hs1; have HB3 := hid (HB1.out.trans (HU1.out.below hW3)); have HU3 := hid hU3; have HW3 := hid (HW1.out.trans hW3); clear hU3 hW3 hcm; clear k0 k1 k2 k3 k4 k5 k6 k7; obtain ⟨p0, p1, p2, p3, p4, p5, p6, p7⟩ := bx8 HX3.out; go_wp2_with fail; refine (qP b g3 _ names _ _ w3 HU3.out (jq _) (HN.out.wrote HB3.out)).mono ?_; rintro e w4 ⟨rfl, g4, hU4, hW4⟩; rw [jl] at hU4; have HX4 := hid (hW4.box HX3.out hbne hs3); have HB4 := hid (HB3.out.trans (HU3.out.below hW4)); have HU4 := hid hU4; have HW4 := hid (HW3.out.trans hW4); clear hU4 hW4 p0 p1 p2 p3 p4 p5 p6 p7; obtain ⟨q0, q1, q2, q3, q4, q5, q6, q7⟩ := bx8 HX4.out; go_wp2_with fail; refine (qP b g4 _ keys _ _ w4 HU4.out (jq _) (HK.out.wrote HB4.out)).mono ?_; rintro e w5 ⟨rfl, g5, hU5, hW5⟩; rw [jl] at hU5; have HE := hid (And.intro hU5 (HW4.out.trans hW5)); clear hU5 hW5; go_wp2; go_end0; exact ⟨rfl, g5, by simpa [vN, qZ, tagT, List.append_assoc] using HE.out.1, HE.out.2⟩
   iterate 2
    · have hmat : 1 ≤ mat ∧ mat ≤ 3 ∧ 1 ≤ part ∧ part ≤ 3 := by
       have := HFT.out; unfold jcq cmpB at this
       simp [jeg, jg1] at this
       omega
      obtain ⟨m, rfl⟩ := Int.eq_ofNat_of_zero_le (show 0 ≤ mat by omega); have hm11 : m < 11 := by omega
      have hmi : (m : Int) < 11 := by omega
      have hm0 : (0 : Int) ≤ (m : Int) := by omega
      obtain ⟨p, rfl⟩ := Int.eq_ofNat_of_zero_le (show 0 ≤ part by omega); have hp11 : p < 11 := by omega
      have hpi : (p : Int) < 11 := by omega
      have hp0 : (0 : Int) ≤ (p : Int) := by omega
      have hcp := (HWW.out.low HL1.out hG) 3 p (by omega) hp11
      simp at hcp
      go_wp2_with fail; refine (jW b g1 _ 2 (jJ 3 p) w1 HU1.out (jq _)).mono ?_; rintro e w2 ⟨rfl, g2, hU2, hW2⟩; rw [jl] at hU2; have HX2 := hid (hW2.box HX1.out hbne hs1); have hs2 := hW2.stay (k := w.heap.size) (World.block_lt_of_cell? w1 _ k0) hs1; have HL2 := hid (HL1.out.trans (HU1.out.below hW2)); have HB2 := hid (HB1.out.trans (HU1.out.below hW2)); have HU2 := hid hU2; have HW2 := hid (HW1.out.trans hW2); clear hU2 hW2 k0 k1 k2 k3 k4 k5 k6 k7 hcp; obtain ⟨m0, m1, m2, m3, m4, m5, m6, m7⟩ := bx8 HX2.out; have hcm := (HWW.out.low HL2.out hG) 2 m (by omega) hm11
      simp at hcm
      go_wp2_with fail; refine (jW b g2 _ 2 (jJ 2 m) w2 HU2.out (jq _)).mono ?_; rintro e w3 ⟨rfl, g3, hU3, hW3⟩; rw [jl] at hU3; have HX3 := hid (hW3.box HX2.out hbne hs2); have hs3 := hW3.stay (k := w.heap.size) (World.block_lt_of_cell? w2 _ m0) hs2; have HB3 := hid (HB2.out.trans (HU2.out.below hW3)); have HU3 := hid hU3; have HW3 := hid (HW2.out.trans hW3); clear hU3 hW3 hcm m0 m1 m2 m3 m4 m5 m6 m7; obtain ⟨p0, p1, p2, p3, p4, p5, p6, p7⟩ := bx8 HX3.out; go_wp2_with fail; refine (qP b g3 _ names _ _ w3 HU3.out (jq _) (HN.out.wrote HB3.out)).mono ?_; rintro e w4 ⟨rfl, g4, hU4, hW4⟩; rw [jl] at hU4; have HX4 := hid (hW4.box HX3.out hbne hs3); have HB4 := hid (HB3.out.trans (HU3.out.below hW4)); have HU4 := hid hU4; have HW4 := hid (HW3.out.trans hW4); clear hU4 hW4 p0 p1 p2 p3 p4 p5 p6 p7; obtain ⟨q0, q1, q2, q3, q4, q5, q6, q7⟩ := bx8 HX4.out; go_wp2_with fail; refine (qP b g4 _ keys _ _ w4 HU4.out (jq _) (HK.out.wrote HB4.out)).mono ?_; rintro e w5 ⟨rfl, g5, hU5, hW5⟩; rw [jl] at hU5; have HE := hid (And.intro hU5 (HW4.out.trans hW5)); clear hU5 hW5; go_wp2; go_end0; exact ⟨rfl, g5, by simpa [vN, qZ, tagT, List.append_assoc] using HE.out.1, HE.out.2⟩
   · go_wp2_with fail; refine (qP b g1 _ names _ _ w1 HU1.out (jq _) (HN.out.wrote HB1.out)).mono ?_; rintro e w2 ⟨rfl, g2, hU2, hW2⟩; rw [jl] at hU2; have HE := hid (And.intro hU2 (HW1.out.trans hW2)); clear hU2 hW2; go_wp2; go_end0; exact ⟨rfl, g2, HE.out⟩
   · go_wp2_with fail; refine (jhW b g1 _ over limit w1 HU1.out (jq _)).mono ?_; rintro e w2 ⟨rfl, g2, hU2, hW2⟩; rw [jl] at hU2; have HE := hid (And.intro hU2 (HW1.out.trans hW2)); clear hU2 hW2; go_wp2; go_end0; exact ⟨rfl, g2, HE.out⟩
theorem vD {n d : Nat} {c : Cmd} (h : jn (n + 1) d c = 0) : (1 ≤ c.kind ∧ c.kind ≤ 10) ∧ d ≤ 6 ∧ vE c = true ∧ (c.kind = 2 → jp n 1 c.test = 0 ∧ jh (jn n (d + 1)) c.thn = 0 ∧ (match zj c.els with | some x => jn n d x | none => jh (jn n (d + 1)) c.els) = 0) := by
 rw [qT] at h
 by_cases h1 : oneP (jL 0 c.kind) d (vE c) = 0
 · rw [if_neg (by simpa using h1)] at h; unfold oneP at h1; cases hk : jL 0 c.kind with
   | false => rw [hk] at h1; simp at h1
   | true =>
     rw [hk] at h1; cases hf : vE c with
     | false => rw [hf] at h1; rcases Nat.lt_or_ge 6 d with hd | hd <;> simp [hd, Nat.not_lt.2] at h1 <;> omega
     | true =>
       rw [hf] at h1; rw [jiD] at hk; simp only [Bool.and_eq_true, decide_eq_true_eq] at hk; refine ⟨hk, ?_, rfl, fun h2 => ?_⟩
       · rcases Nat.lt_or_ge 6 d with hd | hd
         · rw [if_pos hd] at h1; simp at h1
         · exact hd
       · rw [if_neg (by simpa using h2)] at h
         by_cases q1 : jp n 1 c.test = 0
         · rw [if_neg (by simpa using q1)] at h
           by_cases q2 : jh (jn n (d + 1)) c.thn = 0
           · rw [if_neg (by simpa using q2)] at h; exact ⟨q1, q2, h⟩
           · rw [if_pos q2] at h; exact absurd h q2
         · rw [if_pos q1] at h; exact absurd h q1
 · rw [if_pos h1] at h; exact absurd h h1
theorem qH {Q : Nat → Prop} {n : Nat} {w : World} {c : Cmd} {ax an ak at' aa ae : Option Addr} {cx cn ck ct ca ce : Nat} (h : CmdM Q n w c [.int .i64 c.kind, .slice ax c.texts.length cx, .int .i64 c.test.kind, .int .i64 c.test.mat, .int .i64 c.test.part, .slice an c.test.names.length cn, .slice ak c.test.keys.length ck, .bool c.test.over, .int .i64 c.test.limit, .slice at' c.test.tests.length ct, .slice aa c.thn.length ca, .slice ae c.els.length ce]) : ∃ m, n = m + 1 ∧ TxtsM Q w (.slice ax c.texts.length cx) c.texts ∧ TstM Q m w c.test [.int .i64 c.test.kind, .int .i64 c.test.mat, .int .i64 c.test.part, .slice an c.test.names.length cn, .slice ak c.test.keys.length ck, .bool c.test.over, .int .i64 c.test.limit, .slice at' c.test.tests.length ct] ∧ CmdsM Q m w (.slice aa c.thn.length ca) c.thn ∧ CmdsM Q m w (.slice ae c.els.length ce) c.els := by
 obtain ⟨_, _, _, _, _, _, _, _, _, _, _, _, m, hm, he, h1, h2, h3, h4⟩ := zA h; simp only [List.cons.injEq, Value.slice.injEq, true_and, and_true] at he; obtain ⟨⟨rfl, rfl⟩, ⟨rfl, rfl⟩, ⟨rfl, rfl⟩, ⟨rfl, rfl⟩, ⟨rfl, rfl⟩, rfl, rfl⟩ := he; exact ⟨m, hm, h1, h2, h3, h4⟩
def WrBr (n : Nat) : Prop := ∀ (c : Cmd) (d b : Nat) (g : Option Nat) (l : List Tok) (w : World) (ax an ak at' aa ae : Option Addr) (cx cn ck ct ca ce : Nat), WrB w b g l → l.length ≤ 401 → 3 < b → WordsAt w → jn n d c = 0 → c.kind = 2 →
    CmdM (und b) n w c [.int .i64 c.kind, .slice ax c.texts.length cx, .int .i64 c.test.kind, .int .i64 c.test.mat, .int .i64 c.test.part, .slice an c.test.names.length cn, .slice ak c.test.keys.length ck, .bool c.test.over, .int .i64 c.test.limit, .slice at' c.test.tests.length ct, .slice aa c.thn.length ca, .slice ae c.els.length ce] →
    Calls Tryz.prog 202 #[.pointer (some ⟨b, 0, none⟩), .agg #[.int .i64 c.kind, .slice ax c.texts.length cx, .int .i64 c.test.kind, .int .i64 c.test.mat, .int .i64 c.test.part, .slice an c.test.names.length cn, .slice ak c.test.keys.length ck, .bool c.test.over, .int .i64 c.test.limit, .slice at' c.test.tests.length ct, .slice aa c.thn.length ca, .slice ae c.els.length ce]] w (Wd b g w l (jad n c))
theorem jgG (n : Nat) (l : List Cmd) (k : Nat) (x : Cmd) (h : l[k]? = some x) : zh n (l.take (k + 1)) = zh n (l.take k) ++ cmdT n x := by
 have hk : k < l.length := (List.getElem?_eq_some_iff.1 h).1; have hg : l[k] = x := (List.getElem?_eq_some_iff.1 h).2; rw [List.take_succ_eq_append_getElem hk, hg]
 simp [zh]
theorem jbi (n : Nat) (ih : WrBr n) (cs : List Cmd) (d b : Nat) (g : Option Nat) (l : List Tok) (w : World) (a : Option Addr) (k : Nat) (hR : WrB w b g l) (hl : l.length ≤ 401) (hG : 3 < b) (hw : WordsAt w) (hF : jh (jn n d) cs = 0) (hT : CmdsM (und b) n w (.slice a cs.length k) cs) :
 Calls Tryz.prog 163 #[.pointer (some ⟨b, 0, none⟩), .slice a cs.length k] w (Wd b g w l (zh n cs)) := by
 have HR := hid hR; have HT := hid hT; have HIH := hid ih; have HW := hid hw; have HF := hid hF; have hmx := hT.small; unfold maxLen at hmx; have HU0 := hid (show WrB w b g ((l ++ zh n (cs.take 0)).take 401) by
  simp only [List.take_zero, zh, List.flatMap_nil, List.append_nil]; rw [List.take_of_length_le hl]; exact hR)
 clear hR hT ih hw hF; go_enter Tryz.func163, Tryz.ntmps163; go_wp2
 go_loopw [8] (fun v wr => ∃ (i : Nat) (g' : Option Nat), i ≤ cs.length ∧ v = .int .i64 i ∧ WrB wr b g' ((l ++ zh n (cs.take i)).take 401) ∧ Wrote b g g' w wr) (fun v _ => cs.length - (intOf v).toNat)
 case atStart => exact ⟨0, g, Nat.zero_le _, rfl, HU0.out, Wrote.refl _ _ _⟩
 case round =>
  obtain ⟨i, g', hi, rfl, hRr, hWr⟩ := hrel; have HRr := hid hRr; have HWr := hid hWr; have hlw := HR.out.below hWr; have hTr := HT.out.wrote hlw
  by_cases hlt : i < cs.length
  · have i1 : (i : Int) < (cs.length : Int) := by omega
    have i3 : (0 : Int) ≤ (i : Int) := by omega
    obtain ⟨x, hx⟩ : ∃ x, cs[i]? = some x := ⟨_, List.getElem?_eq_getElem hlt⟩; obtain ⟨q, o, ax, cx, an, cn, ak, ck, at', ct, aa, ca, ae, ce, rfl, hq, e0, e1, e2, e3, e4, e5, e6, e7, e8, e9, e10, e11, hTx⟩ := jae hTr hx; have HS := hid (jgG n cs i x hx); have HFx := hid (qi HF.out x (List.mem_of_getElem? hx)); have HTx := hid hTx; have hWwr := HW.out.low hlw hG; have HWwr := hid hWwr; obtain ⟨m, hm, hX1, _⟩ := qH hTx; subst hm; have HX1 := hid hX1; obtain ⟨hkd, _, hfit, _⟩ := vD HFx.out; have hbl := hRr.lt; have hgf := hRr.fresh; obtain ⟨W0, hW0⟩ : ∃ W0, W0 = wr.alloc (.cells #[.int .i64 x.kind, .slice ax x.texts.length cx, .int .i64 x.test.kind, .int .i64 x.test.mat, .int .i64 x.test.part, .slice an x.test.names.length cn, .slice ak x.test.keys.length ck, .bool x.test.over, .int .i64 x.test.limit, .slice at' x.test.tests.length ct, .slice aa x.thn.length ca, .slice ae x.els.length ce] 207) := ⟨_, rfl⟩; have hal : Below wr.heap.size wr W0 := by rw [hW0]; exact nb0 _ _
    have hH : W0.heap[wr.heap.size]? = some (.cells #[.int .i64 x.kind, .slice ax x.texts.length cx, .int .i64 x.test.kind, .int .i64 x.test.mat, .int .i64 x.test.part, .slice an x.test.names.length cn, .slice ak x.test.keys.length ck, .bool x.test.over, .int .i64 x.test.limit, .slice at' x.test.tests.length ct, .slice aa x.thn.length ca, .slice ae x.els.length ce] 207) := by rw [hW0]; exact heap_alloc_new wr _
    obtain ⟨f0, f1, f2, f3, f4, f5, f6, f7, f8, f9, f10, f11⟩ := bx12 hH; have HWE := hid hW0; have HAL := hid hal; have hbne : wr.heap.size ≠ b := by omega
    have hlt0 := World.block_lt_of_cell? W0 _ f0; have hG0 : 3 < wr.heap.size := by omega
    obtain ⟨kk, hkk⟩ := Int.eq_ofNat_of_zero_le (show 0 ≤ x.kind by omega); have hk11 : kk < 11 := by omega
    have hki : (kk : Int) < 11 := by omega
    have hk0 : (0 : Int) ≤ (kk : Int) := by omega
    have hc := hWwr 0 kk (by omega) hk11
    simp at hc
    have HKW := hid (show jJ 0 x.kind.toNat = jJ 0 kk by rw [hkk]; rfl); have HKK := hid hkk; rw [hkk] at f0 e0; clear hx hTr hRr hWr hTx hlw hW0 hal hH hWwr hX1 hkk; go_wp2_with fail; rw [← HKK.out, ← HWE.out]; refine (jW b g' _ 1 (jJ 0 kk) W0 (HRr.out.next HAL.out) (jq _)).mono ?_; rintro e w1 ⟨rfl, g1, hU1, hW1⟩; rw [jl] at hU1; have k0 := hW1.cellAt f0 hbne hgf; have k1 := hW1.cellAt f1 hbne hgf; have k2 := hW1.cellAt f2 hbne hgf; have k3 := hW1.cellAt f3 hbne hgf; have k4 := hW1.cellAt f4 hbne hgf; have k5 := hW1.cellAt f5 hbne hgf; have k6 := hW1.cellAt f6 hbne hgf; have k7 := hW1.cellAt f7 hbne hgf; have k8 := hW1.cellAt f8 hbne hgf; have k9 := hW1.cellAt f9 hbne hgf; have k10 := hW1.cellAt f10 hbne hgf; have k11 := hW1.cellAt f11 hbne hgf; have hs1 := hW1.stay (k := wr.heap.size) hlt0 hgf; have HL1 := hid ((HRr.out.next HAL.out).below hW1); have HB1 := hid ((HAL.out.mono (Nat.le_of_lt hbl)).trans HL1.out); have HU1 := hid hU1; have HW1 := hid ((HWr.out.trans (Wrote.of HAL.out)).trans hW1); clear hU1 hW1 hc f0 f1 f2 f3 f4 f5 f6 f7 f8 f9 f10 f11 e0 e1 e2 e3 e4 e5 e6 e7 e8 e9 e10 e11; rw [← HKK.out] at k0; have HWw1 := hid ((HWwr.out.next HAL.out).low HL1.out hG)
    by_cases h2 : x.kind = 2
    · have hq2 : (x.kind == 2) = true := by simp [h2]
      have H2 := hid h2; clear h2; have HTx1 := hid ((HTx.out.next HAL.out).wrote HL1.out); go_wp2_with fail; refine (HIH.out x d b g1 _ w1 _ _ _ _ _ _ _ _ _ _ _ _ HU1.out (jq _) hG HWw1.out HFx.out H2.out HTx1.out).mono ?_; rintro e w2 ⟨rfl, g2, hU2, hW2⟩; rw [jl] at hU2; have HU2 := hid (show WrB w2 b g2 ((l ++ zh (m + 1) (cs.take (i + 1))).take 401) by
       rw [HS.out, cmdT, HKW.out]
       simpa [qZ] using hU2)
      have HW2 := hid (HW1.out.trans hW2); clear hU2 hW2 k0 k1 k2 k3 k4 k5 k6 k7 k8 k9 k10 k11; go_wp2; exact ⟨⟨i + 1, g2, by omega, by go_num, HU2.out, HW2.out⟩, by simp [intOf]; omega⟩
    · have hq2 : (x.kind == 2) = false := by simp [h2]
      have HRT := hid (show jad (m + 1) x = (if x.texts.length = 0 then [] else jbr x.texts) ++ [jP 59] by
       unfold jad; rw [if_neg h2])
      clear h2
      by_cases h0 : 0 < x.texts.length
      · have h0' : (0 : Int) < (x.texts.length : Int) := by omega
        go_wp2_with fail; refine (qP b g1 _ x.texts _ _ w1 HU1.out (jq _) (((HX1.out.next HAL.out)).wrote HL1.out)).mono ?_; rintro e w2 ⟨rfl, g2, hU2, hW2⟩; rw [jl] at hU2; have HU2 := hid hU2; have HW2 := hid (HW1.out.trans hW2); clear hU2 hW2 k0 k1 k2 k3 k4 k5 k6 k7 k8 k9 k10 k11; go_wp2_with fail; refine (jW b g2 _ 5 [59] w2 HU2.out (jq _)).mono ?_; rintro e w3 ⟨rfl, g3, hU3, hW3⟩; rw [jl] at hU3; have HU3 := hid (show WrB w3 b g3 ((l ++ zh (m + 1) (cs.take (i + 1))).take 401) by
            rw [HS.out, cmdT, HKW.out, HRT.out, if_neg (by omega)]
            simpa [qZ, jP, List.append_assoc] using hU3)
        have HW3 := hid (HW2.out.trans hW3); clear hU3 hW3; go_wp2; exact ⟨⟨i + 1, g3, by omega, by go_num, HU3.out, HW3.out⟩, by simp [intOf]; omega⟩
      · have h0' : ¬ (0 : Int) < (x.texts.length : Int) := by omega
        go_wp2_with fail; refine (jW b g1 _ 5 [59] w1 HU1.out (jq _)).mono ?_; rintro e w3 ⟨rfl, g3, hU3, hW3⟩; rw [jl] at hU3; have HU3 := hid (show WrB w3 b g3 ((l ++ zh (m + 1) (cs.take (i + 1))).take 401) by
            rw [HS.out, cmdT, HKW.out, HRT.out, if_pos (by omega)]
            simpa [qZ, jP, List.append_assoc] using hU3)
        have HW3 := hid (HW1.out.trans hW3); clear hU3 hW3 k0 k1 k2 k3 k4 k5 k6 k7 k8 k9 k10 k11; go_wp2; exact ⟨⟨i + 1, g3, by omega, by go_num, HU3.out, HW3.out⟩, by simp [intOf]; omega⟩
  · have i1 : ¬ (i : Int) < (cs.length : Int) := by omega
    obtain rfl : i = cs.length := by omega
    have HE := hid (show Wd b g w l (zh n cs) (.returned (.tuple #[])) wr from ⟨rfl, g', by rw [List.take_length] at hRr; exact hRr, hWr⟩); clear hTr hRr hWr hlw; go_wp2; go_end0; exact HE.out
theorem jck (n : Nat) (ih : WrBr n) (cs : List Cmd) (d b : Nat) (g : Option Nat) (l : List Tok) (w : World) (a : Option Addr) (k : Nat) (hR : WrB w b g l) (hl : l.length ≤ 401) (hG : 3 < b) (hw : WordsAt w) (hF : jh (jn n d) cs = 0) (hT : CmdsM (und b) n w (.slice a cs.length k) cs) :
 Calls Tryz.prog 234 #[.pointer (some ⟨b, 0, none⟩), .slice a cs.length k] w (Wd b g w l (jP 123 :: (zh n cs ++ [jP 125]))) := by
 have HR := hid hR; have HT := hid hT; have HIH := hid ih; have HW := hid hw; have HF := hid hF; clear hR hT ih hw hF; go_enter Tryz.func234, Tryz.ntmps234; go_wp2_with fail; refine (jW b g l 5 [123] w HR.out hl).mono ?_; rintro e w1 ⟨rfl, g1, hU1, hW1⟩; have HU1 := hid hU1; have HW1 := hid hW1; have HL1 := hid (HR.out.below hW1); clear hU1 hW1; go_wp2_with fail; refine (jbi n HIH.out cs d b g1 _ w1 a k HU1.out (jq _) hG (HW.out.low HL1.out hG) HF.out (HT.out.wrote HL1.out)).mono ?_; rintro e w2 ⟨rfl, g2, hU2, hW2⟩; rw [jl] at hU2; have HU2 := hid hU2; have HW2 := hid (HW1.out.trans hW2); clear hU2 hW2; go_wp2_with fail; refine (jW b g2 _ 5 [125] w2 HU2.out (jq _)).mono ?_; rintro e w3 ⟨rfl, g3, hU3, hW3⟩; rw [jl] at hU3; have HE := hid (show Wd b g w l (jP 123 :: (zh n cs ++ [jP 125])) (.returned (.tuple #[])) w3 from ⟨rfl, g3, by simpa [jP, List.append_assoc] using hU3, HW2.out.trans hW3⟩); clear hU3 hW3; go_wp2; go_end0; exact HE.out
def jeH (m : Nat) (c : Cmd) : List Tok :=
 match zj c.els with
 | some x => qZ vC :: jad m x
 | none => if c.els.length = 0 then [] else qZ jcp :: (jP 123 :: (zh m c.els ++ [jP 125]))
theorem jgf (m : Nat) (c : Cmd) (h : c.kind = 2) : jad (m + 1) c = vN m c.test ++ ((jP 123 :: (zh m c.thn ++ [jP 125])) ++ jeH m c) := by
 rw [jad, if_pos h, List.append_assoc]; unfold jeH zh cmdT; cases zj c.els with
 | some x => rfl
 | none => rfl
def vA : Nat → World → Value → Nat
 | 0, _, _ => 0
 | f + 1, w, .slice (some a) 1 _ => (match w.cell? ⟨a.block, a.off, none⟩ with
     | some (.int .i64 2) => (match w.cell? ⟨a.block, a.off + 11, none⟩ with | some v => 1 + vA f w v | none => 1)
     | _ => 0)
 | _ + 1, _, _ => 0
def vd : Nat → List Cmd → Nat
 | 0, _ => 0
 | f + 1, els => match zj els with | some x => 1 + vd f x.els | none => 0
theorem jfY {Q : Nat → Prop} {w : World} : ∀ (f m : Nat) (els : List Cmd) (v : Value), CmdsM Q m w v els → vA f w v = vd f els := by
 intro f
 induction f with
 | zero => intro m els v _; rfl
 | succ f ih =>
   intro m els v h; obtain ⟨a, c, rfl⟩ := h.slice; unfold vd; cases he : zj els with
   | some x =>
     obtain ⟨rfl, hk⟩ := qS he; obtain ⟨q, o, ax, cx, an, cn, ak, ck, at', ct, aa, ca, ae, ce, rfl, hq, e0, e1, e2, e3, e4, e5, e6, e7, e8, e9, e10, e11, hx⟩ := jae h (i := 0) (x := x) rfl; rw [Nat.zero_mul, Nat.add_zero] at e0 e11; obtain ⟨k, _, _, _, _, h4⟩ := qH hx; have := ih k x.els _ h4; simp only [vA, List.length_singleton, e0, e11, hk]; rw [this]
   | none =>
     by_cases h1 : els.length = 1
     · obtain ⟨x, rfl⟩ : ∃ x, els = [x] := List.length_eq_one_iff.1 h1; have hk : x.kind ≠ 2 := by
        intro hk
        simp [zj, hk] at he
       obtain ⟨q, o, ax, cx, an, cn, ak, ck, at', ct, aa, ca, ae, ce, rfl, hq, e0, _⟩ := jae h (i := 0) (x := x) rfl; rw [Nat.zero_mul, Nat.add_zero] at e0; simp only [vA, List.length_singleton, e0]; split
       · rename_i h; simp at h; exact absurd h hk
       · rfl
     · cases a with
       | none => rfl
       | some a =>
         unfold vA; split
         · rename_i hh; simp at hh
         · rename_i hh1 hh2 hh3; simp at hh3; omega
         · rfl
theorem jgE {Q : Nat → Prop} {w : World} : ∀ (m f : Nat) (x : Cmd) (cs : List Value), CmdM Q m w x cs → m ≤ f → vd (f + 1) x.els = vd f x.els := by
 intro m
 induction m with
 | zero => intro f x cs h _; exact h.elim
 | succ m ih =>
   intro f x cs h hf; cases f with
   | zero => omega
   | succ f =>
     obtain ⟨vx, vn, vk, vt, va, ve, h0, h1, h2, h3, h4⟩ := h; rw [vd, vd]; cases he : zj x.els with
     | none => rfl
     | some y =>
       obtain ⟨hl, _⟩ := qS he; obtain ⟨a, c, _, _, hr⟩ := h4; obtain ⟨b, o, cs', _, _, _, _, _, hy⟩ := hr 0 y (by rw [hl]; rfl); simp only; rw [ih f y cs' hy (by omega)]
theorem Wrote.far {b : Nat} {g g' : Option Nat} {w w' : World} (h : Wrote b g g' w w') {n : Nat} (hn : w.heap.size ≤ n) (o : Nat) (v : Value) : Wrote b g g' w (w'.setCell ⟨n, o, none⟩ v) :=
 ⟨h.os, h.tape, h.output, by have := h.size; simpa [World.setCell] using this, fun k hk hb hg => (Below.heap_setCell _ _ _ _ (by show k ≠ n; omega)).trans (h.block k hk hb hg), h.row⟩
theorem WrB.far {w : World} {b : Nat} {g : Option Nat} {l : List Tok} (h : WrB w b g l) {n : Nat} (hb : b ≠ n) (hg : g ≠ some n) (o : Nat) (v : Value) : WrB (w.setCell ⟨n, o, none⟩ v) b g l := by
 obtain ⟨a, c, h1, h2, h3⟩ := h; refine ⟨a, c, (Below.heap_setCell _ _ _ _ hb).trans h1, h2, h3.1, ?_⟩
 rcases h3.2 with q | ⟨k, cap, cur, e, hk, hg', r⟩
 · exact .inl q
 · refine .inr ⟨k, cap, cur, e, hk, ?_, r⟩; have hne : k ≠ n := by
    intro e'
    apply hg
    rw [← h2, e, e']; rfl
   exact (Below.heap_setCell _ _ _ _ hne).trans hg'
theorem jcD (n : Nat) (ih : ∀ m, m ≤ n → WrBr m) : WrBr (n + 1) := by
 intro c d b g l w ax an ak at' aa ae cx cn ck ct ca ce hR hl hG hw hF h2 hC; obtain ⟨_, hd6, _, hF2⟩ := vD hF; obtain ⟨hF3, hF4, hF5⟩ := hF2 h2; obtain ⟨m0, hm0, hX1, hX2, hX3, hX4⟩ := qH hC; obtain rfl : n = m0 := by omega
 have HRT := hid (jgf n c h2); have HIH := hid ih; have HR := hid hR; have HW := hid hw; have HX2 := hid hX2; have HX3 := hid hX3; have HC := hid hC; have HF := hid hF; have HF3 := hid hF3; have HF4 := hid hF4; have H2 := hid h2; have hbl := hR.lt; have hgf := hR.fresh; have hbne : w.heap.size ≠ b := by omega
 have hbne' : b ≠ w.heap.size := by omega
 obtain ⟨W0, hW0⟩ : ∃ W0, W0 = w.alloc (.cells #[.int .i64 c.kind, .slice ax c.texts.length cx, .int .i64 c.test.kind, .int .i64 c.test.mat, .int .i64 c.test.part, .slice an c.test.names.length cn, .slice ak c.test.keys.length ck, .bool c.test.over, .int .i64 c.test.limit, .slice at' c.test.tests.length ct, .slice aa c.thn.length ca, .slice ae c.els.length ce] 207) := ⟨_, rfl⟩; have hal : Below w.heap.size w W0 := by rw [hW0]; exact nb0 _ _
 have hH : W0.heap[w.heap.size]? = some (.cells #[.int .i64 c.kind, .slice ax c.texts.length cx, .int .i64 c.test.kind, .int .i64 c.test.mat, .int .i64 c.test.part, .slice an c.test.names.length cn, .slice ak c.test.keys.length ck, .bool c.test.over, .int .i64 c.test.limit, .slice at' c.test.tests.length ct, .slice aa c.thn.length ca, .slice ae c.els.length ce] 207) := by rw [hW0]; exact heap_alloc_new w _
 have hlt0 : w.heap.size < W0.heap.size := by rw [hW0]; simp
 have HH0 := hid hH; have HWE := hid hW0; have HAL := hid hal; clear hX1 hX2 hX3 hX4 hC hF hF2 hF3 hF4 hF5 h2 hm0 hal hH ih hw hR; go_enter Tryz.func202, Tryz.ntmps202; go_wp2_with fail; rw [← HWE.out]; refine (jeR n c.test 1 b g l W0 _ _ _ _ _ _ (HR.out.next HAL.out) hl hG (HW.out.next HAL.out) HF3.out (HX2.out.next HAL.out)).mono ?_; rintro e w1 ⟨rfl, g1, hU1, hW1⟩; have hH1 : w1.heap[w.heap.size]? = some (.cells #[.int .i64 c.kind, .slice ax c.texts.length cx, .int .i64 c.test.kind, .int .i64 c.test.mat, .int .i64 c.test.part, .slice an c.test.names.length cn, .slice ak c.test.keys.length ck, .bool c.test.over, .int .i64 c.test.limit, .slice at' c.test.tests.length ct, .slice aa c.thn.length ca, .slice ae c.els.length ce] 207) := (hW1.block _ hlt0 hbne (fun e => hgf e.symm)).trans HH0.out; have k10 : w1.cell? ⟨w.heap.size, 10, none⟩ = some (.slice aa c.thn.length ca) := by simp [World.cell?, hH1]
 have hs1 := hW1.stay (k := w.heap.size) hlt0 hgf; have HL1 := hid ((HR.out.next HAL.out).below hW1); have HB1 := hid ((HAL.out.mono (Nat.le_of_lt hbl)).trans HL1.out); have hlt1 : w.heap.size < w1.heap.size := Nat.lt_of_lt_of_le hlt0 hW1.size; have HU1 := hid hU1; have HW1 := hid ((Wrote.of HAL.out).trans hW1); have HWw1 := hid (HW.out.low HB1.out hG); have HH1 := hid hH1; clear hU1 hW1 hH1; go_wp2_with fail; refine (jck n (HIH.out n (Nat.le_refl _)) c.thn (d + 1) b g1 _ w1 _ _ HU1.out (jq _) hG HWw1.out HF4.out (HX3.out.wrote HB1.out)).mono ?_; rintro e w2 ⟨rfl, g2, hU2, hW2⟩; rw [jl] at hU2; have HU2 := hid hU2; have HH2 := hid (show w2.heap[w.heap.size]? = some (.cells #[.int .i64 c.kind, .slice ax c.texts.length cx, .int .i64 c.test.kind, .int .i64 c.test.mat, .int .i64 c.test.part, .slice an c.test.names.length cn, .slice ak c.test.keys.length ck, .bool c.test.over, .int .i64 c.test.limit, .slice at' c.test.tests.length ct, .slice aa c.thn.length ca, .slice ae c.els.length ce] 207) from (hW2.block _ hlt1 hbne (fun e => hs1 e.symm)).trans HH1.out); have hs2 := hW2.stay (k := w.heap.size) hlt1 hs1; have hlt2 : w.heap.size < w2.heap.size := Nat.lt_of_lt_of_le hlt1 hW2.size; have HB2 := hid (HB1.out.trans (HU1.out.below hW2)); have HW2 := hid (HW1.out.trans hW2); clear hU2 hW2 k10; go_wp2
 go_loopw [12] (fun _ wr => ∃ (m : Nat) (c' : Cmd) (ax an ak at' aa ae : Option Addr) (cx cn ck ct ca ce : Nat) (g' : Option Nat) (pre : List Tok), wr.heap[w.heap.size]? = some (.cells #[.int .i64 c'.kind, .slice ax c'.texts.length cx, .int .i64 c'.test.kind, .int .i64 c'.test.mat, .int .i64 c'.test.part, .slice an c'.test.names.length cn, .slice ak c'.test.keys.length ck, .bool c'.test.over, .int .i64 c'.test.limit, .slice at' c'.test.tests.length ct, .slice aa c'.thn.length ca, .slice ae c'.els.length ce] 207) ∧ CmdM (und b) (m + 1) wr c' [.int .i64 c'.kind, .slice ax c'.texts.length cx, .int .i64 c'.test.kind, .int .i64 c'.test.mat, .int .i64 c'.test.part, .slice an c'.test.names.length cn, .slice ak c'.test.keys.length ck, .bool c'.test.over, .int .i64 c'.test.limit, .slice at' c'.test.tests.length ct, .slice aa c'.thn.length ca, .slice ae c'.els.length ce] ∧ m ≤ n ∧ jn (m + 1) d c' = 0 ∧ c'.kind = 2 ∧
  WrB wr b g' ((l ++ pre).take 401) ∧ Hid (jad (n + 1) c = pre ++ jeH m c') ∧ Wrote b g g' w wr ∧ g' ≠ some w.heap.size ∧ w.heap.size < wr.heap.size)
  (fun _ wr => match wr.cell? ⟨w.heap.size, 11, none⟩ with | some v => vA (n + 1) wr v | none => 0)
 case atStart => exact ⟨n, c, ax, an, ak, at', aa, ae, cx, cn, ck, ct, ca, ce, g2, vN n c.test ++ (jP 123 :: (zh n c.thn ++ [jP 125])), HH2.out, HC.out.wrote HB2.out, Nat.le_refl _, HF.out, H2.out, HU2.out, by unfold Hid; rw [HRT.out, List.append_assoc], HW2.out, hs2, hlt2⟩
 case round =>
  obtain ⟨m, c', ax, an, ak, at', aa, ae, cx, cn, ck, ct, ca, ce, g', pre, hHr, hCr, hmn, hFr, h2r, hUr, hPr, hWr, hsr, hltr⟩ := hrel; obtain ⟨_, _, _, hF2⟩ := vD hFr; obtain ⟨_, _, hF5⟩ := hF2 h2r; obtain ⟨m0, hm0, _, _, _, hX4⟩ := qH hCr; obtain rfl : m = m0 := by omega
  have hlw := HR.out.below hWr; have HWr := hid hWr; have HUr := hid hUr; have HX4 := hid hX4; have HHr := hid hHr; have HL := hid hlw; have HWwr := hid (HW.out.low hlw hG); have r11 : wr.cell? ⟨w.heap.size, 11, none⟩ = some (.slice ae c'.els.length ce) := by simp [World.cell?, hHr]
  have HM := hid (show (match wr.cell? ⟨w.heap.size, 11, none⟩ with | some v => vA (n + 1) wr v | none => 0) = vd (n + 1) c'.els by rw [r11]; exact jfY (n + 1) m c'.els _ hX4); clear hF2 hHr hCr hFr h2r hUr hWr hX4 hm0 hlw; have HF5 := hid hF5; clear hF5; go_wp2_with fail; refine (jbZ m c'.els ae ce wr (RowM.imp HX4.out (fun _ _ => trivial) (Keeps.refl _ _) fun _ _ h => CmdM.imp (fun _ _ => trivial) (Keeps.refl _ _) _ _ _ h)).mono ?_; rintro e u ⟨rfl, hu⟩; have hu' := hu.symm; subst hu'; cases he : zj c'.els with
  | some x =>
    obtain ⟨hels, hkx⟩ := qS he; have hq1 : c'.els.length = 1 := by rw [hels]; rfl
    have hFx : jn m d x = 0 := by have := HF5.out; rw [he] at this; exact this
    have HTl := hid (show jeH m c' = qZ vC :: jad m x by unfold jeH; rw [he]); have HMx := hid (show vd (n + 1) c'.els = 1 + vd n x.els by rw [vd, he]); obtain ⟨q, o, ax2, cx2, an2, cn2, ak2, ck2, at2, ct2, aa2, ca2, ae2, ce2, rfl, hq, e0, e1, e2, e3, e4, e5, e6, e7, e8, e9, e10, e11, hTx⟩ := jae HX4.out (i := 0) (x := x) (by rw [hels]; rfl); rw [Nat.zero_mul, Nat.add_zero] at e0 e1 e2 e3 e4 e5 e6 e7 e8 e9 e10 e11; obtain ⟨m', hm', _, hY2, hY3, hY4⟩ := qH hTx; subst hm'; obtain ⟨_, _, _, hFx2⟩ := vD hFx; obtain ⟨hG1, hG2, _⟩ := hFx2 hkx; have HRx := hid (jgf m' x hkx); have HTx := hid hTx; have HY2 := hid hY2; have HY3 := hid hY3; have HFx := hid hFx; have HG1 := hid hG1; have HG2 := hid hG2; have HKX := hid hkx; have p0 : wr.cell? ⟨w.heap.size, 0, none⟩ = some (.int .i64 c'.kind) := by simp [World.cell?, HHr.out]
    have p1 : wr.cell? ⟨w.heap.size, 1, none⟩ = some (.slice ax c'.texts.length cx) := by simp [World.cell?, HHr.out]
    have p2 : wr.cell? ⟨w.heap.size, 2, none⟩ = some (.int .i64 c'.test.kind) := by simp [World.cell?, HHr.out]
    have p3 : wr.cell? ⟨w.heap.size, 3, none⟩ = some (.int .i64 c'.test.mat) := by simp [World.cell?, HHr.out]
    have p4 : wr.cell? ⟨w.heap.size, 4, none⟩ = some (.int .i64 c'.test.part) := by simp [World.cell?, HHr.out]
    have p5 : wr.cell? ⟨w.heap.size, 5, none⟩ = some (.slice an c'.test.names.length cn) := by simp [World.cell?, HHr.out]
    have p6 : wr.cell? ⟨w.heap.size, 6, none⟩ = some (.slice ak c'.test.keys.length ck) := by simp [World.cell?, HHr.out]
    have p7 : wr.cell? ⟨w.heap.size, 7, none⟩ = some (.bool c'.test.over) := by simp [World.cell?, HHr.out]
    have p8 : wr.cell? ⟨w.heap.size, 8, none⟩ = some (.int .i64 c'.test.limit) := by simp [World.cell?, HHr.out]
    have p9 : wr.cell? ⟨w.heap.size, 9, none⟩ = some (.slice at' c'.test.tests.length ct) := by simp [World.cell?, HHr.out]
    have p10 : wr.cell? ⟨w.heap.size, 10, none⟩ = some (.slice aa c'.thn.length ca) := by simp [World.cell?, HHr.out]
    have p11 : wr.cell? ⟨w.heap.size, 11, none⟩ = some (.slice (some ⟨q, o, none⟩) c'.els.length ce) := by simp [World.cell?, HHr.out]
    have z0 : wr.frozen? ⟨w.heap.size, 0, none⟩ = false := by simp [World.frozen?, HHr.out]
    have z1 : wr.frozen? ⟨w.heap.size, 1, none⟩ = false := by simp [World.frozen?, HHr.out]
    have z2 : wr.frozen? ⟨w.heap.size, 2, none⟩ = false := by simp [World.frozen?, HHr.out]
    have z3 : wr.frozen? ⟨w.heap.size, 3, none⟩ = false := by simp [World.frozen?, HHr.out]
    have z4 : wr.frozen? ⟨w.heap.size, 4, none⟩ = false := by simp [World.frozen?, HHr.out]
    have z5 : wr.frozen? ⟨w.heap.size, 5, none⟩ = false := by simp [World.frozen?, HHr.out]
    have z6 : wr.frozen? ⟨w.heap.size, 6, none⟩ = false := by simp [World.frozen?, HHr.out]
    have z7 : wr.frozen? ⟨w.heap.size, 7, none⟩ = false := by simp [World.frozen?, HHr.out]
    have z8 : wr.frozen? ⟨w.heap.size, 8, none⟩ = false := by simp [World.frozen?, HHr.out]
    have z9 : wr.frozen? ⟨w.heap.size, 9, none⟩ = false := by simp [World.frozen?, HHr.out]
    have z10 : wr.frozen? ⟨w.heap.size, 10, none⟩ = false := by simp [World.frozen?, HHr.out]
    have z11 : wr.frozen? ⟨w.heap.size, 11, none⟩ = false := by simp [World.frozen?, HHr.out]
    obtain ⟨W1, hW1⟩ : ∃ W1, W1 = ((((((((((((wr.setCell ⟨w.heap.size, 0, none⟩ (.int .i64 x.kind)).setCell ⟨w.heap.size, 1, none⟩ (.slice ax2 x.texts.length cx2)).setCell ⟨w.heap.size, 2, none⟩ (.int .i64 x.test.kind)).setCell ⟨w.heap.size, 3, none⟩ (.int .i64 x.test.mat)).setCell ⟨w.heap.size, 4, none⟩ (.int .i64 x.test.part)).setCell ⟨w.heap.size, 5, none⟩ (.slice an2 x.test.names.length cn2)).setCell ⟨w.heap.size, 6, none⟩ (.slice ak2 x.test.keys.length ck2)).setCell ⟨w.heap.size, 7, none⟩ (.bool x.test.over)).setCell ⟨w.heap.size, 8, none⟩ (.int .i64 x.test.limit)).setCell ⟨w.heap.size, 9, none⟩ (.slice at2 x.test.tests.length ct2)).setCell ⟨w.heap.size, 10, none⟩ (.slice aa2 x.thn.length ca2)).setCell ⟨w.heap.size, 11, none⟩ (.slice ae2 x.els.length ce2)) := ⟨_, rfl⟩; have hH1 : W1.heap[w.heap.size]? = some (.cells #[.int .i64 x.kind, .slice ax2 x.texts.length cx2, .int .i64 x.test.kind, .int .i64 x.test.mat, .int .i64 x.test.part, .slice an2 x.test.names.length cn2, .slice ak2 x.test.keys.length ck2, .bool x.test.over, .int .i64 x.test.limit, .slice at2 x.test.tests.length ct2, .slice aa2 x.thn.length ca2, .slice ae2 x.els.length ce2] 207) := by
        have a0 := ji (i := 0) (.int .i64 x.kind) HHr.out; have a1 := ji (i := 1) (.slice ax2 x.texts.length cx2) a0; have a2 := ji (i := 2) (.int .i64 x.test.kind) a1; have a3 := ji (i := 3) (.int .i64 x.test.mat) a2; have a4 := ji (i := 4) (.int .i64 x.test.part) a3; have a5 := ji (i := 5) (.slice an2 x.test.names.length cn2) a4; have a6 := ji (i := 6) (.slice ak2 x.test.keys.length ck2) a5; have a7 := ji (i := 7) (.bool x.test.over) a6; have a8 := ji (i := 8) (.int .i64 x.test.limit) a7; have a9 := ji (i := 9) (.slice at2 x.test.tests.length ct2) a8; have a10 := ji (i := 10) (.slice aa2 x.thn.length ca2) a9; have a11 := ji (i := 11) (.slice ae2 x.els.length ce2) a10; rw [hW1, a11]
        simp
    have HU1' := hid (show WrB W1 b g' ((l ++ pre).take 401) by rw [hW1]; exact ((((((((((((HUr.out.far hbne' hsr 0 (.int .i64 x.kind)).far hbne' hsr 1 (.slice ax2 x.texts.length cx2)).far hbne' hsr 2 (.int .i64 x.test.kind)).far hbne' hsr 3 (.int .i64 x.test.mat)).far hbne' hsr 4 (.int .i64 x.test.part)).far hbne' hsr 5 (.slice an2 x.test.names.length cn2)).far hbne' hsr 6 (.slice ak2 x.test.keys.length ck2)).far hbne' hsr 7 (.bool x.test.over)).far hbne' hsr 8 (.int .i64 x.test.limit)).far hbne' hsr 9 (.slice at2 x.test.tests.length ct2)).far hbne' hsr 10 (.slice aa2 x.thn.length ca2)).far hbne' hsr 11 (.slice ae2 x.els.length ce2))); have HW1' := hid (show Wrote b g g' w W1 by rw [hW1]; exact ((((((((((((HWr.out.far (Nat.le_refl _) 0 (.int .i64 x.kind)).far (Nat.le_refl _) 1 (.slice ax2 x.texts.length cx2)).far (Nat.le_refl _) 2 (.int .i64 x.test.kind)).far (Nat.le_refl _) 3 (.int .i64 x.test.mat)).far (Nat.le_refl _) 4 (.int .i64 x.test.part)).far (Nat.le_refl _) 5 (.slice an2 x.test.names.length cn2)).far (Nat.le_refl _) 6 (.slice ak2 x.test.keys.length ck2)).far (Nat.le_refl _) 7 (.bool x.test.over)).far (Nat.le_refl _) 8 (.int .i64 x.test.limit)).far (Nat.le_refl _) 9 (.slice at2 x.test.tests.length ct2)).far (Nat.le_refl _) 10 (.slice aa2 x.thn.length ca2)).far (Nat.le_refl _) 11 (.slice ae2 x.els.length ce2))); have HL1' := hid (show Below b wr W1 by rw [hW1]; exact ((((((((((((((((((((((((Below.refl b wr).setCell (show b ≤ w.heap.size by omega) (.int .i64 x.kind))).setCell (show b ≤ w.heap.size by omega) (.slice ax2 x.texts.length cx2))).setCell (show b ≤ w.heap.size by omega) (.int .i64 x.test.kind))).setCell (show b ≤ w.heap.size by omega) (.int .i64 x.test.mat))).setCell (show b ≤ w.heap.size by omega) (.int .i64 x.test.part))).setCell (show b ≤ w.heap.size by omega) (.slice an2 x.test.names.length cn2))).setCell (show b ≤ w.heap.size by omega) (.slice ak2 x.test.keys.length ck2))).setCell (show b ≤ w.heap.size by omega) (.bool x.test.over))).setCell (show b ≤ w.heap.size by omega) (.int .i64 x.test.limit))).setCell (show b ≤ w.heap.size by omega) (.slice at2 x.test.tests.length ct2))).setCell (show b ≤ w.heap.size by omega) (.slice aa2 x.thn.length ca2))).setCell (show b ≤ w.heap.size by omega) (.slice ae2 x.els.length ce2))); have hlt1' : w.heap.size < W1.heap.size := by rw [hW1]; simpa [World.setCell] using hltr
    have HH1' := hid hH1; have HWE1 := hid hW1; clear hW1 hH1 he hels hkx hFx hTx hY2 hY3 hY4 hFx2 hG1 hG2; rw [hq1] at r11 p11; rw [hq1]; go_wp2_with fail; rw [← HWE1.out]; refine (jW b g' _ 1 vC W1 HU1'.out (jq _)).mono ?_; rintro e w3 ⟨rfl, g3, hU3, hW3⟩; rw [jl] at hU3; have hH3 : w3.heap[w.heap.size]? = some (.cells #[.int .i64 x.kind, .slice ax2 x.texts.length cx2, .int .i64 x.test.kind, .int .i64 x.test.mat, .int .i64 x.test.part, .slice an2 x.test.names.length cn2, .slice ak2 x.test.keys.length ck2, .bool x.test.over, .int .i64 x.test.limit, .slice at2 x.test.tests.length ct2, .slice aa2 x.thn.length ca2, .slice ae2 x.els.length ce2] 207) := (hW3.block _ hlt1' hbne (fun e => hsr e.symm)).trans HH1'.out; have hs3 := hW3.stay (k := w.heap.size) hlt1' hsr; have hlt3 : w.heap.size < w3.heap.size := Nat.lt_of_lt_of_le hlt1' hW3.size; have HL3 := hid (HL1'.out.trans (HU1'.out.below hW3)); have HU3 := hid hU3; have HW3 := hid (HW1'.out.trans hW3); obtain ⟨t0, t1, t2, t3, t4, t5, t6, t7, t8, t9, t10, t11⟩ := bx12 hH3; have HH3 := hid hH3; clear hU3 hW3 hH3 r11 p0 p1 p2 p3 p4 p5 p6 p7 p8 p9 p10 p11 z0 z1 z2 z3 z4 z5 z6 z7 z8 z9 z10 z11 e0 e1 e2 e3 e4 e5 e6 e7 e8 e9 e10 e11; go_wp2_with fail; refine (jeR m' x.test 1 b g3 _ w3 _ _ _ _ _ _ HU3.out (jq _) hG (HWwr.out.low HL3.out hG) HG1.out (HY2.out.wrote HL3.out)).mono ?_; rintro e w4 ⟨rfl, g4, hU4, hW4⟩; rw [jl] at hU4; have hH4 : w4.heap[w.heap.size]? = some (.cells #[.int .i64 x.kind, .slice ax2 x.texts.length cx2, .int .i64 x.test.kind, .int .i64 x.test.mat, .int .i64 x.test.part, .slice an2 x.test.names.length cn2, .slice ak2 x.test.keys.length ck2, .bool x.test.over, .int .i64 x.test.limit, .slice at2 x.test.tests.length ct2, .slice aa2 x.thn.length ca2, .slice ae2 x.els.length ce2] 207) := (hW4.block _ hlt3 hbne (fun e => hs3 e.symm)).trans HH3.out; have hs4 := hW4.stay (k := w.heap.size) hlt3 hs3; have hlt4 : w.heap.size < w4.heap.size := Nat.lt_of_lt_of_le hlt3 hW4.size; have HL4 := hid (HL3.out.trans (HU3.out.below hW4)); have HU4 := hid hU4; have HW4 := hid (HW3.out.trans hW4); have s10 : w4.cell? ⟨w.heap.size, 10, none⟩ = some (.slice aa2 x.thn.length ca2) := by simp [World.cell?, hH4]
    have HH4 := hid hH4; clear hU4 hW4 hH4 t0 t1 t2 t3 t4 t5 t6 t7 t8 t9 t10 t11; go_wp2_with fail; refine (jck m' (HIH.out m' (by omega)) x.thn (d + 1) b g4 _ w4 _ _ HU4.out (jq _) hG (HWwr.out.low HL4.out hG) HG2.out (HY3.out.wrote HL4.out)).mono ?_; rintro e w5 ⟨rfl, g5, hU5, hW5⟩; rw [jl] at hU5; have hH5 : w5.heap[w.heap.size]? = some (.cells #[.int .i64 x.kind, .slice ax2 x.texts.length cx2, .int .i64 x.test.kind, .int .i64 x.test.mat, .int .i64 x.test.part, .slice an2 x.test.names.length cn2, .slice ak2 x.test.keys.length ck2, .bool x.test.over, .int .i64 x.test.limit, .slice at2 x.test.tests.length ct2, .slice aa2 x.thn.length ca2, .slice ae2 x.els.length ce2] 207) := (hW5.block _ hlt4 hbne (fun e => hs4 e.symm)).trans HH4.out; have hs5 := hW5.stay (k := w.heap.size) hlt4 hs4; have hlt5 : w.heap.size < w5.heap.size := Nat.lt_of_lt_of_le hlt4 hW5.size; have HL5 := hid (HL4.out.trans (HU4.out.below hW5)); have HT5 := hid (HTx.out.wrote HL5.out); have s11 : w5.cell? ⟨w.heap.size, 11, none⟩ = some (.slice ae2 x.els.length ce2) := by simp [World.cell?, hH5]
    have HM5 := hid (show (match w5.cell? ⟨w.heap.size, 11, none⟩ with | some v => vA (n + 1) w5 v | none => 0) < (match wr.cell? ⟨w.heap.size, 11, none⟩ with | some v => vA (n + 1) wr v | none => 0) by
        rw [HM.out, s11, HMx.out]; obtain ⟨mm, hmm, _, _, _, h4⟩ := qH HT5.out; have e1 : vA (n + 1) w5 (.slice ae2 x.els.length ce2) = vd (n + 1) x.els := jfY (n + 1) mm x.els _ h4; have e2 := jgE (m' + 1) n x _ HT5.out (by omega)
        show vA (n + 1) w5 (.slice ae2 x.els.length ce2) < _
        rw [e1, e2]; omega)
    have HP5 := hid (show jad (n + 1) c = (((pre ++ [qZ vC]) ++ vN m' x.test) ++ (jP 123 :: (zh m' x.thn ++ [jP 125]))) ++ jeH m' x by
        rw [hPr.out, HTl.out, HRx.out]
        simp [List.append_assoc])
    have HU5 := hid (show WrB w5 b g5 ((l ++ (((pre ++ [qZ vC]) ++ vN m' x.test) ++ (jP 123 :: (zh m' x.thn ++ [jP 125])))).take 401) by
        simpa [qZ, List.append_assoc] using hU5)
    have HH5 := hid hH5; have HW5 := hid (HW4.out.trans hW5); clear hU5 hW5 hH5 s10 s11; go_wp2; exact ⟨⟨m', x, _, _, _, _, _, _, _, _, _, _, _, _, g5, _, HH5.out, HT5.out, by omega, HFx.out, HKX.out, HU5.out, HP5, HW5.out, hs5, hlt5⟩, HM5.out⟩
  | none =>
    have hF6 : jh (jn m (d + 1)) c'.els = 0 := by have := HF5.out; rw [he] at this; exact this
    have HF6 := hid hF6; have HTl := hid (show jeH m c' = if c'.els.length = 0 then [] else qZ jcp :: (jP 123 :: (zh m c'.els ++ [jP 125])) by unfold jeH; rw [he]); clear he hF6
    by_cases h0 : 0 < c'.els.length
    · have h0' : (0 : Int) < (c'.els.length : Int) := by omega
      go_wp2_with fail; refine (jW b g' _ 1 jcp wr HUr.out (jq _)).mono ?_; rintro e w3 ⟨rfl, g3, hU3, hW3⟩; rw [jl] at hU3; have hH3 : w3.heap[w.heap.size]? = some (.cells #[.int .i64 c'.kind, .slice ax c'.texts.length cx, .int .i64 c'.test.kind, .int .i64 c'.test.mat, .int .i64 c'.test.part, .slice an c'.test.names.length cn, .slice ak c'.test.keys.length ck, .bool c'.test.over, .int .i64 c'.test.limit, .slice at' c'.test.tests.length ct, .slice aa c'.thn.length ca, .slice ae c'.els.length ce] 207) := (hW3.block _ hltr hbne (fun e => hsr e.symm)).trans HHr.out; have r11' : w3.cell? ⟨w.heap.size, 11, none⟩ = some (.slice ae c'.els.length ce) := by simp [World.cell?, hH3]
      have HU3 := hid hU3; have HL3 := hid (HUr.out.below hW3); have HW3 := hid (HWr.out.trans hW3); clear hU3 hW3 r11 hH3; go_wp2_with fail; refine (jck m (HIH.out m hmn) c'.els (d + 1) b g3 _ w3 _ _ HU3.out (jq _) hG (HWwr.out.low HL3.out hG) HF6.out (HX4.out.wrote HL3.out)).mono ?_; rintro e w4 ⟨rfl, g4, hU4, hW4⟩; rw [jl] at hU4; have HE := hid (show Wd b g w l (jad (n + 1) c) (.returned (.tuple #[])) w4 from ⟨rfl, g4, by rw [hPr.out, HTl.out, if_neg (by omega)]; simpa [qZ, List.append_assoc] using hU4, HW3.out.trans hW4⟩); clear hU4 hW4; go_wp2; go_end0; exact HE.out
    · have h0' : ¬ (0 : Int) < (c'.els.length : Int) := by omega
      have HE := hid (show Wd b g w l (jad (n + 1) c) (.returned (.tuple #[])) wr from ⟨rfl, g', by rw [hPr.out, HTl.out, if_pos (by omega), List.append_nil]; exact HUr.out, HWr.out⟩); go_wp2; go_end0; exact HE.out
theorem jdS (n : Nat) : WrBr n := by
 induction n using Nat.strongRecOn with
 | ind n ih =>
   cases n with
   | zero => intro c d b g l w ax an ak at' aa ae cx cn ck ct ca ce _ _ _ _ _ _ h; exact h.elim
   | succ n => exact jcD n fun m hm => ih m (by omega)
theorem RowM.und {A : Type} {Q : Nat → Prop} {k : Nat} {P P' : A → List Value → Prop} {w : World} {v : Value} {l : List A} (h : RowM Q k P w v l) (hp : ∀ x cs, P x cs → P' x cs) : RowM (und w.heap.size) k P' w v l := by
 obtain ⟨a, c, hv, hm, hx⟩ := h; refine ⟨a, c, hv, hm, fun i x hi => ?_⟩; obtain ⟨b, o, cs, ha, hb, _, hl, hc, hP⟩ := hx i x hi; exact ⟨b, o, cs, ha, hb, hb, hl, hc, hp x cs hP⟩
theorem TstM.und {Q : Nat → Prop} {w : World} : ∀ (n : Nat) (t : Tst) (cs : List Value), TstM Q n w t cs → TstM (und w.heap.size) n w t cs := by
 intro n
 induction n with
 | zero => intro t cs h; exact h
 | succ n ih =>
   intro t cs h; obtain ⟨vn, vk, vt, h0, h1, h2, h3⟩ := h; exact ⟨vn, vk, vt, h0, RowM.und h1 fun _ _ h => h, RowM.und h2 fun _ _ h => h, RowM.und h3 ih⟩
theorem CmdM.und {Q : Nat → Prop} {w : World} : ∀ (n : Nat) (t : Cmd) (cs : List Value), CmdM Q n w t cs → CmdM (und w.heap.size) n w t cs := by
 intro n
 induction n with
 | zero => intro t cs h; exact h
 | succ n ih =>
   intro t cs h; obtain ⟨vx, vn, vk, vt, va, ve, h0, h1, h2, h3, h4⟩ := h; exact ⟨vx, vn, vk, vt, va, ve, h0, RowM.und h1 fun _ _ h => h, TstM.und _ _ _ h2, RowM.und h3 ih, RowM.und h4 ih⟩
theorem CmdsM.und {Q : Nat → Prop} {n : Nat} {w : World} {v : Value} {l : List Cmd} (h : CmdsM Q n w v l) : CmdsM (und w.heap.size) n w v l := RowM.und h fun _ _ h => CmdM.und _ _ _ h
theorem CmdsM.any {Q : Nat → Prop} {n : Nat} {w : World} {v : Value} {l : List Cmd} (h : CmdsM Q n w v l) : CmdsM anyB n w v l := RowM.imp h (fun _ _ => trivial) (Keeps.refl _ _) fun _ _ h => CmdM.imp (fun _ _ => trivial) (Keeps.refl _ _) _ _ _ h
theorem CmdsM.imp' {Q : Nat → Prop} {n : Nat} {w w' : World} {v : Value} {l : List Cmd} (h : CmdsM Q n w v l) (hb : Below w.heap.size w w') : CmdsM Q n w' v l := h.next hb
theorem jeN (n : Nat) (l : List Cmd) (a : Option Addr) (k : Nat) (w : World) (hw : WordsAt w) (hF : jN n 0 l = 0) (h : CmdsM anyB n w (.slice a l.length k) l) :
 Calls Tryz.prog 130 #[.slice a l.length k] w fun e w' => ∃ a' c', e = .returned (.slice a' ((zh n l).take 401).length c') ∧ ToksAt w' a' ((zh n l).take 401) ∧ Below w.heap.size w w' := by
 have hG := hw.pos; obtain ⟨W0, hW0⟩ : ∃ W0, W0 = w.alloc (.cells #[.slice none 0 0] 237) := ⟨_, rfl⟩; have hal : Below w.heap.size w W0 := by rw [hW0]; exact nb0 _ _
 have HU0 := hid (show WrB W0 w.heap.size none [] by rw [hW0]; exact ⟨none, 0, heap_alloc_new w _, rfl, World.ownsRow_nil _ _ _ _⟩); have HWE := hid hW0; have HAL := hid hal; have HT := hid (CmdsM.imp' h.und hal); have HW := hid (hw.next hal); have HF := hid hF; clear hW0 hal h hw hF; go_enter Tryz.func130, Tryz.ntmps130; go_wp2_with fail; rw [← HWE.out]; refine (jbi n (jdS n) l 0 w.heap.size none [] W0 a k HU0.out (by simp) hG HW.out HF.out HT.out).mono ?_; rintro e w1 ⟨rfl, g1, hU1, hW1⟩; rw [List.nil_append] at hU1; clear HF HT; obtain ⟨T, hT⟩ : ∃ T, T = (zh n l).take 401 := ⟨_, rfl⟩; rw [← hT] at hU1; have HTT := hid hT; clear hT; have hB1 := HAL.out.trans (HU0.out.below hW1); obtain ⟨a', c', h1, h2, h3⟩ := hU1; have k0 : w1.cell? ⟨w.heap.size, 0, none⟩ = some (.slice a' T.length c') := by simp [World.cell?, h1]
 have HE := hid (show ToksAt w1 a' T from OwnT.at h3); have HB1 := hid hB1; clear h1 h2 h3 hW1 hB1; go_wp2; go_ret; rw [← HTT.out]; exact ⟨a', c', rfl, HE.out, HB1.out⟩
theorem jc5 (n : Nat) (l : List Cmd) (a : Option Addr) (k : Nat) (w : World) (hw : WordsAt w) (h : CmdsM anyB n w (.slice a l.length k) l) :
 Calls Tryz.prog 97 #[.slice a l.length k] w fun e w' => e = .returned (.int .i64 (zQ n l)) ∧ Below w.heap.size w w' := by
 have HT := hid h; have HW := hid hw; clear h hw; go_enter Tryz.func97, Tryz.ntmps97; go_wp2_with fail; refine (zW n (jbn n) l 0 w a k (by omega) HW.out HT.out).mono ?_; rintro e w1 ⟨rfl, hb1⟩; have HB1 := hid hb1; obtain ⟨x, hx⟩ : ∃ x, x = jN n 0 l := ⟨_, rfl⟩; rw [← hx]; have HX := hid hx; clear hx hb1
 by_cases hx : x = 0
 · have HF := hid (show jN n 0 l = 0 by rw [← HX.out, hx]); subst hx; go_wp2_with fail; refine (jeN n l a k w1 (HW.out.next HB1.out) HF.out (HT.out.next HB1.out)).mono ?_; rintro e w2 ⟨a', c', rfl, _, hb2⟩; have HB2 := hid (HB1.out.trans (hb2.mono HB1.out.size)); clear hb2
   by_cases hlen : 400 < (zh n l).length
   · have hl2 : ((zh n l).take 401).length = 401 := by rw [List.length_take]; omega
     rw [hl2]; have HR := hid (show zQ n l = 5 by unfold zQ; rw [if_neg (by rw [HF.out]; simp), if_pos hlen]); go_wp2; go_ret; exact ⟨jc HR.out.symm, HB2.out⟩
   · have hl2 : ((((zh n l).take 401).length : Nat) : Int) ≤ 400 := by rw [List.length_take]; omega
     have hl3 : ¬ (400 : Int) < ((((zh n l).take 401).length : Nat) : Int) := by omega
     have HR := hid (show zQ n l = 0 by unfold zQ; rw [if_neg (by rw [HF.out]; simp), if_neg hlen]); generalize ((zh n l).take 401).length = y at *; go_wp2; go_ret; exact ⟨jc HR.out.symm, HB2.out⟩
 · have HR := hid (show zQ n l = x by unfold zQ; rw [← HX.out, if_pos hx]); go_wp2; go_ret; exact ⟨jc HR.out.symm, HB1.out⟩
end Go.Proofs.YtmgdnhjemhhleaaGreatDoor
