/-
  The writer of tokens in memory: one block that holds a row of its own; what script's writer.add and writer.put do: the walks.
-/
import Derived.Test.YtdmiidbncpgfpabDoorScrCmds
import Derived.Test.YtdmiidbncpgfpabDoorTokRows
import Derived.Deep.AppendLies
import Derived.Deep.RegionLaw
namespace Go.Proofs.YtdmiidbncpgfpabDoor
open Go.RowKit Go.Proofs

theorem old_block (w : World) (o : Obj) {k : Nat} (h : k < w.heap.size) : (w.alloc o).heap[k]? = w.heap[k]? := by
  show (w.heap.push o)[k]? = _
  rw [Array.getElem?_push_lt h, Array.getElem?_eq_getElem h]
theorem own_far {w : World} {base b : Nat} {e : TypeId} {size g cap n : Nat} {xs : List Value} {v : Value} (h : w.ownsRow base e size (.slice (some ⟨g, 0, none⟩) n cap) n xs) (hg : b < g) : (w.setCell ⟨b, 0, none⟩ v).ownsRow base e size (.slice (some ⟨g, 0, none⟩) n cap) n xs := by
  refine ⟨h.1, ?_⟩
  rcases h.2 with ⟨h', _⟩ | ⟨g', cap', cur, h1, h2, hg', q⟩
  · cases h'
  · refine .inr ⟨g', cap', cur, h1, h2, ?_, q⟩
    simp only [Value.slice.injEq, Option.some.injEq, Addr.mk.injEq, and_true, true_and] at h1
    obtain ⟨rfl, rfl⟩ := h1
    exact (Below.heap_setCell _ _ _ _ (by show g ≠ b; omega)).trans hg'
/-- All but a block and a row is as it was; the row stays where it is, or moves to new memory. -/
structure Wrote (b : Nat) (g g' : Option Nat) (w w' : World) : Prop where
  os : w'.os = w.os
  tape : w'.tape = w.tape
  output : w'.output = w.output
  size : w.heap.size ≤ w'.heap.size
  block : ∀ k, k < w.heap.size → k ≠ b → some k ≠ g → w'.heap[k]? = w.heap[k]?
  row : ∀ k, g' = some k → g = some k ∨ w.heap.size ≤ k
theorem Wrote.refl (b : Nat) (g : Option Nat) (w : World) : Wrote b g g w w := ⟨rfl, rfl, rfl, Nat.le_refl _, fun _ _ _ _ => rfl, fun _ h => .inl h⟩
theorem Wrote.trans {b : Nat} {g g' g'' : Option Nat} {x y z : World} (h : Wrote b g g' x y) (k : Wrote b g' g'' y z) : Wrote b g g'' x z := by
  refine ⟨k.os.trans h.os, k.tape.trans h.tape, k.output.trans h.output, Nat.le_trans h.size k.size, fun i hi hb hg => ?_, fun i hi => ?_⟩
  · refine (k.block i (Nat.lt_of_lt_of_le hi h.size) hb fun e => ?_).trans (h.block i hi hb hg)
    rcases h.row i e.symm with q | q
    · exact hg q.symm
    · omega
  · rcases k.row i hi with q | q
    · exact h.row i q
    · exact .inr (Nat.le_trans h.size q)
theorem Wrote.of {b : Nat} {g : Option Nat} {w w' : World} (h : Below w.heap.size w w') : Wrote b g g w w' := ⟨h.os, h.tape, h.output, h.size, fun k hk _ _ => h.block k hk, fun _ h => .inl h⟩
theorem Wrote.below {b B : Nat} {g g' : Option Nat} {w w' : World} (h : Wrote b g g' w w') (hB : B ≤ b) (hw : B ≤ w.heap.size) (hg : ∀ k, g = some k → B ≤ k) : Below B w w' :=
  ⟨h.os, h.tape, h.output, h.size, fun k hk => h.block k (by omega) (by omega) (fun e => by have := hg k e.symm; omega)⟩
theorem Wrote.stay {b : Nat} {g g' : Option Nat} {w w' : World} (h : Wrote b g g' w w') {k : Nat} (hk : k < w.heap.size) (hn : g ≠ some k) : g' ≠ some k := by
  intro e
  rcases h.row k e with q | q
  · exact hn q
  · omega
/-- The writer's block holds these tokens, in a row of its own. -/
def WrB (w : World) (b : Nat) (g : Option Nat) (l : List Tok) : Prop :=
  ∃ a c, w.heap[b]? = some (.cells #[.slice a l.length c] 66) ∧ (Value.slice a l.length c).ownBlock = g ∧ OwnT w (b + 1) (.slice a l.length c) l
theorem WrB.lt {w : World} {b : Nat} {g : Option Nat} {l : List Tok} (h : WrB w b g l) : b < w.heap.size := by
  obtain ⟨a, c, h1, _⟩ := h
  exact (Array.getElem?_eq_some_iff.1 h1).1
theorem WrB.row {w : World} {b : Nat} {g : Option Nat} {l : List Tok} (h : WrB w b g l) : ∀ k, g = some k → b + 1 ≤ k ∧ k < w.heap.size := by
  obtain ⟨a, c, _, h2, h3⟩ := h
  intro k hk
  exact World.ownsRow.lt h3 k (h2.trans hk)
theorem WrB.fresh {w : World} {b : Nat} {g : Option Nat} {l : List Tok} (h : WrB w b g l) : g ≠ some w.heap.size := fun e => by have := h.row _ e; omega
theorem WrB.next {w w' : World} {b : Nat} {g : Option Nat} {l : List Tok} (h : WrB w b g l) (hb : Below w.heap.size w w') : WrB w' b g l := by
  obtain ⟨a, c, h1, h2, h3⟩ := h
  exact ⟨a, c, (hb.block b (Array.getElem?_eq_some_iff.1 h1).1).trans h1, h2, own_next h3 hb⟩
theorem WrB.below {w w' : World} {b : Nat} {g g' : Option Nat} {l : List Tok} (h : WrB w b g l) (hb : Wrote b g g' w w') : Below b w w' := hb.below (Nat.le_refl _) (Nat.le_of_lt h.lt) fun k hk => by have := h.row k hk; omega
/-- What a method of the writer does: so many tokens more, but never more than one too many. -/
def Wd (b : Nat) (g : Option Nat) (w : World) (l ts : List Tok) (e : Ending) (w' : World) : Prop :=
  e = .returned (.tuple #[]) ∧ ∃ g', WrB w' b g' ((l ++ ts).take 401) ∧ Wrote b g g' w w'
theorem take_join (l x y : List Tok) : ((l ++ x).take 401 ++ y).take 401 = (l ++ (x ++ y)).take 401 := by
  rw [← List.append_assoc]
  generalize l ++ x = z
  rw [List.take_append, List.take_take, List.length_take, Nat.min_self, List.take_append]
  congr 2
  omega
theorem wrote_grown {b g2 H : Nat} {w W0 w3 : World} {g : Option Nat} (hB0 : Below w.heap.size w W0) (o : Obj) (hg : (W0.drew.alloc o).grownBy w3 g) (hat : g = some g2 ∨ g2 = H) (hH : w.heap.size ≤ H) : Wrote b g (some g2) w w3 := by
  have hs : w.heap.size ≤ W0.heap.size := hB0.size
  have hz : (W0.drew.alloc o).heap.size = W0.heap.size + 1 := by simp
  refine ⟨hg.os.trans hB0.os, hg.tape.trans hB0.tape, hg.output.trans hB0.output, by have := hg.size; omega, fun k hk _ hn => ?_, fun k hk => ?_⟩
  · refine (hg.block k (by omega) hn).trans (Eq.trans ?_ (hB0.block k hk))
    exact old_block W0.drew o (show k < W0.heap.size by omega)
  · cases hk
    rcases hat with h | h
    · exact .inl h
    · exact .inr (by omega)
theorem Wrote.set {b : Nat} {g g' : Option Nat} {w w' : World} (h : Wrote b g g' w w') (o : Nat) (v : Value) : Wrote b g g' w (w'.setCell ⟨b, o, none⟩ v) :=
  ⟨h.os, h.tape, h.output, by have := h.size; simpa [World.setCell] using this, fun k hk hb hg => (Below.heap_setCell _ _ _ _ hb).trans (h.block k hk hb hg), h.row⟩
theorem take_all (l x y : List Tok) (h : x = y) : (l ++ x).take 401 = (l ++ y).take 401 := by rw [h]

set_option maxHeartbeats 8000000 in
set_option maxRecDepth 100000 in
theorem add_any (b : Nat) (g : Option Nat) (l : List Tok) (t : Tok) (w : World) (hR : WrB w b g l) (hl : l.length ≤ 401) :
    Calls Tryd.prog 67 #[.pointer (some ⟨b, 0, none⟩), .agg #[.int .i64 t.kind, .string (S t.text), .int .i64 t.num]] w (Wd b g w l [t]) := by
  have hbl := hR.lt
  have HRr : Hid (WrB w b g l) := hR
  obtain ⟨a, c, h1, h2, h3⟩ := hR
  have hc0 : w.cell? ⟨b, 0, none⟩ = some (.slice a l.length c) := by simp [World.cell?, h1]
  have hf0 : w.frozen? ⟨b, 0, none⟩ = false := by simp [World.frozen?, h1]
  have hne : b ≠ w.heap.size := by omega
  have hne' : w.heap.size ≠ b := by omega
  by_cases hle : l.length ≤ 400
  · have hle' : (l.length : Int) ≤ 400 := by omega
    have HT : Hid ((l ++ [t]).take 401 = l ++ [t]) := List.take_of_length_le (by simp; omega)
    have H1 : Hid _ := h1
    have H2 : Hid _ := h2
    have hO : World.ownsRow w (b + 1) 48 3 (.slice a l.length c) l.length (cellsT l) := h3
    obtain ⟨i0, hi, hz0, hz1, hz2⟩ := info_parts infoTok
    clear h1 h2 h3
    obtain ⟨W0, hW0⟩ : ∃ W0, W0 = w.alloc (.cells #[.int .i64 t.kind, .string (S t.text), .int .i64 t.num] 48) := ⟨_, rfl⟩
    have hB0 : Below w.heap.size w W0 := by rw [hW0]; exact (Below.refl _ _).alloc (Nat.le_refl _) _
    have hz : W0.heap.size = w.heap.size + 1 := by rw [hW0]; simp
    have hH : W0.heap[w.heap.size]? = some (.cells #[.int .i64 t.kind, .string (S t.text), .int .i64 t.num] 48) := by rw [hW0]; exact heap_alloc_new w _
    have k0 : W0.cell? ⟨w.heap.size, 0, none⟩ = some (.int .i64 t.kind) := by simp [World.cell?, hH]
    have k1 : W0.cell? ⟨w.heap.size, 1, none⟩ = some (.string (S t.text)) := by simp [World.cell?, hH]
    have k2 : W0.cell? ⟨w.heap.size, 2, none⟩ = some (.int .i64 t.num) := by simp [World.cell?, hH]
    have m0 : W0.cell? ⟨b, 0, none⟩ = some (.slice a l.length c) := wcell_next hc0 hB0
    have n0 : W0.frozen? ⟨b, 0, none⟩ = false := (hB0.frozen (by simp; omega)).trans hf0
    have hO0 : World.ownsRow W0 (b + 1) 48 3 (.slice a l.length c) l.length (cellsT l) := own_next hO hB0
    have HWE : Hid _ := hW0
    clear hW0 hH
    go_enter Tryd.func67, Tryd.ntmps67
    go_wp2
    rw [← HWE.out]
    go_region_law
      (refine step_append_lies _ (by rfl) _ _ _ (by rfl) (b + 1) 48 i0 _ 3 32 Tryd.underlying36 hi hz0 hz1 hz2 rfl (by omega) (.slice a l.length c) l.length (cellsT l) (by rfl) (by first | exact World.ownsRow.alloc (show World.ownsRow W0.drew _ _ _ _ _ _ from hO0) _ | exact (World.ownsRow.alloc hO0 _).drew)
         ⟨w.heap.size + 1, 0, none⟩ 1 1 [.int .i64 t.kind, .string (S t.text), .int .i64 t.num] (by rfl) (by rfl) (by first | exact tri_at W0.drew _ hz _ _ _ _ | exact tri_at W0 _ hz _ _ _ _) (by simp [Value.oneCell']) (by omega) (by unfold maxLen; omega) (by omega) (by simp; omega) _ rfl ?_
       intro g2 cap w3 hown3 hgrow hat hlt3
       have HW3 : Hid (Wrote b (Value.slice a l.length c).ownBlock (some g2) w w3) := wrote_grown (W0 := W0) hB0 _ hgrow hat (by simp; omega)
       have hrow : b + 1 ≤ g2 := by
         rcases hat with h | h
         · exact (World.ownsRow.lt hO g2 h).1
         · simp at h; omega
       have z3 : w3.frozen? ⟨b, 0, none⟩ = false := (World.frozen?_of_block (w := W0.drew) ((hgrow.block b (by simp; omega) (fun e => by have := (World.ownsRow.lt hO b e.symm).1; omega)).trans (old_block W0.drew _ (show b < W0.heap.size by omega)))).trans n0
       have q3 : w3.cell? ⟨b, 0, none⟩ = some (.slice a l.length c) := (World.cell?_of_block (w := W0.drew) ((hgrow.block b (by simp; omega) (fun e => by have := (World.ownsRow.lt hO b e.symm).1; omega)).trans (old_block W0.drew _ (show b < W0.heap.size by omega)))).trans m0
       have H3b : Hid (w3.heap[b]? = some (.cells #[.slice a l.length c] 66)) := (hgrow.block b (by simp; omega) (fun e => by have := (World.ownsRow.lt hO b e.symm).1; omega)).trans ((old_block W0.drew _ (show b < W0.heap.size by omega)).trans ((hB0.block b hbl).trans H1.out))
       clear hgrow hat)
    all_goals
      have HO3 : Hid (OwnT w3 (b + 1) (.slice (some ⟨g2, 0, none⟩) (l ++ [t]).length cap) (l ++ [t])) := by
        unfold Hid OwnT
        rw [cellsT_snoc, List.length_append]
        exact hown3
      clear hown3
      go_wp2
      go_end0
      refine ⟨rfl, some g2, ?_, ?_⟩
      · rw [HT.out]
        refine ⟨some ⟨g2, 0, none⟩, cap, ?_, rfl, ?_⟩
        · have := setCell_mark (i := 0) (.slice (some ⟨g2, 0, none⟩) (l ++ [t]).length cap) H3b.out
          simpa using this
        · exact own_far HO3.out hrow
      · have := HW3.out.set 0 (.slice (some ⟨g2, 0, none⟩) (l.length + 1) cap)
        rw [H2.out] at this
        exact this
  · have hle' : ¬ (l.length : Int) ≤ 400 := by omega
    have HT : Hid ((l ++ [t]).take 401 = l) := by
      unfold Hid
      rw [List.take_append, List.take_of_length_le (by omega)]
      have e : 401 - l.length = 0 := by omega
      rw [e]; simp
    clear h1 h2 h3
    go_enter Tryd.func67, Tryd.ntmps67
    go_wp2
    go_end0
    have hal : Below w.heap.size w (w.alloc (.cells #[.int .i64 t.kind, .string (S t.text), .int .i64 t.num] 48)) := (Below.refl _ _).alloc (Nat.le_refl _) _
    exact ⟨rfl, g, by rw [HT.out]; exact HRr.out.next hal, Wrote.of hal⟩

set_option maxHeartbeats 4000000 in
theorem put_any (b : Nat) (g : Option Nat) (l : List Tok) (k : Int) (x : List UInt8) (w : World) (hR : WrB w b g l) (hl : l.length ≤ 401) :
    Calls Tryd.prog 50 #[.pointer (some ⟨b, 0, none⟩), .int .i64 k, .string (S x)] w (Wd b g w l [⟨k, x, 0⟩]) := by
  have HR : Hid (WrB w b g l) := hR
  clear hR
  go_enter Tryd.func50, Tryd.ntmps50
  go_wp2_with fail
  refine (add_any b g l ⟨k, x, 0⟩ w HR.out hl).mono ?_
  rintro e u ⟨rfl, hu⟩
  have HU : Hid _ := hu
  clear hu
  go_wp2
  go_end0
  exact ⟨rfl, HU.out⟩

theorem take_len (l : List Tok) : (l.take 401).length ≤ 401 := by rw [List.length_take]; omega
theorem S_lit (l : List UInt8) : (⟨l.toArray⟩ : ByteArray) = S l := rfl

set_option maxHeartbeats 4000000 in
theorem bound_any (b : Nat) (g : Option Nat) (l : List Tok) (o : Bool) (n : Int) (w : World) (hR : WrB w b g l) (hl : l.length ≤ 401) :
    Calls Tryd.prog 81 #[.pointer (some ⟨b, 0, none⟩), .bool o, .int .i64 n] w (Wd b g w l [tagT (if o then overW else underW), ⟨3, [], n⟩]) := by
  have HR : Hid (WrB w b g l) := hR
  clear hR
  cases o with
  | false =>
    go_enter Tryd.func81, Tryd.ntmps81
    go_wp2_with fail
    refine (put_any b g l 2 underW w HR.out hl).mono ?_
    rintro e u ⟨rfl, g2, hU, hW⟩
    have HU : Hid _ := hU
    have HW : Hid _ := hW
    clear hU hW
    go_wp2_with fail
    refine (add_any b g2 _ ⟨3, [], n⟩ u HU.out (take_len _)).mono ?_
    rintro e v ⟨rfl, g3, hU3, hW3⟩
    rw [take_join] at hU3
    have HU3 : Hid _ := hU3
    have HW3 : Hid _ := HW.out.trans hW3
    clear hU3 hW3
    go_wp2
    go_end0
    exact ⟨rfl, g3, HU3.out, HW3.out⟩
  | true =>
    go_enter Tryd.func81, Tryd.ntmps81
    go_wp2_with fail
    refine (put_any b g l 2 overW w HR.out hl).mono ?_
    rintro e u ⟨rfl, g2, hU, hW⟩
    have HU : Hid _ := hU
    have HW : Hid _ := hW
    clear hU hW
    go_wp2_with fail
    refine (add_any b g2 _ ⟨3, [], n⟩ u HU.out (take_len _)).mono ?_
    rintro e v ⟨rfl, g3, hU3, hW3⟩
    rw [take_join] at hU3
    have HU3 : Hid _ := hU3
    have HW3 : Hid _ := HW.out.trans hW3
    clear hU3 hW3
    go_wp2
    go_end0
    exact ⟨rfl, g3, HU3.out, HW3.out⟩

theorem txt_at {Q : Nat → Prop} {w : World} {a : Option Addr} {c : Nat} {l : List (List UInt8)} (h : TxtsM Q w (.slice a l.length c) l) {i : Nat} {x : List UInt8} (hx : l[i]? = some x) :
    ∃ b o, a = some ⟨b, o, none⟩ ∧ b < w.heap.size ∧ w.cell? ⟨b, o + i, none⟩ = some (.string (S x)) := by
  obtain ⟨a', c', hv, _, hr⟩ := h
  simp only [Value.slice.injEq, true_and] at hv
  obtain ⟨rfl, rfl⟩ := hv
  obtain ⟨b, o, cs, ha, hb, _, _, hc, hP⟩ := hr i x hx
  unfold TxtM at hP
  subst hP
  have := hc 0 _ rfl
  rw [Nat.mul_one, Nat.add_zero] at this
  exact ⟨b, o, ha, hb, this⟩
/-- What was there ahead of the writer is as it was. -/
abbrev und (b : Nat) : Nat → Prop := fun k => k < b
theorem TxtsM.wrote {w w' : World} {b : Nat} {v : Value} {l : List (List UInt8)} (h : TxtsM (und b) w v l) (hb : Below b w w') : TxtsM (und b) w' v l := TxtsM.imp h (fun _ h => h) (Keeps.of_below' hb fun _ h => h)
theorem TstM.wrote {w w' : World} {b n : Nat} {t : Tst} {cs : List Value} (h : TstM (und b) n w t cs) (hb : Below b w w') : TstM (und b) n w' t cs := TstM.imp (fun _ h => h) (Keeps.of_below' hb fun _ h => h) _ _ _ h
theorem CmdM.wrote {w w' : World} {b n : Nat} {t : Cmd} {cs : List Value} (h : CmdM (und b) n w t cs) (hb : Below b w w') : CmdM (und b) n w' t cs := CmdM.imp (fun _ h => h) (Keeps.of_below' hb fun _ h => h) _ _ _ h
theorem TstsM.wrote {w w' : World} {b n : Nat} {v : Value} {l : List Tst} (h : TstsM (und b) n w v l) (hb : Below b w w') : TstsM (und b) n w' v l := RowM.imp h (fun _ h => h) (Keeps.of_below' hb fun _ h => h) fun _ _ h => h.wrote hb
theorem CmdsM.wrote {w w' : World} {b n : Nat} {v : Value} {l : List Cmd} (h : CmdsM (und b) n w v l) (hb : Below b w w') : CmdsM (und b) n w' v l := RowM.imp h (fun _ h => h) (Keeps.of_below' hb fun _ h => h) fun _ _ h => h.wrote hb

def sepK {A : Type} (f : A → List Tok) (l : List A) (k : Nat) : List Tok := sepT f (l.take k)
theorem sepK_step {A : Type} (f : A → List Tok) (l : List A) (k : Nat) (x : A) (h : l[k]? = some x) : sepK f l (k + 1) = sepK f l k ++ ((if 0 < k then [markT 44] else []) ++ f x) := by
  unfold sepK
  have hk : k < l.length := (List.getElem?_eq_some_iff.1 h).1
  have hg : l[k] = x := (List.getElem?_eq_some_iff.1 h).2
  rw [List.take_succ_eq_append_getElem hk, hg]
  cases k with
  | zero => simp [sepT]
  | succ k =>
    cases l with
    | nil => simp at hk
    | cons y r => simp [sepT]
theorem sepK_all {A : Type} (f : A → List Tok) (l : List A) : sepK f l l.length = sepT f l := by unfold sepK; rw [List.take_length]

set_option maxHeartbeats 8000000 in
set_option maxRecDepth 100000 in
theorem wlist_any (b : Nat) (g : Option Nat) (l : List Tok) (ls : List (List UInt8)) (a : Option Addr) (c : Nat) (w : World) (hR : WrB w b g l) (hl : l.length ≤ 401) (hT : TxtsM (und b) w (.slice a ls.length c) ls) :
    Calls Tryd.prog 52 #[.pointer (some ⟨b, 0, none⟩), .slice a ls.length c] w (Wd b g w l (listT ls)) := by
  have HR : Hid (WrB w b g l) := hR
  have HT : Hid (TxtsM (und b) w (.slice a ls.length c) ls) := hT
  have hmx := hT.small
  unfold maxLen at hmx
  clear hR hT
  by_cases h1 : ls.length = 1
  · obtain ⟨x, rfl⟩ : ∃ x, ls = [x] := List.length_eq_one_iff.1 h1
    obtain ⟨q, o, rfl, hq, e0⟩ := txt_at HT.out (i := 0) (x := x) rfl
    rw [Nat.add_zero] at e0
    go_enter Tryd.func52, Tryd.ntmps52
    go_wp2_with fail
    refine (put_any b g l 4 x w HR.out hl).mono ?_
    rintro e u ⟨rfl, hu⟩
    have HU : Hid _ := hu
    clear hu
    go_wp2
    go_end0
    exact ⟨rfl, HU.out⟩
  · have h1' : ((ls.length : Int) == 1) = false := by rw [beq_eq_false_iff_ne]; omega
    have HLT : Hid (listT ls = markT 91 :: (sepT (fun x => [strT x]) ls ++ [markT 93])) := by
      unfold Hid
      match ls, h1 with
      | [], _ => rfl
      | [x], h => simp at h
      | x :: y :: r, _ => rfl
    clear h1
    go_enter Tryd.func52, Tryd.ntmps52
    go_wp2_with fail
    refine (put_any b g l 5 [91] w HR.out hl).mono ?_
    rintro e w1 ⟨rfl, g1, hU1, hW1⟩
    have HU1 : Hid (WrB w1 b g1 ((l ++ ([markT 91] ++ sepK (fun x => [strT x]) ls 0)).take 401)) := hU1
    have HW1 : Hid _ := hW1
    clear hU1 hW1
    go_wp2
    go_loopw [18] (fun v wr => ∃ (i : Nat) (g' : Option Nat), i ≤ ls.length ∧ v = .int .i64 i ∧ WrB wr b g' ((l ++ ([markT 91] ++ sepK (fun x => [strT x]) ls i)).take 401) ∧ Wrote b g g' w wr) (fun v _ => ls.length - (intOf v).toNat)
    case atStart => exact ⟨0, g1, Nat.zero_le _, rfl, HU1.out, HW1.out⟩
    case round =>
      obtain ⟨i, g', hi, rfl, hRr, hWr⟩ := hrel
      have HRr : Hid _ := hRr
      have HWr : Hid _ := hWr
      have hTr := HT.out.wrote (HR.out.below hWr)
      by_cases hlt : i < ls.length
      · have i1 : (i : Int) < (ls.length : Int) := by omega
        have i3 : (0 : Int) ≤ (i : Int) := by omega
        obtain ⟨x, hx⟩ : ∃ x, ls[i]? = some x := ⟨_, List.getElem?_eq_getElem hlt⟩
        obtain ⟨q, o, rfl, hq, e0⟩ := txt_at hTr hx
        have HS : Hid _ := sepK_step (fun x => [strT x]) ls i x hx
        clear hx hTr hRr hWr
        by_cases hpos : 0 < i
        · have i4 : (0 : Int) < (i : Int) := by omega
          go_wp2_with fail
          refine (put_any b g' _ 5 [44] wr HRr.out (take_len _)).mono ?_
          rintro e w2 ⟨rfl, g2, hU2, hW2⟩
          rw [take_join] at hU2
          have HU2 : Hid _ := hU2
          have HW2 : Hid _ := HWr.out.trans hW2
          clear hU2 hW2 e0
          go_wp2_with fail
          refine (put_any b g2 _ 4 x w2 HU2.out (take_len _)).mono ?_
          rintro e w3 ⟨rfl, g3, hU3, hW3⟩
          rw [take_join] at hU3
          have HU3 : Hid (WrB w3 b g3 ((l ++ ([markT 91] ++ sepK (fun x => [strT x]) ls (i + 1))).take 401)) := by
            unfold Hid
            rw [HS.out, if_pos hpos]
            simpa [markT, strT] using hU3
          have HW3 : Hid _ := HW2.out.trans hW3
          clear hU3 hW3
          go_wp2
          exact ⟨⟨i + 1, g3, by omega, by go_num, HU3.out, HW3.out⟩, by simp [intOf]; omega⟩
        · have i4 : ¬ (0 : Int) < (i : Int) := by omega
          go_wp2_with fail
          refine (put_any b g' _ 4 x wr HRr.out (take_len _)).mono ?_
          rintro e w3 ⟨rfl, g3, hU3, hW3⟩
          rw [take_join] at hU3
          have HU3 : Hid (WrB w3 b g3 ((l ++ ([markT 91] ++ sepK (fun x => [strT x]) ls (i + 1))).take 401)) := by
            unfold Hid
            rw [HS.out, if_neg hpos]
            simpa [markT, strT] using hU3
          have HW3 : Hid _ := HWr.out.trans hW3
          clear hU3 hW3 e0
          go_wp2
          exact ⟨⟨i + 1, g3, by omega, by go_num, HU3.out, HW3.out⟩, by simp [intOf]; omega⟩
      · have i1 : ¬ (i : Int) < (ls.length : Int) := by omega
        obtain rfl : i = ls.length := by omega
        clear hTr hRr hWr
        go_wp2_with fail
        refine (put_any b g' _ 5 [93] wr HRr.out (take_len _)).mono ?_
        rintro e w2 ⟨rfl, g2, hU2, hW2⟩
        rw [take_join] at hU2
        have HU2 : Hid (WrB w2 b g2 ((l ++ listT ls).take 401)) := by
          unfold Hid
          rw [HLT.out]
          rw [sepK_all] at hU2
          simpa [markT] using hU2
        have HW2 : Hid _ := HWr.out.trans hW2
        clear hU2 hW2
        go_wp2
        go_end0
        exact ⟨rfl, g2, HU2.out, HW2.out⟩
end Go.Proofs.YtdmiidbncpgfpabDoor
