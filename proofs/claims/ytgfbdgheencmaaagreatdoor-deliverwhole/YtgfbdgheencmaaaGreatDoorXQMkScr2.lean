/-
  What the laws' maker of scripts does: the walk.
-/
import Derived.Test.YtgfbdgheencmaaaGreatDoorXRowGw
import Derived.Test.YtgfbdgheencmaaaGreatDoorXScrW
import Derived.Test.YtgfbdgheencmaaaGreatDoorRows
import Derived.Deep.SlicePairs
import Derived.Lib.SmallJoins
import Derived.ChangeArms
namespace Go.Proofs.YtgfbdgheencmaaaGreatDoor
open Go.RowKit Go.Proofs
def reqV : Array Value := #[.string ⟨#[102, 105, 108, 101, 105, 110, 116, 111]⟩, .string ⟨#[114, 101, 106, 101, 99, 116]⟩, .string ⟨#[101, 110, 118, 101, 108, 111, 112, 101]⟩, .string ⟨#[105, 109, 97, 112, 52, 102, 108, 97, 103, 115]⟩]
theorem jlS {Q : Nat → Prop} {w : World} {p : Nat} {t : TypeId} (h : w.heap[p]? = some (.cells reqV t)) (hQ : Q p) : TxtsM Q w (.slice (some ⟨p, 0, none⟩) 4 4) reqT := by
 refine ⟨some ⟨p, 0, none⟩, 4, rfl, by unfold maxLen reqT; simp, fun i x hx => ?_⟩; have hi : i < 4 := (List.getElem?_eq_some_iff.1 hx).1; refine ⟨p, 0, [.string (S x)], rfl, (Array.getElem?_eq_some_iff.1 h).1, hQ, rfl, fun j u hj => ?_, rfl⟩; cases j with
 | succ j => simp at hj
 | zero =>
   simp at hj
   subst hj; rw [Nat.zero_add, Nat.mul_one, Nat.add_zero, jmV h]
   match i, hi with
   | 0, _ | 1, _ | 2, _ | 3, _ => cases hx; rfl
theorem joA (w : World) (o0 o1 : Obj) : ((w.alloc o0).alloc o1).heap[w.heap.size + 1]? = some o1 := by
 have h1 : (w.alloc o0).heap.size = w.heap.size + 1 := by simp
 rw [← h1]; exact heap_alloc_new _ o1
set_option maxHeartbeats 4000000 in
set_option maxRecDepth 100000 in
theorem jeU (w : World) : Calls Tryz.prog 21 #[] w fun e w' => ∃ v, e = .returned v ∧ CmdR (newB w.heap.size) 2 reqC w' v ∧ Below w.heap.size w w' := by
 go_enter Tryz.func21, Tryz.ntmps21; go_wp2; refine bodyPost_ret (v := .agg #[.int .i64 1, .slice (some ⟨w.heap.size + 1, 0, none⟩) 4 4, .int .i64 0, .int .i64 0, .int .i64 0, .slice none 0 0, .slice none 0 0, .bool false, .int .i64 0, .slice none 0 0, .slice none 0 0, .slice none 0 0]) (by simp [results, Tryz.results21, go_sem]) rfl ?_; refine ⟨_, rfl, ⟨[.int .i64 1, .slice (some ⟨w.heap.size + 1, 0, none⟩) 4 4, .int .i64 0, .int .i64 0, .int .i64 0, .slice none 0 0, .slice none 0 0, .bool false, .int .i64 0, .slice none 0 0, .slice none 0 0, .slice none 0 0], rfl, ⟨_, _, _, _, _, _, rfl, ?_, jlM _ _ _, jo _ _ _ _ _ _, jo _ _ _ _ _ _⟩⟩, ?_⟩
 · exact jlS (t := 9) (joA w _ _) (show w.heap.size ≤ w.heap.size + 1 by omega)
 · exact (nb0 _ _).alloc (by simp) _
open Go.Deep Go.Joins Go.ChangeShapes Go.WideShapes
structure Stk where
 kind : Int
 a : Int
 b : Int
 s : List UInt8
 t : List UInt8
 ins : List Stk
def StkM : Nat → World → Stk → List Value → Prop
 | 0, _, _, _ => False
 | n + 1, w, x, cs => ∃ ai ci, cs = [.int .i64 x.kind, .int .i64 x.a, .int .i64 x.b, .string (S x.s), .string (S x.t), .slice ai x.ins.length ci] ∧ (Lit.int .i64 x.kind).wf = true ∧ (Lit.int .i64 x.a).wf = true ∧ (Lit.int .i64 x.b).wf = true ∧
     x.s.length ≤ maxLen ∧ x.t.length ≤ maxLen ∧ x.ins.length ≤ ci ∧ (ci ≤ maxLen ∧ x.ins.length ≤ 140737488355328) ∧ RowM anyB 6 (StkM n w) w (.slice ai x.ins.length ci) x.ins
abbrev SticksM (n : Nat) (w : World) (v : Value) (l : List Stk) : Prop := RowM anyB 6 (StkM n w) w v l
theorem StkM.imp {w w' : World} (hk : Keeps anyB w w') : ∀ (n : Nat) (x : Stk) (cs : List Value), StkM n w x cs → StkM n w' x cs := by
 intro n
 induction n with
 | zero => intro x cs h; exact h
 | succ n ih =>
   intro x cs h; obtain ⟨ai, ci, h0, h1, h2, h3, h4, h5, h6, h7, h8⟩ := h; exact ⟨ai, ci, h0, h1, h2, h3, h4, h5, h6, h7, RowM.imp h8 (fun _ h => h) hk ih⟩
theorem StkM.more {w : World} : ∀ (n m : Nat) (x : Stk) (cs : List Value), n ≤ m → StkM n w x cs → StkM m w x cs := by
 intro n
 induction n with
 | zero => intro m x cs _ h; exact h.elim
 | succ n ih =>
   intro m x cs hm h; obtain ⟨ai, ci, h0, h1, h2, h3, h4, h5, h6, h7, h8⟩ := h; cases m with
   | zero => omega
   | succ m => exact ⟨ai, ci, h0, h1, h2, h3, h4, h5, h6, h7, RowM.imp h8 (fun _ h => h) (Keeps.refl _ _) fun x cs h => ih m x cs (by omega) h⟩
theorem StkM.next {n : Nat} {w w' : World} {x : Stk} {cs : List Value} (h : StkM n w x cs) (hb : Below w.heap.size w w') : StkM n w' x cs := StkM.imp (Keeps.of_below hb) _ _ _ h
theorem SticksM.next {n : Nat} {w w' : World} {v : Value} {l : List Stk} (h : SticksM n w v l) (hb : Below w.heap.size w w') : SticksM n w' v l := RowM.imp h (fun _ h => h) (Keeps.of_below hb) fun _ _ h => StkM.next h hb
theorem jax {H : Type} {P : Program} {e : TypeId} {m : Nat} : ∀ {l : List (DataW H)} {d : DataW H}, d ∈ l → m ∈ d.weights P e → m ∈ DataW.weightsAll P e l := by
 intro l
 induction l with
 | nil => intro d h; cases h
 | cons x l ih =>
   intro d h hm; unfold DataW.weightsAll
   rcases List.mem_cons.1 h with e | e
   · subst e; exact List.mem_append_left _ hm
   · exact List.mem_append_right _ (ih e hm)
set_option maxRecDepth 100000 in
theorem jl3 {H : Type} {enc : TypeId × Value → H} {w : World} {base : Nat} {spare : Nat → Bool} {held : Bool} : ∀ (N fuel : Nat) (cs : List Value) (x : DataW H × List MemPlace), fuel ≤ N → (∀ m ∈ x.1.weights Tryz.prog 117, m ≤ reachBytes) →
 DataW.trod enc Tryz.prog w base spare held fuel 117 cs = some x → ∃ k : Stk, StkM (N + 1) w k cs := by
 have hC : Tryz.prog.cellsOf 117 = 6 := by kernel_rfl
 have ci : Tryz.prog.cellsOf 3 = 1 := by kernel_rfl
 have cs' : Tryz.prog.cellsOf 9 = 1 := by kernel_rfl
 have cl : Tryz.prog.cellsOf 28 = 1 := by kernel_rfl
 intro N
 induction N with
 | zero =>
   intro fuel cs x hN hw h; obtain ⟨_, n, hn, _⟩ := DataW.trod_struct Tryz.underlying117 h; omega
 | succ N ih =>
   intro fuel cs x hN hw h; obtain ⟨xs, n, hn, hxe, hlen, hxl, hx⟩ := DataW.trod_struct Tryz.underlying117 h; obtain ⟨c0, c1, c2, c3, c4, c5, rfl⟩ : ∃ c0 c1 c2 c3 c4 c5, cs = [c0, c1, c2, c3, c4, c5] := by
    match cs, (hlen.trans hC) with
    | [c0, c1, c2, c3, c4, c5], _ => exact ⟨c0, c1, c2, c3, c4, c5, rfl⟩
   have hxl6 : xs.length = 6 := hxl; have at' : ∀ i : Nat, i < 6 → ∃ y, xs[i]? = some y := fun i hi => ⟨_, List.getElem?_eq_getElem (by omega)⟩
   obtain ⟨y0, g0⟩ := at' 0 (by omega); obtain ⟨y1, g1⟩ := at' 1 (by omega); obtain ⟨y2, g2⟩ := at' 2 (by omega); obtain ⟨y3, g3⟩ := at' 3 (by omega); obtain ⟨y4, g4⟩ := at' 4 (by omega); obtain ⟨y5, g5⟩ := at' 5 (by omega); have h0 := (hx 0 _ rfl).trans g0; have h1 := (hx 1 _ rfl).trans g1; have h2 := (hx 2 _ rfl).trans g2; have h3 := (hx 3 _ rfl).trans g3; have h4 := (hx 4 _ rfl).trans g4; have h5 := (hx 5 _ rfl).trans g5; obtain ⟨k, e0, _, w0⟩ := DataW.trod_int Tryz.underlying3 h0; obtain ⟨a, e1, _, w1⟩ := DataW.trod_int Tryz.underlying3 h1; obtain ⟨b, e2, _, w2⟩ := DataW.trod_int Tryz.underlying3 h2; obtain ⟨s, e3, _, w3⟩ := DataW.trod_string Tryz.underlying9 h3; obtain ⟨t, e4, _, w4⟩ := DataW.trod_string Tryz.underlying9 h4
   simp [ci, cs'] at e0 e1 e2 e3 e4
   subst e0 e1 e2 e3 e4; have h5w : ∀ m ∈ y5.1.weights Tryz.prog 28, m ≤ reachBytes := fun m hm => hw m (by
    rw [hxe]; have hxs : xs = [y0, y1, y2, y3, y4, y5] := by
        match xs, hxl6 with
        | [z0, z1, z2, z3, z4, z5], _ => simp at g0 g1 g2 g3 g4 g5; rw [g0, g1, g2, g3, g4, g5]
    rw [hxs]; have hu := Tryz.underlying117; simp only [DataW.weights, hu, List.map_cons, List.map_nil, DataW.weightsEach, List.mem_append]
    simp [hm])
   have hS : ∀ s : ByteArray, s.size ≤ maxLen → s.data.toList.length ≤ maxLen := fun s h => by rw [size_list]; exact h
   rcases DataW.trod_slice Tryz.underlying28 h5 with ⟨e, _⟩ | ⟨ad, len, cap, elems, rest, m, hm, e, hd5, hb, hl, hcm, hel, hsub, _⟩
   · simp [cl] at e
     subst e; refine ⟨⟨k, a, b, s.data.toList, t.data.toList, []⟩, none, 0, ?_, w0, w1, w2, hS s w3, hS t w4, Nat.le_refl _, ⟨by unfold maxLen; omega, by simp⟩, jo _ _ _ _ _ _⟩; rw [zZ, zZ]; rfl
   · simp [cl] at e
     subst e; rw [hd5] at h5w; have hu5 := Tryz.underlying28; have hb5 : Tryz.prog.bytesOf 117 = 80 := by kernel_rfl
     have hlen5 : len ≤ 140737488355328 := by
        have := h5w _ (by simp only [DataW.weights, hu5]; exact List.mem_cons_self); have hlt := reachBytes_lt; rw [List.length_map, hb5, hel] at this; omega
     have each : ∀ i, i < len → ∃ y : Stk, ∃ cs, w.cells? base (ad.add (i * 6)) 6 = some cs ∧ StkM (N + 1) w y cs := by
        intro i hi; have h6 := hsub i hi; rw [hC] at h6; obtain ⟨z, hz⟩ : ∃ z, elems[i]? = some z := ⟨_, List.getElem?_eq_getElem (by omega)⟩; rw [hz] at h6; cases hcs : w.cells? base (ad.add (i * 6)) 6 with
        | none => rw [hcs] at h6; cases h6
        | some cs2 =>
          rw [hcs] at h6; obtain ⟨y, hy⟩ := ih m cs2 z (by omega) (fun q hq => h5w q (by simp only [DataW.weights, hu5]; exact List.mem_cons_of_mem _ (List.mem_append_left _ (jax (List.mem_map.2 ⟨z, List.mem_of_getElem? hz, rfl⟩) hq)))) h6; exact ⟨y, cs2, rfl, hy⟩
     haveI : Inhabited Stk := ⟨⟨0, 0, 0, [], [], []⟩⟩
     obtain ⟨q, hq⟩ := choose_lt each; refine ⟨⟨k, a, b, s.data.toList, t.data.toList, (List.range len).map q⟩, some ad, cap, ?_, w0, w1, w2, hS s w3, hS t w4, by simpa using hl, ⟨hcm, by simpa using hlen5⟩, some ad, cap, rfl, by simp; omega, fun i x hx => ?_⟩
     · rw [zZ, zZ]; simp
     · have hi : i < len := by
        rcases Nat.lt_or_ge i len with h | h
        · exact h
        · rw [List.getElem?_eq_none (by simpa using h)] at hx; cases hx
       rw [List.getElem?_map, List.getElem?_range hi] at hx; simp only [Option.map_some, Option.some.injEq] at hx; subst hx; obtain ⟨cs2, hc2, hy⟩ := hq i hi; obtain ⟨_, hlen2, hcell⟩ := World.cells?_some hc2; obtain ⟨bb, off, spot⟩ := ad; have hspot : spot = none := by
        obtain ⟨cs3, hc3, _⟩ := hq 0 (by omega); obtain ⟨_, hlen3, hcell3⟩ := World.cells?_some hc3; obtain ⟨u3, hu3⟩ : ∃ u, cs3[0]? = some u := ⟨_, List.getElem?_eq_getElem (by omega)⟩; have hc4 := hcell3 0 (by omega); rw [hu3] at hc4; have := World.cell?_spot hc4
        simpa [Addr.add] using this
       subst hspot; have hc0 := hcell 0 (by omega); obtain ⟨u0, hu0⟩ : ∃ u, cs2[0]? = some u := ⟨_, List.getElem?_eq_getElem (by omega)⟩; rw [hu0] at hc0; rw [Addr.add_lit, Addr.add_lit] at hc0; refine ⟨bb, off, cs2, rfl, World.block_lt_of_cell? w _ hc0, trivial, hlen2, fun j u hj => ?_, hy⟩; have hj6 : j < 6 := by rw [← hlen2]; exact (List.getElem?_eq_some_iff.1 hj).1
       have := hcell j hj6; rw [Addr.add_lit, Addr.add_lit, hj] at this; exact this
set_option maxRecDepth 100000 in
theorem open_sticks {H : Type} {enc : TypeId × Value → H} {w : World} {base b0 : Nat} {spare : Nat → Bool} {held : Bool} {v : Value} {d : DataW H} {p : List MemPlace}
 (hv : Value.okWide Tryz.prog w .any b0 28 v) (h : DataW.Trod enc Tryz.prog w base spare held 28 v d p) (hw : ∀ m ∈ d.weights Tryz.prog 28, m ≤ reachBytes) :
 ∃ (a : Option Addr) (c : Nat) (l : List Stk) (n : Nat), v = .slice a l.length c ∧ l.length ≤ c ∧ c ≤ maxLen ∧ SticksM n w (.slice a l.length c) l := by
 obtain ⟨a0, len0, cap0, rfl⟩ := okWide_slice Tryz.underlying28 hv; obtain ⟨fuel, hf0⟩ := h; have hC : Tryz.prog.cellsOf 117 = 6 := by kernel_rfl
 have hf : DataW.trod enc Tryz.prog w base spare held fuel 28 [.slice a0 len0 cap0] = some (d, p) := by simpa [Value.cells] using hf0
 rcases DataW.trod_slice Tryz.underlying28 hf with ⟨e, _⟩ | ⟨ad, len, cap, elems, rest, m, hm, e, hd5, hb, hl, hcm, hel, hsub, _⟩
 · simp at e
   obtain ⟨rfl, rfl, rfl⟩ := e; exact ⟨none, 0, [], 1, rfl, Nat.le_refl _, by unfold maxLen; omega, jo _ _ _ _ _ _⟩
 · simp at e
   obtain ⟨rfl, rfl, rfl⟩ := e; have hd6 := congrArg Prod.fst hd5; simp only at hd6; rw [hd6] at hw; have hu5 := Tryz.underlying28; have each : ∀ i, i < len0 → ∃ y : Stk, ∃ cs, w.cells? base (ad.add (i * 6)) 6 = some cs ∧ StkM (m + 1) w y cs := by
    intro i hi; have h6 := hsub i hi; rw [hC] at h6; obtain ⟨z, hz⟩ : ∃ z, elems[i]? = some z := ⟨_, List.getElem?_eq_getElem (by omega)⟩; rw [hz] at h6; cases hcs : w.cells? base (ad.add (i * 6)) 6 with
    | none => rw [hcs] at h6; cases h6
    | some cs2 =>
      rw [hcs] at h6; obtain ⟨y, hy⟩ := jl3 m m cs2 z (Nat.le_refl _) (fun q hq => hw q (by simp only [DataW.weights, hu5]; exact List.mem_cons_of_mem _ (List.mem_append_left _ (jax (List.mem_map.2 ⟨z, List.mem_of_getElem? hz, rfl⟩) hq)))) h6; exact ⟨y, cs2, rfl, hy⟩
   haveI : Inhabited Stk := ⟨⟨0, 0, 0, [], [], []⟩⟩
   obtain ⟨q, hq⟩ := choose_lt each; refine ⟨some ad, cap0, (List.range len0).map q, m + 1, by simp, by simpa using hl, hcm, some ad, cap0, rfl, by simp; omega, fun i x hx => ?_⟩; have hi : i < len0 := by
    rcases Nat.lt_or_ge i len0 with h | h
    · exact h
    · rw [List.getElem?_eq_none (by simpa using h)] at hx; cases hx
   rw [List.getElem?_map, List.getElem?_range hi] at hx; simp only [Option.map_some, Option.some.injEq] at hx; subst hx; obtain ⟨cs2, hc2, hy⟩ := hq i hi; obtain ⟨_, hlen2, hcell⟩ := World.cells?_some hc2; obtain ⟨bb, off, spot⟩ := ad; have hspot : spot = none := by
    obtain ⟨cs3, hc3, _⟩ := hq 0 (by omega); obtain ⟨_, hlen3, hcell3⟩ := World.cells?_some hc3; obtain ⟨u3, hu3⟩ : ∃ u, cs3[0]? = some u := ⟨_, List.getElem?_eq_getElem (by omega)⟩; have hc4 := hcell3 0 (by omega); rw [hu3] at hc4; have := World.cell?_spot hc4
    simpa [Addr.add] using this
   subst hspot; have hc0 := hcell 0 (by omega); obtain ⟨u0, hu0⟩ : ∃ u, cs2[0]? = some u := ⟨_, List.getElem?_eq_getElem (by omega)⟩; rw [hu0] at hc0; rw [Addr.add_lit, Addr.add_lit] at hc0; refine ⟨bb, off, cs2, rfl, World.block_lt_of_cell? w _ hc0, trivial, hlen2, fun j u hj => ?_, hy⟩; have hj6 : j < 6 := by rw [← hlen2]; exact (List.getElem?_eq_some_iff.1 hj).1
   have := hcell j hj6; rw [Addr.add_lit, Addr.add_lit, hj] at this; exact this
end Go.Proofs.YtgfbdgheencmaaaGreatDoor
