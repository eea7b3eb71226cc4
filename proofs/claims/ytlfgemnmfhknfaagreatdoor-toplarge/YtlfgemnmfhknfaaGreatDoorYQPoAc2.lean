/-
  Acts and raw acts in memory.
  How arguments that are acts in raw numbers are read: five numbers and a text each.
-/
import Derived.Test.YtlfgemnmfhknfaaGreatDoorYQScrCard11
import Derived.Test.YtlfgemnmfhknfaaGreatDoorYBoxPur
import Derived.Test.YtlfgemnmfhknfaaGreatDoorRows
import Derived.WalkKit
import Derived.Deep.SlicePairs
import Derived.Lib.SmallJoins
import Derived.ProofKit
import Derived.OpenShut
namespace Go.Proofs.YtlfgemnmfhknfaaGreatDoor
open Go.RowKit Go.Proofs
structure Acu where
  kind : Int
  conn : Int
  user : Int
  keep : Int
  data : List UInt8
  ent : Ent
def jl9 : Ent := ⟨0, [], 0, 0, [], []⟩
def acuC (x : Acu) : List Value := [.int .i64 x.kind, .int .i64 x.conn, .int .i64 x.user, .int .i64 x.keep, .string (S x.data), .int .i64 x.ent.kind, .string (S x.ent.box), .int .i64 x.ent.uid, .int .i64 x.ent.flags, .string (S x.ent.goal), .string (S x.ent.text)]
def geaC (g : Gea) : List Value := [.int .i64 g.kind, .int .i64 g.conn, .int .i64 g.user, .int .i64 g.a, .int .i64 g.b, .string g.text]
def GeaM (g : Gea) (cs : List Value) : Prop := cs = geaC g
def GesM (Q : Nat → Prop) (w : World) (v : Value) (l : List Gea) : Prop := RowM Q 6 GeaM w v l
theorem GesM.next {Q : Nat → Prop} {w w' : World} {v : Value} {l : List Gea} (h : GesM Q w v l) (hb : Below w.heap.size w w') : GesM Q w' v l := RowM.imp h (fun _ h => h) (Keeps.of_below hb) fun _ _ h => h
theorem GesM.at {Q : Nat → Prop} {w : World} {a : Option Addr} {n c : Nat} {l : List Gea} (h : GesM Q w (.slice a n c) l) {i : Nat} {x : Gea} (hx : l[i]? = some x) : ∃ b o, a = some ⟨b, o, none⟩ ∧ w.cell? ⟨b, o + i * 6, none⟩ = some (.int .i64 x.kind) ∧ w.cell? ⟨b, o + i * 6 + 1, none⟩ = some (.int .i64 x.conn) ∧ w.cell? ⟨b, o + i * 6 + 2, none⟩ = some (.int .i64 x.user) ∧ w.cell? ⟨b, o + i * 6 + 3, none⟩ = some (.int .i64 x.a) ∧ w.cell? ⟨b, o + i * 6 + 4, none⟩ = some (.int .i64 x.b) ∧ w.cell? ⟨b, o + i * 6 + 5, none⟩ = some (.string x.text) := by
  obtain ⟨a', c', hv, _, hr⟩ := h; simp only [Value.slice.injEq] at hv; obtain ⟨b, o, cs, ha, _, _, _, hc, hP⟩ := hr i x hx; have hcs : cs = geaC x := hP; subst hcs; exact ⟨b, o, by rw [hv.1, ha], hc 0 _ rfl, hc 1 _ rfl, hc 2 _ rfl, hc 3 _ rfl, hc 4 _ rfl, hc 5 _ rfl⟩
def ActM (x : Acu) (cs : List Value) : Prop := cs = acuC x
def AcsM (Q : Nat → Prop) (w : World) (v : Value) (l : List Acu) : Prop := RowM Q 11 ActM w v l
theorem jm0 : (Tryz.prog.info? 32).map (fun i => (i.zero, i.size, i.bytes)) = some (some (.agg #[.int .i64 0, .int .i64 0, .int .i64 0, .int .i64 0, .string ByteArray.empty, .int .i64 0, .string ByteArray.empty, .int .i64 0, .int .i64 0, .string ByteArray.empty, .string ByteArray.empty]), 11, 120) := by kernel_rfl
theorem jjP (l : List Acu) (x : Acu) : ((l ++ [x]).map acuC).flatten = (l.map acuC).flatten ++ acuC x := by simp
end Go.Proofs.YtlfgemnmfhknfaaGreatDoor
namespace Go.Proofs.YtlfgemnmfhknfaaGreatDoor
open Go.RowKit Go.Deep Go.Joins Go.ChangeShapes Go.WideShapes
set_option maxRecDepth 100000 in
theorem open_gears {H : Type} {enc : TypeId × Value → H} {w : World} {base b0 : Nat} {spare : Nat → Bool} {held : Bool} {v : Value} {d : DataW H} {p : List MemPlace}
    (hv : Value.okWide Tryz.prog w .any b0 22 v) (h : DataW.Trod enc Tryz.prog w base spare held 22 v d p) :
    ∃ a c, ∃ ps : List Gea, v = .slice a ps.length c ∧ GesM (fun _ => True) w (.slice a ps.length c) ps ∧ ∀ x ∈ ps, geaW x := by
  obtain ⟨a0, len0, cap0, rfl⟩ := okWide_slice Tryz.underlying22 hv; obtain ⟨fuel, hf0⟩ := h; have hf : DataW.trod enc Tryz.prog w base spare held fuel 22 [.slice a0 len0 cap0] = some (d, p) := by simpa [Value.cells] using hf0
  have ce : Tryz.prog.cellsOf 28 = 6 := by kernel_rfl
  have cs : Tryz.prog.cellsOf 9 = 1 := by kernel_rfl
  have ci : Tryz.prog.cellsOf 3 = 1 := by kernel_rfl
  rcases open_slice Tryz.underlying22 hf with ⟨h0, _⟩ | ⟨a, len, cap, m, n, D, Pl, h0, hb, hl, hm, hmm, _, hx⟩
  · simp only [List.cons.injEq, and_true] at h0; exact ⟨none, 0, [], h0, jh _ _ _ _ _ _, by simp⟩
  simp only [List.cons.injEq, and_true] at h0; rw [h0]; have hlm : len ≤ m := by rw [hmm]; split <;> omega
  have each : ∀ i, i < len → ∃ x : Gea, w.cell? (a.add (i * 6)) = some (.int .i64 x.kind) ∧ w.cell? (a.add (i * 6 + 1)) = some (.int .i64 x.conn) ∧ w.cell? (a.add (i * 6 + 2)) = some (.int .i64 x.user) ∧ w.cell? (a.add (i * 6 + 3)) = some (.int .i64 x.a) ∧ w.cell? (a.add (i * 6 + 4)) = some (.int .i64 x.b) ∧ w.cell? (a.add (i * 6 + 5)) = some (.string x.text) ∧ geaW x := by
    intro i hi; obtain ⟨cs', h1, h2⟩ := hx i (by omega); rw [ce] at h1; obtain ⟨_, hlen, hcell⟩ := World.cells?_some h1; obtain ⟨xs, k, hk, hxy, _, hxl, hf⟩ := DataW.trod_struct Tryz.underlying28 h2
    match xs, hxl, cs', hlen with
    | [y0, y1, y2, y3, y4, y5], _, [v0, v1, v2, v3, v4, v5], _ =>
      have g0 := hf 0 _ rfl; have g1 := hf 1 _ rfl; have g2 := hf 2 _ rfl; have g3 := hf 3 _ rfl; have g4 := hf 4 _ rfl; have g5 := hf 5 _ rfl
      simp [cs, ci] at g0 g1 g2 g3 g4 g5
      have e0 := hcell 0 (by omega); have e1 := hcell 1 (by omega); have e2 := hcell 2 (by omega); have e3 := hcell 3 (by omega); have e4 := hcell 4 (by omega); have e5 := hcell 5 (by omega); rw [add_add] at e0 e1 e2 e3 e4 e5; obtain ⟨s0, q0, _, k0⟩ := DataW.trod_int Tryz.underlying3 g0; obtain ⟨s1, q1, _, k1⟩ := DataW.trod_int Tryz.underlying3 g1; obtain ⟨s2, q2, _, k2⟩ := DataW.trod_int Tryz.underlying3 g2; obtain ⟨s3, q3, _, k3⟩ := DataW.trod_int Tryz.underlying3 g3; obtain ⟨s4, q4, _, k4⟩ := DataW.trod_int Tryz.underlying3 g4; obtain ⟨s5, q5, _, k5⟩ := DataW.trod_string Tryz.underlying9 g5; simp only [List.cons.injEq, and_true] at q0 q1 q2 q3 q4 q5; subst q0; subst q1; subst q2; subst q3; subst q4; subst q5; exact ⟨⟨s0, s1, s2, s3, s4, s5⟩, by simpa using e0, by simpa using e1, by simpa using e2, by simpa using e3, by simpa using e4, by simpa using e5, k0, k1, k2, k3, k4, k5⟩
  haveI : Inhabited Gea := ⟨⟨0, 0, 0, 0, 0, ByteArray.empty⟩⟩
  obtain ⟨q, hq⟩ := choose_lt each; refine ⟨some a, cap, (List.range len).map q, by simp, ⟨some a, cap, rfl, by simp; omega, ?_⟩, ?_⟩
  · intro i x hx; have hi : i < len := by
      rcases Nat.lt_or_ge i len with h | h
      · exact h
      · rw [List.getElem?_eq_none (by simpa using h)] at hx; cases hx
    rw [List.getElem?_map, List.getElem?_range hi] at hx; simp only [Option.map_some, Option.some.injEq] at hx; subst hx; obtain ⟨h0, h1, h2, h3, h4, h5, _⟩ := hq i hi; obtain ⟨b, off, spot⟩ := a; have hspot : spot = none := by
      have := World.cell?_spot (hq 0 (by omega)).1
      simpa [Addr.add] using this
    subst hspot; rw [Addr.add_lit] at h0 h1 h2 h3 h4 h5; refine ⟨b, off, geaC (q i), rfl, World.block_lt_of_cell? w _ h0, trivial, rfl, ?_, rfl⟩; intro j u hj; have hj6 : j < 6 := (List.getElem?_eq_some_iff.1 hj).1
    match j, hj6, hj with
    | 0, _, hj => cases hj; exact h0
    | 1, _, hj => cases hj; rw [Nat.add_assoc]; exact h1
    | 2, _, hj => cases hj; rw [Nat.add_assoc]; exact h2
    | 3, _, hj => cases hj; rw [Nat.add_assoc]; exact h3
    | 4, _, hj => cases hj; rw [Nat.add_assoc]; exact h4
    | 5, _, hj => cases hj; rw [Nat.add_assoc]; exact h5
  · intro x hx; obtain ⟨i, hi, rfl⟩ := List.mem_map.1 hx; exact (hq i (List.mem_range.1 hi)).2.2.2.2.2.2
set_option maxRecDepth 100000 in
theorem open_gear {H : Type} {enc : TypeId × Value → H} {w : World} {base b0 : Nat} {spare : Nat → Bool} {held : Bool} {v : Value} {d : DataW H} {p : List MemPlace}
    (hv : Value.okWide Tryz.prog w .any b0 28 v) (h : DataW.Trod enc Tryz.prog w base spare held 28 v d p) :
    ∃ x : Gea, v = .agg #[.int .i64 x.kind, .int .i64 x.conn, .int .i64 x.user, .int .i64 x.a, .int .i64 x.b, .string x.text] ∧ geaW x := by
  obtain ⟨cs, rfl, hsz⟩ := okWide_struct Tryz.underlying28 hv; have hC : Tryz.prog.cellsOf 28 = 6 := by kernel_rfl
  have ci : Tryz.prog.cellsOf 3 = 1 := by kernel_rfl
  have cs' : Tryz.prog.cellsOf 9 = 1 := by kernel_rfl
  obtain ⟨fuel, hf⟩ := h; obtain ⟨xs, n, _, _, _, hxl, hx⟩ := DataW.trod_struct Tryz.underlying28 hf; obtain ⟨c0, c1, c2, c3, c4, c5, rfl⟩ : ∃ c0 c1 c2 c3 c4 c5, cs = #[c0, c1, c2, c3, c4, c5] := by
    obtain ⟨l⟩ := cs
    match l, (hsz.trans hC) with
    | [c0, c1, c2, c3, c4, c5], _ => exact ⟨c0, c1, c2, c3, c4, c5, rfl⟩
  have hxl6 : xs.length = 6 := hxl; have at' : ∀ i : Nat, i < 6 → ∃ y, xs[i]? = some y := fun i hi => ⟨_, List.getElem?_eq_getElem (by omega)⟩
  obtain ⟨y0, g0⟩ := at' 0 (by omega); obtain ⟨y1, g1⟩ := at' 1 (by omega); obtain ⟨y2, g2⟩ := at' 2 (by omega); obtain ⟨y3, g3⟩ := at' 3 (by omega); obtain ⟨y4, g4⟩ := at' 4 (by omega); obtain ⟨y5, g5⟩ := at' 5 (by omega); have h0 := (hx 0 _ rfl).trans g0; have h1 := (hx 1 _ rfl).trans g1; have h2 := (hx 2 _ rfl).trans g2; have h3 := (hx 3 _ rfl).trans g3; have h4 := (hx 4 _ rfl).trans g4; have h5 := (hx 5 _ rfl).trans g5
  simp [ci, cs', Value.cells] at h0 h1 h2 h3 h4 h5
  obtain ⟨s0, q0, _, k0⟩ := DataW.trod_int Tryz.underlying3 h0; obtain ⟨s1, q1, _, k1⟩ := DataW.trod_int Tryz.underlying3 h1; obtain ⟨s2, q2, _, k2⟩ := DataW.trod_int Tryz.underlying3 h2; obtain ⟨s3, q3, _, k3⟩ := DataW.trod_int Tryz.underlying3 h3; obtain ⟨s4, q4, _, k4⟩ := DataW.trod_int Tryz.underlying3 h4; obtain ⟨s5, q5, _, k5⟩ := DataW.trod_string Tryz.underlying9 h5; simp only [List.cons.injEq, and_true] at q0 q1 q2 q3 q4 q5; subst q0; subst q1; subst q2; subst q3; subst q4; subst q5; exact ⟨⟨s0, s1, s2, s3, s4, s5⟩, rfl, k0, k1, k2, k3, k4, k5⟩
end Go.Proofs.YtlfgemnmfhknfaaGreatDoor
