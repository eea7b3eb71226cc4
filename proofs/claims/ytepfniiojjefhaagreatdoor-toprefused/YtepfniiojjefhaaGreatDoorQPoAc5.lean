/-
  Acts and raw acts in memory.
  How arguments that are acts in raw numbers are read: five numbers and a text each.
  What the laws of the whole make of raw numbers: the lines of a whole letter. Plain meaning and walk.
  What the laws of the whole make of raw numbers: a line that a session may send. Plain meaning and walk.
  States of boxes in memory: how they are read, and one that a call has made and may write into. No function of the program is named here.
-/
import Derived.Test.YtepfniiojjefhaaGreatDoorTopHd
import Derived.Test.YtepfniiojjefhaaGreatDoorBoxPur
import Derived.Deep.SlicePairs
import Derived.Lib.SmallJoins
import Derived.ProofKit
import Derived.OpenShut
import Derived.Test.YtepfniiojjefhaaGreatDoorQPure6
import Derived.Laws.AppendOwn
namespace Go.Proofs.YtepfniiojjefhaaGreatDoor
open Go.RowKit Go.Proofs

structure Acu where
  kind : Int
  conn : Int
  user : Int
  keep : Int
  data : List UInt8
  ent : Ent
def noEnt : Ent := ⟨0, [], 0, 0, [], []⟩
def acuC (x : Acu) : List Value := [.int .i64 x.kind, .int .i64 x.conn, .int .i64 x.user, .int .i64 x.keep, .string (S x.data), .int .i64 x.ent.kind, .string (S x.ent.box), .int .i64 x.ent.uid, .int .i64 x.ent.flags, .string (S x.ent.goal), .string (S x.ent.text)]
def geaC (g : Gea) : List Value := [.int .i64 g.kind, .int .i64 g.conn, .int .i64 g.user, .int .i64 g.a, .int .i64 g.b, .string g.text]
def GeaM (g : Gea) (cs : List Value) : Prop := cs = geaC g
def GesM (Q : Nat → Prop) (w : World) (v : Value) (l : List Gea) : Prop := RowM Q 6 GeaM w v l
theorem GesM.next {Q : Nat → Prop} {w w' : World} {v : Value} {l : List Gea} (h : GesM Q w v l) (hb : Below w.heap.size w w') : GesM Q w' v l := RowM.imp h (fun _ h => h) (Keeps.of_below hb) fun _ _ h => h
theorem GesM.at {Q : Nat → Prop} {w : World} {a : Option Addr} {n c : Nat} {l : List Gea} (h : GesM Q w (.slice a n c) l) {i : Nat} {x : Gea} (hx : l[i]? = some x) : ∃ b o, a = some ⟨b, o, none⟩ ∧ w.cell? ⟨b, o + i * 6, none⟩ = some (.int .i64 x.kind) ∧ w.cell? ⟨b, o + i * 6 + 1, none⟩ = some (.int .i64 x.conn) ∧ w.cell? ⟨b, o + i * 6 + 2, none⟩ = some (.int .i64 x.user) ∧ w.cell? ⟨b, o + i * 6 + 3, none⟩ = some (.int .i64 x.a) ∧ w.cell? ⟨b, o + i * 6 + 4, none⟩ = some (.int .i64 x.b) ∧ w.cell? ⟨b, o + i * 6 + 5, none⟩ = some (.string x.text) := by
  obtain ⟨a', c', hv, _, hr⟩ := h
  simp only [Value.slice.injEq] at hv
  obtain ⟨b, o, cs, ha, _, _, _, hc, hP⟩ := hr i x hx
  have hcs : cs = geaC x := hP
  subst hcs
  exact ⟨b, o, by rw [hv.1, ha], hc 0 _ rfl, hc 1 _ rfl, hc 2 _ rfl, hc 3 _ rfl, hc 4 _ rfl, hc 5 _ rfl⟩
def ActM (x : Acu) (cs : List Value) : Prop := cs = acuC x
def AcsM (Q : Nat → Prop) (w : World) (v : Value) (l : List Acu) : Prop := RowM Q 11 ActM w v l
end Go.Proofs.YtepfniiojjefhaaGreatDoor
namespace Go.Proofs.YtepfniiojjefhaaGreatDoor
open Go.RowKit Go.Deep Go.Joins Go.ChangeShapes Go.WideShapes

set_option maxRecDepth 100000 in
theorem open_gears {H : Type} {enc : TypeId × Value → H} {w : World} {base b0 : Nat} {spare : Nat → Bool} {held : Bool} {v : Value} {d : DataW H} {p : List MemPlace}
    (hv : Value.okWide Tryz.prog w .any b0 22 v) (h : DataW.Trod enc Tryz.prog w base spare held 22 v d p) :
    ∃ a c, ∃ ps : List Gea, v = .slice a ps.length c ∧ GesM (fun _ => True) w (.slice a ps.length c) ps ∧ ∀ x ∈ ps, geaW x := by
  obtain ⟨a0, len0, cap0, rfl⟩ := okWide_slice Tryz.underlying22 hv
  obtain ⟨fuel, hf0⟩ := h
  have hf : DataW.trod enc Tryz.prog w base spare held fuel 22 [.slice a0 len0 cap0] = some (d, p) := by simpa [Value.cells] using hf0
  have ce : Tryz.prog.cellsOf 51 = 6 := by kernel_rfl
  have cs : Tryz.prog.cellsOf 9 = 1 := by kernel_rfl
  have ci : Tryz.prog.cellsOf 3 = 1 := by kernel_rfl
  rcases open_slice Tryz.underlying22 hf with ⟨h0, _⟩ | ⟨a, len, cap, m, n, D, Pl, h0, hb, hl, hm, hmm, _, hx⟩
  · simp only [List.cons.injEq, and_true] at h0
    exact ⟨none, 0, [], h0, rowM_nil _ _ _ _ _ _, by simp⟩
  simp only [List.cons.injEq, and_true] at h0
  rw [h0]
  have hlm : len ≤ m := by rw [hmm]; split <;> omega
  have each : ∀ i, i < len → ∃ x : Gea, w.cell? (a.add (i * 6)) = some (.int .i64 x.kind) ∧ w.cell? (a.add (i * 6 + 1)) = some (.int .i64 x.conn) ∧ w.cell? (a.add (i * 6 + 2)) = some (.int .i64 x.user) ∧ w.cell? (a.add (i * 6 + 3)) = some (.int .i64 x.a) ∧ w.cell? (a.add (i * 6 + 4)) = some (.int .i64 x.b) ∧ w.cell? (a.add (i * 6 + 5)) = some (.string x.text) ∧ geaW x := by
    intro i hi
    obtain ⟨cs', h1, h2⟩ := hx i (by omega)
    rw [ce] at h1
    obtain ⟨_, hlen, hcell⟩ := World.cells?_some h1
    obtain ⟨xs, k, hk, hxy, _, hxl, hf⟩ := DataW.trod_struct Tryz.underlying51 h2
    match xs, hxl, cs', hlen with
    | [y0, y1, y2, y3, y4, y5], _, [v0, v1, v2, v3, v4, v5], _ =>
      have g0 := hf 0 _ rfl
      have g1 := hf 1 _ rfl
      have g2 := hf 2 _ rfl
      have g3 := hf 3 _ rfl
      have g4 := hf 4 _ rfl
      have g5 := hf 5 _ rfl
      simp [cs, ci] at g0 g1 g2 g3 g4 g5
      have e0 := hcell 0 (by omega)
      have e1 := hcell 1 (by omega)
      have e2 := hcell 2 (by omega)
      have e3 := hcell 3 (by omega)
      have e4 := hcell 4 (by omega)
      have e5 := hcell 5 (by omega)
      rw [add_add] at e0 e1 e2 e3 e4 e5
      obtain ⟨s0, q0, _, k0⟩ := DataW.trod_int Tryz.underlying3 g0
      obtain ⟨s1, q1, _, k1⟩ := DataW.trod_int Tryz.underlying3 g1
      obtain ⟨s2, q2, _, k2⟩ := DataW.trod_int Tryz.underlying3 g2
      obtain ⟨s3, q3, _, k3⟩ := DataW.trod_int Tryz.underlying3 g3
      obtain ⟨s4, q4, _, k4⟩ := DataW.trod_int Tryz.underlying3 g4
      obtain ⟨s5, q5, _, k5⟩ := DataW.trod_string Tryz.underlying9 g5
      simp only [List.cons.injEq, and_true] at q0 q1 q2 q3 q4 q5
      subst q0
      subst q1
      subst q2
      subst q3
      subst q4
      subst q5
      exact ⟨⟨s0, s1, s2, s3, s4, s5⟩, by simpa using e0, by simpa using e1, by simpa using e2, by simpa using e3, by simpa using e4, by simpa using e5, k0, k1, k2, k3, k4, k5⟩
  haveI : Inhabited Gea := ⟨⟨0, 0, 0, 0, 0, ByteArray.empty⟩⟩
  obtain ⟨q, hq⟩ := choose_lt each
  refine ⟨some a, cap, (List.range len).map q, by simp, ⟨some a, cap, rfl, by simp; omega, ?_⟩, ?_⟩
  · intro i x hx
    have hi : i < len := by
      rcases Nat.lt_or_ge i len with h | h
      · exact h
      · rw [List.getElem?_eq_none (by simpa using h)] at hx; cases hx
    rw [List.getElem?_map, List.getElem?_range hi] at hx
    simp only [Option.map_some, Option.some.injEq] at hx
    subst hx
    obtain ⟨h0, h1, h2, h3, h4, h5, _⟩ := hq i hi
    obtain ⟨b, off, spot⟩ := a
    have hspot : spot = none := by
      have := World.cell?_spot (hq 0 (by omega)).1
      simpa [Addr.add] using this
    subst hspot
    rw [Addr.add_lit] at h0 h1 h2 h3 h4 h5
    refine ⟨b, off, geaC (q i), rfl, World.block_lt_of_cell? w _ h0, trivial, rfl, ?_, rfl⟩
    intro j u hj
    have hj6 : j < 6 := (List.getElem?_eq_some_iff.1 hj).1
    match j, hj6, hj with
    | 0, _, hj => cases hj; exact h0
    | 1, _, hj => cases hj; rw [Nat.add_assoc]; exact h1
    | 2, _, hj => cases hj; rw [Nat.add_assoc]; exact h2
    | 3, _, hj => cases hj; rw [Nat.add_assoc]; exact h3
    | 4, _, hj => cases hj; rw [Nat.add_assoc]; exact h4
    | 5, _, hj => cases hj; rw [Nat.add_assoc]; exact h5
  · intro x hx
    obtain ⟨i, hi, rfl⟩ := List.mem_map.1 hx
    exact (hq i (List.mem_range.1 hi)).2.2.2.2.2.2
set_option maxRecDepth 100000 in
theorem open_gear {H : Type} {enc : TypeId × Value → H} {w : World} {base b0 : Nat} {spare : Nat → Bool} {held : Bool} {v : Value} {d : DataW H} {p : List MemPlace}
    (hv : Value.okWide Tryz.prog w .any b0 51 v) (h : DataW.Trod enc Tryz.prog w base spare held 51 v d p) :
    ∃ x : Gea, v = .agg #[.int .i64 x.kind, .int .i64 x.conn, .int .i64 x.user, .int .i64 x.a, .int .i64 x.b, .string x.text] ∧ geaW x := by
  obtain ⟨cs, rfl, hsz⟩ := okWide_struct Tryz.underlying51 hv
  have hC : Tryz.prog.cellsOf 51 = 6 := by kernel_rfl
  have ci : Tryz.prog.cellsOf 3 = 1 := by kernel_rfl
  have cs' : Tryz.prog.cellsOf 9 = 1 := by kernel_rfl
  obtain ⟨fuel, hf⟩ := h
  obtain ⟨xs, n, _, _, _, hxl, hx⟩ := DataW.trod_struct Tryz.underlying51 hf
  obtain ⟨c0, c1, c2, c3, c4, c5, rfl⟩ : ∃ c0 c1 c2 c3 c4 c5, cs = #[c0, c1, c2, c3, c4, c5] := by
    obtain ⟨l⟩ := cs
    match l, (hsz.trans hC) with
    | [c0, c1, c2, c3, c4, c5], _ => exact ⟨c0, c1, c2, c3, c4, c5, rfl⟩
  have hxl6 : xs.length = 6 := hxl
  have at' : ∀ i : Nat, i < 6 → ∃ y, xs[i]? = some y := fun i hi => ⟨_, List.getElem?_eq_getElem (by omega)⟩
  obtain ⟨y0, g0⟩ := at' 0 (by omega)
  obtain ⟨y1, g1⟩ := at' 1 (by omega)
  obtain ⟨y2, g2⟩ := at' 2 (by omega)
  obtain ⟨y3, g3⟩ := at' 3 (by omega)
  obtain ⟨y4, g4⟩ := at' 4 (by omega)
  obtain ⟨y5, g5⟩ := at' 5 (by omega)
  have h0 := (hx 0 _ rfl).trans g0
  have h1 := (hx 1 _ rfl).trans g1
  have h2 := (hx 2 _ rfl).trans g2
  have h3 := (hx 3 _ rfl).trans g3
  have h4 := (hx 4 _ rfl).trans g4
  have h5 := (hx 5 _ rfl).trans g5
  simp [ci, cs', Value.cells] at h0 h1 h2 h3 h4 h5
  obtain ⟨s0, q0, _, k0⟩ := DataW.trod_int Tryz.underlying3 h0
  obtain ⟨s1, q1, _, k1⟩ := DataW.trod_int Tryz.underlying3 h1
  obtain ⟨s2, q2, _, k2⟩ := DataW.trod_int Tryz.underlying3 h2
  obtain ⟨s3, q3, _, k3⟩ := DataW.trod_int Tryz.underlying3 h3
  obtain ⟨s4, q4, _, k4⟩ := DataW.trod_int Tryz.underlying3 h4
  obtain ⟨s5, q5, _, k5⟩ := DataW.trod_string Tryz.underlying9 h5
  simp only [List.cons.injEq, and_true] at q0 q1 q2 q3 q4 q5
  subst q0
  subst q1
  subst q2
  subst q3
  subst q4
  subst q5
  exact ⟨⟨s0, s1, s2, s3, s4, s5⟩, rfl, k0, k1, k2, k3, k4, k5⟩
end Go.Proofs.YtepfniiojjefhaaGreatDoor
namespace Go.Proofs.YtepfniiojjefhaaGreatDoor
open Go.RowKit Go.Proofs

def joeL (k : Nat) : List UInt8 := match k with | 0 => [106, 111, 101] | _ => [115, 112, 97, 109]
def annL (k : Nat) : List UInt8 := match k with | 0 => [97, 110, 110] | 1 => [98, 111, 98] | 2 => [99, 97, 116] | _ => [100, 97, 110]
def mailL (k : Nat) : List UInt8 := [77, 65, 73, 76, 32, 70, 82, 79, 77, 58, 60] ++ joeL k ++ [64, 122, 46, 122, 62]
def rcptL (k : Nat) : List UInt8 := [82, 67, 80, 84, 32, 84, 79, 58, 60] ++ annL k ++ [64, 120, 46, 121, 62]
def crL : List UInt8 := [13, 10]
def rcptsM (p : Nat) : Nat → List UInt8
  | 0 => []
  | k + 1 => rcptsM p k ++ if p.testBit k then rcptL k ++ crL else []
def lhloL : List UInt8 := [76, 72, 76, 79, 32, 120, 46, 121]
def lt1 (g : Gea) : List UInt8 := lhloL ++ crL ++ mailL (pickN g.a 2) ++ crL
/-- The lines of a letter. -/
def letterM (g : Gea) : List UInt8 := lt1 g ++ rcptsM (pickN g.user 8) 3 ++ ([68, 65, 84, 65, 13, 10] ++ headM g ++ crL) ++ [46] ++ gWd g ++ [13, 10, 46, 13, 10]
theorem joe_at {k : Nat} (h : k < 2) : ∀ h, ([.string { data := #[106, 111, 101] }, .string { data := #[115, 112, 97, 109] }] : List Value)[k]'h = .string (S (joeL k)) := by
  match k, h with
  | 0, _ | 1, _ => intro _; rfl
theorem joe_size (k : Nat) : (S (joeL k)).size ≤ 4 := by rw [size_S]; unfold joeL; split <;> decide
theorem rcptL_len (k : Nat) : (rcptL k ++ crL).length ≤ 20 := by
  unfold rcptL annL crL
  split <;> decide
theorem rcptsM_len (p k : Nat) : (rcptsM p k).length ≤ 20 * k := by
  induction k with
  | zero => simp [rcptsM]
  | succ k ih =>
    rw [rcptsM, List.length_append]
    split
    · have := rcptL_len k; omega
    · simp; omega
theorem headM_len (g : Gea) : (headM g).length ≤ 500 := by
  unfold headM headL2 headL1
  have h5 := pickN_lt g.b 5 (by decide)
  have h1 := wordL_len g.text.data.toList
  have h2 := k3_size (pickN g.b 3)
  rw [size_S] at h2
  have h3 : (if pickN g.b 4 = 1 then listL else []).length ≤ 11 := by split <;> simp [listL]
  simp only [List.length_append, xLs_len, gWd]
  simp only [subjL, List.length_cons, List.length_nil]
  omega
theorem bit_at {p j : Nat} (hp : p < 8) (hj : j < 3) : (bits BinOp.and IntKind.i64 ((p : Int) / 2 ^ j) 1 == 1) = p.testBit j := by
  obtain rfl | rfl | rfl | rfl | rfl | rfl | rfl | rfl : p = 0 ∨ p = 1 ∨ p = 2 ∨ p = 3 ∨ p = 4 ∨ p = 5 ∨ p = 6 ∨ p = 7 := by omega
  all_goals obtain rfl | rfl | rfl : j = 0 ∨ j = 1 ∨ j = 2 := by omega
  all_goals decide
theorem ann_at {k : Nat} (h : k < 3) : ∀ h, ([.string { data := #[97, 110, 110] }, .string { data := #[98, 111, 98] }, .string { data := #[99, 97, 116] }] : List Value)[k]'h = .string (S (annL k)) := by
  match k, h with
  | 0, _ | 1, _ | 2, _ => intro _; rfl
theorem ann_size (k : Nat) : (S (annL k)).size = 3 := by rw [size_S]; unfold annL; split <;> rfl
theorem rcpt_S (k : Nat) : (⟨#[82, 67, 80, 84, 32, 84, 79, 58, 60]⟩ : ByteArray) ++ S (annL k) ++ ⟨#[64, 120, 46, 121, 62, 13, 10]⟩ = S (rcptL k ++ crL) := by
  show S [82, 67, 80, 84, 32, 84, 79, 58, 60] ++ S (annL k) ++ S [64, 120, 46, 121, 62, 13, 10] = _
  rw [S_app, S_app]
  simp [rcptL, crL]
theorem rc_yes {p j : Nat} (L : List UInt8) (h : p.testBit j = true) : S (L ++ rcptsM p j) ++ S (rcptL j ++ crL) = S (L ++ rcptsM p (j + 1)) := by
  rw [S_app, rcptsM, if_pos h, List.append_assoc]
theorem rc_no {p j : Nat} (L : List UInt8) (h : p.testBit j = false) : S (L ++ rcptsM p j) = S (L ++ rcptsM p (j + 1)) := by
  rw [rcptsM, if_neg (by simp [h]), List.append_nil]
set_option maxHeartbeats 1000000 in
set_option maxRecDepth 100000 in
theorem letter_any (g : Gea) (w : World) (hw : geaW g) :
    Calls Tryz.prog 22 #[geaV g] w fun e w' => e = .returned (.string (S (letterM g))) ∧ Below w.heap.size w w' := by
  have HW := hid hw
  have h2 := pickN_lt g.a 2 (by decide)
  have h8 := pickN_lt g.user 8 (by decide)
  have HP2 := hid (fun u => Picked_any g.a 2 u HW.out.2.2.2.1 (by decide) (by decide))
  have HP8 := hid (fun u => Picked_any g.user 8 u HW.out.2.2.1 (by decide) (by decide))
  have HL1 := hid (show lt1 g = lhloL ++ crL ++ mailL (pickN g.a 2) ++ crL from rfl)
  have HLM := hid (show letterM g = lt1 g ++ rcptsM (pickN g.user 8) 3 ++ ([68, 65, 84, 65, 13, 10] ++ headM g ++ crL) ++ [46] ++ gWd g ++ [13, 10, 46, 13, 10] from rfl)
  generalize pickN g.a 2 = k at *
  generalize pickN g.user 8 = p at *
  have hget := joe_at h2
  have hsz := joe_size k
  have hi0 : (0 : Int) ≤ (k : Int) := by omega
  have hi2 : (k : Int) < 2 := by omega
  clear hw
  unfold geaV
  go_enter Tryz.func22, Tryz.ntmps22
  go_wp2_with fail
  refine (HP2.out _).mono ?_
  rintro e u ⟨rfl, hu⟩
  have hu' := hu.symm
  subst hu'
  clear hu
  obtain ⟨W1, hW1⟩ : ∃ W1, W1 = (w.alloc (.cells #[.int .i64 g.kind, .int .i64 g.conn, .int .i64 g.user, .int .i64 g.a, .int .i64 g.b, .string g.text] 51)).alloc (.cells #[.string { data := #[106, 111, 101] }, .string { data := #[115, 112, 97, 109] }] 9) := ⟨_, rfl⟩
  have HB1 := hid (show Below w.heap.size w W1 by rw [hW1]; exact ((Below.refl _ _).alloc (Nat.le_refl _) _).alloc (by simp) _)
  have hh : W1.heap[w.heap.size]? = some (.cells #[.int .i64 g.kind, .int .i64 g.conn, .int .i64 g.user, .int .i64 g.a, .int .i64 g.b, .string g.text] 51) := by
    rw [hW1]
    exact (((Below.refl _ _).alloc (Nat.le_refl _) _).block w.heap.size (by simp)).trans (heap_alloc_new w _)
  have HG := hid (show ∀ v, Below W1.heap.size W1 v → v.cell? ⟨w.heap.size, 0, none⟩ = some (.int .i64 g.kind) ∧ v.cell? ⟨w.heap.size, 1, none⟩ = some (.int .i64 g.conn) ∧ v.cell? ⟨w.heap.size, 2, none⟩ = some (.int .i64 g.user) ∧ v.cell? ⟨w.heap.size, 3, none⟩ = some (.int .i64 g.a) ∧ v.cell? ⟨w.heap.size, 4, none⟩ = some (.int .i64 g.b) ∧ v.cell? ⟨w.heap.size, 5, none⟩ = some (.string g.text) from fun v hv =>
    ⟨wcell_next (by simp [World.cell?, hh]) hv, wcell_next (by simp [World.cell?, hh]) hv, wcell_next (by simp [World.cell?, hh]) hv, wcell_next (by simp [World.cell?, hh]) hv, wcell_next (by simp [World.cell?, hh]) hv, wcell_next (by simp [World.cell?, hh]) hv⟩)
  have HT1 := hid (show (⟨#[76, 72, 76, 79, 32, 120, 46, 121, 13, 10, 77, 65, 73, 76, 32, 70, 82, 79, 77, 58, 60]⟩ : ByteArray) ++ S (joeL k) ++ ⟨#[64, 122, 46, 122, 62, 13, 10]⟩ = S (lt1 g ++ rcptsM p 0) by
    rw [HL1.out]
    show S [76, 72, 76, 79, 32, 120, 46, 121, 13, 10, 77, 65, 73, 76, 32, 70, 82, 79, 77, 58, 60] ++ S (joeL k) ++ S [64, 122, 46, 122, 62, 13, 10] = _
    rw [S_app, S_app]
    simp [lhloL, crL, mailL, rcptsM])
  have hl1 : (lt1 g).length ≤ 40 := by
    rw [HL1.out]
    rw [size_S] at hsz
    simp only [List.length_append, lhloL, crL, mailL, List.length_cons, List.length_nil]
    omega
  go_wp2_with fail
  rw [HT1.out, ← hW1]
  clear hW1 hh hget hi0 hi2
  go_loopw [3, 4] (fun s i wr => ∃ j : Nat, j ≤ 3 ∧ s = .string (S (lt1 g ++ rcptsM p j)) ∧ i = .int .i64 j ∧ Hid (Below W1.heap.size W1 wr)) (fun _ i _ => 3 - (intOf i).toNat)
  case atStart => exact ⟨0, Nat.zero_le _, rfl, rfl, hid (Below.refl _ _)⟩
  case round =>
    obtain ⟨j, hj, rfl, rfl, HBR⟩ := hrel
    obtain ⟨g0, g1, g2, g3, g4, g5⟩ := HG.out wr HBR.out
    have hxs : (S (lt1 g ++ rcptsM p j)).size ≤ 200 := by
      rw [size_S, List.length_append]
      have := rcptsM_len p j
      omega
    by_cases hlt : j < 3
    · have i1 : (j : Int) < 3 := by omega
      have HRJ := hid (show rcptsM p (j + 1) = rcptsM p j ++ if p.testBit j then rcptL j ++ crL else [] from rfl)
      go_wp2_with fail
      refine (HP8.out _).mono ?_
      rintro e u ⟨rfl, hu⟩
      have hu' := hu.symm
      subst hu'
      clear hu
      have hbit := bit_at h8 hlt
      have hget := ann_at hlt
      have hi0 : (0 : Int) ≤ (j : Int) := by omega
      have hsa := ann_size j
      cases hb : p.testBit j with
      | true =>
        have HY := hid (rc_yes (lt1 g) hb)
        rw [hb] at hbit
        clear hb
        go_wp2
        go_roundw
        case rel => exact ⟨j + 1, by omega, by rw [← HY.out, ← rcpt_S], by go_num, hid (HBR.out.alloc HBR.out.size _)⟩
        case measure => simp [intOf]; omega
      | false =>
        have HY := hid (rc_no (lt1 g) hb)
        rw [hb] at hbit
        clear hb
        go_wp2
        go_roundw
        case rel => exact ⟨j + 1, by omega, by rw [← HY.out], by go_num, HBR⟩
        case measure => simp [intOf]; omega
    · have i1 : ¬ (j : Int) < 3 := by omega
      obtain rfl : j = 3 := by omega
      have hhl := headM_len g
      have hhs : (S (headM g)).size ≤ 500 := by rw [size_S]; exact hhl
      have hwl : (S (wordL g.text.data.toList)).size ≤ 8 := by rw [size_S]; exact wordL_len _
      go_wp2_with fail
      rw [show Value.agg #[.int .i64 g.kind, .int .i64 g.conn, .int .i64 g.user, .int .i64 g.a, .int .i64 g.b, .string g.text] = geaV g from rfl]
      refine (head_any g wr HW.out).mono ?_
      rintro e w2 ⟨rfl, hb2⟩
      have HB2 := hid (HBR.out.trans (hb2.mono HBR.out.size))
      obtain ⟨g0, g1, g2, g3, g4, g5⟩ := HG.out w2 HB2.out
      clear hb2
      go_wp2_with fail
      refine (Word_any g.text w2 HW.out.2.2.2.2.2).mono ?_
      rintro e w3 ⟨rfl, hb3⟩
      have HB3 := hid (HB2.out.trans (hb3.mono HB2.out.size))
      clear hb3
      go_wp2
      go_ret
      refine ⟨?_, HB1.out.trans (HB3.out.mono HB1.out.size)⟩
      rw [HLM.out]
      show Ending.returned (.string (S (lt1 g ++ rcptsM p 3) ++ (S [68, 65, 84, 65, 13, 10] ++ S (headM g) ++ S [13, 10]) ++ S [46] ++ S (gWd g) ++ S [13, 10, 46, 13, 10])) = _
      rw [S_app, S_app, S_app, S_app, S_app, S_app]
      rfl
end Go.Proofs.YtepfniiojjefhaaGreatDoor
namespace Go.Proofs.YtepfniiojjefhaaGreatDoor
open Go.RowKit Go.Proofs

def wfL (k : Nat) : List UInt8 := match k with | 0 => [119, 111, 114, 107] | _ => [102, 117, 110]
def lineK (g : Gea) : Nat → List UInt8
  | 0 | 1 => lhloL
  | 2 | 3 | 4 => mailL (pickN g.a 2)
  | 5 | 6 | 7 => rcptL (pickN g.user 4)
  | 8 => [68, 65, 84, 65]
  | 9 => [82, 83, 69, 84]
  | 10 => [81, 85, 73, 84]
  | 11 => subjL ++ wfL (pickN g.a 2) ++ crL
  | 12 => [46]
  | 13 => [76, 105, 115, 116, 58, 32, 97]
  | _ => valL g.text.data.toList
/-- A line that a session may send. -/
def tlineM (g : Gea) : List UInt8 := lineK g (pickN g.kind 16)
theorem ann4_at {k : Nat} (h : k < 4) : ∀ h, ([.string { data := #[97, 110, 110] }, .string { data := #[98, 111, 98] }, .string { data := #[99, 97, 116] }, .string { data := #[100, 97, 110] }] : List Value)[k]'h = .string (S (annL k)) := by
  match k, h with
  | 0, _ | 1, _ | 2, _ | 3, _ => intro _; rfl
theorem wf_at {k : Nat} (h : k < 2) : ∀ h, ([.string { data := #[119, 111, 114, 107] }, .string { data := #[102, 117, 110] }] : List Value)[k]'h = .string (S (wfL k)) := by
  match k, h with
  | 0, _ | 1, _ => intro _; rfl
theorem wf_size (k : Nat) : (S (wfL k)).size ≤ 4 := by rw [size_S]; unfold wfL; split <;> decide
theorem mail_S (k : Nat) : (⟨#[77, 65, 73, 76, 32, 70, 82, 79, 77, 58, 60]⟩ : ByteArray) ++ S (joeL k) ++ ⟨#[64, 122, 46, 122, 62]⟩ = S (mailL k) := by
  show S [77, 65, 73, 76, 32, 70, 82, 79, 77, 58, 60] ++ S (joeL k) ++ S [64, 122, 46, 122, 62] = _
  rw [S_app, S_app]
  rfl
theorem rcp_S (k : Nat) : (⟨#[82, 67, 80, 84, 32, 84, 79, 58, 60]⟩ : ByteArray) ++ S (annL k) ++ ⟨#[64, 120, 46, 121, 62]⟩ = S (rcptL k) := by
  show S [82, 67, 80, 84, 32, 84, 79, 58, 60] ++ S (annL k) ++ S [64, 120, 46, 121, 62] = _
  rw [S_app, S_app]
  rfl
theorem sub_S (k : Nat) : (⟨#[83, 117, 98, 106, 101, 99, 116, 58, 32]⟩ : ByteArray) ++ S (wfL k) ++ ⟨#[13, 10]⟩ = S (subjL ++ wfL k ++ crL) := by
  show S subjL ++ S (wfL k) ++ S crL = _
  rw [S_app, S_app]
set_option maxHeartbeats 2000000 in
set_option maxRecDepth 100000 in
theorem line_any' (g : Gea) (w : World) (hw : geaW g) :
    Calls Tryz.prog 23 #[geaV g] w fun e w' => e = .returned (.string (S (tlineM g))) ∧ Below w.heap.size w w' := by
  have HW := hid hw
  have h2 := pickN_lt g.a 2 (by decide)
  have h4 := pickN_lt g.user 4 (by decide)
  have h16 := pickN_lt g.kind 16 (by decide)
  have HP2 := hid (fun u => Picked_any g.a 2 u HW.out.2.2.2.1 (by decide) (by decide))
  have HP4 := hid (fun u => Picked_any g.user 4 u HW.out.2.2.1 (by decide) (by decide))
  have HPK := hid (fun u => Picked_any g.kind 16 u HW.out.1 (by decide) (by decide))
  have HVA := hid (fun u => Value_any g.text u HW.out.2.2.2.2.2)
  have HM := hid (show tlineM g = lineK g (pickN g.kind 16) from rfl)
  have HB := hid (show ∀ a b : Obj, Below w.heap.size w ((w.alloc a).alloc b) from fun a b => ((Below.refl _ _).alloc (Nat.le_refl _) a).alloc (by simp) b)
  have HB3 := hid (show ∀ a b d : Obj, Below w.heap.size w (((w.alloc a).alloc b).alloc d) from fun a b d => (((Below.refl _ _).alloc (Nat.le_refl _) a).alloc (by simp) b).alloc (by simp; omega) d)
  have e2 : ∀ k, k = 2 ∨ k = 3 ∨ k = 4 → lineK g k = mailL (pickN g.a 2) := by rintro k (rfl | rfl | rfl) <;> rfl
  have e5 : ∀ k, k = 5 ∨ k = 6 ∨ k = 7 → lineK g k = rcptL (pickN g.user 4) := by rintro k (rfl | rfl | rfl) <;> rfl
  have e11 : lineK g 11 = subjL ++ wfL (pickN g.a 2) ++ crL := rfl
  have HE2 := hid e2
  have HE5 := hid e5
  have HE11 := hid e11
  clear e2 e5 e11 hw
  generalize pickN g.a 2 = i at *
  generalize pickN g.user 4 = j at *
  generalize pickN g.kind 16 = k at *
  have hj0 : (0 : Int) ≤ (j : Int) := by omega
  have hj4 : (j : Int) < 4 := by omega
  have hi0 : (0 : Int) ≤ (i : Int) := by omega
  have hi2 : (i : Int) < 2 := by omega
  have hget := ann4_at h4
  have hgj := joe_at h2
  have hgw := wf_at h2
  have s1 := ann_size j
  have s2 := joe_size i
  have s3 := wf_size i
  unfold geaV
  go_enter Tryz.func23, Tryz.ntmps23
  go_wp2_with fail
  refine (HP4.out _).mono ?_
  rintro e u ⟨rfl, hu⟩
  have hu' := hu.symm
  subst hu'
  clear hu
  go_wp2_with fail
  refine (HPK.out _).mono ?_
  rintro e u ⟨rfl, hu⟩
  have hu' := hu.symm
  subst hu'
  clear hu hget hj0 hj4
  obtain rfl | rfl | rfl | rfl | rfl | rfl | rfl | rfl | rfl | rfl | rfl | rfl | rfl | rfl | rfl | rfl : k = 0 ∨ k = 1 ∨ k = 2 ∨ k = 3 ∨ k = 4 ∨ k = 5 ∨ k = 6 ∨ k = 7 ∨ k = 8 ∨ k = 9 ∨ k = 10 ∨ k = 11 ∨ k = 12 ∨ k = 13 ∨ k = 14 ∨ k = 15 := by omega
  iterate 2
    · go_wp2
      go_ret
      exact ⟨by rw [HM.out]; rfl, HB.out _ _⟩
  iterate 3
    · go_wp2_with fail
      refine (HP2.out _).mono ?_
      rintro e u ⟨rfl, hu⟩
      have hu' := hu.symm
      subst hu'
      clear hu
      go_wp2
      go_ret
      exact ⟨by rw [HM.out, HE2.out _ (by decide), ← mail_S]; rfl, HB3.out _ _ _⟩
  iterate 3
    · go_wp2
      go_ret
      exact ⟨by rw [HM.out, HE5.out _ (by decide), ← rcp_S]; rfl, HB.out _ _⟩
  iterate 3
    · go_wp2
      go_ret
      exact ⟨by rw [HM.out]; rfl, HB.out _ _⟩
  · go_wp2_with fail
    refine (HP2.out _).mono ?_
    rintro e u ⟨rfl, hu⟩
    have hu' := hu.symm
    subst hu'
    clear hu
    go_wp2
    go_ret
    exact ⟨by rw [HM.out, HE11.out, ← sub_S]; rfl, HB3.out _ _ _⟩
  iterate 2
    · go_wp2
      go_ret
      exact ⟨by rw [HM.out]; rfl, HB.out _ _⟩
  iterate 2
    · go_wp2_with fail
      refine (HVA.out _).mono ?_
      rintro e u ⟨rfl, hu⟩
      have HU := hid (show Below w.heap.size w u from (HB.out _ _).trans (hu.mono (HB.out _ _).size))
      clear hu
      go_wp2
      go_ret
      exact ⟨by rw [HM.out]; rfl, HU.out⟩
end Go.Proofs.YtepfniiojjefhaaGreatDoor
namespace Go.Proofs.YtepfniiojjefhaaGreatDoor
open Go.RowKit Go.Proofs

def mailC (m : Mail) : List Value := [.int .i64 m.uid, .int .i64 m.flags, .string (S m.text)]
def entC (x : Ent) : List Value := [.int .i64 x.kind, .string (S x.box), .int .i64 x.uid, .int .i64 x.flags, .string (S x.goal), .string (S x.text)]
def boxC (b : Bx) (v : Value) : List Value := [.string (S b.name), .int .i64 b.next, v]
def MailM (m : Mail) (cs : List Value) : Prop := cs = mailC m
def EntM (x : Ent) (cs : List Value) : Prop := cs = entC x
def MailsM (Q : Nat → Prop) (w : World) (v : Value) (l : List Mail) : Prop := RowM Q 3 MailM w v l
def EntsM (Q : Nat → Prop) (w : World) (v : Value) (l : List Ent) : Prop := RowM Q 6 EntM w v l
def BoxM (Q : Nat → Prop) (w : World) (b : Bx) (cs : List Value) : Prop := ∃ v, cs = boxC b v ∧ MailsM Q w v b.mails
def BoxsM (Q : Nat → Prop) (w : World) (v : Value) (l : List Bx) : Prop := RowM Q 3 (BoxM Q w) w v l
/-- A state in memory: its boxes and what goes out. -/
def SttM (Q : Nat → Prop) (w : World) (vb vs : Value) (s : Stt) : Prop := BoxsM Q w vb s.boxes ∧ EntsM Q w vs s.spool ∧ ∀ a n c, vb = .slice a n c → n ≤ c
theorem MailsM.imp {Q Q' : Nat → Prop} {w w' : World} {v : Value} {l : List Mail} (h : MailsM Q w v l) (hq : ∀ b, Q b → Q' b) (hk : Keeps Q w w') : MailsM Q' w' v l := RowM.imp h hq hk fun _ _ h => h
theorem EntsM.imp {Q Q' : Nat → Prop} {w w' : World} {v : Value} {l : List Ent} (h : EntsM Q w v l) (hq : ∀ b, Q b → Q' b) (hk : Keeps Q w w') : EntsM Q' w' v l := RowM.imp h hq hk fun _ _ h => h
theorem BoxM.imp {Q Q' : Nat → Prop} {w w' : World} {b : Bx} {cs : List Value} (h : BoxM Q w b cs) (hq : ∀ b, Q b → Q' b) (hk : Keeps Q w w') : BoxM Q' w' b cs := by
  obtain ⟨v, e, h⟩ := h; exact ⟨v, e, h.imp hq hk⟩
theorem BoxsM.imp {Q Q' : Nat → Prop} {w w' : World} {v : Value} {l : List Bx} (h : BoxsM Q w v l) (hq : ∀ b, Q b → Q' b) (hk : Keeps Q w w') : BoxsM Q' w' v l := RowM.imp h hq hk fun _ _ h => h.imp hq hk
theorem SttM.imp {Q Q' : Nat → Prop} {w w' : World} {vb vs : Value} {s : Stt} (h : SttM Q w vb vs s) (hq : ∀ b, Q b → Q' b) (hk : Keeps Q w w') : SttM Q' w' vb vs s := ⟨h.1.imp hq hk, h.2.1.imp hq hk, h.2.2⟩
theorem SttM.next {Q : Nat → Prop} {w w' : World} {vb vs : Value} {s : Stt} (h : SttM Q w vb vs s) (hb : Below w.heap.size w w') : SttM Q w' vb vs s := h.imp (fun _ h => h) (Keeps.of_below hb)
theorem BoxsM.next {Q : Nat → Prop} {w w' : World} {v : Value} {l : List Bx} (h : BoxsM Q w v l) (hb : Below w.heap.size w w') : BoxsM Q w' v l := h.imp (fun _ h => h) (Keeps.of_below hb)
theorem EntsM.next {Q : Nat → Prop} {w w' : World} {v : Value} {l : List Ent} (h : EntsM Q w v l) (hb : Below w.heap.size w w') : EntsM Q w' v l := h.imp (fun _ h => h) (Keeps.of_below hb)
theorem MailsM.next {Q : Nat → Prop} {w w' : World} {v : Value} {l : List Mail} (h : MailsM Q w v l) (hb : Below w.heap.size w w') : MailsM Q w' v l := h.imp (fun _ h => h) (Keeps.of_below hb)

/- One element. -/
theorem MailsM.at {Q : Nat → Prop} {w : World} {a : Option Addr} {n c : Nat} {l : List Mail} (h : MailsM Q w (.slice a n c) l) {i : Nat} {x : Mail} (hx : l[i]? = some x) : ∃ b o, a = some ⟨b, o, none⟩ ∧ Q b ∧ w.cell? ⟨b, o + i * 3, none⟩ = some (.int .i64 x.uid) ∧ w.cell? ⟨b, o + i * 3 + 1, none⟩ = some (.int .i64 x.flags) ∧ w.cell? ⟨b, o + i * 3 + 2, none⟩ = some (.string (S x.text)) := by
  obtain ⟨a', c', hv, _, hr⟩ := h
  simp only [Value.slice.injEq] at hv
  obtain ⟨rfl, _, rfl⟩ := hv
  obtain ⟨b, o, cs, rfl, _, hq, _, hc, hP⟩ := hr i x hx
  have hcs : cs = _ := hP
  subst hcs
  exact ⟨b, o, rfl, hq, by simpa using hc 0 _ rfl, hc 1 _ rfl, hc 2 _ rfl⟩
theorem BoxsM.at {Q : Nat → Prop} {w : World} {a : Option Addr} {n c : Nat} {l : List Bx} (h : BoxsM Q w (.slice a n c) l) {i : Nat} {x : Bx} (hx : l[i]? = some x) : ∃ b o v, a = some ⟨b, o, none⟩ ∧ Q b ∧ w.cell? ⟨b, o + i * 3, none⟩ = some (.string (S x.name)) ∧ w.cell? ⟨b, o + i * 3 + 1, none⟩ = some (.int .i64 x.next) ∧ w.cell? ⟨b, o + i * 3 + 2, none⟩ = some v ∧ MailsM Q w v x.mails := by
  obtain ⟨a', c', hv, _, hr⟩ := h
  simp only [Value.slice.injEq] at hv
  obtain ⟨rfl, _, rfl⟩ := hv
  obtain ⟨b, o, cs, rfl, _, hq, _, hc, v, hcs, hm⟩ := hr i x hx
  subst hcs
  exact ⟨b, o, v, rfl, hq, by simpa using hc 0 _ rfl, hc 1 _ rfl, hc 2 _ rfl, hm⟩
theorem EntsM.at {Q : Nat → Prop} {w : World} {a : Option Addr} {n c : Nat} {l : List Ent} (h : EntsM Q w (.slice a n c) l) {i : Nat} {x : Ent} (hx : l[i]? = some x) : ∃ b o, a = some ⟨b, o, none⟩ ∧ Q b ∧ w.cell? ⟨b, o + i * 6, none⟩ = some (.int .i64 x.kind) ∧ w.cell? ⟨b, o + i * 6 + 1, none⟩ = some (.string (S x.box)) ∧ w.cell? ⟨b, o + i * 6 + 2, none⟩ = some (.int .i64 x.uid) ∧ w.cell? ⟨b, o + i * 6 + 3, none⟩ = some (.int .i64 x.flags) ∧ w.cell? ⟨b, o + i * 6 + 4, none⟩ = some (.string (S x.goal)) ∧ w.cell? ⟨b, o + i * 6 + 5, none⟩ = some (.string (S x.text)) := by
  obtain ⟨a', c', hv, _, hr⟩ := h
  simp only [Value.slice.injEq] at hv
  obtain ⟨rfl, _, rfl⟩ := hv
  obtain ⟨b, o, cs, rfl, _, hq, _, hc, hP⟩ := hr i x hx
  have hcs : cs = _ := hP
  subst hcs
  exact ⟨b, o, rfl, hq, by simpa using hc 0 _ rfl, hc 1 _ rfl, hc 2 _ rfl, hc 3 _ rfl, hc 4 _ rfl, hc 5 _ rfl⟩

theorem flatten_nth {k : Nat} : ∀ {css : List (List Value)} {i j : Nat} {cs : List Value}, (∀ c ∈ css, c.length = k) → css[i]? = some cs → j < k → css.flatten[i * k + j]? = cs[j]? := by
  intro css
  induction css with
  | nil => intro i j cs _ h _; simp at h
  | cons c css ih =>
    intro i j cs hk h hj
    have hc : c.length = k := hk c (by simp)
    cases i with
    | zero =>
      simp at h
      subst h
      simp only [Nat.zero_mul, Nat.zero_add, List.flatten_cons]
      rw [List.getElem?_append_left (by omega)]
    | succ i =>
      have := ih (j := j) (fun c hc => hk c (by simp [hc])) (by simpa using h) hj
      simp only [List.flatten_cons]
      rw [List.getElem?_append_right (by rw [hc, Nat.add_mul]; omega), ← this]
      congr 1
      rw [hc, Nat.add_mul]
      omega
theorem map_flat_len {A : Type} {k : Nat} (f : A → List Value) (hf : ∀ x, (f x).length = k) (l : List A) : ∀ cs ∈ l.map f, cs.length = k := by
  intro cs h; obtain ⟨x, _, rfl⟩ := List.mem_map.1 h; exact hf x

/- What a call owns: rows in blocks of their own. -/
def Apart (u v : Value) : Prop := ∀ k, u.ownBlock = some k → v.ownBlock ≠ some k
theorem Apart.symm {u v : Value} (h : Apart u v) : Apart v u := fun k hv hu => h k hu hv
def bxCs : List Bx → List Value → List (List Value)
  | b :: r, v :: vs => boxC b v :: bxCs r vs
  | _, _ => []
theorem bxCs_each : ∀ (l : List Bx) (vs : List Value), ∀ cs ∈ bxCs l vs, cs.length = 3 := by
  intro l
  induction l with
  | nil => intro vs cs h; cases vs <;> cases h
  | cons b l ih =>
    intro vs cs h
    cases vs with
    | nil => cases h
    | cons v vs =>
      simp only [bxCs, List.mem_cons] at h
      rcases h with rfl | h
      · rfl
      · exact ih vs cs h
theorem bxCs_at : ∀ (l : List Bx) (vs : List Value) (i : Nat) (b : Bx) (v : Value), l[i]? = some b → vs[i]? = some v → (bxCs l vs)[i]? = some (boxC b v) := by
  intro l
  induction l with
  | nil => intro vs i b v h; simp at h
  | cons c l ih =>
    intro vs i b v h h'
    cases vs with
    | nil => simp at h'
    | cons u vs =>
      cases i with
      | zero => simp at h h'; subst h; subst h'; rfl
      | succ i => simp at h h'; simpa [bxCs] using ih vs i b v h h'
/-- A state in rows that a call has made: rows apart from each other. -/
structure OwnS (B : Nat) (w : World) (vb vs : Value) (vm : List Value) (s : Stt) : Prop where
  boxes : w.ownsRow B 110 3 vb s.boxes.length (bxCs s.boxes vm).flatten
  spool : w.ownsRow B 44 6 vs s.spool.length (s.spool.map entC).flatten
  len : vm.length = s.boxes.length
  mails : ∀ (i : Nat) b v, s.boxes[i]? = some b → vm[i]? = some v → w.ownsRow B 183 3 v b.mails.length (b.mails.map mailC).flatten
  bs : Apart vb vs
  mb : ∀ v ∈ vm, Apart v vb
  ms : ∀ v ∈ vm, Apart v vs
  mm : ∀ (i j : Nat) u v, i ≠ j → vm[i]? = some u → vm[j]? = some v → Apart u v
/-- The blocks of a state's rows. -/
def inS (vb vs : Value) (vm : List Value) (k : Nat) : Prop := vb.ownBlock = some k ∨ vs.ownBlock = some k ∨ ∃ v ∈ vm, v.ownBlock = some k
theorem owns_keep {w w' : World} {B n k : Nat} {e : TypeId} {v : Value} {xs : List Value} (h : w.ownsRow B e k v n xs) (hk : ∀ g, v.ownBlock = some g → w'.heap[g]? = w.heap[g]?) : w'.ownsRow B e k v n xs := by
  refine ⟨h.1, ?_⟩
  rcases h.2 with hn | ⟨g, cap, cur, rfl, hb, hgg, rest⟩
  · exact .inl hn
  · exact .inr ⟨g, cap, cur, rfl, hb, (hk g rfl).trans hgg, rest⟩
theorem OwnS.keep {B : Nat} {w w' : World} {vb vs : Value} {vm : List Value} {s : Stt} (h : OwnS B w vb vs vm s) (hk : ∀ g, inS vb vs vm g → w'.heap[g]? = w.heap[g]?) : OwnS B w' vb vs vm s :=
  ⟨owns_keep h.boxes fun g hg => hk g (.inl hg), owns_keep h.spool fun g hg => hk g (.inr (.inl hg)), h.len, fun i b v hb hv => owns_keep (h.mails i b v hb hv) fun g hg => hk g (.inr (.inr ⟨v, List.mem_of_getElem? hv, hg⟩)), h.bs, h.mb, h.ms, h.mm⟩
theorem OwnS.lt {B : Nat} {w : World} {vb vs : Value} {vm : List Value} {s : Stt} (h : OwnS B w vb vs vm s) {g : Nat} (hg : inS vb vs vm g) : B ≤ g ∧ g < w.heap.size := by
  rcases hg with hg | hg | ⟨v, hv, hg⟩
  · exact World.ownsRow.lt h.boxes g hg
  · exact World.ownsRow.lt h.spool g hg
  · obtain ⟨i, hi, rfl⟩ := List.getElem_of_mem hv
    have hi' : i < s.boxes.length := by rw [← h.len]; exact hi
    exact World.ownsRow.lt (h.mails i _ _ (List.getElem?_eq_getElem hi') (List.getElem?_eq_getElem hi)) g hg
theorem OwnS.next {B : Nat} {w w' : World} {vb vs : Value} {vm : List Value} {s : Stt} (h : OwnS B w vb vs vm s) (hb : Below w.heap.size w w') : OwnS B w' vb vs vm s := h.keep fun g hg => hb.block g (h.lt hg).2
/- What is owned can be read. -/
theorem own_row {A : Type} {B n k : Nat} {e : TypeId} {w : World} {v : Value} {l : List A} {css : List (List Value)} {P : A → List Value → Prop} {Q : Nat → Prop} (h : w.ownsRow B e k v n css.flatten) (hn : n = l.length) (hm : n ≤ maxLen) (hl : css.length = l.length) (he : ∀ cs ∈ css, cs.length = k)
    (hP : ∀ (i : Nat) x cs, l[i]? = some x → css[i]? = some cs → P x cs) (hQ : ∀ g, v.ownBlock = some g → Q g) : RowM Q k P w v l := by
  subst hn
  rcases h.2 with ⟨rfl, h0⟩ | ⟨g, cap, cur, rfl, hb, hg, h1, h2, h3, ht⟩
  · have : l = [] := List.length_eq_zero_iff.1 h0
    subst this
    exact rowM_nil _ _ _ _ _ _
  · refine ⟨some ⟨g, 0, none⟩, cap, rfl, hm, fun i x hx => ?_⟩
    have hi : i < l.length := (List.getElem?_eq_some_iff.1 hx).1
    have hc : css[i]? = some css[i] := List.getElem?_eq_getElem (by omega)
    refine ⟨g, 0, css[i], rfl, (Array.getElem?_eq_some_iff.1 hg).1, hQ g rfl, he _ (List.mem_of_getElem? hc), ?_, hP i x _ hx hc⟩
    intro j u hj
    have hjk : j < k := by rw [← he _ (List.mem_of_getElem? hc)]; exact (List.getElem?_eq_some_iff.1 hj).1
    have := World.ownsRow.cells h (g := g) rfl (i * k + j) u (by rw [flatten_nth he hc hjk]; exact hj)
    rw [Addr.add_lit] at this
    simpa [Nat.add_assoc] using this
theorem OwnS.small {B : Nat} {w : World} {vb vs : Value} {vm : List Value} {s : Stt} (h : OwnS B w vb vs vm s) : ∃ a c, vb = .slice a s.boxes.length c := by
  rcases h.boxes.2 with ⟨rfl, hn⟩ | ⟨g, cap, cur, rfl, _⟩
  · exact ⟨none, 0, by rw [hn]⟩
  · exact ⟨_, _, rfl⟩
/-- A box in its row: where it lies. -/
theorem OwnS.box {B : Nat} {w : World} {vb vs : Value} {vm : List Value} {s : Stt} (h : OwnS B w vb vs vm s) {i : Nat} {b : Bx} (hb : s.boxes[i]? = some b) : ∃ g c v, vb = .slice (some ⟨g, 0, none⟩) s.boxes.length c ∧ vm[i]? = some v ∧ w.cell? ⟨g, i * 3, none⟩ = some (.string (S b.name)) ∧ w.cell? ⟨g, i * 3 + 1, none⟩ = some (.int .i64 b.next) ∧ w.cell? ⟨g, i * 3 + 2, none⟩ = some v ∧
    w.frozen? ⟨g, i * 3 + 1, none⟩ = false ∧ w.frozen? ⟨g, i * 3 + 2, none⟩ = false := by
  have hi0 : i < s.boxes.length := (List.getElem?_eq_some_iff.1 hb).1
  have hi : i < vm.length := by rw [h.len]; exact hi0
  have hv : vm[i]? = some vm[i] := List.getElem?_eq_getElem hi
  rcases h.boxes.2 with ⟨_, hn⟩ | ⟨g, cap, cur, e, _, hg, _⟩
  · omega
  · have hat := bxCs_at _ _ _ _ _ hb hv
    have hc : ∀ j u, (boxC b vm[i])[j]? = some u → w.cell? ⟨g, i * 3 + j, none⟩ = some u := fun j u hj => by
      have hj3 : j < 3 := (List.getElem?_eq_some_iff.1 hj).1
      have := World.ownsRow.cells h.boxes (g := g) (by rw [e]; rfl) (i * 3 + j) u (by rw [flatten_nth (bxCs_each _ _) hat hj3]; exact hj)
      rw [Addr.add_lit] at this
      simpa using this
    exact ⟨g, cap, _, e, hv, hc 0 _ rfl, hc 1 _ rfl, hc 2 _ rfl, by simp [World.frozen?, hg], by simp [World.frozen?, hg]⟩
end Go.Proofs.YtepfniiojjefhaaGreatDoor
