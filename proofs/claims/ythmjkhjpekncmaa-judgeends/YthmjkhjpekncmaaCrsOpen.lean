/-
  How an argument that is a plain course is read, and how many actions it can have within the form's reach.
-/
import Derived.Test.YthmjkhjpekncmaaJudEnd
import Derived.Deep.SlicePairs
import Derived.Lib.SmallJoins
import Derived.ProofKit
import Derived.OpenShut
import Derived.SizedLaws
namespace Go.Proofs.Ythmjkhjpekncmaa
open Go.RowKit Go.Deep Go.Joins Go.ChangeShapes Go.WideShapes

set_option maxRecDepth 100000 in
theorem open_acts {H : Type} {enc : TypeId × Value → H} {w : World} {base fuel : Nat} {spare : Nat → Bool} {held : Bool} {v : Value} {x : DataW H × List MemPlace}
    (hf : DataW.trod enc Try.prog w base spare held fuel 22 [v] = some x) :
    ∃ a c, ∃ l : List Atn, v = .slice a l.length c ∧ AtnsM anyB w (.slice a l.length c) l ∧ ((∀ m ∈ x.1.weights Try.prog 22, m ≤ reachBytes) → l.length ≤ 4398046511104) := by
  have ce : Try.prog.cellsOf 32 = 3 := by kernel_rfl
  have cs : Try.prog.cellsOf 9 = 1 := by kernel_rfl
  have ci : Try.prog.cellsOf 3 = 1 := by kernel_rfl
  rcases open_slice Try.underlying22 hf with ⟨h0, _⟩ | ⟨a, len, cap, m, n, D, Pl, h0, hb, hl, hm, hmm, hD, hx⟩
  · simp only [List.cons.injEq, and_true] at h0
    exact ⟨none, 0, [], h0, rowM_nil _ _ _ _ _ _, fun _ => by simp⟩
  simp only [List.cons.injEq, and_true] at h0
  rw [h0]
  have hlm : len ≤ m := by rw [hmm]; split <;> omega
  have each : ∀ i, i < len → ∃ y : Atn, w.cell? (a.add (i * 3)) = some (.int .i64 y.kind) ∧ w.cell? (a.add (i * 3 + 1)) = some (.string (S y.text)) ∧ w.cell? (a.add (i * 3 + 2)) = some (.int .i64 y.flags) := by
    intro i hi
    obtain ⟨cs', h1, h2⟩ := hx i (by omega)
    rw [ce] at h1
    obtain ⟨_, hlen, hcell⟩ := World.cells?_some h1
    obtain ⟨xs, k, hk, hxy, hdd, hxl, hf⟩ := DataW.trod_struct Try.underlying32 h2
    match xs, hxl, cs', hlen with
    | [y0, y1, y2], _, [v0, v1, v2], _ =>
      have g0 := hf 0 _ rfl
      have g1 := hf 1 _ rfl
      have g2 := hf 2 _ rfl
      simp [cs, ci] at g0 g1 g2
      have e0 := hcell 0 (by omega)
      have e1 := hcell 1 (by omega)
      have e2 := hcell 2 (by omega)
      rw [add_add] at e0 e1 e2
      obtain ⟨s0, q0, _, k0⟩ := DataW.trod_int Try.underlying3 g0
      obtain ⟨s1, q1, r1, k1⟩ := DataW.trod_string Try.underlying9 g1
      obtain ⟨s2, q2, _, k2⟩ := DataW.trod_int Try.underlying3 g2
      simp only [List.cons.injEq, and_true] at q0 q1 q2
      subst q0
      subst q1
      subst q2
      refine ⟨⟨s0, s1.data.toList, s2⟩, ?_, ?_, ?_⟩
      · simpa using e0
      · rw [S_list]; simpa using e1
      · simpa using e2
  haveI : Inhabited Atn := ⟨⟨0, [], 0⟩⟩
  obtain ⟨q, hq⟩ := choose_lt each
  refine ⟨some a, cap, (List.range len).map q, by simp, ?_, ?_⟩
  · refine ⟨some a, cap, rfl, by simp; omega, fun i x hx => ?_⟩
    have hi : i < len := by
      rcases Nat.lt_or_ge i len with h | h
      · exact h
      · rw [List.getElem?_eq_none (by simpa using h)] at hx; cases hx
    rw [List.getElem?_map, List.getElem?_range hi] at hx
    simp only [Option.map_some, Option.some.injEq] at hx
    subst hx
    obtain ⟨h1, h2, h3⟩ := hq i hi
    obtain ⟨b, off, spot⟩ := a
    have hspot : spot = none := by
      have := World.cell?_spot (hq 0 (by omega)).1
      simpa [Addr.add] using this
    subst hspot
    rw [Addr.add_lit] at h1 h2 h3
    refine ⟨b, off, atnC (q i), rfl, World.block_lt_of_cell? w _ h1, trivial, rfl, fun j u hj => ?_, rfl⟩
    match j, hj with
    | 0, hj => cases hj; simpa using h1
    | 1, hj => cases hj; rw [Nat.add_assoc]; exact h2
    | 2, hj => cases hj; rw [Nat.add_assoc]; exact h3
  · intro hk
    have e : x.1 = .slice ((List.range len).map D) ((List.range (m - len)).map fun j => D (len + j)) := congrArg Prod.fst hD
    rw [e] at hk
    have hby : Try.prog.bytesOf 32 = 32 := by kernel_rfl
    have h1 := hk ((((List.range len).map D).length + ((List.range (m - len)).map fun j => D (len + j)).length) * Try.prog.bytesOf 32) (by simp only [DataW.weights, Try.underlying22]; exact List.mem_cons_self)
    rw [hby] at h1
    simp only [List.length_map, List.length_range] at h1 ⊢
    unfold reachBytes at h1
    omega
set_option maxRecDepth 100000 in
theorem open_course {H : Type} {enc : TypeId × Value → H} {w : World} {base b0 : Nat} {spare : Nat → Bool} {held : Bool} {v : Value} {d : DataW H} {p : List MemPlace}
    (hv : Value.okWide Try.prog w .any b0 25 v) (h : DataW.Trod enc Try.prog w base spare held 25 v d p) :
    ∃ (c : Crs) (a : Option Addr) (k : Nat), v = .agg #[.slice a c.acts.length k, .int .i64 c.flags, .bool c.asked, .int .i64 c.fault] ∧ AtnsM anyB w (.slice a c.acts.length k) c.acts ∧ ((∀ m ∈ d.weights Try.prog 25, m ≤ reachBytes) → c.acts.length ≤ 4398046511104) := by
  obtain ⟨cs, rfl, hsz⟩ := okWide_struct Try.underlying25 hv
  have hC : Try.prog.cellsOf 25 = 4 := by kernel_rfl
  have ca : Try.prog.cellsOf 22 = 1 := by kernel_rfl
  have ci : Try.prog.cellsOf 3 = 1 := by kernel_rfl
  have cb : Try.prog.cellsOf 4 = 1 := by kernel_rfl
  have cr : Try.prog.cellsOf 23 = 1 := by kernel_rfl
  obtain ⟨fuel, hf⟩ := h
  obtain ⟨c0, c1, c2, c3, rfl⟩ : ∃ c0 c1 c2 c3, cs = #[c0, c1, c2, c3] := by
    obtain ⟨l⟩ := cs
    match l, (hsz.trans hC) with
    | [c0, c1, c2, c3], _ => exact ⟨c0, c1, c2, c3, rfl⟩
  obtain ⟨xs, n, _, hd, _, hxl, hx⟩ := DataW.trod_struct Try.underlying25 hf
  have hxl4 : xs.length = 4 := hxl
  obtain ⟨y0, y1, y2, y3, rfl⟩ : ∃ y0 y1 y2 y3, xs = [y0, y1, y2, y3] := by
    match xs, hxl4 with
    | [y0, y1, y2, y3], _ => exact ⟨y0, y1, y2, y3, rfl⟩
  have h0 : DataW.trod enc Try.prog w base spare held n 22 [c0] = some y0 := by simpa [Value.cells, ca] using hx 0 _ rfl
  have h1 : DataW.trod enc Try.prog w base spare held n 3 [c1] = some y1 := by simpa [Value.cells, ci] using hx 1 _ rfl
  have h2 : DataW.trod enc Try.prog w base spare held n 4 [c2] = some y2 := by simpa [Value.cells, cb] using hx 2 _ rfl
  have h3 : DataW.trod enc Try.prog w base spare held n 23 [c3] = some y3 := by simpa [Value.cells, cr] using hx 3 _ rfl
  obtain ⟨a, k, l, rfl, hl, hw⟩ := open_acts h0
  obtain ⟨s1, e1, _, _⟩ := DataW.trod_int Try.underlying3 h1
  obtain ⟨s2, e2, _⟩ := DataW.trod_bool Try.underlying4 h2
  obtain ⟨s3, e3, _, _⟩ := DataW.trod_int Try.underlying23 h3
  simp only [List.cons.injEq, and_true] at e1 e2 e3
  subst e1
  subst e2
  subst e3
  refine ⟨⟨l, s1, s2, s3⟩, a, k, rfl, hl, fun hk => hw fun m hm => hk m ?_⟩
  have e : d = .agg [y0.1, y1.1, y2.1, y3.1] := congrArg Prod.fst hd
  rw [e]
  simp only [DataW.weights, Try.underlying25]
  exact List.mem_append_left _ hm
end Go.Proofs.Ythmjkhjpekncmaa
