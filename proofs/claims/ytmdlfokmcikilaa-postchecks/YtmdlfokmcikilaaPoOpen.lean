/-
  An act that a statement is given: what it holds.
-/
import Derived.Test.YtmdlfokmcikilaaTxt
import Derived.Test.YtmdlfokmcikilaaRows
import Derived.Lib.SmallJoins
import Derived.ProofKit
import Derived.OpenShut
import Derived.ChangeOld
import Derived.SizedLaws
import Derived.Below
import Derived.Carry
namespace Go.Proofs.Ytmdlfokmcikilaa
open Go.ChangeShapes Go.WideShapes Go.ChangeAt Go.RowKit

set_option maxRecDepth 100000 in
theorem open_act {H : Type} {enc : TypeId × Value → H} {w : World} {base b0 : Nat} {spare : Nat → Bool} {held : Bool} {v : Value} {d : DataW H} {p : List MemPlace}
    (hv : Value.okWide Try.prog w .any b0 25 v) (h : DataW.Trod enc Try.prog w base spare held 25 v d p) :
    ∃ (k c u q ek eu ef : Int) (dt eb eg et : List UInt8), v = .agg #[.int .i64 k, .int .i64 c, .int .i64 u, .int .i64 q, .string (S dt), .int .i64 ek, .string (S eb), .int .i64 eu, .int .i64 ef, .string (S eg), .string (S et)] ∧ dt.length ≤ maxLen := by
  obtain ⟨cs, rfl, hsz⟩ := okWide_struct Try.underlying25 hv
  have hC : Try.prog.cellsOf 25 = 11 := by kernel_rfl
  have cE : Try.prog.cellsOf 23 = 6 := by kernel_rfl
  have ci : Try.prog.cellsOf 3 = 1 := by kernel_rfl
  have ct : Try.prog.cellsOf 9 = 1 := by kernel_rfl
  obtain ⟨fuel, hf⟩ := h
  obtain ⟨c0, c1, c2, c3, c4, c5, c6, c7, c8, c9, c10, rfl⟩ : ∃ c0 c1 c2 c3 c4 c5 c6 c7 c8 c9 c10, cs = #[c0, c1, c2, c3, c4, c5, c6, c7, c8, c9, c10] := by
    obtain ⟨l⟩ := cs
    match l, (hsz.trans hC) with
    | [c0, c1, c2, c3, c4, c5, c6, c7, c8, c9, c10], _ => exact ⟨c0, c1, c2, c3, c4, c5, c6, c7, c8, c9, c10, rfl⟩
  obtain ⟨xs, n, _, hd, _, hxl, hx⟩ := DataW.trod_struct Try.underlying25 hf
  have hxl6 : xs.length = 6 := hxl
  obtain ⟨y0, y1, y2, y3, y4, y5, rfl⟩ : ∃ y0 y1 y2 y3 y4 y5, xs = [y0, y1, y2, y3, y4, y5] := by
    match xs, hxl6 with
    | [y0, y1, y2, y3, y4, y5], _ => exact ⟨y0, y1, y2, y3, y4, y5, rfl⟩
  have h0 : DataW.trod enc Try.prog w base spare held n 3 [c0] = some y0 := by simpa [Value.cells, ci] using hx 0 _ rfl
  have h1 : DataW.trod enc Try.prog w base spare held n 3 [c1] = some y1 := by simpa [Value.cells, ci] using hx 1 _ rfl
  have h2 : DataW.trod enc Try.prog w base spare held n 3 [c2] = some y2 := by simpa [Value.cells, ci] using hx 2 _ rfl
  have h3 : DataW.trod enc Try.prog w base spare held n 3 [c3] = some y3 := by simpa [Value.cells, ci] using hx 3 _ rfl
  have h4 : DataW.trod enc Try.prog w base spare held n 9 [c4] = some y4 := by simpa [Value.cells, ct] using hx 4 _ rfl
  have h5 : DataW.trod enc Try.prog w base spare held n 23 [c5, c6, c7, c8, c9, c10] = some y5 := by simpa [Value.cells, cE] using hx 5 _ rfl
  obtain ⟨zs, n2, _, hz, _, hzl, hzx⟩ := DataW.trod_struct Try.underlying23 h5
  have hzl6 : zs.length = 6 := hzl
  obtain ⟨z0, z1, z2, z3, z4, z5, rfl⟩ : ∃ z0 z1 z2 z3 z4 z5, zs = [z0, z1, z2, z3, z4, z5] := by
    match zs, hzl6 with
    | [z0, z1, z2, z3, z4, z5], _ => exact ⟨z0, z1, z2, z3, z4, z5, rfl⟩
  have g0 : DataW.trod enc Try.prog w base spare held n2 3 [c5] = some z0 := by simpa [ci] using hzx 0 _ rfl
  have g1 : DataW.trod enc Try.prog w base spare held n2 9 [c6] = some z1 := by simpa [ct] using hzx 1 _ rfl
  have g2 : DataW.trod enc Try.prog w base spare held n2 3 [c7] = some z2 := by simpa [ci] using hzx 2 _ rfl
  have g3 : DataW.trod enc Try.prog w base spare held n2 3 [c8] = some z3 := by simpa [ci] using hzx 3 _ rfl
  have g4 : DataW.trod enc Try.prog w base spare held n2 9 [c9] = some z4 := by simpa [ct] using hzx 4 _ rfl
  have g5 : DataW.trod enc Try.prog w base spare held n2 9 [c10] = some z5 := by simpa [ct] using hzx 5 _ rfl
  obtain ⟨s0, e0, _, _⟩ := DataW.trod_int Try.underlying3 h0
  obtain ⟨s1, e1, _, _⟩ := DataW.trod_int Try.underlying3 h1
  obtain ⟨s2, e2, _, _⟩ := DataW.trod_int Try.underlying3 h2
  obtain ⟨s3, e3, _, _⟩ := DataW.trod_int Try.underlying3 h3
  obtain ⟨s4, e4, _, k4⟩ := DataW.trod_string Try.underlying9 h4
  obtain ⟨t0, f0, _, _⟩ := DataW.trod_int Try.underlying3 g0
  obtain ⟨t1, f1, _, _⟩ := DataW.trod_string Try.underlying9 g1
  obtain ⟨t2, f2, _, _⟩ := DataW.trod_int Try.underlying3 g2
  obtain ⟨t3, f3, _, _⟩ := DataW.trod_int Try.underlying3 g3
  obtain ⟨t4, f4, _, _⟩ := DataW.trod_string Try.underlying9 g4
  obtain ⟨t5, f5, _, _⟩ := DataW.trod_string Try.underlying9 g5
  simp only [List.cons.injEq, and_true] at e0 e1 e2 e3 e4 f0 f1 f2 f3 f4 f5
  subst e0 e1 e2 e3 e4 f0 f1 f2 f3 f4 f5
  exact ⟨s0, s1, s2, s3, t0, t2, t3, s4.data.toList, t1.data.toList, t4.data.toList, t5.data.toList, by simp only [S_list], k4⟩
end Go.Proofs.Ytmdlfokmcikilaa
