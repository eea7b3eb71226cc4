/-
  How an argument that is a letter is read.
-/
import Derived.Test.YtgbhaphgojlhaaaDoorRows
import Derived.Test.YtgbhaphgojlhaaaDoorPure
import Derived.Test.YtgbhaphgojlhaaaDoorTxt
import Derived.Lib.SmallJoins
import Derived.ProofKit
import Derived.OpenShut
import Derived.ChangeOld
import Derived.SizedLaws
namespace Go.Proofs.YtgbhaphgojlhaaaDoor
open Go.RowKit Go.Deep Go.Joins Go.ChangeShapes Go.WideShapes

set_option maxRecDepth 100000 in
theorem open_letter {H : Type} {enc : TypeId × Value → H} {w : World} {base b0 : Nat} {spare : Nat → Bool} {held : Bool} {v : Value} {d : DataW H} {p : List MemPlace}
    (hv : Value.okWide Tryd.prog w .any b0 43 v) (h : DataW.Trod enc Tryd.prog w base spare held 43 v d p) (hq : ∀ m ∈ d.weights Tryd.prog 43, m ≤ reachBytes) :
    ∃ fl fd tl td tx : ByteArray, v = .agg #[.string fl, .string fd, .string tl, .string td, .string tx] ∧ fl.size ≤ 140737488355328 ∧ fd.size ≤ 140737488355328 ∧ tl.size ≤ 140737488355328 ∧ td.size ≤ 140737488355328 ∧ tx.size ≤ maxLen := by
  obtain ⟨cs, rfl, hsz⟩ := okWide_struct Tryd.underlying43 hv
  have hC : Tryd.prog.cellsOf 43 = 5 := by kernel_rfl
  have cs' : Tryd.prog.cellsOf 9 = 1 := by kernel_rfl
  have ca : Tryd.prog.cellsOf 41 = 2 := by kernel_rfl
  obtain ⟨fuel, hf⟩ := h
  obtain ⟨c0, c1, c2, c3, c4, rfl⟩ : ∃ c0 c1 c2 c3 c4, cs = #[c0, c1, c2, c3, c4] := by
    obtain ⟨l⟩ := cs
    match l, (hsz.trans hC) with
    | [c0, c1, c2, c3, c4], _ => exact ⟨c0, c1, c2, c3, c4, rfl⟩
  obtain ⟨xs, n, _, hd, _, hxl, hx⟩ := DataW.trod_struct Tryd.underlying43 hf
  have hxl3 : xs.length = 3 := hxl
  obtain ⟨y0, y1, y2, rfl⟩ : ∃ y0 y1 y2, xs = [y0, y1, y2] := by
    match xs, hxl3 with
    | [y0, y1, y2], _ => exact ⟨y0, y1, y2, rfl⟩
  have h0 : DataW.trod enc Tryd.prog w base spare held n 41 [c0, c1] = some y0 := by simpa [Value.cells, ca] using hx 0 _ rfl
  have h1 : DataW.trod enc Tryd.prog w base spare held n 41 [c2, c3] = some y1 := by simpa [Value.cells, ca] using hx 1 _ rfl
  have h2 : DataW.trod enc Tryd.prog w base spare held n 9 [c4] = some y2 := by simpa [Value.cells, cs'] using hx 2 _ rfl
  have adr : ∀ (a b : Value) (y : DataW H × List MemPlace), DataW.trod enc Tryd.prog w base spare held n 41 [a, b] = some y → ∃ l e : ByteArray, a = .string l ∧ b = .string e ∧ y.1 = .agg [.lit (.string l.data.toList), .lit (.string e.data.toList)] := by
    intro a b y hy
    obtain ⟨zs, m, _, hz, _, hzl, hg⟩ := DataW.trod_struct Tryd.underlying41 hy
    have hzl2 : zs.length = 2 := hzl
    obtain ⟨z0, z1, rfl⟩ : ∃ z0 z1, zs = [z0, z1] := by
      match zs, hzl2 with
      | [z0, z1], _ => exact ⟨z0, z1, rfl⟩
    have g0 : DataW.trod enc Tryd.prog w base spare held m 9 [a] = some z0 := by simpa [cs'] using hg 0 _ rfl
    have g1 : DataW.trod enc Tryd.prog w base spare held m 9 [b] = some z1 := by simpa [cs'] using hg 1 _ rfl
    obtain ⟨s, e0, q0, _⟩ := DataW.trod_string Tryd.underlying9 g0
    obtain ⟨s', e1, q1, _⟩ := DataW.trod_string Tryd.underlying9 g1
    simp only [List.cons.injEq, and_true] at e0 e1
    refine ⟨s, s', e0, e1, ?_⟩
    rw [hz, q0, q1]
    rfl
  obtain ⟨fl, fd, rfl, rfl, r0⟩ := adr _ _ _ h0
  obtain ⟨tl, td, rfl, rfl, r1⟩ := adr _ _ _ h1
  obtain ⟨tx, e2, q2, k2⟩ := DataW.trod_string Tryd.underlying9 h2
  simp only [List.cons.injEq, and_true] at e2
  subst e2
  have hd' : d = .agg [y0.1, y1.1, y2.1] := by
    have := congrArg Prod.fst hd
    simpa using this
  rw [r0, r1] at hd'
  subst hd'
  have hlt := reachBytes_lt
  refine ⟨fl, fd, tl, td, tx, rfl, ?_, ?_, ?_, ?_, k2⟩
  · have := hq fl.size (by simp [DataW.weights, DataW.weightsEach, Tryd.underlying43, Tryd.underlying41]); omega
  · have := hq fd.size (by simp [DataW.weights, DataW.weightsEach, Tryd.underlying43, Tryd.underlying41]); omega
  · have := hq tl.size (by simp [DataW.weights, DataW.weightsEach, Tryd.underlying43, Tryd.underlying41]); omega
  · have := hq td.size (by simp [DataW.weights, DataW.weightsEach, Tryd.underlying43, Tryd.underlying41]); omega
end Go.Proofs.YtgbhaphgojlhaaaDoor
