/-
  How an argument that is a tape is read, and how many bytes it can have within the form's reach.
-/
import Derived.Test.YthdodjmkfodbgaaBkOpen
namespace Go.Proofs.Ythdodjmkfodbgaa
open Go.RowKit Go.Deep Go.Joins Go.ChangeShapes Go.WideShapes

set_option maxRecDepth 100000 in
theorem open_tape {H : Type} {enc : TypeId × Value → H} {w : World} {base b0 : Nat} {spare : Nat → Bool} {held : Bool} {v : Value} {d : DataW H} {p : List MemPlace}
    (hv : Value.okWide Try.prog w .any b0 24 v) (h : DataW.Trod enc Try.prog w base spare held 24 v d p) :
    ∃ (a : Option Addr) (c : Nat) (l : List UInt8) (s : Int), v = .agg #[.slice a l.length c, .int .i64 s] ∧ BysM (fun _ => True) w (.slice a l.length c) l ∧ ((∀ m ∈ d.weights Try.prog 24, m ≤ reachBytes) → l.length ≤ 140737488355328) := by
  obtain ⟨cs, rfl, hsz⟩ := okWide_struct Try.underlying24 hv
  have hC : Try.prog.cellsOf 24 = 2 := by kernel_rfl
  have ca : Try.prog.cellsOf 22 = 1 := by kernel_rfl
  have ci : Try.prog.cellsOf 3 = 1 := by kernel_rfl
  obtain ⟨fuel, hf⟩ := h
  obtain ⟨c0, c1, rfl⟩ : ∃ c0 c1, cs = #[c0, c1] := by
    obtain ⟨l⟩ := cs
    match l, (hsz.trans hC) with
    | [c0, c1], _ => exact ⟨c0, c1, rfl⟩
  obtain ⟨xs, n, _, hd, _, hxl, hx⟩ := DataW.trod_struct Try.underlying24 hf
  have hxl2 : xs.length = 2 := hxl
  obtain ⟨y0, y1, rfl⟩ : ∃ y0 y1, xs = [y0, y1] := by
    match xs, hxl2 with
    | [y0, y1], _ => exact ⟨y0, y1, rfl⟩
  have h0 : DataW.trod enc Try.prog w base spare held n 22 [c0] = some y0 := by simpa [Value.cells, ca] using hx 0 _ rfl
  have h1 : DataW.trod enc Try.prog w base spare held n 3 [c1] = some y1 := by simpa [Value.cells, ci] using hx 1 _ rfl
  obtain ⟨a, k, l, rfl, hl, hw⟩ := open_bytes h0
  obtain ⟨s1, e1, _, _⟩ := DataW.trod_int Try.underlying3 h1
  simp only [List.cons.injEq, and_true] at e1
  subst e1
  refine ⟨a, k, l, s1, rfl, hl, fun hk => ?_⟩
  have := hw fun m hm => hk m ?_
  · omega
  have e : d = .agg [y0.1, y1.1] := congrArg Prod.fst hd
  rw [e]
  simp only [DataW.weights, Try.underlying24]
  exact List.mem_append_left _ hm
end Go.Proofs.Ythdodjmkfodbgaa
