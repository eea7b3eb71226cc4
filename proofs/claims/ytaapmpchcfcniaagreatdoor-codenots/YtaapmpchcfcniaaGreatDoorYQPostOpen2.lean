/-
  How an argument that is a letter in raw bytes is read.
  One raw command, as a law's argument.
-/
import Derived.Test.YtaapmpchcfcniaaGreatDoorYQLetLines3
import Derived.Test.YtaapmpchcfcniaaGreatDoorYQCodTs3
namespace Go.Proofs.YtaapmpchcfcniaaGreatDoor
open Go.RowKit Go.Deep Go.Joins Go.ChangeShapes Go.WideShapes
set_option maxRecDepth 100000 in
theorem open_post {H : Type} {enc : TypeId × Value → H} {w : World} {base b0 : Nat} {spare : Nat → Bool} {held : Bool} {v : Value} {d : DataW H} {p : List MemPlace}
    (hv : Value.okWide Tryz.prog w .any b0 26 v) (h : DataW.Trod enc Tryz.prog w base spare held 26 v d p) :
    ∃ (fl fd fg tl td tg : ByteArray) (a : Option Addr) (c : Nat) (fs : List F) (body : ByteArray), v = .agg #[.string fl, .string fd, .string fg, .string tl, .string td, .string tg, .slice a fs.length c, .string body] ∧ FieldsAt w a fs ∧ fs.length ≤ maxLen ∧ (∀ f ∈ fs, f.1.length ≤ maxLen ∧ f.2.length ≤ maxLen) ∧ body.size ≤ maxLen ∧ fl.size ≤ maxLen ∧ fd.size ≤ maxLen ∧ tl.size ≤ maxLen ∧ td.size ≤ maxLen := by
  obtain ⟨cs, rfl, hsz⟩ := okWide_struct Tryz.underlying26 hv; have hC : Tryz.prog.cellsOf 26 = 8 := by kernel_rfl
  have cs' : Tryz.prog.cellsOf 9 = 1 := by kernel_rfl
  have ca : Tryz.prog.cellsOf 23 = 3 := by kernel_rfl
  have cl : Tryz.prog.cellsOf 24 = 1 := by kernel_rfl
  obtain ⟨fuel, hf⟩ := h; obtain ⟨c0, c1, c2, c3, c4, c5, c6, c7, rfl⟩ : ∃ c0 c1 c2 c3 c4 c5 c6 c7, cs = #[c0, c1, c2, c3, c4, c5, c6, c7] := by
    obtain ⟨l⟩ := cs
    match l, (hsz.trans hC) with
    | [c0, c1, c2, c3, c4, c5, c6, c7], _ => exact ⟨c0, c1, c2, c3, c4, c5, c6, c7, rfl⟩
  obtain ⟨xs, n, _, hd, _, hxl, hx⟩ := DataW.trod_struct Tryz.underlying26 hf; have hxl4 : xs.length = 4 := hxl; obtain ⟨y0, y1, y2, y3, rfl⟩ : ∃ y0 y1 y2 y3, xs = [y0, y1, y2, y3] := by
    match xs, hxl4 with
    | [y0, y1, y2, y3], _ => exact ⟨y0, y1, y2, y3, rfl⟩
  have h0 : DataW.trod enc Tryz.prog w base spare held n 23 [c0, c1, c2] = some y0 := by simpa [Value.cells, ca] using hx 0 _ rfl
  have h1 : DataW.trod enc Tryz.prog w base spare held n 23 [c3, c4, c5] = some y1 := by simpa [Value.cells, ca] using hx 1 _ rfl
  have h2 : DataW.trod enc Tryz.prog w base spare held n 24 [c6] = some y2 := by simpa [Value.cells, cl] using hx 2 _ rfl
  have h3 : DataW.trod enc Tryz.prog w base spare held n 9 [c7] = some y3 := by simpa [Value.cells, cs'] using hx 3 _ rfl
  have per : ∀ (a b c : Value) (y : DataW H × List MemPlace), DataW.trod enc Tryz.prog w base spare held n 23 [a, b, c] = some y → ∃ l e g : ByteArray, a = .string l ∧ b = .string e ∧ c = .string g ∧ l.size ≤ maxLen ∧ e.size ≤ maxLen := by
    intro a b c y hy; obtain ⟨zs, m, _, hz, _, hzl, hg⟩ := DataW.trod_struct Tryz.underlying23 hy; have hzl3 : zs.length = 3 := hzl; obtain ⟨z0, z1, z2, rfl⟩ : ∃ z0 z1 z2, zs = [z0, z1, z2] := by
      match zs, hzl3 with
      | [z0, z1, z2], _ => exact ⟨z0, z1, z2, rfl⟩
    have g0 : DataW.trod enc Tryz.prog w base spare held m 9 [a] = some z0 := by simpa [cs'] using hg 0 _ rfl
    have g1 : DataW.trod enc Tryz.prog w base spare held m 9 [b] = some z1 := by simpa [cs'] using hg 1 _ rfl
    have g2 : DataW.trod enc Tryz.prog w base spare held m 9 [c] = some z2 := by simpa [cs'] using hg 2 _ rfl
    obtain ⟨s, e0, _, k0⟩ := DataW.trod_string Tryz.underlying9 g0; obtain ⟨s', e1, _, k1⟩ := DataW.trod_string Tryz.underlying9 g1; obtain ⟨s2, e2, _, _⟩ := DataW.trod_string Tryz.underlying9 g2; simp only [List.cons.injEq, and_true] at e0 e1 e2; exact ⟨s, s', s2, e0, e1, e2, k0, k1⟩
  obtain ⟨fl, fd, fg, rfl, rfl, rfl, s1, s2⟩ := per _ _ _ _ h0; obtain ⟨tl, td, tg, rfl, rfl, rfl, s3, s4⟩ := per _ _ _ _ h1; obtain ⟨body, e3, _, k3⟩ := DataW.trod_string Tryz.underlying9 h3; simp only [List.cons.injEq, and_true] at e3; subst e3; obtain ⟨a, c, fs, e, hF, g1, g2, _⟩ := jgm Tryz.underlying24 Tryz.underlying92 (by kernel_rfl) rfl rfl (by kernel_rfl) (by kernel_rfl) Tryz.underlying9 Tryz.underlying9 h2; subst e; exact ⟨fl, fd, fg, tl, td, tg, a, c, fs, body, rfl, hF, g1, g2, k3, s1, s2, s3, s4⟩
end Go.Proofs.YtaapmpchcfcniaaGreatDoor
namespace Go.Proofs.YtaapmpchcfcniaaGreatDoor
open Go.ChangeShapes Go.WideShapes Go.ChangeAt Go.RowKit
set_option maxRecDepth 100000 in
theorem open_stickM {H : Type} {enc : TypeId × Value → H} {w : World} {base b0 : Nat} {spare : Nat → Bool} {held : Bool} {v : Value} {d : DataW H} {p : List MemPlace}
    (hv : Value.okWide Tryz.prog w .any b0 50 v) (h : DataW.Trod enc Tryz.prog w base spare held 50 v d p) (hw : ∀ m ∈ d.weights Tryz.prog 50, m ≤ reachBytes) :
    ∃ (x : Stk) (n : Nat) (cs : List Value), v = .agg cs.toArray ∧ StkM n w x cs := by
  obtain ⟨cs, rfl, _⟩ := okWide_struct Tryz.underlying50 hv; obtain ⟨fuel, hf⟩ := h; obtain ⟨x, hx⟩ := jfi fuel fuel cs.toList (d, p) (Nat.le_refl _) hw (by simpa [Value.cells] using hf); exact ⟨x, _, cs.toList, by simp, hx⟩
end Go.Proofs.YtaapmpchcfcniaaGreatDoor
