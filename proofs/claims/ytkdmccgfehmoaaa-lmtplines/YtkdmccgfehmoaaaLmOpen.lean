/-
  How an argument that is a session is read, and how great its parts can be within the form's reach.
-/
import Derived.Test.YtkdmccgfehmoaaaLmChk
import Derived.Deep.SlicePairs
import Derived.Lib.SmallJoins
import Derived.ProofKit
import Derived.OpenShut
import Derived.SizedLaws
import Derived.ChangeOld
import Derived.Carry
namespace Go.Proofs.Ytkdmccgfehmoaaa
open Go.RowKit Go.Deep Go.Joins Go.ChangeShapes Go.WideShapes

theorem mem_weightsL {H : Type} {P : Program} {e : TypeId} {m : Nat} : ∀ {l : List (DataW H)} {d : DataW H}, d ∈ l → m ∈ d.weights P e → m ∈ DataW.weightsAll P e l := by
  intro l
  induction l with
  | nil => intro d h; cases h
  | cons x l ih =>
    intro d h hm
    unfold DataW.weightsAll
    rcases List.mem_cons.1 h with e | e
    · subst e; exact List.mem_append_left _ hm
    · exact List.mem_append_right _ (ih e hm)
set_option maxRecDepth 100000 in
theorem open_adrs {H : Type} {enc : TypeId × Value → H} {w : World} {base fuel : Nat} {spare : Nat → Bool} {held : Bool} {v : Value} {x : DataW H × List MemPlace}
    (hf : DataW.trod enc Try.prog w base spare held fuel 24 [v] = some x) (hw : ∀ m ∈ x.1.weights Try.prog 24, m ≤ reachBytes) :
    ∃ a c, ∃ l : List Adr, v = .slice a l.length c ∧ l.length ≤ c ∧ AdrsM anyB w (.slice a l.length c) l ∧ l.length ≤ 4398046511104 ∧ ∀ y ∈ l, y.1.length ≤ 140737488355328 ∧ y.2.length ≤ 140737488355328 := by
  have ce : Try.prog.cellsOf 23 = 2 := by kernel_rfl
  have cs : Try.prog.cellsOf 9 = 1 := by kernel_rfl
  rcases open_slice Try.underlying24 hf with ⟨h0, _⟩ | ⟨a, len, cap, m, n, D, Pl, h0, hb, hl, hm, hmm, hD, hx⟩
  · simp only [List.cons.injEq, and_true] at h0
    exact ⟨none, 0, [], h0, Nat.le_refl _, ⟨none, 0, rfl, by simp, fun i x h => by simp at h⟩, by simp, fun y hy => by simp at hy⟩
  simp only [List.cons.injEq, and_true] at h0
  rw [h0]
  have hlm : len ≤ m := by rw [hmm]; split <;> omega
  have eD : x.1 = .slice ((List.range len).map D) ((List.range (m - len)).map fun j => D (len + j)) := congrArg Prod.fst hD
  have hlt := reachBytes_lt
  have each : ∀ i, i < len → ∃ y : Adr, (w.cell? (a.add (i * 2)) = some (.string (S y.1)) ∧ w.cell? (a.add (i * 2 + 1)) = some (.string (S y.2))) ∧ y.1.length ≤ 140737488355328 ∧ y.2.length ≤ 140737488355328 := by
    intro i hi
    have hwi : ∀ q ∈ (D i).weights Try.prog 23, q ≤ reachBytes := fun q hq => hw q (by
      rw [eD]
      simp only [DataW.weights, Try.underlying24]
      exact List.mem_cons_of_mem _ (List.mem_append_left _ (mem_weightsL (List.mem_map.2 ⟨i, List.mem_range.2 hi, rfl⟩) hq)))
    obtain ⟨cs', h1, h2⟩ := hx i (by omega)
    rw [ce] at h1
    obtain ⟨_, hlen, hcell⟩ := World.cells?_some h1
    obtain ⟨xs, k, hk, hxy, hdd, hxl, hf⟩ := DataW.trod_struct Try.underlying23 h2
    match xs, hxl, cs', hlen with
    | [y0, y1], _, [v0, v1], _ =>
      have g0 := hf 0 _ rfl
      have g1 := hf 1 _ rfl
      simp [cs] at g0 g1
      have e0 := hcell 0 (by omega)
      have e1 := hcell 1 (by omega)
      rw [add_add] at e0 e1
      obtain ⟨s0, q0, r0, k0⟩ := DataW.trod_string Try.underlying9 g0
      obtain ⟨s1, q1, r1, k1⟩ := DataW.trod_string Try.underlying9 g1
      simp only [List.cons.injEq, and_true] at q0 q1
      subst q0
      subst q1
      subst r0
      subst r1
      have eDi : D i = .agg [.lit (.string s0.data.toList), .lit (.string s1.data.toList)] := congrArg Prod.fst hxy
      have w0 := hwi s0.data.toList.length (by rw [eDi]; simp [DataW.weights, DataW.weightsEach, Try.underlying23])
      have w1 := hwi s1.data.toList.length (by rw [eDi]; simp [DataW.weights, DataW.weightsEach, Try.underlying23])
      refine ⟨(s0.data.toList, s1.data.toList), ⟨?_, ?_⟩, by simp only; omega, by simp only; omega⟩
      · rw [S_list]; simpa using e0
      · rw [S_list]; simpa using e1
  haveI : Inhabited Adr := ⟨([], [])⟩
  obtain ⟨q, hq⟩ := choose_lt each
  refine ⟨some a, cap, (List.range len).map q, by simp, by simp; exact hl, ?_, ?_, ?_⟩
  · refine ⟨some a, cap, rfl, by simp; omega, fun i x hx => ?_⟩
    have hi : i < len := by
      rcases Nat.lt_or_ge i len with h | h
      · exact h
      · rw [List.getElem?_eq_none (by simpa using h)] at hx; cases hx
    rw [List.getElem?_map, List.getElem?_range hi] at hx
    simp only [Option.map_some, Option.some.injEq] at hx
    subst hx
    obtain ⟨⟨h1, h2⟩, _⟩ := hq i hi
    obtain ⟨b, off, spot⟩ := a
    have hspot : spot = none := by
      have := World.cell?_spot (hq 0 (by omega)).1.1
      simpa [Addr.add] using this
    subst hspot
    rw [Addr.add_lit] at h1 h2
    refine ⟨b, off, [.string (S (q i).1), .string (S (q i).2)], rfl, World.block_lt_of_cell? w _ h1, trivial, rfl, fun j u hj => ?_, rfl⟩
    match j, hj with
    | 0, hj => cases hj; simpa using h1
    | 1, hj => cases hj; rw [Nat.add_assoc]; exact h2
  · rw [eD] at hw
    have hby : Try.prog.bytesOf 23 = 32 := by kernel_rfl
    have h1 := hw ((((List.range len).map D).length + ((List.range (m - len)).map fun j => D (len + j)).length) * Try.prog.bytesOf 23) (by simp only [DataW.weights, Try.underlying24]; exact List.mem_cons_self)
    rw [hby] at h1
    simp only [List.length_map, List.length_range] at h1 ⊢
    unfold reachBytes at h1
    omega
  · intro y hy
    obtain ⟨i, hi, rfl⟩ := List.mem_map.1 hy
    exact (hq i (List.mem_range.1 hi)).2
set_option maxRecDepth 100000 in
theorem open_session {H : Type} {enc : TypeId × Value → H} {w : World} {base b0 : Nat} {spare : Nat → Bool} {held : Bool} {v : Value} {d : DataW H} {p : List MemPlace}
    (hv : Value.okWide Try.prog w .any b0 26 v) (h : DataW.Trod enc Try.prog w base spare held 26 v d p) (hw : ∀ m ∈ d.weights Try.prog 26, m ≤ reachBytes) :
    ∃ (s : Ses) (a : Option Addr) (k : Nat), v = .agg #[.int .i64 s.step, .string (S s.frm.1), .string (S s.frm.2), .slice a s.to.length k, .string (S s.text), .bool s.large] ∧ AdrsM anyB w (.slice a s.to.length k) s.to ∧ s.to.length ≤ k ∧ s.to.length ≤ 4398046511104 ∧ Fit s := by
  obtain ⟨cs, rfl, hsz⟩ := okWide_struct Try.underlying26 hv
  have hC : Try.prog.cellsOf 26 = 6 := by kernel_rfl
  have ca : Try.prog.cellsOf 24 = 1 := by kernel_rfl
  have cd : Try.prog.cellsOf 23 = 2 := by kernel_rfl
  have ci : Try.prog.cellsOf 3 = 1 := by kernel_rfl
  have cb : Try.prog.cellsOf 4 = 1 := by kernel_rfl
  have ct : Try.prog.cellsOf 9 = 1 := by kernel_rfl
  have hlt := reachBytes_lt
  obtain ⟨fuel, hf⟩ := h
  obtain ⟨c0, c1, c2, c3, c4, c5, rfl⟩ : ∃ c0 c1 c2 c3 c4 c5, cs = #[c0, c1, c2, c3, c4, c5] := by
    obtain ⟨l⟩ := cs
    match l, (hsz.trans hC) with
    | [c0, c1, c2, c3, c4, c5], _ => exact ⟨c0, c1, c2, c3, c4, c5, rfl⟩
  obtain ⟨xs, n, _, hd, _, hxl, hx⟩ := DataW.trod_struct Try.underlying26 hf
  have hxl5 : xs.length = 5 := hxl
  obtain ⟨y0, y1, y2, y3, y4, rfl⟩ : ∃ y0 y1 y2 y3 y4, xs = [y0, y1, y2, y3, y4] := by
    match xs, hxl5 with
    | [y0, y1, y2, y3, y4], _ => exact ⟨y0, y1, y2, y3, y4, rfl⟩
  have h0 : DataW.trod enc Try.prog w base spare held n 3 [c0] = some y0 := by simpa [Value.cells, ci] using hx 0 _ rfl
  have h1 : DataW.trod enc Try.prog w base spare held n 23 [c1, c2] = some y1 := by simpa [Value.cells, cd] using hx 1 _ rfl
  have h2 : DataW.trod enc Try.prog w base spare held n 24 [c3] = some y2 := by simpa [Value.cells, ca] using hx 2 _ rfl
  have h3 : DataW.trod enc Try.prog w base spare held n 9 [c4] = some y3 := by simpa [Value.cells, ct] using hx 3 _ rfl
  have h4 : DataW.trod enc Try.prog w base spare held n 4 [c5] = some y4 := by simpa [Value.cells, cb] using hx 4 _ rfl
  have e : d = .agg [y0.1, y1.1, y2.1, y3.1, y4.1] := congrArg Prod.fst hd
  have hE : d.weights Try.prog 26 = y0.1.weights Try.prog 3 ++ (y1.1.weights Try.prog 23 ++ (y2.1.weights Try.prog 24 ++ (y3.1.weights Try.prog 9 ++ (y4.1.weights Try.prog 4 ++ [])))) := by
    rw [e]
    simp only [DataW.weights, Try.underlying26]
    rfl
  rw [hE] at hw
  obtain ⟨a, k, l, rfl, hlk, hl, hn, hall⟩ := open_adrs h2 (fun m hm => hw m (by simp [hm]))
  obtain ⟨s0, e0, _, k0⟩ := DataW.trod_int Try.underlying3 h0
  obtain ⟨s3, e3, r3, k3⟩ := DataW.trod_string Try.underlying9 h3
  obtain ⟨s4, e4, _⟩ := DataW.trod_bool Try.underlying4 h4
  obtain ⟨zs, n2, _, hz, _, hzl, hzx⟩ := DataW.trod_struct Try.underlying23 h1
  have hzl2 : zs.length = 2 := hzl
  obtain ⟨z0, z1, rfl⟩ : ∃ z0 z1, zs = [z0, z1] := by
    match zs, hzl2 with
    | [z0, z1], _ => exact ⟨z0, z1, rfl⟩
  have g0 : DataW.trod enc Try.prog w base spare held n2 9 [c1] = some z0 := by simpa [ct] using hzx 0 _ rfl
  have g1 : DataW.trod enc Try.prog w base spare held n2 9 [c2] = some z1 := by simpa [ct] using hzx 1 _ rfl
  obtain ⟨s1, e1, r1, k1⟩ := DataW.trod_string Try.underlying9 g0
  obtain ⟨s2, e2, r2, k2⟩ := DataW.trod_string Try.underlying9 g1
  simp only [List.cons.injEq, and_true] at e0 e1 e2 e3 e4
  subst e0
  subst e1
  subst e2
  subst e3
  subst e4
  subst r1
  subst r2
  subst r3
  have ey1 : y1.1 = .agg [.lit (.string s1.data.toList), .lit (.string s2.data.toList)] := congrArg Prod.fst hz
  have w1 := hw s1.data.toList.length (by rw [ey1]; simp [DataW.weights, DataW.weightsEach, Try.underlying23])
  have w2 := hw s2.data.toList.length (by rw [ey1]; simp [DataW.weights, DataW.weightsEach, Try.underlying23])
  have w3 := hw s3.data.toList.length (by simp [DataW.weights])
  have kk : -9223372036854775808 ≤ s0 ∧ s0 ≤ 9223372036854775807 := by simpa [Lit.wf, IntKind.min, IntKind.max, IntKind.signed, IntKind.bits] using k0
  refine ⟨⟨s0, (s1.data.toList, s2.data.toList), l, s3.data.toList, s4⟩, a, k, by simp only [S_list], hl, hlk, hn, ⟨by simp only; omega, by simp only; omega, by simp only; omega, ?_, ?_, hall⟩⟩
  · simp only; omega
  · simp only; omega
end Go.Proofs.Ytkdmccgfehmoaaa
