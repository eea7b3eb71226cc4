/-
  post.Check and the reference's ActFault: the walks. actE is the plain meaning of P13.1.
-/
import Derived.Test.YtmdlfokmcikilaaPoBar
namespace Go.Proofs.Ytmdlfokmcikilaa
open Go.RowKit Go.Proofs

/-- Is an entry empty? -/
def entZ (ek eu ef : Int) (eb eg et : List UInt8) : Prop := ek = 0 ∧ eb = [] ∧ eu = 0 ∧ ef = 0 ∧ eg = [] ∧ et = []
/-- What a Kind has not: is it empty, or 0? -/
def actB (k c u p : Int) (d : List UInt8) (z : Prop) : Prop := (k = 1 ∨ (c = 0 ∧ d = [])) ∧ (k = 3 ∨ p = 0) ∧ (k = 5 ∨ (u = 0 ∧ z))
/-- The number that a Kind has: is it one that there may be? -/
def actR (k c u p : Int) : Prop := (k = 1 → 0 ≤ c ∧ c ≤ 2) ∧ (k = 3 → 0 ≤ p ∧ p ≤ 100000) ∧ (k = 5 → 0 ≤ u ∧ u ≤ 2)
/-- P13.1, told as a relation. -/
def ActE (k c u p : Int) (d : List UInt8) (z : Prop) (e : Int) : Prop :=
  (¬ (1 ≤ k ∧ k ≤ 5) ∧ e = 2) ∨ ((1 ≤ k ∧ k ≤ 5) ∧ ((¬ actR k c u p ∧ e = 6) ∨ (actR k c u p ∧ ((k = 1 ∧ 3000 < d.length ∧ e = 1) ∨ (¬ (k = 1 ∧ 3000 < d.length) ∧ ((¬ actB k c u p d z ∧ e = 3) ∨ (actB k c u p d z ∧ e = 0)))))))
theorem actE_one {k c u p : Int} {d : List UInt8} {z : Prop} {e f : Int} (h : ActE k c u p d z e) (g : ActE k c u p d z f) : e = f := by
  unfold ActE at h g
  rcases h with ⟨h1, h2⟩ | ⟨h1, ⟨h3, h2⟩ | ⟨h3, ⟨h4, h5, h2⟩ | ⟨h4, ⟨h5, h2⟩ | ⟨h5, h2⟩⟩⟩⟩ <;>
  rcases g with ⟨g1, g2⟩ | ⟨g1, ⟨g3, g2⟩ | ⟨g3, ⟨g4, g5, g2⟩ | ⟨g4, ⟨g5, g2⟩ | ⟨g5, g2⟩⟩⟩⟩ <;>
  first | exact h2.trans g2.symm | (exfalso; first | exact g1 h1 | exact h1 g1 | exact g3 h3 | exact h3 g3 | exact g4 (And.intro h4 h5) | exact h4 (And.intro g4 g5) | exact g5 h5 | exact h5 g5 | fail)

/-- What inBounds answers. -/
def InP (k c u p : Int) (e : Ending) : Prop := ∃ b : Bool, e = .returned (.bool b) ∧ (b = true ↔ actR k c u p)
/-- What Check answers. -/
def ChP (k c u p : Int) (d : List UInt8) (z : Prop) (e : Ending) : Prop := ∃ r, e = .returned (.int .i64 r) ∧ ActE k c u p d z r
theorem S_zero {l : List UInt8} (h : (S l : ByteArray) = ⟨#[]⟩) : l = [] := by
  have := congrArg (fun b => b.data.toList) h
  simpa [list_S] using this

set_option maxHeartbeats 2000000 in
set_option maxRecDepth 100000 in
theorem inB_any (k c u p : Int) (d : ByteArray) (ek eu ef : Int) (eb eg et : ByteArray) (w : World) : Calls Try.prog 6 #[.agg #[.int .i64 k, .int .i64 c, .int .i64 u, .int .i64 p, .string d, .int .i64 ek, .string eb, .int .i64 eu, .int .i64 ef, .string eg, .string et]] w fun e w' => InP k c u p e ∧ Below w.heap.size w w' := by
  have HB := hidp (show ∀ a : Obj, Below w.heap.size w (w.alloc a) from fun a => (Below.refl _ _).alloc (Nat.le_refl _) a)
  go_enter Try.func6, Try.ntmps6
  go_wp2
  all_goals
    go_ret
    refine ⟨⟨_, rfl, ?_⟩, HB.out _⟩
    unfold actR
    simp_all <;> omega

theorem actB_eq1 {c u p ek eu ef : Int} {d eb eg et : List UInt8} (h : actB 1 c u p d (entZ ek eu ef eb eg et)) : c = c ∧ u = 0 ∧ p = 0 ∧ S d = (S d) ∧ ek = 0 ∧ S eb = ⟨#[]⟩ ∧ eu = 0 ∧ ef = 0 ∧ S eg = ⟨#[]⟩ ∧ S et = ⟨#[]⟩ := by
  unfold actB entZ at h
  obtain ⟨h1, h2, h3⟩ := h
  have g1 := h1.resolve_left
  have g2 := h2.resolve_left
  have g3 := h3.resolve_left
  obtain h2 := g2 (by decide); obtain ⟨h4, h5, h6, h7, h8, h9, h10⟩ := g3 (by decide)
  subst_vars
  exact ⟨rfl, rfl, rfl, rfl, rfl, rfl, rfl, rfl, rfl, rfl⟩
set_option maxHeartbeats 2000000 in
set_option maxRecDepth 100000 in
theorem pcheck_1 (c u p ek eu ef : Int) (d eb eg et : List UInt8) (hd : d.length ≤ 9223372036854775807) (w : World) : Calls Try.prog 4 #[.agg #[.int .i64 1, .int .i64 c, .int .i64 u, .int .i64 p, .string (S d), .int .i64 ek, .string (S eb), .int .i64 eu, .int .i64 ef, .string (S eg), .string (S et)]] w fun e w' => ChP 1 c u p d (entZ ek eu ef eb eg et) e ∧ Below w.heap.size w w' := by
  obtain ⟨W1, hW1⟩ : ∃ W1, W1 = w.alloc (.cells #[.int .i64 1, .int .i64 c, .int .i64 u, .int .i64 p, .string (S d), .int .i64 ek, .string (S eb), .int .i64 eu, .int .i64 ef, .string (S eg), .string (S et)] 25) := ⟨_, rfl⟩
  have HWE := hidp hW1
  have HB1 := hidp (show Below w.heap.size w W1 by rw [hW1]; exact (Below.refl _ _).alloc (Nat.le_refl _) _)
  have HX := hidp (show ∀ w', Below W1.heap.size W1 w' → w'.cell? ⟨w.heap.size, 0, none⟩ = some (.int .i64 1) ∧ w'.cell? ⟨w.heap.size, 1, none⟩ = some (.int .i64 c) ∧ w'.cell? ⟨w.heap.size, 2, none⟩ = some (.int .i64 u) ∧ w'.cell? ⟨w.heap.size, 3, none⟩ = some (.int .i64 p) ∧ w'.cell? ⟨w.heap.size, 4, none⟩ = some (.string (S d)) ∧ w'.cell? ⟨w.heap.size, 5, none⟩ = some (.int .i64 ek) ∧ w'.cell? ⟨w.heap.size, 6, none⟩ = some (.string (S eb)) ∧ w'.cell? ⟨w.heap.size, 7, none⟩ = some (.int .i64 eu) ∧ w'.cell? ⟨w.heap.size, 8, none⟩ = some (.int .i64 ef) ∧ w'.cell? ⟨w.heap.size, 9, none⟩ = some (.string (S eg)) ∧ w'.cell? ⟨w.heap.size, 10, none⟩ = some (.string (S et)) from fun w' hb => by
    have hs : w.heap.size < W1.heap.size := by rw [hW1]; simp
    refine ⟨?_, ?_, ?_, ?_, ?_, ?_, ?_, ?_, ?_, ?_, ?_⟩ <;> exact (hb.cell hs).trans (by rw [hW1]; simp))
  have HD := hidp hd
  have HSZ := hidp (size_S d)
  clear hW1 hd
  obtain ⟨x0, x1, x2, x3, x4, x5, x6, x7, x8, x9, x10⟩ := HX.out W1 (Below.refl _ _)
  go_enter Try.func4, Try.ntmps4
  go_wp2_with fail
  rw [← HWE.out]
  refine (inB_any _ _ _ _ _ _ _ _ _ _ _ W1).mono ?_
  rintro e w2 ⟨⟨b, rfl, hb⟩, hb2⟩
  have HB := hidp hb
  have HB2 := hidp hb2
  clear hb x0 x1 x2 x3 x4 x5 x6 x7 x8 x9 x10
  obtain ⟨y0, y1, y2, y3, y4, y5, y6, y7, y8, y9, y10⟩ := HX.out w2 hb2
  clear hb2
  cases b
  · go_wp2
    go_ret
    refine ⟨⟨6, rfl, Or.inr ⟨by decide, Or.inl ⟨fun h => ?_, rfl⟩⟩⟩, HB1.out.trans (HB2.out.mono HB1.out.size)⟩
    have := HB.out.2 h
    simp at this
  · have HR := hidp (HB.out.1 rfl)
    clear HB
    by_cases hl : 3000 < d.length
    · have hl' : (3000 : Int) < ((S d).size : Int) := by rw [HSZ.out]; omega
      have HL := hidp hl
      clear hl
      go_wp2
      go_ret
      exact ⟨⟨1, rfl, Or.inr ⟨by decide, Or.inr ⟨HR.out, Or.inl ⟨rfl, HL.out, rfl⟩⟩⟩⟩, HB1.out.trans (HB2.out.mono HB1.out.size)⟩
    have hl' : ¬ (3000 : Int) < ((S d).size : Int) := by rw [HSZ.out]; omega
    have HL := hidp (show ¬ 3000 < d.length from hl)
    clear hl
    have HBR := hidp (fun v : World => pbare_1 c u p ek eu ef d eb eg et v)
    by_cases hall : c = c ∧ u = 0 ∧ p = 0 ∧ S d = (S d) ∧ ek = 0 ∧ S eb = ⟨#[]⟩ ∧ eu = 0 ∧ ef = 0 ∧ S eg = ⟨#[]⟩ ∧ S et = ⟨#[]⟩
    · have HACT := hidp (show actB 1 c u p d (entZ ek eu ef eb eg et) by
        obtain ⟨h0, h1, h2, h3, h4, h5, h6, h7, h8, h9⟩ := hall
        exact ⟨Or.inl rfl, Or.inr h2, Or.inr ⟨h1, h4, S_zero h5, h6, h7, S_zero h8, S_zero h9⟩⟩)
      have hne := fun v : World => act_eq 1 c u p ek eu ef c 0 0 0 0 0 (S d) (S eb) (S eg) (S et) (S d) ⟨#[]⟩ ⟨#[]⟩ ⟨#[]⟩ hall v
      clear hall
      go_upto_region 7 with fail
      go_cut [1, 2, 26] (fun a b c wx => a = .pointer (some ⟨w.heap.size, 0, none⟩) ∧ c = .bool false ∧ Below W1.heap.size W1 wx)
      case first =>
        go_region_held3 (fun w' => w'.cell? ⟨w.heap.size, 0, none⟩ = some (.int .i64 1) ∧ w'.cell? ⟨w.heap.size, 1, none⟩ = some (.int .i64 c) ∧ w'.cell? ⟨w.heap.size, 2, none⟩ = some (.int .i64 u) ∧ w'.cell? ⟨w.heap.size, 3, none⟩ = some (.int .i64 p) ∧ w'.cell? ⟨w.heap.size, 4, none⟩ = some (.string (S d)) ∧ w'.cell? ⟨w.heap.size, 5, none⟩ = some (.int .i64 ek) ∧ w'.cell? ⟨w.heap.size, 6, none⟩ = some (.string (S eb)) ∧ w'.cell? ⟨w.heap.size, 7, none⟩ = some (.int .i64 eu) ∧ w'.cell? ⟨w.heap.size, 8, none⟩ = some (.int .i64 ef) ∧ w'.cell? ⟨w.heap.size, 9, none⟩ = some (.string (S eg)) ∧ w'.cell? ⟨w.heap.size, 10, none⟩ = some (.string (S et))) (go_keep)
          (first
            | (go_at_call 7
               with_reducible refine (HBR.out w2.drew).mono ?_
               rintro e w3 ⟨rfl, hb⟩
               have hb3 : Below W1.heap.size W1 w3 := (HB2.out.drew).trans (hb.mono HB2.out.size)
               have HB3 := hidp hb3
               obtain ⟨z0, z1, z2, z3, z4, z5, z6, z7, z8, z9, z10⟩ := HX.out w3 hb3
               clear hb hb3)
            | fail)
        all_goals
          go_wp2
          first | (go_meet; exact ⟨rfl, rfl, HB3.out⟩) | fail
      case rest =>
        obtain ⟨rfl, rfl, hb3⟩ := hcut
        have HB3 := hidp hb3
        clear hb3
        go_wp2
        go_ret
        exact ⟨⟨0, rfl, Or.inr ⟨by decide, Or.inr ⟨HR.out, Or.inr ⟨fun h => HL.out h.2, Or.inr ⟨HACT.out, rfl⟩⟩⟩⟩⟩, HB1.out.trans (HB3.out.mono HB1.out.size)⟩
    · have HACT := hidp (show ¬ actB 1 c u p d (entZ ek eu ef eb eg et) from fun h => hall (actB_eq1 h))
      have hne := fun v : World => act_neq 1 c u p ek eu ef c 0 0 0 0 0 (S d) (S eb) (S eg) (S et) (S d) ⟨#[]⟩ ⟨#[]⟩ ⟨#[]⟩ hall v
      clear hall
      go_upto_region 7 with fail
      go_cut [1, 2, 26] (fun a b c wx => a = .pointer (some ⟨w.heap.size, 0, none⟩) ∧ c = .bool true ∧ Below W1.heap.size W1 wx)
      case first =>
        go_region_held3 (fun w' => w'.cell? ⟨w.heap.size, 0, none⟩ = some (.int .i64 1) ∧ w'.cell? ⟨w.heap.size, 1, none⟩ = some (.int .i64 c) ∧ w'.cell? ⟨w.heap.size, 2, none⟩ = some (.int .i64 u) ∧ w'.cell? ⟨w.heap.size, 3, none⟩ = some (.int .i64 p) ∧ w'.cell? ⟨w.heap.size, 4, none⟩ = some (.string (S d)) ∧ w'.cell? ⟨w.heap.size, 5, none⟩ = some (.int .i64 ek) ∧ w'.cell? ⟨w.heap.size, 6, none⟩ = some (.string (S eb)) ∧ w'.cell? ⟨w.heap.size, 7, none⟩ = some (.int .i64 eu) ∧ w'.cell? ⟨w.heap.size, 8, none⟩ = some (.int .i64 ef) ∧ w'.cell? ⟨w.heap.size, 9, none⟩ = some (.string (S eg)) ∧ w'.cell? ⟨w.heap.size, 10, none⟩ = some (.string (S et))) (go_keep)
          (first
            | (go_at_call 7
               with_reducible refine (HBR.out w2.drew).mono ?_
               rintro e w3 ⟨rfl, hb⟩
               have hb3 : Below W1.heap.size W1 w3 := (HB2.out.drew).trans (hb.mono HB2.out.size)
               have HB3 := hidp hb3
               obtain ⟨z0, z1, z2, z3, z4, z5, z6, z7, z8, z9, z10⟩ := HX.out w3 hb3
               clear hb hb3)
            | fail)
        all_goals
          go_wp2
          first | (go_meet; exact ⟨rfl, rfl, HB3.out⟩) | fail
      case rest =>
        obtain ⟨rfl, rfl, hb3⟩ := hcut
        have HB3 := hidp hb3
        clear hb3
        go_wp2
        go_ret
        exact ⟨⟨3, rfl, Or.inr ⟨by decide, Or.inr ⟨HR.out, Or.inr ⟨fun h => HL.out h.2, Or.inl ⟨HACT.out, rfl⟩⟩⟩⟩⟩, HB1.out.trans (HB3.out.mono HB1.out.size)⟩
theorem actB_eq2 {c u p ek eu ef : Int} {d eb eg et : List UInt8} (h : actB 2 c u p d (entZ ek eu ef eb eg et)) : c = 0 ∧ u = 0 ∧ p = 0 ∧ S d = ⟨#[]⟩ ∧ ek = 0 ∧ S eb = ⟨#[]⟩ ∧ eu = 0 ∧ ef = 0 ∧ S eg = ⟨#[]⟩ ∧ S et = ⟨#[]⟩ := by
  unfold actB entZ at h
  obtain ⟨h1, h2, h3⟩ := h
  have g1 := h1.resolve_left
  have g2 := h2.resolve_left
  have g3 := h3.resolve_left
  obtain ⟨h1, h1'⟩ := g1 (by decide); obtain h2 := g2 (by decide); obtain ⟨h4, h5, h6, h7, h8, h9, h10⟩ := g3 (by decide)
  subst_vars
  exact ⟨rfl, rfl, rfl, rfl, rfl, rfl, rfl, rfl, rfl, rfl⟩
set_option maxHeartbeats 2000000 in
set_option maxRecDepth 100000 in
theorem pcheck_2 (c u p ek eu ef : Int) (d eb eg et : List UInt8) (hd : d.length ≤ 9223372036854775807) (w : World) : Calls Try.prog 4 #[.agg #[.int .i64 2, .int .i64 c, .int .i64 u, .int .i64 p, .string (S d), .int .i64 ek, .string (S eb), .int .i64 eu, .int .i64 ef, .string (S eg), .string (S et)]] w fun e w' => ChP 2 c u p d (entZ ek eu ef eb eg et) e ∧ Below w.heap.size w w' := by
  obtain ⟨W1, hW1⟩ : ∃ W1, W1 = w.alloc (.cells #[.int .i64 2, .int .i64 c, .int .i64 u, .int .i64 p, .string (S d), .int .i64 ek, .string (S eb), .int .i64 eu, .int .i64 ef, .string (S eg), .string (S et)] 25) := ⟨_, rfl⟩
  have HWE := hidp hW1
  have HB1 := hidp (show Below w.heap.size w W1 by rw [hW1]; exact (Below.refl _ _).alloc (Nat.le_refl _) _)
  have HX := hidp (show ∀ w', Below W1.heap.size W1 w' → w'.cell? ⟨w.heap.size, 0, none⟩ = some (.int .i64 2) ∧ w'.cell? ⟨w.heap.size, 1, none⟩ = some (.int .i64 c) ∧ w'.cell? ⟨w.heap.size, 2, none⟩ = some (.int .i64 u) ∧ w'.cell? ⟨w.heap.size, 3, none⟩ = some (.int .i64 p) ∧ w'.cell? ⟨w.heap.size, 4, none⟩ = some (.string (S d)) ∧ w'.cell? ⟨w.heap.size, 5, none⟩ = some (.int .i64 ek) ∧ w'.cell? ⟨w.heap.size, 6, none⟩ = some (.string (S eb)) ∧ w'.cell? ⟨w.heap.size, 7, none⟩ = some (.int .i64 eu) ∧ w'.cell? ⟨w.heap.size, 8, none⟩ = some (.int .i64 ef) ∧ w'.cell? ⟨w.heap.size, 9, none⟩ = some (.string (S eg)) ∧ w'.cell? ⟨w.heap.size, 10, none⟩ = some (.string (S et)) from fun w' hb => by
    have hs : w.heap.size < W1.heap.size := by rw [hW1]; simp
    refine ⟨?_, ?_, ?_, ?_, ?_, ?_, ?_, ?_, ?_, ?_, ?_⟩ <;> exact (hb.cell hs).trans (by rw [hW1]; simp))
  have HD := hidp hd
  have HSZ := hidp (size_S d)
  clear hW1 hd
  obtain ⟨x0, x1, x2, x3, x4, x5, x6, x7, x8, x9, x10⟩ := HX.out W1 (Below.refl _ _)
  go_enter Try.func4, Try.ntmps4
  go_wp2_with fail
  rw [← HWE.out]
  refine (inB_any _ _ _ _ _ _ _ _ _ _ _ W1).mono ?_
  rintro e w2 ⟨⟨b, rfl, hb⟩, hb2⟩
  have HB := hidp hb
  have HB2 := hidp hb2
  clear hb x0 x1 x2 x3 x4 x5 x6 x7 x8 x9 x10
  obtain ⟨y0, y1, y2, y3, y4, y5, y6, y7, y8, y9, y10⟩ := HX.out w2 hb2
  clear hb2
  cases b
  · go_wp2
    go_ret
    refine ⟨⟨6, rfl, Or.inr ⟨by decide, Or.inl ⟨fun h => ?_, rfl⟩⟩⟩, HB1.out.trans (HB2.out.mono HB1.out.size)⟩
    have := HB.out.2 h
    simp at this
  · have HR := hidp (HB.out.1 rfl)
    clear HB
    skip
    have HBR := hidp (fun v : World => pbare_2 c u p ek eu ef d eb eg et v)
    by_cases hall : c = 0 ∧ u = 0 ∧ p = 0 ∧ S d = ⟨#[]⟩ ∧ ek = 0 ∧ S eb = ⟨#[]⟩ ∧ eu = 0 ∧ ef = 0 ∧ S eg = ⟨#[]⟩ ∧ S et = ⟨#[]⟩
    · have HACT := hidp (show actB 2 c u p d (entZ ek eu ef eb eg et) by
        obtain ⟨h0, h1, h2, h3, h4, h5, h6, h7, h8, h9⟩ := hall
        exact ⟨Or.inr ⟨h0, S_zero h3⟩, Or.inr h2, Or.inr ⟨h1, h4, S_zero h5, h6, h7, S_zero h8, S_zero h9⟩⟩)
      have hne := fun v : World => act_eq 2 c u p ek eu ef 0 0 0 0 0 0 (S d) (S eb) (S eg) (S et) ⟨#[]⟩ ⟨#[]⟩ ⟨#[]⟩ ⟨#[]⟩ hall v
      clear hall
      go_upto_region 7 with fail
      go_cut [1, 2, 26] (fun a b c wx => a = .pointer (some ⟨w.heap.size, 0, none⟩) ∧ c = .bool false ∧ Below W1.heap.size W1 wx)
      case first =>
        go_region_held3 (fun w' => w'.cell? ⟨w.heap.size, 0, none⟩ = some (.int .i64 2) ∧ w'.cell? ⟨w.heap.size, 1, none⟩ = some (.int .i64 c) ∧ w'.cell? ⟨w.heap.size, 2, none⟩ = some (.int .i64 u) ∧ w'.cell? ⟨w.heap.size, 3, none⟩ = some (.int .i64 p) ∧ w'.cell? ⟨w.heap.size, 4, none⟩ = some (.string (S d)) ∧ w'.cell? ⟨w.heap.size, 5, none⟩ = some (.int .i64 ek) ∧ w'.cell? ⟨w.heap.size, 6, none⟩ = some (.string (S eb)) ∧ w'.cell? ⟨w.heap.size, 7, none⟩ = some (.int .i64 eu) ∧ w'.cell? ⟨w.heap.size, 8, none⟩ = some (.int .i64 ef) ∧ w'.cell? ⟨w.heap.size, 9, none⟩ = some (.string (S eg)) ∧ w'.cell? ⟨w.heap.size, 10, none⟩ = some (.string (S et))) (go_keep)
          (first
            | (go_at_call 7
               with_reducible refine (HBR.out w2.drew).mono ?_
               rintro e w3 ⟨rfl, hb⟩
               have hb3 : Below W1.heap.size W1 w3 := (HB2.out.drew).trans (hb.mono HB2.out.size)
               have HB3 := hidp hb3
               obtain ⟨z0, z1, z2, z3, z4, z5, z6, z7, z8, z9, z10⟩ := HX.out w3 hb3
               clear hb hb3)
            | fail)
        all_goals
          go_wp2
          first | (go_meet; exact ⟨rfl, rfl, HB3.out⟩) | fail
      case rest =>
        obtain ⟨rfl, rfl, hb3⟩ := hcut
        have HB3 := hidp hb3
        clear hb3
        go_wp2
        go_ret
        exact ⟨⟨0, rfl, Or.inr ⟨by decide, Or.inr ⟨HR.out, Or.inr ⟨fun h => absurd h.1 (by decide), Or.inr ⟨HACT.out, rfl⟩⟩⟩⟩⟩, HB1.out.trans (HB3.out.mono HB1.out.size)⟩
    · have HACT := hidp (show ¬ actB 2 c u p d (entZ ek eu ef eb eg et) from fun h => hall (actB_eq2 h))
      have hne := fun v : World => act_neq 2 c u p ek eu ef 0 0 0 0 0 0 (S d) (S eb) (S eg) (S et) ⟨#[]⟩ ⟨#[]⟩ ⟨#[]⟩ ⟨#[]⟩ hall v
      clear hall
      go_upto_region 7 with fail
      go_cut [1, 2, 26] (fun a b c wx => a = .pointer (some ⟨w.heap.size, 0, none⟩) ∧ c = .bool true ∧ Below W1.heap.size W1 wx)
      case first =>
        go_region_held3 (fun w' => w'.cell? ⟨w.heap.size, 0, none⟩ = some (.int .i64 2) ∧ w'.cell? ⟨w.heap.size, 1, none⟩ = some (.int .i64 c) ∧ w'.cell? ⟨w.heap.size, 2, none⟩ = some (.int .i64 u) ∧ w'.cell? ⟨w.heap.size, 3, none⟩ = some (.int .i64 p) ∧ w'.cell? ⟨w.heap.size, 4, none⟩ = some (.string (S d)) ∧ w'.cell? ⟨w.heap.size, 5, none⟩ = some (.int .i64 ek) ∧ w'.cell? ⟨w.heap.size, 6, none⟩ = some (.string (S eb)) ∧ w'.cell? ⟨w.heap.size, 7, none⟩ = some (.int .i64 eu) ∧ w'.cell? ⟨w.heap.size, 8, none⟩ = some (.int .i64 ef) ∧ w'.cell? ⟨w.heap.size, 9, none⟩ = some (.string (S eg)) ∧ w'.cell? ⟨w.heap.size, 10, none⟩ = some (.string (S et))) (go_keep)
          (first
            | (go_at_call 7
               with_reducible refine (HBR.out w2.drew).mono ?_
               rintro e w3 ⟨rfl, hb⟩
               have hb3 : Below W1.heap.size W1 w3 := (HB2.out.drew).trans (hb.mono HB2.out.size)
               have HB3 := hidp hb3
               obtain ⟨z0, z1, z2, z3, z4, z5, z6, z7, z8, z9, z10⟩ := HX.out w3 hb3
               clear hb hb3)
            | fail)
        all_goals
          go_wp2
          first | (go_meet; exact ⟨rfl, rfl, HB3.out⟩) | fail
      case rest =>
        obtain ⟨rfl, rfl, hb3⟩ := hcut
        have HB3 := hidp hb3
        clear hb3
        go_wp2
        go_ret
        exact ⟨⟨3, rfl, Or.inr ⟨by decide, Or.inr ⟨HR.out, Or.inr ⟨fun h => absurd h.1 (by decide), Or.inl ⟨HACT.out, rfl⟩⟩⟩⟩⟩, HB1.out.trans (HB3.out.mono HB1.out.size)⟩
theorem actB_eq3 {c u p ek eu ef : Int} {d eb eg et : List UInt8} (h : actB 3 c u p d (entZ ek eu ef eb eg et)) : c = 0 ∧ u = 0 ∧ p = p ∧ S d = ⟨#[]⟩ ∧ ek = 0 ∧ S eb = ⟨#[]⟩ ∧ eu = 0 ∧ ef = 0 ∧ S eg = ⟨#[]⟩ ∧ S et = ⟨#[]⟩ := by
  unfold actB entZ at h
  obtain ⟨h1, h2, h3⟩ := h
  have g1 := h1.resolve_left
  have g2 := h2.resolve_left
  have g3 := h3.resolve_left
  obtain ⟨h1, h1'⟩ := g1 (by decide); obtain ⟨h4, h5, h6, h7, h8, h9, h10⟩ := g3 (by decide)
  subst_vars
  exact ⟨rfl, rfl, rfl, rfl, rfl, rfl, rfl, rfl, rfl, rfl⟩
set_option maxHeartbeats 2000000 in
set_option maxRecDepth 100000 in
theorem pcheck_3 (c u p ek eu ef : Int) (d eb eg et : List UInt8) (hd : d.length ≤ 9223372036854775807) (w : World) : Calls Try.prog 4 #[.agg #[.int .i64 3, .int .i64 c, .int .i64 u, .int .i64 p, .string (S d), .int .i64 ek, .string (S eb), .int .i64 eu, .int .i64 ef, .string (S eg), .string (S et)]] w fun e w' => ChP 3 c u p d (entZ ek eu ef eb eg et) e ∧ Below w.heap.size w w' := by
  obtain ⟨W1, hW1⟩ : ∃ W1, W1 = w.alloc (.cells #[.int .i64 3, .int .i64 c, .int .i64 u, .int .i64 p, .string (S d), .int .i64 ek, .string (S eb), .int .i64 eu, .int .i64 ef, .string (S eg), .string (S et)] 25) := ⟨_, rfl⟩
  have HWE := hidp hW1
  have HB1 := hidp (show Below w.heap.size w W1 by rw [hW1]; exact (Below.refl _ _).alloc (Nat.le_refl _) _)
  have HX := hidp (show ∀ w', Below W1.heap.size W1 w' → w'.cell? ⟨w.heap.size, 0, none⟩ = some (.int .i64 3) ∧ w'.cell? ⟨w.heap.size, 1, none⟩ = some (.int .i64 c) ∧ w'.cell? ⟨w.heap.size, 2, none⟩ = some (.int .i64 u) ∧ w'.cell? ⟨w.heap.size, 3, none⟩ = some (.int .i64 p) ∧ w'.cell? ⟨w.heap.size, 4, none⟩ = some (.string (S d)) ∧ w'.cell? ⟨w.heap.size, 5, none⟩ = some (.int .i64 ek) ∧ w'.cell? ⟨w.heap.size, 6, none⟩ = some (.string (S eb)) ∧ w'.cell? ⟨w.heap.size, 7, none⟩ = some (.int .i64 eu) ∧ w'.cell? ⟨w.heap.size, 8, none⟩ = some (.int .i64 ef) ∧ w'.cell? ⟨w.heap.size, 9, none⟩ = some (.string (S eg)) ∧ w'.cell? ⟨w.heap.size, 10, none⟩ = some (.string (S et)) from fun w' hb => by
    have hs : w.heap.size < W1.heap.size := by rw [hW1]; simp
    refine ⟨?_, ?_, ?_, ?_, ?_, ?_, ?_, ?_, ?_, ?_, ?_⟩ <;> exact (hb.cell hs).trans (by rw [hW1]; simp))
  have HD := hidp hd
  have HSZ := hidp (size_S d)
  clear hW1 hd
  obtain ⟨x0, x1, x2, x3, x4, x5, x6, x7, x8, x9, x10⟩ := HX.out W1 (Below.refl _ _)
  go_enter Try.func4, Try.ntmps4
  go_wp2_with fail
  rw [← HWE.out]
  refine (inB_any _ _ _ _ _ _ _ _ _ _ _ W1).mono ?_
  rintro e w2 ⟨⟨b, rfl, hb⟩, hb2⟩
  have HB := hidp hb
  have HB2 := hidp hb2
  clear hb x0 x1 x2 x3 x4 x5 x6 x7 x8 x9 x10
  obtain ⟨y0, y1, y2, y3, y4, y5, y6, y7, y8, y9, y10⟩ := HX.out w2 hb2
  clear hb2
  cases b
  · go_wp2
    go_ret
    refine ⟨⟨6, rfl, Or.inr ⟨by decide, Or.inl ⟨fun h => ?_, rfl⟩⟩⟩, HB1.out.trans (HB2.out.mono HB1.out.size)⟩
    have := HB.out.2 h
    simp at this
  · have HR := hidp (HB.out.1 rfl)
    clear HB
    skip
    have HBR := hidp (fun v : World => pbare_3 c u p ek eu ef d eb eg et v)
    by_cases hall : c = 0 ∧ u = 0 ∧ p = p ∧ S d = ⟨#[]⟩ ∧ ek = 0 ∧ S eb = ⟨#[]⟩ ∧ eu = 0 ∧ ef = 0 ∧ S eg = ⟨#[]⟩ ∧ S et = ⟨#[]⟩
    · have HACT := hidp (show actB 3 c u p d (entZ ek eu ef eb eg et) by
        obtain ⟨h0, h1, h2, h3, h4, h5, h6, h7, h8, h9⟩ := hall
        exact ⟨Or.inr ⟨h0, S_zero h3⟩, Or.inl rfl, Or.inr ⟨h1, h4, S_zero h5, h6, h7, S_zero h8, S_zero h9⟩⟩)
      have hne := fun v : World => act_eq 3 c u p ek eu ef 0 0 p 0 0 0 (S d) (S eb) (S eg) (S et) ⟨#[]⟩ ⟨#[]⟩ ⟨#[]⟩ ⟨#[]⟩ hall v
      clear hall
      go_upto_region 7 with fail
      go_cut [1, 2, 26] (fun a b c wx => a = .pointer (some ⟨w.heap.size, 0, none⟩) ∧ c = .bool false ∧ Below W1.heap.size W1 wx)
      case first =>
        go_region_held3 (fun w' => w'.cell? ⟨w.heap.size, 0, none⟩ = some (.int .i64 3) ∧ w'.cell? ⟨w.heap.size, 1, none⟩ = some (.int .i64 c) ∧ w'.cell? ⟨w.heap.size, 2, none⟩ = some (.int .i64 u) ∧ w'.cell? ⟨w.heap.size, 3, none⟩ = some (.int .i64 p) ∧ w'.cell? ⟨w.heap.size, 4, none⟩ = some (.string (S d)) ∧ w'.cell? ⟨w.heap.size, 5, none⟩ = some (.int .i64 ek) ∧ w'.cell? ⟨w.heap.size, 6, none⟩ = some (.string (S eb)) ∧ w'.cell? ⟨w.heap.size, 7, none⟩ = some (.int .i64 eu) ∧ w'.cell? ⟨w.heap.size, 8, none⟩ = some (.int .i64 ef) ∧ w'.cell? ⟨w.heap.size, 9, none⟩ = some (.string (S eg)) ∧ w'.cell? ⟨w.heap.size, 10, none⟩ = some (.string (S et))) (go_keep)
          (first
            | (go_at_call 7
               with_reducible refine (HBR.out w2.drew).mono ?_
               rintro e w3 ⟨rfl, hb⟩
               have hb3 : Below W1.heap.size W1 w3 := (HB2.out.drew).trans (hb.mono HB2.out.size)
               have HB3 := hidp hb3
               obtain ⟨z0, z1, z2, z3, z4, z5, z6, z7, z8, z9, z10⟩ := HX.out w3 hb3
               clear hb hb3)
            | fail)
        all_goals
          go_wp2
          first | (go_meet; exact ⟨rfl, rfl, HB3.out⟩) | fail
      case rest =>
        obtain ⟨rfl, rfl, hb3⟩ := hcut
        have HB3 := hidp hb3
        clear hb3
        go_wp2
        go_ret
        exact ⟨⟨0, rfl, Or.inr ⟨by decide, Or.inr ⟨HR.out, Or.inr ⟨fun h => absurd h.1 (by decide), Or.inr ⟨HACT.out, rfl⟩⟩⟩⟩⟩, HB1.out.trans (HB3.out.mono HB1.out.size)⟩
    · have HACT := hidp (show ¬ actB 3 c u p d (entZ ek eu ef eb eg et) from fun h => hall (actB_eq3 h))
      have hne := fun v : World => act_neq 3 c u p ek eu ef 0 0 p 0 0 0 (S d) (S eb) (S eg) (S et) ⟨#[]⟩ ⟨#[]⟩ ⟨#[]⟩ ⟨#[]⟩ hall v
      clear hall
      go_upto_region 7 with fail
      go_cut [1, 2, 26] (fun a b c wx => a = .pointer (some ⟨w.heap.size, 0, none⟩) ∧ c = .bool true ∧ Below W1.heap.size W1 wx)
      case first =>
        go_region_held3 (fun w' => w'.cell? ⟨w.heap.size, 0, none⟩ = some (.int .i64 3) ∧ w'.cell? ⟨w.heap.size, 1, none⟩ = some (.int .i64 c) ∧ w'.cell? ⟨w.heap.size, 2, none⟩ = some (.int .i64 u) ∧ w'.cell? ⟨w.heap.size, 3, none⟩ = some (.int .i64 p) ∧ w'.cell? ⟨w.heap.size, 4, none⟩ = some (.string (S d)) ∧ w'.cell? ⟨w.heap.size, 5, none⟩ = some (.int .i64 ek) ∧ w'.cell? ⟨w.heap.size, 6, none⟩ = some (.string (S eb)) ∧ w'.cell? ⟨w.heap.size, 7, none⟩ = some (.int .i64 eu) ∧ w'.cell? ⟨w.heap.size, 8, none⟩ = some (.int .i64 ef) ∧ w'.cell? ⟨w.heap.size, 9, none⟩ = some (.string (S eg)) ∧ w'.cell? ⟨w.heap.size, 10, none⟩ = some (.string (S et))) (go_keep)
          (first
            | (go_at_call 7
               with_reducible refine (HBR.out w2.drew).mono ?_
               rintro e w3 ⟨rfl, hb⟩
               have hb3 : Below W1.heap.size W1 w3 := (HB2.out.drew).trans (hb.mono HB2.out.size)
               have HB3 := hidp hb3
               obtain ⟨z0, z1, z2, z3, z4, z5, z6, z7, z8, z9, z10⟩ := HX.out w3 hb3
               clear hb hb3)
            | fail)
        all_goals
          go_wp2
          first | (go_meet; exact ⟨rfl, rfl, HB3.out⟩) | fail
      case rest =>
        obtain ⟨rfl, rfl, hb3⟩ := hcut
        have HB3 := hidp hb3
        clear hb3
        go_wp2
        go_ret
        exact ⟨⟨3, rfl, Or.inr ⟨by decide, Or.inr ⟨HR.out, Or.inr ⟨fun h => absurd h.1 (by decide), Or.inl ⟨HACT.out, rfl⟩⟩⟩⟩⟩, HB1.out.trans (HB3.out.mono HB1.out.size)⟩
theorem actB_eq4 {c u p ek eu ef : Int} {d eb eg et : List UInt8} (h : actB 4 c u p d (entZ ek eu ef eb eg et)) : c = 0 ∧ u = 0 ∧ p = 0 ∧ S d = ⟨#[]⟩ ∧ ek = 0 ∧ S eb = ⟨#[]⟩ ∧ eu = 0 ∧ ef = 0 ∧ S eg = ⟨#[]⟩ ∧ S et = ⟨#[]⟩ := by
  unfold actB entZ at h
  obtain ⟨h1, h2, h3⟩ := h
  have g1 := h1.resolve_left
  have g2 := h2.resolve_left
  have g3 := h3.resolve_left
  obtain ⟨h1, h1'⟩ := g1 (by decide); obtain h2 := g2 (by decide); obtain ⟨h4, h5, h6, h7, h8, h9, h10⟩ := g3 (by decide)
  subst_vars
  exact ⟨rfl, rfl, rfl, rfl, rfl, rfl, rfl, rfl, rfl, rfl⟩
set_option maxHeartbeats 2000000 in
set_option maxRecDepth 100000 in
theorem pcheck_4 (c u p ek eu ef : Int) (d eb eg et : List UInt8) (hd : d.length ≤ 9223372036854775807) (w : World) : Calls Try.prog 4 #[.agg #[.int .i64 4, .int .i64 c, .int .i64 u, .int .i64 p, .string (S d), .int .i64 ek, .string (S eb), .int .i64 eu, .int .i64 ef, .string (S eg), .string (S et)]] w fun e w' => ChP 4 c u p d (entZ ek eu ef eb eg et) e ∧ Below w.heap.size w w' := by
  obtain ⟨W1, hW1⟩ : ∃ W1, W1 = w.alloc (.cells #[.int .i64 4, .int .i64 c, .int .i64 u, .int .i64 p, .string (S d), .int .i64 ek, .string (S eb), .int .i64 eu, .int .i64 ef, .string (S eg), .string (S et)] 25) := ⟨_, rfl⟩
  have HWE := hidp hW1
  have HB1 := hidp (show Below w.heap.size w W1 by rw [hW1]; exact (Below.refl _ _).alloc (Nat.le_refl _) _)
  have HX := hidp (show ∀ w', Below W1.heap.size W1 w' → w'.cell? ⟨w.heap.size, 0, none⟩ = some (.int .i64 4) ∧ w'.cell? ⟨w.heap.size, 1, none⟩ = some (.int .i64 c) ∧ w'.cell? ⟨w.heap.size, 2, none⟩ = some (.int .i64 u) ∧ w'.cell? ⟨w.heap.size, 3, none⟩ = some (.int .i64 p) ∧ w'.cell? ⟨w.heap.size, 4, none⟩ = some (.string (S d)) ∧ w'.cell? ⟨w.heap.size, 5, none⟩ = some (.int .i64 ek) ∧ w'.cell? ⟨w.heap.size, 6, none⟩ = some (.string (S eb)) ∧ w'.cell? ⟨w.heap.size, 7, none⟩ = some (.int .i64 eu) ∧ w'.cell? ⟨w.heap.size, 8, none⟩ = some (.int .i64 ef) ∧ w'.cell? ⟨w.heap.size, 9, none⟩ = some (.string (S eg)) ∧ w'.cell? ⟨w.heap.size, 10, none⟩ = some (.string (S et)) from fun w' hb => by
    have hs : w.heap.size < W1.heap.size := by rw [hW1]; simp
    refine ⟨?_, ?_, ?_, ?_, ?_, ?_, ?_, ?_, ?_, ?_, ?_⟩ <;> exact (hb.cell hs).trans (by rw [hW1]; simp))
  have HD := hidp hd
  have HSZ := hidp (size_S d)
  clear hW1 hd
  obtain ⟨x0, x1, x2, x3, x4, x5, x6, x7, x8, x9, x10⟩ := HX.out W1 (Below.refl _ _)
  go_enter Try.func4, Try.ntmps4
  go_wp2_with fail
  rw [← HWE.out]
  refine (inB_any _ _ _ _ _ _ _ _ _ _ _ W1).mono ?_
  rintro e w2 ⟨⟨b, rfl, hb⟩, hb2⟩
  have HB := hidp hb
  have HB2 := hidp hb2
  clear hb x0 x1 x2 x3 x4 x5 x6 x7 x8 x9 x10
  obtain ⟨y0, y1, y2, y3, y4, y5, y6, y7, y8, y9, y10⟩ := HX.out w2 hb2
  clear hb2
  cases b
  · go_wp2
    go_ret
    refine ⟨⟨6, rfl, Or.inr ⟨by decide, Or.inl ⟨fun h => ?_, rfl⟩⟩⟩, HB1.out.trans (HB2.out.mono HB1.out.size)⟩
    have := HB.out.2 h
    simp at this
  · have HR := hidp (HB.out.1 rfl)
    clear HB
    skip
    have HBR := hidp (fun v : World => pbare_4 c u p ek eu ef d eb eg et v)
    by_cases hall : c = 0 ∧ u = 0 ∧ p = 0 ∧ S d = ⟨#[]⟩ ∧ ek = 0 ∧ S eb = ⟨#[]⟩ ∧ eu = 0 ∧ ef = 0 ∧ S eg = ⟨#[]⟩ ∧ S et = ⟨#[]⟩
    · have HACT := hidp (show actB 4 c u p d (entZ ek eu ef eb eg et) by
        obtain ⟨h0, h1, h2, h3, h4, h5, h6, h7, h8, h9⟩ := hall
        exact ⟨Or.inr ⟨h0, S_zero h3⟩, Or.inr h2, Or.inr ⟨h1, h4, S_zero h5, h6, h7, S_zero h8, S_zero h9⟩⟩)
      have hne := fun v : World => act_eq 4 c u p ek eu ef 0 0 0 0 0 0 (S d) (S eb) (S eg) (S et) ⟨#[]⟩ ⟨#[]⟩ ⟨#[]⟩ ⟨#[]⟩ hall v
      clear hall
      go_upto_region 7 with fail
      go_cut [1, 2, 26] (fun a b c wx => a = .pointer (some ⟨w.heap.size, 0, none⟩) ∧ c = .bool false ∧ Below W1.heap.size W1 wx)
      case first =>
        go_region_held3 (fun w' => w'.cell? ⟨w.heap.size, 0, none⟩ = some (.int .i64 4) ∧ w'.cell? ⟨w.heap.size, 1, none⟩ = some (.int .i64 c) ∧ w'.cell? ⟨w.heap.size, 2, none⟩ = some (.int .i64 u) ∧ w'.cell? ⟨w.heap.size, 3, none⟩ = some (.int .i64 p) ∧ w'.cell? ⟨w.heap.size, 4, none⟩ = some (.string (S d)) ∧ w'.cell? ⟨w.heap.size, 5, none⟩ = some (.int .i64 ek) ∧ w'.cell? ⟨w.heap.size, 6, none⟩ = some (.string (S eb)) ∧ w'.cell? ⟨w.heap.size, 7, none⟩ = some (.int .i64 eu) ∧ w'.cell? ⟨w.heap.size, 8, none⟩ = some (.int .i64 ef) ∧ w'.cell? ⟨w.heap.size, 9, none⟩ = some (.string (S eg)) ∧ w'.cell? ⟨w.heap.size, 10, none⟩ = some (.string (S et))) (go_keep)
          (first
            | (go_at_call 7
               with_reducible refine (HBR.out w2.drew).mono ?_
               rintro e w3 ⟨rfl, hb⟩
               have hb3 : Below W1.heap.size W1 w3 := (HB2.out.drew).trans (hb.mono HB2.out.size)
               have HB3 := hidp hb3
               obtain ⟨z0, z1, z2, z3, z4, z5, z6, z7, z8, z9, z10⟩ := HX.out w3 hb3
               clear hb hb3)
            | fail)
        all_goals
          go_wp2
          first | (go_meet; exact ⟨rfl, rfl, HB3.out⟩) | fail
      case rest =>
        obtain ⟨rfl, rfl, hb3⟩ := hcut
        have HB3 := hidp hb3
        clear hb3
        go_wp2
        go_ret
        exact ⟨⟨0, rfl, Or.inr ⟨by decide, Or.inr ⟨HR.out, Or.inr ⟨fun h => absurd h.1 (by decide), Or.inr ⟨HACT.out, rfl⟩⟩⟩⟩⟩, HB1.out.trans (HB3.out.mono HB1.out.size)⟩
    · have HACT := hidp (show ¬ actB 4 c u p d (entZ ek eu ef eb eg et) from fun h => hall (actB_eq4 h))
      have hne := fun v : World => act_neq 4 c u p ek eu ef 0 0 0 0 0 0 (S d) (S eb) (S eg) (S et) ⟨#[]⟩ ⟨#[]⟩ ⟨#[]⟩ ⟨#[]⟩ hall v
      clear hall
      go_upto_region 7 with fail
      go_cut [1, 2, 26] (fun a b c wx => a = .pointer (some ⟨w.heap.size, 0, none⟩) ∧ c = .bool true ∧ Below W1.heap.size W1 wx)
      case first =>
        go_region_held3 (fun w' => w'.cell? ⟨w.heap.size, 0, none⟩ = some (.int .i64 4) ∧ w'.cell? ⟨w.heap.size, 1, none⟩ = some (.int .i64 c) ∧ w'.cell? ⟨w.heap.size, 2, none⟩ = some (.int .i64 u) ∧ w'.cell? ⟨w.heap.size, 3, none⟩ = some (.int .i64 p) ∧ w'.cell? ⟨w.heap.size, 4, none⟩ = some (.string (S d)) ∧ w'.cell? ⟨w.heap.size, 5, none⟩ = some (.int .i64 ek) ∧ w'.cell? ⟨w.heap.size, 6, none⟩ = some (.string (S eb)) ∧ w'.cell? ⟨w.heap.size, 7, none⟩ = some (.int .i64 eu) ∧ w'.cell? ⟨w.heap.size, 8, none⟩ = some (.int .i64 ef) ∧ w'.cell? ⟨w.heap.size, 9, none⟩ = some (.string (S eg)) ∧ w'.cell? ⟨w.heap.size, 10, none⟩ = some (.string (S et))) (go_keep)
          (first
            | (go_at_call 7
               with_reducible refine (HBR.out w2.drew).mono ?_
               rintro e w3 ⟨rfl, hb⟩
               have hb3 : Below W1.heap.size W1 w3 := (HB2.out.drew).trans (hb.mono HB2.out.size)
               have HB3 := hidp hb3
               obtain ⟨z0, z1, z2, z3, z4, z5, z6, z7, z8, z9, z10⟩ := HX.out w3 hb3
               clear hb hb3)
            | fail)
        all_goals
          go_wp2
          first | (go_meet; exact ⟨rfl, rfl, HB3.out⟩) | fail
      case rest =>
        obtain ⟨rfl, rfl, hb3⟩ := hcut
        have HB3 := hidp hb3
        clear hb3
        go_wp2
        go_ret
        exact ⟨⟨3, rfl, Or.inr ⟨by decide, Or.inr ⟨HR.out, Or.inr ⟨fun h => absurd h.1 (by decide), Or.inl ⟨HACT.out, rfl⟩⟩⟩⟩⟩, HB1.out.trans (HB3.out.mono HB1.out.size)⟩
theorem actB_eq5 {c u p ek eu ef : Int} {d eb eg et : List UInt8} (h : actB 5 c u p d (entZ ek eu ef eb eg et)) : c = 0 ∧ u = u ∧ p = 0 ∧ S d = ⟨#[]⟩ ∧ ek = ek ∧ S eb = (S eb) ∧ eu = eu ∧ ef = ef ∧ S eg = (S eg) ∧ S et = (S et) := by
  unfold actB entZ at h
  obtain ⟨h1, h2, h3⟩ := h
  have g1 := h1.resolve_left
  have g2 := h2.resolve_left
  have g3 := h3.resolve_left
  obtain ⟨h1, h1'⟩ := g1 (by decide); obtain h2 := g2 (by decide)
  subst_vars
  exact ⟨rfl, rfl, rfl, rfl, rfl, rfl, rfl, rfl, rfl, rfl⟩
set_option maxHeartbeats 2000000 in
set_option maxRecDepth 100000 in
theorem pcheck_5 (c u p ek eu ef : Int) (d eb eg et : List UInt8) (hd : d.length ≤ 9223372036854775807) (w : World) : Calls Try.prog 4 #[.agg #[.int .i64 5, .int .i64 c, .int .i64 u, .int .i64 p, .string (S d), .int .i64 ek, .string (S eb), .int .i64 eu, .int .i64 ef, .string (S eg), .string (S et)]] w fun e w' => ChP 5 c u p d (entZ ek eu ef eb eg et) e ∧ Below w.heap.size w w' := by
  obtain ⟨W1, hW1⟩ : ∃ W1, W1 = w.alloc (.cells #[.int .i64 5, .int .i64 c, .int .i64 u, .int .i64 p, .string (S d), .int .i64 ek, .string (S eb), .int .i64 eu, .int .i64 ef, .string (S eg), .string (S et)] 25) := ⟨_, rfl⟩
  have HWE := hidp hW1
  have HB1 := hidp (show Below w.heap.size w W1 by rw [hW1]; exact (Below.refl _ _).alloc (Nat.le_refl _) _)
  have HX := hidp (show ∀ w', Below W1.heap.size W1 w' → w'.cell? ⟨w.heap.size, 0, none⟩ = some (.int .i64 5) ∧ w'.cell? ⟨w.heap.size, 1, none⟩ = some (.int .i64 c) ∧ w'.cell? ⟨w.heap.size, 2, none⟩ = some (.int .i64 u) ∧ w'.cell? ⟨w.heap.size, 3, none⟩ = some (.int .i64 p) ∧ w'.cell? ⟨w.heap.size, 4, none⟩ = some (.string (S d)) ∧ w'.cell? ⟨w.heap.size, 5, none⟩ = some (.int .i64 ek) ∧ w'.cell? ⟨w.heap.size, 6, none⟩ = some (.string (S eb)) ∧ w'.cell? ⟨w.heap.size, 7, none⟩ = some (.int .i64 eu) ∧ w'.cell? ⟨w.heap.size, 8, none⟩ = some (.int .i64 ef) ∧ w'.cell? ⟨w.heap.size, 9, none⟩ = some (.string (S eg)) ∧ w'.cell? ⟨w.heap.size, 10, none⟩ = some (.string (S et)) from fun w' hb => by
    have hs : w.heap.size < W1.heap.size := by rw [hW1]; simp
    refine ⟨?_, ?_, ?_, ?_, ?_, ?_, ?_, ?_, ?_, ?_, ?_⟩ <;> exact (hb.cell hs).trans (by rw [hW1]; simp))
  have HD := hidp hd
  have HSZ := hidp (size_S d)
  clear hW1 hd
  obtain ⟨x0, x1, x2, x3, x4, x5, x6, x7, x8, x9, x10⟩ := HX.out W1 (Below.refl _ _)
  go_enter Try.func4, Try.ntmps4
  go_wp2_with fail
  rw [← HWE.out]
  refine (inB_any _ _ _ _ _ _ _ _ _ _ _ W1).mono ?_
  rintro e w2 ⟨⟨b, rfl, hb⟩, hb2⟩
  have HB := hidp hb
  have HB2 := hidp hb2
  clear hb x0 x1 x2 x3 x4 x5 x6 x7 x8 x9 x10
  obtain ⟨y0, y1, y2, y3, y4, y5, y6, y7, y8, y9, y10⟩ := HX.out w2 hb2
  clear hb2
  cases b
  · go_wp2
    go_ret
    refine ⟨⟨6, rfl, Or.inr ⟨by decide, Or.inl ⟨fun h => ?_, rfl⟩⟩⟩, HB1.out.trans (HB2.out.mono HB1.out.size)⟩
    have := HB.out.2 h
    simp at this
  · have HR := hidp (HB.out.1 rfl)
    clear HB
    skip
    have HBR := hidp (fun v : World => pbare_5 c u p ek eu ef d eb eg et v)
    by_cases hall : c = 0 ∧ u = u ∧ p = 0 ∧ S d = ⟨#[]⟩ ∧ ek = ek ∧ S eb = (S eb) ∧ eu = eu ∧ ef = ef ∧ S eg = (S eg) ∧ S et = (S et)
    · have HACT := hidp (show actB 5 c u p d (entZ ek eu ef eb eg et) by
        obtain ⟨h0, h1, h2, h3, h4, h5, h6, h7, h8, h9⟩ := hall
        exact ⟨Or.inr ⟨h0, S_zero h3⟩, Or.inr h2, Or.inl rfl⟩)
      have hne := fun v : World => act_eq 5 c u p ek eu ef 0 u 0 ek eu ef (S d) (S eb) (S eg) (S et) ⟨#[]⟩ (S eb) (S eg) (S et) hall v
      clear hall
      go_upto_region 7 with fail
      go_cut [1, 2, 26] (fun a b c wx => a = .pointer (some ⟨w.heap.size, 0, none⟩) ∧ c = .bool false ∧ Below W1.heap.size W1 wx)
      case first =>
        go_region_held3 (fun w' => w'.cell? ⟨w.heap.size, 0, none⟩ = some (.int .i64 5) ∧ w'.cell? ⟨w.heap.size, 1, none⟩ = some (.int .i64 c) ∧ w'.cell? ⟨w.heap.size, 2, none⟩ = some (.int .i64 u) ∧ w'.cell? ⟨w.heap.size, 3, none⟩ = some (.int .i64 p) ∧ w'.cell? ⟨w.heap.size, 4, none⟩ = some (.string (S d)) ∧ w'.cell? ⟨w.heap.size, 5, none⟩ = some (.int .i64 ek) ∧ w'.cell? ⟨w.heap.size, 6, none⟩ = some (.string (S eb)) ∧ w'.cell? ⟨w.heap.size, 7, none⟩ = some (.int .i64 eu) ∧ w'.cell? ⟨w.heap.size, 8, none⟩ = some (.int .i64 ef) ∧ w'.cell? ⟨w.heap.size, 9, none⟩ = some (.string (S eg)) ∧ w'.cell? ⟨w.heap.size, 10, none⟩ = some (.string (S et))) (go_keep)
          (first
            | (go_at_call 7
               with_reducible refine (HBR.out w2.drew).mono ?_
               rintro e w3 ⟨rfl, hb⟩
               have hb3 : Below W1.heap.size W1 w3 := (HB2.out.drew).trans (hb.mono HB2.out.size)
               have HB3 := hidp hb3
               obtain ⟨z0, z1, z2, z3, z4, z5, z6, z7, z8, z9, z10⟩ := HX.out w3 hb3
               clear hb hb3)
            | fail)
        all_goals
          go_wp2
          first | (go_meet; exact ⟨rfl, rfl, HB3.out⟩) | fail
      case rest =>
        obtain ⟨rfl, rfl, hb3⟩ := hcut
        have HB3 := hidp hb3
        clear hb3
        go_wp2
        go_ret
        exact ⟨⟨0, rfl, Or.inr ⟨by decide, Or.inr ⟨HR.out, Or.inr ⟨fun h => absurd h.1 (by decide), Or.inr ⟨HACT.out, rfl⟩⟩⟩⟩⟩, HB1.out.trans (HB3.out.mono HB1.out.size)⟩
    · have HACT := hidp (show ¬ actB 5 c u p d (entZ ek eu ef eb eg et) from fun h => hall (actB_eq5 h))
      have hne := fun v : World => act_neq 5 c u p ek eu ef 0 u 0 ek eu ef (S d) (S eb) (S eg) (S et) ⟨#[]⟩ (S eb) (S eg) (S et) hall v
      clear hall
      go_upto_region 7 with fail
      go_cut [1, 2, 26] (fun a b c wx => a = .pointer (some ⟨w.heap.size, 0, none⟩) ∧ c = .bool true ∧ Below W1.heap.size W1 wx)
      case first =>
        go_region_held3 (fun w' => w'.cell? ⟨w.heap.size, 0, none⟩ = some (.int .i64 5) ∧ w'.cell? ⟨w.heap.size, 1, none⟩ = some (.int .i64 c) ∧ w'.cell? ⟨w.heap.size, 2, none⟩ = some (.int .i64 u) ∧ w'.cell? ⟨w.heap.size, 3, none⟩ = some (.int .i64 p) ∧ w'.cell? ⟨w.heap.size, 4, none⟩ = some (.string (S d)) ∧ w'.cell? ⟨w.heap.size, 5, none⟩ = some (.int .i64 ek) ∧ w'.cell? ⟨w.heap.size, 6, none⟩ = some (.string (S eb)) ∧ w'.cell? ⟨w.heap.size, 7, none⟩ = some (.int .i64 eu) ∧ w'.cell? ⟨w.heap.size, 8, none⟩ = some (.int .i64 ef) ∧ w'.cell? ⟨w.heap.size, 9, none⟩ = some (.string (S eg)) ∧ w'.cell? ⟨w.heap.size, 10, none⟩ = some (.string (S et))) (go_keep)
          (first
            | (go_at_call 7
               with_reducible refine (HBR.out w2.drew).mono ?_
               rintro e w3 ⟨rfl, hb⟩
               have hb3 : Below W1.heap.size W1 w3 := (HB2.out.drew).trans (hb.mono HB2.out.size)
               have HB3 := hidp hb3
               obtain ⟨z0, z1, z2, z3, z4, z5, z6, z7, z8, z9, z10⟩ := HX.out w3 hb3
               clear hb hb3)
            | fail)
        all_goals
          go_wp2
          first | (go_meet; exact ⟨rfl, rfl, HB3.out⟩) | fail
      case rest =>
        obtain ⟨rfl, rfl, hb3⟩ := hcut
        have HB3 := hidp hb3
        clear hb3
        go_wp2
        go_ret
        exact ⟨⟨3, rfl, Or.inr ⟨by decide, Or.inr ⟨HR.out, Or.inr ⟨fun h => absurd h.1 (by decide), Or.inl ⟨HACT.out, rfl⟩⟩⟩⟩⟩, HB1.out.trans (HB3.out.mono HB1.out.size)⟩
theorem two_big (k : Int) (h : ¬ (1 ≤ k ∧ k ≤ 5)) : k < 1 ∨ (¬ k < 1 ∧ 5 < k) := by omega
set_option maxHeartbeats 2000000 in
set_option maxRecDepth 100000 in
theorem pcheck_any (k c u p ek eu ef : Int) (d eb eg et : List UInt8) (hd : d.length ≤ 9223372036854775807) (w : World) : Calls Try.prog 4 #[.agg #[.int .i64 k, .int .i64 c, .int .i64 u, .int .i64 p, .string (S d), .int .i64 ek, .string (S eb), .int .i64 eu, .int .i64 ef, .string (S eg), .string (S et)]] w fun e w' => ChP k c u p d (entZ ek eu ef eb eg et) e ∧ Below w.heap.size w w' := by
  by_cases hk : 1 ≤ k ∧ k ≤ 5
  · obtain rfl | rfl | rfl | rfl | rfl : k = 1 ∨ k = 2 ∨ k = 3 ∨ k = 4 ∨ k = 5 := by omega
    · exact pcheck_1 c u p ek eu ef d eb eg et hd w
    · exact pcheck_2 c u p ek eu ef d eb eg et hd w
    · exact pcheck_3 c u p ek eu ef d eb eg et hd w
    · exact pcheck_4 c u p ek eu ef d eb eg et hd w
    · exact pcheck_5 c u p ek eu ef d eb eg et hd w
  · have HK := hidp hk
    have HB1 := hidp (show ∀ o, Below w.heap.size w (w.alloc o) from fun o => (Below.refl _ _).alloc (Nat.le_refl _) _)
    obtain h1 | ⟨h1, h2⟩ := two_big k hk
    all_goals
      clear hk
      go_enter Try.func4, Try.ntmps4
      go_wp2
      go_ret
      exact ⟨⟨2, rfl, Or.inl ⟨HK.out, rfl⟩⟩, HB1.out _⟩
end Go.Proofs.Ytmdlfokmcikilaa
