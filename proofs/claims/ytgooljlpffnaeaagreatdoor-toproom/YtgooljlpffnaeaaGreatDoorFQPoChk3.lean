/-
  post.Check and the reference's ActFault: the walks. actE is the plain meaning of P13.1.
-/
import Derived.Test.YtgooljlpffnaeaaGreatDoorFQPoWk8
import Derived.Deep.MidRow
set_option maxHeartbeats 2000000
set_option maxRecDepth 100000
namespace Go.Proofs.YtgooljlpffnaeaaGreatDoor
open Go.RowKit Go.Proofs
def entZ (ek eu ef : Int) (eb eg et : List UInt8) : Prop := ek = 0 ∧ eb = [] ∧ eu = 0 ∧ ef = 0 ∧ eg = [] ∧ et = []
def actB (k c u p : Int) (d : List UInt8) (z : Prop) : Prop := (k = 1 ∨ (c = 0 ∧ d = [])) ∧ (k = 3 ∨ p = 0) ∧ (k = 5 ∨ (u = 0 ∧ z))
def actR (k c u p : Int) : Prop := (k = 1 → 0 ≤ c ∧ c ≤ 2) ∧ (k = 3 → 0 ≤ p ∧ p ≤ 100000) ∧ (k = 5 → 0 ≤ u ∧ u ≤ 2)
def ActE (k c u p : Int) (d : List UInt8) (z : Prop) (e : Int) : Prop :=
 (¬ (1 ≤ k ∧ k ≤ 5) ∧ e = 2) ∨ ((1 ≤ k ∧ k ≤ 5) ∧ ((¬ actR k c u p ∧ e = 6) ∨ (actR k c u p ∧ ((k = 1 ∧ 3000 < d.length ∧ e = 1) ∨ (¬ (k = 1 ∧ 3000 < d.length) ∧ ((¬ actB k c u p d z ∧ e = 3) ∨ (actB k c u p d z ∧ e = 0)))))))
theorem jfr {k c u p : Int} {d : List UInt8} {z : Prop} {e f : Int} (h : ActE k c u p d z e) (g : ActE k c u p d z f) : e = f := by
 unfold ActE at h g
 rcases h with ⟨h1, h2⟩ | ⟨h1, ⟨h3, h2⟩ | ⟨h3, ⟨h4, h5, h2⟩ | ⟨h4, ⟨h5, h2⟩ | ⟨h5, h2⟩⟩⟩⟩ <;>
 rcases g with ⟨g1, g2⟩ | ⟨g1, ⟨g3, g2⟩ | ⟨g3, ⟨g4, g5, g2⟩ | ⟨g4, ⟨g5, g2⟩ | ⟨g5, g2⟩⟩⟩⟩ <;>
 first | exact h2.trans g2.symm | (exfalso; first | exact g1 h1 | exact h1 g1 | exact g3 h3 | exact h3 g3 | exact g4 (And.intro h4 h5) | exact h4 (And.intro g4 g5) | exact g5 h5 | exact h5 g5 | fail)
def InP (k c u p : Int) (e : Ending) : Prop := ∃ b : Bool, e = .returned (.bool b) ∧ (b = true ↔ actR k c u p)
def ChP (k c u p : Int) (d : List UInt8) (z : Prop) (e : Ending) : Prop := ∃ r, e = .returned (.int .i64 r) ∧ ActE k c u p d z r
theorem jdD {l : List UInt8} (h : (S l : ByteArray) = ⟨#[]⟩) : l = [] := by
 have := congrArg (fun b => b.data.toList) h
 simpa [jw] using this
theorem jh2 (k c u p : Int) (d : ByteArray) (ek eu ef : Int) (eb eg et : ByteArray) (w : World) : Calls Tryz.prog 27 #[.agg #[.int .i64 k, .int .i64 c, .int .i64 u, .int .i64 p, .string d, .int .i64 ek, .string eb, .int .i64 eu, .int .i64 ef, .string eg, .string et]] w fun e w' => InP k c u p e ∧ Below w.heap.size w w' := by
 have HB := hidp (show ∀ a : Obj, Below w.heap.size w (w.alloc a) from fun a => (Below.refl _ _).alloc (Nat.le_refl _) a); go_enter Tryz.func27, Tryz.ntmps27; go_wp2
 all_goals
  go_ret; refine ⟨⟨_, rfl, ?_⟩, HB.out _⟩; unfold actR
  simp_all <;> omega
theorem jjn {c u p ek eu ef : Int} {d eb eg et : List UInt8} (h : actB 2 c u p d (entZ ek eu ef eb eg et)) : c = 0 ∧ u = 0 ∧ p = 0 ∧ S d = ⟨#[]⟩ ∧ ek = 0 ∧ S eb = ⟨#[]⟩ ∧ eu = 0 ∧ ef = 0 ∧ S eg = ⟨#[]⟩ ∧ S et = ⟨#[]⟩ := by
 unfold actB entZ at h; obtain ⟨h1, h2, h3⟩ := h; have g1 := h1.resolve_left; have g2 := h2.resolve_left; have g3 := h3.resolve_left; obtain ⟨h1, h1'⟩ := g1 (by decide); obtain h2 := g2 (by decide); obtain ⟨h4, h5, h6, h7, h8, h9, h10⟩ := g3 (by decide)
 subst_vars
 exact ⟨rfl, rfl, rfl, rfl, rfl, rfl, rfl, rfl, rfl, rfl⟩
theorem jkh (c u p ek eu ef : Int) (d eb eg et : List UInt8) (hd : d.length ≤ 9223372036854775807) (w : World) : Calls Tryz.prog 16 #[.agg #[.int .i64 2, .int .i64 c, .int .i64 u, .int .i64 p, .string (S d), .int .i64 ek, .string (S eb), .int .i64 eu, .int .i64 ef, .string (S eg), .string (S et)]] w fun e w' => ChP 2 c u p d (entZ ek eu ef eb eg et) e ∧ Below w.heap.size w w' := by
 obtain ⟨W1, hW1⟩ : ∃ W1, W1 = w.alloc (.cells #[.int .i64 2, .int .i64 c, .int .i64 u, .int .i64 p, .string (S d), .int .i64 ek, .string (S eb), .int .i64 eu, .int .i64 ef, .string (S eg), .string (S et)] 27) := ⟨_, rfl⟩; have HWE := hidp hW1; have HB1 := hidp (show Below w.heap.size w W1 by rw [hW1]; exact nb0 _ _); have HX := hidp (show ∀ w', Below W1.heap.size W1 w' → w'.cell? ⟨w.heap.size, 0, none⟩ = some (.int .i64 2) ∧ w'.cell? ⟨w.heap.size, 1, none⟩ = some (.int .i64 c) ∧ w'.cell? ⟨w.heap.size, 2, none⟩ = some (.int .i64 u) ∧ w'.cell? ⟨w.heap.size, 3, none⟩ = some (.int .i64 p) ∧ w'.cell? ⟨w.heap.size, 4, none⟩ = some (.string (S d)) ∧ w'.cell? ⟨w.heap.size, 5, none⟩ = some (.int .i64 ek) ∧ w'.cell? ⟨w.heap.size, 6, none⟩ = some (.string (S eb)) ∧ w'.cell? ⟨w.heap.size, 7, none⟩ = some (.int .i64 eu) ∧ w'.cell? ⟨w.heap.size, 8, none⟩ = some (.int .i64 ef) ∧ w'.cell? ⟨w.heap.size, 9, none⟩ = some (.string (S eg)) ∧ w'.cell? ⟨w.heap.size, 10, none⟩ = some (.string (S et)) from fun w' hb => by
  have hs : w.heap.size < W1.heap.size := by rw [hW1]; simp
  refine ⟨?_, ?_, ?_, ?_, ?_, ?_, ?_, ?_, ?_, ?_, ?_⟩ <;> exact (hb.cell hs).trans (by rw [hW1]; simp))
 have HD := hidp hd; have HSZ := hidp (jd d); clear hW1 hd; obtain ⟨x0, x1, x2, x3, x4, x5, x6, x7, x8, x9, x10⟩ := HX.out W1 (Below.refl _ _); go_enter Tryz.func16, Tryz.ntmps16; go_wp2_with fail; rw [← HWE.out]; refine (jh2 _ _ _ _ _ _ _ _ _ _ _ W1).mono ?_; rintro e w2 ⟨⟨b, rfl, hb⟩, hb2⟩; have HB := hidp hb; have HB2 := hidp hb2; clear hb x0 x1 x2 x3 x4 x5 x6 x7 x8 x9 x10; obtain ⟨y0, y1, y2, y3, y4, y5, y6, y7, y8, y9, y10⟩ := HX.out w2 hb2; clear hb2; cases b
 · go_wp2; go_ret; refine ⟨⟨6, rfl, Or.inr ⟨by decide, Or.inl ⟨fun h => ?_, rfl⟩⟩⟩, HB1.out.trans (HB2.out.mono HB1.out.size)⟩; have := HB.out.2 h
   simp at this
 · have HR := hidp (HB.out.1 rfl); clear HB
   skip
   have HBR := hidp (fun v : World => jl6 c u p ek eu ef d eb eg et v)
   by_cases hall : c = 0 ∧ u = 0 ∧ p = 0 ∧ S d = ⟨#[]⟩ ∧ ek = 0 ∧ S eb = ⟨#[]⟩ ∧ eu = 0 ∧ ef = 0 ∧ S eg = ⟨#[]⟩ ∧ S et = ⟨#[]⟩
   · have HACT := hidp (show actB 2 c u p d (entZ ek eu ef eb eg et) by
        obtain ⟨h0, h1, h2, h3, h4, h5, h6, h7, h8, h9⟩ := hall; exact ⟨Or.inr ⟨h0, jdD h3⟩, Or.inr h2, Or.inr ⟨h1, h4, jdD h5, h6, h7, jdD h8, jdD h9⟩⟩)
     have hne := fun v : World => jkV 2 c u p ek eu ef 0 0 0 0 0 0 (S d) (S eb) (S eg) (S et) ⟨#[]⟩ ⟨#[]⟩ ⟨#[]⟩ ⟨#[]⟩ hall v
     clear hall; go_upto_region 7 with fail
     go_cut [1, 2, 26] (fun a b c wx => a = .pointer (some ⟨w.heap.size, 0, none⟩) ∧ c = .bool false ∧ Below W1.heap.size W1 wx)
     case first =>
        go_region_held3 (fun w' => w'.cell? ⟨w.heap.size, 0, none⟩ = some (.int .i64 2) ∧ w'.cell? ⟨w.heap.size, 1, none⟩ = some (.int .i64 c) ∧ w'.cell? ⟨w.heap.size, 2, none⟩ = some (.int .i64 u) ∧ w'.cell? ⟨w.heap.size, 3, none⟩ = some (.int .i64 p) ∧ w'.cell? ⟨w.heap.size, 4, none⟩ = some (.string (S d)) ∧ w'.cell? ⟨w.heap.size, 5, none⟩ = some (.int .i64 ek) ∧ w'.cell? ⟨w.heap.size, 6, none⟩ = some (.string (S eb)) ∧ w'.cell? ⟨w.heap.size, 7, none⟩ = some (.int .i64 eu) ∧ w'.cell? ⟨w.heap.size, 8, none⟩ = some (.int .i64 ef) ∧ w'.cell? ⟨w.heap.size, 9, none⟩ = some (.string (S eg)) ∧ w'.cell? ⟨w.heap.size, 10, none⟩ = some (.string (S et))) (go_keep)
         (first
           | (go_at_call 28
              with_reducible refine (HBR.out w2.drew).mono ?_
              rintro e w3 ⟨rfl, hb⟩; have hb3 : Below W1.heap.size W1 w3 := (HB2.out.drew).trans (hb.mono HB2.out.size); have HB3 := hidp hb3; obtain ⟨z0, z1, z2, z3, z4, z5, z6, z7, z8, z9, z10⟩ := HX.out w3 hb3; clear hb hb3)
           | fail)
        all_goals
         go_wp2
         first | (go_meet; exact ⟨rfl, rfl, HB3.out⟩) | fail
     case rest =>
        obtain ⟨rfl, rfl, hb3⟩ := hcut; have HB3 := hidp hb3; clear hb3; go_wp2; go_ret; exact ⟨⟨0, rfl, Or.inr ⟨by decide, Or.inr ⟨HR.out, Or.inr ⟨fun h => absurd h.1 (by decide), Or.inr ⟨HACT.out, rfl⟩⟩⟩⟩⟩, HB1.out.trans (HB3.out.mono HB1.out.size)⟩
   · have HACT := hidp (show ¬ actB 2 c u p d (entZ ek eu ef eb eg et) from fun h => hall (jjn h)); have hne := fun v : World => jhp 2 c u p ek eu ef 0 0 0 0 0 0 (S d) (S eb) (S eg) (S et) ⟨#[]⟩ ⟨#[]⟩ ⟨#[]⟩ ⟨#[]⟩ hall v
     clear hall; go_upto_region 7 with fail
     go_cut [1, 2, 26] (fun a b c wx => a = .pointer (some ⟨w.heap.size, 0, none⟩) ∧ c = .bool true ∧ Below W1.heap.size W1 wx)
     case first =>
        go_region_held3 (fun w' => w'.cell? ⟨w.heap.size, 0, none⟩ = some (.int .i64 2) ∧ w'.cell? ⟨w.heap.size, 1, none⟩ = some (.int .i64 c) ∧ w'.cell? ⟨w.heap.size, 2, none⟩ = some (.int .i64 u) ∧ w'.cell? ⟨w.heap.size, 3, none⟩ = some (.int .i64 p) ∧ w'.cell? ⟨w.heap.size, 4, none⟩ = some (.string (S d)) ∧ w'.cell? ⟨w.heap.size, 5, none⟩ = some (.int .i64 ek) ∧ w'.cell? ⟨w.heap.size, 6, none⟩ = some (.string (S eb)) ∧ w'.cell? ⟨w.heap.size, 7, none⟩ = some (.int .i64 eu) ∧ w'.cell? ⟨w.heap.size, 8, none⟩ = some (.int .i64 ef) ∧ w'.cell? ⟨w.heap.size, 9, none⟩ = some (.string (S eg)) ∧ w'.cell? ⟨w.heap.size, 10, none⟩ = some (.string (S et))) (go_keep)
         (first
           | (go_at_call 28
              with_reducible refine (HBR.out w2.drew).mono ?_
              rintro e w3 ⟨rfl, hb⟩; have hb3 : Below W1.heap.size W1 w3 := (HB2.out.drew).trans (hb.mono HB2.out.size); have HB3 := hidp hb3; obtain ⟨z0, z1, z2, z3, z4, z5, z6, z7, z8, z9, z10⟩ := HX.out w3 hb3; clear hb hb3)
           | fail)
        all_goals
         go_wp2
         first | (go_meet; exact ⟨rfl, rfl, HB3.out⟩) | fail
     case rest =>
        obtain ⟨rfl, rfl, hb3⟩ := hcut; have HB3 := hidp hb3; clear hb3; go_wp2; go_ret; exact ⟨⟨3, rfl, Or.inr ⟨by decide, Or.inr ⟨HR.out, Or.inr ⟨fun h => absurd h.1 (by decide), Or.inl ⟨HACT.out, rfl⟩⟩⟩⟩⟩, HB1.out.trans (HB3.out.mono HB1.out.size)⟩
theorem jjo {c u p ek eu ef : Int} {d eb eg et : List UInt8} (h : actB 5 c u p d (entZ ek eu ef eb eg et)) : c = 0 ∧ u = u ∧ p = 0 ∧ S d = ⟨#[]⟩ ∧ ek = ek ∧ S eb = (S eb) ∧ eu = eu ∧ ef = ef ∧ S eg = (S eg) ∧ S et = (S et) := by
 unfold actB entZ at h; obtain ⟨h1, h2, h3⟩ := h; have g1 := h1.resolve_left; have g2 := h2.resolve_left; have g3 := h3.resolve_left; obtain ⟨h1, h1'⟩ := g1 (by decide); obtain h2 := g2 (by decide)
 subst_vars
 exact ⟨rfl, rfl, rfl, rfl, rfl, rfl, rfl, rfl, rfl, rfl⟩
theorem jki (c u p ek eu ef : Int) (d eb eg et : List UInt8) (hd : d.length ≤ 9223372036854775807) (w : World) : Calls Tryz.prog 16 #[.agg #[.int .i64 5, .int .i64 c, .int .i64 u, .int .i64 p, .string (S d), .int .i64 ek, .string (S eb), .int .i64 eu, .int .i64 ef, .string (S eg), .string (S et)]] w fun e w' => ChP 5 c u p d (entZ ek eu ef eb eg et) e ∧ Below w.heap.size w w' := by
 obtain ⟨W1, hW1⟩ : ∃ W1, W1 = w.alloc (.cells #[.int .i64 5, .int .i64 c, .int .i64 u, .int .i64 p, .string (S d), .int .i64 ek, .string (S eb), .int .i64 eu, .int .i64 ef, .string (S eg), .string (S et)] 27) := ⟨_, rfl⟩; have HWE := hidp hW1; have HB1 := hidp (show Below w.heap.size w W1 by rw [hW1]; exact nb0 _ _); have HX := hidp (show ∀ w', Below W1.heap.size W1 w' → w'.cell? ⟨w.heap.size, 0, none⟩ = some (.int .i64 5) ∧ w'.cell? ⟨w.heap.size, 1, none⟩ = some (.int .i64 c) ∧ w'.cell? ⟨w.heap.size, 2, none⟩ = some (.int .i64 u) ∧ w'.cell? ⟨w.heap.size, 3, none⟩ = some (.int .i64 p) ∧ w'.cell? ⟨w.heap.size, 4, none⟩ = some (.string (S d)) ∧ w'.cell? ⟨w.heap.size, 5, none⟩ = some (.int .i64 ek) ∧ w'.cell? ⟨w.heap.size, 6, none⟩ = some (.string (S eb)) ∧ w'.cell? ⟨w.heap.size, 7, none⟩ = some (.int .i64 eu) ∧ w'.cell? ⟨w.heap.size, 8, none⟩ = some (.int .i64 ef) ∧ w'.cell? ⟨w.heap.size, 9, none⟩ = some (.string (S eg)) ∧ w'.cell? ⟨w.heap.size, 10, none⟩ = some (.string (S et)) from fun w' hb => by
  have hs : w.heap.size < W1.heap.size := by rw [hW1]; simp
  refine ⟨?_, ?_, ?_, ?_, ?_, ?_, ?_, ?_, ?_, ?_, ?_⟩ <;> exact (hb.cell hs).trans (by rw [hW1]; simp))
 have HD := hidp hd; have HSZ := hidp (jd d); clear hW1 hd; obtain ⟨x0, x1, x2, x3, x4, x5, x6, x7, x8, x9, x10⟩ := HX.out W1 (Below.refl _ _); go_enter Tryz.func16, Tryz.ntmps16; go_wp2_with fail; rw [← HWE.out]; refine (jh2 _ _ _ _ _ _ _ _ _ _ _ W1).mono ?_; rintro e w2 ⟨⟨b, rfl, hb⟩, hb2⟩; have HB := hidp hb; have HB2 := hidp hb2; clear hb x0 x1 x2 x3 x4 x5 x6 x7 x8 x9 x10; obtain ⟨y0, y1, y2, y3, y4, y5, y6, y7, y8, y9, y10⟩ := HX.out w2 hb2; clear hb2; cases b
 · go_wp2; go_ret; refine ⟨⟨6, rfl, Or.inr ⟨by decide, Or.inl ⟨fun h => ?_, rfl⟩⟩⟩, HB1.out.trans (HB2.out.mono HB1.out.size)⟩; have := HB.out.2 h
   simp at this
 · have HR := hidp (HB.out.1 rfl); clear HB
   skip
   have HBR := hidp (fun v : World => jl7 c u p ek eu ef d eb eg et v)
   by_cases hall : c = 0 ∧ u = u ∧ p = 0 ∧ S d = ⟨#[]⟩ ∧ ek = ek ∧ S eb = (S eb) ∧ eu = eu ∧ ef = ef ∧ S eg = (S eg) ∧ S et = (S et)
   · have HACT := hidp (show actB 5 c u p d (entZ ek eu ef eb eg et) by
        obtain ⟨h0, h1, h2, h3, h4, h5, h6, h7, h8, h9⟩ := hall; exact ⟨Or.inr ⟨h0, jdD h3⟩, Or.inr h2, Or.inl rfl⟩)
     have hne := fun v : World => jkV 5 c u p ek eu ef 0 u 0 ek eu ef (S d) (S eb) (S eg) (S et) ⟨#[]⟩ (S eb) (S eg) (S et) hall v
     clear hall; go_upto_region 7 with fail
     go_cut [1, 2, 26] (fun a b c wx => a = .pointer (some ⟨w.heap.size, 0, none⟩) ∧ c = .bool false ∧ Below W1.heap.size W1 wx)
     case first =>
        go_region_held3 (fun w' => w'.cell? ⟨w.heap.size, 0, none⟩ = some (.int .i64 5) ∧ w'.cell? ⟨w.heap.size, 1, none⟩ = some (.int .i64 c) ∧ w'.cell? ⟨w.heap.size, 2, none⟩ = some (.int .i64 u) ∧ w'.cell? ⟨w.heap.size, 3, none⟩ = some (.int .i64 p) ∧ w'.cell? ⟨w.heap.size, 4, none⟩ = some (.string (S d)) ∧ w'.cell? ⟨w.heap.size, 5, none⟩ = some (.int .i64 ek) ∧ w'.cell? ⟨w.heap.size, 6, none⟩ = some (.string (S eb)) ∧ w'.cell? ⟨w.heap.size, 7, none⟩ = some (.int .i64 eu) ∧ w'.cell? ⟨w.heap.size, 8, none⟩ = some (.int .i64 ef) ∧ w'.cell? ⟨w.heap.size, 9, none⟩ = some (.string (S eg)) ∧ w'.cell? ⟨w.heap.size, 10, none⟩ = some (.string (S et))) (go_keep)
         (first
           | (go_at_call 28
              with_reducible refine (HBR.out w2.drew).mono ?_
              rintro e w3 ⟨rfl, hb⟩; have hb3 : Below W1.heap.size W1 w3 := (HB2.out.drew).trans (hb.mono HB2.out.size); have HB3 := hidp hb3; obtain ⟨z0, z1, z2, z3, z4, z5, z6, z7, z8, z9, z10⟩ := HX.out w3 hb3; clear hb hb3)
           | fail)
        all_goals
         go_wp2
         first | (go_meet; exact ⟨rfl, rfl, HB3.out⟩) | fail
     case rest =>
        obtain ⟨rfl, rfl, hb3⟩ := hcut; have HB3 := hidp hb3; clear hb3; go_wp2; go_ret; exact ⟨⟨0, rfl, Or.inr ⟨by decide, Or.inr ⟨HR.out, Or.inr ⟨fun h => absurd h.1 (by decide), Or.inr ⟨HACT.out, rfl⟩⟩⟩⟩⟩, HB1.out.trans (HB3.out.mono HB1.out.size)⟩
   · have HACT := hidp (show ¬ actB 5 c u p d (entZ ek eu ef eb eg et) from fun h => hall (jjo h)); have hne := fun v : World => jhp 5 c u p ek eu ef 0 u 0 ek eu ef (S d) (S eb) (S eg) (S et) ⟨#[]⟩ (S eb) (S eg) (S et) hall v
     clear hall; go_upto_region 7 with fail
     go_cut [1, 2, 26] (fun a b c wx => a = .pointer (some ⟨w.heap.size, 0, none⟩) ∧ c = .bool true ∧ Below W1.heap.size W1 wx)
     case first =>
        go_region_held3 (fun w' => w'.cell? ⟨w.heap.size, 0, none⟩ = some (.int .i64 5) ∧ w'.cell? ⟨w.heap.size, 1, none⟩ = some (.int .i64 c) ∧ w'.cell? ⟨w.heap.size, 2, none⟩ = some (.int .i64 u) ∧ w'.cell? ⟨w.heap.size, 3, none⟩ = some (.int .i64 p) ∧ w'.cell? ⟨w.heap.size, 4, none⟩ = some (.string (S d)) ∧ w'.cell? ⟨w.heap.size, 5, none⟩ = some (.int .i64 ek) ∧ w'.cell? ⟨w.heap.size, 6, none⟩ = some (.string (S eb)) ∧ w'.cell? ⟨w.heap.size, 7, none⟩ = some (.int .i64 eu) ∧ w'.cell? ⟨w.heap.size, 8, none⟩ = some (.int .i64 ef) ∧ w'.cell? ⟨w.heap.size, 9, none⟩ = some (.string (S eg)) ∧ w'.cell? ⟨w.heap.size, 10, none⟩ = some (.string (S et))) (go_keep)
         (first
           | (go_at_call 28
              with_reducible refine (HBR.out w2.drew).mono ?_
              rintro e w3 ⟨rfl, hb⟩; have hb3 : Below W1.heap.size W1 w3 := (HB2.out.drew).trans (hb.mono HB2.out.size); have HB3 := hidp hb3; obtain ⟨z0, z1, z2, z3, z4, z5, z6, z7, z8, z9, z10⟩ := HX.out w3 hb3; clear hb hb3)
           | fail)
        all_goals
         go_wp2
         first | (go_meet; exact ⟨rfl, rfl, HB3.out⟩) | fail
     case rest =>
        obtain ⟨rfl, rfl, hb3⟩ := hcut; have HB3 := hidp hb3; clear hb3; go_wp2; go_ret; exact ⟨⟨3, rfl, Or.inr ⟨by decide, Or.inr ⟨HR.out, Or.inr ⟨fun h => absurd h.1 (by decide), Or.inl ⟨HACT.out, rfl⟩⟩⟩⟩⟩, HB1.out.trans (HB3.out.mono HB1.out.size)⟩
structure OutM (N : Nat) (w : World) (R : Rom) (vc vo vs : Value) : Prop where
 co : RowM (N ≤ ·) 1 (fun l cs => ∃ v, cs = [v] ∧ IntsM (N ≤ ·) w v l) w vc [R.c0.told, R.c1.told, R.c2.told]
 od : RowM (N ≤ ·) 1 (fun l cs => ∃ v, cs = [v] ∧ IntsM (N ≤ ·) w v l) w vo R.orders
 sf : RowM (N ≤ ·) 2 (SttV (N ≤ ·) w) w vs R.safe
def OutP (N : Nat) (w : World) (R : Rom) (e : Ending) (w' : World) : Prop := ∃ ac cc ao co as_ cs, e = .returned (.agg #[.bool R.up, .slice ac 3 cc, .slice ao R.orders.length co, .slice as_ R.safe.length cs, .int .i64 R.waits]) ∧ OutM N w' R (.slice ac 3 cc) (.slice ao R.orders.length co) (.slice as_ R.safe.length cs) ∧ Below w.heap.size w w'
def OuB (w : World) (v0 v1 v2 v3 v4 p : Value) (wx : World) : Prop := p = .pointer (some ⟨w.heap.size, 0, none⟩) ∧ wx.heap[w.heap.size]? = some (.cells #[v0, v1, v2, v3, v4] 32) ∧ Below w.heap.size w wx
theorem OuB.new {w : World} (v0 v1 v2 v3 v4 : Value) : OuB w v0 v1 v2 v3 v4 (.pointer (some ⟨w.heap.size, 0, none⟩)) (w.alloc (.cells #[v0, v1, v2, v3, v4] 32)).drew :=
 ⟨rfl, heap_alloc_new w _, (nb0 _ _).drew⟩
theorem jg4 {w : World} {b : Nat} {R : Rom} {X : Vals} (h : RmB w b (qX R X)) : w.rangeAt b 7 (conC R.c0 X.c0 ++ conC R.c1 X.c1 ++ conC R.c2 X.c2) := by
 intro j v hj; have hl : j < 27 := by
  have := (List.getElem?_eq_some_iff.1 hj).1
  simpa [conC] using this
 refine h.cell ?_; rw [← hj]; unfold qX; rw [List.append_assoc, List.append_assoc, List.append_assoc, List.getElem?_append_right (by simp), show (7 + j - _ : Nat) = j by simp, ← List.append_assoc, ← List.append_assoc]; exact List.getElem?_append_left (by simpa [conC] using hl)
theorem jlT (x0 x1 x2 x3 x4 x5 x6 x7 x8 x9 x10 x11 x12 x13 x14 x15 x16 x17 x18 x19 x20 x21 x22 x23 x24 x25 x26 : Value) : (∀ u, (Instr.index 72 (.agg #[x0, x1, x2, x3, x4, x5, x6, x7, x8, x9, x10, x11, x12, x13, x14, x15, x16, x17, x18, x19, x20, x21, x22, x23, x24, x25, x26]) (.int .i64 0)).run Tryz.prog u = .ok (.agg #[x0, x1, x2, x3, x4, x5, x6, x7, x8]) u) ∧
 (∀ u, (Instr.index 72 (.agg #[x0, x1, x2, x3, x4, x5, x6, x7, x8, x9, x10, x11, x12, x13, x14, x15, x16, x17, x18, x19, x20, x21, x22, x23, x24, x25, x26]) (.int .i64 1)).run Tryz.prog u = .ok (.agg #[x9, x10, x11, x12, x13, x14, x15, x16, x17]) u) ∧
 (∀ u, (Instr.index 72 (.agg #[x0, x1, x2, x3, x4, x5, x6, x7, x8, x9, x10, x11, x12, x13, x14, x15, x16, x17, x18, x19, x20, x21, x22, x23, x24, x25, x26]) (.int .i64 2)).run Tryz.prog u = .ok (.agg #[x18, x19, x20, x21, x22, x23, x24, x25, x26]) u) := by
 refine ⟨fun u => ?_, fun u => ?_, fun u => ?_⟩ <;> simp [Instr.index, run_underlying Tryz.underlying72, asIntOf, go_sem]
theorem put5 {w : World} {b : Nat} {t : TypeId} (v0 v1 v2 v3 v4 : Value) {u0 u1 u2 u3 u4 : Value} (h : w.heap[b]? = some (.cells #[u0, u1, u2, u3, u4] t)) : (((((w.setCell ⟨b, 0, none⟩ v0).setCell ⟨b, 1, none⟩ v1).setCell ⟨b, 2, none⟩ v2).setCell ⟨b, 3, none⟩ v3).setCell ⟨b, 4, none⟩ v4).heap[b]? = some (.cells #[v0, v1, v2, v3, v4] t) := by
 have h := heap_setCell_same _ b 0 _ t v0 h; have h := heap_setCell_same _ b 1 _ t v1 h; have h := heap_setCell_same _ b 2 _ t v2 h; have h := heap_setCell_same _ b 3 _ t v3 h; have h := heap_setCell_same _ b 4 _ t v4 h
 simpa using h
theorem jbt {w : World} {B : Nat} {t : TypeId} {v : Value} {l : List Int} (h : w.ownsRow B t 1 v l.length (l.map fun k => .int .i64 k)) : IntsM (B ≤ ·) w v l := by
 refine ja6 h ?_ fun g hg => (World.ownsRow.lt h g hg).1
 rcases h.2 with ⟨_, h0⟩ | ⟨g, cap, cur, _, _, _, h1, h2, _⟩
 · omega
 · omega
theorem jiN {N : Nat} {w : World} {v : Value} {vs : List Value} {ls : List (List Int)} (h : RowM (N ≤ ·) 1 (fun x cs => cs = [x]) w v vs) (hl : vs.length = ls.length) (hx : ∀ (i : Nat) x l, vs[i]? = some x → ls[i]? = some l → IntsM (N ≤ ·) w x l) : RowM (N ≤ ·) 1 (fun l cs => ∃ v, cs = [v] ∧ IntsM (N ≤ ·) w v l) w v ls := by
 obtain ⟨a, c, hv, hm, hr⟩ := h; refine ⟨a, c, by rw [← hl]; exact hv, by rw [← hl]; exact hm, fun i l hi => ?_⟩; have hi' : i < vs.length := by rw [hl]; exact (List.getElem?_eq_some_iff.1 hi).1
 obtain ⟨b, o, cs, h1, h2, h3, h4, h5, h6⟩ := hr i vs[i] (List.getElem?_eq_getElem hi'); exact ⟨b, o, cs, h1, h2, h3, h4, h5, _, h6, hx i _ l (List.getElem?_eq_getElem hi') hi⟩
theorem jmV {K : List (List UInt8)} {Cs : List (List Cmd)} {B b : Nat} {G : List Nat} {R : Rom} {X : Vals} {w w' : World} {vc vo vs : Value} (hM : MOk w B b (jO R X)) (hQ : RoM (AvN B b G) w K Cs R X) (hb : Below w.heap.size w w') (hc : RowM (B ≤ ·) 1 (fun x cs => cs = [x]) w' vc [X.c0.l, X.c1.l, X.c2.l]) (hv : X.od = vo) (hs : X.sf = vs) : OutM B w' R vc vo vs := by
 have hM' := hM.next hb; have hi : ∀ r ∈ jO R X, w'.ownsRow B r.e r.k r.v r.n r.xs := hM'.own; have t0 : IntsM (B ≤ ·) w' X.c0.l R.c0.told := jbt (hi (intR 3 X.c0.l R.c0.told) (by simp [jO])); have t1 : IntsM (B ≤ ·) w' X.c1.l R.c1.told := jbt (hi (intR 3 X.c1.l R.c1.told) (by simp [jO])); have t2 : IntsM (B ≤ ·) w' X.c2.l R.c2.told := jbt (hi (intR 3 X.c2.l R.c2.told) (by simp [jO])); have ho : ∀ u, u < 3 → IntsM (B ≤ ·) w' (X.os.getD u (.slice none 0 0)) (R.orders.getD u []) := fun u hu => jbt (hi (intR 37 (X.os.getD u (.slice none 0 0)) (R.orders.getD u [])) (by
  unfold jO; exact List.mem_append_right _ (List.mem_map.2 ⟨u, List.mem_range.2 hu, rfl⟩)))
 refine ⟨jiN hc rfl fun i x l h1 h2 => ?_, ?_, ?_⟩
 · match i, h1, h2 with
   | 0, h1, h2 => cases h1; cases h2; exact t0
   | 1, h1, h2 => cases h1; cases h2; exact t1
   | 2, h1, h2 => cases h1; cases h2; exact t2
   | n + 3, h1, h2 => simp at h1
 · have hod := hi (ordR X.od X.os) (by simp [jO]); rw [← hv]; refine jiN (ja6 (f := fun x => x) (by simpa [ordR] using hod) (by rw [hQ.os.1]; unfold maxLen; decide) fun g hg => (World.ownsRow.lt hod g hg).1) (by rw [hQ.os.1, hQ.os.2]) fun i x l h1 h2 => ?_
   have h3 : i < 3 := by rw [← hQ.os.1]; exact (List.getElem?_eq_some_iff.1 h1).1
   have := ho i h3; rw [List.getD_eq_getElem?_getD, List.getD_eq_getElem?_getD, h1, h2] at this; exact this
 · rw [← hs]; exact RowM.imp hQ.sf (fun _ h => h.1) (Keeps.of_below hb) fun s cs h => by
    obtain ⟨vb, vs, e, h⟩ := h; exact ⟨vb, vs, e, h.imp (fun _ h => h.1) (Keeps.of_below hb)⟩
theorem jmJ : (Tryz.prog.info? 72).map (·.size) = some 27 := by kernel_rfl
theorem jmL : (Tryz.prog.info? 69).map (fun i => (i.zero, i.size, i.bytes)) = some (some (.slice none 0 0), 1, 24) := by kernel_rfl
theorem je5 (K : List (List UInt8)) (Cs : List (List Cmd)) (B b : Nat) (G : List Nat) (R : Rom) (w : World) (hR : RoomM K Cs B b G R w) :
 Calls Tryz.prog 13 #[.pointer (some ⟨b, 0, none⟩)] w (OutP B w R) := by
 obtain ⟨X, hG, hB, hX, hM, hQ⟩ := hR; obtain ⟨asf, csf, hsf⟩ := RowM.slice hQ.sf; have hod := hM.own (ordR X.od X.os) (by simp [jO]); obtain ⟨aod, cod, hodv, _⟩ := ql hod; simp only [ordR] at hodv; rw [hQ.os.1] at hodv; obtain ⟨i0, hi0, hz0, hz1, hz2⟩ := info_parts jmL; have hs : ∀ i, i < 3 → ∃ a c a' c' a'' c'', (X.con i).l = .slice a (R.con i).told.length c ∧ (X.con i).t = .slice a' (R.con i).ses.to.length c' ∧ (X.con i).d = .slice a'' (R.con i).due.length c'' := fun i hi => by
  obtain ⟨A, Z, hA, _⟩ := vP R X hi; obtain ⟨a, c, h, _⟩ := ql (hM.own (intR 3 (X.con i).l (R.con i).told) (by rw [hA]; simp)); obtain ⟨a', c', h'⟩ := RowM.slice (hQ.con hi).gl; obtain ⟨a'', c'', h''⟩ := ja0 (hQ.con hi).du; exact ⟨a, c, a', c', a'', c'', h, h', h''⟩
 obtain ⟨al0, cl0, at0, ct0, ad0, cd0, el0, et0, ed0⟩ := hs 0 (by omega); obtain ⟨al1, cl1, at1, ct1, ad1, cd1, el1, et1, ed1⟩ := hs 1 (by omega); obtain ⟨al2, cl2, at2, ct2, ad2, cd2, el2, et2, ed2⟩ := hs 2 (by omega); simp only [Vals.con, Rom.con] at el0 et0 ed0 el1 et1 ed1 el2 et2 ed2; obtain ⟨W1, hW1⟩ : ∃ W1, W1 = w.alloc (.cells #[.bool false, .slice none 0 0, .slice none 0 0, .slice none 0 0, .int .i64 0] 32) := ⟨_, rfl⟩; have hB1 : Below w.heap.size w W1 := by rw [hW1]; exact nb0 _ _
 have hX1 := hX.next hB1; have x0 : W1.cell? ⟨b, 0, none⟩ = some (.bool R.up) := hX1.cell rfl; have x4 : W1.cell? ⟨b, 4, none⟩ = some (.int .i64 R.waits) := hX1.cell rfl; have x5 : W1.cell? ⟨b, 5, none⟩ = some (.slice asf R.safe.length csf) := hX1.cell (by rw [← hsf]; rfl); have x36 : W1.cell? ⟨b, 36, none⟩ = some (.slice aod 3 cod) := hX1.cell (by rw [← hodv]; rfl); have HC := hid (show ∀ u, Below W1.heap.size W1 u → u.cell? ⟨b, 0, none⟩ = some (.bool R.up) ∧ u.cell? ⟨b, 4, none⟩ = some (.int .i64 R.waits) ∧ u.cell? ⟨b, 5, none⟩ = some (.slice asf R.safe.length csf) ∧ u.cell? ⟨b, 36, none⟩ = some (.slice aod 3 cod) from
  fun u hu => ⟨ja x0 hu, ja x4 hu, ja x5 hu, ja x36 hu⟩)
 have HX := hid hX; have HWE := hid hW1; have HB1 := hid hB1; have HQ := hid hQ; have HM := hid hM; clear hG hX hM hQ hX1 hW1 hB1 hod; go_enter Tryz.func13, Tryz.ntmps13; go_upto_region 1 with fail
 rw [← HWE.out]
 go_cut [3] (fun p wx => OuB W1 (.bool R.up) (.slice none 0 0) (.slice aod 3 cod) (.slice asf R.safe.length csf) (.int .i64 R.waits) p wx)
 case first =>
  go_region_held3 (fun u => u.cell? ⟨b, 0, none⟩ = some (.bool R.up) ∧ u.cell? ⟨b, 4, none⟩ = some (.int .i64 R.waits) ∧ u.cell? ⟨b, 5, none⟩ = some (.slice asf R.safe.length csf) ∧ u.cell? ⟨b, 36, none⟩ = some (.slice aod 3 cod))
   (first | (refine HC.out _ ?_; (repeat (first | with_reducible exact Below.refl _ _ | with_reducible refine Below.drew ?_ | with_reducible refine Below.alloc ?_ (by first | exact Nat.le_refl _ | simp) _ | with_reducible refine Below.setCell ?_ (by first | exact Nat.le_refl _ | simp) _))) | fail)
   (fail)
  all_goals (go_wp2_with fail; go_meet; exact OuB.new _ _ _ _ _)
 case rest =>
  obtain ⟨hp, hP, hbP⟩ := hcut; subst hp; obtain ⟨W2, rfl⟩ : ∃ W, W = wc := ⟨_, rfl⟩; have HP := hid hP; have HBP := hid hbP; have hRg := jg4 (HX.out.next (HB1.out.trans (hbP.mono HB1.out.size))); unfold conC at hRg; simp only [List.cons_append, List.nil_append, el0, et0, ed0, el1, et1, ed1, el2, et2, ed2] at hRg; have HRg := hid hRg; have HEL := hid (And.intro el0 (And.intro el1 el2)); clear hRg hP hbP x0 x4 x5 x36 HC el0 et0 ed0 el1 et1 ed1 el2 et2 ed2 hs; go_upto_region 2 with fail
  refine wp_region_lit ?_; refine wpList_plain rfl (fun K hK => ?_)
  go_simp
  refine hK _ _ ?_; clear hK K; refine wpList_plain rfl (fun K hK => ?_)
  go_simp
  refine hK _ _ ?_; clear hK K; refine wpList_plain rfl (fun K hK => ?_)
  go_simp
  refine hK _ _ ?_; clear hK K; refine wpList_load_mid rfl 72 _ rfl b 7 rfl _ _ HRg.out Tryz.underlying72 rfl jmJ ?_; simp only [Act.put, List.setIfInBounds_toArray, List.set_cons_zero, List.set_cons_succ]; go_wp2
  go_loopw [29] (fun i wr => ∃ (k : Nat) (a9 : Option Addr) (c9 : Nat), ((k = 0 ∧ i = .int .i64 0) ∨ (k = 1 ∧ i = .int .i64 1) ∨ (k = 2 ∧ i = .int .i64 2) ∨ (k = 3 ∧ i = .int .i64 3)) ∧ Hid (wr.heap[W1.heap.size]? = some (.cells #[.bool R.up, .slice a9 k c9, .slice aod 3 cod, .slice asf R.safe.length csf, .int .i64 R.waits] 32)) ∧ Hid (wr.ownsRow W2.heap.size 69 1 (.slice a9 k c9) k ([Value.slice al0 R.c0.told.length cl0, .slice al1 R.c1.told.length cl1, .slice al2 R.c2.told.length cl2].take k)) ∧ Hid (Below W1.heap.size W1 wr) ∧ W2.heap.size ≤ wr.heap.size) (fun i _ => 3 - (intOf i).toNat)
  case atStart => exact ⟨0, none, 0, .inl ⟨rfl, rfl⟩, HP, hid (World.ownsRow_nil _ _ _ _), HBP, Nat.le_refl _⟩
  case round =>
   obtain ⟨k, a9, c9, hk, HPk, HOk, HBk, hwz⟩ := hrel; have hPk := HPk.out; obtain ⟨p0, p1, p2, p3, p4⟩ := bx5 hPk; clear hPk; obtain ⟨ix0, ix1, ix2⟩ := jlT (.int .i64 R.c0.ses.step) (.string (S R.c0.ses.frm.1)) (.string (S R.c0.ses.frm.2)) (.slice at0 R.c0.ses.to.length ct0) (.string (S R.c0.ses.text)) (.bool R.c0.ses.large) (.string (S R.c0.held)) (.slice ad0 R.c0.due.length cd0) (.slice al0 R.c0.told.length cl0) (.int .i64 R.c1.ses.step) (.string (S R.c1.ses.frm.1)) (.string (S R.c1.ses.frm.2)) (.slice at1 R.c1.ses.to.length ct1) (.string (S R.c1.ses.text)) (.bool R.c1.ses.large) (.string (S R.c1.held)) (.slice ad1 R.c1.due.length cd1) (.slice al1 R.c1.told.length cl1) (.int .i64 R.c2.ses.step) (.string (S R.c2.ses.frm.1)) (.string (S R.c2.ses.frm.2)) (.slice at2 R.c2.ses.to.length ct2) (.string (S R.c2.ses.text)) (.bool R.c2.ses.large) (.string (S R.c2.held)) (.slice ad2 R.c2.due.length cd2) (.slice al2 R.c2.told.length cl2); have hPW : W1.heap.size < W2.heap.size := (Array.getElem?_eq_some_iff.1 HP.out).1; have hPr : W1.heap.size < wr.heap.size := (Array.getElem?_eq_some_iff.1 HPk.out).1; obtain ⟨rfl, rfl⟩ | ⟨rfl, rfl⟩ | ⟨rfl, rfl⟩ | ⟨rfl, rfl⟩ := hk
   · obtain ⟨W3, hW3⟩ : ∃ W3, W3 = wr.alloc (.cells #[.int .i64 R.c0.ses.step, .string (S R.c0.ses.frm.1), .string (S R.c0.ses.frm.2), .slice at0 R.c0.ses.to.length ct0, .string (S R.c0.ses.text), .bool R.c0.ses.large, .string (S R.c0.held), .slice ad0 R.c0.due.length cd0, .slice al0 R.c0.told.length cl0] 71) := ⟨_, rfl⟩; have hb3 : Below wr.heap.size wr W3 := by rw [hW3]; exact nb0 _ _
     have hx3 : W3.heap[wr.heap.size]? = some (.cells #[.int .i64 R.c0.ses.step, .string (S R.c0.ses.frm.1), .string (S R.c0.ses.frm.2), .slice at0 R.c0.ses.to.length ct0, .string (S R.c0.ses.text), .bool R.c0.ses.large, .string (S R.c0.held), .slice ad0 R.c0.due.length cd0, .slice al0 R.c0.told.length cl0] 71) := by rw [hW3]; exact heap_alloc_new wr _
     have x8 : W3.cell? ⟨wr.heap.size, 8, none⟩ = some (Value.slice al0 R.c0.told.length cl0) := by simp [World.cell?, hx3]
     have p1 := ja p1 hb3; have HWE3 := hid hW3; have HB3 := hid hb3; have HO3 := hid (jU HOk.out hb3); have hl3 := hb3.size; have HP3 := hid ((hb3.block W1.heap.size hPr).trans HPk.out); clear hW3 hb3 hx3; go_upto_region 5 with fail
     rw [← HWE3.out]; clear ix0 ix1 ix2
     go_wp2_with (first
      | (at_builtin; refine wpList_append_lies _ rfl _ _ 28 rfl W2.heap.size 69 i0 _ 1 24 Tryz.underlying28 hi0 hz0 hz1 hz2 rfl (by decide) (.slice a9 0 c9) 0 ([Value.slice al0 R.c0.told.length cl0, Value.slice al1 R.c1.told.length cl1, Value.slice al2 R.c2.told.length cl2].take 0) rfl (World.ownsRow.alloc HO3.out _) ⟨W3.heap.size, 0, none⟩ 1 1 [Value.slice al0 R.c0.told.length cl0] rfl rfl (zD W3 [Value.slice al0 R.c0.told.length cl0] _) (by simp [Value.oneCell']) (by decide) (by unfold maxLen; decide) (by decide) ?c4 _ rfl ?_)
      | fail)
     case c4 => simp; omega
     intro gm cap w4 hown hgrow hat hlt4; have hne : some W1.heap.size ≠ (Value.slice a9 0 c9).ownBlock := fun e => by have := (World.ownsRow.lt HOk.out _ e.symm).1; omega
     have hP4 : w4.heap[W1.heap.size]? = some (.cells #[.bool R.up, .slice a9 0 c9, .slice aod 3 cod, .slice asf R.safe.length csf, .int .i64 R.waits] 32) := (hgrow.block W1.heap.size (by simp; omega) hne).trans ((((Below.refl _ W3).alloc (Nat.le_refl _) _).block W1.heap.size (by omega)).trans HP3.out); have y1 : w4.cell? ⟨W1.heap.size, 1, none⟩ = some (.slice a9 0 c9) := by simp [World.cell?, hP4]
     have yf : w4.frozen? ⟨W1.heap.size, 1, none⟩ = false := by simp [World.frozen?, hP4]
     have hgm : W2.heap.size ≤ gm := by
      rcases hat with e | e
      · exact (World.ownsRow.lt HOk.out gm e).1
      · have e' : gm = W3.heap.size + 1 := by simpa using e
        omega
     obtain ⟨W5, hW5⟩ : ∃ W5, W5 = w4.setCell ⟨W1.heap.size, 1, none⟩ (.slice (some ⟨gm, 0, none⟩) (0 + 1) cap) := ⟨_, rfl⟩; have HB4 := hid (show Below W1.heap.size W1 W5 by
      rw [hW5]; exact ((((HBk.out.trans (HB3.out.mono HBk.out.size)).alloc (show W1.heap.size ≤ W3.heap.size by omega) _).grown hgrow (Nat.le_trans (show W1.heap.size ≤ W3.heap.size by omega) (by simp)) (fun j hj => by have := (World.ownsRow.lt HOk.out j hj).1; omega))).setCell (Nat.le_refl _) _)
     have HP5 := hid (show W5.heap[W1.heap.size]? = some (.cells #[.bool R.up, .slice (some ⟨gm, 0, none⟩) (0 + 1) cap, .slice aod 3 cod, .slice asf R.safe.length csf, .int .i64 R.waits] 32) by
      rw [hW5]; have h := heap_setCell_same w4 W1.heap.size 1 _ _ (.slice (some ⟨gm, 0, none⟩) (0 + 1) cap) hP4
      simpa using h)
     have HO5 := hid (show W5.ownsRow W2.heap.size 69 1 (.slice (some ⟨gm, 0, none⟩) (0 + 1) cap) (0 + 1) ([Value.slice al0 R.c0.told.length cl0, Value.slice al1 R.c1.told.length cl1, Value.slice al2 R.c2.told.length cl2].take (0 + 1)) by
      rw [hW5]; exact je hown fun g hg => Below.heap_setCell _ _ _ _ (show g ≠ W1.heap.size from fun e => by have : gm = g := Option.some.inj hg; omega))
     have hwz5 : W2.heap.size ≤ W5.heap.size := by
      rw [hW5]; have h := hgrow.size
      simp [World.setCell] at h ⊢
      omega
     have HW5 := hid hW5; clear hown hgrow hat hlt4 hne hP4 hW5; go_wp2; rw [← HW5.out]
     go_roundw
     case rel => exact ⟨0 + 1, _, cap, .inr (.inl ⟨rfl, rfl⟩), HP5, HO5, HB4, hwz5⟩
     case measure => simp [intOf]
   · obtain ⟨W3, hW3⟩ : ∃ W3, W3 = wr.alloc (.cells #[.int .i64 R.c1.ses.step, .string (S R.c1.ses.frm.1), .string (S R.c1.ses.frm.2), .slice at1 R.c1.ses.to.length ct1, .string (S R.c1.ses.text), .bool R.c1.ses.large, .string (S R.c1.held), .slice ad1 R.c1.due.length cd1, .slice al1 R.c1.told.length cl1] 71) := ⟨_, rfl⟩; have hb3 : Below wr.heap.size wr W3 := by rw [hW3]; exact nb0 _ _
     have hx3 : W3.heap[wr.heap.size]? = some (.cells #[.int .i64 R.c1.ses.step, .string (S R.c1.ses.frm.1), .string (S R.c1.ses.frm.2), .slice at1 R.c1.ses.to.length ct1, .string (S R.c1.ses.text), .bool R.c1.ses.large, .string (S R.c1.held), .slice ad1 R.c1.due.length cd1, .slice al1 R.c1.told.length cl1] 71) := by rw [hW3]; exact heap_alloc_new wr _
     have x8 : W3.cell? ⟨wr.heap.size, 8, none⟩ = some (Value.slice al1 R.c1.told.length cl1) := by simp [World.cell?, hx3]
     have p1 := ja p1 hb3; have HWE3 := hid hW3; have HB3 := hid hb3; have HO3 := hid (jU HOk.out hb3); have hl3 := hb3.size; have HP3 := hid ((hb3.block W1.heap.size hPr).trans HPk.out); clear hW3 hb3 hx3; go_upto_region 5 with fail
     rw [← HWE3.out]; clear ix0 ix1 ix2
     go_wp2_with (first
      | (at_builtin; refine wpList_append_lies _ rfl _ _ 28 rfl W2.heap.size 69 i0 _ 1 24 Tryz.underlying28 hi0 hz0 hz1 hz2 rfl (by decide) (.slice a9 1 c9) 1 ([Value.slice al0 R.c0.told.length cl0, Value.slice al1 R.c1.told.length cl1, Value.slice al2 R.c2.told.length cl2].take 1) rfl (World.ownsRow.alloc HO3.out _) ⟨W3.heap.size, 0, none⟩ 1 1 [Value.slice al1 R.c1.told.length cl1] rfl rfl (zD W3 [Value.slice al1 R.c1.told.length cl1] _) (by simp [Value.oneCell']) (by decide) (by unfold maxLen; decide) (by decide) ?c4 _ rfl ?_)
      | fail)
     case c4 => simp; omega
     intro gm cap w4 hown hgrow hat hlt4; have hne : some W1.heap.size ≠ (Value.slice a9 1 c9).ownBlock := fun e => by have := (World.ownsRow.lt HOk.out _ e.symm).1; omega
     have hP4 : w4.heap[W1.heap.size]? = some (.cells #[.bool R.up, .slice a9 1 c9, .slice aod 3 cod, .slice asf R.safe.length csf, .int .i64 R.waits] 32) := (hgrow.block W1.heap.size (by simp; omega) hne).trans ((((Below.refl _ W3).alloc (Nat.le_refl _) _).block W1.heap.size (by omega)).trans HP3.out); have y1 : w4.cell? ⟨W1.heap.size, 1, none⟩ = some (.slice a9 1 c9) := by simp [World.cell?, hP4]
     have yf : w4.frozen? ⟨W1.heap.size, 1, none⟩ = false := by simp [World.frozen?, hP4]
     have hgm : W2.heap.size ≤ gm := by
      rcases hat with e | e
      · exact (World.ownsRow.lt HOk.out gm e).1
      · have e' : gm = W3.heap.size + 1 := by simpa using e
        omega
     obtain ⟨W5, hW5⟩ : ∃ W5, W5 = w4.setCell ⟨W1.heap.size, 1, none⟩ (.slice (some ⟨gm, 0, none⟩) (1 + 1) cap) := ⟨_, rfl⟩; have HB4 := hid (show Below W1.heap.size W1 W5 by
      rw [hW5]; exact ((((HBk.out.trans (HB3.out.mono HBk.out.size)).alloc (show W1.heap.size ≤ W3.heap.size by omega) _).grown hgrow (Nat.le_trans (show W1.heap.size ≤ W3.heap.size by omega) (by simp)) (fun j hj => by have := (World.ownsRow.lt HOk.out j hj).1; omega))).setCell (Nat.le_refl _) _)
     have HP5 := hid (show W5.heap[W1.heap.size]? = some (.cells #[.bool R.up, .slice (some ⟨gm, 0, none⟩) (1 + 1) cap, .slice aod 3 cod, .slice asf R.safe.length csf, .int .i64 R.waits] 32) by
      rw [hW5]; have h := heap_setCell_same w4 W1.heap.size 1 _ _ (.slice (some ⟨gm, 0, none⟩) (1 + 1) cap) hP4
      simpa using h)
     have HO5 := hid (show W5.ownsRow W2.heap.size 69 1 (.slice (some ⟨gm, 0, none⟩) (1 + 1) cap) (1 + 1) ([Value.slice al0 R.c0.told.length cl0, Value.slice al1 R.c1.told.length cl1, Value.slice al2 R.c2.told.length cl2].take (1 + 1)) by
      rw [hW5]; exact je hown fun g hg => Below.heap_setCell _ _ _ _ (show g ≠ W1.heap.size from fun e => by have : gm = g := Option.some.inj hg; omega))
     have hwz5 : W2.heap.size ≤ W5.heap.size := by
      rw [hW5]; have h := hgrow.size
      simp [World.setCell] at h ⊢
      omega
     have HW5 := hid hW5; clear hown hgrow hat hlt4 hne hP4 hW5; go_wp2; rw [← HW5.out]
     go_roundw
     case rel => exact ⟨1 + 1, _, cap, .inr (.inr (.inl ⟨rfl, rfl⟩)), HP5, HO5, HB4, hwz5⟩
     case measure => simp [intOf]
   · obtain ⟨W3, hW3⟩ : ∃ W3, W3 = wr.alloc (.cells #[.int .i64 R.c2.ses.step, .string (S R.c2.ses.frm.1), .string (S R.c2.ses.frm.2), .slice at2 R.c2.ses.to.length ct2, .string (S R.c2.ses.text), .bool R.c2.ses.large, .string (S R.c2.held), .slice ad2 R.c2.due.length cd2, .slice al2 R.c2.told.length cl2] 71) := ⟨_, rfl⟩; have hb3 : Below wr.heap.size wr W3 := by rw [hW3]; exact nb0 _ _
     have hx3 : W3.heap[wr.heap.size]? = some (.cells #[.int .i64 R.c2.ses.step, .string (S R.c2.ses.frm.1), .string (S R.c2.ses.frm.2), .slice at2 R.c2.ses.to.length ct2, .string (S R.c2.ses.text), .bool R.c2.ses.large, .string (S R.c2.held), .slice ad2 R.c2.due.length cd2, .slice al2 R.c2.told.length cl2] 71) := by rw [hW3]; exact heap_alloc_new wr _
     have x8 : W3.cell? ⟨wr.heap.size, 8, none⟩ = some (Value.slice al2 R.c2.told.length cl2) := by simp [World.cell?, hx3]
     have p1 := ja p1 hb3; have HWE3 := hid hW3; have HB3 := hid hb3; have HO3 := hid (jU HOk.out hb3); have hl3 := hb3.size; have HP3 := hid ((hb3.block W1.heap.size hPr).trans HPk.out); clear hW3 hb3 hx3; go_upto_region 5 with fail
     rw [← HWE3.out]; clear ix0 ix1 ix2
     go_wp2_with (first
      | (at_builtin; refine wpList_append_lies _ rfl _ _ 28 rfl W2.heap.size 69 i0 _ 1 24 Tryz.underlying28 hi0 hz0 hz1 hz2 rfl (by decide) (.slice a9 2 c9) 2 ([Value.slice al0 R.c0.told.length cl0, Value.slice al1 R.c1.told.length cl1, Value.slice al2 R.c2.told.length cl2].take 2) rfl (World.ownsRow.alloc HO3.out _) ⟨W3.heap.size, 0, none⟩ 1 1 [Value.slice al2 R.c2.told.length cl2] rfl rfl (zD W3 [Value.slice al2 R.c2.told.length cl2] _) (by simp [Value.oneCell']) (by decide) (by unfold maxLen; decide) (by decide) ?c4 _ rfl ?_)
      | fail)
     case c4 => simp; omega
     intro gm cap w4 hown hgrow hat hlt4; have hne : some W1.heap.size ≠ (Value.slice a9 2 c9).ownBlock := fun e => by have := (World.ownsRow.lt HOk.out _ e.symm).1; omega
     have hP4 : w4.heap[W1.heap.size]? = some (.cells #[.bool R.up, .slice a9 2 c9, .slice aod 3 cod, .slice asf R.safe.length csf, .int .i64 R.waits] 32) := (hgrow.block W1.heap.size (by simp; omega) hne).trans ((((Below.refl _ W3).alloc (Nat.le_refl _) _).block W1.heap.size (by omega)).trans HP3.out); have y1 : w4.cell? ⟨W1.heap.size, 1, none⟩ = some (.slice a9 2 c9) := by simp [World.cell?, hP4]
     have yf : w4.frozen? ⟨W1.heap.size, 1, none⟩ = false := by simp [World.frozen?, hP4]
     have hgm : W2.heap.size ≤ gm := by
      rcases hat with e | e
      · exact (World.ownsRow.lt HOk.out gm e).1
      · have e' : gm = W3.heap.size + 1 := by simpa using e
        omega
     obtain ⟨W5, hW5⟩ : ∃ W5, W5 = w4.setCell ⟨W1.heap.size, 1, none⟩ (.slice (some ⟨gm, 0, none⟩) (2 + 1) cap) := ⟨_, rfl⟩; have HB4 := hid (show Below W1.heap.size W1 W5 by
      rw [hW5]; exact ((((HBk.out.trans (HB3.out.mono HBk.out.size)).alloc (show W1.heap.size ≤ W3.heap.size by omega) _).grown hgrow (Nat.le_trans (show W1.heap.size ≤ W3.heap.size by omega) (by simp)) (fun j hj => by have := (World.ownsRow.lt HOk.out j hj).1; omega))).setCell (Nat.le_refl _) _)
     have HP5 := hid (show W5.heap[W1.heap.size]? = some (.cells #[.bool R.up, .slice (some ⟨gm, 0, none⟩) (2 + 1) cap, .slice aod 3 cod, .slice asf R.safe.length csf, .int .i64 R.waits] 32) by
      rw [hW5]; have h := heap_setCell_same w4 W1.heap.size 1 _ _ (.slice (some ⟨gm, 0, none⟩) (2 + 1) cap) hP4
      simpa using h)
     have HO5 := hid (show W5.ownsRow W2.heap.size 69 1 (.slice (some ⟨gm, 0, none⟩) (2 + 1) cap) (2 + 1) ([Value.slice al0 R.c0.told.length cl0, Value.slice al1 R.c1.told.length cl1, Value.slice al2 R.c2.told.length cl2].take (2 + 1)) by
      rw [hW5]; exact je hown fun g hg => Below.heap_setCell _ _ _ _ (show g ≠ W1.heap.size from fun e => by have : gm = g := Option.some.inj hg; omega))
     have hwz5 : W2.heap.size ≤ W5.heap.size := by
      rw [hW5]; have h := hgrow.size
      simp [World.setCell] at h ⊢
      omega
     have HW5 := hid hW5; clear hown hgrow hat hlt4 hne hP4 hW5; go_wp2; rw [← HW5.out]
     go_roundw
     case rel => exact ⟨2 + 1, _, cap, .inr (.inr (.inr ⟨rfl, rfl⟩)), HP5, HO5, HB4, hwz5⟩
     case measure => simp [intOf]
   · have hr : wr.heap[w.heap.size]? = some (.cells #[.bool false, .slice none 0 0, .slice none 0 0, .slice none 0 0, .int .i64 0] 32) := by
      have h := HBk.out.block w.heap.size (by rw [HWE.out]; simp); rw [h, HWE.out]; exact heap_alloc_new w _
     obtain ⟨r0, r1, r2, r3, r4⟩ := bx5 hr; have zf : ∀ o, wr.frozen? ⟨w.heap.size, o, none⟩ = false := fun o => by simp [World.frozen?, hr]
     have HR := hid hr; clear hr; have HBK := hid (show w.heap.size < W1.heap.size by rw [HWE.out]; simp); have HEND := hid (show ∀ w', Below w.heap.size w w' → (∀ g, w.heap.size < g → w'.heap[g]? = wr.heap[g]?) → OutM B w' R (.slice a9 3 c9) (.slice aod R.orders.length cod) (.slice asf R.safe.length csf) from fun w' hb hg => jmV HM.out HQ.out hb (by
      obtain ⟨e0, e1, e2⟩ := HEL.out; rw [e0, e1, e2]; exact ja6 (f := fun x => x) (je HOk.out fun g h => hg g (by have := (World.ownsRow.lt HOk.out g h).1; have := HBK.out; omega)) (show 3 ≤ maxLen by unfold maxLen; decide) fun g h => (by have := (World.ownsRow.lt HOk.out g h).1; have := HBK.out; have := HM.out.lt; omega)) (by rw [HQ.out.os.2]; exact hodv) hsf)
     go_wp2; have m := put5 (w := wr) (b := w.heap.size) (.bool R.up) (.slice a9 3 c9) (.slice aod 3 cod) (.slice asf R.safe.length csf) (.int .i64 R.waits) HR.out; obtain ⟨W6, hW6⟩ : ∃ W6, W6 = (((((wr.setCell ⟨w.heap.size, 0, none⟩ (.bool R.up)).setCell ⟨w.heap.size, 1, none⟩ (.slice a9 3 c9)).setCell ⟨w.heap.size, 2, none⟩ (.slice aod 3 cod)).setCell ⟨w.heap.size, 3, none⟩ (.slice asf R.safe.length csf)).setCell ⟨w.heap.size, 4, none⟩ (.int .i64 R.waits)) := ⟨_, rfl⟩; rw [← hW6] at m ⊢; obtain ⟨m0, m1, m2, m3, m4⟩ := bx5 m; refine bodyPost_ret (v := .agg #[.bool R.up, .slice a9 3 c9, .slice aod 3 cod, .slice asf R.safe.length csf, .int .i64 R.waits]) (by simp only [results, Tryz.results13]; simp [go_sem, m0, m1, m2, m3, m4]) rfl ?_; have ho3 := HQ.out.os.2; have hB6 : Below w.heap.size w W6 := by
      rw [hW6]; exact (((((HB1.out.trans (HBk.out.mono HB1.out.size)).setCell (Nat.le_refl _) _).setCell (Nat.le_refl _) _).setCell (Nat.le_refl _) _).setCell (Nat.le_refl _) _).setCell (Nat.le_refl _) _
     refine ⟨a9, c9, aod, cod, asf, csf, by rw [ho3], HEND.out W6 hB6 fun g hg => ?_, hB6⟩; rw [hW6]; have hn : g ≠ w.heap.size := by omega
     exact (Below.heap_setCell _ _ _ _ hn).trans ((Below.heap_setCell _ _ _ _ hn).trans ((Below.heap_setCell _ _ _ _ hn).trans ((Below.heap_setCell _ _ _ _ hn).trans (Below.heap_setCell _ _ _ _ hn))))
def inbS : Stt := ⟨[⟨[73, 78, 66, 79, 88], 1, []⟩], []⟩
def con0 : Con := ⟨atS 0, [], [], []⟩
def rom0 : Rom := ⟨true, [], 0, 0, 0, [inbS, inbS, inbS], [inbS, inbS, inbS], con0, con0, con0, [[], [], []], []⟩
theorem jhh {w : World} {g g' : Nat} {c c' : Array Value} {t t' : TypeId} {f f' : Nat × Nat} (h : w.heap[g]? = some (.cells c t f)) (h' : w.heap[g']? = some (.cells c' t' f')) (hne : t ≠ t') : g ≠ g' := fun e => by
 subst e; rw [h] at h'; cases h'; exact hne rfl
theorem qw {w : World} {B n k g : Nat} {e : TypeId} {v : Value} {xs : List Value} (h : w.ownsRow B e k v n xs) (hg : v.ownBlock = some g) : ∃ cur, w.heap[g]? = some (.cells cur e (0, 0)) := by
 rcases h.2 with ⟨rfl, _⟩ | ⟨g', cap, cur, rfl, _, h', _⟩
 · cases hg
 · cases hg; exact ⟨cur, h'⟩
theorem jkt {A : Type} {Q : Nat → Prop} {P : A → List Value → Prop} {w : World} {v : Value} {vs : List Value} {ls : List A} (h : RowM Q 1 (fun x cs => cs = [x]) w v vs) (hl : vs.length = ls.length) (hx : ∀ (i : Nat) x l, vs[i]? = some x → ls[i]? = some l → P l [x]) : RowM Q 1 P w v ls := by
 obtain ⟨a, c, hv, hm, hr⟩ := h; refine ⟨a, c, by rw [← hl]; exact hv, by rw [← hl]; exact hm, fun i l hi => ?_⟩; have hi' : i < vs.length := by rw [hl]; exact (List.getElem?_eq_some_iff.1 hi).1
 obtain ⟨b, o, cs, h1, h2, h3, h4, h5, h6⟩ := hr i vs[i] (List.getElem?_eq_getElem hi'); exact ⟨b, o, cs, h1, h2, h3, h4, h5, by rw [h6]; exact hx i _ l (List.getElem?_eq_getElem hi') hi⟩
theorem jlV {w : World} {Q : Nat → Prop} {b : Nat} (h : w.heap[b]? = some (.cells #[.string ⟨#[73, 78, 66, 79, 88]⟩, .int .i64 1, .slice none 0 0] 40)) (hQ : Q b) : SttM Q w (.slice (some ⟨b, 0, none⟩) 1 1) (.slice none 0 0) inbS := by
 refine ⟨⟨some ⟨b, 0, none⟩, 1, rfl, by unfold maxLen; decide, fun i x hx => ?_⟩, jj _ _ _ _ _ _, fun a n c e => by cases e; exact Nat.le_refl _⟩
 match i, hx with
 | 0, hx =>
   cases hx; refine ⟨b, 0, boxC ⟨[73, 78, 66, 79, 88], 1, []⟩ (.slice none 0 0), rfl, (Array.getElem?_eq_some_iff.1 h).1, hQ, rfl, fun j u hj => ?_, _, rfl, jj _ _ _ _ _ _⟩; have hl : j < 3 := (List.getElem?_eq_some_iff.1 hj).1; simp only [World.cell?, h]
   match j, hl, hj with
   | 0, _, hj => cases hj; rfl
   | 1, _, hj => cases hj; rfl
   | 2, _, hj => cases hj; rfl
 | n + 1, hx => simp [inbS] at hx
theorem jdU (bs : List Nat) : inbC bs = (bs.map fun b => [Value.slice (some ⟨b, 0, none⟩) 1 1, .slice none 0 0]).flatten := by
 simp [inbC, List.flatMap_def]
theorem RoomM.of_open {W W1 w' : World} {b : Nat} {v5 v6 v36 : Value} {L : List (List UInt8)} {Cs : List (List Cmd)} (h1 : RmB W1 b (jeb v5 v6 (.slice none 0 0) (.slice none 0 0) v36)) (hb : W.heap.size ≤ b) (hL : LdN W1 W.heap.size v5 v6) (hO : OwO W1 W.heap.size v36) (hI : RoI W1 W.heap.size b v5 v6 v36 L Cs w') (hW : W.heap.size ≤ W1.heap.size) (hLl : L.length ≤ 10) (hCl : Cs.length ≤ 10) :
 ∃ G, RoomM L Cs W.heap.size b G rom0 w' := by
 obtain ⟨bs, hbl, hin, h5, h6, hap⟩ := hL; obtain ⟨v34, v35, X, hX, hM, hS, hT⟩ := hI; have keep : ∀ k o, W1.heap[k]? = some o → k ≠ b → w'.heap[k]? = some o := fun k o hk hn => (hT.block k (Array.getElem?_eq_some_iff.1 hk).1 ⟨hn, by simp⟩).trans hk
 have far5 : ∀ g, v5.ownBlock = some g → g ≠ b := fun g hg => by obtain ⟨c, h⟩ := qw h5 hg; exact jhh h h1.1 (by decide)
 have far6 : ∀ g, v6.ownBlock = some g → g ≠ b := fun g hg => by obtain ⟨c, h⟩ := qw h6 hg; exact jhh h h1.1 (by decide)
 have farO : ∀ g, v36.ownBlock = some g → g ≠ b := fun g hg => by obtain ⟨c, h⟩ := qw hO hg; exact jhh h h1.1 (by decide)
 have k5 : w'.ownsRow W.heap.size 44 2 v5 3 (inbC bs) := je h5 fun g hg => by obtain ⟨c, h⟩ := qw h5 hg; rw [keep g _ h (far5 g hg), h]
 have k6 : w'.ownsRow W.heap.size 44 2 v6 3 (inbC bs) := je h6 fun g hg => by obtain ⟨c, h⟩ := qw h6 hg; rw [keep g _ h (far6 g hg), h]
 have kO : w'.ownsRow W.heap.size 36 1 v36 3 [.slice none 0 0, .slice none 0 0, .slice none 0 0] := je hO fun g hg => by obtain ⟨c, h⟩ := qw hO hg; rw [keep g _ h (farO g hg), h]
 have hbx : ∀ q ∈ bs, q ≠ b ∧ w'.heap[q]? = some (.cells #[.string ⟨#[73, 78, 66, 79, 88]⟩, .int .i64 1, .slice none 0 0] 40) := fun q hq => by
  have hn : q ≠ b := jhh (hin q hq).2 h1.1 (by decide); exact ⟨hn, keep q _ (hin q hq).2 hn⟩
 obtain ⟨V, hV⟩ : ∃ V : Vals, V = ⟨.slice none 0 0, v5, v6, v34, v35, v36, .slice none 0 0, ⟨.slice none 0 0, .slice none 0 0, .slice none 0 0⟩, ⟨.slice none 0 0, .slice none 0 0, .slice none 0 0⟩, ⟨.slice none 0 0, .slice none 0 0, .slice none 0 0⟩, [.slice none 0 0, .slice none 0 0, .slice none 0 0], bs.map fun b => (.slice (some ⟨b, 0, none⟩) 1 1, .slice none 0 0)⟩ := ⟨_, rfl⟩; have hG : mB (jO rom0 V) = v6.ownBlock.toList ++ v36.ownBlock.toList := by
  subst hV; simp only [jO, jaD, vL, rom0, con0, intR, sttR, ordR]
  simp [mB, Value.ownBlock, List.range, List.range.loop]
 have inG : ∀ g, g ∈ mB (jO rom0 V) → v6.ownBlock = some g ∨ v36.ownBlock = some g := fun g hg => by rw [hG] at hg; simpa using hg
 have ty6 : ∀ g, g ∈ mB (jO rom0 V) → ∃ c t, w'.heap[g]? = some (.cells c t (0, 0)) ∧ (t = 44 ∨ t = 36) ∧ g < W1.heap.size := fun g hg => by
  rcases inG g hg with h | h
  · obtain ⟨c, hc⟩ := qw k6 h; exact ⟨c, _, hc, .inl rfl, (World.ownsRow.lt h6 g h).2⟩
  · obtain ⟨c, hc⟩ := qw kO h; exact ⟨c, _, hc, .inr rfl, (World.ownsRow.lt hO g h).2⟩
 have avT : ∀ {g : Nat} {c : Array Value} {t : TypeId} {f : Nat × Nat}, w'.heap[g]? = some (.cells c t f) → g ≠ b → t ≠ 44 → t ≠ 36 → Av b (mB (jO rom0 V)) g := fun {g c t f} hg hn h1 h2 => ⟨hn, fun e => by
  obtain ⟨c', t', h', ht, _⟩ := ty6 g e; rw [hg] at h'; cases h'
  rcases ht with h | h
  · exact h1 h
  · exact h2 h⟩
 have avN : ∀ k, AvN W1.heap.size b (mB [locR v34 L, scrR v35 X]) k → AvN W.heap.size b (mB (jO rom0 V)) k := fun k hk => ⟨Nat.le_trans hW hk.1, hk.2.1, fun e => by
  obtain ⟨_, _, _, _, h⟩ := ty6 k e; have := hk.1; omega⟩
 refine ⟨mB (jO rom0 V), V, rfl, hb, ?_, ⟨?_, ?_, ?_, hM.lt⟩, ?_⟩
 · subst hV; exact hX
 · subst hV; intro r hr; simp only [jO, rom0, con0, List.range, List.range.loop, List.map_cons, List.map_nil, List.cons_append, List.nil_append, List.mem_cons, List.not_mem_nil, or_false] at hr
   rcases hr with rfl | rfl | rfl | rfl | rfl | rfl | rfl | rfl | rfl
   · exact World.ownsRow_nil _ _ _ _
   · exact World.ownsRow_nil _ _ _ _
   · exact World.ownsRow_nil _ _ _ _
   · exact World.ownsRow_nil _ _ _ _
   · have := k6; rw [jdU] at this
     simpa [sttR, hbl, Function.comp_def] using this
   · exact kO
   · exact World.ownsRow_nil _ _ _ _
   · exact World.ownsRow_nil _ _ _ _
   · exact World.ownsRow_nil _ _ _ _
 · rw [hG]; refine List.nodup_append.2 ⟨by cases v6.ownBlock <;> simp, by cases v36.ownBlock <;> simp, fun g h g' h' e => ?_⟩; subst e; obtain ⟨c, hc⟩ := qw k6 (by simpa using h); obtain ⟨c', hc'⟩ := qw kO (by simpa using h'); exact jhh hc hc' (by decide) rfl
 · intro e
   rcases inG b e with h | h
   · exact far6 b h rfl
   · exact farO b h rfl
 · have hc0 : ConM (AvN W.heap.size b (mB (jO rom0 V))) w' con0 ⟨.slice none 0 0, .slice none 0 0, .slice none 0 0⟩ := ⟨jj _ _ _ _ _ _, fun a n c e => by cases e; exact Nat.le_refl _, jj _ _ _ _ _ _⟩; have hlo : TxtsM (AvN W.heap.size b (mB (jO rom0 V))) w' v34 L := ja6 (f := fun l => .string (S l)) (hM.own (locR v34 L) (by simp)) (by unfold maxLen; omega) fun g hg => by
    obtain ⟨c, h⟩ := qw (hM.own (locR v34 L) (by simp)) hg; exact ⟨(World.ownsRow.lt (hM.own (locR v34 L) (by simp)) g hg).1, avT h (fun e => hM.far (List.mem_filterMap.2 ⟨locR v34 L, by simp, by rw [← e]; exact hg⟩)) (show (9 : TypeId) ≠ 44 by decide) (show (9 : TypeId) ≠ 36 by decide)⟩
   have hsx : RowM (AvN W.heap.size b (mB (jO rom0 V))) 1 (fun x cs => cs = [x]) w' v35 X := ja6 (f := fun x => x) (by simpa [scrR] using hM.own (scrR v35 X) (by simp)) (by rw [hS.1]; unfold maxLen; omega) fun g hg => by
    obtain ⟨c, h⟩ := qw (hM.own (scrR v35 X) (by simp)) hg; exact ⟨(World.ownsRow.lt (hM.own (scrR v35 X) (by simp)) g hg).1, avT h (fun e => hM.far (List.mem_filterMap.2 ⟨scrR v35 X, by simp, by rw [← e]; exact hg⟩)) (show (88 : TypeId) ≠ 44 by decide) (show (88 : TypeId) ≠ 36 by decide)⟩
   have hsc : RowM (AvN W.heap.size b (mB (jO rom0 V))) 1 (ScrV (AvN W.heap.size b (mB (jO rom0 V))) w') w' v35 Cs := jkt hsx hS.1 fun i x C h1 h2 => by
    obtain ⟨C', a, c, e1, e2, e3, e4⟩ := hS.2 i x h1; rw [h2] at e1; cases e1; subst e2; exact ⟨a, c, rfl, e3, RowM.imp e4 avN (Keeps.refl _ _) fun _ _ hx => CmdM.imp avN (Keeps.refl _ _) _ _ _ hx⟩
   have hb1 : ∀ (i : Nat) q, bs[i]? = some q → SttM (AvN W.heap.size b (mB (jO rom0 V))) w' (.slice (some ⟨q, 0, none⟩) 1 1) (.slice none 0 0) inbS := fun i q hq => by
    have h := hbx q (List.mem_of_getElem? hq); exact jlV h.2 ⟨(hin q (List.mem_of_getElem? hq)).1, avT h.2 h.1 (by decide) (by decide)⟩
   have h3 : ∀ (i : Nat) s, [inbS, inbS, inbS][i]? = some s → s = inbS := fun i s h => by
    have := List.mem_of_getElem? h
    simpa using this
   have hsf : RowM (AvN W.heap.size b (mB (jO rom0 V))) 2 (SttV (AvN W.heap.size b (mB (jO rom0 V))) w') w' v5 [inbS, inbS, inbS] := qB (css := bs.map fun b => [Value.slice (some ⟨b, 0, none⟩) 1 1, .slice none 0 0]) (by rw [← jdU]; exact k5) rfl (by unfold maxLen; decide) (by simp [hbl]) (fun cs hcs => by
        obtain ⟨q, _, rfl⟩ := List.mem_map.1 hcs; rfl) (fun i s cs hs hcs => by
        rw [List.getElem?_map] at hcs; cases hq : bs[i]? with
        | none => rw [hq] at hcs; cases hcs
        | some q =>
          rw [hq] at hcs; cases hcs; rw [h3 i s hs]; exact ⟨_, _, rfl, hb1 i q hq⟩) fun g hg => ⟨(World.ownsRow.lt k5 g hg).1, far5 g hg, fun e => by
        rcases inG g e with h | h
        · exact hap g hg h
        · obtain ⟨c, hc⟩ := qw k5 hg; obtain ⟨c', hc'⟩ := qw kO h; exact jhh hc hc' (by decide) rfl⟩
   subst hV; exact ⟨hc0, hc0, hc0, hlo, hsc, hsf, ⟨by simp [hbl, rom0], fun i s x hs hx => by
    rw [List.getElem?_map] at hx; cases hq : bs[i]? with
    | none => rw [hq] at hx; cases hx
    | some q =>
      rw [hq] at hx; cases hx; rw [h3 i s hs]; exact hb1 i q hq⟩, ⟨rfl, rfl⟩, BysM.nil _ _ _ _⟩
end Go.Proofs.YtgooljlpffnaeaaGreatDoor
