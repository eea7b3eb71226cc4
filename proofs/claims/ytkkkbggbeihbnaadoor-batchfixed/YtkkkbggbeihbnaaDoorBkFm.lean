/-
  Whether an entry has its form, whatever it holds: the walks.
-/
import Derived.Test.YtkkkbggbeihbnaaDoorBkBa
import Derived.Test.YtkkkbggbeihbnaaDoorBkNe
import Derived.Test.YtkkkbggbeihbnaaDoorBoxFm
namespace Go.Proofs.YtkkkbggbeihbnaaDoor
open Go.RowKit Go.Proofs

set_option maxHeartbeats 1000000 in
set_option maxRecDepth 100000 in
theorem checkGoal_any (s : List UInt8) (w : World) (hl : s.length ≤ 1000000) :
    Calls Tryd.prog 61 #[.string (S s)] w fun e w' => (∃ er, e = .returned (.int .i64 er) ∧ (er = 0 → goalM s = 0)) ∧ Below w.heap.size w w' := by
  by_cases h1 : 100 < s.length
  · have c1 : (100 : Int) < ((S s).size : Int) := by rw [size_S]; omega
    go_enter Tryd.func61, Tryd.ntmps61
    go_wp2
    go_ret
    exact ⟨⟨3, rfl, fun h => by cases h⟩, Below.refl _ _⟩
  · have c1 : ¬ (100 : Int) < ((S s).size : Int) := by rw [size_S]; omega
    have HC := hid (list_any (S s) w (by rw [size_S]; unfold maxLen; omega))
    rw [list_S] at HC
    have HG := hid (show (listM s).2 = 0 → (listM s).1.length = 1 → goalM s = 0 from fun h2 h3 => by unfold goalM; rw [if_neg h1, if_pos ⟨h2, h3⟩])
    generalize listM s = L at *
    clear h1
    go_enter Tryd.func61, Tryd.ntmps61
    go_wp2_with fail
    refine HC.out.mono ?_
    rintro e w1 ⟨a, c, rfl, _, hb⟩
    have HB := hid hb
    clear hb
    by_cases h2 : L.2 = 0
    · by_cases h3 : L.1.length = 1
      · have HGG := hid (HG.out h2 h3)
        rw [h2, h3]
        clear h2 h3
        simp only
        go_wp2
        go_ret
        exact ⟨⟨0, rfl, fun _ => HGG.out⟩, HB.out⟩
      · have h3' : ¬ ((L.1.length : Nat) : Int) = 1 := by omega
        have h3'' : (((L.1.length : Nat) : Int) == 1) = false := by rw [beq_eq_false_iff_ne]; exact h3'
        rw [h2]
        clear h2 h3
        simp only
        go_wp2
        go_ret
        exact ⟨⟨3, rfl, fun h => by cases h⟩, HB.out⟩
    · have h2' : (L.2 == 0) = false := by rw [beq_eq_false_iff_ne]; exact h2
      simp only
      go_wp2
      go_ret
      exact ⟨⟨3, rfl, fun h => by cases h⟩, HB.out⟩
/-- What checkNames asks. -/
def namesP (x : Ent) : Prop := (x.kind = 6 → goalM x.goal = 0) ∧ (x.kind ≠ 6 → nameP x.box = 0) ∧ (x.kind = 5 → nameP x.goal = 0)
set_option maxHeartbeats 1000000 in
set_option maxRecDepth 100000 in
theorem checkNames_any (x : Ent) (w : World) (hl : x.goal.length ≤ 1000000) :
    Calls Tryd.prog 43 #[.agg #[.int .i64 x.kind, .string (S x.box), .int .i64 x.uid, .int .i64 x.flags, .string (S x.goal), .string (S x.text)]] w fun e w' => (∃ er, e = .returned (.int .i64 er) ∧ (er = 0 → namesP x)) ∧ Below w.heap.size w w' := by
  obtain ⟨W1, hW1⟩ : ∃ W1, W1 = w.alloc (.cells #[.int .i64 x.kind, .string (S x.box), .int .i64 x.uid, .int .i64 x.flags, .string (S x.goal), .string (S x.text)] 70) := ⟨_, rfl⟩
  have HWE := hid hW1
  have HB1 := hid (show Below w.heap.size w W1 by rw [hW1]; exact (Below.refl _ _).alloc (Nat.le_refl _) _)
  have hX : W1.heap[w.heap.size]? = some (.cells #[.int .i64 x.kind, .string (S x.box), .int .i64 x.uid, .int .i64 x.flags, .string (S x.goal), .string (S x.text)] 70) := by rw [hW1]; exact heap_alloc_new w _
  obtain ⟨x0, x1, x2, x3, x4, x5⟩ := box6 hX
  by_cases k6 : x.kind = 6
  · have HK := hid k6
    have c6 : (x.kind == 6) = true := by simp [k6]
    clear k6 hW1 hX
    go_enter Tryd.func43, Tryd.ntmps43
    go_wp2_with fail
    rw [← HWE.out]
    refine (checkGoal_any x.goal W1 hl).mono ?_
    rintro e w2 ⟨⟨er, rfl, he⟩, hb⟩
    have HB2 := hid (HB1.out.trans (hb.mono HB1.out.size))
    have HE := hid (show er = 0 → namesP x from fun h => ⟨fun _ => he h, fun h6 => absurd HK.out h6, fun h5 => by have := HK.out; omega⟩)
    clear hb he
    go_wp2
    go_ret
    exact ⟨⟨er, rfl, HE.out⟩, HB2.out⟩
  · have c6 : (x.kind == 6) = false := by simp [k6]
    have HK := hid k6
    obtain ⟨n1, hn1⟩ : ∃ n1, n1 = nameP (S x.box).data.toList := ⟨_, rfl⟩
    obtain ⟨n2, hn2⟩ : ∃ n2, n2 = nameP (S x.goal).data.toList := ⟨_, rfl⟩
    have HN1 := hid hn1
    have HN2 := hid hn2
    have HNB := hid (show n1 = 0 → nameP x.box = 0 from fun h => by rw [hn1, list_S] at h; exact h)
    have HNG := hid (show n2 = 0 → nameP x.goal = 0 from fun h => by rw [hn2, list_S] at h; exact h)
    clear k6 hW1 hX hn1 hn2
    by_cases h1 : n1 = 0
    · have HNB1 := hid (HNB.out h1)
      by_cases k5 : x.kind = 5
      · have c5 : (x.kind == 5) = true := by simp [k5]
        clear k5
        go_enter Tryd.func43, Tryd.ntmps43
        go_wp2_with fail
        rw [← HWE.out]
        refine (rname_any (S x.box) W1).mono ?_
        rintro e u ⟨rfl, hu⟩
        have hu' := hu.symm
        subst hu'
        rw [← HN1.out, h1]
        clear hu
        go_wp2_with fail
        refine (rname_any (S x.goal) W1).mono ?_
        rintro e u ⟨rfl, hu⟩
        have hu' := hu.symm
        subst hu'
        rw [← HN2.out]
        clear hu
        go_wp2
        go_ret
        exact ⟨⟨n2, rfl, fun h => ⟨fun h6 => absurd h6 HK.out, fun _ => HNB1.out, fun _ => HNG.out h⟩⟩, HB1.out⟩
      · have c5 : (x.kind == 5) = false := by simp [k5]
        have HK5 := hid k5
        clear k5
        go_enter Tryd.func43, Tryd.ntmps43
        go_wp2_with fail
        rw [← HWE.out]
        refine (rname_any (S x.box) W1).mono ?_
        rintro e u ⟨rfl, hu⟩
        have hu' := hu.symm
        subst hu'
        rw [← HN1.out, h1]
        clear hu
        go_wp2
        go_ret
        exact ⟨⟨0, rfl, fun h => ⟨fun h6 => absurd h6 HK.out, fun _ => HNB1.out, fun h5 => absurd h5 HK5.out⟩⟩, HB1.out⟩
    · have h1' : (n1 == 0) = false := by rw [beq_eq_false_iff_ne]; exact h1
      go_enter Tryd.func43, Tryd.ntmps43
      go_wp2_with fail
      rw [← HWE.out]
      refine (rname_any (S x.box) W1).mono ?_
      rintro e u ⟨rfl, hu⟩
      have hu' := hu.symm
      subst hu'
      rw [← HN1.out]
      clear hu
      go_wp2
      go_ret
      exact ⟨⟨n1, rfl, fun h => absurd h h1⟩, HB1.out⟩
theorem S_emp {a : List UInt8} (h : S a = ⟨#[]⟩) : a = [] := by
  have := congrArg (fun s : ByteArray => s.data.toList) h
  simp only [list_S] at this
  simpa using this
/-- What bare makes of an entry; where it is the entry, the entry has nothing that its kind has not. -/
theorem bare_form (x : Ent) (hk : 1 ≤ x.kind ∧ x.kind ≤ 6) : ∃ (yb yg yt : ByteArray) (yu yf : Int), (∀ w : World, Calls Tryd.prog 41 #[.agg #[.int .i64 x.kind, .string (S x.box), .int .i64 x.uid, .int .i64 x.flags, .string (S x.goal), .string (S x.text)]] w fun e w' => e = .returned (.agg #[.int .i64 x.kind, .string yb, .int .i64 yu, .int .i64 yf, .string yg, .string yt]) ∧ Below w.heap.size w w') ∧ (S x.box = yb ∧ x.uid = yu ∧ x.flags = yf ∧ S x.goal = yg ∧ S x.text = yt → bareP x) := by
  obtain ⟨k, bx, u, f, g, t⟩ := x
  simp only at hk ⊢
  have hcase : k = 1 ∨ k = 2 ∨ k = 3 ∨ k = 4 ∨ k = 5 ∨ k = 6 := by omega
  rcases hcase with rfl | rfl | rfl | rfl | rfl | rfl
  · exact ⟨_, _, _, _, _, fun w => bare_g1 bx g t u f w, fun ⟨_, h2, h3, h4, h5⟩ => ⟨fun _ => ⟨h2, h3, S_emp h4, S_emp h5⟩, fun h => by simp at h, fun h => by simp at h, fun h => by simp at h, fun h => by simp at h⟩⟩
  · exact ⟨_, _, _, _, _, fun w => bare_g2 bx g t u f w, fun ⟨_, h2, h3, h4, h5⟩ => ⟨fun h => by simp at h, fun _ => ⟨h2, S_emp h4⟩, fun h => by simp at h, fun h => by simp at h, fun h => by simp at h⟩⟩
  · exact ⟨_, _, _, _, _, fun w => bare_g3 bx g t u f w, fun ⟨_, h2, h3, h4, h5⟩ => ⟨fun h => by simp at h, fun h => by simp at h, fun _ => ⟨S_emp h4, S_emp h5⟩, fun h => by simp at h, fun h => by simp at h⟩⟩
  · exact ⟨_, _, _, _, _, fun w => bare_g4 bx g t u f w, fun ⟨_, h2, h3, h4, h5⟩ => ⟨fun _ => ⟨h2, h3, S_emp h4, S_emp h5⟩, fun h => by simp at h, fun h => by simp at h, fun h => by simp at h, fun h => by simp at h⟩⟩
  · exact ⟨_, _, _, _, _, fun w => bare_g5 bx g t u f w, fun ⟨_, h2, h3, h4, h5⟩ => ⟨fun h => by simp at h, fun h => by simp at h, fun h => by simp at h, fun _ => ⟨h3, S_emp h5⟩, fun h => by simp at h⟩⟩
  · exact ⟨_, _, _, _, _, fun w => bare_g6 bx g t u f w, fun ⟨h1, h2, h3, h4, h5⟩ => ⟨fun h => by simp at h, fun h => by simp at h, fun h => by simp at h, fun h => by simp at h, fun _ => ⟨S_emp h1, h2, h3⟩⟩⟩
set_option maxHeartbeats 1000000 in
set_option maxRecDepth 100000 in
theorem form_any (x : Ent) (w : World) (hl : x.goal.length ≤ 1000000) (htl : x.text.length ≤ 1000000) :
    Calls Tryd.prog 28 #[.agg #[.int .i64 x.kind, .string (S x.box), .int .i64 x.uid, .int .i64 x.flags, .string (S x.goal), .string (S x.text)]] w fun e w' => (∃ er, e = .returned (.int .i64 er) ∧ (er = 0 → Formed x)) ∧ Below w.heap.size w w' := by
  obtain ⟨W1, hW1⟩ : ∃ W1, W1 = w.alloc (.cells #[.int .i64 x.kind, .string (S x.box), .int .i64 x.uid, .int .i64 x.flags, .string (S x.goal), .string (S x.text)] 70) := ⟨_, rfl⟩
  have HWE := hid hW1
  have HB1 := hid (show Below w.heap.size w W1 by rw [hW1]; exact (Below.refl _ _).alloc (Nat.le_refl _) _)
  have hX : W1.heap[w.heap.size]? = some (.cells #[.int .i64 x.kind, .string (S x.box), .int .i64 x.uid, .int .i64 x.flags, .string (S x.goal), .string (S x.text)] 70) := by rw [hW1]; exact heap_alloc_new w _
  have HX := hid hX
  obtain ⟨x0, x1, x2, x3, x4, x5⟩ := box6 hX
  by_cases k1 : x.kind < 1
  · clear hW1 hX
    go_enter Tryd.func28, Tryd.ntmps28
    go_wp2
    rw [← HWE.out]
    go_ret
    exact ⟨⟨2, rfl, fun h => by cases h⟩, HB1.out⟩
  by_cases k2 : 6 < x.kind
  · clear hW1 hX
    go_enter Tryd.func28, Tryd.ntmps28
    go_wp2
    rw [← HWE.out]
    go_ret
    exact ⟨⟨2, rfl, fun h => by cases h⟩, HB1.out⟩
  have HK := hid (show 1 ≤ x.kind ∧ x.kind ≤ 6 by omega)
  obtain ⟨yb, yg, yt, yu, yf, hbr, hbare⟩ := bare_form x HK.out
  have HBR := hid hbr
  have HBP := hid hbare
  have HCN := hid (fun u : World => checkNames_any x u hl)
  by_cases hall : S x.box = yb ∧ x.uid = yu ∧ x.flags = yf ∧ S x.goal = yg ∧ S x.text = yt
  · have HBARE := hid (hbare hall)
    obtain ⟨rfl, rfl, rfl, rfl, rfl⟩ := hall
    clear hW1 hX hbr hbare HBP
    go_enter Tryd.func28, Tryd.ntmps28
    go_wp2
    rw [← HWE.out]
    go_cut [1, 2, 12] (fun a b c wx => a = .pointer (some ⟨w.heap.size, 0, none⟩) ∧ c = .bool false ∧ Below W1.heap.size W1 wx)
    case first =>
      go_region_held3 (fun w' => w'.cell? ⟨w.heap.size, 0, none⟩ = some (.int .i64 x.kind) ∧ w'.cell? ⟨w.heap.size, 1, none⟩ = some (.string (S x.box)) ∧ w'.cell? ⟨w.heap.size, 2, none⟩ = some (.int .i64 x.uid) ∧ w'.cell? ⟨w.heap.size, 3, none⟩ = some (.int .i64 x.flags) ∧ w'.cell? ⟨w.heap.size, 4, none⟩ = some (.string (S x.goal)) ∧ w'.cell? ⟨w.heap.size, 5, none⟩ = some (.string (S x.text))) (go_keep)
        (first
          | (go_at_call 41
             with_reducible refine (HBR.out W1.drew).mono ?_
             rintro e w2 ⟨rfl, hb⟩
             have hb2 : Below W1.heap.size W1 w2 := (Below.refl _ _).drew.trans hb
             have HB2 := hid hb2
             have z0 := wcell_next x0 hb2
             have z1 := wcell_next x1 hb2
             have z2 := wcell_next x2 hb2
             have z3 := wcell_next x3 hb2
             have z4 := wcell_next x4 hb2
             have z5 := wcell_next x5 hb2
             clear hb hb2)
          | fail)
      all_goals
        go_wp2_with fail
        go_meet
        exact ⟨rfl, by first | rfl | simp, HB2.out⟩
    case rest =>
      obtain ⟨rfl, rfl, hb⟩ := hcut
      have z2 := wcell_next x2 hb
      have z3 := wcell_next x3 hb
      have z5 := wcell_next x5 hb
      have hX3 := (hb.block w.heap.size (World.block_lt_of_cell? _ _ x0)).trans HX.out
      obtain ⟨z0, _, _, _, z4, _⟩ := box6 hX3
      have z1 := wcell_next x1 hb
      have HB2 := hid (HB1.out.trans (hb.mono HB1.out.size))
      clear hb hX3 HBR
      by_cases hf : 0 ≤ x.flags ∧ x.flags ≤ 31
      · have HFL := hid (show (decide (0 ≤ x.flags) && decide (x.flags ≤ 31)) = true by simp [hf.1, hf.2])
        have HFF := hid hf
        clear hf
        by_cases u1 : x.uid < 0
        · go_wp2_with fail
          refine (areFlags_any x.flags wc).mono ?_
          rintro e u ⟨rfl, hu⟩
          have hu' := hu.symm
          subst hu'
          rw [HFL.out]
          clear hu
          go_wp2
          go_ret
          exact ⟨⟨6, rfl, fun h => by cases h⟩, HB2.out⟩
        · by_cases u2 : 1048576 < x.uid
          · go_wp2_with fail
            refine (areFlags_any x.flags wc).mono ?_
            rintro e u ⟨rfl, hu⟩
            have hu' := hu.symm
            subst hu'
            rw [HFL.out]
            clear hu
            go_wp2
            go_ret
            exact ⟨⟨6, rfl, fun h => by cases h⟩, HB2.out⟩
          · have HUI := hid (show 0 ≤ x.uid ∧ x.uid ≤ 1048576 by omega)
            by_cases t1 : (2000 : Int) < ((S x.text).size : Int)
            · go_wp2_with fail
              refine (areFlags_any x.flags wc).mono ?_
              rintro e u ⟨rfl, hu⟩
              have hu' := hu.symm
              subst hu'
              rw [HFL.out]
              clear hu
              go_wp2
              go_ret
              exact ⟨⟨1, rfl, fun h => by cases h⟩, HB2.out⟩
            · have HTX := hid (show x.text.length ≤ 2000 by rw [size_S] at t1; omega)
              go_wp2_with fail
              refine (areFlags_any x.flags wc).mono ?_
              rintro e u ⟨rfl, hu⟩
              have hu' := hu.symm
              subst hu'
              rw [HFL.out]
              clear hu
              go_wp2_with fail
              refine (HCN.out wc).mono ?_
              rintro e w3 ⟨⟨er, rfl, he⟩, hb3⟩
              have HB3 := hid (HB2.out.trans (hb3.mono HB2.out.size))
              have HE := hid (show er = 0 → Formed x from fun h => ⟨HK.out, HBARE.out, HFF.out, HUI.out, HTX.out, (he h).1, (he h).2.1, (he h).2.2⟩)
              clear hb3 he
              go_wp2
              go_ret
              exact ⟨⟨er, rfl, HE.out⟩, HB3.out⟩
      · have HFL := hid (show (decide (0 ≤ x.flags) && decide (x.flags ≤ 31)) = false by
          by_cases h : 0 ≤ x.flags
          · have : ¬ x.flags ≤ 31 := fun h2 => hf ⟨h, h2⟩
            simp [this]
          · simp [h])
        clear hf
        go_wp2_with fail
        refine (areFlags_any x.flags wc).mono ?_
        rintro e u ⟨rfl, hu⟩
        have hu' := hu.symm
        subst hu'
        rw [HFL.out]
        clear hu
        go_wp2
        go_ret
        exact ⟨⟨6, rfl, fun h => by cases h⟩, HB2.out⟩
  · have hne := fun v : World => ent_neq x.kind x.uid x.flags yu yf (S x.box) (S x.goal) (S x.text) yb yg yt hall v
    clear hW1 hX hbr hbare hall
    go_enter Tryd.func28, Tryd.ntmps28
    go_wp2
    rw [← HWE.out]
    go_cut [1, 2, 12] (fun a b c wx => a = .pointer (some ⟨w.heap.size, 0, none⟩) ∧ c = .bool true ∧ Below W1.heap.size W1 wx)
    case first =>
      go_region_held3 (fun w' => w'.cell? ⟨w.heap.size, 0, none⟩ = some (.int .i64 x.kind) ∧ w'.cell? ⟨w.heap.size, 1, none⟩ = some (.string (S x.box)) ∧ w'.cell? ⟨w.heap.size, 2, none⟩ = some (.int .i64 x.uid) ∧ w'.cell? ⟨w.heap.size, 3, none⟩ = some (.int .i64 x.flags) ∧ w'.cell? ⟨w.heap.size, 4, none⟩ = some (.string (S x.goal)) ∧ w'.cell? ⟨w.heap.size, 5, none⟩ = some (.string (S x.text))) (go_keep)
        (first
          | (go_at_call 41
             with_reducible refine (HBR.out W1.drew).mono ?_
             rintro e w2 ⟨rfl, hb⟩
             have hb2 : Below W1.heap.size W1 w2 := (Below.refl _ _).drew.trans hb
             have HB2 := hid hb2
             have z0 := wcell_next x0 hb2
             have z1 := wcell_next x1 hb2
             have z2 := wcell_next x2 hb2
             have z3 := wcell_next x3 hb2
             have z4 := wcell_next x4 hb2
             have z5 := wcell_next x5 hb2
             clear hb hb2)
          | fail)
      all_goals
        go_wp2_with fail
        go_meet
        exact ⟨rfl, by first | rfl | simp, HB2.out⟩
    case rest =>
      obtain ⟨rfl, rfl, hb⟩ := hcut
      have HB2 := hid (HB1.out.trans (hb.mono HB1.out.size))
      clear hb hne
      go_wp2
      go_ret
      exact ⟨⟨3, rfl, fun h => by cases h⟩, HB2.out⟩
end Go.Proofs.YtkkkbggbeihbnaaDoor
