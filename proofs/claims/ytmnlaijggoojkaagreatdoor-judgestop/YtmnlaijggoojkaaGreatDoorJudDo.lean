/-
  What package judge does with a course, command by command: the walks.
-/
import Derived.Test.YtmnlaijggoojkaaGreatDoorJudCrs
import Derived.Test.YtmnlaijggoojkaaGreatDoorMkCs
namespace Go.Proofs.YtmnlaijggoojkaaGreatDoor
open Go.RowKit Go.Proofs

theorem nil_eq : ∀ (p : Addr) (n c : Nat) (w : World), (binOp BinOp.eql 62 (.slice (some p) n c) (.slice none 0 0)).run Tryz.prog w = .ok (.bool false) w := by intro p n c w; kernel_rfl
theorem nil_eq0 : ∀ (w : World), (binOp BinOp.eql 62 (.slice none 0 0) (.slice none 0 0)).run Tryz.prog w = .ok (.bool true) w := by intro w; kernel_rfl
set_option maxHeartbeats 1000000 in
set_option maxRecDepth 100000 in
theorem clone_any (l : List Atn) (a : Option Addr) (c : Nat) (w : World) (h : AtnsM anyB w (.slice a l.length c) l) (hl : l.length ≤ 6) (hn : a = none → l = [] ∧ c = 0) :
    Calls Tryz.prog 37 #[.slice a l.length c] w fun e w' => ∃ a' c', e = .returned (.slice a' l.length c') ∧ OwnAs w.heap.size w' (.slice a' l.length c') l ∧ Below w.heap.size w w' := by
  have heq := nil_eq
  have heq0 := nil_eq0
  cases a with
  | none =>
    obtain ⟨rfl, rfl⟩ := hn rfl
    go_enter Tryz.func37, Tryz.ntmps37
    go_wp2
    go_ret
    exact ⟨_, _, rfl, OwnRow.nil _ _ _ _ _, Below.refl _ _⟩
  | some p =>
    obtain ⟨W1, hW1⟩ : ∃ W1, W1 = w.alloc (.cells #[] 94) := ⟨_, rfl⟩
    have HWE := hid hW1
    have HB1 := hid (show Below w.heap.size w W1 by rw [hW1]; exact (Below.refl _ _).alloc (Nat.le_refl _) _)
    have hs1 : W1.heap.size = w.heap.size + 1 := by rw [hW1]; simp
    have HO1 := hid (show W1.ownsRow w.heap.size 94 3 (.slice (some ⟨w.heap.size, 0, none⟩) 0 0) 0 [] from ⟨rfl, .inr ⟨w.heap.size, 0, #[], rfl, Nat.le_refl _, by rw [hW1]; exact heap_alloc_new w _, Nat.le_refl _, by unfold maxLen; omega, rfl, rfl⟩⟩)
    have HR1 := hid (AtnsM.next h HB1.out)
    clear h hW1
    by_cases h0 : l = []
    · subst h0
      go_enter Tryz.func37, Tryz.ntmps37
      go_wp2
      have HO2 := hid (show OwnAs w.heap.size W1 (.slice (some ⟨w.heap.size, 0, none⟩) 0 0) [] from ⟨[], HO1.out, rfl, (fun cs h => by cases h), (fun i x cs h => by simp at h)⟩)
      rw [← HWE.out]
      go_ret
      exact ⟨_, _, rfl, HO2.out, HB1.out⟩
    · have hpos : 0 < l.length := List.length_pos_iff.2 h0
      obtain ⟨b, o, rfl⟩ : ∃ b o, p = ⟨b, o, none⟩ := by
        cases l with
        | nil => exact absurd rfl h0
        | cons x r =>
          obtain ⟨b, o, he, _⟩ := atn_at HR1.out (i := 0) rfl
          exact ⟨b, o, Option.some.inj he⟩
      obtain ⟨i0, hi, hz0, hz1, hz2⟩ := info_parts infoAtn
      obtain ⟨css, n1, n2, n3, n4⟩ := row_cells HR1.out l.length (Nat.le_refl _)
      have HN3 := hid n3
      have HN4 := hid (show ∀ (j : Nat) u, css.flatten[j]? = some u → W1.cell? ((⟨b, o, none⟩ : Addr).add j) = some u from fun j u hj => by rw [Addr.add_lit]; exact n4 j u hj)
      have hfl : css.flatten.length = l.length * 3 := by rw [flat_cells n2, n1]
      have HONE := hid (show ∀ u ∈ css.flatten, u.oneCell' = true from fun u hu => by
        obtain ⟨cs, hcs, hu2⟩ := List.mem_flatten.1 hu
        obtain ⟨q, hq, hqe⟩ := List.getElem_of_mem hcs
        have hq2 : css[q]? = some cs := by rw [List.getElem?_eq_getElem hq, hqe]
        have hP : cs = _ := n3 q _ cs (List.getElem?_eq_getElem (by omega)) hq2
        rw [hP] at hu2
        simp at hu2
        rcases hu2 with rfl | rfl | rfl <;> rfl)
      clear n3 n4 h0
      go_enter Tryz.func37, Tryz.ntmps37
      go_wp2_with (at_builtin; refine wpList_append_lies _ rfl _ _ 62 rfl w.heap.size 94 i0 _ 3 32 Tryz.underlying62 hi hz0 hz1 hz2 rfl (by decide) (.slice (some ⟨w.heap.size, 0, none⟩) 0 0) 0 [] rfl ?k1 ⟨b, o, none⟩ l.length c css.flatten rfl hfl ?k2 HONE.out hpos ?k3 ?k4 ?k5 _ rfl ?_)
      case k1 => rw [← HWE.out]; exact HO1.out
      case k2 => rw [← HWE.out]; exact HN4.out
      case k3 => unfold maxLen; omega
      case k4 => omega
      case k5 => rw [← HWE.out]; omega
      rw [← HWE.out]
      intro g cap w3 hown3 hgrow hat hlt3
      have HO3 := hid (show OwnAs w.heap.size w3 (.slice (some ⟨g, 0, none⟩) l.length cap) l from ⟨css, by simpa using hown3, n1, n2, HN3.out⟩)
      have HB3 := hid (show Below w.heap.size w w3 from HB1.out.grown hgrow (by omega) (fun j hj => by have h1 : w.heap.size = j := Option.some.inj hj; omega))
      clear hown3 hgrow hat
      go_wp2
      go_ret
      exact ⟨_, _, rfl, HO3.out, HB3.out⟩

theorem OwnAs.far {B : Nat} {w : World} {v u : Value} {l : List Atn} {p : Addr} (h : OwnAs B w v l) (hp : p.block < B) : OwnAs B (w.setCell p u) v l := by
  obtain ⟨css, h2, h3, h4, h5⟩ := h
  refine ⟨css, h2.kept (row := some p.block) ⟨rfl, rfl, rfl, by simp [World.setCell], fun k _ hn => Below.heap_setCell _ _ _ _ (fun e => hn (by rw [e]))⟩ ?_, h3, h4, h5⟩
  cases hv : v.ownBlock with
  | none => exact .inl rfl
  | some j => exact .inr fun e => by have := (World.ownsRow.lt h2 j hv).1; have := Option.some.inj e; omega
theorem OwnAs.low {B B' : Nat} {w : World} {v : Value} {l : List Atn} (h : OwnAs B w v l) (hB : B' ≤ B) : OwnAs B' w v l := by
  obtain ⟨css, ⟨h1, h2⟩, h3, h4, h5⟩ := h
  refine ⟨css, ⟨h1, ?_⟩, h3, h4, h5⟩
  rcases h2 with h2 | ⟨g, cap, cur, e, hb, r⟩
  · exact .inl h2
  · exact .inr ⟨g, cap, cur, e, Nat.le_trans hB hb, r⟩
/-- A plain course as a value. -/
def crsV (a : Option Addr) (k : Nat) (c : Crs) : Value := .agg #[.slice a c.acts.length k, .int .i64 c.flags, .bool c.asked, .int .i64 c.fault]
set_option maxHeartbeats 1000000 in
set_option maxRecDepth 100000 in
theorem mayBe_any (c : Crs) (a : Option Addr) (k : Nat) (w : World) :
    Calls Tryz.prog 36 #[.agg #[.slice a c.acts.length k, .int .i64 c.flags, .bool c.asked, .int .i64 c.fault]] w fun e w' => e = .returned (.bool (decide (c.acts.length ≤ 6) && (decide (0 ≤ c.flags) && decide (c.flags ≤ 31)))) ∧ Below w.heap.size w w' := by
  have HB := hid (show Below w.heap.size w (w.alloc (.cells #[.slice a c.acts.length k, .int .i64 c.flags, .bool c.asked, .int .i64 c.fault] 64)) from (Below.refl _ _).alloc (Nat.le_refl _) _)
  by_cases h1 : c.acts.length ≤ 6
  · have h1' : (c.acts.length : Int) ≤ 6 := by omega
    by_cases h2 : 0 ≤ c.flags
    · by_cases h3 : c.flags ≤ 31
      all_goals
        have HE := hid (show (decide (c.acts.length ≤ 6) && (decide (0 ≤ c.flags) && decide (c.flags ≤ 31))) = decide (c.flags ≤ 31) by simp [h1, h2])
        rw [HE.out]
        go_enter Tryz.func36, Tryz.ntmps36
        go_wp2
        go_ret
        exact ⟨ret_bool (by simp [h3]), HB.out⟩
    · have HE := hid (show (decide (c.acts.length ≤ 6) && (decide (0 ≤ c.flags) && decide (c.flags ≤ 31))) = false by simp [h2])
      rw [HE.out]
      go_enter Tryz.func36, Tryz.ntmps36
      go_wp2
      go_ret
      exact ⟨ret_bool (by simp), HB.out⟩
  · have h1' : ¬ (c.acts.length : Int) ≤ 6 := by omega
    have HE := hid (show (decide (c.acts.length ≤ 6) && (decide (0 ≤ c.flags) && decide (c.flags ≤ 31))) = false by simp [h1])
    rw [HE.out]
    go_enter Tryz.func36, Tryz.ntmps36
    go_wp2
    go_ret
    exact ⟨ret_bool (by simp), HB.out⟩
end Go.Proofs.YtmnlaijggoojkaaGreatDoor
