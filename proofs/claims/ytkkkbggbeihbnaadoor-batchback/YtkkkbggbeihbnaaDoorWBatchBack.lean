/-
  A batch is decoded as it was encoded; with a byte more it is none: walked.
-/
import Derived.Test.YtkkkbggbeihbnaaDoorBkLz
namespace Go.Proofs.YtkkkbggbeihbnaaDoor
open Go.RowKit Go.Proofs

theorem u8_wf {a : Int} (h : (Lit.int .u8 a).wf = true) : ∃ c : UInt8, a = (c.toNat : Int) := by
  have h2 : 0 ≤ a ∧ a ≤ 255 := by simpa [Lit.wf, IntKind.min, IntKind.max, IntKind.signed, IntKind.bits] using h
  refine ⟨UInt8.ofNat a.toNat, ?_⟩
  have h3 : a.toNat < 256 := by omega
  rw [UInt8.toNat_ofNat', Nat.mod_eq_of_lt (by simpa using h3)]
  omega
set_option maxHeartbeats 2000000 in
set_option maxRecDepth 100000 in
theorem batchBack_walk (w : World) (_hm : maxLenCell w) (a : Option Addr) (c : Nat) (ls : List Chr) (hF : ChsM (fun _ => True) w (.slice a ls.length c) ls) (hB : ∀ x ∈ ls, chrW x) (user : Int) (hu : (Lit.int .i64 user).wf = true) (tail : Int) (ht : (Lit.int .u8 tail).wf = true) :
    Calls Tryd.prog 4 #[.slice a ls.length c, .int .i64 user, .int .u8 tail] w fun e w' => e = .returned (.bool true) ∧ Below w.heap.size w w' := by
  obtain ⟨tb, rfl⟩ := u8_wf ht
  obtain ⟨i0, hi, hz0, hz1, hz2⟩ := binfo_parts infoBy
  have HBO := hid (batchOf_any ls a c user w _ hF hB hu)
  have HOK := hid (batP_ok ls user)
  generalize batP ls user = b at *
  obtain ⟨X, hX⟩ : ∃ X, X = batB b := ⟨_, rfl⟩
  have HX := hid hX
  have hXl : X.length ≤ 21232 := by rw [hX]; exact HOK.out.len
  clear hF hB hu ht hX
  go_enter Tryd.func4, Tryd.ntmps4
  go_wp2_with fail
  refine HBO.out.mono ?_
  rintro e w1 ⟨a1, c1, rfl, hE1, hb1⟩
  obtain ⟨W2, hW2⟩ : ∃ W2, W2 = w1.alloc (.cells #[.int .i64 b.user, .slice a1 b.ents.length c1] 34) := ⟨_, rfl⟩
  have HWE2 := hid hW2
  have hB12 : Below w1.heap.size w1 W2 := by rw [hW2]; exact one_box _ _
  have hp2 : W2.heap[w1.heap.size]? = some (.cells #[.int .i64 b.user, .slice a1 b.ents.length c1] 34) := by rw [hW2]; exact heap_alloc_new w1 _
  have HP2 := hid hp2
  have HB2 := hid (show Below w.heap.size w W2 from hb1.trans (hB12.mono hb1.size))
  have HE2 := hid (hE1.next hB12)
  have HEN := hid (encode_ok b a1 c1 _ W2 HOK.out HE2.out)
  rw [← HX.out] at HEN
  obtain ⟨x0, x1, _, _⟩ := bk_box2 hp2
  clear hW2 hB12 hp2 hE1 hb1 HBO
  go_upto_region 2 with fail
  rw [← HWE2.out]
  go_wp2_with fail
  refine HEN.out.mono ?_
  rintro e w3 ⟨a3, c3, rfl, hO3, hb3⟩
  have HB3 := hid hb3
  have HX3 := hid (show BysM (fun _ => True) w3 (.slice a3 X.length c3) X from own_by hO3 rfl (by unfold maxLen; omega) fun _ _ => trivial)
  have HDC := hid (show Calls Tryd.prog 16 #[.slice a3 X.length c3] w3 (DcP w3 b 0) by
    have h := HX3.out
    rw [HX.out] at h ⊢
    exact dec_ok b HOK.out a3 c3 _ w3 h)
  clear hO3 hb3 HEN
  go_wp2_with fail
  refine HDC.out.mono ?_
  rintro e w4 ⟨a4, c4, rfl, hE4, hb4⟩
  obtain ⟨W5, hW5⟩ : ∃ W5, W5 = w4.alloc (.cells #[.int .i64 b.user, .slice a4 b.ents.length c4] 34) := ⟨_, rfl⟩
  have HWE5 := hid hW5
  have hB45 : Below w4.heap.size w4 W5 := by rw [hW5]; exact one_box _ _
  have hp5 : W5.heap[w4.heap.size]? = some (.cells #[.int .i64 b.user, .slice a4 b.ents.length c4] 34) := by rw [hW5]; exact heap_alloc_new w4 _
  have HP5 := hid hp5
  have HB35 := hid (show Below w3.heap.size w3 W5 from hb4.trans (hB45.mono hb4.size))
  have HX5 := hid (HX3.out.next HB35.out)
  have HE5 := hid (hE4.next hB45)
  clear hW5 hB45 hp5 hE4 hb4 HDC
  go_upto_region 4 with fail
  rw [← HWE5.out]
  go_wp2_with (at_builtin; refine wpList_app_by rfl _ _ rfl rfl (World.ownsRow_nil W5 W5.heap.size _ _) rfl HX5.out ?qc1 ?qc2 (Nat.le_refl _) ?_)
  case qc1 => unfold maxLen; omega
  case qc2 => omega
  intro a6 c6 w6 hown6 hgrow6 hrow6
  have hb6 : Below W5.heap.size W5 w6 := (Below.refl _ _).grown hgrow6 (Nat.le_refl _) (by intro k hk; cases hk)
  have HB6 := hid hb6
  have HO6 := hid (show w6.ownsRow W5.heap.size 5 1 (.slice a6 (X.length) c6) (X.length) (byC X) from hown6)
  have hz6 := hb6.size
  clear hown6 hgrow6 hrow6 hb6
  go_wp2_with (at_builtin; refine wpList_append_lies _ rfl _ _ 39 rfl W5.heap.size 5 i0 _ 1 1 Tryd.underlying39 hi hz0 hz1 hz2 rfl (by decide) (.slice a6 (X.length) c6) (X.length) (byC X) rfl (World.ownsRow.alloc HO6.out _) ⟨w6.heap.size, 0, none⟩ 1 1 [.int .u8 tb.toNat] rfl rfl (bk_one_new w6 _ rfl _ _) ?c1 (by omega) ?c2 ?c3 ?c4 _ rfl ?_)
  case c1 => simp [Value.oneCell']
  case c2 => unfold maxLen; omega
  case c3 => omega
  case c4 => first | omega | (simp; omega)
  intro g7 c7 w7 hown7 hgrow7 hat7 hlt7
  have hb7 : Below W5.heap.size W5 w7 := (HB6.out.alloc hz6 _).grown hgrow7 (by simp; omega) (fun j hj => (World.ownsRow.lt HO6.out j hj).1)
  have HB7 := hid hb7
  have HX7 := hid (show BysM (fun _ => True) w7 (.slice (some ⟨g7, 0, none⟩) (X.length + 1) c7) (X ++ [tb]) from own_by (l := X ++ [tb]) (by rw [byC_app]; exact hown7) (by simp) (by unfold maxLen; omega) fun _ _ => trivial)
  have HD7 := hid (show Calls Tryd.prog 16 #[.slice (some ⟨g7, 0, none⟩) (X.length + 1) c7] w7 (DcP w7 ⟨0, []⟩ 3) by
    have h := HX7.out
    have el : X.length + 1 = (X ++ [tb]).length := by simp
    rw [el] at h ⊢
    have er := batR_app HOK.out.fit [tb] false
    rw [← HX.out] at er
    exact dec_form _ _ _ _ w7 h (by simp; omega) (by rw [er]) (by rw [er]; simp))
  have hz7 := hb7.size
  clear hown7 hgrow7 hat7 hb7
  go_wp2_with fail
  refine HD7.out.mono ?_
  rintro e w8 ⟨a8, c8, rfl, _, hb8⟩
  simp only [List.length_nil]
  obtain ⟨W9, hW9⟩ : ∃ W9, W9 = w8.alloc (.cells #[.int .i64 0, .slice a8 0 c8] 34) := ⟨_, rfl⟩
  have HWE9 := hid hW9
  have hB89 : Below w8.heap.size w8 W9 := by rw [hW9]; exact one_box _ _
  have HB59 := hid (show Below W5.heap.size W5 W9 from HB7.out.trans ((hb8.trans (hB89.mono hb8.size)).mono HB7.out.size))
  have HB29 := hid (show Below W2.heap.size W2 W9 from HB3.out.trans ((HB35.out.trans (HB59.out.mono HB35.out.size)).mono HB3.out.size))
  obtain ⟨r0, r1, _, _⟩ := bk_box2 (bk_low HB29.out HP2.out)
  obtain ⟨s0, s1, _, _⟩ := bk_box2 (bk_low HB59.out HP5.out)
  have HSB := hid (sameBatch_any b a1 a4 c1 c4 _ _ W9 (HE2.out.next HB29.out) (HE5.out.next HB59.out))
  clear hW9 hB89 hb8 HD7
  go_upto_region 5 with fail
  rw [← HWE9.out]
  go_wp2_with fail
  refine HSB.out.mono ?_
  rintro e w10 ⟨rfl, hb10⟩
  have HB210 := hid (show Below W2.heap.size W2 w10 from HB29.out.trans (hb10.mono HB29.out.size))
  obtain ⟨t0, t1, _, _⟩ := bk_box2 (bk_low HB210.out HP2.out)
  have HCK := hid (bcheck_ok b a1 c1 _ w10 HOK.out (HE2.out.next HB210.out))
  clear hb10
  go_wp2_with fail
  refine HCK.out.mono ?_
  rintro e w11 ⟨rfl, hb11⟩
  have HE := hid (show Below w.heap.size w w11 from HB2.out.trans ((HB210.out.trans (hb11.mono HB210.out.size)).mono HB2.out.size))
  clear hb11
  go_wp2
  go_ret
  exact ⟨by first | rfl | simp, HE.out⟩
end Go.Proofs.YtkkkbggbeihbnaaDoor
