/-
  No batch has two forms: walked.
-/
import Derived.Test.YtkkkbggbeihbnaaDoorBkCa
namespace Go.Proofs.YtkkkbggbeihbnaaDoor
open Go.RowKit Go.Proofs

/-- What Decode answers of any bytes: a batch that may be, whose bytes these are, or none and an error. -/
def DcB (w : World) (l : List UInt8) (e : Ending) (w' : World) : Prop := (∃ b, DcP w b 0 e w' ∧ BatOk b ∧ batB b = l) ∨ ∃ er, ¬ er = 0 ∧ DcP w ⟨0, []⟩ er e w'
theorem dec_all (a : Option Addr) (c : Nat) (l : List UInt8) (Q : Nat → Prop) (w : World) (h : BysM Q w (.slice a l.length c) l) : Calls Tryd.prog 16 #[.slice a l.length c] w (DcB w l) := by
  have hm : l.length ≤ maxLen := h.slice.elim fun _ h => h.elim fun _ h => h.2.2
  unfold maxLen at hm
  by_cases hl : l.length ≤ 100000
  · cases hs : (batR (l, false)).2.2 with
    | true => exact (dec_short a c l Q w h hl hs).mono fun e w' h => .inr ⟨4, by decide, h⟩
    | false =>
      by_cases hf : 0 < (batR (l, false)).2.1.length
      · exact (dec_form a c l Q w h hl hs hf).mono fun e w' h => .inr ⟨3, by decide, h⟩
      · have h0 : (batR (l, false)).2.1 = [] := List.length_eq_zero_iff.1 (by omega)
        have h2 : (batR (l, false)).2 = ([], false) := Prod.ext h0 hs
        refine (dec_chk a c l Q w h hl h2).mono fun e w' h => ?_
        rcases h with ⟨h, hb⟩ | h
        · exact .inl ⟨_, h, hb, (batR_inv h2).symm⟩
        · exact .inr h
  · exact (dec_long a c l.length w (by omega) (by omega)).mono fun e w' h => .inr ⟨1, by decide, h⟩
set_option maxHeartbeats 2000000 in
set_option maxRecDepth 100000 in
theorem batchFixed_walk (w : World) (_hm : maxLenCell w) (a : Option Addr) (c : Nat) (l : List UInt8) (h : BysM (fun _ => True) w (.slice a l.length c) l) (hl : l.length ≤ 140737488351232) :
    Calls Tryd.prog 5 #[.slice a l.length c] w fun e w' => e = .returned (.bool true) ∧ Below w.heap.size w w' := by
  have hm : l.length ≤ maxLen := h.slice.elim fun _ h => h.elim fun _ h => h.2.2
  have HL := hid h
  clear h
  go_enter Tryd.func5, Tryd.ntmps5
  go_wp2_with (at_builtin; refine wpList_app_by rfl _ _ rfl rfl (World.ownsRow_nil w w.heap.size _ _) rfl HL.out ?qc1 ?qc2 (Nat.le_refl _) ?_)
  case qc1 => omega
  case qc2 => omega
  intro a1 c1 w1 hown1 hgrow1 hrow1
  have hb1 : Below w.heap.size w w1 := (Below.refl _ _).grown hgrow1 (Nat.le_refl _) (by intro k hk; cases hk)
  have HB1 := hid hb1
  have HX1 := hid (show BysM (fun _ => True) w1 (.slice a1 l.length c1) l from own_by (by simpa using hown1) rfl hm fun _ _ => trivial)
  have HDC := hid (dec_all a1 c1 l _ w1 HX1.out)
  clear hown1 hgrow1 hrow1 hb1
  go_wp2_with fail
  refine HDC.out.mono ?_
  intro e w2 hd
  rcases hd with ⟨b, ⟨a2, c2, rfl, hE2, hb2⟩, hok, hbb⟩ | ⟨er, hen, a2, c2, rfl, _, hb2⟩
  · obtain ⟨W3, hW3⟩ : ∃ W3, W3 = w2.alloc (.cells #[.int .i64 b.user, .slice a2 b.ents.length c2] 34) := ⟨_, rfl⟩
    have HWE3 := hid hW3
    have hB23 : Below w2.heap.size w2 W3 := by rw [hW3]; exact (Below.refl _ _).alloc (Nat.le_refl _) _
    have hp3 : W3.heap[w2.heap.size]? = some (.cells #[.int .i64 b.user, .slice a2 b.ents.length c2] 34) := by rw [hW3]; exact heap_alloc_new w2 _
    have HB3 := hid (show Below w.heap.size w W3 from HB1.out.trans ((hb2.trans (hB23.mono hb2.size)).mono HB1.out.size))
    have HEN := hid (encode_ok b a2 c2 _ W3 hok (hE2.next hB23))
    rw [hbb] at HEN
    obtain ⟨x0, x1, _, _⟩ := bk_box2 hp3
    clear hW3 hB23 hp3 hE2 hb2 HDC hok hbb
    go_upto_region 2 with fail
    rw [← HWE3.out]
    go_wp2_with fail
    refine HEN.out.mono ?_
    rintro e w4 ⟨a4, c4, rfl, hO4, hb4⟩
    have t1 := by_text (own_by (Q := fun _ => True) hO4 rfl hm fun _ _ => trivial)
    have HB4 := hid (HB3.out.trans (hb4.mono HB3.out.size))
    have t2 := by_text (HL.out.next HB4.out)
    clear hO4 hb4 HEN
    go_wp2
    go_ret
    exact ⟨by first | rfl | simp, HB4.out⟩
  · have hen' : (er == 0) = false := by rw [beq_eq_false_iff_ne]; exact hen
    have HE := hid (show ∀ o : Obj, Below w.heap.size w (w2.alloc o) from fun o => (HB1.out.trans (hb2.mono HB1.out.size)).alloc (Nat.le_trans HB1.out.size hb2.size) o)
    simp only [List.length_nil]
    clear hb2 HDC
    go_wp2
    go_ret
    exact ⟨by first | rfl | simp, HE.out _⟩
end Go.Proofs.YtkkkbggbeihbnaaDoor
