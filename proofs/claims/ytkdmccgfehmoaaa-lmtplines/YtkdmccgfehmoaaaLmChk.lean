/-
  What lmtp.Check does: the walks.
-/
import Derived.Test.YtkdmccgfehmoaaaLmCon
import Derived.Test.YtkdmccgfehmoaaaWhoChk
import Derived.Deep.DeepCutAuto
namespace Go.Proofs.Ytkdmccgfehmoaaa
open Go.RowKit Go.Proofs

/-- A session as a value, its list To being v. -/
def sesV (s : Ses) (v : Value) : Value := .agg #[.int .i64 s.step, .string (S s.frm.1), .string (S s.frm.2), v, .string (S s.text), .bool s.large]
/-- A slice has room for what it has. -/
def Roomy (v : Value) : Prop := ∀ a n c, v = .slice a n c → n ≤ c
/-- A session's texts are no longer than a text may be. -/
structure Fit (s : Ses) : Prop where
  one : s.frm.1.length ≤ 140737488355328
  two : s.frm.2.length ≤ 140737488355328
  txt : s.text.length ≤ 140737488355328
  lo : -9223372036854775808 ≤ s.step
  hi : s.step < 9223372036854775808
  tos : ∀ x ∈ s.to, x.1.length ≤ 140737488355328 ∧ x.2.length ≤ 140737488355328

theorem S_nil : S [] = ⟨#[]⟩ := rfl
theorem lm_isnil2 (a : List UInt8) : (S a).toList.isEmpty = a.isEmpty := by rw [Lib.toList_data, list_S]
set_option maxHeartbeats 2000000 in
set_option maxRecDepth 100000 in
theorem adr_nil (x : Adr) (w : World) : (binOp .eql 23 (.agg #[.string (S x.1), .string (S x.2)]) (.agg #[.string ⟨#[]⟩, .string ⟨#[]⟩])).run Try.prog w = .ok (.bool (x.1.isEmpty && x.2.isEmpty)) w := by
  have h := adr_eql x ([], []) w
  have e : decide (x = ([], [])) = (x.1.isEmpty && x.2.isEmpty) := by
    obtain ⟨a, b⟩ := x
    cases a <;> cases b <;> simp
  rw [e] at h
  exact h
set_option maxHeartbeats 1000000 in
set_option maxRecDepth 100000 in
theorem sender_any (s : Ses) (v : Value) (w : World) (hf : Fit s) :
    Calls Try.prog 22 #[sesV s v] w fun e w' => e = .returned (.bool (senderS s)) ∧ Below w.heap.size w w' := by
  have HB1 := hid (show Below w.heap.size w (w.alloc (.cells #[.int .i64 s.step, .string (S s.frm.1), .string (S s.frm.2), v, .string (S s.text), .bool s.large] 26)) from (Below.refl _ _).alloc (Nat.le_refl _) _)
  have HC := hid (check_any (S s.frm.1) (S s.frm.2) (w.alloc (.cells #[.int .i64 s.step, .string (S s.frm.1), .string (S s.frm.2), v, .string (S s.text), .bool s.large] 26)) (by rw [size_S]; exact hf.one) (by rw [size_S]; exact hf.two))
  have HN := hid (adr_nil s.frm)
  obtain ⟨k, hk⟩ : ∃ k, k = s.step := ⟨_, rfl⟩
  unfold sesV
  rw [← hk] at HB1 HC ⊢
  by_cases h : s.step < 2 ∨ 4 < s.step
  · have HS := hid (show senderS s = (s.frm.1.isEmpty && s.frm.2.isEmpty) by unfold senderS; rw [if_pos h])
    have eq1 := HN.out
    rw [← hk] at h
    clear hk
    by_cases h2 : k < 2
    · clear h
      go_enter Try.func22, Try.ntmps22
      go_wp2
      go_ret
      exact ⟨ret_bool HS.out.symm, HB1.out⟩
    · have h4 : 4 < k := by omega
      clear h
      go_enter Try.func22, Try.ntmps22
      go_wp2
      go_ret
      exact ⟨ret_bool HS.out.symm, HB1.out⟩
  · have HS := hid (show senderS s = adrOk s.frm by unfold senderS; rw [if_neg h])
    rw [← hk] at h
    have h2 : ¬ k < 2 := by omega
    have h4 : ¬ 4 < k := by omega
    clear h hk
    go_enter Try.func22, Try.ntmps22
    go_wp2_with fail
    refine HC.out.mono ?_
    rintro e u ⟨rfl, hb⟩
    have HB := hid (wnext HB1.out hb (Nat.le_refl _))
    clear hb
    go_wp2
    go_ret
    exact ⟨ret_bool (by rw [HS.out, adrOk, list_S, list_S]; rfl), HB.out⟩
set_option maxHeartbeats 1000000 in
set_option maxRecDepth 100000 in
theorem text_any (s : Ses) (v : Value) (w : World) :
    Calls Try.prog 24 #[sesV s v] w fun e w' => e = .returned (.bool (textS s)) ∧ Below w.heap.size w w' := by
  have HB1 := hid (show Below w.heap.size w (w.alloc (.cells #[.int .i64 s.step, .string (S s.frm.1), .string (S s.frm.2), v, .string (S s.text), .bool s.large] 26)) from (Below.refl _ _).alloc (Nat.le_refl _) _)
  obtain ⟨k, hk⟩ : ∃ k, k = s.step := ⟨_, rfl⟩
  obtain ⟨g, hg⟩ : ∃ g, g = s.large := ⟨_, rfl⟩
  unfold sesV
  rw [← hk, ← hg] at HB1 ⊢
  have HZ := hid (size_S s.text)
  by_cases h : s.step = 4
  · have HS := hid (show textS s = decide (s.text.length ≤ 2000) by unfold textS; rw [if_pos h])
    rw [← hk] at h
    subst h
    clear hk hg
    go_enter Try.func24, Try.ntmps24
    go_wp2
    go_ret
    exact ⟨ret_bool (by rw [HS.out, HZ.out]; simp; omega), HB1.out⟩
  · have HS := hid (show textS s = (s.text.isEmpty && !g) by unfold textS; rw [if_neg h, hg])
    have hi := lm_isnil2 s.text
    rw [← hk] at h
    clear hk hg
    cases hx : s.text.isEmpty with
    | true =>
      rw [hx] at hi HS
      have hi2 : (S s.text).toList = [] := List.isEmpty_iff.1 hi
      clear hx
      go_enter Try.func24, Try.ntmps24
      go_wp2
      go_ret
      exact ⟨ret_bool (by rw [HS.out]; simp), HB1.out⟩
    | false =>
      rw [hx] at hi HS
      have hi2 : ¬ (S s.text).toList = [] := fun e => by rw [e] at hi; cases hi
      clear hx
      go_enter Try.func24, Try.ntmps24
      go_wp2
      go_ret
      exact ⟨ret_bool (by rw [HS.out]; simp), HB1.out⟩
theorem ses_box {w : World} {b : Nat} {v0 v1 v2 v3 v4 v5 : Value} {t : TypeId} (h : w.heap[b]? = some (.cells #[v0, v1, v2, v3, v4, v5] t)) :
    w.cell? ⟨b, 0, none⟩ = some v0 ∧ w.cell? ⟨b, 1, none⟩ = some v1 ∧ w.cell? ⟨b, 2, none⟩ = some v2 ∧ w.cell? ⟨b, 3, none⟩ = some v3 ∧ w.cell? ⟨b, 4, none⟩ = some v4 ∧ w.cell? ⟨b, 5, none⟩ = some v5 := by
  simp [World.cell?, h]
theorem adr_box {w : World} {b : Nat} {v0 v1 : Value} {t : TypeId} (h : w.heap[b]? = some (.cells #[v0, v1] t)) : w.cell? ⟨b, 0, none⟩ = some v0 ∧ w.cell? ⟨b, 1, none⟩ = some v1 := by
  simp [World.cell?, h]
theorem check_three (l d : List UInt8) : checkA l d = 0 ∨ checkA l d = 1 ∨ checkA l d = 3 := by
  unfold checkA
  split
  · simp
  · split <;> simp
set_option maxHeartbeats 2000000 in
set_option maxRecDepth 100000 in
theorem goals_any (Q : Nat → Prop) (s : Ses) (v : Value) (w : World) (hf : Fit s) (hv : Roomy v) (ha : AdrsM Q w v s.to) :
    Calls Try.prog 23 #[sesV s v] w fun e w' => e = .returned (.bool (goalsS s)) ∧ Below w.heap.size w w' := by
  obtain ⟨a, c, rfl⟩ : ∃ a c, v = .slice a s.to.length c := by obtain ⟨a, c, h, _⟩ := ha; exact ⟨a, c, h⟩
  have hm : s.to.length ≤ maxLen := by obtain ⟨_, _, _, hm, _⟩ := ha; exact hm
  unfold maxLen at hm
  have hcap : s.to.length ≤ c := hv _ _ _ rfl
  clear hv
  obtain ⟨W1, hW1⟩ : ∃ W1, W1 = w.alloc (.cells #[.int .i64 s.step, .string (S s.frm.1), .string (S s.frm.2), .slice a s.to.length c, .string (S s.text), .bool s.large] 26) := ⟨_, rfl⟩
  have HWE := hid hW1
  have hB1 : Below w.heap.size w W1 := by rw [hW1]; exact (Below.refl _ _).alloc (Nat.le_refl _) _
  have HB1 := hid hB1
  have hX : W1.heap[w.heap.size]? = some (.cells #[.int .i64 s.step, .string (S s.frm.1), .string (S s.frm.2), .slice a s.to.length c, .string (S s.text), .bool s.large] 26) := by rw [hW1]; exact heap_alloc_new w _
  obtain ⟨x0, _, _, x3, _, _⟩ := ses_box hX
  have HA := hid (ha.next hB1)
  have HF := hid hf.tos
  clear ha hB1 hW1 hX hf
  unfold sesV
  obtain ⟨k, hk⟩ : ∃ k, k = s.step := ⟨_, rfl⟩
  obtain ⟨r, hr⟩ : ∃ r, r = goalsS s := ⟨_, rfl⟩
  have hr' := hr
  unfold goalsS at hr'
  rw [← hr]
  rw [← hk] at HWE x0 hr' ⊢
  clear hr hk
  by_cases h : k < 3 ∨ 4 < k
  · rw [if_pos h] at hr'
    have HR := hid (show r = decide ((s.to.length : Int) = 0) by rw [hr']; cases s.to <;> simp <;> omega)
    clear hr'
    by_cases h3 : k < 3
    · clear h
      go_enter Try.func23, Try.ntmps23
      go_wp2_with fail
      rw [← HWE.out]
      go_wp2
      go_ret
      exact ⟨ret_bool (by rw [HR.out]; rfl), HB1.out⟩
    · have h4 : 4 < k := by omega
      clear h
      go_enter Try.func23, Try.ntmps23
      go_wp2_with fail
      rw [← HWE.out]
      go_wp2
      go_ret
      exact ⟨ret_bool (by rw [HR.out]; rfl), HB1.out⟩
  · rw [if_neg h] at hr'
    have h3 : ¬ k < 3 := by omega
    have h4 : ¬ 4 < k := by omega
    clear h
    by_cases n1 : (s.to.length : Int) < 1
    · have HR := hid (show r = false by rw [hr']; simp; omega)
      clear hr'
      go_enter Try.func23, Try.ntmps23
      go_wp2_with fail
      rw [← HWE.out]
      go_wp2
      go_ret
      exact ⟨ret_bool HR.out.symm, HB1.out⟩
    by_cases n5 : 5 < (s.to.length : Int)
    · have HR := hid (show r = false by rw [hr']; simp; omega)
      clear hr'
      go_enter Try.func23, Try.ntmps23
      go_wp2_with fail
      rw [← HWE.out]
      go_wp2
      go_ret
      exact ⟨ret_bool HR.out.symm, HB1.out⟩
    have HR := hid (show r = diffA (s.to.take 0) (s.to.drop 0) by
      rw [hr', show decide (1 ≤ s.to.length) = true by simp; omega, show decide (s.to.length ≤ 5) = true by simp; omega]; rfl)
    clear hr'
    go_enter Try.func23, Try.ntmps23
    go_wp2_with fail
    rw [← HWE.out]
    go_wp2
    go_loopw [30] (fun v wr => ∃ i : Nat, i ≤ s.to.length ∧ v = .int .i64 i ∧ Hid (Below W1.heap.size W1 wr) ∧ Hid (r = diffA (s.to.take i) (s.to.drop i))) (fun v _ => s.to.length - (intOf v).toNat)
    case atStart => exact ⟨0, Nat.zero_le _, rfl, Below.refl _ _, HR⟩
    case round =>
      obtain ⟨i, hi, rfl, HB, HI⟩ := hrel
      have y3 := wcell_next x3 HB.out
      by_cases hlt : i < s.to.length
      · have i1 : (i : Int) < (s.to.length : Int) := by omega
        have i0 : (0 : Int) ≤ (i : Int) := by omega
        obtain ⟨x, hx⟩ : ∃ x, s.to[i]? = some x := ⟨_, List.getElem?_eq_getElem hlt⟩
        have hAR := HA.out.next HB.out
        have i2 : (i : Int) ≤ (c : Int) := by omega
        obtain ⟨p, o, rfl, _, _, e0, e1⟩ := adr_get hAR hx
        obtain ⟨W2, hW2⟩ : ∃ W2, W2 = wr.alloc (.cells #[.string (S x.1), .string (S x.2)] 23) := ⟨_, rfl⟩
        have HWE2 := hid hW2
        have hB2 : Below wr.heap.size wr W2 := by rw [hW2]; exact (Below.refl _ _).alloc (Nat.le_refl _) _
        obtain ⟨m0, m1⟩ := adr_box (show W2.heap[wr.heap.size]? = some (.cells #[.string (S x.1), .string (S x.2)] 23) by rw [hW2]; exact heap_alloc_new wr _)
        have z3 := wcell_next y3 hB2
        have hfx := HF.out x (List.mem_of_getElem? hx)
        have HDS := hid (diffA_step hx)
        have HCK := hid (fun u => check_any (S x.1) (S x.2) u (by rw [size_S]; exact hfx.1) (by rw [size_S]; exact hfx.2))
        have hlen : (s.to.take i).length = i := by rw [List.length_take]; omega
        have HCN := hid (fun u (hu : Below W2.heap.size W2 u) => by
          have := containsA_any Q (s.to.take i) x (some ⟨p, o, none⟩) c u (by rw [hlen]; exact RowM.takeR ((hAR.next hB2).next hu) i c (by omega))
          rw [hlen] at this
          exact this)
        have HB3 := hid (show Below W1.heap.size W1 W2 from HB.out.trans (hB2.mono HB.out.size))
        have HAD := hid (show adrOk x = decide (checkA (S x.1).data.toList (S x.2).data.toList = 0) by rw [list_S, list_S]; rfl)
        obtain ⟨z, hz⟩ : ∃ z, z = checkA (S x.1).data.toList (S x.2).data.toList := ⟨_, rfl⟩
        have HZ3 := hid (check_three (S x.1).data.toList (S x.2).data.toList)
        rw [← hz] at HCK HAD HZ3
        clear hW2 hB2 hAR hlen hx hfx hz
        go_wp2
        rw [← HWE2.out]
        by_cases hz : z = 0
        · subst hz
          have HOK := hid (show adrOk x = true by rw [HAD.out]; rfl)
          obtain ⟨q, hq⟩ : ∃ q, q = (s.to.take i).contains x := ⟨_, rfl⟩
          rw [← hq] at HCN HDS
          clear hq
          go_cut [45] (fun c wx => c = .bool q ∧ Below W2.heap.size W2 wx)
          case first =>
            go_region_held3 (fun w' => w'.cell? ⟨wr.heap.size, 0, none⟩ = some (.string (S x.1)) ∧ w'.cell? ⟨wr.heap.size, 1, none⟩ = some (.string (S x.2)) ∧ w'.cell? ⟨w.heap.size, 3, none⟩ = some (.slice (some ⟨p, o, none⟩) s.to.length c)) (go_keep)
              (first
                | (go_at_call 39
                   with_reducible refine (HCN.out _ HB4.out).mono ?_
                   rintro e w4 ⟨rfl, hb⟩
                   have HB5 := hid (HB4.out.trans (hb.mono HB4.out.size))
                   have q0 := wcell_next k0 hb
                   have q1 := wcell_next k1 hb
                   have q3 := wcell_next k3 hb
                   clear hb)
                | (go_at_call 38
                   with_reducible refine (HCK.out W2.drew).mono ?_
                   rintro e w3 ⟨rfl, hb⟩
                   have hb2 : Below W2.heap.size W2 w3 := (Below.refl _ _).drew.trans hb
                   have HB4 := hid hb2
                   have k0 := wcell_next m0 hb2
                   have k1 := wcell_next m1 hb2
                   have k3 := wcell_next z3 hb2
                   clear hb hb2)
                | fail)
            all_goals
              go_wp2_with fail
              go_meet
              exact ⟨by first | rfl | simp, HB5.out⟩
          case rest =>
            obtain ⟨rfl, hb⟩ := hcut
            have HB6 := hid (show Below W1.heap.size W1 wc from HB3.out.trans (hb.mono HB3.out.size))
            have HB7 := hid (HB1.out.trans (HB6.out.mono HB1.out.size))
            clear hb
            cases q with
            | true =>
              have HE := hid (show r = false by rw [HI.out, HDS.out, HOK.out]; rfl)
              go_wp2
              go_ret
              exact ⟨ret_bool HE.out.symm, HB7.out⟩
            | false =>
              have HE := hid (show r = diffA (s.to.take (i + 1)) (s.to.drop (i + 1)) by rw [HI.out, HDS.out, HOK.out]; rfl)
              go_wp2
              go_roundw
              case rel => first | exact ⟨i + 1, by omega, by go_num, HB6, HE⟩ | ((repeat apply Exists.intro); exact ⟨⟨i + 1, by omega, by go_num, HB6, HE⟩, rfl⟩) | (refine ⟨trivial, ?_⟩; (repeat apply Exists.intro); exact ⟨⟨i + 1, by omega, by go_num, HB6, HE⟩, rfl⟩)
              case measure => simp [intOf]; omega
        · have HE := hid (show r = false by rw [HI.out, HDS.out, HAD.out]; simp [hz])
          have hz3 : z = 1 ∨ z = 3 := by
            rcases HZ3.out with h | h | h
            · exact absurd h hz
            · exact .inl h
            · exact .inr h
          clear hz
          have HFin := hid (show ∀ u, Below W2.drew.heap.size W2.drew u → Below w.heap.size w u from fun u hu => by
            have h1 : Below W2.heap.size W2 u := ((Below.refl _ _).drew).trans hu
            have h2 : Below W1.heap.size W1 u := HB3.out.trans (h1.mono HB3.out.size)
            exact HB1.out.trans (h2.mono HB1.out.size))
          rcases hz3 with rfl | rfl
          all_goals
            first
              | go_region_law
                  (first
                    | (go_simp
                       go_at_call 38
                       refine (HCK.out _).mono ?_
                       rintro e w3 ⟨rfl, hb⟩
                       have HB4 := hid (HFin.out w3 hb)
                       clear hb)
                    | fail)
              | fail
            all_goals
              go_wp2
              go_ret
              exact ⟨ret_bool HE.out.symm, HB4.out⟩
      · have i1 : ¬ (i : Int) < (s.to.length : Int) := by omega
        have HE := hid (show r = true by rw [HI.out, List.drop_eq_nil_of_le (by omega)]; rfl)
        have HB7 := hid (HB1.out.trans (HB.out.mono HB1.out.size))
        go_wp2
        go_ret
        exact ⟨ret_bool HE.out.symm, HB7.out⟩
set_option maxHeartbeats 2000000 in
set_option maxRecDepth 100000 in
theorem smay_any (Q : Nat → Prop) (s : Ses) (v : Value) (w : World) (hf : Fit s) (hv : Roomy v) (ha : AdrsM Q w v s.to) :
    Calls Try.prog 13 #[sesV s v] w fun e w' => e = .returned (.bool (mayS s)) ∧ Below w.heap.size w w' := by
  obtain ⟨W1, hW1⟩ : ∃ W1, W1 = w.alloc (.cells #[.int .i64 s.step, .string (S s.frm.1), .string (S s.frm.2), v, .string (S s.text), .bool s.large] 26) := ⟨_, rfl⟩
  have HWE := hid hW1
  have hB1 : Below w.heap.size w W1 := by rw [hW1]; exact (Below.refl _ _).alloc (Nat.le_refl _) _
  have HB1 := hid hB1
  have hX : W1.heap[w.heap.size]? = some (.cells #[.int .i64 s.step, .string (S s.frm.1), .string (S s.frm.2), v, .string (S s.text), .bool s.large] 26) := by rw [hW1]; exact heap_alloc_new w _
  have HX := hid hX
  have HS1 := hid (sender_any s v W1 hf)
  have HS2 := hid (fun u (hu : Below W1.heap.size W1 u) => goals_any Q s v u hf hv ((ha.next hB1).next hu))
  have HS3 := hid (fun u => text_any s v u)
  obtain ⟨x0, x1, x2, x3, x4, x5⟩ := ses_box hX
  have HR := hid (show mayS s = (decide (0 ≤ s.step) && decide (s.step ≤ 5) && (senderS s && goalsS s && textS s)) from rfl)
  obtain ⟨r, hr⟩ : ∃ r, r = mayS s := ⟨_, rfl⟩
  obtain ⟨p1, hp1⟩ : ∃ p1, p1 = senderS s := ⟨_, rfl⟩
  obtain ⟨p2, hp2⟩ : ∃ p2, p2 = goalsS s := ⟨_, rfl⟩
  obtain ⟨p3, hp3⟩ : ∃ p3, p3 = textS s := ⟨_, rfl⟩
  rw [← hr] at HR ⊢
  rw [← hp1] at HR HS1
  rw [← hp2] at HR HS2
  rw [← hp3] at HR HS3
  clear hr hp1 hp2 hp3 ha hB1 hW1 hX hf hv
  unfold sesV at HS1 HS2 HS3 ⊢
  obtain ⟨k, hk⟩ : ∃ k, k = s.step := ⟨_, rfl⟩
  rw [← hk] at HWE HX HS1 HS2 HS3 HR x0 ⊢
  clear hk
  by_cases h0 : k < 0
  · have HE := hid (show r = false by rw [HR.out, show decide (0 ≤ k) = false by simp; omega]; rfl)
    go_enter Try.func13, Try.ntmps13
    go_wp2_with fail
    rw [← HWE.out]
    go_wp2
    go_ret
    exact ⟨ret_bool HE.out.symm, HB1.out⟩
  by_cases h5 : 5 < k
  · have HE := hid (show r = false by rw [HR.out, show decide (k ≤ 5) = false by simp; omega]; simp)
    go_enter Try.func13, Try.ntmps13
    go_wp2_with fail
    rw [← HWE.out]
    go_wp2
    go_ret
    exact ⟨ret_bool HE.out.symm, HB1.out⟩
  have HE := hid (show r = (p1 && p2 && p3) by rw [HR.out, show decide (0 ≤ k) = true by simp; omega, show decide (k ≤ 5) = true by simp; omega]; rfl)
  clear HR
  go_enter Try.func13, Try.ntmps13
  go_wp2_with fail
  rw [← HWE.out]
  go_wp2_with fail
  refine HS1.out.mono ?_
  rintro e w2 ⟨rfl, hb2⟩
  have y0 := wcell_next x0 hb2
  have y1 := wcell_next x1 hb2
  have y2 := wcell_next x2 hb2
  have y3 := wcell_next x3 hb2
  have y4 := wcell_next x4 hb2
  have y5 := wcell_next x5 hb2
  have HB2 := hid (HB1.out.trans (hb2.mono HB1.out.size))
  have HC2 := hid (HS2.out w2 hb2)
  cases p1 with
  | false =>
    clear hb2
    go_wp2
    go_ret
    exact ⟨ret_bool (by rw [HE.out]; rfl), HB2.out⟩
  | true =>
    have HB12 := hid hb2
    clear hb2
    go_wp2_with fail
    refine HC2.out.mono ?_
    rintro e w3 ⟨rfl, hb3⟩
    have z0 := wcell_next y0 hb3
    have z1 := wcell_next y1 hb3
    have z2 := wcell_next y2 hb3
    have z3 := wcell_next y3 hb3
    have z4 := wcell_next y4 hb3
    have z5 := wcell_next y5 hb3
    have HB3 := hid (HB2.out.trans (hb3.mono HB2.out.size))
    clear hb3
    cases p2 with
    | false =>
      go_wp2
      go_ret
      exact ⟨ret_bool (by rw [HE.out]; rfl), HB3.out⟩
    | true =>
      go_wp2_with fail
      refine (HS3.out w3).mono ?_
      rintro e w4 ⟨rfl, hb4⟩
      have HB4 := hid (HB3.out.trans (hb4.mono HB3.out.size))
      clear hb4
      go_wp2
      go_ret
      exact ⟨ret_bool (by rw [HE.out]; rfl), HB4.out⟩
set_option maxHeartbeats 1000000 in
set_option maxRecDepth 100000 in
theorem lmCheck_any (Q : Nat → Prop) (s : Ses) (v : Value) (w : World) (hf : Fit s) (hv : Roomy v) (ha : AdrsM Q w v s.to) :
    Calls Try.prog 5 #[sesV s v] w fun e w' => e = .returned (.int .i64 (if mayS s = true then 0 else 11)) ∧ Below w.heap.size w w' := by
  have HB1 := hid (show Below w.heap.size w (w.alloc (.cells #[.int .i64 s.step, .string (S s.frm.1), .string (S s.frm.2), v, .string (S s.text), .bool s.large] 26)) from (Below.refl _ _).alloc (Nat.le_refl _) _)
  have HM := hid (smay_any Q s v _ hf hv (ha.next HB1.out))
  clear hf hv ha
  obtain ⟨r, hr⟩ : ∃ r, r = mayS s := ⟨_, rfl⟩
  rw [← hr] at HM ⊢
  clear hr
  unfold sesV at HM ⊢
  cases r with
  | true =>
    go_enter Try.func5, Try.ntmps5
    go_wp2_with fail
    refine HM.out.mono ?_
    rintro e w2 ⟨rfl, hb⟩
    have HB := hid (wnext HB1.out hb (Nat.le_refl _))
    clear hb
    go_wp2
    go_ret
    exact ⟨rfl, HB.out⟩
  | false =>
    go_enter Try.func5, Try.ntmps5
    go_wp2_with fail
    refine HM.out.mono ?_
    rintro e w2 ⟨rfl, hb⟩
    have HB := hid (wnext HB1.out hb (Nat.le_refl _))
    clear hb
    go_wp2
    go_ret
    exact ⟨rfl, HB.out⟩
end Go.Proofs.Ytkdmccgfehmoaaa
