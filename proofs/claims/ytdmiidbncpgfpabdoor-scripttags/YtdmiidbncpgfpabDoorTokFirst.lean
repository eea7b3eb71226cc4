/-
  What token.readFirst does: the walk.
-/
import Derived.Test.YtdmiidbncpgfpabDoorTokKind
namespace Go.Proofs.YtdmiidbncpgfpabDoor
open Go.RowKit Go.Proofs

theorem tk_of_number {w u w' : World} {s : List UInt8} {r : Cutting} {e : Ending} (h : Tk u s r e w') (hb : Below w.heap.size w u) : Tk w s r e w' := by
  unfold Tk at h ⊢
  cases r with
  | error x => exact ⟨h.1, hb.trans (h.2.mono hb.size)⟩
  | ok y => exact ⟨h.1, hb.trans (h.2.mono hb.size)⟩
theorem tk_parts {w w' : World} {s : List UInt8} {r : Cutting} {e : Ending} (h : Tk w s r e w') : ∃ (t : Tok) (n x : Int), e = .returned (.tuple #[tokV t, .int .i64 n, .int .i64 x]) ∧ Below w.heap.size w w' := by
  unfold Tk at h
  cases r with
  | error x => exact ⟨_, _, _, h.1, h.2⟩
  | ok y => exact ⟨_, _, _, h.1, h.2⟩
theorem tk_world {w w1 w2 : World} {s : List UInt8} {r : Cutting} {e : Ending} (h : Tk w s r e w1) (hb : Below w.heap.size w w2) : Tk w s r e w2 := by
  unfold Tk at h ⊢
  cases r with
  | error x => exact ⟨h.1, hb⟩
  | ok y => exact ⟨h.1, hb⟩
theorem take_tw (p : UInt8 → Bool) (s : List UInt8) : s.take (s.takeWhile p).length = s.takeWhile p := by
  have := List.takeWhile_append_dropWhile (p := p) (l := s)
  conv => lhs; arg 2; rw [← this]
  rw [List.take_left]

set_option maxHeartbeats 8000000 in
set_option maxRecDepth 100000 in
theorem readFirst_any (c : UInt8) (t : List UInt8) (k : Int) (w : World) (hs : (c :: t).length ≤ 2000) (hk : k = kindM (c :: t)) (hne : kindM (c :: t) ≠ 0) :
    Calls Tryd.prog 18 #[.int .i64 k, .string (S (c :: t))] w (Tk w (c :: t) (tokM (c :: t))) := by
  have hz := S_pos c t
  have hsl : t.length < 2000 := by simp at hs; omega
  have HZ : Hid ((c :: t).length ≤ maxLen) := by unfold Hid maxLen; omega
  have HZ2 : Hid (t.length ≤ maxLen) := by unfold Hid maxLen; simp at hs; omega
  have hz1 : (1 : Int) ≤ ((S (c :: t)).size : Int) := by omega
  have hz2 : (S (c :: t)).size ≤ 2000 := by rw [size_S]; exact hs
  have HX : Hid ((S (c :: t)).extract 1 (S (c :: t)).size = S t) := by unfold Hid; rw [S_drop]; rfl
  have HY : Hid ((S (c :: t)).extract 0 1 = S [c]) := by unfold Hid; rw [S_take]; rfl
  have e0 : kindM (c :: t) = if letterC c then 1 else if c = 58 ∧ (t.head?.map letterC).getD false = true then 2 else if digitC c then 3 else if c = 34 then 4 else if markC c then 5 else 0 := rfl
  have t0 : tokM (c :: t) = if letterC c then .ok ({ kind := 1, text := c :: t.takeWhile wordyC, num := 0 }, t.dropWhile wordyC)
    else if c = 58 ∧ (t.head?.map letterC).getD false = true then .ok ({ kind := 2, text := t.takeWhile wordyC, num := 0 }, t.dropWhile wordyC)
    else if digitC c then numM (c :: t)
    else if c = 34 then strOne t
    else if markC c then .ok ({ kind := 5, text := [c], num := 0 }, t)
    else .error 3 := by unfold strOne; rfl
  obtain ⟨W1, hW1⟩ : ∃ W1, W1 = w.alloc (.cells #[.int .i64 0, .string ⟨#[]⟩, .int .i64 0] 48) := ⟨_, rfl⟩
  have hT0 : TokB W1 w.heap.size zeroT := by rw [hW1]; exact tokB_new w zeroT
  have HE1 : Hid (Below w.heap.size w W1) := by unfold Hid; rw [hW1]; exact (Below.refl _ _).alloc (Nat.le_refl _) _
  have HT0 : Hid (TokB W1 w.heap.size zeroT) := hT0
  have HW : Hid _ := hW1
  have hwz : W1.heap.size = w.heap.size + 1 := by rw [hW1]; simp
  have HWZ : Hid _ := hwz
  have f0 := hT0.free 0
  have f1 := hT0.free 1
  have f2 := hT0.free 2
  have k0 : W1.cell? ⟨w.heap.size, 0, none⟩ = some (.int .i64 0) := hT0.c0
  have k1 : W1.cell? ⟨w.heap.size, 1, none⟩ = some (.string ⟨#[]⟩) := hT0.c1
  have k2 : W1.cell? ⟨w.heap.size, 2, none⟩ = some (.int .i64 0) := hT0.c2
  clear hW1 hT0 hwz
  cases h1 : letterC c with
  | true =>
    rw [h1] at e0 t0
    simp only [if_true] at e0 t0
    rw [e0] at hk
    subst hk
    obtain ⟨n, hn⟩ : ∃ n, n = wlen (c :: t) := ⟨_, rfl⟩
    have hnv : n = 1 + (t.takeWhile wordyC).length := by rw [hn]; exact wlen_letter t h1
    have hll := congrArg List.length (List.takeWhile_append_dropWhile (p := wordyC) (l := t))
    rw [List.length_append] at hll
    have hnl : n ≤ (S (c :: t)).size := by rw [size_S, hnv]; simp; omega
    have hn1 : 1 ≤ n := by omega
    have i1 : (0 : Int) ≤ (n : Int) := by omega
    have i2 : (n : Int) ≤ ((S (c :: t)).size : Int) := by omega
    have HT : Hid (tokM (c :: t) = .ok ({ kind := 1, text := c :: t.takeWhile wordyC, num := 0 }, t.dropWhile wordyC)) := t0
    have HN : Hid _ := hn
    have HX2 : Hid ((S (c :: t)).extract 0 n = S (c :: t.takeWhile wordyC)) := by
      unfold Hid; rw [S_take, hnv, Nat.add_comm, List.take_succ_cons, take_tw]
    have HL : Hid ((c :: t).length - (t.dropWhile wordyC).length = n) := by unfold Hid; rw [hnv]; simp; omega
    clear e0 t0 h1 hne hn hnv hll hs
    go_enter Tryd.func18, Tryd.ntmps18
    go_wp2_with fail
    rw [← HW.out]
    refine (wordLength_any (c :: t) _ HZ.out).mono ?_
    rintro e u ⟨rfl, hu⟩
    have hu' := hu.symm
    subst hu'
    rw [← HN.out]
    go_wp2
    exact bodyPost_ret (v := .tuple #[.agg #[.int .i64 1, .string ((S (c :: t)).extract 0 n), .int .i64 0], .int .i64 n, .int .i64 0]) (by simp [results, Tryd.results18, go_sem, k0, k1, k2]) rfl (by rw [HT.out]; exact ⟨by rw [HX2.out, HL.out]; rfl, by first | exact HE1.out | (repeat (first | exact HE1.out | refine Below.setCell ?_ (by simp) _))⟩)
  | false =>
    rw [h1] at e0 t0
    simp only [Bool.false_eq_true, if_false] at e0 t0
    by_cases h2 : c = 58 ∧ (t.head?.map letterC).getD false = true
    · rw [if_pos h2] at e0 t0
      rw [e0] at hk
      subst hk
      obtain ⟨n, hn⟩ : ∃ n, n = wlen t := ⟨_, rfl⟩
      have hnv : n = (t.takeWhile wordyC).length := by
        rw [hn]
        cases t with
        | nil => rfl
        | cons d v =>
          have hd : letterC d = true := by simpa using h2.2
          rw [wlen_letter v hd, List.takeWhile_cons, if_pos (by unfold wordyC; rw [hd]; rfl)]; simp; omega
      have hll := congrArg List.length (List.takeWhile_append_dropWhile (p := wordyC) (l := t))
      rw [List.length_append] at hll
      have hnl : 1 + n ≤ (S (c :: t)).size := by rw [size_S, hnv]; simp; omega
      have i1 : (1 : Int) ≤ 1 + (n : Int) := by omega
      have i2 : 1 + (n : Int) ≤ ((S (c :: t)).size : Int) := by omega
      have HT : Hid (tokM (c :: t) = .ok ({ kind := 2, text := t.takeWhile wordyC, num := 0 }, t.dropWhile wordyC)) := t0
      have HN : Hid _ := hn
      have HX2 : Hid ((S (c :: t)).extract 1 (1 + n) = S (t.takeWhile wordyC)) := by
        unfold Hid
        rw [Lib.extract_eq, list_S]
        show S ((t.drop 0).take (1 + n - 1)) = _
        rw [Nat.add_sub_cancel_left, hnv]
        show S (t.take _) = _
        rw [take_tw]
      have HL : Hid ((c :: t).length - (t.dropWhile wordyC).length = 1 + n) := by unfold Hid; rw [hnv]; simp; omega
      have hn2 : n ≤ 2000 := by omega
      clear e0 t0 h1 h2 hne hn hnv hll hs
      go_enter Tryd.func18, Tryd.ntmps18
      go_wp2_with fail
      rw [← HW.out, HX.out]
      refine (wordLength_any t _ HZ2.out).mono ?_
      rintro e u ⟨rfl, hu⟩
      have hu' := hu.symm
      subst hu'
      rw [← HN.out]
      go_wp2
      exact bodyPost_ret (v := .tuple #[.agg #[.int .i64 2, .string ((S (c :: t)).extract 1 (1 + n)), .int .i64 0], .int .i64 (1 + (n : Int)), .int .i64 0]) (by simp [results, Tryd.results18, go_sem, k0, k1, k2]) rfl (by rw [HT.out]; exact ⟨by rw [HX2.out, HL.out]; rfl, by first | exact HE1.out | (repeat (first | exact HE1.out | refine Below.setCell ?_ (by simp) _))⟩)
    · rw [if_neg h2] at e0 t0
      cases h3 : digitC c with
      | true =>
        rw [h3] at e0 t0
        simp only [if_true] at e0 t0
        rw [e0] at hk
        subst hk
        have HT : Hid _ := t0
        have HS : Hid _ := hs
        clear e0 t0 h1 h2 h3 hne hs f0 f1 f2 k0 k1 k2
        go_enter Tryd.func18, Tryd.ntmps18
        go_wp2_with fail
        rw [← HW.out]
        refine (readNumber_any (c :: t) _ HS.out).mono ?_
        intro e u htk
        rw [← HT.out] at htk
        have htk2 := tk_of_number htk HE1.out
        obtain ⟨x, n, y, rfl, hb⟩ := tk_parts htk
        have hT := HT0.out.next hb
        have f0 := hT.free 0
        have f1 := hT.free 1
        have f2 := hT.free 2
        have k0 : u.cell? ⟨w.heap.size, 0, none⟩ = some (.int .i64 0) := hT.c0
        have k1 : u.cell? ⟨w.heap.size, 1, none⟩ = some (.string ⟨#[]⟩) := hT.c1
        have k2 : u.cell? ⟨w.heap.size, 2, none⟩ = some (.int .i64 0) := hT.c2
        have HB : Hid (Below w.heap.size w u) := HE1.out.trans (hb.mono (by have := HWZ.out; omega))
        have HK : Hid _ := htk2
        clear htk htk2 hb hT
        unfold tokV
        go_wp2
        exact bodyPost_ret (v := .tuple #[.agg #[.int .i64 x.kind, .string (S x.text), .int .i64 x.num], .int .i64 n, .int .i64 y]) (by simp [results, Tryd.results18, go_sem, k0, k1, k2]) rfl (tk_world HK.out (by first | exact HB.out | (repeat (first | exact HB.out | refine Below.setCell ?_ (by simp) _))))
      | false =>
        rw [h3] at e0 t0
        simp only [Bool.false_eq_true, if_false] at e0 t0
        by_cases h4 : c = 34
        · rw [if_pos h4] at e0 t0
          rw [e0] at hk
          subst hk
          subst h4
          have HT : Hid _ := t0
          have HS : Hid _ := hsl
          clear e0 t0 h1 h2 h3 hne hs hsl f0 f1 f2 k0 k1 k2
          go_enter Tryd.func18, Tryd.ntmps18
          go_wp2_with fail
          rw [← HW.out]
          refine (readString_any t _ HS.out).mono ?_
          intro e u htk
          rw [← HT.out] at htk
          have htk2 := tk_of_number htk HE1.out
          obtain ⟨x, n, y, rfl, hb⟩ := tk_parts htk
          have hT := HT0.out.next hb
          have f0 := hT.free 0
          have f1 := hT.free 1
          have f2 := hT.free 2
          have k0 : u.cell? ⟨w.heap.size, 0, none⟩ = some (.int .i64 0) := hT.c0
          have k1 : u.cell? ⟨w.heap.size, 1, none⟩ = some (.string ⟨#[]⟩) := hT.c1
          have k2 : u.cell? ⟨w.heap.size, 2, none⟩ = some (.int .i64 0) := hT.c2
          have HB : Hid (Below w.heap.size w u) := HE1.out.trans (hb.mono (by have := HWZ.out; omega))
          have HK : Hid _ := htk2
          clear htk htk2 hb hT
          unfold tokV
          go_wp2
          exact bodyPost_ret (v := .tuple #[.agg #[.int .i64 x.kind, .string (S x.text), .int .i64 x.num], .int .i64 n, .int .i64 y]) (by simp [results, Tryd.results18, go_sem, k0, k1, k2]) rfl (tk_world HK.out (by first | exact HB.out | (repeat (first | exact HB.out | refine Below.setCell ?_ (by simp) _))))
        · rw [if_neg h4] at e0 t0
          cases h5 : markC c with
          | false => rw [h5] at e0; exact absurd e0 hne
          | true =>
            rw [h5] at e0 t0
            simp only [if_true] at e0 t0
            rw [e0] at hk
            subst hk
            have HT : Hid _ := t0
            have HL : Hid ((c :: t).length - t.length = 1) := by unfold Hid; simp
            clear e0 t0 h1 h2 h3 h4 h5 hne hs
            go_enter Tryd.func18, Tryd.ntmps18
            go_wp2
            exact bodyPost_ret (v := .tuple #[.agg #[.int .i64 5, .string ((S (c :: t)).extract 0 1), .int .i64 0], .int .i64 1, .int .i64 0]) (by simp [results, Tryd.results18, go_sem]) rfl (by rw [HT.out]; exact ⟨by rw [HY.out, HL.out]; rfl, (Below.refl _ _).alloc (Nat.le_refl _) _⟩)
end Go.Proofs.YtdmiidbncpgfpabDoor
