/-
  What token.Cut does: the walk. The tokens are a row that the call has made.
-/
import Derived.Test.YtdmiidbncpgfpabDoorTokFirst
import Derived.Test.YtdmiidbncpgfpabDoorTokGapW
import Derived.Test.YtdmiidbncpgfpabDoorTokLaws
import Derived.Test.YtdmiidbncpgfpabDoorTokRows
namespace Go.Proofs.YtdmiidbncpgfpabDoor
open Go.RowKit Go.Proofs

/- Plain facts: rests are ends of what was there. -/
theorem comEnd_suffix {s r : List UInt8} (h : comEnd s = some r) : r <:+ s := by
  induction s with
  | nil => cases h
  | cons a t ih =>
    cases t with
    | nil => cases h
    | cons b t =>
      unfold comEnd at h
      split at h
      · cases h; exact ⟨[a, b], rfl⟩
      · exact (ih h).trans (List.suffix_cons _ _)
theorem silM_suffix : ∀ (n : Nat) (s : List UInt8), s.length ≤ n → (silM s).2 <:+ s := by
  intro n
  induction n with
  | zero => intro s hs; cases s with
    | nil => rw [silM_nil]; exact List.suffix_refl _
    | cons c t => simp at hs
  | succ n ih =>
    intro s hs
    cases s with
    | nil => rw [silM_nil]; exact List.suffix_refl _
    | cons c t =>
      simp only [List.length_cons] at hs
      cases h1 : spaceC c with
      | true => rw [silM_space t h1]; exact (ih t (by omega)).trans (List.suffix_cons _ _)
      | false =>
        by_cases h2 : c = 35
        · subst h2; rw [silM_hash]; have h3 := lineEnd_len t
          exact ((ih (lineEnd t) (by omega)).trans (List.dropWhile_suffix _)).trans (List.suffix_cons _ _)
        · by_cases h3 : c = 47
          · subst h3
            cases h4 : starP t with
            | some u =>
              have h4' := starP_some h4
              subst h4'
              cases h5 : comEnd u with
              | none => rw [silM_open h5]; exact List.suffix_refl _
              | some r =>
                rw [silM_com h5]
                have := comEnd_len h5
                simp only [List.length_cons] at hs
                exact (((ih r (by omega)).trans (comEnd_suffix h5)).trans (List.suffix_cons _ _)).trans (List.suffix_cons _ _)
            | none => rw [silM_slash h4]; exact List.suffix_refl _
          · rw [silM_stop t h1 h2 h3]; exact List.suffix_refl _
theorem timesM_suffix (s : List UInt8) : (timesM s).2 <:+ s := by
  unfold timesM
  split
  · exact List.suffix_refl _
  · split
    · exact List.suffix_cons _ _
    · split
      · exact List.suffix_cons _ _
      · exact List.suffix_refl _
theorem strM_suffix {b : Bool} {s : List UInt8} {x : List UInt8 × List UInt8} (h : strM b s = some x) : x.2 <:+ s := by
  induction s generalizing b x with
  | nil => cases b <;> cases h
  | cons c t ih =>
    cases b with
    | true =>
      unfold strM at h
      rw [Option.map_eq_some_iff] at h
      obtain ⟨y, hy, rfl⟩ := h
      exact (ih hy).trans (List.suffix_cons _ _)
    | false =>
      unfold strM at h
      split at h
      · cases h; exact List.suffix_cons _ _
      · split at h
        · exact (ih h).trans (List.suffix_cons _ _)
        · rw [Option.map_eq_some_iff] at h
          obtain ⟨y, hy, rfl⟩ := h
          exact (ih hy).trans (List.suffix_cons _ _)
theorem tokM_suffix {s : List UInt8} {x : Tok × List UInt8} (h : tokM s = .ok x) : x.2 <:+ s := by
  cases s with
  | nil => cases h
  | cons c t =>
    simp only [tokM] at h
    split at h
    · cases h; exact (List.dropWhile_suffix _).trans (List.suffix_cons _ _)
    · split at h
      · cases h; exact (List.dropWhile_suffix _).trans (List.suffix_cons _ _)
      · split at h
        · unfold numM at h
          simp only at h
          split at h
          · cases h
          · split at h
            · cases h
            · cases h
              exact (timesM_suffix _).trans (List.dropWhile_suffix _)
        · split at h
          · split at h
            · cases h
            · rename_i x hx; cases h; exact (strM_suffix hx).trans (List.suffix_cons _ _)
          · split at h
            · cases h; exact List.suffix_cons _ _
            · cases h
theorem tokM_err {s : List UInt8} {e : Int} (h : tokM s = .error e) : e = 3 ∨ e = 4 ∨ e = 6 := by
  cases s with
  | nil => cases h; exact Or.inl rfl
  | cons c t =>
    simp only [tokM] at h
    split at h
    · cases h
    · split at h
      · cases h
      · split at h
        · unfold numM at h
          simp only at h
          split at h
          · cases h; exact Or.inl rfl
          · split at h
            · cases h; exact Or.inr (Or.inr rfl)
            · cases h
        · split at h
          · split at h
            · cases h; exact Or.inr (Or.inl rfl)
            · cases h
          · split at h
            · cases h
            · cases h; exact Or.inl rfl
theorem suffix_drop {r s : List UInt8} (h : r <:+ s) : s.drop (s.length - r.length) = r := (List.suffix_iff_eq_drop.1 h).symm

/-- What cutting does: tokens, a place, an error. -/
def Ct (w : World) (r : List Tok × Int × Int) (e : Ending) (w' : World) : Prop :=
  ∃ a c, e = .returned (.tuple #[.slice a r.1.length c, .int .i64 r.2.1, .int .i64 r.2.2]) ∧ ToksAt w' a r.1 ∧ Below w.heap.size w w'
theorem ct_nil {w w' : World} {r : List Tok × Int × Int} {p x : Int} (hr : r = ([], p, x)) (hb : Below w.heap.size w w') : Ct w r (.returned (.tuple #[.slice none 0 0, .int .i64 p, .int .i64 x])) w' := by
  subst hr
  exact ⟨none, 0, rfl, toks_nil _ _, hb⟩

set_option maxHeartbeats 8000000 in
set_option maxRecDepth 100000 in
theorem tcut_any (s : List UInt8) (w : World) (hm : maxLenCell w) :
    Calls Tryd.prog 9 #[.string (S s)] w (Ct w (cutM s)) := by
  obtain ⟨i0, hi, hz0, hz1, hz2⟩ := info_parts infoTok
  by_cases hl : 2000 < s.length
  · have hq : (2000 : Int) < ((S s).size : Int) := by rw [size_S]; omega
    have HR : Hid (cutM s = ([], 0, 1)) := by unfold Hid cutM; rw [if_pos hl]
    clear hl hm
    go_enter Tryd.func9, Tryd.ntmps9
    go_wp2
    go_ret3
    exact ct_nil HR.out (Below.refl _ _)
  have hsz : (S s).size ≤ 2000 := by rw [size_S]; omega
  have hq : ¬ (2000 : Int) < ((S s).size : Int) := by omega
  have HR : Hid (cutM s = match cutP 0 s with | .ok l => (l, 0, 0) | .error (n, e) => ([], ((s.length - n : Nat) : Int), e)) := by unfold Hid cutM; rw [if_neg hl]; rfl
  have HS : Hid (s.length ≤ 2000) := by unfold Hid; omega
  have HM : Hid _ := hm
  clear hl hm
  go_enter Tryd.func9, Tryd.ntmps9
  go_wp2
  go_loopw [5, 6] (fun v i wr => ∃ (done : List Tok) (k : Nat) (a0 : Option Addr) (c0 : Nat), v = .slice a0 done.length c0 ∧ i = .int .i64 k ∧ k ≤ (S s).size ∧ done.length ≤ 400 ∧ Hid (OwnT wr w.heap.size (.slice a0 done.length c0) done) ∧
      Hid (cutP 0 s = match cutP done.length (s.drop k) with | .error e => .error e | .ok l => .ok (done ++ l)) ∧ Hid (Below w.heap.size w wr)) (fun _ i _ => (S s).size - (intOf i).toNat)
  case atStart => exact ⟨[], 0, none, 0, rfl, rfl, Nat.zero_le _, by simp, World.ownsRow_nil _ _ _ _, by unfold Hid; show cutP 0 s = match cutP 0 s with | .error e => .error e | .ok l => .ok ([] ++ l); cases cutP 0 s <;> rfl, Below.refl _ _⟩
  case round =>
    obtain ⟨done, k, a0, c0, rfl, rfl, hk, hd4, HO, HQ, HB⟩ := hrel
    obtain ⟨x, hx⟩ : ∃ x, x = s.drop k := ⟨_, rfl⟩
    have hxl : x.length = s.length - k := by rw [hx, List.length_drop]
    obtain ⟨g, hg⟩ : ∃ g, g = (silM x).2 := ⟨_, rfl⟩
    have hsuf : g <:+ x := by rw [hg]; exact silM_suffix _ x (Nat.le_refl _)
    have hgl := hsuf.length_le
    obtain ⟨n, hn⟩ : ∃ n, n = x.length - g.length := ⟨_, rfl⟩
    have hkS : k ≤ s.length := by rw [size_S] at hk; exact hk
    have hgd : s.drop (k + n) = g := by rw [← List.drop_drop, ← hx, hn]; exact suffix_drop hsuf
    have hkn : k + n + g.length = s.length := by omega
    have hkz : k + n + (S g).size = (S s).size := by rw [size_S, size_S]; exact hkn
    have HX1 : Hid ((S s).extract k (S s).size = S x) := by unfold Hid; rw [S_drop, hx]
    have HX2 : Hid ((S s).extract (k + n) (S s).size = S g) := by unfold Hid; rw [S_drop, hgd]
    have HL1 : Hid (x.length ≤ 2000) := by unfold Hid; have := HS.out; omega
    have HL2 : Hid (g.length ≤ 2000) := by unfold Hid; have := HS.out; omega
    have HQ2 : Hid (cutP 0 s = match cutP done.length x with | .error e => .error e | .ok l => .ok (done ++ l)) := by unfold Hid; rw [hx]; exact HQ.out
    have HC : Hid _ := cutP_eq done.length x
    have hn2 : n ≤ 2000 := by have := HS.out; omega
    have i1 : (0 : Int) ≤ (k : Int) := by omega
    have i2 : (k : Int) ≤ ((S s).size : Int) := by omega
    have i3 : (0 : Int) ≤ (k : Int) + (n : Int) := by omega
    have i4 : (k : Int) + (n : Int) ≤ ((S s).size : Int) := by omega
    have hmw := maxLenCell_below HM.out HB.out
    have HMW : Hid _ := hmw
    have HKN : Hid (((s.length - g.length : Nat) : Int) = (k : Int) + (n : Int)) := by unfold Hid; omega
    have HGD : Hid _ := hgd
    have HKL : Hid _ := hkn
    cases hb : (silM x).1 with
    | false =>
      have HV : Hid (gapV x = .tuple #[.int .i64 n, .int .i64 4]) := by
        unfold Hid gapV; rw [hb, ← hg, ← hn]; rfl
      have HF : Hid (cutM s = ([], (k : Int) + (n : Int), 4)) := by
        unfold Hid
        rw [HR.out, HQ2.out, HC.out, if_pos hb, ← hg]
        simp only [HKN.out]
      clear hx hxl hg hsuf hgl hn hkS hgd hkn hmw hb
      go_wp2_with fail
      rw [HX1.out]
      refine (gapLength_any x _ HMW.out HL1.out).mono ?_
      rintro e u ⟨rfl, hb1⟩
      rw [HV.out]
      go_wp2
      go_ret3
      exact ct_nil HF.out (HB.out.trans (hb1.mono HB.out.size))
    | true =>
      have HV : Hid (gapV x = .tuple #[.int .i64 n, .int .i64 0]) := by
        unfold Hid gapV; rw [hb, ← hg, ← hn]; rfl
      have HC2 : Hid (cutP done.length x = if g = [] then .ok [] else if done.length = 400 then .error (g.length, if begM g then 5 else 3) else match tokM g with | .error e => .error (g.length, e) | .ok y => (match cutP (done.length + 1) y.2 with | .error e => .error e | .ok l => .ok (y.1 :: l))) := by
        unfold Hid; rw [HC.out, if_neg (by rw [hb]; simp), ← hg]; rfl
      clear HC hx hxl hg hsuf hgl hn hkS hgd hkn hmw hb
      cases g with
      | nil =>
        have hke : (k : Int) + (n : Int) = ((S s).size : Int) := by rw [size_S] at hkz; simp at hkz; omega
        have HF : Hid (cutM s = (done, 0, 0)) := by
          unfold Hid
          rw [HR.out, HQ2.out, HC2.out, if_pos rfl]
          simp
        go_wp2_with fail
        rw [HX1.out]
        refine (gapLength_any x _ HMW.out HL1.out).mono ?_
        rintro e u ⟨rfl, hb1⟩
        rw [HV.out]
        go_wp2
        go_ret3
        rw [HF.out]
        exact ⟨a0, c0, rfl, OwnT.at (own_next HO.out hb1), HB.out.trans (hb1.mono HB.out.size)⟩
      | cons c t =>
        have hgz := S_pos c t
        have hke : ¬ (k : Int) + (n : Int) = ((S s).size : Int) := by omega
        have HC3 : Hid (cutP done.length x = if done.length = 400 then .error ((c :: t).length, if begM (c :: t) then 5 else 3) else match tokM (c :: t) with | .error e => .error ((c :: t).length, e) | .ok y => (match cutP (done.length + 1) y.2 with | .error e => .error e | .ok l => .ok (y.1 :: l))) := by
          unfold Hid; rw [HC2.out, if_neg (by simp)]
        clear HC2
        obtain ⟨kd, hkd⟩ : ∃ kd, kd = kindM (c :: t) := ⟨_, rfl⟩
        have HKD : Hid _ := hkd
        by_cases hk0 : kd = 0
        · have HF : Hid (cutM s = ([], (k : Int) + (n : Int), 3)) := by
            unfold Hid
            have hbeg : begM (c :: t) = false := (kindM_beg _).1 (by rw [← hkd]; exact hk0)
            rw [HR.out, HQ2.out, HC3.out, hbeg, tokM_beg hbeg]
            by_cases h4 : done.length = 400
            · rw [if_pos h4]; simp only [HKN.out]; rfl
            · rw [if_neg h4]; simp only [HKN.out]
          clear hkd
          go_wp2_with fail
          rw [HX1.out]
          refine (gapLength_any x _ HMW.out HL1.out).mono ?_
          rintro e u ⟨rfl, hb1⟩
          rw [HV.out]
          go_wp2_with fail
          rw [HX2.out]
          refine (kindOfFirst_any c t _ HL2.out).mono ?_
          rintro e u2 ⟨rfl, hb2⟩
          rw [← HKD.out]
          go_wp2
          go_ret3
          exact ct_nil HF.out ((HB.out.trans (hb1.mono HB.out.size)).trans (hb2.mono (HB.out.trans (hb1.mono HB.out.size)).size))
        · have HNE : Hid (kindM (c :: t) ≠ 0) := by unfold Hid; rw [← hkd]; exact hk0
          have hbeg : begM (c :: t) = true := by
            cases e : begM (c :: t) with
            | true => rfl
            | false => exact absurd ((kindM_beg _).2 e) HNE.out
          by_cases h4 : done.length = 400
          · have HF : Hid (cutM s = ([], (k : Int) + (n : Int), 5)) := by
              unfold Hid
              rw [HR.out, HQ2.out, HC3.out, hbeg, if_pos h4]
              simp only [HKN.out]; rfl
            have h4' : (done.length : Int) = 400 := by omega
            clear hkd hbeg
            go_wp2_with fail
            rw [HX1.out]
            refine (gapLength_any x _ HMW.out HL1.out).mono ?_
            rintro e u ⟨rfl, hb1⟩
            rw [HV.out]
            go_wp2_with fail
            rw [HX2.out]
            refine (kindOfFirst_any c t _ HL2.out).mono ?_
            rintro e u2 ⟨rfl, hb2⟩
            rw [← HKD.out]
            go_wp2
            go_ret3
            exact ct_nil HF.out ((HB.out.trans (hb1.mono HB.out.size)).trans (hb2.mono (HB.out.trans (hb1.mono HB.out.size)).size))
          · have h4' : ¬ (done.length : Int) = 400 := by omega
            have HC4 : Hid (cutP done.length x = match tokM (c :: t) with | .error e => .error ((c :: t).length, e) | .ok y => (match cutP (done.length + 1) y.2 with | .error e => .error e | .ok l => .ok (y.1 :: l))) := by
              unfold Hid; rw [HC3.out, if_neg h4]
            clear hkd hbeg HC3
            go_wp2_with fail
            rw [HX1.out]
            refine (gapLength_any x _ HMW.out HL1.out).mono ?_
            rintro e u ⟨rfl, hb1⟩
            rw [HV.out]
            have HB1 : Hid (Below w.heap.size w u) := HB.out.trans (hb1.mono HB.out.size)
            have HO1 : Hid (OwnT u w.heap.size (.slice a0 done.length c0) done) := own_next HO.out hb1
            clear hb1
            go_wp2_with fail
            rw [HX2.out]
            refine (kindOfFirst_any c t _ HL2.out).mono ?_
            rintro e u2 ⟨rfl, hb2⟩
            rw [← HKD.out]
            have HB2 : Hid (Below w.heap.size w u2) := HB1.out.trans (hb2.mono HB1.out.size)
            have HO2 : Hid (OwnT u2 w.heap.size (.slice a0 done.length c0) done) := own_next HO1.out hb2
            clear hb2
            go_wp2_with fail
            rw [HX2.out]
            refine (readFirst_any c t kd _ HL2.out HKD.out HNE.out).mono ?_
            cases ht : tokM (c :: t) with
            | error er =>
              have her := tokM_err ht
              have her0 : ¬ er = 0 := by omega
              have HF : Hid (cutM s = ([], (k : Int) + (n : Int), er)) := by
                unfold Hid
                rw [HR.out, HQ2.out, HC4.out, ht]
                simp only [HKN.out]
              clear ht her
              rintro e u3 ⟨rfl, hb3⟩
              have HB3 : Hid (Below w.heap.size w u3) := HB2.out.trans (hb3.mono HB2.out.size)
              clear hb3
              unfold tokV
              go_wp2
              go_ret3
              exact ct_nil HF.out (HB3.out.alloc HB3.out.size _)
            | ok y =>
              obtain ⟨tk, rest⟩ := y
              have hsf := tokM_suffix ht
              have hlt := tokM_len ht
              simp only at hsf hlt
              obtain ⟨m, hm⟩ : ∃ m, m = (c :: t).length - rest.length := ⟨_, rfl⟩
              have hm0 : 1 ≤ m := by omega
              have hm2 : m ≤ (c :: t).length := by omega
              have hm3 : k + n + m ≤ (S s).size := by rw [size_S]; have := HKL.out; omega
              have hm4 : m ≤ 2000 := by have := HL2.out; omega
              have HMM : Hid _ := hm
              have HQ3 : Hid (cutP 0 s = match cutP (done ++ [tk]).length (s.drop (k + n + m)) with | .error e => .error e | .ok l => .ok ((done ++ [tk]) ++ l)) := by
                unfold Hid
                have e1 : s.drop (k + n + m) = rest := by rw [← List.drop_drop, HGD.out, hm]; exact suffix_drop hsf
                have e2 : (done ++ [tk]).length = done.length + 1 := by simp
                rw [HQ2.out, HC4.out, ht, e1, e2]
                simp only
                cases cutP (done.length + 1) rest with
                | error e => rfl
                | ok l => simp
              clear ht hsf hlt hm
              rintro e u3 ⟨rfl, hb3⟩
              rw [← HMM.out]
              have HB3 : Hid (Below w.heap.size w u3) := HB2.out.trans (hb3.mono HB2.out.size)
              have HO3 : Hid (u3.ownsRow w.heap.size 48 3 (.slice a0 done.length c0) done.length (cellsT done)) := own_next HO2.out hb3
              have hz3 := HB3.out.size
              clear hb3
              unfold tokV
              go_wp2_with (at_builtin; refine wpList_append_own _ rfl _ _ 36 rfl w.heap.size 48 i0 _ 3 32 Tryd.underlying36 hi hz0 hz1 hz2 rfl (by decide) (.slice a0 done.length c0) done.length (cellsT done) rfl (World.ownsRow.alloc (World.ownsRow.alloc HO3.out _) _) ⟨u3.heap.size + 1, 0, none⟩ 1 1 [.int .i64 tk.kind, .string (S tk.text), .int .i64 tk.num] rfl rfl (tri_at _ _ (by simp) _ _ _ _) ?c2 ?c3 ?c4 ?c5 ?_)
              case c2 => intro u hu; simp at hu; rcases hu with rfl | rfl | rfl <;> rfl
              case c3 => unfold maxLen; omega
              case c4 => omega
              case c5 => simp; omega
              intro v' w4 hown' hgrow _
              have hB4 : Below w.heap.size w w4 := ((HB3.out.alloc hz3 _).alloc (by simp; omega) _).grown hgrow (by simp; omega) (fun j hj => (World.ownsRow.lt HO3.out j hj).1)
              have hO4 : OwnT w4 w.heap.size v' (done ++ [tk]) := by unfold OwnT; rw [cellsT_snoc, List.length_append]; exact hown'
              obtain ⟨a2, c2, hv2⟩ := hO4.any
              subst hv2
              have HO4 : Hid (OwnT w4 w.heap.size (.slice a2 (done ++ [tk]).length c2) (done ++ [tk])) := hO4
              have HB4 : Hid (Below w.heap.size w w4) := hB4
              clear hO4 hown' hgrow hB4
              go_wp2
              go_roundw
              case rel => exact ⟨done ++ [tk], k + n + m, a2, c2, by first | rfl | simp, by go_num, hm3, by simp; omega, HO4, HQ3, HB4⟩
              case measure => simp [intOf]; omega
end Go.Proofs.YtdmiidbncpgfpabDoor
