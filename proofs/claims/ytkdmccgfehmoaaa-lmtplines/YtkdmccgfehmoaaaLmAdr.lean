/-
  What lmtp.behind and lmtp.addressOf do: the walks.
-/
import Derived.Test.YtkdmccgfehmoaaaLmBox
namespace Go.Proofs.Ytkdmccgfehmoaaa
open Go.RowKit Go.Proofs

set_option maxHeartbeats 1000000 in
set_option maxRecDepth 100000 in
theorem behind_raw (a l : ByteArray) (w : World) (ha : a.size ≤ 100) (hl : a.size ≤ l.size) :
    Calls Try.prog 29 #[.string a, .string l] w fun e w' => e = .returned (.tuple #[.string (l.extract a.size l.size), .bool ((low (l.extract 0 a.size)).toList == (low a).toList)]) ∧ Below w.heap.size w w' := by
  have h1 : ¬ (l.size : Int) < (a.size : Int) := by omega
  have h2 : (a.size : Int) ≤ (l.size : Int) := by omega
  have hz : (l.extract 0 a.size).size ≤ 2000 := by rw [ByteArray.size_extract]; omega
  have HM := hid (match_is (l.extract 0 a.size) a w hz ha)
  obtain ⟨q, hq⟩ : ∃ q, q = ((low (l.extract 0 a.size)).toList == (low a).toList) := ⟨_, rfl⟩
  rw [← hq] at HM ⊢
  clear hq hz
  go_enter Try.func29, Try.ntmps29
  go_wp2_with fail
  refine HM.out.mono ?_
  rintro e u ⟨rfl, hb⟩
  go_wp2
  go_ret2
  exact ⟨rfl, hb⟩
set_option maxHeartbeats 1000000 in
theorem behind_short (a l : ByteArray) (w : World) (hl : l.size < a.size) :
    Calls Try.prog 29 #[.string a, .string l] w fun e w' => e = .returned (.tuple #[.string ⟨#[]⟩, .bool false]) ∧ Below w.heap.size w w' := by
  have h1 : (l.size : Int) < (a.size : Int) := by omega
  go_enter Try.func29, Try.ntmps29
  go_wp2
  go_ret2
  exact ⟨rfl, Below.refl _ _⟩
/-- What behind hands back. -/
def BhP (w : World) (o : Option (List UInt8)) (e : Ending) (w' : World) : Prop :=
  match o with
  | some r => e = .returned (.tuple #[.string (S r), .bool true]) ∧ Below w.heap.size w w'
  | none => (∃ t, e = .returned (.tuple #[.string t, .bool false])) ∧ Below w.heap.size w w'
theorem behind_any (wd line : List UInt8) (w : World) (hw : wd.length ≤ 100) (hl : lowL wd = wd) :
    Calls Try.prog 29 #[.string (S wd), .string (S line)] w (BhP w (behindM wd line)) := by
  by_cases h : line.length < wd.length
  · refine (behind_short (S wd) (S line) w (by rw [size_S, size_S]; exact h)).mono ?_
    rintro e u ⟨rfl, hb⟩
    have : behindM wd line = none := by
      unfold behindM
      rw [if_neg]
      intro e
      have e2 := congrArg List.length e
      rw [lowL, List.length_map, List.length_take] at e2
      omega
    rw [this]
    exact ⟨⟨_, rfl⟩, hb⟩
  · refine (behind_raw (S wd) (S line) w (by rw [size_S]; exact hw) (by rw [size_S, size_S]; omega)).mono ?_
    rintro e u ⟨rfl, hb⟩
    rw [S_drop, size_S, S_take]
    have hq : ((low (S (line.take wd.length))).toList == (low (S wd)).toList) = decide (lowL (line.take wd.length) = wd) := by
      rw [Lib.toList_data, Lib.toList_data, low_list, low_list, list_S, list_S, hl]
      by_cases e : lowL (line.take wd.length) = wd
      · rw [e]; simp
      · simp [e]
    rw [hq]
    unfold behindM
    by_cases e : lowL (line.take wd.length) = wd
    · rw [if_pos e]
      exact ⟨by simp [e], hb⟩
    · rw [if_neg e]
      exact ⟨⟨S (line.drop wd.length), by simp [e]⟩, hb⟩

theorem angle_open (t : List UInt8) : angleM (60 :: t) = (t.getLast? == some 62) := by
  unfold angleM
  cases t with
  | nil => simp
  | cons x t =>
    have e : (60 :: x :: t).getLast? = (x :: t).getLast? := List.getLast?_cons_cons
    rw [e]; simp
theorem angle_not {t : List UInt8} (h : (t.head? == some 60) = false) : angleM t = false := by
  unfold angleM
  rw [h]; simp
def adrV : Option Adr → Value
  | none => .tuple #[.agg #[.string ⟨#[]⟩, .string ⟨#[]⟩], .bool false]
  | some a => .tuple #[.agg #[.string (S a.1), .string (S a.2)], .bool true]
/-- What CutPrefix and CutSuffix do at one byte. -/
def CuP (w : World) (t : List UInt8) (q : Bool) (e : Ending) (w' : World) : Prop := e = .returned (.tuple #[.string (S t), .bool q]) ∧ w' = w
theorem cutPre1 (t : List UInt8) (c : UInt8) (w : World) (ht : t.length ≤ 2000) :
    Calls Try.prog 55 #[.string (S t), .string ⟨#[c]⟩] w (CuP w (if (t.head? == some c) = true then t.drop 1 else t) (t.head? == some c)) := by
  have hp := pre_one t c
  cases h : (t.head? == some c) with
  | true =>
    rw [h] at hp
    refine (cutPre_yes (S t) ⟨#[c]⟩ w (by rw [size_S]; omega) (by rw [list_S]; exact hp)).mono ?_
    rintro e u ⟨rfl, rfl⟩
    exact ⟨by rw [show (⟨#[c]⟩ : ByteArray).size = 1 from rfl, S_drop]; rfl, rfl⟩
  | false =>
    rw [h] at hp
    refine (cutPre_no (S t) ⟨#[c]⟩ w (by rw [size_S]; omega) (by rw [list_S]; exact hp)).mono ?_
    rintro e u ⟨rfl, rfl⟩
    exact ⟨rfl, rfl⟩
theorem cutSuf1 (t : List UInt8) (c : UInt8) (w : World) (ht : t.length ≤ 2000) :
    Calls Try.prog 56 #[.string (S t), .string ⟨#[c]⟩] w (CuP w (if (t.getLast? == some c) = true then t.dropLast else t) (t.getLast? == some c)) := by
  have hp := suf_one t c
  cases h : (t.getLast? == some c) with
  | true =>
    rw [h] at hp
    refine (cutSuf_yes (S t) ⟨#[c]⟩ w (by rw [size_S]; omega) (by rw [list_S]; exact hp)).mono ?_
    rintro e u ⟨rfl, rfl⟩
    exact ⟨by rw [show (⟨#[c]⟩ : ByteArray).size = 1 from rfl, S_take, size_S, List.dropLast_eq_take]; rfl, rfl⟩
  | false =>
    rw [h] at hp
    refine (cutSuf_no (S t) ⟨#[c]⟩ w (by rw [size_S]; omega) (by rw [list_S]; exact hp)).mono ?_
    rintro e u ⟨rfl, rfl⟩
    exact ⟨rfl, rfl⟩
theorem cut_len (t : List UInt8) (c : UInt8) : (Lib.cut t [c]).1.length ≤ t.length ∧ (Lib.cut t [c]).2.1.length ≤ t.length := by
  by_cases h : c ∈ t
  · obtain ⟨a, b, rfl, ha⟩ := split_colon h
    rw [cut_colon ha]
    simp
    omega
  · rw [cut_nocolon h]
    simp
theorem lm_two_new {w u : World} {v0 v1 x0 x1 : Value} {t : TypeId} {n : Nat} (hb : Below (((w.alloc (.cells #[v0, v1] t)).drewN n).alloc (.cells #[x0, x1] t)).heap.size (((w.alloc (.cells #[v0, v1] t)).drewN n).alloc (.cells #[x0, x1] t)) u) :
    u.heap[w.heap.size]? = some (.cells #[v0, v1] t) ∧ u.heap[w.heap.size + 1]? = some (.cells #[x0, x1] t) := by
  have e : ((w.alloc (.cells #[v0, v1] t)).drewN n).heap.size = w.heap.size + 1 := by simp
  constructor
  · refine (hb.block _ ?_).trans ?_
    · simp
      omega
    · exact heap_old _ (show ((w.alloc (.cells #[v0, v1] t)).drewN n).heap[w.heap.size]? = _ from heap_alloc_new w _)
  · refine (hb.block _ ?_).trans ?_
    · simp
    · exact heap_at _ e.symm
theorem lm_frz {w : World} {p : Nat} {cs : Array Value} {t : TypeId} (h : w.heap[p]? = some (.cells cs t)) (j : Nat) : w.frozen? ⟨p, j, none⟩ = false := by simp [World.frozen?, h]
set_option maxHeartbeats 2000000 in
set_option maxRecDepth 100000 in
theorem addressOf_any (t : List UInt8) (w : World) (ht : t.length ≤ 2000) :
    Calls Try.prog 44 #[.string (S t)] w fun e w' => e = .returned (adrV (addrM t)) ∧ Below w.heap.size w w' := by
  obtain ⟨T1, hT1⟩ : ∃ T1, T1 = if (t.head? == some 60) = true then t.drop 1 else t := ⟨_, rfl⟩
  obtain ⟨T2, hT2⟩ : ∃ T2, T2 = if (T1.getLast? == some 62) = true then T1.dropLast else T1 := ⟨_, rfl⟩
  have hl1 : T1.length ≤ 2000 := by rw [hT1]; split <;> (try rw [List.length_drop]) <;> omega
  have hl2 : T2.length ≤ 2000 := by rw [hT2]; split <;> (try rw [List.length_dropLast]) <;> omega
  have HC1 := hid (fun u => cutPre1 t 60 u ht)
  have HC2 := hid (fun u => cutSuf1 T1 62 u hl1)
  have HC3 := hid (fun u => cut1_any (S T2) 64 u (by rw [size_S]; omega))
  rw [list_S] at HC3
  rw [← hT1] at HC1
  rw [← hT2] at HC2
  obtain ⟨L, hL⟩ : ∃ L, L = (Lib.cut T2 [64]).1 := ⟨_, rfl⟩
  obtain ⟨D, hD⟩ : ∃ D, D = (Lib.cut T2 [64]).2.1 := ⟨_, rfl⟩
  obtain ⟨q3, hq3⟩ : ∃ q3, q3 = (Lib.cut T2 [64]).2.2 := ⟨_, rfl⟩
  have hcl := cut_len T2 64
  rw [← hL, ← hD] at hcl
  have HK := hid (fun u => check_any (S L) (S D) u (by rw [size_S]; omega) (by rw [size_S]; omega))
  rw [list_S, list_S] at HK
  have HZ3 := hid (check_three L D)
  obtain ⟨q1, hq1⟩ : ∃ q1, q1 = (t.head? == some 60) := ⟨_, rfl⟩
  obtain ⟨q2, hq2⟩ : ∃ q2, q2 = (T1.getLast? == some 62) := ⟨_, rfl⟩
  have HR := hid (show addrM t = if (q1 && q2 && q3 && adrOk (L, D)) = true then some (L, D) else none by
    cases q1 with
    | false =>
      unfold addrM
      rw [angle_not hq1.symm]
      simp
    | true =>
      obtain ⟨t', rfl⟩ : ∃ t', t = 60 :: t' := by
        cases t with
        | nil => cases hq1
        | cons x t' => exact ⟨t', by simp at hq1; rw [hq1]⟩
      have e1 : T1 = t' := by rw [hT1]; simp
      have ea : angleM (60 :: t') = q2 := by rw [angle_open, hq2, e1]
      unfold addrM
      rw [ea]
      cases q2 with
      | false => simp
      | true =>
        have e2 : innerM (60 :: t') = T2 := by rw [hT2, if_pos hq2.symm, e1]; rfl
        rw [e2, ← hL, ← hD, ← hq3]
        simp)
  rw [← hq1] at HC1
  rw [← hq2] at HC2
  rw [← hL, ← hD, ← hq3] at HC3
  have HAD := hid (show adrOk (L, D) = decide (checkA L D = 0) from rfl)
  obtain ⟨z, hz⟩ : ∃ z, z = checkA L D := ⟨_, rfl⟩
  rw [← hz] at HAD HZ3 HK
  obtain ⟨A, hA⟩ : ∃ A, A = addrM t := ⟨_, rfl⟩
  rw [← hA] at HR ⊢
  have HB1 := hid (show Below w.heap.size w (w.alloc (.cells #[.string ⟨#[]⟩, .string ⟨#[]⟩] 23)) from (Below.refl _ _).alloc (Nat.le_refl _) _)
  have HB2 := hid (fun n o => show Below w.heap.size w (((w.alloc (.cells #[.string ⟨#[]⟩, .string ⟨#[]⟩] 23)).drewN n).alloc o) from (wdrew HB1.out n).alloc (by simp) o)
  have HB3 := hid (fun n o => show Below w.heap.size w (((((w.alloc (.cells #[.string ⟨#[]⟩, .string ⟨#[]⟩] 23)).drewN n).setCell ⟨w.heap.size, 0, none⟩ (.string ⟨#[]⟩)).setCell ⟨w.heap.size, 1, none⟩ (.string ⟨#[]⟩)).alloc o) from (((wdrew HB1.out n).setCell (p := ⟨w.heap.size, 0, none⟩) (Nat.le_refl _) _).setCell (p := ⟨w.heap.size, 1, none⟩) (Nat.le_refl _) _).alloc (by simp [World.setCell]) o)
  clear hT1 hT2 hl1 hl2 hL hD hq1 hq2 hq3 hcl hz hA ht
  go_enter Try.func44, Try.ntmps44
  go_wp2_with fail
  refine (HC1.out _).mono ?_
  rintro e u ⟨rfl, hu⟩
  have hu' := hu.symm
  subst hu'
  clear hu
  go_wp2_with fail
  refine (HC2.out _).mono ?_
  rintro e u ⟨rfl, hu⟩
  have hu' := hu.symm
  subst hu'
  clear hu
  go_wp2_with fail
  refine (HC3.out _).mono ?_
  rintro e u ⟨rfl, n, hu⟩
  have hu' := hu.symm
  subst hu'
  clear hu
  cases q1 with
  | false =>
    have HE := hid (show A = none by rw [HR.out]; simp)
    go_wp2
    refine bodyPost_ret (v := .tuple #[.agg #[.string ⟨#[]⟩, .string ⟨#[]⟩], .bool false]) (by simp [results, Try.results44, go_sem, *]) rfl ?_
    exact ⟨by rw [HE.out]; rfl, HB3.out n _⟩
  | true =>
    cases q2 with
    | false =>
      have HE := hid (show A = none by rw [HR.out]; simp)
      go_wp2
      refine bodyPost_ret (v := .tuple #[.agg #[.string ⟨#[]⟩, .string ⟨#[]⟩], .bool false]) (by simp [results, Try.results44, go_sem, *]) rfl ?_
      exact ⟨by rw [HE.out]; rfl, HB3.out n _⟩
    | true =>
      cases q3 with
      | false =>
        have HE := hid (show A = none by rw [HR.out]; simp)
        go_wp2
        refine bodyPost_ret (v := .tuple #[.agg #[.string ⟨#[]⟩, .string ⟨#[]⟩], .bool false]) (by simp [results, Try.results44, go_sem, *]) rfl ?_
        exact ⟨by rw [HE.out]; rfl, HB3.out n _⟩
      | true =>
        go_wp2_with fail
        refine (HK.out _).mono ?_
        rintro e u ⟨rfl, hb⟩
        obtain ⟨hX0, hX1⟩ := lm_two_new hb
        obtain ⟨m0, m1⟩ := adr_box hX0
        obtain ⟨m2, m3⟩ := adr_box hX1
        have g0 := lm_frz hX0 0
        have g1 := lm_frz hX0 1
        have HB5 := hid (wnext (HB2.out n _) hb (Nat.le_refl _))
        have HB6 := hid (fun a b => (HB5.out.setCell (p := ⟨w.heap.size, 0, none⟩) (Nat.le_refl _) a).setCell (p := ⟨w.heap.size, 1, none⟩) (Nat.le_refl _) b)
        have hX2 := lm_put (j := 1) (u := .string (S D)) (lm_put (j := 0) (u := .string (S L)) hX0)
        have hX3 := lm_put (j := 1) (u := .string ⟨#[]⟩) (lm_put (j := 0) (u := .string ⟨#[]⟩) hX0)
        simp only [List.setIfInBounds_toArray, List.set_cons_succ, List.set_cons_zero] at hX2 hX3
        obtain ⟨m4, m5⟩ := adr_box hX2
        obtain ⟨m6, m7⟩ := adr_box hX3
        clear hb hX0 hX1 hX2 hX3
        rcases HZ3.out with rfl | rfl | rfl
        · have HE := hid (show A = some (L, D) by rw [HR.out, HAD.out]; rfl)
          go_wp2
          refine bodyPost_ret (v := .tuple #[.agg #[.string (S L), .string (S D)], .bool true]) (by simp [results, Try.results44, go_sem, *]; exact ⟨rfl, rfl⟩) rfl ?_
          exact ⟨by rw [HE.out]; rfl, HB6.out _ _⟩
        · have HE := hid (show A = none by rw [HR.out, HAD.out]; rfl)
          go_wp2
          refine bodyPost_ret (v := .tuple #[.agg #[.string ⟨#[]⟩, .string ⟨#[]⟩], .bool false]) (by simp [results, Try.results44, go_sem, *]) rfl ?_
          exact ⟨by rw [HE.out]; rfl, HB6.out _ _⟩
        · have HE := hid (show A = none by rw [HR.out, HAD.out]; rfl)
          go_wp2
          refine bodyPost_ret (v := .tuple #[.agg #[.string ⟨#[]⟩, .string ⟨#[]⟩], .bool false]) (by simp [results, Try.results44, go_sem, *]) rfl ?_
          exact ⟨by rw [HE.out]; rfl, HB6.out _ _⟩
end Go.Proofs.Ytkdmccgfehmoaaa
