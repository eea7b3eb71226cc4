/-
  The bytes of all mails, and whether a box may be: the walks.
-/
import Derived.Test.YtkkkbggbeihbnaaDoorBoxRd
namespace Go.Proofs.YtkkkbggbeihbnaaDoor
open Go.RowKit Go.Proofs

theorem sizeB_step {l : List Bx} {k : Nat} {b : Bx} (h : l[k]? = some b) : sizeB (l.take (k + 1)) = sizeB (l.take k) + sizeM b.mails := by
  have hk : k < l.length := (List.getElem?_eq_some_iff.1 h).1
  rw [List.take_succ_eq_append_getElem hk, sizeB_app, (List.getElem?_eq_some_iff.1 h).2]
  simp [sizeB]
theorem sizeM_step {l : List Mail} {k : Nat} {b : Mail} (h : l[k]? = some b) : sizeM (l.take (k + 1)) = sizeM (l.take k) + b.text.length := by
  have hk : k < l.length := (List.getElem?_eq_some_iff.1 h).1
  rw [List.take_succ_eq_append_getElem hk, sizeM_app, (List.getElem?_eq_some_iff.1 h).2]
  simp [sizeM]
theorem box3 {w : World} {p : Nat} {v0 v1 v2 : Value} {t : TypeId} (h : w.heap[p]? = some (.cells #[v0, v1, v2] t)) : w.cell? ⟨p, 0, none⟩ = some v0 ∧ w.cell? ⟨p, 1, none⟩ = some v1 ∧ w.cell? ⟨p, 2, none⟩ = some v2 := by
  refine ⟨?_, ?_, ?_⟩ <;> simp [World.cell?, h]
set_option maxHeartbeats 1000000 in
set_option maxRecDepth 100000 in
theorem sizeOf_any (l : List Bx) (a : Option Addr) (c : Nat) (w : World) (Q : Nat → Prop) (hL : BoxsM Q w (.slice a l.length c) l) (hz : sizeB l ≤ 6000) :
    Calls Tryd.prog 58 #[.slice a l.length c] w fun e w' => e = .returned (.int .i64 (sizeB l : Nat)) ∧ Below w.heap.size w w' := by
  have hm := RowM.small hL
  have HL := hid hL
  unfold maxLen at hm
  clear hL
  go_enter Tryd.func58, Tryd.ntmps58
  go_wp2
  go_loopw [3, 10] (fun n v wr => ∃ i : Nat, i ≤ l.length ∧ v = .int .i64 i ∧ n = .int .i64 (sizeB (l.take i) : Nat) ∧ Hid (Below w.heap.size w wr)) (fun _ v _ => l.length - (intOf v).toNat)
  case atStart => exact ⟨0, Nat.zero_le _, rfl, rfl, Below.refl _ _⟩
  case round =>
    obtain ⟨i, hi, rfl, rfl, HB⟩ := hrel
    by_cases hlt : i < l.length
    · have i1 : (i : Int) < (l.length : Int) := by omega
      have i0 : (0 : Int) ≤ (i : Int) := by omega
      obtain ⟨x, hx⟩ : ∃ x, l[i]? = some x := ⟨_, List.getElem?_eq_getElem hlt⟩
      obtain ⟨b, o, v, rfl, _, e0, e1, e2, hM⟩ := (HL.out.next HB.out).at hx
      obtain ⟨am, cm, rfl⟩ := RowM.slice hM
      have hsm := RowM.small hM
      unfold maxLen at hsm
      have HM := hid hM
      have HS := hid (sizeB_step hx)
      have hle : sizeB (l.take i) + sizeM x.mails ≤ 6000 := by rw [← HS.out]; exact Nat.le_trans (sizeB_take_le l (i + 1)) hz
      obtain ⟨wo, rfl⟩ : ∃ W, W = wr := ⟨_, rfl⟩
      have HB1 := hid (show Below wo.heap.size wo (wo.alloc (.cells #[.string (S x.name), .int .i64 x.next, .slice am x.mails.length cm] 65)) from (Below.refl _ _).alloc (Nat.le_refl _) _)
      clear hM hx
      go_wp2
      go_loopw [3, 17] (fun n v wr => ∃ j : Nat, j ≤ x.mails.length ∧ v = .int .i64 j ∧ n = .int .i64 (sizeB (l.take i) + sizeM (x.mails.take j) : Nat) ∧ Hid (Below wo.heap.size wo wr)) (fun _ v _ => x.mails.length - (intOf v).toNat)
      case atStart => exact ⟨0, Nat.zero_le _, rfl, rfl, HB1⟩
      case round =>
        obtain ⟨j, hj, rfl, rfl, HB2⟩ := hrel
        by_cases hlj : j < x.mails.length
        · have j1 : (j : Int) < (x.mails.length : Int) := by omega
          have j0 : (0 : Int) ≤ (j : Int) := by omega
          obtain ⟨m, hm'⟩ : ∃ m, x.mails[j]? = some m := ⟨_, List.getElem?_eq_getElem hlj⟩
          obtain ⟨b', o', rfl, _, k0, k1, k2⟩ := (HM.out.next HB2.out).at hm'
          have HT := hid (sizeM_step hm')
          have hle2 : sizeM (x.mails.take j) + m.text.length ≤ sizeM x.mails := by rw [← HT.out]; exact sizeM_take_le _ _
          have hr1 : (0 : Int) ≤ ((sizeB (l.take i) + sizeM (x.mails.take j) : Nat) : Int) := by omega
          have hr2 : ((sizeB (l.take i) + sizeM (x.mails.take j) : Nat) : Int) + ((S m.text).size : Int) ≤ 6000 := by rw [size_S]; omega
          have HE := hid (show ((sizeB (l.take i) + sizeM (x.mails.take j) : Nat) : Int) + ((S m.text).size : Int) = ((sizeB (l.take i) + sizeM (x.mails.take (j + 1)) : Nat) : Int) by rw [size_S, HT.out]; omega)
          have HB3 := hid (show ∀ o : Obj, Below wo.heap.size wo (wr.alloc o) from fun o => HB2.out.alloc HB2.out.size o)
          clear hm' hle2
          generalize ((sizeB (l.take i) + sizeM (x.mails.take j) : Nat) : Int) = q at *
          go_wp2
          rw [HE.out]
          go_roundw
          case rel => first | exact ⟨j + 1, by omega, by go_num, rfl, HB3.out _⟩ | ((repeat apply Exists.intro); exact ⟨⟨j + 1, by omega, by go_num, rfl, HB3.out _⟩, rfl⟩)
          case measure => simp [intOf]; omega
        · have j1 : ¬ (j : Int) < (x.mails.length : Int) := by omega
          have HE := hid (show sizeB (l.take i) + sizeM (x.mails.take j) = sizeB (l.take (i + 1)) by rw [HS.out, List.take_of_length_le (l := x.mails) (by omega)])
          have HB3 := hid (show Below w.heap.size w wr from HB.out.trans (HB2.out.mono HB.out.size))
          go_wp2
          rw [HE.out]
          go_roundw
          case rel => first | exact ⟨i + 1, by omega, by go_num, rfl, HB3⟩ | ((repeat apply Exists.intro); exact ⟨⟨i + 1, by omega, by go_num, rfl, HB3⟩, rfl⟩)
          case measure => simp [intOf]; omega
    · have i1 : ¬ (i : Int) < (l.length : Int) := by omega
      have HE := hid (show sizeB (l.take i) = sizeB l by rw [List.take_of_length_le (by omega)])
      go_wp2
      go_ret
      exact ⟨ret_int (by rw [HE.out]), HB.out⟩
theorem areFlags_any (n : Int) (w : World) :
    Calls Tryd.prog 42 #[.int .i64 n] w fun e w' => e = .returned (.bool (decide (0 ≤ n) && decide (n ≤ 31))) ∧ w' = w := by
  by_cases h1 : 0 ≤ n
  · by_cases h2 : n ≤ 31
    · go_enter Tryd.func42, Tryd.ntmps42
      go_wp2
      go_ret
      exact ⟨by simp [h1, h2], rfl⟩
    · go_enter Tryd.func42, Tryd.ntmps42
      go_wp2
      go_ret
      exact ⟨by simp [h2], rfl⟩
  · have HF : Hid (decide (0 ≤ n) = false) := decide_eq_false h1
    go_enter Tryd.func42, Tryd.ntmps42
    go_wp2
    go_ret
    exact ⟨by rw [HF.out]; rfl, rfl⟩
def lastU (last : Int) (l : List Mail) : Nat → Int
  | 0 => last
  | k + 1 => match l[k]? with
    | some m => m.uid
    | none => last
theorem lastU_cons (last : Int) (m : Mail) (l : List Mail) (k : Nat) (hk : k ≤ l.length) : lastU last (m :: l) (k + 1) = lastU m.uid l k := by
  cases k with
  | zero => rfl
  | succ k =>
    simp only [lastU, List.getElem?_cons_succ]
    rw [List.getElem?_eq_getElem (by omega)]
theorem risen_at {next : Int} : ∀ (l : List Mail) (last : Int) (k : Nat) (m : Mail), risen last next l → l[k]? = some m → lastU last l k < m.uid ∧ m.uid < next ∧ 0 ≤ m.flags ∧ m.flags ≤ 31 ∧ m.text.length ≤ 2000 := by
  intro l
  induction l with
  | nil => intro _ k m _ h; simp at h
  | cons c l ih =>
    intro last k m ⟨k1, k2, k3, k4, k5, k6⟩ h
    cases k with
    | zero => simp at h; subst h; exact ⟨k1, k2, k3, k4, k5⟩
    | succ k =>
      simp only [List.getElem?_cons_succ] at h
      rw [lastU_cons _ _ _ _ (Nat.le_of_lt (List.getElem?_eq_some_iff.1 h).1)]
      exact ih _ k m k6 h
set_option maxHeartbeats 1000000 in
set_option maxRecDepth 100000 in
theorem boxMayBe_ok (b : Bx) (v : Value) (w : World) (Q : Nat → Prop) (hL : MailsM Q w v b.mails) (hM : BoxMay b) :
    Calls Tryd.prog 57 #[.agg #[.string (S b.name), .int .i64 b.next, v]] w fun e w' => e = .returned (.bool true) ∧ Below w.heap.size w w' := by
  obtain ⟨a, c, rfl⟩ := RowM.slice hL
  obtain ⟨W1, hW1⟩ : ∃ W1, W1 = w.alloc (.cells #[.string (S b.name), .int .i64 b.next, .slice a b.mails.length c] 65) := ⟨_, rfl⟩
  have HWE := hid hW1
  have hB1 : Below w.heap.size w W1 := by rw [hW1]; exact (Below.refl _ _).alloc (Nat.le_refl _) _
  have hX : W1.heap[w.heap.size]? = some (.cells #[.string (S b.name), .int .i64 b.next, .slice a b.mails.length c] 65) := by rw [hW1]; exact heap_alloc_new w _
  have HX := hid hX
  have HB1 := hid hB1
  have HL := hid (hL.next hB1)
  have HN := hid (show nameP (S b.name).data.toList = 0 by rw [list_S]; exact hM.name)
  have n1 : ¬ b.next < 1 := by have := hM.next; omega
  have n2 : ¬ 1048577 < b.next := by have := hM.next; omega
  have n3 : ¬ (30 : Int) < (b.mails.length : Int) := by have := hM.many; omega
  have HR := hid hM.mails
  obtain ⟨x0, x1, x2⟩ := box3 hX
  clear hL hW1 hX hM hB1
  go_enter Tryd.func57, Tryd.ntmps57
  go_wp2_with fail
  rw [← HWE.out]
  refine (rname_any (S b.name) W1).mono ?_
  rintro e u ⟨rfl, hu⟩
  have hu' := hu.symm
  subst hu'
  rw [HN.out]
  clear hu
  go_wp2
  go_loopw [3, 29] (fun n v wr => ∃ i : Nat, i ≤ b.mails.length ∧ v = .int .i64 i ∧ n = .int .i64 (lastU 0 b.mails i) ∧ Hid (Below W1.heap.size W1 wr)) (fun _ v _ => b.mails.length - (intOf v).toNat)
  case atStart => exact ⟨0, Nat.zero_le _, rfl, rfl, Below.refl _ _⟩
  case round =>
    obtain ⟨i, hi, rfl, rfl, HB⟩ := hrel
    have y1 := wcell_next x1 HB.out
    by_cases hlt : i < b.mails.length
    · have i1 : (i : Int) < (b.mails.length : Int) := by omega
      have i0 : (0 : Int) ≤ (i : Int) := by omega
      obtain ⟨m, hm⟩ : ∃ m, b.mails[i]? = some m := ⟨_, List.getElem?_eq_getElem hlt⟩
      obtain ⟨p, o, rfl, _, e0, e1, e2⟩ := (HL.out.next HB.out).at hm
      obtain ⟨r1, r2, r3, r4, r5⟩ := risen_at _ _ _ _ HR.out hm
      have HU := hid (show lastU 0 b.mails (i + 1) = m.uid by show (match b.mails[i]? with | some m => m.uid | none => 0) = m.uid; rw [hm])
      generalize lastU 0 b.mails i = q at *
      have c1 : ¬ m.uid ≤ q := by omega
      have c2 : ¬ b.next ≤ m.uid := by omega
      have c3 : ¬ (2000 : Int) < ((S m.text).size : Int) := by rw [size_S]; omega
      have HFL := hid (show (decide (0 ≤ m.flags) && decide (m.flags ≤ 31)) = true by simp [r3, r4])
      obtain ⟨W2, hW2⟩ : ∃ W2, W2 = wr.alloc (.cells #[.int .i64 m.uid, .int .i64 m.flags, .string (S m.text)] 73) := ⟨_, rfl⟩
      have HWE2 := hid hW2
      have hB2 : Below wr.heap.size wr W2 := by rw [hW2]; exact (Below.refl _ _).alloc (Nat.le_refl _) _
      have hX2 : W2.heap[wr.heap.size]? = some (.cells #[.int .i64 m.uid, .int .i64 m.flags, .string (S m.text)] 73) := by rw [hW2]; exact heap_alloc_new wr _
      have z1 := wcell_next y1 hB2
      have y1a := wcell_more y1 (.cells #[.int .i64 m.uid, .int .i64 m.flags, .string (S m.text)] 73)
      have hne : w.heap.size ≠ wr.heap.size := Nat.ne_of_lt (World.block_lt_of_cell? _ _ y1)
      obtain ⟨m0, m1, m2⟩ := box3 hX2
      have HB3 := hid (show Below W1.heap.size W1 W2 from HB.out.trans (hB2.mono HB.out.size))
      clear hm hW2 hX2 hB2 r3 r4
      go_wp2_with fail
      rw [← HWE2.out]
      refine (areFlags_any m.flags W2).mono ?_
      rintro e u ⟨rfl, hu⟩
      have hu' := hu.symm
      subst hu'
      rw [HFL.out]
      clear hu
      go_wp2
      go_roundw
      case rel => first | exact ⟨i + 1, by omega, by go_num, by rw [HU.out], HB3⟩ | ((repeat apply Exists.intro); exact ⟨⟨i + 1, by omega, by go_num, by rw [HU.out], HB3⟩, rfl⟩)
      case measure => simp [intOf]; omega
    · have i1 : ¬ (i : Int) < (b.mails.length : Int) := by omega
      have HE := hid (show Below w.heap.size w wr from HB1.out.trans (HB.out.mono HB1.out.size))
      go_wp2
      go_ret
      exact ⟨rfl, HE.out⟩
end Go.Proofs.YtkkkbggbeihbnaaDoor
