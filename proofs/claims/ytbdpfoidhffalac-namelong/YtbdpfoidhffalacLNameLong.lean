/-
  Proved: for all numbers, a box's name has one to twelve bytes, none of them a blank (no condition but the form's own).
-/
import Derived.Test.YtbdpfoidhffalacRulName
import Derived.Test.YtbdpfoidhffalacKeepPick
import Derived.WalkKit
import Derived.ProofKit
import Derived.OpenShut
import Derived.ChangeOld
import Derived.Deep.OwnRows
namespace Go.Proofs.Ytbdpfoidhffalac
open Go.ChangeShapes Go.WideShapes Go.ChangeAt Go.RowKit Go.Proofs

theorem hid {p : Prop} (h : p) : Hid p := h
theorem nameP_a (k : Nat) : nameP (List.replicate k 97) = if k < 1 ∨ 12 < k then 1 else 0 := by
  unfold nameP
  rw [List.length_replicate]
  by_cases h : k < 1 ∨ 12 < k
  · rw [if_pos h, if_pos h]
  · rw [if_neg h, if_neg h, if_pos]
    rw [List.all_eq_true]
    intro c hc
    rw [(List.mem_replicate.1 hc).2]; decide
theorem nameP_blank (k j : Nat) (hk : 1 ≤ k) (hk2 : k ≤ 12) (hj : j < k) : nameP ((List.replicate k 97).set j 32) = 3 := by
  unfold nameP
  rw [List.length_set, List.length_replicate, if_neg (by omega), if_neg]
  intro h
  have hm : (32 : UInt8) ∈ (List.replicate k (97 : UInt8)).set j 32 := by
    refine List.mem_of_getElem? (i := j) ?_
    rw [List.getElem?_set_self (by simpa using hj)]
  have := List.all_eq_true.1 h 32 hm
  revert this; decide
theorem infoU8 : (Try.prog.info? 5).map (fun i => (i.zero, i.size, i.bytes)) = some (some (.int .u8 0), 1, 1) := by kernel_rfl
/-- A row of bytes that lies in a block of its own. -/
def BytesB (w : World) (b : Nat) (l : List UInt8) : Prop := w.heap[b]? = some (.cells (l.map fun c => Value.int .u8 (c.toNat : Int)).toArray 5)
theorem BytesB.back {w : World} {b : Nat} {l : List UInt8} (h : BytesB w b l) (k : Nat) (hk : k = l.length) : (convert 23 9 (.slice (some ⟨b, 0, none⟩) k k)).run Try.prog w = .ok (.string (S l)) w := by
  subst hk
  exact run_convert_bytes_back (P := Try.prog) w 23 9 5 ⟨b, 0, none⟩ l.length l Try.underlying23 Try.underlying5 Try.underlying9 (fun j hj => by
    rw [Addr.add_lit, Nat.zero_add]
    have hh : w.heap[b]? = some (.cells (l.map fun c => Value.int .u8 (c.toNat : Int)).toArray 5) := h
    simp [World.cell?, hh, hj])
theorem BytesB.set {w : World} {b : Nat} {l : List UInt8} (h : BytesB w b l) (j : Nat) (c : UInt8) (x : Int) (hx : x = (c.toNat : Int)) : BytesB (w.setCell ⟨b, j, none⟩ (.int .u8 x)) b (l.set j c) := by
  unfold BytesB
  rw [setCell_mark (i := j) _ h, hx]
  congr 2
  simp [List.map_set]
theorem BytesB.cell {w : World} {b : Nat} {l : List UInt8} (h : BytesB w b l) (j : Nat) (hj : j < l.length) : w.cell? ⟨b, j, none⟩ = some (.int .u8 ((l[j]).toNat : Int)) := by
  have hh : w.heap[b]? = some (.cells (l.map fun c => Value.int .u8 (c.toNat : Int)).toArray 5) := h
  simp [World.cell?, hh, hj]
theorem BytesB.free {w : World} {b : Nat} {l : List UInt8} (h : BytesB w b l) (j : Nat) : w.frozen? ⟨b, j, none⟩ = false := by
  have hh : w.heap[b]? = some (.cells (l.map fun c => Value.int .u8 (c.toNat : Int)).toArray 5) := h
  simp [World.frozen?, hh]
/-- The first k of so many are small a's. -/
def partA (n k : Nat) : List UInt8 := List.replicate k 97 ++ List.replicate (n - k) 0
theorem partA_step (n k : Nat) (h : k < n) : (partA n k).set k 97 = partA n (k + 1) := by
  unfold partA
  rw [List.set_append_right _ _ (by simp), List.length_replicate, Nat.sub_self]
  obtain ⟨m, hm⟩ : ∃ m, n - k = m + 1 := ⟨n - k - 1, by omega⟩
  have e : n - (k + 1) = m := by omega
  rw [hm, e, List.replicate_succ, List.set_cons_zero, List.replicate_succ' (n := k), List.append_assoc]
  rfl
theorem partA_len (n k : Nat) (h : k ≤ n) : (partA n k).length = n := by simp [partA]; omega
theorem partA_all (n : Nat) : partA n n = List.replicate n 97 := by simp [partA]
set_option maxHeartbeats 4000000 in
set_option maxRecDepth 100000 in
theorem nameLong_walk (n : Int) (hn : (Lit.int .i64 n).wf = true) (a : Int) (ha : (Lit.int .i64 a).wf = true) (w : World) :
    Calls Try.prog 3 #[.int .i64 n, .int .i64 a] w fun e w' => e = .returned (.bool true) ∧ Below w.heap.size w w' := by
  obtain ⟨k, hk⟩ : ∃ k, k = pickN n 30 := ⟨_, rfl⟩
  have hk30 : k < 30 := by rw [hk]; exact pickN_lt _ _ (by omega)
  have HK : Hid _ := hk
  have HA : Hid _ := ha
  have hmk := run_make_row' (P := Try.prog) 23 5 (.int .u8 0) 1 Try.underlying23 infoU8 rfl .i64 .i64 k (by omega) (by omega)
  clear hk ha
  go_enter Try.func3, Try.ntmps3
  go_wp2_with fail
  refine (picked_any n 30 w hn (by omega) (by omega)).mono ?_
  rintro e u ⟨rfl, hu⟩
  have hu' := hu.symm
  subst hu'
  rw [← HK.out]
  go_wp2
  go_loopw [7] (fun i wr => ∃ j : Nat, j ≤ k ∧ i = .int .i64 j ∧ Hid (BytesB wr w.heap.size (partA k j)) ∧ Hid (Below w.heap.size w wr)) (fun i _ => k - (intOf i).toNat)
  case atStart => exact ⟨0, Nat.zero_le _, rfl, by
    show (w.alloc _).heap[w.heap.size]? = _
    rw [heap_alloc_new]
    have e : madeCells #[Value.int .u8 0] k = ((partA k 0).map fun c => Value.int .u8 (c.toNat : Int)).toArray := by
      apply Array.toList_inj.1
      rw [toList_madeCells_one]
      simp [partA]
    rw [e], (Below.refl _ _).alloc (Nat.le_refl _) _⟩
  case round =>
    obtain ⟨j, hj, rfl, HBY, HB⟩ := hrel
    by_cases hlt : j < k
    · have j1 : (j : Int) < (k : Int) := by omega
      have j0 : (0 : Int) ≤ (j : Int) := by omega
      have c0 := HBY.out.cell j (by rw [partA_len _ _ hj]; exact hlt)
      have f0 := HBY.out.free j
      have HB2 := hid (show BytesB (wr.setCell ⟨w.heap.size, j, none⟩ (.int .u8 97)) w.heap.size (partA k (j + 1)) by rw [← partA_step k j hlt]; exact HBY.out.set j 97 97 rfl)
      have HB3 := hid (HB.out.setCell (p := ⟨w.heap.size, j, none⟩) (Nat.le_refl _) (.int .u8 97))
      go_wp2
      go_roundw
      case rel => first | exact ⟨j + 1, by omega, by go_num, HB2, HB3⟩ | ((repeat apply Exists.intro); exact ⟨⟨j + 1, by omega, by go_num, HB2, HB3⟩, rfl⟩) | (refine ⟨trivial, ?_⟩; (repeat apply Exists.intro); exact ⟨⟨j + 1, by omega, by go_num, HB2, HB3⟩, rfl⟩)
      case measure => simp [intOf]; omega
    · have hjk : j = k := by omega
      subst hjk
      have HC := hid (show BytesB wr w.heap.size (List.replicate j 97) by rw [← partA_all]; exact HBY.out)
      have hcv := HC.out.back j (by simp)
      have HNM := hid (show nameP (S (List.replicate j 97)).data.toList = if j < 1 ∨ 12 < j then 1 else 0 by rw [list_S]; exact nameP_a j)
      have j1 : ¬ (j : Int) < (j : Int) := by omega
      clear HBY hlt
      go_wp2_with fail
      refine (rname_any (S (List.replicate j 97)) _).mono ?_
      rintro e u ⟨rfl, hu⟩
      have hu' := hu.symm
      subst hu'
      rw [HNM.out]
      by_cases h1 : j < 1
      · rw [if_pos (Or.inl h1)]
        have i1 : (j : Int) < 1 := by omega
        go_wp2
        go_ret
        exact ⟨rfl, HB.out⟩
      · by_cases h12 : 12 < j
        · rw [if_pos (Or.inr h12)]
          have i1 : ¬ (j : Int) < 1 := by omega
          have i2 : (12 : Int) < (j : Int) := by omega
          go_wp2
          go_ret
          exact ⟨rfl, HB.out⟩
        · rw [if_neg (by omega)]
          have i1 : ¬ (j : Int) < 1 := by omega
          have i2 : ¬ (12 : Int) < (j : Int) := by omega
          go_wp2_with fail
          refine (picked_any a j _ HA.out (by omega) (by omega)).mono ?_
          rintro e u ⟨rfl, hu⟩
          have hu' := hu.symm
          subst hu'
          have hq := pickN_lt a j (by omega)
          generalize pickN a j = q at *
          have q1 : (q : Int) < (j : Int) := by omega
          have q0 : (0 : Int) ≤ (q : Int) := by omega
          have c0 := HC.out.cell q (by simpa using hq)
          have f0 := HC.out.free q
          have hS := hid (HC.out.set q 32 32 rfl)
          have hcv2 := hS.out.back j (by simp)
          have HNM2 := hid (show nameP (S ((List.replicate j 97).set q 32)).data.toList = 3 by rw [list_S]; exact nameP_blank j q (by omega) (by omega) hq)
          have HB3 := hid (HB.out.setCell (p := ⟨w.heap.size, q, none⟩) (Nat.le_refl _) (.int .u8 32))
          clear hcv
          go_wp2_with fail
          refine (rname_any (S ((List.replicate j 97).set q 32)) _).mono ?_
          rintro e u ⟨rfl, hu⟩
          have hu' := hu.symm
          subst hu'
          rw [HNM2.out]
          go_wp2
          go_ret
          exact ⟨rfl, HB3.out⟩

theorem nameLong_lifted (os : Os) (started : os.Started) (H : Type) (enc : TypeId × Value → H) :
    ReturnsInHanded {} Try.checked os 3 .any (Rows.nameLongSpec.pre6 enc Try.prog Try.f3 Rows.nameLongRow.domain false) (Rows.nameLongSpec.post enc Try.prog Try.f3 false true false false) := by
  refine returnsInHanded_of_change (C := Try.checked) (by kernel_rfl) started (by kernel_rfl) Try.func3
    (ChangeSpec.witness6 (enc := enc) (C := Try.checked) false ⟨#[], #[.int .i64 0, .int .i64 0], []⟩ 8 (by kernel_rfl) (by kernel_rfl) (by kernel_rfl) (by kernel_rfl)) ?_
  intro W base args ds gs before hval0 hW hcnd _
  have hval : ∀ (j : Nat) t v, Try.f3.params[j]? = some t → args[j]? = some v → Value.okWide Try.prog W .any base t v := hval0
  have hW' := hW
  obtain ⟨p, q, hA0, hV, rfl, hfz, hnd⟩ := hW
  have hA : DataW.TrodAll enc Try.prog W 0 (fun _ => true) true Try.f3.params.toList args.toList ds p := hA0
  rw [Try.params3] at hA hval
  obtain ⟨v0, vs0, d0, ds0, p0, q0, hargs, rfl, rfl, h0, r0⟩ := trodAll_cons hA
  obtain ⟨v1, vs1, d1, ds1, p1, q1, rfl, rfl, rfl, h1, r1⟩ := trodAll_cons r0
  obtain ⟨rfl, rfl, rfl⟩ := trodAll_nil r1
  obtain rfl : args = #[v0, v1] := by cases args; simp_all
  obtain ⟨rfl, rfl⟩ := trodVars_none hV
  obtain ⟨a0, rfl, rfl, rfl, w0⟩ := open_int Try.underlying3 (hval 0 3 v0 rfl rfl) h0
  obtain ⟨a1, rfl, rfl, rfl, w1⟩ := open_int Try.underlying3 (hval 1 3 v1 rfl rfl) h1
  clear hA0 hval0
  refine (nameLong_walk a0 w0 a1 w1 W).mono fun e W' ⟨he, bel⟩ => ?_
  subst he
  exact ⟨_, rfl, _, _, _, [], _, [], hW', trodAll_mk1 (shut_bool Try.underlying4 _), (trodAll_cons_mk (shut_int Try.underlying3 w0) (trodAll_cons_mk (shut_int Try.underlying3 w1) trodAll_mk0)), rfl, bel.frame _, fun h => by cases h⟩

theorem nameLong_over : Rows.nameLongRow.holds Try.pinned (OpenSpec.ofChange Rows.nameLongSpec) :=
  OpenClaim.holds_of_wide 3 Try.f3 rfl rfl rfl rfl rfl rfl rfl ⟨rfl, rfl, rfl, rfl, rfl⟩ rfl rfl rfl rfl rfl (by kernel_rfl) Try.func3 (by kernel_rfl)
    (of_decide_eq_true (by kernel_rfl)) (by unfold Func.isWrapper; rw [if_neg (by decide +kernel)]; exact ⟨rfl, rfl⟩)
    (fun os started H enc _ => nameLong_lifted os started H enc)

/-- THE STATEMENT. -/
theorem nameLong_proved : Rows.NameLongSaid := nameLong_over
end Go.Proofs.Ytbdpfoidhffalac
