/-
  The reader of a batch's bytes: memory, and the walks of take and number.
-/
import Derived.Test.YtaaenhjhjclilabDoorBkPur
import Derived.Test.YtaaenhjhjclilabDoorBkBy
import Derived.Test.YtaaenhjhjclilabDoorScrMem
namespace Go.Proofs.YtaaenhjhjclilabDoor
open Go.RowKit Go.Proofs

/-- The reader's block: what is left, and whether it was short. -/
def RdB (w : World) (b : Nat) (r : List UInt8 × Bool) : Prop := ∃ v, w.heap[b]? = some (.cells #[v, .bool r.2] 69) ∧ BysM (fun k => k < b) w v r.1
theorem RdB.lt {w : World} {b : Nat} {r : List UInt8 × Bool} (h : RdB w b r) : b < w.heap.size := by
  obtain ⟨v, h, _⟩ := h; exact (Array.getElem?_eq_some_iff.1 h).1
theorem RdB.next {w w' : World} {b : Nat} {r : List UInt8 × Bool} (h : RdB w b r) (hb : Below w.heap.size w w') : RdB w' b r := by
  obtain ⟨v, h1, h2⟩ := h; exact ⟨v, bk_low hb h1, h2.next hb⟩
/-- What take hands back. -/
def RtP (b : Nat) (w : World) (x : List UInt8 × (List UInt8 × Bool)) (e : Ending) (w' : World) : Prop := ∃ a c, e = .returned (.slice a x.1.length c) ∧ BysM (fun k => k < b) w' (.slice a x.1.length c) x.1 ∧ RdB w' b x.2 ∧ But b w w'
theorem bys_set {b j : Nat} {w : World} {v u : Value} {l : List UInt8} (h : BysM (fun k => k < b) w v l) : BysM (fun k => k < b) (w.setCell ⟨b, j, none⟩ u) v l := h.imp (fun _ h => h) fun _ _ hk => bk_other (Nat.ne_of_lt hk)
theorem bk_butset {b : Nat} (w : World) (j : Nat) (v : Value) : But b w (w.setCell ⟨b, j, none⟩ v) := ⟨rfl, rfl, rfl, by simp [World.setCell], fun _ _ hn => Below.heap_setCell _ _ _ _ hn⟩
set_option maxHeartbeats 1000000 in
set_option maxRecDepth 100000 in
theorem bktake_any (k b : Nat) (r : List UInt8 × Bool) (w : World) (h : RdB w b r) :
    Calls Tryd.prog 45 #[.pointer (some ⟨b, 0, none⟩), .int .i64 k] w (RtP b w (takeR k r)) := by
  obtain ⟨l, s⟩ := r
  obtain ⟨v, h1, h2⟩ := h
  obtain ⟨a, c, rfl, hc, hm⟩ := h2.slice
  simp only at *
  obtain ⟨x0, x1, f0, f1⟩ := bk_box2 h1
  unfold maxLen at hm
  by_cases hk : k ≤ l.length
  · have hkc : ¬ ((l.length : Nat) : Int) < (k : Int) := by omega
    have HT := bhid (show takeR k (l, s) = (l.take k, (l.drop k, s)) by unfold takeR; rw [if_pos hk])
    have k0 : (0 : Int) ≤ (k : Int) := by omega
    have kc : (k : Int) ≤ (c : Int) := by omega
    have H1 := bhid h1
    have H2 := bhid h2
    rw [HT.out]
    have hdl : (l.take k).length = k := by rw [List.length_take]; omega
    have HDL := bhid hdl
    clear h1 h2 hdl
    cases a with
    | none =>
      have hl0 : l = [] := by
        cases l with
        | nil => rfl
        | cons x l => obtain ⟨b, o, e, _⟩ := H2.out.at (j := 0) (x := x) rfl; cases e
      subst hl0
      have hk0 : k = 0 := by simpa using hk
      subst hk0
      have HE := bhid (show ∀ u c', RtP b w ([], ([], s)) (.returned (.slice none 0 c')) (w.setCell ⟨b, 0, none⟩ (.slice none 0 u)) from fun u c' => ⟨none, c', rfl, BysM.nil _ _ _ _, ⟨_, bk_put0 H1.out, BysM.nil _ _ _ _⟩, bk_butset _ _ _⟩)
      clear HT HDL
      go_enter Tryd.func45, Tryd.ntmps45
      go_wp2
      all_goals
        go_ret
        exact HE.out _ _
    | some ad =>
      have HE := bhid (show ∀ v', BysM (fun k => k < b) w v' (l.drop k) → RtP b w (l.take k, (l.drop k, s)) (.returned (.slice (some ad) k c)) (w.setCell ⟨b, 0, none⟩ v') from fun v' hv' => ⟨some ad, c, by rw [HDL.out], by rw [HDL.out]; exact bys_set (H2.out.take hk), ⟨_, bk_put0 H1.out, bys_set hv'⟩, bk_butset _ _ _⟩)
      have HV1 := bhid (H2.out.drop hk)
      have HV2 := bhid (show l.length = k → ∀ a' c', BysM (fun k => k < b) w (.slice a' 0 c') (l.drop k) from fun e a' c' => by rw [List.drop_of_length_le (by omega)]; exact BysM.nil _ _ _ _)
      obtain ⟨d, hd⟩ : ∃ d, d = l.take k := ⟨_, rfl⟩
      obtain ⟨d2, hd2⟩ : ∃ d2, d2 = l.drop k := ⟨_, rfl⟩
      rw [← hd, ← hd2] at HE ⊢
      rw [← hd2] at HV1 HV2
      clear HT HDL hd hd2
      go_enter Tryd.func45, Tryd.ntmps45
      go_wp2
      · go_ret
        have hlk : l.length = k := by omega
        rw [h] at HE
        refine HE.out _ ?_
        rw [hlk]
        simpa using HV2.out hlk _ _
      · go_ret
        exact HE.out _ HV1.out
  · have hkc : ((l.length : Nat) : Int) < (k : Int) := by omega
    have HE := bhid (show RtP b w (takeR k (l, s)) (.returned (.slice none 0 0)) ((w.setCell ⟨b, 0, none⟩ (.slice none 0 0)).setCell ⟨b, 1, none⟩ (.bool true)) by
      unfold takeR
      rw [if_neg hk]
      exact ⟨none, 0, rfl, BysM.nil _ _ _ _, ⟨_, bk_put h1, BysM.nil _ _ _ _⟩, (bk_butset _ _ _).trans (bk_butset _ _ _)⟩)
    obtain ⟨y, hy⟩ : ∃ y, y = takeR k (l, s) := ⟨_, rfl⟩
    rw [← hy] at HE ⊢
    obtain ⟨_, _, g0, g1⟩ := bk_box2 (bk_put0 (u := .slice none 0 0) h1)
    clear h1 h2 hy hk
    go_enter Tryd.func45, Tryd.ntmps45
    go_wp2
    go_ret
    exact HE.out
/-- What number hands back. -/
def RnP (b : Nat) (w : World) (x : Nat × (List UInt8 × Bool)) (e : Ending) (w' : World) : Prop := e = .returned (.int .i64 (x.1 : Int)) ∧ RdB w' b x.2 ∧ But b w w'
theorem or_i64 (a b : Nat) (ha : a < 9223372036854775808) (hb : b < 9223372036854775808) : bits .or .i64 (a : Int) (b : Int) = ((a ||| b : Nat) : Int) := by
  have hx : a ||| b < 2 ^ 63 := Nat.or_lt_two_pow (by omega) (by omega)
  have h1 : (BitVec.ofInt 64 (a : Int)).toNat = a := by
    rw [BitVec.ofInt_natCast, BitVec.toNat_ofNat]; exact Nat.mod_eq_of_lt (by omega)
  have h2 : (BitVec.ofInt 64 (b : Int)).toNat = b := by
    rw [BitVec.ofInt_natCast, BitVec.toNat_ofNat]; exact Nat.mod_eq_of_lt (by omega)
  show IntKind.i64.wrap ((BitVec.ofInt 64 (a : Int) ||| BitVec.ofInt 64 (b : Int)).toNat : Int) = _
  rw [BitVec.toNat_or, h1, h2]
  simp only [IntKind.wrap, IntKind.bits, IntKind.signed]
  simp
  omega
theorem or_add (n c : Nat) (hc : c < 256) : n * 256 ||| c = n * 256 + c := by
  have := Nat.shiftLeft_add_eq_or_of_lt (i := 8) (b := c) hc n
  rw [Nat.shiftLeft_eq] at this
  exact this.symm
theorem shl_i64 (n : Nat) (h : n < 1000000000) : Op.shift BinOp.shl IntKind.i64 (n : Int) IntKind.u64 8 = pure (.int .i64 ((n * 256 : Nat) : Int)) := by
  rw [shift_shl_any _ _ _ _ (by decide)]
  have e : IntKind.i64.wrap ((n : Int) * 2 ^ min (8 : Int).toNat IntKind.i64.bits) = ((n * 256 : Nat) : Int) := by
    have e1 : ((2 : Int) ^ min (8 : Int).toNat IntKind.i64.bits) = 256 := by decide
    rw [e1]
    simp only [IntKind.wrap, IntKind.bits, IntKind.signed, Int.natCast_mul]
    simp
    omega
  rw [e]
theorem beN_step {l : List UInt8} {k : Nat} {x : UInt8} (h : l[k]? = some x) : beN (l.take (k + 1)) = beN (l.take k) * 256 + x.toNat := by
  have hk : k < l.length := (List.getElem?_eq_some_iff.1 h).1
  unfold beN
  rw [List.take_succ_eq_append_getElem hk, (List.getElem?_eq_some_iff.1 h).2, List.foldl_append]
  rfl
theorem beN_le : ∀ (l : List UInt8), l.length ≤ 3 → beN l < 16777216 := by
  intro l h
  match l, h with
  | [], _ => simp [beN]
  | [a], _ => have := a.toNat_lt; simp [beN]; omega
  | [a, b], _ => have := a.toNat_lt; have := b.toNat_lt; simp [beN]; omega
  | [a, b, c], _ => have := a.toNat_lt; have := b.toNat_lt; have := c.toNat_lt; simp [beN]; omega
/-- The number of the first bytes. -/
def beT (l : List UInt8) (k : Nat) : Nat := beN (l.take k)
set_option maxHeartbeats 1000000 in
set_option maxRecDepth 100000 in
theorem rnum_any (k b : Nat) (r : List UInt8 × Bool) (w : World) (h : RdB w b r) (hk : k ≤ 3) :
    Calls Tryd.prog 46 #[.pointer (some ⟨b, 0, none⟩), .int .i64 k] w (RnP b w (numR k r)) := by
  have HT := bhid (bktake_any k b r w h)
  have HN := bhid (show ((numR k r).1 = beN (takeR k r).1) ∧ (numR k r).2 = (takeR k r).2 from ⟨rfl, rfl⟩)
  have hxl : (takeR k r).1.length ≤ 3 := by
    unfold takeR
    split
    · rw [List.length_take]; omega
    · simp
  obtain ⟨y, hy⟩ : ∃ y, y = numR k r := ⟨_, rfl⟩
  rw [← hy] at HN ⊢
  generalize takeR k r = x at *
  clear h hk hy
  go_enter Tryd.func46, Tryd.ntmps46
  go_wp2_with fail
  refine HT.out.mono ?_
  rintro e w2 ⟨a, c, rfl, hB, hR, hb⟩
  have HB := bhid hB
  have HR := bhid (show RnP b w y (.returned (.int .i64 (beN x.1 : Int))) w2 from ⟨by rw [HN.out.1], by rw [HN.out.2]; exact hR, hb⟩)
  clear hB hR hb HT
  go_wp2
  go_loopw [5, 12] (fun q v wr => ∃ (i n : Nat), i ≤ x.1.length ∧ q = .int .i64 (n : Int) ∧ v = .int .i64 (i : Int) ∧ Hid (n = beT x.1 i) ∧ n < 16777216 ∧ wr = w2) (fun _ v _ => x.1.length - (intOf v).toNat)
  case atStart => exact ⟨0, 0, Nat.zero_le _, rfl, rfl, rfl, by omega, rfl⟩
  case round =>
    obtain ⟨i, n, hi, rfl, rfl, HV, hn, rfl⟩ := hrel
    by_cases hlt : i < x.1.length
    · have k1 : (i : Int) < (x.1.length : Int) := by omega
      have k0 : (0 : Int) ≤ (i : Int) := by omega
      obtain ⟨z, hz⟩ : ∃ z, x.1[i]? = some z := ⟨_, List.getElem?_eq_getElem hlt⟩
      obtain ⟨bb, o, rfl, _, e0⟩ := HB.out.at hz
      have hsh := shl_i64 n (by omega)
      have hzl := z.toNat_lt
      have hor : bits .or .i64 ((n * 256 : Nat) : Int) (z.toNat : Int) = ((n * 256 + z.toNat : Nat) : Int) := by rw [or_i64 _ _ (by omega) (by omega), or_add _ _ hzl]
      have HV2 := bhid (show n * 256 + z.toNat = beT x.1 (i + 1) by rw [HV.out]; exact (beN_step hz).symm)
      have hn2 : n * 256 + z.toNat < 16777216 := by rw [HV2.out]; exact beN_le _ (by rw [List.length_take]; omega)
      generalize n * 256 + z.toNat = n2 at *
      generalize n * 256 = n1 at *
      clear hz
      go_wp2
      go_roundw
      case rel => first | exact ⟨i + 1, n2, by omega, by first | rfl | go_num, by go_num, HV2, hn2, by first | trivial | rfl⟩ | ((repeat apply Exists.intro); exact ⟨⟨i + 1, n2, by omega, by first | rfl | go_num, by go_num, HV2, hn2, by first | trivial | rfl⟩, rfl⟩)
      case measure => simp [intOf]; omega
    · have k1 : ¬ (i : Int) < (x.1.length : Int) := by omega
      have HE := bhid (show RnP b w y (.returned (.int .i64 (n : Int))) wr by
        have h := HV.out
        unfold beT at h
        rw [List.take_of_length_le (by omega)] at h
        rw [h]
        exact HR.out)
      clear HR HV
      go_wp2
      go_ret
      exact HE.out
end Go.Proofs.YtaaenhjhjclilabDoor
