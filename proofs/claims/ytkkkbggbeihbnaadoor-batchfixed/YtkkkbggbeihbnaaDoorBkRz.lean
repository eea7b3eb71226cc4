/-
  The reader of a batch's bytes: memory, and the walks of take and number.
  The reader of a batch's bytes: entries: the walk.
  The reader of a batch's bytes: batches: the walk.
-/
import Derived.Test.YtkkkbggbeihbnaaDoorBkPur
import Derived.Test.YtkkkbggbeihbnaaDoorBkBz
import Derived.Test.YtkkkbggbeihbnaaDoorScrMem
import Derived.Test.YtkkkbggbeihbnaaDoorBoxMem
import Derived.Test.YtkkkbggbeihbnaaDoorBoxDo
import Derived.RegionTactic
import Derived.BigRegion
import Derived.Test.YtkkkbggbeihbnaaDoorBkEz
namespace Go.Proofs.YtkkkbggbeihbnaaDoor
open Go.RowKit Go.Proofs

/-- The reader's block: what is left, and whether it was short. -/
def RdB (w : World) (b : Nat) (r : List UInt8 × Bool) : Prop := ∃ v, w.heap[b]? = some (.cells #[v, .bool r.2] 79) ∧ BysM (fun k => k < b) w v r.1
theorem RdB.lt {w : World} {b : Nat} {r : List UInt8 × Bool} (h : RdB w b r) : b < w.heap.size := by
  obtain ⟨v, h, _⟩ := h; exact (Array.getElem?_eq_some_iff.1 h).1
theorem RdB.next {w w' : World} {b : Nat} {r : List UInt8 × Bool} (h : RdB w b r) (hb : Below w.heap.size w w') : RdB w' b r := by
  obtain ⟨v, h1, h2⟩ := h; exact ⟨v, bk_low hb h1, h2.next hb⟩
/-- What take hands back. -/
def RtP (b : Nat) (w : World) (x : List UInt8 × (List UInt8 × Bool)) (e : Ending) (w' : World) : Prop := ∃ a c, e = .returned (.slice a x.1.length c) ∧ BysM (fun k => k < b) w' (.slice a x.1.length c) x.1 ∧ RdB w' b x.2 ∧ But b w w'
theorem bys_set {b j : Nat} {w : World} {v u : Value} {l : List UInt8} (h : BysM (fun k => k < b) w v l) : BysM (fun k => k < b) (w.setCell ⟨b, j, none⟩ u) v l := h.imp (fun _ h => h) fun _ _ hk => bk_other (Nat.ne_of_lt hk)
theorem bk_butset {b : Nat} (w : World) (j : Nat) (v : Value) : But b w (w.setCell ⟨b, j, none⟩ v) := ⟨rfl, rfl, rfl, by simp [World.setCell], fun _ _ hn => Below.heap_setCell _ _ _ _ hn⟩
set_option maxHeartbeats 1000000 in
set_option maxRecDepth 100000 in
theorem bktake_any (k b : Nat) (r : List UInt8 × Bool) (w : World) (h : RdB w b r) :
    Calls Tryd.prog 56 #[.pointer (some ⟨b, 0, none⟩), .int .i64 k] w (RtP b w (takeR k r)) := by
  obtain ⟨l, s⟩ := r
  obtain ⟨v, h1, h2⟩ := h
  obtain ⟨a, c, rfl, hc, hm⟩ := h2.slice
  simp only at *
  obtain ⟨x0, x1, f0, f1⟩ := bk_box2 h1
  unfold maxLen at hm
  by_cases hk : k ≤ l.length
  · have hkc : ¬ ((l.length : Nat) : Int) < (k : Int) := by omega
    have HT := bhid (show takeR k (l, s) = (l.take k, (l.drop k, s)) by unfold takeR; rw [if_pos hk])
    have k0 : (0 : Int) ≤ (k : Int) := by omega
    have kc : (k : Int) ≤ (c : Int) := by omega
    have H1 := bhid h1
    have H2 := bhid h2
    rw [HT.out]
    have hdl : (l.take k).length = k := by rw [List.length_take]; omega
    have HDL := bhid hdl
    clear h1 h2 hdl
    cases a with
    | none =>
      have hl0 : l = [] := by
        cases l with
        | nil => rfl
        | cons x l => obtain ⟨b, o, e, _⟩ := H2.out.at (j := 0) (x := x) rfl; cases e
      subst hl0
      have hk0 : k = 0 := by simpa using hk
      subst hk0
      have HE := bhid (show ∀ u c', RtP b w ([], ([], s)) (.returned (.slice none 0 c')) (w.setCell ⟨b, 0, none⟩ (.slice none 0 u)) from fun u c' => ⟨none, c', rfl, BysM.nil _ _ _ _, ⟨_, bk_put0 H1.out, BysM.nil _ _ _ _⟩, bk_butset _ _ _⟩)
      clear HT HDL
      go_enter Tryd.func56, Tryd.ntmps56
      go_wp2
      all_goals
        go_ret
        exact HE.out _ _
    | some ad =>
      have HE := bhid (show ∀ v', BysM (fun k => k < b) w v' (l.drop k) → RtP b w (l.take k, (l.drop k, s)) (.returned (.slice (some ad) k c)) (w.setCell ⟨b, 0, none⟩ v') from fun v' hv' => ⟨some ad, c, by rw [HDL.out], by rw [HDL.out]; exact bys_set (H2.out.take hk), ⟨_, bk_put0 H1.out, bys_set hv'⟩, bk_butset _ _ _⟩)
      have HV1 := bhid (H2.out.drop hk)
      have HV2 := bhid (show l.length = k → ∀ a' c', BysM (fun k => k < b) w (.slice a' 0 c') (l.drop k) from fun e a' c' => by rw [List.drop_of_length_le (by omega)]; exact BysM.nil _ _ _ _)
      obtain ⟨d, hd⟩ : ∃ d, d = l.take k := ⟨_, rfl⟩
      obtain ⟨d2, hd2⟩ : ∃ d2, d2 = l.drop k := ⟨_, rfl⟩
      rw [← hd, ← hd2] at HE ⊢
      rw [← hd2] at HV1 HV2
      clear HT HDL hd hd2
      go_enter Tryd.func56, Tryd.ntmps56
      go_wp2
      · go_ret
        have hlk : l.length = k := by omega
        rw [h] at HE
        refine HE.out _ ?_
        rw [hlk]
        simpa using HV2.out hlk _ _
      · go_ret
        exact HE.out _ HV1.out
  · have hkc : ((l.length : Nat) : Int) < (k : Int) := by omega
    have HE := bhid (show RtP b w (takeR k (l, s)) (.returned (.slice none 0 0)) ((w.setCell ⟨b, 0, none⟩ (.slice none 0 0)).setCell ⟨b, 1, none⟩ (.bool true)) by
      unfold takeR
      rw [if_neg hk]
      exact ⟨none, 0, rfl, BysM.nil _ _ _ _, ⟨_, bk_put h1, BysM.nil _ _ _ _⟩, (bk_butset _ _ _).trans (bk_butset _ _ _)⟩)
    obtain ⟨y, hy⟩ : ∃ y, y = takeR k (l, s) := ⟨_, rfl⟩
    rw [← hy] at HE ⊢
    obtain ⟨_, _, g0, g1⟩ := bk_box2 (bk_put0 (u := .slice none 0 0) h1)
    clear h1 h2 hy hk
    go_enter Tryd.func56, Tryd.ntmps56
    go_wp2
    go_ret
    exact HE.out
/-- What number hands back. -/
def RnP (b : Nat) (w : World) (x : Nat × (List UInt8 × Bool)) (e : Ending) (w' : World) : Prop := e = .returned (.int .i64 (x.1 : Int)) ∧ RdB w' b x.2 ∧ But b w w'
theorem or_i64 (a b : Nat) (ha : a < 9223372036854775808) (hb : b < 9223372036854775808) : bits .or .i64 (a : Int) (b : Int) = ((a ||| b : Nat) : Int) := by
  have hx : a ||| b < 2 ^ 63 := Nat.or_lt_two_pow (by omega) (by omega)
  have h1 : (BitVec.ofInt 64 (a : Int)).toNat = a := by
    rw [BitVec.ofInt_natCast, BitVec.toNat_ofNat]; exact Nat.mod_eq_of_lt (by omega)
  have h2 : (BitVec.ofInt 64 (b : Int)).toNat = b := by
    rw [BitVec.ofInt_natCast, BitVec.toNat_ofNat]; exact Nat.mod_eq_of_lt (by omega)
  show IntKind.i64.wrap ((BitVec.ofInt 64 (a : Int) ||| BitVec.ofInt 64 (b : Int)).toNat : Int) = _
  rw [BitVec.toNat_or, h1, h2]
  simp only [IntKind.wrap, IntKind.bits, IntKind.signed]
  simp
  omega
theorem or_add (n c : Nat) (hc : c < 256) : n * 256 ||| c = n * 256 + c := by
  have := Nat.shiftLeft_add_eq_or_of_lt (i := 8) (b := c) hc n
  rw [Nat.shiftLeft_eq] at this
  exact this.symm
theorem shl_i64 (n : Nat) (h : n < 1000000000) : Op.shift BinOp.shl IntKind.i64 (n : Int) IntKind.u64 8 = pure (.int .i64 ((n * 256 : Nat) : Int)) := by
  rw [shift_shl_any _ _ _ _ (by decide)]
  have e : IntKind.i64.wrap ((n : Int) * 2 ^ min (8 : Int).toNat IntKind.i64.bits) = ((n * 256 : Nat) : Int) := by
    have e1 : ((2 : Int) ^ min (8 : Int).toNat IntKind.i64.bits) = 256 := by decide
    rw [e1]
    simp only [IntKind.wrap, IntKind.bits, IntKind.signed, Int.natCast_mul]
    simp
    omega
  rw [e]
theorem beN_step {l : List UInt8} {k : Nat} {x : UInt8} (h : l[k]? = some x) : beN (l.take (k + 1)) = beN (l.take k) * 256 + x.toNat := by
  have hk : k < l.length := (List.getElem?_eq_some_iff.1 h).1
  unfold beN
  rw [List.take_succ_eq_append_getElem hk, (List.getElem?_eq_some_iff.1 h).2, List.foldl_append]
  rfl
theorem beN_le : ∀ (l : List UInt8), l.length ≤ 3 → beN l < 16777216 := by
  intro l h
  match l, h with
  | [], _ => simp [beN]
  | [a], _ => have := a.toNat_lt; simp [beN]; omega
  | [a, b], _ => have := a.toNat_lt; have := b.toNat_lt; simp [beN]; omega
  | [a, b, c], _ => have := a.toNat_lt; have := b.toNat_lt; have := c.toNat_lt; simp [beN]; omega
/-- The number of the first bytes. -/
def beT (l : List UInt8) (k : Nat) : Nat := beN (l.take k)
set_option maxHeartbeats 1000000 in
set_option maxRecDepth 100000 in
theorem rnum_any (k b : Nat) (r : List UInt8 × Bool) (w : World) (h : RdB w b r) (hk : k ≤ 3) :
    Calls Tryd.prog 54 #[.pointer (some ⟨b, 0, none⟩), .int .i64 k] w (RnP b w (numR k r)) := by
  have HT := bhid (bktake_any k b r w h)
  have HN := bhid (show ((numR k r).1 = beN (takeR k r).1) ∧ (numR k r).2 = (takeR k r).2 from ⟨rfl, rfl⟩)
  have hxl : (takeR k r).1.length ≤ 3 := by
    unfold takeR
    split
    · rw [List.length_take]; omega
    · simp
  obtain ⟨y, hy⟩ : ∃ y, y = numR k r := ⟨_, rfl⟩
  rw [← hy] at HN ⊢
  generalize takeR k r = x at *
  clear h hk hy
  go_enter Tryd.func54, Tryd.ntmps54
  go_wp2_with fail
  refine HT.out.mono ?_
  rintro e w2 ⟨a, c, rfl, hB, hR, hb⟩
  have HB := bhid hB
  have HR := bhid (show RnP b w y (.returned (.int .i64 (beN x.1 : Int))) w2 from ⟨by rw [HN.out.1], by rw [HN.out.2]; exact hR, hb⟩)
  clear hB hR hb HT
  go_wp2
  go_loopw [5, 12] (fun q v wr => ∃ (i n : Nat), i ≤ x.1.length ∧ q = .int .i64 (n : Int) ∧ v = .int .i64 (i : Int) ∧ Hid (n = beT x.1 i) ∧ n < 16777216 ∧ wr = w2) (fun _ v _ => x.1.length - (intOf v).toNat)
  case atStart => exact ⟨0, 0, Nat.zero_le _, rfl, rfl, rfl, by omega, rfl⟩
  case round =>
    obtain ⟨i, n, hi, rfl, rfl, HV, hn, rfl⟩ := hrel
    by_cases hlt : i < x.1.length
    · have k1 : (i : Int) < (x.1.length : Int) := by omega
      have k0 : (0 : Int) ≤ (i : Int) := by omega
      obtain ⟨z, hz⟩ : ∃ z, x.1[i]? = some z := ⟨_, List.getElem?_eq_getElem hlt⟩
      obtain ⟨bb, o, rfl, _, e0⟩ := HB.out.at hz
      have hsh := shl_i64 n (by omega)
      have hzl := z.toNat_lt
      have hor : bits .or .i64 ((n * 256 : Nat) : Int) (z.toNat : Int) = ((n * 256 + z.toNat : Nat) : Int) := by rw [or_i64 _ _ (by omega) (by omega), or_add _ _ hzl]
      have HV2 := bhid (show n * 256 + z.toNat = beT x.1 (i + 1) by rw [HV.out]; exact (beN_step hz).symm)
      have hn2 : n * 256 + z.toNat < 16777216 := by rw [HV2.out]; exact beN_le _ (by rw [List.length_take]; omega)
      generalize n * 256 + z.toNat = n2 at *
      generalize n * 256 = n1 at *
      clear hz
      go_wp2
      go_roundw
      case rel => first | exact ⟨i + 1, n2, by omega, by first | rfl | go_num, by go_num, HV2, hn2, by first | trivial | rfl⟩ | ((repeat apply Exists.intro); exact ⟨⟨i + 1, n2, by omega, by first | rfl | go_num, by go_num, HV2, hn2, by first | trivial | rfl⟩, rfl⟩)
      case measure => simp [intOf]; omega
    · have k1 : ¬ (i : Int) < (x.1.length : Int) := by omega
      have HE := bhid (show RnP b w y (.returned (.int .i64 (n : Int))) wr by
        have h := HV.out
        unfold beT at h
        rw [List.take_of_length_le (by omega)] at h
        rw [h]
        exact HR.out)
      clear HR HV
      go_wp2
      go_ret
      exact HE.out
end Go.Proofs.YtkkkbggbeihbnaaDoor

namespace Go.Proofs.YtkkkbggbeihbnaaDoor
open Go.RowKit Go.Proofs

theorem But.obj {b p : Nat} {w w' : World} {o : Obj} (h : But b w w') (hp : w.heap[p]? = some o) (hn : p ≠ b) : w'.heap[p]? = some o := (h.block p (Array.getElem?_eq_some_iff.1 hp).1 hn).trans hp
theorem RdB.far {w w' : World} {b : Nat} {r : List UInt8 × Bool} (h : RdB w b r) (hb : Below (b + 1) w w') : RdB w' b r := by
  obtain ⟨v, h1, h2⟩ := h
  exact ⟨v, (hb.block b (by omega)).trans h1, h2.imp (fun _ h => h) fun k _ hk => hb.block k (by omega)⟩
/-- The reader's states, text by text, and the texts so far. -/
def rdS (r : List UInt8 × Bool) : Nat → List UInt8 × Bool
  | 0 => r
  | i + 1 => (txR (rdS r i)).2
theorem rdS_succ (r : List UInt8 × Bool) (i : Nat) : rdS r (i + 1) = (txR (rdS r i)).2 := by simp only [rdS]
def rdX (r : List UInt8 × Bool) (i : Nat) : ByteArray := S (txR (rdS r i)).1
def rdC (r : List UInt8 × Bool) : Nat → Array Value
  | 0 => #[.string ⟨#[]⟩, .string ⟨#[]⟩, .string ⟨#[]⟩]
  | 1 => #[.string (rdX r 0), .string ⟨#[]⟩, .string ⟨#[]⟩]
  | 2 => #[.string (rdX r 0), .string (rdX r 1), .string ⟨#[]⟩]
  | _ => #[.string (rdX r 0), .string (rdX r 1), .string (rdX r 2)]
/-- What entry hands back. -/
def ReP (b : Nat) (w : World) (x : Ent × (List UInt8 × Bool)) (e : Ending) (w' : World) : Prop := e = .returned (.agg #[.int .i64 x.1.kind, .string (S x.1.box), .int .i64 x.1.uid, .int .i64 x.1.flags, .string (S x.1.goal), .string (S x.1.text)]) ∧ RdB w' b x.2 ∧ But b w w'
theorem bk_box3 {w : World} {p : Nat} {v0 v1 v2 : Value} {t : TypeId} (h : w.heap[p]? = some (.cells #[v0, v1, v2] t)) : w.cell? ⟨p, 0, none⟩ = some v0 ∧ w.cell? ⟨p, 1, none⟩ = some v1 ∧ w.cell? ⟨p, 2, none⟩ = some v2 ∧ w.frozen? ⟨p, 0, none⟩ = false ∧ w.frozen? ⟨p, 1, none⟩ = false ∧ w.frozen? ⟨p, 2, none⟩ = false := by
  refine ⟨?_, ?_, ?_, ?_, ?_, ?_⟩ <;> simp [World.cell?, World.frozen?, h]
theorem bk_put3 {w : World} {p j : Nat} {cs : Array Value} {u : Value} {t : TypeId} (h : w.heap[p]? = some (.cells cs t)) : (w.setCell ⟨p, j, none⟩ u).heap[p]? = some (.cells (cs.setIfInBounds j u) t) := heap_setCell_same w p j cs t u h
theorem bk_box6f {w : World} {p : Nat} {v0 v1 v2 v3 v4 v5 : Value} {t : TypeId} (h : w.heap[p]? = some (.cells #[v0, v1, v2, v3, v4, v5] t)) : w.frozen? ⟨p, 0, none⟩ = false ∧ w.frozen? ⟨p, 1, none⟩ = false ∧ w.frozen? ⟨p, 2, none⟩ = false ∧ w.frozen? ⟨p, 3, none⟩ = false ∧ w.frozen? ⟨p, 4, none⟩ = false ∧ w.frozen? ⟨p, 5, none⟩ = false := by
  refine ⟨?_, ?_, ?_, ?_, ?_, ?_⟩ <;> simp [World.frozen?, h]
theorem low6 {B p : Nat} (W : World) (v0 v1 v2 v3 v4 v5 : Value) (hp : B ≤ p) : Below B W ((((((W.setCell ⟨p, 0, none⟩ v0).setCell ⟨p, 1, none⟩ v1).setCell ⟨p, 2, none⟩ v2).setCell ⟨p, 3, none⟩ v3).setCell ⟨p, 4, none⟩ v4).setCell ⟨p, 5, none⟩ v5) := by
  have h0 := (Below.refl B W).setCell (p := ⟨p, 0, none⟩) hp v0
  have h1 := h0.setCell (p := ⟨p, 1, none⟩) hp v1
  have h2 := h1.setCell (p := ⟨p, 2, none⟩) hp v2
  have h3 := h2.setCell (p := ⟨p, 3, none⟩) hp v3
  have h4 := h3.setCell (p := ⟨p, 4, none⟩) hp v4
  exact h4.setCell (p := ⟨p, 5, none⟩) hp v5
theorem ReP.fin {b : Nat} {w W : World} {k u f : Int} {B0 B1 B2 : List UInt8} {R : List UInt8 × Bool} {y : Ent × (List UInt8 × Bool)} (hy : y = (⟨k, B0, u, f, B1, B2⟩, R)) (hr : RdB W b R) (hu : But b w W) (hb : b < w.heap.size) :
    ReP b w y (.returned (.agg #[.int .i64 k, .string (S B0), .int .i64 u, .int .i64 f, .string (S B1), .string (S B2)])) ((((((W.setCell ⟨w.heap.size, 0, none⟩ (.int .i64 k)).setCell ⟨w.heap.size, 1, none⟩ (.string (S B0))).setCell ⟨w.heap.size, 2, none⟩ (.int .i64 u)).setCell ⟨w.heap.size, 3, none⟩ (.int .i64 f)).setCell ⟨w.heap.size, 4, none⟩ (.string (S B1))).setCell ⟨w.heap.size, 5, none⟩ (.string (S B2))) := by
  subst hy
  have h := low6 (B := w.heap.size) W (.int .i64 k) (.string (S B0)) (.int .i64 u) (.int .i64 f) (.string (S B1)) (.string (S B2)) (Nat.le_refl _)
  exact ⟨rfl, hr.far (h.mono (by omega)), h.os.trans hu.os, h.tape.trans hu.tape, h.output.trans hu.output, Nat.le_trans hu.size h.size, fun q hq hn => (h.block q hq).trans (hu.block q hq hn)⟩
theorem six_put {W : World} {p : Nat} {u0 u1 u2 u3 u4 u5 v0 v1 v2 v3 v4 v5 : Value} {t : TypeId} (h : W.heap[p]? = some (.cells #[u0, u1, u2, u3, u4, u5] t)) : ((((((W.setCell ⟨p, 0, none⟩ v0).setCell ⟨p, 1, none⟩ v1).setCell ⟨p, 2, none⟩ v2).setCell ⟨p, 3, none⟩ v3).setCell ⟨p, 4, none⟩ v4).setCell ⟨p, 5, none⟩ v5).heap[p]? = some (.cells #[v0, v1, v2, v3, v4, v5] t) := by
  have := bk_put3 (j := 5) (u := v5) (bk_put3 (j := 4) (u := v4) (bk_put3 (j := 3) (u := v3) (bk_put3 (j := 2) (u := v2) (bk_put3 (j := 1) (u := v1) (bk_put3 (j := 0) (u := v0) h)))))
  simp only [List.setIfInBounds_toArray, List.set_cons_succ, List.set_cons_zero] at this
  exact this
set_option maxHeartbeats 1000000 in
set_option maxRecDepth 100000 in
theorem rent_any (b : Nat) (r : List UInt8 × Bool) (w : World) (h : RdB w b r) :
    Calls Tryd.prog 55 #[.pointer (some ⟨b, 0, none⟩)] w (ReP b w (entR r)) := by
  obtain ⟨y, hy⟩ : ∃ y, y = entR r := ⟨_, rfl⟩
  obtain ⟨k1, hk1⟩ : ∃ x, x = numR 1 r := ⟨_, rfl⟩
  obtain ⟨k2, hk2⟩ : ∃ x, x = numR 1 k1.2 := ⟨_, rfl⟩
  obtain ⟨k3, hk3⟩ : ∃ x, x = numR 3 k2.2 := ⟨_, rfl⟩
  have HY := bhid (show y = (⟨k1.1, (txR (rdS k3.2 0)).1, k3.1, k2.1, (txR (rdS k3.2 1)).1, (txR (rdS k3.2 2)).1⟩, rdS k3.2 3) by
    rw [hy, hk3, hk2, hk1]
    simp only [entR, rdS])
  obtain ⟨B0, hB0⟩ : ∃ z, z = (txR (rdS k3.2 0)).1 := ⟨_, rfl⟩
  obtain ⟨B1, hB1⟩ : ∃ z, z = (txR (rdS k3.2 1)).1 := ⟨_, rfl⟩
  obtain ⟨B2, hB2⟩ : ∃ z, z = (txR (rdS k3.2 2)).1 := ⟨_, rfl⟩
  obtain ⟨R3, hR3⟩ : ∃ z, z = rdS k3.2 3 := ⟨_, rfl⟩
  rw [← hB0, ← hB1, ← hB2, ← hR3] at HY
  have HB0 := bhid hB0
  have HB1 := bhid hB1
  have HB2 := bhid hB2
  have HR3 := bhid hR3
  clear hB0 hB1 hB2 hR3
  rw [← hy]
  have HN1 := bhid (fun u (hu : RdB u b r) => rnum_any 1 b r u hu (by decide))
  rw [← hk1] at HN1
  have HN2 := bhid (fun u (hu : RdB u b k1.2) => rnum_any 1 b k1.2 u hu (by decide))
  rw [← hk2] at HN2
  have HN3 := bhid (fun u (hu : RdB u b k2.2) => rnum_any 3 b k2.2 u hu (by decide))
  rw [← hk3] at HN3
  clear hy hk1 hk2 hk3
  obtain ⟨W1, hW1⟩ : ∃ W1, W1 = w.alloc (.cells #[.int .i64 0, .string ⟨#[]⟩, .int .i64 0, .int .i64 0, .string ⟨#[]⟩, .string ⟨#[]⟩] 70) := ⟨_, rfl⟩
  have HWE := bhid hW1
  have hB1 : Below w.heap.size w W1 := by rw [hW1]; exact (Below.refl _ _).alloc (Nat.le_refl _) _
  have hp : W1.heap[w.heap.size]? = some (.cells #[.int .i64 0, .string ⟨#[]⟩, .int .i64 0, .int .i64 0, .string ⟨#[]⟩, .string ⟨#[]⟩] 70) := by rw [hW1]; exact heap_alloc_new w _
  have HP := bhid hp
  have HBL := bhid h.lt
  have HR1 := bhid (HN1.out W1 (h.next hB1))
  have HU1 := bhid (show But b w W1 from But.of hB1)
  clear h hW1 hB1 hp HN1
  go_enter Tryd.func55, Tryd.ntmps55
  go_wp2_with fail
  rw [← HWE.out]
  refine HR1.out.mono ?_
  rintro e w2 ⟨rfl, hr2, hu2⟩
  have HP2 := bhid (hu2.obj HP.out (by have := HBL.out; omega))
  have HU2 := bhid (HU1.out.trans hu2)
  have HR2 := bhid (HN2.out w2 hr2)
  clear hr2 hu2
  go_wp2_with fail
  refine HR2.out.mono ?_
  rintro e w3 ⟨rfl, hr3, hu3⟩
  have HP3 := bhid (hu3.obj HP2.out (by have := HBL.out; omega))
  have HU3 := bhid (HU2.out.trans hu3)
  have HRq := bhid (HN3.out w3 hr3)
  clear hr3 hu3
  go_wp2_with fail
  refine HRq.out.mono ?_
  rintro e w4 ⟨rfl, hr4, hu4⟩
  have HP4 := bhid (hu4.obj HP3.out (by have := HBL.out; omega))
  have HU4 := bhid (HU3.out.trans hu4)
  obtain ⟨W5, hW5⟩ : ∃ W5, W5 = (w4.alloc (.cells #[.int .i64 k1.1, .string ⟨#[]⟩, .int .i64 k3.1, .int .i64 k2.1, .string ⟨#[]⟩, .string ⟨#[]⟩] 70)).alloc (.cells #[.string ⟨#[]⟩, .string ⟨#[]⟩, .string ⟨#[]⟩] 115) := ⟨_, rfl⟩
  have HWE5 := bhid hW5
  have hB5 : Below w4.heap.size w4 W5 := by rw [hW5]; exact ((Below.refl _ _).alloc (Nat.le_refl _) _).alloc (by simp) _
  have hx5 : W5.heap[w4.heap.size]? = some (.cells #[.int .i64 k1.1, .string ⟨#[]⟩, .int .i64 k3.1, .int .i64 k2.1, .string ⟨#[]⟩, .string ⟨#[]⟩] 70) := by
    rw [hW5, Below.heap_alloc _ _ _ (by simp)]
    exact heap_alloc_new w4 _
  have ht5 : W5.heap[w4.heap.size + 1]? = some (.cells (rdC k3.2 0) 115) := by
    rw [hW5]
    have := heap_alloc_new (w4.alloc (.cells #[.int .i64 k1.1, .string ⟨#[]⟩, .int .i64 k3.1, .int .i64 k2.1, .string ⟨#[]⟩, .string ⟨#[]⟩] 70)) (.cells #[.string ⟨#[]⟩, .string ⟨#[]⟩, .string ⟨#[]⟩] 115)
    simpa [rdC] using this
  have HX5 := bhid hx5
  have HT5 := bhid ht5
  have HP5 := bhid (bk_low hB5 HP4.out)
  have HR5 := bhid (show RdB W5 b (rdS k3.2 0) from hr4.next hB5)
  have HU5 := bhid (HU4.out.trans (But.of hB5))
  have HN := bhid (show b < w4.heap.size from hr4.lt)
  have HN2' := bhid (show w.heap.size < w4.heap.size from (Array.getElem?_eq_some_iff.1 HP4.out).1)
  clear hr4 hu4 hW5 hB5 hx5 ht5
  go_upto_region 3 with fail
  rw [← HWE5.out]
  go_wp2
  go_loopw [13] (fun v wr => ∃ (i : Nat), i ≤ 3 ∧ v = .int .i64 (i : Int) ∧ Hid (RdB wr b (rdS k3.2 i)) ∧ Hid (wr.heap[w4.heap.size + 1]? = some (.cells (rdC k3.2 i) 115)) ∧ Hid (wr.heap[w.heap.size]? = some (.cells #[.int .i64 0, .string ⟨#[]⟩, .int .i64 0, .int .i64 0, .string ⟨#[]⟩, .string ⟨#[]⟩] 70)) ∧ Hid (wr.heap[w4.heap.size]? = some (.cells #[.int .i64 k1.1, .string ⟨#[]⟩, .int .i64 k3.1, .int .i64 k2.1, .string ⟨#[]⟩, .string ⟨#[]⟩] 70)) ∧ Hid (But b w wr)) (fun v _ => (3 - intOf v).toNat)
  case atStart => exact ⟨0, by omega, rfl, HR5, HT5, HP5, HX5, HU5⟩
  case round =>
    obtain ⟨i, hi3, rfl, HR, HA, HPX, HXX, HU⟩ := hrel
    by_cases hi : i = 3
    · subst hi
      have HRX := bhid (show RdB wr b R3 by have h := HR.out; rw [← HR3.out] at h; exact h)
      obtain ⟨t0, t1, t2, _, _, _⟩ := bk_box3 (show wr.heap[w4.heap.size + 1]? = some (.cells #[.string (S B0), .string (S B1), .string (S B2)] 115) by
        have h := HA.out
        simp only [rdC, rdX] at h
        rw [← HB0.out, ← HB1.out, ← HB2.out] at h
        exact h)
      clear HR HA
      have hne1 : w4.heap.size ≠ w4.heap.size + 1 := by omega
      have hne2 : w4.heap.size + 1 ≠ w4.heap.size := by omega
      obtain ⟨x0, x1, x2, x3, x4, x5⟩ := box6' HXX.out
      obtain ⟨_, q1, _, _, q4, q5⟩ := bk_box6f HXX.out
      go_upto_region 8 with fail
      go_region_held3 (fun w' => w'.cell? ⟨w4.heap.size + 1, 0, none⟩ = some (.string (S B0)) ∧ w'.cell? ⟨w4.heap.size + 1, 1, none⟩ = some (.string (S B1)) ∧ w'.cell? ⟨w4.heap.size + 1, 2, none⟩ = some (.string (S B2)) ∧ w'.frozen? ⟨w4.heap.size, 1, none⟩ = false ∧ w'.frozen? ⟨w4.heap.size, 4, none⟩ = false ∧ w'.frozen? ⟨w4.heap.size, 5, none⟩ = false) (go_keep) (fail)
      all_goals
        obtain ⟨W8, hW8⟩ : ∃ W8, W8 = (((wr.setCell ⟨w4.heap.size, 1, none⟩ (.string (S B0))).setCell ⟨w4.heap.size, 4, none⟩ (.string (S B1))).setCell ⟨w4.heap.size, 5, none⟩ (.string (S B2))).drew := ⟨_, rfl⟩
        have HWE8 := bhid hW8
        have hb8a := (Below.refl w4.heap.size wr).setCell (p := ⟨w4.heap.size, 1, none⟩) (Nat.le_refl w4.heap.size) (.string (S B0))
        have hb8b := hb8a.setCell (p := ⟨w4.heap.size, 4, none⟩) (Nat.le_refl w4.heap.size) (.string (S B1))
        have hb8c := (hb8b.setCell (p := ⟨w4.heap.size, 5, none⟩) (Nat.le_refl w4.heap.size) (.string (S B2))).drew
        rw [← hW8] at hb8c
        have hb8 : Below w4.heap.size wr W8 := hb8c
        clear hb8a hb8b hb8c
        have hx8 : W8.heap[w4.heap.size]? = some (.cells #[.int .i64 k1.1, .string (S B0), .int .i64 k3.1, .int .i64 k2.1, .string (S B1), .string (S B2)] 70) := by
          rw [hW8]
          have := bk_put3 (j := 5) (u := .string (S B2)) (bk_put3 (j := 4) (u := .string (S B1)) (bk_put3 (j := 1) (u := .string (S B0)) HXX.out))
          simp only [List.setIfInBounds_toArray, List.set_cons_succ, List.set_cons_zero] at this
          exact this
        have hp8 := (hb8.block w.heap.size HN2'.out).trans HPX.out
        have HP8 := bhid hp8
        have HR8 := bhid (show RdB W8 b R3 from HRX.out.far (hb8.mono (by have := HN.out; omega)))
        have HU8 := bhid (show But b w W8 from ⟨hb8.os.trans HU.out.os, hb8.tape.trans HU.out.tape, hb8.output.trans HU.out.output, Nat.le_trans HU.out.size hb8.size, fun k hk hn => (hb8.block k (by have := HN2'.out; omega)).trans (HU.out.block k hk hn)⟩)
        obtain ⟨y0, y1, y2, y3, y4, y5⟩ := box6' hx8
        obtain ⟨z0, z1, z2, z3, z4, z5⟩ := bk_box6f hp8
        obtain ⟨v0, v1, v2, v3, v4, v5⟩ := box6' hp8
        clear hx8 hp8 hb8 hW8 x0 x1 x2 x3 x4 x5 q1 q4 q5 t0 t1 t2
        go_upto_region 9 with fail
        rw [← HWE8.out]
        have HE := bhid (ReP.fin HY.out HR8.out HU8.out HBL.out)
        have hfin := six_put (v0 := .int .i64 k1.1) (v1 := .string (S B0)) (v2 := .int .i64 k3.1) (v3 := .int .i64 k2.1) (v4 := .string (S B1)) (v5 := .string (S B2)) HP8.out
        obtain ⟨m0, m1, m2, m3, m4, m5⟩ := box6' hfin
        clear hfin
        go_wp2
        refine bodyPost_ret (v := .agg #[.int .i64 k1.1, .string (S B0), .int .i64 k3.1, .int .i64 k2.1, .string (S B1), .string (S B2)]) (by simp [results, Tryd.results55, go_sem, *]) rfl ?_
        exact HE.out
    · have h3 : i < 3 := by omega
      clear hi hi3
      obtain rfl | rfl | rfl : i = 0 ∨ i = 1 ∨ i = 2 := by omega
      · 
        have HC := bhid (show wr.heap[w4.heap.size + 1]? = some (.cells (rdC k3.2 0) 115) from HA.out)
        obtain ⟨_, _, _, f0, f1, f2⟩ := bk_box3 (show wr.heap[w4.heap.size + 1]? = some (.cells #[_, _, _] 115) from HC.out)
        have HRN := bhid (rnum_any 2 b (rdS k3.2 0) wr HR.out (by decide))
        have HTK := bhid (fun u (hu : RdB u b (numR 2 (rdS k3.2 0)).2) => bktake_any (numR 2 (rdS k3.2 0)).1 b (numR 2 (rdS k3.2 0)).2 u hu)
        have HTX := bhid (show takeR (numR 2 (rdS k3.2 0)).1 (numR 2 (rdS k3.2 0)).2 = txR (rdS k3.2 0) by simp only [txR])
        rw [HTX.out] at HTK
        have HX0 := bhid (show rdX k3.2 0 = S (txR (rdS k3.2 0)).1 by simp only [rdX])
        have HS1 := bhid (show rdS k3.2 (0 + 1) = (txR (rdS k3.2 0)).2 from rdS_succ _ _)
        generalize txR (rdS k3.2 0) = tx at *
        generalize numR 2 (rdS k3.2 0) = n2 at *
        go_wp2_with fail
        refine HRN.out.mono ?_
        rintro e w6 ⟨rfl, hr6, hu6⟩
        have HTK6 := bhid (HTK.out w6 hr6)
        have HU6 := bhid hu6
        clear hr6 hu6 HTK
        go_wp2_with fail
        refine HTK6.out.mono ?_
        rintro e w7 ⟨a7, c7, rfl, hb7, hr7, hu7⟩
        have t7 := by_text hb7
        have hU7 : But b wr w7 := HU6.out.trans hu7
        have HQ := bhid (hU7.obj HC.out (by have := HN.out; omega))
        have HP7 := bhid (hU7.obj HPX.out (by have := HBL.out; omega))
        have HX7 := bhid (hU7.obj HXX.out (by have := HN.out; omega))
        obtain ⟨_, _, _, g0, g1, g2⟩ := bk_box3 (show w7.heap[w4.heap.size + 1]? = some (.cells #[_, _, _] 115) from HQ.out)
        have HE1 := bhid (show RdB (w7.setCell ⟨w4.heap.size + 1, 0, none⟩ (.string (S tx.1))) b (rdS k3.2 (0 + 1)) by
          rw [HS1.out]
          exact hr7.far ((Below.refl _ _).setCell (by have := HN.out; simp; omega) _))
        have HE2 := bhid (show (w7.setCell ⟨w4.heap.size + 1, 0, none⟩ (.string (S tx.1))).heap[w4.heap.size + 1]? = some (.cells (rdC k3.2 (0 + 1)) 115) by
          have h := bk_put3 (j := 0) (u := .string (S tx.1)) HQ.out
          rw [← HX0.out] at h ⊢
          exact h)
        have HE3 := bhid (show (w7.setCell ⟨w4.heap.size + 1, 0, none⟩ (.string (S tx.1))).heap[w.heap.size]? = _ from (bk_other (by have := HN2'.out; omega)).trans HP7.out)
        have HE4 := bhid (show (w7.setCell ⟨w4.heap.size + 1, 0, none⟩ (.string (S tx.1))).heap[w4.heap.size]? = _ from (bk_other (by omega)).trans HX7.out)
        have HE5 := bhid (show But b w (w7.setCell ⟨w4.heap.size + 1, 0, none⟩ (.string (S tx.1))) by
          have h1 := HU.out.trans hU7
          refine ⟨h1.os, h1.tape, h1.output, by have := h1.size; simpa [World.setCell] using this, fun k hk hn => ?_⟩
          exact (bk_other (by have := HN2'.out; omega)).trans (h1.block k hk hn))
        clear hb7 hr7 hu7 hU7
        go_wp2
        go_roundw
        case rel => first | exact ⟨0 + 1, by omega, by first | rfl | go_num, HE1, HE2, HE3, HE4, HE5⟩ | ((repeat apply Exists.intro); exact ⟨⟨0 + 1, by omega, by first | rfl | go_num, HE1, HE2, HE3, HE4, HE5⟩, rfl⟩)
        case measure => simp [intOf]
      · 
        have HC := bhid (show wr.heap[w4.heap.size + 1]? = some (.cells (rdC k3.2 1) 115) from HA.out)
        obtain ⟨_, _, _, f0, f1, f2⟩ := bk_box3 (show wr.heap[w4.heap.size + 1]? = some (.cells #[_, _, _] 115) from HC.out)
        have HRN := bhid (rnum_any 2 b (rdS k3.2 1) wr HR.out (by decide))
        have HTK := bhid (fun u (hu : RdB u b (numR 2 (rdS k3.2 1)).2) => bktake_any (numR 2 (rdS k3.2 1)).1 b (numR 2 (rdS k3.2 1)).2 u hu)
        have HTX := bhid (show takeR (numR 2 (rdS k3.2 1)).1 (numR 2 (rdS k3.2 1)).2 = txR (rdS k3.2 1) by simp only [txR])
        rw [HTX.out] at HTK
        have HX0 := bhid (show rdX k3.2 1 = S (txR (rdS k3.2 1)).1 by simp only [rdX])
        have HS1 := bhid (show rdS k3.2 (1 + 1) = (txR (rdS k3.2 1)).2 from rdS_succ _ _)
        generalize txR (rdS k3.2 1) = tx at *
        generalize numR 2 (rdS k3.2 1) = n2 at *
        go_wp2_with fail
        refine HRN.out.mono ?_
        rintro e w6 ⟨rfl, hr6, hu6⟩
        have HTK6 := bhid (HTK.out w6 hr6)
        have HU6 := bhid hu6
        clear hr6 hu6 HTK
        go_wp2_with fail
        refine HTK6.out.mono ?_
        rintro e w7 ⟨a7, c7, rfl, hb7, hr7, hu7⟩
        have t7 := by_text hb7
        have hU7 : But b wr w7 := HU6.out.trans hu7
        have HQ := bhid (hU7.obj HC.out (by have := HN.out; omega))
        have HP7 := bhid (hU7.obj HPX.out (by have := HBL.out; omega))
        have HX7 := bhid (hU7.obj HXX.out (by have := HN.out; omega))
        obtain ⟨_, _, _, g0, g1, g2⟩ := bk_box3 (show w7.heap[w4.heap.size + 1]? = some (.cells #[_, _, _] 115) from HQ.out)
        have HE1 := bhid (show RdB (w7.setCell ⟨w4.heap.size + 1, 1, none⟩ (.string (S tx.1))) b (rdS k3.2 (1 + 1)) by
          rw [HS1.out]
          exact hr7.far ((Below.refl _ _).setCell (by have := HN.out; simp; omega) _))
        have HE2 := bhid (show (w7.setCell ⟨w4.heap.size + 1, 1, none⟩ (.string (S tx.1))).heap[w4.heap.size + 1]? = some (.cells (rdC k3.2 (1 + 1)) 115) by
          have h := bk_put3 (j := 1) (u := .string (S tx.1)) HQ.out
          rw [← HX0.out] at h ⊢
          exact h)
        have HE3 := bhid (show (w7.setCell ⟨w4.heap.size + 1, 1, none⟩ (.string (S tx.1))).heap[w.heap.size]? = _ from (bk_other (by have := HN2'.out; omega)).trans HP7.out)
        have HE4 := bhid (show (w7.setCell ⟨w4.heap.size + 1, 1, none⟩ (.string (S tx.1))).heap[w4.heap.size]? = _ from (bk_other (by omega)).trans HX7.out)
        have HE5 := bhid (show But b w (w7.setCell ⟨w4.heap.size + 1, 1, none⟩ (.string (S tx.1))) by
          have h1 := HU.out.trans hU7
          refine ⟨h1.os, h1.tape, h1.output, by have := h1.size; simpa [World.setCell] using this, fun k hk hn => ?_⟩
          exact (bk_other (by have := HN2'.out; omega)).trans (h1.block k hk hn))
        clear hb7 hr7 hu7 hU7
        go_wp2
        go_roundw
        case rel => first | exact ⟨1 + 1, by omega, by first | rfl | go_num, HE1, HE2, HE3, HE4, HE5⟩ | ((repeat apply Exists.intro); exact ⟨⟨1 + 1, by omega, by first | rfl | go_num, HE1, HE2, HE3, HE4, HE5⟩, rfl⟩)
        case measure => simp [intOf]
      · 
        have HC := bhid (show wr.heap[w4.heap.size + 1]? = some (.cells (rdC k3.2 2) 115) from HA.out)
        obtain ⟨_, _, _, f0, f1, f2⟩ := bk_box3 (show wr.heap[w4.heap.size + 1]? = some (.cells #[_, _, _] 115) from HC.out)
        have HRN := bhid (rnum_any 2 b (rdS k3.2 2) wr HR.out (by decide))
        have HTK := bhid (fun u (hu : RdB u b (numR 2 (rdS k3.2 2)).2) => bktake_any (numR 2 (rdS k3.2 2)).1 b (numR 2 (rdS k3.2 2)).2 u hu)
        have HTX := bhid (show takeR (numR 2 (rdS k3.2 2)).1 (numR 2 (rdS k3.2 2)).2 = txR (rdS k3.2 2) by simp only [txR])
        rw [HTX.out] at HTK
        have HX0 := bhid (show rdX k3.2 2 = S (txR (rdS k3.2 2)).1 by simp only [rdX])
        have HS1 := bhid (show rdS k3.2 (2 + 1) = (txR (rdS k3.2 2)).2 from rdS_succ _ _)
        generalize txR (rdS k3.2 2) = tx at *
        generalize numR 2 (rdS k3.2 2) = n2 at *
        go_wp2_with fail
        refine HRN.out.mono ?_
        rintro e w6 ⟨rfl, hr6, hu6⟩
        have HTK6 := bhid (HTK.out w6 hr6)
        have HU6 := bhid hu6
        clear hr6 hu6 HTK
        go_wp2_with fail
        refine HTK6.out.mono ?_
        rintro e w7 ⟨a7, c7, rfl, hb7, hr7, hu7⟩
        have t7 := by_text hb7
        have hU7 : But b wr w7 := HU6.out.trans hu7
        have HQ := bhid (hU7.obj HC.out (by have := HN.out; omega))
        have HP7 := bhid (hU7.obj HPX.out (by have := HBL.out; omega))
        have HX7 := bhid (hU7.obj HXX.out (by have := HN.out; omega))
        obtain ⟨_, _, _, g0, g1, g2⟩ := bk_box3 (show w7.heap[w4.heap.size + 1]? = some (.cells #[_, _, _] 115) from HQ.out)
        have HE1 := bhid (show RdB (w7.setCell ⟨w4.heap.size + 1, 2, none⟩ (.string (S tx.1))) b (rdS k3.2 (2 + 1)) by
          rw [HS1.out]
          exact hr7.far ((Below.refl _ _).setCell (by have := HN.out; simp; omega) _))
        have HE2 := bhid (show (w7.setCell ⟨w4.heap.size + 1, 2, none⟩ (.string (S tx.1))).heap[w4.heap.size + 1]? = some (.cells (rdC k3.2 (2 + 1)) 115) by
          have h := bk_put3 (j := 2) (u := .string (S tx.1)) HQ.out
          rw [← HX0.out] at h ⊢
          exact h)
        have HE3 := bhid (show (w7.setCell ⟨w4.heap.size + 1, 2, none⟩ (.string (S tx.1))).heap[w.heap.size]? = _ from (bk_other (by have := HN2'.out; omega)).trans HP7.out)
        have HE4 := bhid (show (w7.setCell ⟨w4.heap.size + 1, 2, none⟩ (.string (S tx.1))).heap[w4.heap.size]? = _ from (bk_other (by omega)).trans HX7.out)
        have HE5 := bhid (show But b w (w7.setCell ⟨w4.heap.size + 1, 2, none⟩ (.string (S tx.1))) by
          have h1 := HU.out.trans hU7
          refine ⟨h1.os, h1.tape, h1.output, by have := h1.size; simpa [World.setCell] using this, fun k hk hn => ?_⟩
          exact (bk_other (by have := HN2'.out; omega)).trans (h1.block k hk hn))
        clear hb7 hr7 hu7 hU7
        go_wp2
        go_roundw
        case rel => first | exact ⟨2 + 1, by omega, by first | rfl | go_num, HE1, HE2, HE3, HE4, HE5⟩ | ((repeat apply Exists.intro); exact ⟨⟨2 + 1, by omega, by first | rfl | go_num, HE1, HE2, HE3, HE4, HE5⟩, rfl⟩)
        case measure => simp [intOf]
end Go.Proofs.YtkkkbggbeihbnaaDoor

namespace Go.Proofs.YtkkkbggbeihbnaaDoor
open Go.RowKit Go.Proofs

/-- What batch hands back: its entries lie in memory that is new. -/
def RbP (b : Nat) (w : World) (x : Bat × (List UInt8 × Bool)) (e : Ending) (w' : World) : Prop := ∃ a c, e = .returned (.agg #[.int .i64 x.1.user, .slice a x.1.ents.length c]) ∧ EntsM (fun k => w.heap.size ≤ k) w' (.slice a x.1.ents.length c) x.1.ents ∧ RdB w' b x.2 ∧ But b w w'
/-- The entries that are read so far, and the reader behind them. -/
def rdE (r : List UInt8 × Bool) : Nat → List UInt8 × Bool
  | 0 => r
  | k + 1 => (entR (rdE r k)).2
def rdL (r : List UInt8 × Bool) : Nat → List Ent
  | 0 => []
  | k + 1 => rdL r k ++ [(entR (rdE r k)).1]
theorem rdL_len (r : List UInt8 × Bool) (k : Nat) : (rdL r k).length = k := by
  induction k with
  | zero => rfl
  | succ k ih => simp [rdL, ih]
theorem rdE_zero (r : List UInt8 × Bool) : rdE r 0 = r := by simp only [rdE]
theorem rdL_zero (r : List UInt8 × Bool) : rdL r 0 = [] := by simp only [rdL]
theorem rdE_succ (r : List UInt8 × Bool) (k : Nat) : rdE r (k + 1) = (entR (rdE r k)).2 := by simp only [rdE]
theorem rdL_succ (r : List UInt8 × Bool) (k : Nat) : rdL r (k + 1) = rdL r k ++ [(entR (rdE r k)).1] := by simp only [rdL]
theorem rdE_shift (r : List UInt8 × Bool) (k : Nat) : rdE r (k + 1) = rdE (entR r).2 k := by
  induction k with
  | zero => rw [rdE_succ, rdE_zero, rdE_zero]
  | succ k ih => rw [rdE_succ, ih, rdE_succ]
theorem rdL_shift (r : List UInt8 × Bool) (k : Nat) : rdL r (k + 1) = (entR r).1 :: rdL (entR r).2 k := by
  induction k with
  | zero => rw [rdL_succ, rdL_zero, rdE_zero, rdL_zero]; simp only [List.nil_append]
  | succ k ih => rw [rdL_succ, ih, rdE_shift, rdL_succ, List.cons_append]
theorem entsR_eq : ∀ (n : Nat) (r : List UInt8 × Bool), entsR n r = (rdL r n, rdE r n) := by
  intro n
  induction n with
  | zero => intro r; rw [rdL_zero, rdE_zero]; simp only [entsR]
  | succ n ih => intro r; rw [entsR, ih, rdL_shift, rdE_shift]
theorem batR_eq (r : List UInt8 × Bool) : batR r = (⟨(numR 1 r).1, rdL (numR 1 (numR 1 r).2).2 (numR 1 (numR 1 r).2).1⟩, rdE (numR 1 (numR 1 r).2).2 (numR 1 (numR 1 r).2).1) := by
  simp only [batR]
  rw [entsR_eq]
theorem num1_lt (r : List UInt8 × Bool) : (numR 1 r).1 < 256 := by
  unfold numR takeR
  split
  · have h : (r.1.take 1).length ≤ 1 := by rw [List.length_take]; omega
    generalize r.1.take 1 = l at h
    match l, h with
    | [], _ => simp [beN]
    | [a], _ => have := a.toNat_lt; simp [beN]; omega
  · simp [beN]
set_option maxHeartbeats 4000000 in
set_option maxRecDepth 100000 in
theorem rbat_any (b : Nat) (r : List UInt8 × Bool) (w : World) (h : RdB w b r) :
    Calls Tryd.prog 32 #[.pointer (some ⟨b, 0, none⟩)] w (RbP b w (batR r)) := by
  obtain ⟨i0, hi, hz0, hz1, hz2⟩ := info_parts infoEn
  obtain ⟨y, hy⟩ : ∃ y, y = batR r := ⟨_, rfl⟩
  have hyy := hy
  rw [batR_eq] at hyy
  obtain ⟨k1, hk1⟩ : ∃ x, x = numR 1 r := ⟨_, rfl⟩
  rw [← hk1] at hyy
  have hkk := num1_lt k1.2
  obtain ⟨k2, hk2⟩ : ∃ x, x = numR 1 k1.2 := ⟨_, rfl⟩
  rw [← hk2] at hyy hkk
  have HY := hid hyy
  rw [← hy]
  have HN1 := hid (fun u (hu : RdB u b r) => rnum_any 1 b r u hu (by decide))
  rw [← hk1] at HN1
  have HN2 := hid (fun u (hu : RdB u b k1.2) => rnum_any 1 b k1.2 u hu (by decide))
  rw [← hk2] at HN2
  clear hy hk1 hk2 hyy
  obtain ⟨W1, hW1⟩ : ∃ W1, W1 = w.alloc (.cells #[.int .i64 0, .slice none 0 0] 34) := ⟨_, rfl⟩
  have HWE := hid hW1
  have hB1 : Below w.heap.size w W1 := by rw [hW1]; exact (Below.refl _ _).alloc (Nat.le_refl _) _
  have hp : W1.heap[w.heap.size]? = some (.cells #[.int .i64 0, .slice none 0 0] 34) := by rw [hW1]; exact heap_alloc_new w _
  have HP := hid hp
  have HBL := hid h.lt
  have HR1 := hid (HN1.out W1 (h.next hB1))
  have HU1 := hid (show But b w W1 from But.of hB1)
  clear h hW1 hB1 hp HN1
  go_enter Tryd.func32, Tryd.ntmps32
  go_wp2_with fail
  rw [← HWE.out]
  refine HR1.out.mono ?_
  rintro e w2 ⟨rfl, hr2, hu2⟩
  have HP2 := hid (hu2.obj HP.out (by have := HBL.out; omega))
  have HU2 := hid (HU1.out.trans hu2)
  obtain ⟨W3, hW3⟩ : ∃ W3, W3 = w2.alloc (.cells #[.int .i64 k1.1, .slice none 0 0] 34) := ⟨_, rfl⟩
  have HWE3 := hid hW3
  have hB3 : Below w2.heap.size w2 W3 := by rw [hW3]; exact (Below.refl _ _).alloc (Nat.le_refl _) _
  have hq : W3.heap[w2.heap.size]? = some (.cells #[.int .i64 k1.1, .slice none 0 0] 34) := by rw [hW3]; exact heap_alloc_new w2 _
  have HQ := hid hq
  have HP3 := hid (bk_low hB3 HP2.out)
  have HU3 := hid (HU2.out.trans (But.of hB3))
  have HR3 := hid (HN2.out W3 (hr2.next hB3))
  have HN := hid (show b < w2.heap.size from hr2.lt)
  have HN2' := hid (show w.heap.size < w2.heap.size from (Array.getElem?_eq_some_iff.1 HP2.out).1)
  clear hr2 hu2 hW3 hB3 hq HN2
  go_upto_region 2 with fail
  rw [← HWE3.out]
  go_wp2_with fail
  refine HR3.out.mono ?_
  rintro e w4 ⟨rfl, hr4, hu4⟩
  have HP4 := hid (hu4.obj HP3.out (by have := HBL.out; omega))
  have HQ4 := hid (hu4.obj HQ.out (by have := HN.out; omega))
  have HU4 := hid (HU3.out.trans hu4)
  have HR4 := hid (show RdB w4 b (rdE k2.2 0) by rw [rdE_zero]; exact hr4)
  clear hr4 hu4
  go_wp2
  go_loopw [9] (fun v wr => ∃ (k : Nat) (a9 : Option Addr) (c9 : Nat), k ≤ k2.1 ∧ v = .int .i64 (k : Int) ∧ Hid (RdB wr b (rdE k2.2 k)) ∧ Hid (wr.heap[w.heap.size]? = some (.cells #[.int .i64 0, .slice none 0 0] 34)) ∧ Hid (wr.heap[w2.heap.size]? = some (.cells #[.int .i64 k1.1, .slice a9 k c9] 34)) ∧ Hid (wr.ownsRow (w2.heap.size + 1) 70 6 (.slice a9 k c9) k ((rdL k2.2 k).map entC).flatten) ∧ Hid (But b w wr)) (fun v _ => k2.1 - (intOf v).toNat)
  case atStart => exact ⟨0, none, 0, Nat.zero_le _, rfl, HR4, HP4, HQ4, World.ownsRow_nil _ _ _ _, HU4⟩
  case round =>
    obtain ⟨k, a9, c9, hk, rfl, HR, HPX, HQX, HO, HU⟩ := hrel
    by_cases hlt : k < k2.1
    · have kk1 : (k : Int) < (k2.1 : Int) := by omega
      have kk0 : (0 : Int) ≤ (k : Int) := by omega
      have HRE := hid (fun u (hu : RdB u b (rdE k2.2 k)) => rent_any b (rdE k2.2 k) u hu)
      have HL := hid (show rdL k2.2 (k + 1) = rdL k2.2 k ++ [(entR (rdE k2.2 k)).1] from rdL_succ _ _)
      have HE := hid (show rdE k2.2 (k + 1) = (entR (rdE k2.2 k)).2 from rdE_succ _ _)
      generalize entR (rdE k2.2 k) = E at *
      obtain ⟨x0, x1, f0, f1⟩ := bk_box2 HQX.out
      have hnb : w2.heap.size ≠ b := by have := HN.out; omega
      have HNB := hid hnb
      have HRD := hid (show RdB wr.drew b (rdE k2.2 k) from HR.out.next (Below.refl _ _).drew)
      clear hnb
      go_upto_region 4 with fail
      go_region_law
        (first
          | (refine step_append_lies _ (by rfl) _ _ _ (by rfl) (w2.heap.size + 1) 70 i0 _ 6 72 Tryd.underlying27 hi hz0 hz1 hz2 rfl (by omega) (.slice a9 k c9) k (((rdL k2.2 k).map entC).flatten) (by rfl) (World.ownsRow.alloc HO5.out _)
              ⟨w5.heap.size, 0, none⟩ 1 1 (entC E.1) (by rfl) (by rfl) (hex_new w5 _ _ _ _ _ _ _) (by simp [entC, Value.oneCell']) (by omega) (by unfold maxLen; omega) (by omega) (by have := HS5.out; simp; omega) _ rfl ?_
             intro g2 cap w6 hown hgrow hat hlt6
             have hb6 : Below (w2.heap.size + 1) w5 w6 := ((Below.refl (w2.heap.size + 1) w5).alloc (by have := HS5.out; omega) _).grown hgrow (by have := HS5.out; simp; omega) (fun j hj => (World.ownsRow.lt HO5.out j hj).1)
             have HB6 := hid hb6
             have HQ6 := hid ((hb6.block w2.heap.size (by omega)).trans HQ5.out)
             obtain ⟨z0, z1, g0, g1⟩ := bk_box2 HQ6.out
             have HO6 := hid hown
             clear hown hgrow hat hb6)
          | (go_simp
             go_at_call 55
             refine (HRE.out wr.drew HRD.out).mono ?_
             rintro e w5 ⟨rfl, hr5, hu5⟩
             have HR5 := hid hr5
             have HU5 := hid hu5
             have HQ5 := hid (hu5.obj (show wr.drew.heap[w2.heap.size]? = _ from HQX.out) HNB.out)
             have HO5 := hid (own_but (show wr.drew.ownsRow _ _ _ _ _ _ from HO.out) hu5 (by have := HN.out; omega))
             have HS5 := hid (Array.getElem?_eq_some_iff.1 HQ5.out).1
             obtain ⟨y0, y1, _, _⟩ := bk_box2 HQ5.out
             have y2 : ∀ o : Obj, (w5.alloc o).cell? ⟨w2.heap.size, 1, none⟩ = some (.slice a9 k c9) := fun o => wcell_more y1 o
             clear hr5 hu5)
          | fail)
      all_goals
        have HF1 := hid (show RdB (w6.setCell ⟨w2.heap.size, 1, none⟩ (.slice (some ⟨g2, 0, none⟩) (k + 1) cap)) b (rdE k2.2 (k + 1)) by
          rw [HE.out]
          exact HR5.out.far ((HB6.out.mono (by have := HN.out; omega)).setCell (by have := HN.out; simp; omega) _))
        have HF2 := hid (show (w6.setCell ⟨w2.heap.size, 1, none⟩ (.slice (some ⟨g2, 0, none⟩) (k + 1) cap)).heap[w.heap.size]? = _ from (bk_other (by have := HN2'.out; omega)).trans ((HB6.out.block w.heap.size (by have := HN2'.out; omega)).trans (HU5.out.obj (show wr.drew.heap[w.heap.size]? = _ from HPX.out) (by have := HBL.out; omega))))
        have HF3 := hid (bk_put1 (u := .slice (some ⟨g2, 0, none⟩) (k + 1) cap) HQ6.out)
        have HF4 := hid (show (w6.setCell ⟨w2.heap.size, 1, none⟩ (.slice (some ⟨g2, 0, none⟩) (k + 1) cap)).ownsRow (w2.heap.size + 1) 70 6 (.slice (some ⟨g2, 0, none⟩) (k + 1) cap) (k + 1) ((rdL k2.2 (k + 1)).map entC).flatten by
          rw [HL.out, own_app]
          exact bk_keep HO6.out fun q hq => bk_other (by have := (World.ownsRow.lt HO6.out q hq).1; omega))
        have HF5 := hid (show But b w (w6.setCell ⟨w2.heap.size, 1, none⟩ (.slice (some ⟨g2, 0, none⟩) (k + 1) cap)) by
          have h1 := HU.out.trans (show But b wr w5 from (But.of (Below.refl _ _).drew).trans HU5.out)
          refine ⟨HB6.out.os.trans h1.os, HB6.out.tape.trans h1.tape, HB6.out.output.trans h1.output, Nat.le_trans h1.size (by have := HB6.out.size; simpa [World.setCell] using this), fun q hq hn => ?_⟩
          have := HN2'.out
          exact (bk_other (by omega)).trans ((HB6.out.block q (by omega)).trans (h1.block q hq hn)))
        clear HO6 HR5 HU5 HQ5 HO5
        go_wp2
        go_roundw
        case rel => first | exact ⟨k + 1, _, cap, by omega, by go_num, HF1, HF2, HF3, HF4, HF5⟩ | ((repeat apply Exists.intro); exact ⟨⟨k + 1, _, cap, by omega, by go_num, HF1, HF2, HF3, HF4, HF5⟩, rfl⟩)
        case measure => simp [intOf]; omega
    · have kk1 : ¬ (k : Int) < (k2.1 : Int) := by omega
      have hkk2 : k = k2.1 := by omega
      obtain ⟨x0, x1, _, _⟩ := bk_box2 HQX.out
      obtain ⟨p0, p1, q0, q1⟩ := bk_box2 HPX.out
      obtain ⟨s0, s1, _, _⟩ := bk_box2 (bk_put (u0 := .int .i64 k1.1) (u1 := .slice a9 k c9) HPX.out)
      have HE := hid (show RbP b w y (.returned (.agg #[.int .i64 k1.1, .slice a9 k c9])) ((wr.setCell ⟨w.heap.size, 0, none⟩ (.int .i64 k1.1)).setCell ⟨w.heap.size, 1, none⟩ (.slice a9 k c9)) by
        rw [HY.out, ← hkk2]
        have hlen := rdL_len k2.2 k
        have hb2 := HN.out
        have hw2 := HN2'.out
        refine ⟨a9, c9, by rw [hlen], ?_, ?_, ?_⟩
        · rw [hlen]
          have h1 : EntsM (fun q => w2.heap.size + 1 ≤ q) wr (.slice a9 k c9) (rdL k2.2 k) := own_row HO.out hlen.symm (by unfold maxLen; omega) (by simp) (map_flat_len (k := 6) entC (fun _ => rfl) _) (fun q y cs hy hc => by rw [List.getElem?_map, hy] at hc; cases hc; rfl) (fun g hg => (World.ownsRow.lt HO.out g hg).1)
          refine h1.imp (fun q (hq : w2.heap.size + 1 ≤ q) => (by omega : w.heap.size ≤ q)) ⟨by simp [World.setCell], fun q _ hq => ?_⟩
          exact (bk_other (by omega)).trans (bk_other (by omega))
        · exact HR.out.far (((Below.refl _ _).setCell (by have := HBL.out; simp; omega) _).setCell (by have := HBL.out; simp; omega) _)
        · have h1 := HU.out
          refine ⟨h1.os, h1.tape, h1.output, by have := h1.size; simpa [World.setCell] using this, fun q hq hn => ?_⟩
          exact (bk_other (by omega)).trans ((bk_other (by omega)).trans (h1.block q hq hn)))
      clear hkk2
      go_wp2
      refine bodyPost_ret (v := .agg #[.int .i64 k1.1, .slice a9 k c9]) (by simp [results, Tryd.results32, go_sem, *]) rfl ?_
      exact HE.out
end Go.Proofs.YtkkkbggbeihbnaaDoor
