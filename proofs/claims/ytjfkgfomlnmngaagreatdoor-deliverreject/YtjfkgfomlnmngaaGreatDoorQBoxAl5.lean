/-
  A batch is done whole, or not at all: the walks of All and Apply.
  What the laws' picking of a number does: the walk.
  Entries and states that the laws make of raw numbers: plain facts, and the walks of boxName and Entry.
  Raw entries in memory, and states that step on: plain facts.
  How arguments that are entries in raw numbers are read: five numbers and a text each.
-/
import Derived.Test.YtjfkgfomlnmngaaGreatDoorQBoxDo4
import Derived.Test.YtjfkgfomlnmngaaGreatDoorRows
import Derived.Test.YtjfkgfomlnmngaaGreatDoorQPure2
import Derived.OpenShut
import Derived.Test.YtjfkgfomlnmngaaGreatDoorQBoxMem3
import Derived.Test.YtjfkgfomlnmngaaGreatDoorCut
import Derived.WalkKit
import Derived.Deep.SlicePairs
import Derived.Lib.SmallJoins
import Derived.ProofKit
namespace Go.Proofs.YtjfkgfomlnmngaaGreatDoor
open Go.RowKit Go.Proofs

/-- What All hands back: a refusal, or a new state in memory of its own. -/
def AllP (w : World) (r : Except Int Stt) (e : Ending) (w' : World) : Prop := Below w.heap.size w w' ∧ match r with
  | .error z => e = .returned (.tuple #[.agg #[.slice none 0 0, .slice none 0 0], .int .i64 z])
  | .ok s' => ∃ vb vs vm, e = .returned (.tuple #[.agg #[vb, vs], .int .i64 0]) ∧ OwnS w.heap.size w' vb vs vm s'
theorem allM_app : ∀ (a b : List Ent) (s : Stt), allM s (a ++ b) = match allM s a with | .error e => .error e | .ok s' => allM s' b := by
  intro a
  induction a with
  | nil => intro b s; rfl
  | cons x a ih =>
    intro b s
    simp only [List.cons_append, allM]
    cases doM s x with
    | error e => rfl
    | ok s' => exact ih b s'
theorem allM_one (s : Stt) (x : Ent) : allM s [x] = doM s x := by
  simp only [allM]
  cases doM s x <;> rfl
theorem allM_step {s s' : Stt} {l : List Ent} {k : Nat} {x : Ent} (h : allM s (l.take k) = .ok s') (hx : l[k]? = some x) : allM s (l.take (k + 1)) = doM s' x := by
  have hk : k < l.length := (List.getElem?_eq_some_iff.1 hx).1
  rw [List.take_succ_eq_append_getElem hk, (List.getElem?_eq_some_iff.1 hx).2, allM_app, h]
  exact allM_one s' x
theorem allM_stop {s s' : Stt} {l : List Ent} {k : Nat} {x : Ent} {z : Int} (h : allM s (l.take k) = .ok s') (hx : l[k]? = some x) (hd : doM s' x = .error z) : allM s l = .error z := by
  have h1 := allM_step h hx
  rw [hd] at h1
  have h2 := allM_app (l.take (k + 1)) (l.drop (k + 1)) s
  rw [List.take_append_drop, h1] at h2
  exact h2
theorem addM_err {s : Stt} {i : Nat} {f : Int} {t : List UInt8} {z : Int} (h : addM s i f t = .error z) : z ≠ 0 := by
  unfold addM at h
  split at h
  · cases h; decide
  · split at h
    · cases h; decide
    · cases h
theorem doM_err {s : Stt} {x : Ent} {z : Int} (h : doM s x = .error z) : z ≠ 0 := by
  unfold doM at h
  repeat' (first | (cases h; done) | (cases h; decide) | exact addM_err h | split at h)
theorem Sto.base {B B' p : Nat} {w : World} {s : Stt} (h : Sto B' p w s) (hB : B ≤ B') : Sto B p w s := by
  obtain ⟨vb, vs, vm, h1, h2, h3, h4⟩ := h
  exact ⟨vb, vs, vm, h1, h2.base hB, h3, by omega⟩
set_option maxHeartbeats 1000000 in
set_option maxRecDepth 100000 in
theorem all_any (s : Stt) (vb vs : Value) (l : List Ent) (a : Option Addr) (c : Nat) (w : World) (Q : Nat → Prop) (hS : SttM Q w vb vs s) (hM : May s) (hL : EntsM Q w (.slice a l.length c) l) (hl : l.length ≤ 10) (hF : ∀ x ∈ l, Formed x) :
    Calls Tryz.prog 27 #[.agg #[vb, vs], .slice a l.length c] w (AllP w (allM s l)) := by
  obtain ⟨ab, cb, rfl⟩ := RowM.slice hS.1
  obtain ⟨aq, cq, rfl⟩ := RowM.slice hS.2.1
  obtain ⟨r, hr⟩ : ∃ r, r = allM s l := ⟨_, rfl⟩
  rw [← hr]
  have HRE := hid hr
  obtain ⟨W0, hW0⟩ : ∃ W0, W0 = (w.alloc (.cells #[.slice ab s.boxes.length cb, .slice aq s.spool.length cq] 31)).alloc (.cells #[.slice none 0 0, .slice none 0 0] 31) := ⟨_, rfl⟩
  have HWE := hid hW0
  have hB0 : Below w.heap.size w W0 := by rw [hW0]; exact ((Below.refl _ _).alloc (Nat.le_refl _) _).alloc (by simp) _
  have HB0 := hid hB0
  have HZ0 := hid (show W0.heap.size = w.heap.size + 2 by rw [hW0]; simp)
  have hR : W0.heap[w.heap.size + 1]? = some (.cells #[.slice none 0 0, .slice none 0 0] 31) := by rw [hW0]; have := heap_alloc_new (w.alloc (.cells #[.slice ab s.boxes.length cb, .slice aq s.spool.length cq] 31)) (.cells #[.slice none 0 0, .slice none 0 0] 31); simpa using this
  have HR := hid hR
  have x0 : W0.cell? ⟨w.heap.size, 0, none⟩ = some (.slice ab s.boxes.length cb) := by rw [hW0]; exact wcell_more (by simp) _
  have x1 : W0.cell? ⟨w.heap.size, 1, none⟩ = some (.slice aq s.spool.length cq) := by rw [hW0]; exact wcell_more (by simp) _
  have HC := hid (check_ok s _ _ W0 Q (hS.next hB0) hM)
  have HSO := hid (fun u (hu : Below W0.heap.size W0 u) => storeOf_ok s _ _ u Q ((hS.next hB0).next hu) hM)
  have HL := hid (hL.next hB0)
  have HF := hid hF
  have HM := hid hM
  have n1 : ¬ (10 : Int) < (l.length : Int) := by omega
  clear hS hM hW0 hB0 hR hL hF hr
  go_enter Tryz.func27, Tryz.ntmps27
  go_wp2_with fail
  rw [← HWE.out]
  refine HC.out.mono ?_
  rintro e w1 ⟨rfl, hb1⟩
  have y0 := wcell_next x0 hb1
  have y1 := wcell_next x1 hb1
  have HB1 := hid hb1
  have HSO1 := hid (HSO.out w1 hb1)
  clear hb1
  go_wp2_with fail
  refine HSO1.out.mono ?_
  rintro e w2 ⟨vb, vs, vm, rfl, hO, hb2⟩
  obtain ⟨a1, c1, rfl⟩ := bown_slice hO.boxes
  obtain ⟨a2, c2, rfl⟩ := bown_slice hO.spool
  simp only
  obtain ⟨W3, hW3⟩ : ∃ W3, W3 = w2.alloc (.cells #[.slice a1 s.boxes.length c1, .slice a2 s.spool.length c2] 117) := ⟨_, rfl⟩
  have HWE3 := hid hW3
  have hb3 : Below w2.heap.size w2 W3 := by rw [hW3]; exact (Below.refl _ _).alloc (Nat.le_refl _) _
  have HB3 := hid (show Below W0.heap.size W0 W3 from (HB1.out.trans (hb2.mono HB1.out.size)).trans (hb3.mono (Nat.le_trans HB1.out.size hb2.size)))
  have HST := hid (show Sto W0.heap.size w2.heap.size W3 s from ⟨_, _, vm, by rw [hW3]; exact heap_alloc_new w2 _, (hO.base HB1.out.size).next hb3, fun h => by have := (hO.lt h).2; omega, Nat.le_trans HB1.out.size hb2.size⟩)
  clear hO hb2 hW3 hb3
  go_wp2
  rw [← HWE3.out]
  obtain ⟨p, hp⟩ : ∃ p, p = w2.heap.size := ⟨_, rfl⟩
  rw [← hp] at HST ⊢
  clear hp
  go_loopw [26] (fun v wr => ∃ (k : Nat) (sk : Stt), k ≤ l.length ∧ v = .int .i64 k ∧ Hid (allM s (l.take k) = .ok sk) ∧ Hid (Sto W0.heap.size p wr sk) ∧ Hid (Below W0.heap.size W0 wr)) (fun v _ => l.length - (intOf v).toNat)
  case atStart => exact ⟨0, s, Nat.zero_le _, rfl, rfl, HST, HB3⟩
  case round =>
    obtain ⟨k, sk, hk, rfl, HA, HS, HB⟩ := hrel
    have hR1 := low_obj HB.out HR.out
    have HR1 := hid hR1
    by_cases hlt : k < l.length
    · have k1 : (k : Int) < (l.length : Int) := by omega
      have k0 : (0 : Int) ≤ (k : Int) := by omega
      obtain ⟨x, hx⟩ : ∃ x, l[k]? = some x := ⟨_, List.getElem?_eq_getElem hlt⟩
      obtain ⟨b, o, rfl, _, e0, e1, e2, e3, e4, e5⟩ := (HL.out.next HB.out).at hx
      have hFx := HF.out x (List.mem_of_getElem? hx)
      have hMk : May sk := allM_may HM.out (fun y hy => HF.out y (List.mem_of_mem_take hy)) HA.out
      obtain ⟨W4, hW4⟩ : ∃ W4, W4 = wr.alloc (.cells #[.int .i64 x.kind, .string (S x.box), .int .i64 x.uid, .int .i64 x.flags, .string (S x.goal), .string (S x.text)] 45) := ⟨_, rfl⟩
      have HWE4 := hid hW4
      have hb4 : Below wr.heap.size wr W4 := by rw [hW4]; exact (Below.refl _ _).alloc (Nat.le_refl _) _
      have hX4 : W4.heap[wr.heap.size]? = some (.cells #[.int .i64 x.kind, .string (S x.box), .int .i64 x.uid, .int .i64 x.flags, .string (S x.goal), .string (S x.text)] 45) := by rw [hW4]; exact heap_alloc_new wr _
      have HX4 := hid hX4
      have HB4 := hid (show Below W0.heap.size W0 W4 from HB.out.trans (hb4.mono HB.out.size))
      have HFO := hid (form_ok x W4 hFx)
      have HDO := hid (fun u (hu : Below W4.heap.size W4 u) => bdo_any W0.heap.size p sk x u ((HS.out.next hb4).next hu) hMk hFx)
      have HNX := hid (fun s' (h : doM sk x = .ok s') => (allM_step HA.out hx).trans h)
      have HST2 := hid (fun z (h : doM sk x = .error z) => allM_stop HA.out hx h)
      clear hx hFx hMk hW4 hX4 hb4 hR1
      go_wp2_with fail
      rw [← HWE4.out]
      refine HFO.out.mono ?_
      rintro e w5 ⟨rfl, hb5⟩
      obtain ⟨z0, z1, z2, z3, z4, z5⟩ := box6' (low_obj hb5 HX4.out)
      have HDO5 := hid (HDO.out w5 hb5)
      have HB5 := hid (show Below W0.heap.size W0 w5 from HB4.out.trans (hb5.mono HB4.out.size))
      clear hb5
      go_wp2_with fail
      refine HDO5.out.mono ?_
      intro e w6 hd
      have HB6 := hid (show Below W0.heap.size W0 w6 from HB5.out.trans hd.1)
      cases hdo : doM sk x with
      | ok s' =>
        rw [hdo] at hd
        obtain ⟨_, rfl, hS6⟩ := hd
        have HS6 := hid hS6
        have HA6 := hid (HNX.out s' hdo)
        clear hdo hS6
        simp only
        go_wp2
        go_roundw
        case rel => first | exact ⟨k + 1, s', by omega, by go_num, HA6, HS6, HB6⟩ | ((repeat apply Exists.intro); exact ⟨⟨k + 1, s', by omega, by go_num, HA6, HS6, HB6⟩, rfl⟩)
        case measure => simp [intOf]; omega
      | error z =>
        rw [hdo] at hd
        obtain ⟨_, rfl⟩ := hd
        have HZ := hid (HST2.out z hdo)
        have hzn := doM_err hdo
        have hz' : ¬ z = 0 := hzn
        have hz'' : (z == 0) = false := by simp [hzn]
        have hR6 := low_obj HB6.out HR.out
        obtain ⟨u0, u1, h0, h1⟩ := box2f hR6
        obtain ⟨v0, v1, j0, j1⟩ := box2f (set2_block (u0 := .slice none 0 0) (u1 := .slice none 0 0) hR6)
        have HE := hid (show AllP w r (.returned (.tuple #[.agg #[.slice none 0 0, .slice none 0 0], .int .i64 z])) ((w6.setCell ⟨w.heap.size + 1, 0, none⟩ (.slice none 0 0)).setCell ⟨w.heap.size + 1, 1, none⟩ (.slice none 0 0)) by
          rw [HRE.out, HZ.out]
          exact ⟨((HB0.out.trans (HB6.out.mono HB0.out.size)).setCell (Nat.le_succ _) _).setCell (Nat.le_succ _) _, rfl⟩)
        clear hdo hR6 hzn
        simp only
        go_wp2
        refine bodyPost_ret (v := .tuple #[.agg #[.slice none 0 0, .slice none 0 0], .int .i64 z]) (by simp [results, Tryz.results27, go_sem, *]) rfl ?_
        exact HE.out
    · have k1 : ¬ (k : Int) < (l.length : Int) := by omega
      obtain ⟨vb', vs', vm', hp', hO', hn', hBp'⟩ := HS.out
      obtain ⟨a5, c5, rfl⟩ := bown_slice hO'.boxes
      obtain ⟨a6, c6, rfl⟩ := bown_slice hO'.spool
      obtain ⟨s0, s1, _, _⟩ := box2f hp'
      obtain ⟨u0, u1, h0, h1⟩ := box2f hR1
      obtain ⟨v0, v1, j0, j1⟩ := box2f (set2_block (u0 := .slice a5 sk.boxes.length c5) (u1 := .slice a6 sk.spool.length c6) hR1)
      have HE := hid (show AllP w r (.returned (.tuple #[.agg #[.slice a5 sk.boxes.length c5, .slice a6 sk.spool.length c6], .int .i64 0])) ((wr.setCell ⟨w.heap.size + 1, 0, none⟩ (.slice a5 sk.boxes.length c5)).setCell ⟨w.heap.size + 1, 1, none⟩ (.slice a6 sk.spool.length c6)) by
        have hA := HA.out
        rw [List.take_of_length_le (by omega)] at hA
        rw [HRE.out, hA]
        refine ⟨((HB0.out.trans (HB.out.mono HB0.out.size)).setCell (Nat.le_succ _) _).setCell (Nat.le_succ _) _, _, _, vm', rfl, (hO'.base HB0.out.size).keep fun q hq => ?_⟩
        have hq' : q ≠ w.heap.size + 1 := by have := (hO'.lt hq).1; have := HZ0.out; omega
        exact (set_other hq').trans (set_other hq'))
      clear hp' hO' hn' hR1
      go_wp2
      refine bodyPost_ret (v := .tuple #[.agg #[.slice a5 sk.boxes.length c5, .slice a6 sk.spool.length c6], .int .i64 0]) (by simp [results, Tryz.results27, go_sem, *]) rfl ?_
      exact HE.out
end Go.Proofs.YtjfkgfomlnmngaaGreatDoor
namespace Go.Proofs.YtjfkgfomlnmngaaGreatDoor
open Go.RowKit

def pickN (n : Int) (m : Nat) : Nat := ((if n < 0 then -(n + 1) else n) % (m : Int)).toNat
theorem pickN_lt (n : Int) (m : Nat) (hm : 0 < m) : pickN n m < m := by
  unfold pickN
  have h1 := Int.emod_nonneg (if n < 0 then -(n + 1) else n) (b := (m : Int)) (by omega)
  have h2 := Int.emod_lt_of_pos (if n < 0 then -(n + 1) else n) (b := (m : Int)) (by omega)
  omega
set_option maxHeartbeats 1000000 in
theorem picked_any (n : Int) (m : Nat) (w : World) (hn : (Lit.int .i64 n).wf = true) (hm : 0 < m) (hm2 : m ≤ 9223372036854775807) :
    Calls Tryz.prog 21 #[.int .i64 n, .int .i64 m] w fun e w' => e = .returned (.int .i64 (pickN n m)) ∧ w' = w := by
  have hb := bounds_i64 hn
  obtain ⟨hb1, hb2⟩ := hb
  clear hn
  have HP : Hid ((pickN n m : Int) = (if n < 0 then -(n + 1) else n) % (m : Int)) := by
    unfold Hid pickN
    have h1 := Int.emod_nonneg (if n < 0 then -(n + 1) else n) (b := (m : Int)) (by omega)
    omega
  have hmz : ((m : Int) == 0) = false := by simp; omega
  by_cases h : n < 0
  · have HQ : Hid ((pickN n m : Int) = (-(n + 1)) % (m : Int)) := by unfold Hid; rw [HP.out, if_pos h]
    clear HP
    go_enter Tryz.func21, Tryz.ntmps21
    go_wp2
    go_ret
    exact ⟨ret_int (by rw [HQ.out, ← Int.neg_tmod]; exact Int.tmod_eq_emod_of_nonneg (by omega)), rfl⟩
  · have HQ : Hid ((pickN n m : Int) = n % (m : Int)) := by unfold Hid; rw [HP.out, if_neg h]
    clear HP
    go_enter Tryz.func21, Tryz.ntmps21
    go_wp2
    go_ret
    exact ⟨ret_int (by rw [HQ.out]), rfl⟩
end Go.Proofs.YtjfkgfomlnmngaaGreatDoor
namespace Go.Proofs.YtjfkgfomlnmngaaGreatDoor
open Go.RowKit Go.Proofs

/-- An entry in raw numbers. -/
structure Chr where
  kind : Int
  box : Int
  uid : Int
  flags : Int
  goal : Int
  text : ByteArray
def chrW (c : Chr) : Prop := (Lit.int .i64 c.kind).wf = true ∧ (Lit.int .i64 c.box).wf = true ∧ (Lit.int .i64 c.uid).wf = true ∧ (Lit.int .i64 c.flags).wf = true ∧ (Lit.int .i64 c.goal).wf = true ∧ c.text.size ≤ maxLen
def boxNs : List (List UInt8) := [[73, 78, 66, 79, 88], [119, 111, 114, 107], [106, 117, 110, 107], [97], [98], [99]]
def boxN (n : Int) : List UInt8 := boxNs.getD (pickN n 6) []
def abc : List UInt8 := [97, 64, 98, 46, 99]
def cutL (s : ByteArray) (n : Nat) : List UInt8 := (cutB s n).data.toList
theorem S_cutL (s : ByteArray) (n : Nat) : S (cutL s n) = cutB s n := by unfold cutL; exact S_list _
theorem cutL_len (s : ByteArray) (n : Nat) : (cutL s n).length ≤ n := by unfold cutL; rw [size_list, cutB_size]; exact Nat.min_le_right _ _
def entP (c : Chr) : Ent := match pickN c.kind 6 with
  | 0 => ⟨1, boxN c.box, 0, 0, [], []⟩
  | 1 => ⟨2, boxN c.box, 0, pickN c.flags 32, [], cutL c.text 300⟩
  | 2 => ⟨3, boxN c.box, 1 + pickN c.uid 8, pickN c.flags 32, [], []⟩
  | 3 => ⟨4, boxN c.box, 0, 0, [], []⟩
  | 4 => ⟨5, boxN c.box, 1 + pickN c.uid 8, 0, boxN c.goal, []⟩
  | _ => ⟨6, [], 0, 0, abc, cutL c.text 100⟩
theorem boxN_name (n : Int) : nameP (boxN n) = 0 := by
  have h := pickN_lt n 6 (by decide)
  unfold boxN
  generalize pickN n 6 = k at h
  match k, h with
  | 0, _ => rfl
  | 1, _ => rfl
  | 2, _ => rfl
  | 3, _ => rfl
  | 4, _ => rfl
  | 5, _ => rfl
theorem abc_goal : goalM abc = 0 := by decide
theorem fl_lt (n : Int) : (0 : Int) ≤ (pickN n 32 : Nat) ∧ ((pickN n 32 : Nat) : Int) ≤ 31 := by have := pickN_lt n 32 (by decide); omega
theorem uid_lt (n : Int) : (0 : Int) ≤ 1 + (pickN n 8 : Nat) ∧ 1 + ((pickN n 8 : Nat) : Int) ≤ 1048576 := by have := pickN_lt n 8 (by decide); omega
theorem entP_formed (c : Chr) : Formed (entP c) := by
  unfold entP
  have hb := boxN_name c.box
  have hg := boxN_name c.goal
  have hf := fl_lt c.flags
  have hu := uid_lt c.uid
  have h3 := cutL_len c.text 300
  have h1 := cutL_len c.text 100
  split
  · exact ⟨by simp, ⟨fun _ => ⟨rfl, rfl, rfl, rfl⟩, fun h => by simp at h, fun h => by simp at h, fun h => by simp at h, fun h => by simp at h⟩, by simp, by simp, by simp, fun h => by simp at h, fun _ => hb, fun h => by simp at h⟩
  · exact ⟨by simp, ⟨fun h => by simp at h, fun _ => ⟨rfl, rfl⟩, fun h => by simp at h, fun h => by simp at h, fun h => by simp at h⟩, hf, by simp, by show (cutL c.text 300).length ≤ 2000; omega, fun h => by simp at h, fun _ => hb, fun h => by simp at h⟩
  · exact ⟨by simp, ⟨fun h => by simp at h, fun h => by simp at h, fun _ => ⟨rfl, rfl⟩, fun h => by simp at h, fun h => by simp at h⟩, hf, hu, by simp, fun h => by simp at h, fun _ => hb, fun h => by simp at h⟩
  · exact ⟨by simp, ⟨fun _ => ⟨rfl, rfl, rfl, rfl⟩, fun h => by simp at h, fun h => by simp at h, fun h => by simp at h, fun h => by simp at h⟩, by simp, by simp, by simp, fun h => by simp at h, fun _ => hb, fun h => by simp at h⟩
  · exact ⟨by simp, ⟨fun h => by simp at h, fun h => by simp at h, fun h => by simp at h, fun _ => ⟨rfl, rfl⟩, fun h => by simp at h⟩, by simp, hu, by simp, fun h => by simp at h, fun _ => hb, fun _ => hg⟩
  · exact ⟨by simp, ⟨fun h => by simp at h, fun h => by simp at h, fun h => by simp at h, fun h => by simp at h, fun _ => ⟨rfl, rfl, rfl⟩⟩, by simp, by simp, by show (cutL c.text 100).length ≤ 2000; omega, fun _ => abc_goal, fun h => by simp at h, fun h => by simp at h⟩
def bstepP (s : Stt) (c : Chr) : Stt := match doM s (entP c) with
  | .ok s' => s'
  | .error _ => s
def initS : Stt := ⟨[⟨[73, 78, 66, 79, 88], 1, []⟩], []⟩
/-- The state that entries make. -/
def stateP (l : List Chr) : Stt := (l.take 40).foldl bstepP initS
theorem initS_may : May initS := by
  refine ⟨by decide, by decide, ?_, by decide, by decide, fun x hx => by cases hx⟩
  intro b hb
  simp [initS] at hb
  subst hb
  exact ⟨rfl, by decide, by decide, trivial⟩
theorem stepP_may {s : Stt} (h : May s) (c : Chr) : May (bstepP s c) := by
  unfold bstepP
  split
  · rename_i s' he; exact doM_may h (entP_formed c) he
  · exact h
theorem foldl_may : ∀ (l : List Chr) (s : Stt), May s → May (l.foldl bstepP s) := by
  intro l
  induction l with
  | nil => intro s h; exact h
  | cons c l ih => intro s h; exact ih _ (stepP_may h c)
theorem stateP_may (l : List Chr) : May (stateP l) := foldl_may _ _ initS_may
theorem foldl_step {l : List Chr} {k : Nat} {c : Chr} (h : l[k]? = some c) (s : Stt) : (l.take (k + 1)).foldl bstepP s = bstepP ((l.take k).foldl bstepP s) c := by
  have hk : k < l.length := (List.getElem?_eq_some_iff.1 h).1
  rw [List.take_succ_eq_append_getElem hk, (List.getElem?_eq_some_iff.1 h).2, List.foldl_append]
  rfl

def boxRow : Obj := .cells #[.string ⟨#[73, 78, 66, 79, 88]⟩, .string ⟨#[119, 111, 114, 107]⟩, .string ⟨#[106, 117, 110, 107]⟩, .string ⟨#[97]⟩, .string ⟨#[98]⟩, .string ⟨#[99]⟩] 9
set_option maxHeartbeats 1000000 in
set_option maxRecDepth 100000 in
theorem boxName_any (n : Int) (w : World) (hn : (Lit.int .i64 n).wf = true) :
    Calls Tryz.prog 33 #[.int .i64 n] w fun e w' => e = .returned (.string (S (boxN n))) ∧ w' = w.alloc boxRow := by
  have HP := hid (fun u => picked_any n 6 u hn (by decide) (by decide))
  have h6 := pickN_lt n 6 (by decide)
  obtain ⟨t, ht⟩ : ∃ t, t = boxN n := ⟨_, rfl⟩
  have HT := hid ht
  rw [← ht]
  unfold boxN at HT
  clear hn ht
  generalize pickN n 6 = k at *
  match k, h6 with
  | 0, _ =>
    go_enter Tryz.func33, Tryz.ntmps33
    go_wp2_with fail
    refine (HP.out _).mono ?_
    rintro e u ⟨rfl, hu⟩
    have hu' := hu.symm
    subst hu'
    clear hu
    go_wp2
    go_ret
    exact ⟨by rw [HT.out]; rfl, rfl⟩
  | 1, _ =>
    go_enter Tryz.func33, Tryz.ntmps33
    go_wp2_with fail
    refine (HP.out _).mono ?_
    rintro e u ⟨rfl, hu⟩
    have hu' := hu.symm
    subst hu'
    clear hu
    go_wp2
    go_ret
    exact ⟨by rw [HT.out]; rfl, rfl⟩
  | 2, _ =>
    go_enter Tryz.func33, Tryz.ntmps33
    go_wp2_with fail
    refine (HP.out _).mono ?_
    rintro e u ⟨rfl, hu⟩
    have hu' := hu.symm
    subst hu'
    clear hu
    go_wp2
    go_ret
    exact ⟨by rw [HT.out]; rfl, rfl⟩
  | 3, _ =>
    go_enter Tryz.func33, Tryz.ntmps33
    go_wp2_with fail
    refine (HP.out _).mono ?_
    rintro e u ⟨rfl, hu⟩
    have hu' := hu.symm
    subst hu'
    clear hu
    go_wp2
    go_ret
    exact ⟨by rw [HT.out]; rfl, rfl⟩
  | 4, _ =>
    go_enter Tryz.func33, Tryz.ntmps33
    go_wp2_with fail
    refine (HP.out _).mono ?_
    rintro e u ⟨rfl, hu⟩
    have hu' := hu.symm
    subst hu'
    clear hu
    go_wp2
    go_ret
    exact ⟨by rw [HT.out]; rfl, rfl⟩
  | 5, _ =>
    go_enter Tryz.func33, Tryz.ntmps33
    go_wp2_with fail
    refine (HP.out _).mono ?_
    rintro e u ⟨rfl, hu⟩
    have hu' := hu.symm
    subst hu'
    clear hu
    go_wp2
    go_ret
    exact ⟨by rw [HT.out]; rfl, rfl⟩
set_option maxHeartbeats 1000000 in
set_option maxRecDepth 100000 in
theorem entry_k0 (c : Chr) (w : World) (hw : chrW c) (hk : pickN c.kind 6 = 0) :
    Calls Tryz.prog 18 #[.agg #[.int .i64 c.kind, .int .i64 c.box, .int .i64 c.uid, .int .i64 c.flags, .int .i64 c.goal, .string c.text]] w fun e w' => e = .returned (.agg #[.int .i64 1, .string (S (boxN c.box)), .int .i64 0, .int .i64 0, .string ⟨#[]⟩, .string ⟨#[]⟩]) ∧ Below w.heap.size w w' := by
  have HW := hid hw
  have HP := hid (fun u => picked_any c.kind 6 u hw.1 (by decide) (by decide))
  rw [hk] at HP
  have hp8 := pickN_lt c.uid 8 (by decide)
  have HB := hid (show ∀ a b d e : Obj, Below w.heap.size w ((((w.alloc a).alloc b).alloc d).alloc e) from fun a b d e => (((((Below.refl w.heap.size w).alloc (by simp) a).alloc (by simp) b).alloc (by simp; omega) d).alloc (by simp; omega) e))
  clear hw hk
  go_enter Tryz.func18, Tryz.ntmps18
  go_wp2_with fail
  refine (HP.out _).mono ?_
  rintro e u ⟨rfl, hu⟩
  have hu' := hu.symm
  subst hu'
  clear hu
  go_wp2_with fail
  refine (boxName_any c.box _ HW.out.2.1).mono ?_
  rintro e u ⟨rfl, hu⟩
  subst hu
  go_wp2
  refine bodyPost_ret (v := .agg #[.int .i64 1, .string (S (boxN c.box)), .int .i64 0, .int .i64 0, .string ⟨#[]⟩, .string ⟨#[]⟩]) (by simp [results, Tryz.results18, go_sem, *]) rfl ?_
  exact ⟨rfl, HB.out _ _ _ _⟩
set_option maxHeartbeats 1000000 in
set_option maxRecDepth 100000 in
theorem entry_k1 (c : Chr) (w : World) (hw : chrW c) (hk : pickN c.kind 6 = 1) :
    Calls Tryz.prog 18 #[.agg #[.int .i64 c.kind, .int .i64 c.box, .int .i64 c.uid, .int .i64 c.flags, .int .i64 c.goal, .string c.text]] w fun e w' => e = .returned (.agg #[.int .i64 2, .string (S (boxN c.box)), .int .i64 0, .int .i64 (pickN c.flags 32 : Nat), .string ⟨#[]⟩, .string (cutB c.text 300)]) ∧ Below w.heap.size w w' := by
  have HW := hid hw
  have HP := hid (fun u => picked_any c.kind 6 u hw.1 (by decide) (by decide))
  rw [hk] at HP
  have hp8 := pickN_lt c.uid 8 (by decide)
  have HB := hid (show ∀ a b d e : Obj, Below w.heap.size w ((((w.alloc a).alloc b).alloc d).alloc e) from fun a b d e => (((((Below.refl w.heap.size w).alloc (by simp) a).alloc (by simp) b).alloc (by simp; omega) d).alloc (by simp; omega) e))
  clear hw hk
  go_enter Tryz.func18, Tryz.ntmps18
  go_wp2_with fail
  refine (HP.out _).mono ?_
  rintro e u ⟨rfl, hu⟩
  have hu' := hu.symm
  subst hu'
  clear hu
  go_wp2_with fail
  refine (boxName_any c.box _ HW.out.2.1).mono ?_
  rintro e u ⟨rfl, hu⟩
  subst hu
  go_wp2_with fail
  refine (picked_any c.flags 32 _ HW.out.2.2.2.1 (by decide) (by decide)).mono ?_
  rintro e u ⟨rfl, hu⟩
  have hu' := hu.symm
  subst hu'
  clear hu
  go_wp2_with fail
  refine (cut_any c.text 300 _ HW.out.2.2.2.2.2 (by decide)).mono ?_
  rintro e u ⟨rfl, hu⟩
  have hu' := hu.symm
  subst hu'
  clear hu
  go_wp2
  refine bodyPost_ret (v := .agg #[.int .i64 2, .string (S (boxN c.box)), .int .i64 0, .int .i64 (pickN c.flags 32 : Nat), .string ⟨#[]⟩, .string (cutB c.text 300)]) (by simp [results, Tryz.results18, go_sem, *]) rfl ?_
  exact ⟨rfl, HB.out _ _ _ _⟩
set_option maxHeartbeats 1000000 in
set_option maxRecDepth 100000 in
theorem entry_k2 (c : Chr) (w : World) (hw : chrW c) (hk : pickN c.kind 6 = 2) :
    Calls Tryz.prog 18 #[.agg #[.int .i64 c.kind, .int .i64 c.box, .int .i64 c.uid, .int .i64 c.flags, .int .i64 c.goal, .string c.text]] w fun e w' => e = .returned (.agg #[.int .i64 3, .string (S (boxN c.box)), .int .i64 (1 + (pickN c.uid 8 : Nat)), .int .i64 (pickN c.flags 32 : Nat), .string ⟨#[]⟩, .string ⟨#[]⟩]) ∧ Below w.heap.size w w' := by
  have HW := hid hw
  have HP := hid (fun u => picked_any c.kind 6 u hw.1 (by decide) (by decide))
  rw [hk] at HP
  have hp8 := pickN_lt c.uid 8 (by decide)
  have HB := hid (show ∀ a b d e : Obj, Below w.heap.size w ((((w.alloc a).alloc b).alloc d).alloc e) from fun a b d e => (((((Below.refl w.heap.size w).alloc (by simp) a).alloc (by simp) b).alloc (by simp; omega) d).alloc (by simp; omega) e))
  clear hw hk
  go_enter Tryz.func18, Tryz.ntmps18
  go_wp2_with fail
  refine (HP.out _).mono ?_
  rintro e u ⟨rfl, hu⟩
  have hu' := hu.symm
  subst hu'
  clear hu
  go_wp2_with fail
  refine (boxName_any c.box _ HW.out.2.1).mono ?_
  rintro e u ⟨rfl, hu⟩
  subst hu
  go_wp2_with fail
  refine (picked_any c.uid 8 _ HW.out.2.2.1 (by decide) (by decide)).mono ?_
  rintro e u ⟨rfl, hu⟩
  have hu' := hu.symm
  subst hu'
  clear hu
  go_wp2_with fail
  refine (picked_any c.flags 32 _ HW.out.2.2.2.1 (by decide) (by decide)).mono ?_
  rintro e u ⟨rfl, hu⟩
  have hu' := hu.symm
  subst hu'
  clear hu
  go_wp2
  refine bodyPost_ret (v := .agg #[.int .i64 3, .string (S (boxN c.box)), .int .i64 (1 + (pickN c.uid 8 : Nat)), .int .i64 (pickN c.flags 32 : Nat), .string ⟨#[]⟩, .string ⟨#[]⟩]) (by simp [results, Tryz.results18, go_sem, *]) rfl ?_
  exact ⟨rfl, HB.out _ _ _ _⟩
set_option maxHeartbeats 1000000 in
set_option maxRecDepth 100000 in
theorem entry_k3 (c : Chr) (w : World) (hw : chrW c) (hk : pickN c.kind 6 = 3) :
    Calls Tryz.prog 18 #[.agg #[.int .i64 c.kind, .int .i64 c.box, .int .i64 c.uid, .int .i64 c.flags, .int .i64 c.goal, .string c.text]] w fun e w' => e = .returned (.agg #[.int .i64 4, .string (S (boxN c.box)), .int .i64 0, .int .i64 0, .string ⟨#[]⟩, .string ⟨#[]⟩]) ∧ Below w.heap.size w w' := by
  have HW := hid hw
  have HP := hid (fun u => picked_any c.kind 6 u hw.1 (by decide) (by decide))
  rw [hk] at HP
  have hp8 := pickN_lt c.uid 8 (by decide)
  have HB := hid (show ∀ a b d e : Obj, Below w.heap.size w ((((w.alloc a).alloc b).alloc d).alloc e) from fun a b d e => (((((Below.refl w.heap.size w).alloc (by simp) a).alloc (by simp) b).alloc (by simp; omega) d).alloc (by simp; omega) e))
  clear hw hk
  go_enter Tryz.func18, Tryz.ntmps18
  go_wp2_with fail
  refine (HP.out _).mono ?_
  rintro e u ⟨rfl, hu⟩
  have hu' := hu.symm
  subst hu'
  clear hu
  go_wp2_with fail
  refine (boxName_any c.box _ HW.out.2.1).mono ?_
  rintro e u ⟨rfl, hu⟩
  subst hu
  go_wp2
  refine bodyPost_ret (v := .agg #[.int .i64 4, .string (S (boxN c.box)), .int .i64 0, .int .i64 0, .string ⟨#[]⟩, .string ⟨#[]⟩]) (by simp [results, Tryz.results18, go_sem, *]) rfl ?_
  exact ⟨rfl, HB.out _ _ _ _⟩
set_option maxHeartbeats 1000000 in
set_option maxRecDepth 100000 in
theorem entry_k4 (c : Chr) (w : World) (hw : chrW c) (hk : pickN c.kind 6 = 4) :
    Calls Tryz.prog 18 #[.agg #[.int .i64 c.kind, .int .i64 c.box, .int .i64 c.uid, .int .i64 c.flags, .int .i64 c.goal, .string c.text]] w fun e w' => e = .returned (.agg #[.int .i64 5, .string (S (boxN c.box)), .int .i64 (1 + (pickN c.uid 8 : Nat)), .int .i64 0, .string (S (boxN c.goal)), .string ⟨#[]⟩]) ∧ Below w.heap.size w w' := by
  have HW := hid hw
  have HP := hid (fun u => picked_any c.kind 6 u hw.1 (by decide) (by decide))
  rw [hk] at HP
  have hp8 := pickN_lt c.uid 8 (by decide)
  have HB := hid (show ∀ a b d e f : Obj, Below w.heap.size w (((((w.alloc a).alloc b).alloc d).alloc e).alloc f) from fun a b d e f => ((((((Below.refl w.heap.size w).alloc (by simp) a).alloc (by simp) b).alloc (by simp; omega) d).alloc (by simp; omega) e).alloc (by simp; omega) f))
  clear hw hk
  go_enter Tryz.func18, Tryz.ntmps18
  go_wp2_with fail
  refine (HP.out _).mono ?_
  rintro e u ⟨rfl, hu⟩
  have hu' := hu.symm
  subst hu'
  clear hu
  go_wp2_with fail
  refine (boxName_any c.box _ HW.out.2.1).mono ?_
  rintro e u ⟨rfl, hu⟩
  subst hu
  go_wp2_with fail
  refine (picked_any c.uid 8 _ HW.out.2.2.1 (by decide) (by decide)).mono ?_
  rintro e u ⟨rfl, hu⟩
  have hu' := hu.symm
  subst hu'
  clear hu
  go_wp2_with fail
  refine (boxName_any c.goal _ HW.out.2.2.2.2.1).mono ?_
  rintro e u ⟨rfl, hu⟩
  subst hu
  go_wp2
  refine bodyPost_ret (v := .agg #[.int .i64 5, .string (S (boxN c.box)), .int .i64 (1 + (pickN c.uid 8 : Nat)), .int .i64 0, .string (S (boxN c.goal)), .string ⟨#[]⟩]) (by simp [results, Tryz.results18, go_sem, *]) rfl ?_
  exact ⟨rfl, HB.out _ _ _ _ _⟩
set_option maxHeartbeats 1000000 in
set_option maxRecDepth 100000 in
theorem entry_k5 (c : Chr) (w : World) (hw : chrW c) (hk : pickN c.kind 6 = 5) :
    Calls Tryz.prog 18 #[.agg #[.int .i64 c.kind, .int .i64 c.box, .int .i64 c.uid, .int .i64 c.flags, .int .i64 c.goal, .string c.text]] w fun e w' => e = .returned (.agg #[.int .i64 6, .string ⟨#[]⟩, .int .i64 0, .int .i64 0, .string ⟨#[97, 64, 98, 46, 99]⟩, .string (cutB c.text 100)]) ∧ Below w.heap.size w w' := by
  have HW := hid hw
  have HP := hid (fun u => picked_any c.kind 6 u hw.1 (by decide) (by decide))
  rw [hk] at HP
  have hp8 := pickN_lt c.uid 8 (by decide)
  have HB := hid (show ∀ a b d : Obj, Below w.heap.size w (((w.alloc a).alloc b).alloc d) from fun a b d => ((((Below.refl w.heap.size w).alloc (by simp) a).alloc (by simp) b).alloc (by simp; omega) d))
  clear hw hk
  go_enter Tryz.func18, Tryz.ntmps18
  go_wp2_with fail
  refine (HP.out _).mono ?_
  rintro e u ⟨rfl, hu⟩
  have hu' := hu.symm
  subst hu'
  clear hu
  go_wp2_with fail
  refine (cut_any c.text 100 _ HW.out.2.2.2.2.2 (by decide)).mono ?_
  rintro e u ⟨rfl, hu⟩
  have hu' := hu.symm
  subst hu'
  clear hu
  go_wp2
  refine bodyPost_ret (v := .agg #[.int .i64 6, .string ⟨#[]⟩, .int .i64 0, .int .i64 0, .string ⟨#[97, 64, 98, 46, 99]⟩, .string (cutB c.text 100)]) (by simp [results, Tryz.results18, go_sem, *]) rfl ?_
  exact ⟨rfl, HB.out _ _ _⟩
theorem entry_any (c : Chr) (w : World) (hw : chrW c) :
    Calls Tryz.prog 18 #[.agg #[.int .i64 c.kind, .int .i64 c.box, .int .i64 c.uid, .int .i64 c.flags, .int .i64 c.goal, .string c.text]] w fun e w' => e = .returned (.agg #[.int .i64 (entP c).kind, .string (S (entP c).box), .int .i64 (entP c).uid, .int .i64 (entP c).flags, .string (S (entP c).goal), .string (S (entP c).text)]) ∧ Below w.heap.size w w' := by
  have h := pickN_lt c.kind 6 (by decide)
  unfold entP
  cases hk : pickN c.kind 6 with
  | zero => exact entry_k0 c w hw hk
  | succ k =>
    rw [hk] at h
    match k, h, hk with
    | 0, _, hk => simp only [S_cutL]; exact entry_k1 c w hw hk
    | 1, _, hk => exact entry_k2 c w hw hk
    | 2, _, hk => exact entry_k3 c w hw hk
    | 3, _, hk => exact entry_k4 c w hw hk
    | 4, _, hk => simp only [S_cutL]; exact entry_k5 c w hw hk
end Go.Proofs.YtjfkgfomlnmngaaGreatDoor
namespace Go.Proofs.YtjfkgfomlnmngaaGreatDoor
open Go.RowKit Go.Proofs

def chrC (c : Chr) : List Value := [.int .i64 c.kind, .int .i64 c.box, .int .i64 c.uid, .int .i64 c.flags, .int .i64 c.goal, .string c.text]
def ChrM (c : Chr) (cs : List Value) : Prop := cs = chrC c
def ChsM (Q : Nat → Prop) (w : World) (v : Value) (l : List Chr) : Prop := RowM Q 6 ChrM w v l
theorem ChsM.next {Q : Nat → Prop} {w w' : World} {v : Value} {l : List Chr} (h : ChsM Q w v l) (hb : Below w.heap.size w w') : ChsM Q w' v l := RowM.imp h (fun _ h => h) (Keeps.of_below hb) fun _ _ h => h
theorem ChsM.at {Q : Nat → Prop} {w : World} {a : Option Addr} {n c : Nat} {l : List Chr} (h : ChsM Q w (.slice a n c) l) {i : Nat} {x : Chr} (hx : l[i]? = some x) : ∃ b o, a = some ⟨b, o, none⟩ ∧ w.cell? ⟨b, o + i * 6, none⟩ = some (.int .i64 x.kind) ∧ w.cell? ⟨b, o + i * 6 + 1, none⟩ = some (.int .i64 x.box) ∧ w.cell? ⟨b, o + i * 6 + 2, none⟩ = some (.int .i64 x.uid) ∧ w.cell? ⟨b, o + i * 6 + 3, none⟩ = some (.int .i64 x.flags) ∧ w.cell? ⟨b, o + i * 6 + 4, none⟩ = some (.int .i64 x.goal) ∧ w.cell? ⟨b, o + i * 6 + 5, none⟩ = some (.string x.text) := by
  obtain ⟨a', c', hv, _, hr⟩ := h
  simp only [Value.slice.injEq] at hv
  obtain ⟨rfl, _, rfl⟩ := hv
  obtain ⟨b, o, cs, rfl, _, _, _, hc, hP⟩ := hr i x hx
  have hcs : cs = _ := hP
  subst hcs
  exact ⟨b, o, rfl, by simpa using hc 0 _ rfl, hc 1 _ rfl, hc 2 _ rfl, hc 3 _ rfl, hc 4 _ rfl, hc 5 _ rfl⟩
def AllR (w : World) (r : Except Int Stt) (vb vs : Value) (z : Int) (w' : World) : Prop := match r with
  | .error e => z = e ∧ vb = .slice none 0 0 ∧ vs = .slice none 0 0
  | .ok s' => z = 0 ∧ ∃ vm, OwnS w.heap.size w' vb vs vm s'
theorem AllP.form {w w' : World} {r : Except Int Stt} {e : Ending} (h : AllP w r e w') : ∃ a1 n1 c1 a2 n2 c2 z, e = .returned (.tuple #[.agg #[.slice a1 n1 c1, .slice a2 n2 c2], .int .i64 z]) ∧ AllR w r (.slice a1 n1 c1) (.slice a2 n2 c2) z w' := by
  obtain ⟨_, h⟩ := h
  cases r with
  | error z => exact ⟨none, 0, 0, none, 0, 0, z, h, rfl, rfl, rfl⟩
  | ok s' =>
    obtain ⟨vb, vs, vm, rfl, hO⟩ := h
    obtain ⟨a1, c1, rfl⟩ := bown_slice hO.boxes
    obtain ⟨a2, c2, rfl⟩ := bown_slice hO.spool
    exact ⟨_, _, _, _, _, _, _, rfl, rfl, vm, hO⟩
/-- What the next state lies in. -/
def NxP (wr : World) (r : Except Int Stt) (a b : Value) (wx : World) : Prop := ∃ pn a1 n1 c1 a2 n2 c2 z, a = .pointer (some ⟨pn, 0, none⟩) ∧ b = .int .i64 z ∧ wx.heap[pn]? = some (.cells #[.slice a1 n1 c1, .slice a2 n2 c2] 31) ∧ wr.heap.size ≤ pn ∧ Below wr.heap.size wr wx ∧ match r with
  | .error e => z = e
  | .ok s' => z = 0 ∧ ∃ vm, OwnS wr.heap.size wx (.slice a1 n1 c1) (.slice a2 n2 c2) vm s'
theorem nx_end {wr w3 wx u : World} {p n1 c1 n2 c2 : Nat} {a1 a2 : Option Addr} {r : Except Int Stt} {z : Int} (hw : wx.heap[p]? = some (.cells #[.slice a1 n1 c1, .slice a2 n2 c2] 31)) (hoth : ∀ k, k < w3.heap.size → k ≠ p → wx.heap[k]? = w3.heap[k]?) (hbel : Below wr.heap.size wr wx)
    (hR : AllR u r (.slice a1 n1 c1) (.slice a2 n2 c2) z w3) (hu : wr.heap.size ≤ u.heap.size) (hp : wr.heap.size ≤ p) (hpo : ∀ vm s', OwnS u.heap.size w3 (.slice a1 n1 c1) (.slice a2 n2 c2) vm s' → ¬ inS (.slice a1 n1 c1) (.slice a2 n2 c2) vm p) : NxP wr r (.pointer (some ⟨p, 0, none⟩)) (.int .i64 z) wx := by
  refine ⟨p, _, _, _, _, _, _, z, rfl, rfl, hw, hp, hbel, ?_⟩
  cases r with
  | error e => exact hR.1
  | ok s' =>
    obtain ⟨h0, vm, hO⟩ := hR
    exact ⟨h0, vm, (hO.base hu).keep fun k hk => hoth k (hO.lt hk).2 fun e => hpo vm s' hO (by rw [← e]; exact hk)⟩
/-- The state so far, in its variable. -/
def StI (q r0 : Nat) (w wr : World) (s : Stt) : Prop := ∃ ab nb cb ae ns cs, wr.heap[q]? = some (.cells #[.slice ab nb cb, .slice ae ns cs] 31) ∧ wr.heap[r0]? = some (.cells #[.slice none 0 0, .slice none 0 0] 31) ∧ SttM (fun k => k ≠ q ∧ k ≠ r0) wr (.slice ab nb cb) (.slice ae ns cs) s ∧ Below w.heap.size w wr
/-- What State hands back. -/
def StR (w : World) (s : Stt) (e : Ending) (w' : World) : Prop := ∃ a1 n1 c1 a2 n2 c2, e = .returned (.agg #[.slice a1 n1 c1, .slice a2 n2 c2]) ∧ SttM (fun _ => True) w' (.slice a1 n1 c1) (.slice a2 n2 c2) s ∧ Below w.heap.size w w'
theorem init_mem (w : World) (p q r0 : Nat) (h : w.heap[p]? = some (.cells #[.string ⟨#[73, 78, 66, 79, 88]⟩, .int .i64 1, .slice none 0 0] 64)) (hp : p ≠ q ∧ p ≠ r0) : SttM (fun k => k ≠ q ∧ k ≠ r0) w (.slice (some ⟨p, 0, none⟩) 1 1) (.slice none 0 0) initS := by
  refine ⟨⟨some ⟨p, 0, none⟩, 1, rfl, by simp [initS, maxLen], fun i y hy => ?_⟩, rowM_nil _ _ _ _ _ _, fun a n c e => by cases e; exact Nat.le_refl _⟩
  cases i with
  | succ i => simp [initS] at hy
  | zero =>
    simp [initS] at hy
    subst hy
    refine ⟨p, 0, boxC ⟨[73, 78, 66, 79, 88], 1, []⟩ (.slice none 0 0), rfl, (Array.getElem?_eq_some_iff.1 h).1, hp, rfl, fun j u hj => ?_, _, rfl, rowM_nil _ _ _ _ _ _⟩
    simp only [Nat.zero_mul, Nat.zero_add, World.cell?, h]
    simpa [boxC, S] using hj
theorem StI.step {q r0 : Nat} {w wr wx : World} {s s' : Stt} {pn n1 c1 n2 c2 : Nat} {a1 a2 : Option Addr} {vm : List Value} (h : StI q r0 w wr s) (hM : May s') (hb : Below wr.heap.size wr wx) (hO : OwnS wr.heap.size wx (.slice a1 n1 c1) (.slice a2 n2 c2) vm s') (hqr : q ≠ r0) (hw : w.heap.size ≤ q) (_hpn : wr.heap.size ≤ pn) :
    StI q r0 w ((wx.setCell ⟨q, 0, none⟩ (.slice a1 n1 c1)).setCell ⟨q, 1, none⟩ (.slice a2 n2 c2)) s' := by
  obtain ⟨ab, nb, cb, ae, ns, cs, h1, h2, _, h4⟩ := h
  have hql : q < wr.heap.size := (Array.getElem?_eq_some_iff.1 h1).1
  have hrl : r0 < wr.heap.size := (Array.getElem?_eq_some_iff.1 h2).1
  have hS := hO.stt (Q := fun k => k ≠ q ∧ k ≠ r0) hM (fun g hg => by have := (hO.lt hg).1; omega)
  refine ⟨a1, n1, c1, a2, n2, c2, set2_block (low_obj hb h1), (set_other hqr.symm).trans ((set_other hqr.symm).trans (low_obj hb h2)), hS.imp (fun _ h => h) ((Keeps.set wx (p := ⟨q, 0, none⟩) _ fun b hb => hb.1).trans (Keeps.set _ (p := ⟨q, 1, none⟩) _ fun b hb => hb.1)), ?_⟩
  exact (((h4.trans (hb.mono h4.size)).setCell hw _).setCell hw _)
theorem StI.same {q r0 : Nat} {w wr wx : World} {s : Stt} (h : StI q r0 w wr s) (hb : Below wr.heap.size wr wx) : StI q r0 w wx s := by
  obtain ⟨ab, nb, cb, ae, ns, cs, h1, h2, h3, h4⟩ := h
  exact ⟨ab, nb, cb, ae, ns, cs, low_obj hb h1, low_obj hb h2, h3.next hb, h4.trans (hb.mono h4.size)⟩
theorem ne_lt {a b : Nat} (h : a < b) : a ≠ b := Nat.ne_of_lt h
end Go.Proofs.YtjfkgfomlnmngaaGreatDoor
namespace Go.Proofs.YtjfkgfomlnmngaaGreatDoor
open Go.RowKit Go.Deep Go.Joins Go.ChangeShapes Go.WideShapes

set_option maxRecDepth 100000 in
theorem open_chores {H : Type} {enc : TypeId × Value → H} {w : World} {base b0 : Nat} {spare : Nat → Bool} {held : Bool} {v : Value} {d : DataW H} {p : List MemPlace}
    (hv : Value.okWide Tryz.prog w .any b0 22 v) (h : DataW.Trod enc Tryz.prog w base spare held 22 v d p) :
    ∃ a c, ∃ ps : List Chr, v = .slice a ps.length c ∧ ChsM (fun _ => True) w (.slice a ps.length c) ps ∧ ∀ x ∈ ps, chrW x := by
  obtain ⟨a0, len0, cap0, rfl⟩ := okWide_slice Tryz.underlying22 hv
  obtain ⟨fuel, hf0⟩ := h
  have hf : DataW.trod enc Tryz.prog w base spare held fuel 22 [.slice a0 len0 cap0] = some (d, p) := by simpa [Value.cells] using hf0
  have ce : Tryz.prog.cellsOf 67 = 6 := by kernel_rfl
  have cs : Tryz.prog.cellsOf 9 = 1 := by kernel_rfl
  have ci : Tryz.prog.cellsOf 3 = 1 := by kernel_rfl
  rcases open_slice Tryz.underlying22 hf with ⟨h0, _⟩ | ⟨a, len, cap, m, n, D, Pl, h0, hb, hl, hm, hmm, _, hx⟩
  · simp only [List.cons.injEq, and_true] at h0
    exact ⟨none, 0, [], h0, rowM_nil _ _ _ _ _ _, by simp⟩
  simp only [List.cons.injEq, and_true] at h0
  rw [h0]
  have hlm : len ≤ m := by rw [hmm]; split <;> omega
  have each : ∀ i, i < len → ∃ x : Chr, w.cell? (a.add (i * 6)) = some (.int .i64 x.kind) ∧ w.cell? (a.add (i * 6 + 1)) = some (.int .i64 x.box) ∧ w.cell? (a.add (i * 6 + 2)) = some (.int .i64 x.uid) ∧ w.cell? (a.add (i * 6 + 3)) = some (.int .i64 x.flags) ∧ w.cell? (a.add (i * 6 + 4)) = some (.int .i64 x.goal) ∧ w.cell? (a.add (i * 6 + 5)) = some (.string x.text) ∧ chrW x := by
    intro i hi
    obtain ⟨cs', h1, h2⟩ := hx i (by omega)
    rw [ce] at h1
    obtain ⟨_, hlen, hcell⟩ := World.cells?_some h1
    obtain ⟨xs, k, hk, hxy, _, hxl, hf⟩ := DataW.trod_struct Tryz.underlying67 h2
    match xs, hxl, cs', hlen with
    | [y0, y1, y2, y3, y4, y5], _, [v0, v1, v2, v3, v4, v5], _ =>
      have g0 := hf 0 _ rfl
      have g1 := hf 1 _ rfl
      have g2 := hf 2 _ rfl
      have g3 := hf 3 _ rfl
      have g4 := hf 4 _ rfl
      have g5 := hf 5 _ rfl
      simp [cs, ci] at g0 g1 g2 g3 g4 g5
      have e0 := hcell 0 (by omega)
      have e1 := hcell 1 (by omega)
      have e2 := hcell 2 (by omega)
      have e3 := hcell 3 (by omega)
      have e4 := hcell 4 (by omega)
      have e5 := hcell 5 (by omega)
      rw [add_add] at e0 e1 e2 e3 e4 e5
      obtain ⟨s0, q0, _, k0⟩ := DataW.trod_int Tryz.underlying3 g0
      obtain ⟨s1, q1, _, k1⟩ := DataW.trod_int Tryz.underlying3 g1
      obtain ⟨s2, q2, _, k2⟩ := DataW.trod_int Tryz.underlying3 g2
      obtain ⟨s3, q3, _, k3⟩ := DataW.trod_int Tryz.underlying3 g3
      obtain ⟨s4, q4, _, k4⟩ := DataW.trod_int Tryz.underlying3 g4
      obtain ⟨s5, q5, _, k5⟩ := DataW.trod_string Tryz.underlying9 g5
      simp only [List.cons.injEq, and_true] at q0 q1 q2 q3 q4 q5
      subst q0
      subst q1
      subst q2
      subst q3
      subst q4
      subst q5
      exact ⟨⟨s0, s1, s2, s3, s4, s5⟩, by simpa using e0, by simpa using e1, by simpa using e2, by simpa using e3, by simpa using e4, by simpa using e5, k0, k1, k2, k3, k4, k5⟩
  haveI : Inhabited Chr := ⟨⟨0, 0, 0, 0, 0, ByteArray.empty⟩⟩
  obtain ⟨q, hq⟩ := choose_lt each
  refine ⟨some a, cap, (List.range len).map q, by simp, ⟨some a, cap, rfl, by simp; omega, ?_⟩, ?_⟩
  · intro i x hx
    have hi : i < len := by
      rcases Nat.lt_or_ge i len with h | h
      · exact h
      · rw [List.getElem?_eq_none (by simpa using h)] at hx; cases hx
    rw [List.getElem?_map, List.getElem?_range hi] at hx
    simp only [Option.map_some, Option.some.injEq] at hx
    subst hx
    obtain ⟨h0, h1, h2, h3, h4, h5, _⟩ := hq i hi
    obtain ⟨b, off, spot⟩ := a
    have hspot : spot = none := by
      have := World.cell?_spot (hq 0 (by omega)).1
      simpa [Addr.add] using this
    subst hspot
    rw [Addr.add_lit] at h0 h1 h2 h3 h4 h5
    refine ⟨b, off, chrC (q i), rfl, World.block_lt_of_cell? w _ h0, trivial, rfl, ?_, rfl⟩
    intro j u hj
    have hj6 : j < 6 := (List.getElem?_eq_some_iff.1 hj).1
    match j, hj6, hj with
    | 0, _, hj => cases hj; exact h0
    | 1, _, hj => cases hj; rw [Nat.add_assoc]; exact h1
    | 2, _, hj => cases hj; rw [Nat.add_assoc]; exact h2
    | 3, _, hj => cases hj; rw [Nat.add_assoc]; exact h3
    | 4, _, hj => cases hj; rw [Nat.add_assoc]; exact h4
    | 5, _, hj => cases hj; rw [Nat.add_assoc]; exact h5
  · intro x hx
    obtain ⟨i, hi, rfl⟩ := List.mem_map.1 hx
    exact (hq i (List.mem_range.1 hi)).2.2.2.2.2.2
set_option maxRecDepth 100000 in
theorem open_chore {H : Type} {enc : TypeId × Value → H} {w : World} {base b0 : Nat} {spare : Nat → Bool} {held : Bool} {v : Value} {d : DataW H} {p : List MemPlace}
    (hv : Value.okWide Tryz.prog w .any b0 67 v) (h : DataW.Trod enc Tryz.prog w base spare held 67 v d p) :
    ∃ x : Chr, v = .agg #[.int .i64 x.kind, .int .i64 x.box, .int .i64 x.uid, .int .i64 x.flags, .int .i64 x.goal, .string x.text] ∧ chrW x := by
  obtain ⟨cs, rfl, hsz⟩ := okWide_struct Tryz.underlying67 hv
  have hC : Tryz.prog.cellsOf 67 = 6 := by kernel_rfl
  have ci : Tryz.prog.cellsOf 3 = 1 := by kernel_rfl
  have cs' : Tryz.prog.cellsOf 9 = 1 := by kernel_rfl
  obtain ⟨fuel, hf⟩ := h
  obtain ⟨xs, n, _, _, _, hxl, hx⟩ := DataW.trod_struct Tryz.underlying67 hf
  obtain ⟨c0, c1, c2, c3, c4, c5, rfl⟩ : ∃ c0 c1 c2 c3 c4 c5, cs = #[c0, c1, c2, c3, c4, c5] := by
    obtain ⟨l⟩ := cs
    match l, (hsz.trans hC) with
    | [c0, c1, c2, c3, c4, c5], _ => exact ⟨c0, c1, c2, c3, c4, c5, rfl⟩
  have hxl6 : xs.length = 6 := hxl
  have at' : ∀ i : Nat, i < 6 → ∃ y, xs[i]? = some y := fun i hi => ⟨_, List.getElem?_eq_getElem (by omega)⟩
  obtain ⟨y0, g0⟩ := at' 0 (by omega)
  obtain ⟨y1, g1⟩ := at' 1 (by omega)
  obtain ⟨y2, g2⟩ := at' 2 (by omega)
  obtain ⟨y3, g3⟩ := at' 3 (by omega)
  obtain ⟨y4, g4⟩ := at' 4 (by omega)
  obtain ⟨y5, g5⟩ := at' 5 (by omega)
  have h0 := (hx 0 _ rfl).trans g0
  have h1 := (hx 1 _ rfl).trans g1
  have h2 := (hx 2 _ rfl).trans g2
  have h3 := (hx 3 _ rfl).trans g3
  have h4 := (hx 4 _ rfl).trans g4
  have h5 := (hx 5 _ rfl).trans g5
  simp [ci, cs', Value.cells] at h0 h1 h2 h3 h4 h5
  obtain ⟨s0, q0, _, k0⟩ := DataW.trod_int Tryz.underlying3 h0
  obtain ⟨s1, q1, _, k1⟩ := DataW.trod_int Tryz.underlying3 h1
  obtain ⟨s2, q2, _, k2⟩ := DataW.trod_int Tryz.underlying3 h2
  obtain ⟨s3, q3, _, k3⟩ := DataW.trod_int Tryz.underlying3 h3
  obtain ⟨s4, q4, _, k4⟩ := DataW.trod_int Tryz.underlying3 h4
  obtain ⟨s5, q5, _, k5⟩ := DataW.trod_string Tryz.underlying9 h5
  simp only [List.cons.injEq, and_true] at q0 q1 q2 q3 q4 q5
  subst q0
  subst q1
  subst q2
  subst q3
  subst q4
  subst q5
  exact ⟨⟨s0, s1, s2, s3, s4, s5⟩, rfl, k0, k1, k2, k3, k4, k5⟩
end Go.Proofs.YtjfkgfomlnmngaaGreatDoor
