/-
  Entries and states that the laws make of raw numbers: plain facts, and the walks of boxName and Entry.
  What the laws of the whole make of raw numbers: an act. Plain meaning and walk.
  The acts of raw numbers, at most so many: the walk of the laws' acts.
  What book.Fold does with no batches: the walk.
  What the ledger's settle does, and slices.Clone of states: the walks.
-/
import Derived.Test.YtepfniiojjefhaaGreatDoorQPoAc5
import Derived.Test.YtepfniiojjefhaaGreatDoorQScrCard10
import Derived.Test.YtepfniiojjefhaaGreatDoorCut
import Derived.Test.YtepfniiojjefhaaGreatDoorRows
import Derived.WalkKit
import Derived.Deep.MidRow
import Derived.Test.YtepfniiojjefhaaGreatDoorQPure6
import Derived.OpenShut
import Derived.Below
import Derived.Test.YtepfniiojjefhaaGreatDoorQTokGap8
import Derived.Deep.RegionHeld3
import Derived.Deep.RegionLaw
import Derived.Deep.DeepCutAuto
import Derived.Lib.SliceRun
namespace Go.Proofs.YtepfniiojjefhaaGreatDoor
open Go.RowKit Go.Proofs

/-- An entry in raw numbers. -/
structure Chr where
  kind : Int
  box : Int
  uid : Int
  flags : Int
  goal : Int
  text : ByteArray
def chrW (c : Chr) : Prop := (Lit.int .i64 c.kind).wf = true ∧ (Lit.int .i64 c.box).wf = true ∧ (Lit.int .i64 c.uid).wf = true ∧ (Lit.int .i64 c.flags).wf = true ∧ (Lit.int .i64 c.goal).wf = true ∧ c.text.size ≤ maxLen
def boxNs : List (List UInt8) := [[73, 78, 66, 79, 88], [119, 111, 114, 107], [106, 117, 110, 107], [97], [98], [99]]
def boxN (n : Int) : List UInt8 := boxNs.getD (pickN n 6) []
def abc : List UInt8 := [97, 64, 98, 46, 99]
def cutL (s : ByteArray) (n : Nat) : List UInt8 := (cutB s n).data.toList
theorem S_cutL (s : ByteArray) (n : Nat) : S (cutL s n) = cutB s n := by unfold cutL; exact S_list _
def entP (c : Chr) : Ent := match pickN c.kind 6 with
  | 0 => ⟨1, boxN c.box, 0, 0, [], []⟩
  | 1 => ⟨2, boxN c.box, 0, pickN c.flags 32, [], cutL c.text 300⟩
  | 2 => ⟨3, boxN c.box, 1 + pickN c.uid 8, pickN c.flags 32, [], []⟩
  | 3 => ⟨4, boxN c.box, 0, 0, [], []⟩
  | 4 => ⟨5, boxN c.box, 1 + pickN c.uid 8, 0, boxN c.goal, []⟩
  | _ => ⟨6, [], 0, 0, abc, cutL c.text 100⟩
def boxRow : Obj := .cells #[.string ⟨#[73, 78, 66, 79, 88]⟩, .string ⟨#[119, 111, 114, 107]⟩, .string ⟨#[106, 117, 110, 107]⟩, .string ⟨#[97]⟩, .string ⟨#[98]⟩, .string ⟨#[99]⟩] 9
set_option maxHeartbeats 1000000 in
set_option maxRecDepth 100000 in
theorem boxName_any (n : Int) (w : World) (hn : (Lit.int .i64 n).wf = true) :
    Calls Tryz.prog 43 #[.int .i64 n] w fun e w' => e = .returned (.string (S (boxN n))) ∧ w' = w.alloc boxRow := by
  have HP := hid (fun u => picked_any n 6 u hn (by decide) (by decide))
  have h6 := pickN_lt n 6 (by decide)
  obtain ⟨t, ht⟩ : ∃ t, t = boxN n := ⟨_, rfl⟩
  have HT := hid ht
  rw [← ht]
  unfold boxN at HT
  clear hn ht
  generalize pickN n 6 = k at *
  match k, h6 with
  | 0, _ =>
    go_enter Tryz.func43, Tryz.ntmps43
    go_wp2_with fail
    refine (HP.out _).mono ?_
    rintro e u ⟨rfl, hu⟩
    have hu' := hu.symm
    subst hu'
    clear hu
    go_wp2
    go_ret
    exact ⟨by rw [HT.out]; rfl, rfl⟩
  | 1, _ =>
    go_enter Tryz.func43, Tryz.ntmps43
    go_wp2_with fail
    refine (HP.out _).mono ?_
    rintro e u ⟨rfl, hu⟩
    have hu' := hu.symm
    subst hu'
    clear hu
    go_wp2
    go_ret
    exact ⟨by rw [HT.out]; rfl, rfl⟩
  | 2, _ =>
    go_enter Tryz.func43, Tryz.ntmps43
    go_wp2_with fail
    refine (HP.out _).mono ?_
    rintro e u ⟨rfl, hu⟩
    have hu' := hu.symm
    subst hu'
    clear hu
    go_wp2
    go_ret
    exact ⟨by rw [HT.out]; rfl, rfl⟩
  | 3, _ =>
    go_enter Tryz.func43, Tryz.ntmps43
    go_wp2_with fail
    refine (HP.out _).mono ?_
    rintro e u ⟨rfl, hu⟩
    have hu' := hu.symm
    subst hu'
    clear hu
    go_wp2
    go_ret
    exact ⟨by rw [HT.out]; rfl, rfl⟩
  | 4, _ =>
    go_enter Tryz.func43, Tryz.ntmps43
    go_wp2_with fail
    refine (HP.out _).mono ?_
    rintro e u ⟨rfl, hu⟩
    have hu' := hu.symm
    subst hu'
    clear hu
    go_wp2
    go_ret
    exact ⟨by rw [HT.out]; rfl, rfl⟩
  | 5, _ =>
    go_enter Tryz.func43, Tryz.ntmps43
    go_wp2_with fail
    refine (HP.out _).mono ?_
    rintro e u ⟨rfl, hu⟩
    have hu' := hu.symm
    subst hu'
    clear hu
    go_wp2
    go_ret
    exact ⟨by rw [HT.out]; rfl, rfl⟩
set_option maxHeartbeats 1000000 in
set_option maxRecDepth 100000 in
theorem entry_k0 (c : Chr) (w : World) (hw : chrW c) (hk : pickN c.kind 6 = 0) :
    Calls Tryz.prog 24 #[.agg #[.int .i64 c.kind, .int .i64 c.box, .int .i64 c.uid, .int .i64 c.flags, .int .i64 c.goal, .string c.text]] w fun e w' => e = .returned (.agg #[.int .i64 1, .string (S (boxN c.box)), .int .i64 0, .int .i64 0, .string ⟨#[]⟩, .string ⟨#[]⟩]) ∧ Below w.heap.size w w' := by
  have HW := hid hw
  have HP := hid (fun u => picked_any c.kind 6 u hw.1 (by decide) (by decide))
  rw [hk] at HP
  have hp8 := pickN_lt c.uid 8 (by decide)
  have HB := hid (show ∀ a b d e : Obj, Below w.heap.size w ((((w.alloc a).alloc b).alloc d).alloc e) from fun a b d e => (((((Below.refl w.heap.size w).alloc (by simp) a).alloc (by simp) b).alloc (by simp; omega) d).alloc (by simp; omega) e))
  clear hw hk
  go_enter Tryz.func24, Tryz.ntmps24
  go_wp2_with fail
  refine (HP.out _).mono ?_
  rintro e u ⟨rfl, hu⟩
  have hu' := hu.symm
  subst hu'
  clear hu
  go_wp2_with fail
  refine (boxName_any c.box _ HW.out.2.1).mono ?_
  rintro e u ⟨rfl, hu⟩
  subst hu
  go_wp2
  refine bodyPost_ret (v := .agg #[.int .i64 1, .string (S (boxN c.box)), .int .i64 0, .int .i64 0, .string ⟨#[]⟩, .string ⟨#[]⟩]) (by simp [results, Tryz.results24, go_sem, *]) rfl ?_
  exact ⟨rfl, HB.out _ _ _ _⟩
set_option maxHeartbeats 1000000 in
set_option maxRecDepth 100000 in
theorem entry_k1 (c : Chr) (w : World) (hw : chrW c) (hk : pickN c.kind 6 = 1) :
    Calls Tryz.prog 24 #[.agg #[.int .i64 c.kind, .int .i64 c.box, .int .i64 c.uid, .int .i64 c.flags, .int .i64 c.goal, .string c.text]] w fun e w' => e = .returned (.agg #[.int .i64 2, .string (S (boxN c.box)), .int .i64 0, .int .i64 (pickN c.flags 32 : Nat), .string ⟨#[]⟩, .string (cutB c.text 300)]) ∧ Below w.heap.size w w' := by
  have HW := hid hw
  have HP := hid (fun u => picked_any c.kind 6 u hw.1 (by decide) (by decide))
  rw [hk] at HP
  have hp8 := pickN_lt c.uid 8 (by decide)
  have HB := hid (show ∀ a b d e : Obj, Below w.heap.size w ((((w.alloc a).alloc b).alloc d).alloc e) from fun a b d e => (((((Below.refl w.heap.size w).alloc (by simp) a).alloc (by simp) b).alloc (by simp; omega) d).alloc (by simp; omega) e))
  clear hw hk
  go_enter Tryz.func24, Tryz.ntmps24
  go_wp2_with fail
  refine (HP.out _).mono ?_
  rintro e u ⟨rfl, hu⟩
  have hu' := hu.symm
  subst hu'
  clear hu
  go_wp2_with fail
  refine (boxName_any c.box _ HW.out.2.1).mono ?_
  rintro e u ⟨rfl, hu⟩
  subst hu
  go_wp2_with fail
  refine (picked_any c.flags 32 _ HW.out.2.2.2.1 (by decide) (by decide)).mono ?_
  rintro e u ⟨rfl, hu⟩
  have hu' := hu.symm
  subst hu'
  clear hu
  go_wp2_with fail
  refine (cut_any c.text 300 _ HW.out.2.2.2.2.2 (by decide)).mono ?_
  rintro e u ⟨rfl, hu⟩
  have hu' := hu.symm
  subst hu'
  clear hu
  go_wp2
  refine bodyPost_ret (v := .agg #[.int .i64 2, .string (S (boxN c.box)), .int .i64 0, .int .i64 (pickN c.flags 32 : Nat), .string ⟨#[]⟩, .string (cutB c.text 300)]) (by simp [results, Tryz.results24, go_sem, *]) rfl ?_
  exact ⟨rfl, HB.out _ _ _ _⟩
set_option maxHeartbeats 1000000 in
set_option maxRecDepth 100000 in
theorem entry_k2 (c : Chr) (w : World) (hw : chrW c) (hk : pickN c.kind 6 = 2) :
    Calls Tryz.prog 24 #[.agg #[.int .i64 c.kind, .int .i64 c.box, .int .i64 c.uid, .int .i64 c.flags, .int .i64 c.goal, .string c.text]] w fun e w' => e = .returned (.agg #[.int .i64 3, .string (S (boxN c.box)), .int .i64 (1 + (pickN c.uid 8 : Nat)), .int .i64 (pickN c.flags 32 : Nat), .string ⟨#[]⟩, .string ⟨#[]⟩]) ∧ Below w.heap.size w w' := by
  have HW := hid hw
  have HP := hid (fun u => picked_any c.kind 6 u hw.1 (by decide) (by decide))
  rw [hk] at HP
  have hp8 := pickN_lt c.uid 8 (by decide)
  have HB := hid (show ∀ a b d e : Obj, Below w.heap.size w ((((w.alloc a).alloc b).alloc d).alloc e) from fun a b d e => (((((Below.refl w.heap.size w).alloc (by simp) a).alloc (by simp) b).alloc (by simp; omega) d).alloc (by simp; omega) e))
  clear hw hk
  go_enter Tryz.func24, Tryz.ntmps24
  go_wp2_with fail
  refine (HP.out _).mono ?_
  rintro e u ⟨rfl, hu⟩
  have hu' := hu.symm
  subst hu'
  clear hu
  go_wp2_with fail
  refine (boxName_any c.box _ HW.out.2.1).mono ?_
  rintro e u ⟨rfl, hu⟩
  subst hu
  go_wp2_with fail
  refine (picked_any c.uid 8 _ HW.out.2.2.1 (by decide) (by decide)).mono ?_
  rintro e u ⟨rfl, hu⟩
  have hu' := hu.symm
  subst hu'
  clear hu
  go_wp2_with fail
  refine (picked_any c.flags 32 _ HW.out.2.2.2.1 (by decide) (by decide)).mono ?_
  rintro e u ⟨rfl, hu⟩
  have hu' := hu.symm
  subst hu'
  clear hu
  go_wp2
  refine bodyPost_ret (v := .agg #[.int .i64 3, .string (S (boxN c.box)), .int .i64 (1 + (pickN c.uid 8 : Nat)), .int .i64 (pickN c.flags 32 : Nat), .string ⟨#[]⟩, .string ⟨#[]⟩]) (by simp [results, Tryz.results24, go_sem, *]) rfl ?_
  exact ⟨rfl, HB.out _ _ _ _⟩
set_option maxHeartbeats 1000000 in
set_option maxRecDepth 100000 in
theorem entry_k3 (c : Chr) (w : World) (hw : chrW c) (hk : pickN c.kind 6 = 3) :
    Calls Tryz.prog 24 #[.agg #[.int .i64 c.kind, .int .i64 c.box, .int .i64 c.uid, .int .i64 c.flags, .int .i64 c.goal, .string c.text]] w fun e w' => e = .returned (.agg #[.int .i64 4, .string (S (boxN c.box)), .int .i64 0, .int .i64 0, .string ⟨#[]⟩, .string ⟨#[]⟩]) ∧ Below w.heap.size w w' := by
  have HW := hid hw
  have HP := hid (fun u => picked_any c.kind 6 u hw.1 (by decide) (by decide))
  rw [hk] at HP
  have hp8 := pickN_lt c.uid 8 (by decide)
  have HB := hid (show ∀ a b d e : Obj, Below w.heap.size w ((((w.alloc a).alloc b).alloc d).alloc e) from fun a b d e => (((((Below.refl w.heap.size w).alloc (by simp) a).alloc (by simp) b).alloc (by simp; omega) d).alloc (by simp; omega) e))
  clear hw hk
  go_enter Tryz.func24, Tryz.ntmps24
  go_wp2_with fail
  refine (HP.out _).mono ?_
  rintro e u ⟨rfl, hu⟩
  have hu' := hu.symm
  subst hu'
  clear hu
  go_wp2_with fail
  refine (boxName_any c.box _ HW.out.2.1).mono ?_
  rintro e u ⟨rfl, hu⟩
  subst hu
  go_wp2
  refine bodyPost_ret (v := .agg #[.int .i64 4, .string (S (boxN c.box)), .int .i64 0, .int .i64 0, .string ⟨#[]⟩, .string ⟨#[]⟩]) (by simp [results, Tryz.results24, go_sem, *]) rfl ?_
  exact ⟨rfl, HB.out _ _ _ _⟩
set_option maxHeartbeats 1000000 in
set_option maxRecDepth 100000 in
theorem entry_k4 (c : Chr) (w : World) (hw : chrW c) (hk : pickN c.kind 6 = 4) :
    Calls Tryz.prog 24 #[.agg #[.int .i64 c.kind, .int .i64 c.box, .int .i64 c.uid, .int .i64 c.flags, .int .i64 c.goal, .string c.text]] w fun e w' => e = .returned (.agg #[.int .i64 5, .string (S (boxN c.box)), .int .i64 (1 + (pickN c.uid 8 : Nat)), .int .i64 0, .string (S (boxN c.goal)), .string ⟨#[]⟩]) ∧ Below w.heap.size w w' := by
  have HW := hid hw
  have HP := hid (fun u => picked_any c.kind 6 u hw.1 (by decide) (by decide))
  rw [hk] at HP
  have hp8 := pickN_lt c.uid 8 (by decide)
  have HB := hid (show ∀ a b d e f : Obj, Below w.heap.size w (((((w.alloc a).alloc b).alloc d).alloc e).alloc f) from fun a b d e f => ((((((Below.refl w.heap.size w).alloc (by simp) a).alloc (by simp) b).alloc (by simp; omega) d).alloc (by simp; omega) e).alloc (by simp; omega) f))
  clear hw hk
  go_enter Tryz.func24, Tryz.ntmps24
  go_wp2_with fail
  refine (HP.out _).mono ?_
  rintro e u ⟨rfl, hu⟩
  have hu' := hu.symm
  subst hu'
  clear hu
  go_wp2_with fail
  refine (boxName_any c.box _ HW.out.2.1).mono ?_
  rintro e u ⟨rfl, hu⟩
  subst hu
  go_wp2_with fail
  refine (picked_any c.uid 8 _ HW.out.2.2.1 (by decide) (by decide)).mono ?_
  rintro e u ⟨rfl, hu⟩
  have hu' := hu.symm
  subst hu'
  clear hu
  go_wp2_with fail
  refine (boxName_any c.goal _ HW.out.2.2.2.2.1).mono ?_
  rintro e u ⟨rfl, hu⟩
  subst hu
  go_wp2
  refine bodyPost_ret (v := .agg #[.int .i64 5, .string (S (boxN c.box)), .int .i64 (1 + (pickN c.uid 8 : Nat)), .int .i64 0, .string (S (boxN c.goal)), .string ⟨#[]⟩]) (by simp [results, Tryz.results24, go_sem, *]) rfl ?_
  exact ⟨rfl, HB.out _ _ _ _ _⟩
set_option maxHeartbeats 1000000 in
set_option maxRecDepth 100000 in
theorem entry_k5 (c : Chr) (w : World) (hw : chrW c) (hk : pickN c.kind 6 = 5) :
    Calls Tryz.prog 24 #[.agg #[.int .i64 c.kind, .int .i64 c.box, .int .i64 c.uid, .int .i64 c.flags, .int .i64 c.goal, .string c.text]] w fun e w' => e = .returned (.agg #[.int .i64 6, .string ⟨#[]⟩, .int .i64 0, .int .i64 0, .string ⟨#[97, 64, 98, 46, 99]⟩, .string (cutB c.text 100)]) ∧ Below w.heap.size w w' := by
  have HW := hid hw
  have HP := hid (fun u => picked_any c.kind 6 u hw.1 (by decide) (by decide))
  rw [hk] at HP
  have hp8 := pickN_lt c.uid 8 (by decide)
  have HB := hid (show ∀ a b d : Obj, Below w.heap.size w (((w.alloc a).alloc b).alloc d) from fun a b d => ((((Below.refl w.heap.size w).alloc (by simp) a).alloc (by simp) b).alloc (by simp; omega) d))
  clear hw hk
  go_enter Tryz.func24, Tryz.ntmps24
  go_wp2_with fail
  refine (HP.out _).mono ?_
  rintro e u ⟨rfl, hu⟩
  have hu' := hu.symm
  subst hu'
  clear hu
  go_wp2_with fail
  refine (cut_any c.text 100 _ HW.out.2.2.2.2.2 (by decide)).mono ?_
  rintro e u ⟨rfl, hu⟩
  have hu' := hu.symm
  subst hu'
  clear hu
  go_wp2
  refine bodyPost_ret (v := .agg #[.int .i64 6, .string ⟨#[]⟩, .int .i64 0, .int .i64 0, .string ⟨#[97, 64, 98, 46, 99]⟩, .string (cutB c.text 100)]) (by simp [results, Tryz.results24, go_sem, *]) rfl ?_
  exact ⟨rfl, HB.out _ _ _⟩
theorem entry_any (c : Chr) (w : World) (hw : chrW c) :
    Calls Tryz.prog 24 #[.agg #[.int .i64 c.kind, .int .i64 c.box, .int .i64 c.uid, .int .i64 c.flags, .int .i64 c.goal, .string c.text]] w fun e w' => e = .returned (.agg #[.int .i64 (entP c).kind, .string (S (entP c).box), .int .i64 (entP c).uid, .int .i64 (entP c).flags, .string (S (entP c).goal), .string (S (entP c).text)]) ∧ Below w.heap.size w w' := by
  have h := pickN_lt c.kind 6 (by decide)
  unfold entP
  cases hk : pickN c.kind 6 with
  | zero => exact entry_k0 c w hw hk
  | succ k =>
    rw [hk] at h
    match k, h, hk with
    | 0, _, hk => simp only [S_cutL]; exact entry_k1 c w hw hk
    | 1, _, hk => exact entry_k2 c w hw hk
    | 2, _, hk => exact entry_k3 c w hw hk
    | 3, _, hk => exact entry_k4 c w hw hk
    | 4, _, hk => simp only [S_cutL]; exact entry_k5 c w hw hk
end Go.Proofs.YtepfniiojjefhaaGreatDoor
namespace Go.Proofs.YtepfniiojjefhaaGreatDoor
open Go.RowKit Go.Proofs

/-- An act. -/
def gLine (g : Gea) : Gea := ⟨g.a, 0, g.user, g.b, 0, g.text⟩
def gChr (g : Gea) : Chr := ⟨g.a, g.b, g.b, g.a, g.conn, g.text⟩
def actK (g : Gea) : Nat → Acu
  | 0 | 1 | 2 => ⟨1, pickN g.conn 3, 0, 0, letterM g, noEnt⟩
  | 3 | 4 => ⟨1, pickN g.conn 3, 0, 0, tlineM (gLine g) ++ crL, noEnt⟩
  | 5 | 6 | 7 => ⟨2, 0, 0, 0, [], noEnt⟩
  | 8 => ⟨3, 0, 0, pickN g.a 900, [], noEnt⟩
  | 9 => ⟨4, 0, 0, 0, [], noEnt⟩
  | _ => ⟨5, 0, pickN g.user 3, 0, [], entP (gChr g)⟩
/-- An act of raw numbers. -/
def actM (g : Gea) : Acu := actK g (pickN g.kind 12)
theorem tlineM_len (g : Gea) : (tlineM g).length ≤ 60 := by
  unfold tlineM
  generalize pickN g.kind 16 = k
  unfold lineK
  have h1 := joe_size (pickN g.a 2)
  have h2 := ann_size (pickN g.user 4)
  have h3 := wf_size (pickN g.a 2)
  have h4 := valL_len g.text.data.toList
  rw [size_S] at h1 h2 h3
  split <;> (try simp only [mailL, rcptL, subjL, crL, lhloL, List.length_append, List.length_cons, List.length_nil]) <;> omega
def zAct : Array Value := #[.int .i64 0, .int .i64 0, .int .i64 0, .int .i64 0, .string ⟨#[]⟩, .int .i64 0, .string ⟨#[]⟩, .int .i64 0, .int .i64 0, .string ⟨#[]⟩, .string ⟨#[]⟩]
theorem box11 {w : World} {b : Nat} {v0 v1 v2 v3 v4 v5 v6 v7 v8 v9 v10 : Value} {t : TypeId} (h : w.heap[b]? = some (.cells #[v0, v1, v2, v3, v4, v5, v6, v7, v8, v9, v10] t)) :
    w.cell? ⟨b, 0, none⟩ = some v0 ∧ w.cell? ⟨b, 1, none⟩ = some v1 ∧ w.cell? ⟨b, 2, none⟩ = some v2 ∧ w.cell? ⟨b, 3, none⟩ = some v3 ∧ w.cell? ⟨b, 4, none⟩ = some v4 ∧ w.cell? ⟨b, 5, none⟩ = some v5 ∧ w.cell? ⟨b, 6, none⟩ = some v6 ∧ w.cell? ⟨b, 7, none⟩ = some v7 ∧ w.cell? ⟨b, 8, none⟩ = some v8 ∧ w.cell? ⟨b, 9, none⟩ = some v9 ∧ w.cell? ⟨b, 10, none⟩ = some v10 ∧ ∀ o, w.frozen? ⟨b, o, none⟩ = false := by
  refine ⟨?_, ?_, ?_, ?_, ?_, ?_, ?_, ?_, ?_, ?_, ?_, fun o => ?_⟩ <;> simp [World.cell?, World.frozen?, h]
theorem put11 {w : World} {b : Nat} {t : TypeId} (v0 v1 v2 v3 v4 v5 v6 v7 v8 v9 v10 : Value) {u0 u1 u2 u3 u4 u5 u6 u7 u8 u9 u10 : Value} (h : w.heap[b]? = some (.cells #[u0, u1, u2, u3, u4, u5, u6, u7, u8, u9, u10] t)) : (w.setCells b 0 [v0, v1, v2, v3, v4, v5, v6, v7, v8, v9, v10]).heap[b]? = some (.cells #[v0, v1, v2, v3, v4, v5, v6, v7, v8, v9, v10] t) := by
  have h := heap_setCell_same _ b 0 _ t v0 h
  have h := heap_setCell_same _ b 1 _ t v1 h
  have h := heap_setCell_same _ b 2 _ t v2 h
  have h := heap_setCell_same _ b 3 _ t v3 h
  have h := heap_setCell_same _ b 4 _ t v4 h
  have h := heap_setCell_same _ b 5 _ t v5 h
  have h := heap_setCell_same _ b 6 _ t v6 h
  have h := heap_setCell_same _ b 7 _ t v7 h
  have h := heap_setCell_same _ b 8 _ t v8 h
  have h := heap_setCell_same _ b 9 _ t v9 h
  have h := heap_setCell_same _ b 10 _ t v10 h
  simp only [World.setCells, Nat.reduceAdd]
  simpa using h
theorem bel11 {B b : Nat} {w w2 : World} {vs : List Value} {o : Nat} (hb : B ≤ b) (h : Below B w w2) : Below B w (w2.setCells b o vs) := by
  induction vs generalizing w2 o with
  | nil => exact h
  | cons v vs ih => exact ih (h.setCell hb v)
/-- An act in a box. -/
def AcB (w : World) (b : Nat) (x : Acu) (wx : World) : Prop := wx.heap[b]? = some (.cells (acuC x).toArray 46) ∧ Below w.heap.size w wx
theorem there11 {w : World} {b : Nat} {v0 v1 v2 v3 v4 v5 v6 v7 v8 v9 v10 : Value} {t : TypeId} (h : w.heap[b]? = some (.cells #[v0, v1, v2, v3, v4, v5, v6, v7, v8, v9, v10] t)) : w.there b 0 11 := fun j hj => by
  rw [Nat.zero_add]
  simp only [World.cell?, World.frozen?, h]
  exact ⟨by simpa using hj, by simp⟩
theorem acb_stay {w : World} {a b o : Nat} {v : Value} {vs : List Value} (h : w.cell? ⟨a, o, none⟩ = some v) (hne : a ≠ b) : (w.setCells b 0 vs).cell? ⟨a, o, none⟩ = some v := (World.cell?_setCells_out b vs 0 w _ (fun e _ => absurd e hne)).trans h
theorem cr_S (l : List UInt8) : S l ++ ⟨#[13, 10]⟩ = S (l ++ crL) := S_app l crL
set_option linter.unusedSimpArgs false in
set_option maxHeartbeats 3000000 in
set_option maxRecDepth 100000 in
theorem act_any (g : Gea) (w : World) (hw : geaW g) :
    Calls Tryz.prog 13 #[geaV g] w fun e w' => e = .returned (.agg (acuC (actM g)).toArray) ∧ Below w.heap.size w w' := by
  have HW := hid hw
  have h3 := pickN_lt g.conn 3 (by decide)
  have h12 := pickN_lt g.kind 12 (by decide)
  have HPC := hid (fun u => Picked_any g.conn 3 u HW.out.2.1 (by decide) (by decide))
  have HPK := hid (fun u => Picked_any g.kind 12 u HW.out.1 (by decide) (by decide))
  have HP9 := hid (fun u => Picked_any g.a 900 u HW.out.2.2.2.1 (by decide) (by decide))
  have HM := hid (show actM g = actK g (pickN g.kind 12) from rfl)
  have HE1 := hid (show ∀ k, k = 0 ∨ k = 1 ∨ k = 2 → actK g k = ⟨1, pickN g.conn 3, 0, 0, letterM g, noEnt⟩ by rintro k (rfl | rfl | rfl) <;> rfl)
  have HE2 := hid (show ∀ k, k = 3 ∨ k = 4 → actK g k = ⟨1, pickN g.conn 3, 0, 0, tlineM (gLine g) ++ crL, noEnt⟩ by rintro k (rfl | rfl) <;> rfl)
  have HE3 := hid (show ∀ k, k = 5 ∨ k = 6 ∨ k = 7 → actK g k = ⟨2, 0, 0, 0, [], noEnt⟩ by rintro k (rfl | rfl | rfl) <;> rfl)
  have HE4 := hid (show actK g 8 = ⟨3, 0, 0, pickN g.a 900, [], noEnt⟩ from rfl)
  have HE5 := hid (show actK g 9 = ⟨4, 0, 0, 0, [], noEnt⟩ from rfl)
  have HE6 := hid (show ∀ k, k = 10 ∨ k = 11 → actK g k = ⟨5, 0, pickN g.user 3, 0, [], entP (gChr g)⟩ by rintro k (rfl | rfl) <;> rfl)
  clear hw
  generalize pickN g.conn 3 = i at *
  generalize pickN g.kind 12 = k at *
  unfold geaV
  go_enter Tryz.func13, Tryz.ntmps13
  go_wp2_with fail
  refine (HPC.out _).mono ?_
  rintro e u ⟨rfl, hu⟩
  have hu' := hu.symm
  subst hu'
  clear hu
  go_wp2_with fail
  refine (HPK.out _).mono ?_
  rintro e u ⟨rfl, hu⟩
  have hu' := hu.symm
  subst hu'
  clear hu
  obtain ⟨W1, hW1⟩ : ∃ W1, W1 = (w.alloc (.cells #[.int .i64 g.kind, .int .i64 g.conn, .int .i64 g.user, .int .i64 g.a, .int .i64 g.b, .string g.text] 51)).alloc (.cells zAct 46) := ⟨_, rfl⟩
  rw [show (w.alloc (.cells #[.int .i64 g.kind, .int .i64 g.conn, .int .i64 g.user, .int .i64 g.a, .int .i64 g.b, .string g.text] 51)).alloc (.cells #[.int .i64 0, .int .i64 0, .int .i64 0, .int .i64 0, .string ⟨#[]⟩, .int .i64 0, .string ⟨#[]⟩, .int .i64 0, .int .i64 0, .string ⟨#[]⟩, .string ⟨#[]⟩] 46) = W1 from hW1.symm]
  have hg : W1.heap[w.heap.size]? = some (.cells #[.int .i64 g.kind, .int .i64 g.conn, .int .i64 g.user, .int .i64 g.a, .int .i64 g.b, .string g.text] 51) := by
    rw [hW1]
    exact (((Below.refl _ _).alloc (Nat.le_refl _) _).block w.heap.size (by simp)).trans (heap_alloc_new w _)
  have hz : W1.heap[w.heap.size + 1]? = some (.cells zAct 46) := by
    rw [hW1]
    have := heap_alloc_new (w.alloc (.cells #[.int .i64 g.kind, .int .i64 g.conn, .int .i64 g.user, .int .i64 g.a, .int .i64 g.b, .string g.text] 51)) (.cells zAct 46)
    simpa using this
  have hB1 : Below w.heap.size w W1 := by rw [hW1]; exact ((Below.refl _ _).alloc (Nat.le_refl _) _).alloc (by simp) _
  have HB1 := hid hB1
  have HZ1 := hid hz
  have g0 : W1.cell? ⟨w.heap.size, 0, none⟩ = some (.int .i64 g.kind) := by simp [World.cell?, hg]
  have g1 : W1.cell? ⟨w.heap.size, 1, none⟩ = some (.int .i64 g.conn) := by simp [World.cell?, hg]
  have g2 : W1.cell? ⟨w.heap.size, 2, none⟩ = some (.int .i64 g.user) := by simp [World.cell?, hg]
  have g3 : W1.cell? ⟨w.heap.size, 3, none⟩ = some (.int .i64 g.a) := by simp [World.cell?, hg]
  have g4 : W1.cell? ⟨w.heap.size, 4, none⟩ = some (.int .i64 g.b) := by simp [World.cell?, hg]
  have g5 : W1.cell? ⟨w.heap.size, 5, none⟩ = some (.string g.text) := by simp [World.cell?, hg]
  clear hW1 hg hz hB1 HPC HPK
  obtain rfl | rfl | rfl | rfl | rfl | rfl | rfl | rfl | rfl | rfl | rfl | rfl : k = 0 ∨ k = 1 ∨ k = 2 ∨ k = 3 ∨ k = 4 ∨ k = 5 ∨ k = 6 ∨ k = 7 ∨ k = 8 ∨ k = 9 ∨ k = 10 ∨ k = 11 := by omega
  iterate 3
    · go_wp2_with fail
      rw [show Value.agg #[.int .i64 g.kind, .int .i64 g.conn, .int .i64 g.user, .int .i64 g.a, .int .i64 g.b, .string g.text] = geaV g from rfl]
      refine (letter_any g W1 HW.out).mono ?_
      rintro e w2 ⟨rfl, hb2⟩
      have hz2 := (hb2.block _ (Array.getElem?_eq_some_iff.1 HZ1.out).1).trans HZ1.out
      have HZ2 := hid hz2
      have HB2 := hid (HB1.out.trans (hb2.mono HB1.out.size))
      obtain ⟨z0, z1, z2, z3, z4, z5, z6, z7, z8, z9, z10, zf⟩ := box11 hz2
      clear hz2 hb2
      go_wp2
      have hput := put11 (w := w2) (b := w.heap.size + 1) (.int .i64 1) (.int .i64 i) (.int .i64 0) (.int .i64 0) (.string (S (letterM g))) (.int .i64 0) (.string ⟨#[]⟩) (.int .i64 0) (.int .i64 0) (.string ⟨#[]⟩) (.string ⟨#[]⟩) HZ2.out
      simp only [World.setCells, Nat.reduceAdd] at hput
      obtain ⟨m0, m1, m2, m3, m4, m5, m6, m7, m8, m9, m10, _⟩ := box11 hput
      refine bodyPost_ret (v := .agg #[.int .i64 1, .int .i64 i, .int .i64 0, .int .i64 0, .string (S (letterM g)), .int .i64 0, .string ⟨#[]⟩, .int .i64 0, .int .i64 0, .string ⟨#[]⟩, .string ⟨#[]⟩]) (by simp only [results, Tryz.results13]; simp [go_sem, m0, m1, m2, m3, m4, m5, m6, m7, m8, m9, m10]) rfl ?_
      refine ⟨by rw [HM.out, HE1.out _ (by decide)]; rfl, ?_⟩
      have hbel := bel11 (b := w.heap.size + 1) (o := 0) (vs := [.int .i64 1, .int .i64 i, .int .i64 0, .int .i64 0, .string (S (letterM g)), .int .i64 0, .string ⟨#[]⟩, .int .i64 0, .int .i64 0, .string ⟨#[]⟩, .string ⟨#[]⟩]) (by omega) HB2.out
      simp only [World.setCells, Nat.reduceAdd] at hbel
      exact hbel
  iterate 2
    · have hll := tlineM_len (gLine g)
      have hls : (S (tlineM (gLine g))).size ≤ 60 := by rw [size_S]; exact hll
      go_wp2_with fail
      rw [show Value.agg #[.int .i64 g.a, .int .i64 0, .int .i64 g.user, .int .i64 g.b, .int .i64 0, .string g.text] = geaV (gLine g) from rfl]
      refine (line_any' (gLine g) W1 ⟨HW.out.2.2.2.1, by rfl, HW.out.2.2.1, HW.out.2.2.2.2.1, by rfl, HW.out.2.2.2.2.2⟩).mono ?_
      rintro e w2 ⟨rfl, hb2⟩
      have hz2 := (hb2.block _ (Array.getElem?_eq_some_iff.1 HZ1.out).1).trans HZ1.out
      have HZ2 := hid hz2
      have HB2 := hid (HB1.out.trans (hb2.mono HB1.out.size))
      obtain ⟨z0, z1, z2, z3, z4, z5, z6, z7, z8, z9, z10, zf⟩ := box11 hz2
      clear hz2 hb2
      go_wp2
      have hput := put11 (w := w2) (b := w.heap.size + 1) (.int .i64 1) (.int .i64 i) (.int .i64 0) (.int .i64 0) (.string (S (tlineM (gLine g)) ++ ⟨#[13, 10]⟩)) (.int .i64 0) (.string ⟨#[]⟩) (.int .i64 0) (.int .i64 0) (.string ⟨#[]⟩) (.string ⟨#[]⟩) HZ2.out
      simp only [World.setCells, Nat.reduceAdd] at hput
      obtain ⟨m0, m1, m2, m3, m4, m5, m6, m7, m8, m9, m10, _⟩ := box11 hput
      refine bodyPost_ret (v := .agg #[.int .i64 1, .int .i64 i, .int .i64 0, .int .i64 0, .string (S (tlineM (gLine g)) ++ ⟨#[13, 10]⟩), .int .i64 0, .string ⟨#[]⟩, .int .i64 0, .int .i64 0, .string ⟨#[]⟩, .string ⟨#[]⟩]) (by simp only [results, Tryz.results13]; simp [go_sem, m0, m1, m2, m3, m4, m5, m6, m7, m8, m9, m10]) rfl ?_
      refine ⟨by rw [HM.out, HE2.out _ (by decide)]; rw [cr_S]; rfl, ?_⟩
      have hbel := bel11 (b := w.heap.size + 1) (o := 0) (vs := [.int .i64 1, .int .i64 i, .int .i64 0, .int .i64 0, .string (S (tlineM (gLine g)) ++ ⟨#[13, 10]⟩), .int .i64 0, .string ⟨#[]⟩, .int .i64 0, .int .i64 0, .string ⟨#[]⟩, .string ⟨#[]⟩]) (by omega) HB2.out
      simp only [World.setCells, Nat.reduceAdd] at hbel
      exact hbel
  iterate 3
    · have HZ2 := HZ1
      have HB2 := HB1
      obtain ⟨z0, z1, z2, z3, z4, z5, z6, z7, z8, z9, z10, zf⟩ := box11 HZ1.out
      go_wp2
      have hput := put11 (w := W1) (b := w.heap.size + 1) (.int .i64 2) (.int .i64 0) (.int .i64 0) (.int .i64 0) (.string ⟨#[]⟩) (.int .i64 0) (.string ⟨#[]⟩) (.int .i64 0) (.int .i64 0) (.string ⟨#[]⟩) (.string ⟨#[]⟩) HZ2.out
      simp only [World.setCells, Nat.reduceAdd] at hput
      obtain ⟨m0, m1, m2, m3, m4, m5, m6, m7, m8, m9, m10, _⟩ := box11 hput
      refine bodyPost_ret (v := .agg #[.int .i64 2, .int .i64 0, .int .i64 0, .int .i64 0, .string ⟨#[]⟩, .int .i64 0, .string ⟨#[]⟩, .int .i64 0, .int .i64 0, .string ⟨#[]⟩, .string ⟨#[]⟩]) (by simp only [results, Tryz.results13]; simp [go_sem, m0, m1, m2, m3, m4, m5, m6, m7, m8, m9, m10]) rfl ?_
      refine ⟨by rw [HM.out, HE3.out _ (by decide)]; rfl, ?_⟩
      have hbel := bel11 (b := w.heap.size + 1) (o := 0) (vs := [.int .i64 2, .int .i64 0, .int .i64 0, .int .i64 0, .string ⟨#[]⟩, .int .i64 0, .string ⟨#[]⟩, .int .i64 0, .int .i64 0, .string ⟨#[]⟩, .string ⟨#[]⟩]) (by omega) HB2.out
      simp only [World.setCells, Nat.reduceAdd] at hbel
      exact hbel
  · have HZ2 := HZ1
    have HB2 := HB1
    go_wp2_with fail
    refine (HP9.out _).mono ?_
    rintro e u ⟨rfl, hu⟩
    have hu' := hu.symm
    subst hu'
    clear hu
    obtain ⟨z0, z1, z2, z3, z4, z5, z6, z7, z8, z9, z10, zf⟩ := box11 HZ1.out
    go_wp2
    have hput := put11 (w := W1) (b := w.heap.size + 1) (.int .i64 3) (.int .i64 0) (.int .i64 0) (.int .i64 (pickN g.a 900)) (.string ⟨#[]⟩) (.int .i64 0) (.string ⟨#[]⟩) (.int .i64 0) (.int .i64 0) (.string ⟨#[]⟩) (.string ⟨#[]⟩) HZ2.out
    simp only [World.setCells, Nat.reduceAdd] at hput
    obtain ⟨m0, m1, m2, m3, m4, m5, m6, m7, m8, m9, m10, _⟩ := box11 hput
    refine bodyPost_ret (v := .agg #[.int .i64 3, .int .i64 0, .int .i64 0, .int .i64 (pickN g.a 900), .string ⟨#[]⟩, .int .i64 0, .string ⟨#[]⟩, .int .i64 0, .int .i64 0, .string ⟨#[]⟩, .string ⟨#[]⟩]) (by simp only [results, Tryz.results13]; simp [go_sem, m0, m1, m2, m3, m4, m5, m6, m7, m8, m9, m10]) rfl ?_
    refine ⟨by rw [HM.out, HE4.out]; rfl, ?_⟩
    have hbel := bel11 (b := w.heap.size + 1) (o := 0) (vs := [.int .i64 3, .int .i64 0, .int .i64 0, .int .i64 (pickN g.a 900), .string ⟨#[]⟩, .int .i64 0, .string ⟨#[]⟩, .int .i64 0, .int .i64 0, .string ⟨#[]⟩, .string ⟨#[]⟩]) (by omega) HB2.out
    simp only [World.setCells, Nat.reduceAdd] at hbel
    exact hbel
  · have HZ2 := HZ1
    have HB2 := HB1
    obtain ⟨z0, z1, z2, z3, z4, z5, z6, z7, z8, z9, z10, zf⟩ := box11 HZ1.out
    go_wp2
    have hput := put11 (w := W1) (b := w.heap.size + 1) (.int .i64 4) (.int .i64 0) (.int .i64 0) (.int .i64 0) (.string ⟨#[]⟩) (.int .i64 0) (.string ⟨#[]⟩) (.int .i64 0) (.int .i64 0) (.string ⟨#[]⟩) (.string ⟨#[]⟩) HZ2.out
    simp only [World.setCells, Nat.reduceAdd] at hput
    obtain ⟨m0, m1, m2, m3, m4, m5, m6, m7, m8, m9, m10, _⟩ := box11 hput
    refine bodyPost_ret (v := .agg #[.int .i64 4, .int .i64 0, .int .i64 0, .int .i64 0, .string ⟨#[]⟩, .int .i64 0, .string ⟨#[]⟩, .int .i64 0, .int .i64 0, .string ⟨#[]⟩, .string ⟨#[]⟩]) (by simp only [results, Tryz.results13]; simp [go_sem, m0, m1, m2, m3, m4, m5, m6, m7, m8, m9, m10]) rfl ?_
    refine ⟨by rw [HM.out, HE5.out]; rfl, ?_⟩
    have hbel := bel11 (b := w.heap.size + 1) (o := 0) (vs := [.int .i64 4, .int .i64 0, .int .i64 0, .int .i64 0, .string ⟨#[]⟩, .int .i64 0, .string ⟨#[]⟩, .int .i64 0, .int .i64 0, .string ⟨#[]⟩, .string ⟨#[]⟩]) (by omega) HB2.out
    simp only [World.setCells, Nat.reduceAdd] at hbel
    exact hbel
  iterate 2
    · have HP3 := hid (fun u => Picked_any g.user 3 u HW.out.2.2.1 (by decide) (by decide))
      have HEN := hid (fun u => entry_any (gChr g) u ⟨HW.out.2.2.2.1, HW.out.2.2.2.2.1, HW.out.2.2.2.2.1, HW.out.2.2.2.1, HW.out.2.1, HW.out.2.2.2.2.2⟩)
      have HC := hid (show ∀ v, Below W1.heap.size W1 v → v.cell? ⟨w.heap.size, 0, none⟩ = some (.int .i64 g.kind) ∧ v.cell? ⟨w.heap.size, 1, none⟩ = some (.int .i64 g.conn) ∧ v.cell? ⟨w.heap.size, 2, none⟩ = some (.int .i64 g.user) ∧ v.cell? ⟨w.heap.size, 3, none⟩ = some (.int .i64 g.a) ∧ v.cell? ⟨w.heap.size, 4, none⟩ = some (.int .i64 g.b) ∧ v.cell? ⟨w.heap.size, 5, none⟩ = some (.string g.text) from fun v hv => ⟨wcell_next g0 hv, wcell_next g1 hv, wcell_next g2 hv, wcell_next g3 hv, wcell_next g4 hv, wcell_next g5 hv⟩)
      have hnb : w.heap.size ≠ w.heap.size + 1 := by omega
      go_upto_region 18 with fail
      go_cut [] (fun wx => AcB w (w.heap.size + 1) (actM g) wx)
      case first =>
        refine wp_region_held_drew (S := fun u => u.cell? ⟨w.heap.size, 0, none⟩ = some (.int .i64 g.kind) ∧ u.cell? ⟨w.heap.size, 1, none⟩ = some (.int .i64 g.conn) ∧ u.cell? ⟨w.heap.size, 2, none⟩ = some (.int .i64 g.user) ∧ u.cell? ⟨w.heap.size, 3, none⟩ = some (.int .i64 g.a) ∧ u.cell? ⟨w.heap.size, 4, none⟩ = some (.int .i64 g.b) ∧ u.cell? ⟨w.heap.size, 5, none⟩ = some (.string g.text)) (by kernel_rfl) ?_ (fun hHeld => ?_)
        · exact HC.out _ ((Below.refl _ _).drew)
        refine wpAnyH_take (i := 0) (v := ?v1) rfl (by kernel_rfl) (by kernel_rfl) (by kernel_rfl) (fun _ _ _ h => h) (Or.inl ⟨by rfl, ?hy1⟩) (by assumption) ?_
        case hy1 =>
          intro w hSw
          (try dsimp only at hSw)
          go_simp
          all_goals with_reducible rfl
        change wpAnyH _ _ _ _ _ _ _ (Act.put _ (some 48) _) _
        try simp only [Act.put, List.setIfInBounds_toArray, List.set_cons_zero, List.set_cons_succ]
        refine wpAnyH_take (i := 1) (v := ?v2) rfl (by kernel_rfl) (by kernel_rfl) (by kernel_rfl) (fun _ _ _ h => h) (Or.inl ⟨by rfl, ?hy2⟩) (by assumption) ?_
        case hy2 =>
          intro w hSw
          (try dsimp only at hSw)
          go_simp
          all_goals with_reducible rfl
        change wpAnyH _ _ _ _ _ _ _ (Act.put _ (some 49) _) _
        try simp only [Act.put, List.setIfInBounds_toArray, List.set_cons_zero, List.set_cons_succ]
        refine wpAnyH_take (i := 3) (v := ?v3) rfl (by kernel_rfl) (by kernel_rfl) (by kernel_rfl) (fun _ _ _ h => h) (Or.inl ⟨by rfl, ?hy3⟩) (by assumption) ?_
        case hy3 =>
          intro w hSw
          (try dsimp only at hSw)
          go_simp
          all_goals with_reducible rfl
        change wpAnyH _ _ _ _ _ _ _ (Act.put _ (some 51) _) _
        try simp only [Act.put, List.setIfInBounds_toArray, List.set_cons_zero, List.set_cons_succ]
        refine wpAnyH_take (i := 4) (v := ?v4) rfl (by kernel_rfl) (by kernel_rfl) (by kernel_rfl) (fun _ _ _ h => h) (Or.inl ⟨by rfl, ?hy4⟩) (by assumption) ?_
        case hy4 =>
          intro w hSw
          (try dsimp only at hSw)
          go_simp
          all_goals with_reducible rfl
        change wpAnyH _ _ _ _ _ _ _ (Act.put _ (some 52) _) _
        try simp only [Act.put, List.setIfInBounds_toArray, List.set_cons_zero, List.set_cons_succ]
        refine wpAnyH_take (i := 5) (v := ?v5) rfl (by kernel_rfl) (by kernel_rfl) (by kernel_rfl) (fun _ _ _ h => h) (Or.inl ⟨by rfl, ?hy5⟩) (by assumption) ?_
        case hy5 =>
          intro w hSw
          (try dsimp only at hSw)
          go_simp
          all_goals with_reducible rfl
        change wpAnyH _ _ _ _ _ _ _ (Act.put _ (some 53) _) _
        try simp only [Act.put, List.setIfInBounds_toArray, List.set_cons_zero, List.set_cons_succ]
        refine wpAnyH_take (i := 6) (v := ?v6) rfl (by kernel_rfl) (by kernel_rfl) (by kernel_rfl) (fun _ _ _ h => h) (Or.inl ⟨by rfl, ?hy6⟩) (by assumption) ?_
        case hy6 =>
          intro w hSw
          (try dsimp only at hSw)
          go_simp
          all_goals with_reducible rfl
        change wpAnyH _ _ _ _ _ _ _ (Act.put _ (some 54) _) _
        try simp only [Act.put, List.setIfInBounds_toArray, List.set_cons_zero, List.set_cons_succ]
        refine wpAnyH_take (i := 7) (v := ?v7) rfl (by kernel_rfl) (by kernel_rfl) (by kernel_rfl) (fun _ _ _ h => h) (Or.inl ⟨by rfl, ?hy7⟩) (by assumption) ?_
        case hy7 =>
          intro w hSw
          (try dsimp only at hSw)
          go_simp
          all_goals with_reducible rfl
        change wpAnyH _ _ _ _ _ _ _ (Act.put _ (some 55) _) _
        try simp only [Act.put, List.setIfInBounds_toArray, List.set_cons_zero, List.set_cons_succ]
        refine wpAnyH_take (i := 8) (v := ?v8) rfl (by kernel_rfl) (by kernel_rfl) (by kernel_rfl) (fun _ _ _ h => h) (Or.inl ⟨by rfl, ?hy8⟩) (by assumption) ?_
        case hy8 =>
          intro w hSw
          (try dsimp only at hSw)
          go_simp
          all_goals with_reducible rfl
        change wpAnyH _ _ _ _ _ _ _ (Act.put _ (some 56) _) _
        try simp only [Act.put, List.setIfInBounds_toArray, List.set_cons_zero, List.set_cons_succ]
        refine wpAnyH_take (i := 9) (v := ?v9) rfl (by kernel_rfl) (by kernel_rfl) (by kernel_rfl) (fun _ _ _ h => h) (Or.inl ⟨by rfl, ?hy9⟩) (by assumption) ?_
        case hy9 =>
          intro w hSw
          (try dsimp only at hSw)
          go_simp
          all_goals with_reducible rfl
        change wpAnyH _ _ _ _ _ _ _ (Act.put _ (some 57) _) _
        try simp only [Act.put, List.setIfInBounds_toArray, List.set_cons_zero, List.set_cons_succ]
        refine wpAnyH_take (i := 10) (v := ?v10) rfl (by kernel_rfl) (by kernel_rfl) (by kernel_rfl) (fun _ _ _ h => h) (Or.inl ⟨by rfl, ?hy10⟩) (by assumption) ?_
        case hy10 =>
          intro w hSw
          (try dsimp only at hSw)
          go_simp
          all_goals with_reducible rfl
        change wpAnyH _ _ _ _ _ _ _ (Act.put _ (some 58) _) _
        try simp only [Act.put, List.setIfInBounds_toArray, List.set_cons_zero, List.set_cons_succ]
        refine wpAnyH_take (i := 11) (v := ?v11) rfl (by kernel_rfl) (by kernel_rfl) (by kernel_rfl) (fun _ _ _ h => h) (Or.inl ⟨by rfl, ?hy11⟩) (by assumption) ?_
        case hy11 =>
          intro w hSw
          (try dsimp only at hSw)
          go_simp
          all_goals with_reducible rfl
        change wpAnyH _ _ _ _ _ _ _ (Act.put _ (some 59) _) _
        try simp only [Act.put, List.setIfInBounds_toArray, List.set_cons_zero, List.set_cons_succ]
        refine wpAnyH_take (i := 12) (v := ?v12) rfl (by kernel_rfl) (by kernel_rfl) (by kernel_rfl) (fun _ _ _ h => h) (Or.inl ⟨by rfl, ?hy12⟩) (by assumption) ?_
        case hy12 =>
          intro w hSw
          (try dsimp only at hSw)
          go_simp
          all_goals with_reducible rfl
        change wpAnyH _ _ _ _ _ _ _ (Act.put _ (some 60) _) _
        try simp only [Act.put, List.setIfInBounds_toArray, List.set_cons_zero, List.set_cons_succ]
        refine wpAnyH_take (i := 13) (v := ?v13) rfl (by kernel_rfl) (by kernel_rfl) (by kernel_rfl) (fun _ _ _ h => h) (Or.inl ⟨by rfl, ?hy13⟩) (by assumption) ?_
        case hy13 =>
          intro w hSw
          (try dsimp only at hSw)
          go_simp
          all_goals with_reducible rfl
        change wpAnyH _ _ _ _ _ _ _ (Act.put _ (some 61) _) _
        try simp only [Act.put, List.setIfInBounds_toArray, List.set_cons_zero, List.set_cons_succ]
        refine wpAnyH_take (i := 14) (v := ?v14) rfl (by kernel_rfl) (by kernel_rfl) (by kernel_rfl) (fun _ _ _ h => h) (Or.inl ⟨by rfl, ?hy14⟩) (by assumption) ?_
        case hy14 =>
          intro w hSw
          (try dsimp only at hSw)
          go_simp
          all_goals with_reducible rfl
        change wpAnyH _ _ _ _ _ _ _ (Act.put _ (some 62) _) _
        try simp only [Act.put, List.setIfInBounds_toArray, List.set_cons_zero, List.set_cons_succ]
        refine wpAnyH_take (i := 15) (v := ?v15) rfl (by kernel_rfl) (by kernel_rfl) (by kernel_rfl) (fun _ _ _ h => h) (Or.inl ⟨by rfl, ?hy15⟩) (by assumption) ?_
        case hy15 =>
          intro w hSw
          (try dsimp only at hSw)
          go_simp
          all_goals with_reducible rfl
        change wpAnyH _ _ _ _ _ _ _ (Act.put _ (some 63) _) _
        try simp only [Act.put, List.setIfInBounds_toArray, List.set_cons_zero, List.set_cons_succ]
        refine wpAnyH_ready (rs := [2]) (by kernel_rfl) (by simp) ?_
        refine AllReadyH.cons rfl (fun K hK => ?_) AllReadyH.nil
        go_simp
        refine (HP3.out _).mono ?_
        rintro e u ⟨rfl, hu⟩
        subst hu
        go_wp2_with fail
        refine hK.out _ _ ?_ (fun hHeld => ?_)
        · exact HC.out _ ((Below.refl _ _).drew)
        clear hK K
        try simp only [Act.put, List.setIfInBounds_toArray, List.set_cons_zero, List.set_cons_succ]
        refine wpAnyH_ready (rs := [16]) (by kernel_rfl) (by simp) ?_
        refine AllReadyH.cons rfl (fun K hK => ?_) AllReadyH.nil
        go_simp
        refine (HEN.out _).mono ?_
        rintro e w2 ⟨rfl, hb2⟩
        have HBC := hid (show Below W1.heap.size W1 w2 from ((Below.refl _ W1).drew).trans hb2)
        clear hb2
        go_wp2_with fail
        refine hK.out _ _ ?_ (fun hHeld => ?_)
        · exact HC.out _ HBC.out
        clear hK K
        try simp only [Act.put, List.setIfInBounds_toArray, List.set_cons_zero, List.set_cons_succ]
        refine wpAnyH_take (i := 17) (v := ?v16) rfl (by kernel_rfl) (by kernel_rfl) (by kernel_rfl) (fun _ _ _ h => h) (Or.inl ⟨by rfl, ?hy16⟩) (by assumption) ?_
        case hy16 =>
          intro w hSw
          (try dsimp only at hSw)
          go_simp
          all_goals with_reducible rfl
        change wpAnyH _ _ _ _ _ _ _ (Act.put _ (some 65) _) _
        try simp only [Act.put, List.setIfInBounds_toArray, List.set_cons_zero, List.set_cons_succ]
        refine wpAnyH_ready (rs := [18]) (by kernel_rfl) (by simp) ?_
        refine AllReadyH.cons rfl (fun K hK => ?_) AllReadyH.nil
        have HZ2 := hid ((HBC.out.block _ (Array.getElem?_eq_some_iff.1 HZ1.out).1).trans HZ1.out)
        have HB2 := hid (HB1.out.trans (HBC.out.mono HB1.out.size))
        have HEE := hid (show AcB w (w.heap.size + 1) (actM g) (w2.setCells (w.heap.size + 1) 0 [.int .i64 5, .int .i64 0, .int .i64 (pickN g.user 3), .int .i64 0, .string ⟨#[]⟩, .int .i64 (entP (gChr g)).kind, .string (S (entP (gChr g)).box), .int .i64 (entP (gChr g)).uid, .int .i64 (entP (gChr g)).flags, .string (S (entP (gChr g)).goal), .string (S (entP (gChr g)).text)]) from ⟨by rw [HM.out, HE6.out _ (by decide)]; exact put11 (w := w2) (.int .i64 5) (.int .i64 0) (.int .i64 (pickN g.user 3)) (.int .i64 0) (.string ⟨#[]⟩) (.int .i64 (entP (gChr g)).kind) (.string (S (entP (gChr g)).box)) (.int .i64 (entP (gChr g)).uid) (.int .i64 (entP (gChr g)).flags) (.string (S (entP (gChr g)).goal)) (.string (S (entP (gChr g)).text)) HZ2.out, bel11 (b := w.heap.size + 1) (by omega) HB2.out⟩)
        rw [if_pos (by rfl)]
        refine wp_store_mid _ _ _ rfl (w.heap.size + 1) 0 #[.int .i64 5, .int .i64 0, .int .i64 (pickN g.user 3), .int .i64 0, .string ⟨#[]⟩, .int .i64 (entP (gChr g)).kind, .string (S (entP (gChr g)).box), .int .i64 (entP (gChr g)).uid, .int .i64 (entP (gChr g)).flags, .string (S (entP (gChr g)).goal), .string (S (entP (gChr g)).text)] rfl rfl (there11 HZ2.out) (by kernel_rfl) (by simp [Value.oneCell']) ?_
        try simp only [Act.put]
        refine hK.out _ _ ?_ (fun hHeld => ?_)
        · exact ⟨acb_stay hHeld.1 hnb, acb_stay hHeld.2.1 hnb, acb_stay hHeld.2.2.1 hnb, acb_stay hHeld.2.2.2.1 hnb, acb_stay hHeld.2.2.2.2.1 hnb, acb_stay hHeld.2.2.2.2.2 hnb⟩
        clear hK K
        try simp only [Act.put]
        refine wpAnyH_done (by kernel_rfl) ?_ _
        have HE := HEE
        go_wp2_with fail
        go_meet
        exact HE.out
      case rest =>
        obtain ⟨hbx, hBx⟩ := hcut
        have HBX := hid hBx
        obtain ⟨x, hx⟩ : ∃ x, x = actM g := ⟨_, rfl⟩
        have HX := hid hx
        rw [← hx] at hbx
        obtain ⟨m0, m1, m2, m3, m4, m5, m6, m7, m8, m9, m10, _⟩ := box11 hbx
        clear hbx hx hBx
        go_wp2
        refine bodyPost_ret (v := .agg #[.int .i64 x.kind, .int .i64 x.conn, .int .i64 x.user, .int .i64 x.keep, .string (S x.data), .int .i64 x.ent.kind, .string (S x.ent.box), .int .i64 x.ent.uid, .int .i64 x.ent.flags, .string (S x.ent.goal), .string (S x.ent.text)]) (by simp only [results, Tryz.results13]; simp [go_sem, m0, m1, m2, m3, m4, m5, m6, m7, m8, m9, m10]) rfl ?_
        exact ⟨by rw [← HX.out]; rfl, HBX.out⟩
end Go.Proofs.YtepfniiojjefhaaGreatDoor
namespace Go.Proofs.YtepfniiojjefhaaGreatDoor
open Go.RowKit Go.Proofs

/-- What acts hands back. -/
def AsP (w : World) (l : List Acu) (e : Ending) (w' : World) : Prop := ∃ a c, e = .returned (.slice a l.length c) ∧ AcsM (fun k => w.heap.size ≤ k) w' (.slice a l.length c) l ∧ Below w.heap.size w w' ∧ l.length ≤ c
def actsK (l : List Gea) (k : Nat) : List Acu := (l.take k).map actM
theorem acts_step {l : List Gea} {k : Nat} {c : Gea} (h : l[k]? = some c) : actsK l (k + 1) = actsK l k ++ [actM c] := by
  unfold actsK
  have hk : k < l.length := (List.getElem?_eq_some_iff.1 h).1
  rw [List.take_succ_eq_append_getElem hk, (List.getElem?_eq_some_iff.1 h).2, List.map_append]
  rfl
theorem infoAc : (Tryz.prog.info? 46).map (fun i => (i.zero, i.size, i.bytes)) = some (some (.agg #[.int .i64 0, .int .i64 0, .int .i64 0, .int .i64 0, .string ByteArray.empty, .int .i64 0, .string ByteArray.empty, .int .i64 0, .int .i64 0, .string ByteArray.empty, .string ByteArray.empty]), 11, 120) := by kernel_rfl
theorem acu_cells (w : World) (cs : List Value) (t : TypeId) : ∀ j u, cs[j]? = some u → (w.alloc (.cells cs.toArray t)).cell? ((⟨w.heap.size, 0, none⟩ : Addr).add j) = some u := by
  intro j u hj
  rw [Addr.add_lit]
  have := heap_alloc_new w (.cells cs.toArray t)
  simp only [World.cell?, this, Nat.zero_add]
  simpa using hj
theorem acu_flat (l : List Acu) (x : Acu) : ((l ++ [x]).map acuC).flatten = (l.map acuC).flatten ++ acuC x := by simp
set_option maxHeartbeats 1000000 in
set_option maxRecDepth 100000 in
theorem acts_any (l : List Gea) (a : Option Addr) (c n : Nat) (w : World) (Q : Nat → Prop) (hL : GesM Q w (.slice a l.length c) l) (hW : ∀ x ∈ l, geaW x) (hn : n ≤ 1000) :
    Calls Tryz.prog 7 #[.slice a l.length c, .int .i64 n] w (AsP w (actsK l n)) := by
  have hm := RowM.small hL
  unfold maxLen at hm
  have HL := hid hL
  have HCW := hid hW
  obtain ⟨i0, hi, hz0, hz1, hz2⟩ := info_parts infoAc
  clear hL hW
  go_enter Tryz.func7, Tryz.ntmps7
  go_wp2
  go_loopw [5, 6] (fun q v wr => ∃ (k : Nat) (a9 : Option Addr) (c9 : Nat), k ≤ l.length ∧ k ≤ n ∧ v = .int .i64 k ∧ q = .slice a9 k c9 ∧ Hid (wr.ownsRow w.heap.size 46 11 (.slice a9 k c9) k ((actsK l k).map acuC).flatten) ∧ Hid (Below w.heap.size w wr)) (fun _ v _ => l.length - (intOf v).toNat)
  case atStart => exact ⟨0, none, 0, Nat.zero_le _, Nat.zero_le _, rfl, rfl, World.ownsRow_nil _ _ _ _, Below.refl _ _⟩
  case round =>
    obtain ⟨k, a9, c9, hk, hkn, rfl, rfl, HO, HB⟩ := hrel
    by_cases hlt : k < l.length ∧ k < n
    · obtain ⟨hl1, hl2⟩ := hlt
      have k1 : (k : Int) < (l.length : Int) := by omega
      have k2 : (k : Int) < (n : Int) := by omega
      have k0 : (0 : Int) ≤ (k : Int) := by omega
      obtain ⟨x, hx⟩ : ∃ x, l[k]? = some x := ⟨_, List.getElem?_eq_getElem hl1⟩
      obtain ⟨b, o, rfl, e0, e1, e2, e3, e4, e5⟩ := (HL.out.next HB.out).at hx
      have HEN := hid (act_any x wr (HCW.out x (List.mem_of_getElem? hx)))
      have HMS := hid (acts_step hx)
      obtain ⟨E, hE⟩ : ∃ E, E = actM x := ⟨_, rfl⟩
      rw [← hE] at HEN HMS
      clear hx hE
      go_wp2_with fail
      refine HEN.out.mono ?_
      rintro e w2 ⟨rfl, hb2⟩
      rw [show (acuC E).toArray = #[.int .i64 E.kind, .int .i64 E.conn, .int .i64 E.user, .int .i64 E.keep, .string (S E.data), .int .i64 E.ent.kind, .string (S E.ent.box), .int .i64 E.ent.uid, .int .i64 E.ent.flags, .string (S E.ent.goal), .string (S E.ent.text)] from rfl]
      obtain ⟨W3, hW3⟩ : ∃ W3, W3 = w2.alloc (.cells #[.int .i64 E.kind, .int .i64 E.conn, .int .i64 E.user, .int .i64 E.keep, .string (S E.data), .int .i64 E.ent.kind, .string (S E.ent.box), .int .i64 E.ent.uid, .int .i64 E.ent.flags, .string (S E.ent.goal), .string (S E.ent.text)] 46) := ⟨_, rfl⟩
      have HWE3 := hid hW3
      have hB3 : Below wr.heap.size wr W3 := by rw [hW3]; exact hb2.alloc hb2.size _
      have hX3 : W3.heap[w2.heap.size]? = some (.cells #[.int .i64 E.kind, .int .i64 E.conn, .int .i64 E.user, .int .i64 E.keep, .string (S E.data), .int .i64 E.ent.kind, .string (S E.ent.box), .int .i64 E.ent.uid, .int .i64 E.ent.flags, .string (S E.ent.goal), .string (S E.ent.text)] 46) := by rw [hW3]; exact heap_alloc_new w2 _
      obtain ⟨x0, x1, x2, x3, x4, x5, x6, x7, x8, x9, x10, _⟩ := box11 hX3
      have HO3 := hid (owns_keep HO.out fun g hg => hB3.block g (World.ownsRow.lt HO.out g hg).2)
      have HB3 := hid (show Below w.heap.size w W3 from HB.out.trans (hB3.mono HB.out.size))
      have hz3 := HB3.out.size
      clear hb2 hB3 hW3 hX3
      go_upto_region 6 with fail
      rw [← HWE3.out]
      go_wp2_with (first
        | (at_builtin; refine wpList_append_lies _ rfl _ _ 36 rfl w.heap.size 46 i0 _ 11 120 Tryz.underlying36 hi hz0 hz1 hz2 rfl (by omega) (.slice a9 k c9) k (((actsK l k).map acuC).flatten) rfl (World.ownsRow.alloc HO3.out _) ⟨W3.heap.size, 0, none⟩ 1 1 (acuC E) rfl rfl (acu_cells W3 (acuC E) _) ?c1 (by omega) ?c2 ?c3 ?c4 _ rfl ?_)
        | fail)
      case c1 => simp [acuC, Value.oneCell']
      case c2 => unfold maxLen; omega
      case c3 => omega
      case c4 => simp; omega
      intro gm cap w4 hown hgrow hat hlt4
      have HB4 := hid (show Below w.heap.size w w4 from (HB3.out.alloc hz3 _).grown hgrow (by simp; omega) (fun j hj => (World.ownsRow.lt HO3.out j hj).1))
      have HO4 := hid (show w4.ownsRow w.heap.size 46 11 (.slice (some ⟨gm, 0, none⟩) (k + 1) cap) (k + 1) ((actsK l (k + 1)).map acuC).flatten by
        rw [HMS.out, acu_flat]; exact hown)
      clear hown hgrow hat
      go_wp2
      go_roundw
      case rel => first | exact ⟨k + 1, _, cap, by omega, by omega, by go_num, rfl, HO4, HB4⟩ | ((repeat apply Exists.intro); exact ⟨⟨k + 1, _, cap, by omega, by omega, by go_num, rfl, HO4, HB4⟩, rfl⟩)
      case measure => simp [intOf]; omega
    · have hE : actsK l k = actsK l n := by
        unfold actsK
        by_cases h4 : k = n
        · rw [h4]
        · rw [List.take_of_length_le (by omega), List.take_of_length_le (by omega)]
      have hlen : (actsK l n).length = k := by rw [← hE]; unfold actsK; simp; omega
      have HF := hid (show AsP w (actsK l n) (.returned (.slice a9 k c9)) wr from by
        have h1 : AcsM (fun k => w.heap.size ≤ k) wr (.slice a9 k c9) (actsK l n) := own_row (hE ▸ HO.out) hlen.symm (by unfold maxLen; omega) (by simp) (map_flat_len (k := 11) acuC (fun _ => rfl) _) (fun q y cs hy hc => by rw [List.getElem?_map, hy] at hc; cases hc; rfl) (fun g hg => (World.ownsRow.lt HO.out g hg).1)
        refine ⟨a9, c9, by rw [hlen], by rw [hlen]; exact h1, HB.out, ?_⟩
        rw [hlen]
        rcases HO.out.2 with ⟨e, h0⟩ | ⟨_, _, _, e, _, _, e2, _⟩
        · omega
        · simp only [Value.slice.injEq] at e; omega)
      clear hE hlen
      by_cases hkl : k < l.length
      · have k1 : (k : Int) < (l.length : Int) := by omega
        have k2 : ¬ (k : Int) < (n : Int) := by omega
        go_wp2
        go_ret
        exact HF.out
      · have k1 : ¬ (k : Int) < (l.length : Int) := by omega
        go_wp2
        go_ret
        exact HF.out
end Go.Proofs.YtepfniiojjefhaaGreatDoor
namespace Go.Proofs.YtepfniiojjefhaaGreatDoor
open Go.RowKit Go.Proofs

/-- A state with an empty inbox alone, as it is handed back. -/
def FnP (w : World) (e : Ending) (w' : World) : Prop := ∃ b, e = .returned (.tuple #[.agg #[.slice (some ⟨b, 0, none⟩) 1 1, .slice none 0 0], .int .i64 0]) ∧ w'.heap[b]? = some (.cells #[.string ⟨#[73, 78, 66, 79, 88]⟩, .int .i64 1, .slice none 0 0] 110) ∧ w.heap.size ≤ b ∧ Below w.heap.size w w'
set_option maxHeartbeats 1000000 in
set_option maxRecDepth 100000 in
theorem pisUser (u : Nat) (hu : u < 3) (w : World) : Calls Tryz.prog 46 #[.int .i64 u] w fun e w' => e = .returned (.bool true) ∧ w' = w := by
  have h0 : (0 : Int) ≤ (u : Int) := by omega
  have h1 : (u : Int) < 3 := by omega
  have h2 : (u : Int) ≤ 2 := by omega
  go_enter Tryz.func46, Tryz.ntmps46
  go_wp2
  go_ret
  exact ⟨rfl, rfl⟩
set_option maxHeartbeats 1000000 in
set_option maxRecDepth 100000 in
theorem fold_nil (u : Nat) (hu : u < 3) (w : World) : Calls Tryz.prog 25 #[.slice none 0 0, .int .i64 u] w (FnP w) := by
  have HU := hid (fun v => pisUser u hu v)
  go_enter Tryz.func25, Tryz.ntmps25
  go_wp2
  go_loopw [16] (fun i wr => i = .int .i64 0 ∧ wr = w.alloc (.cells #[.slice none 0 0, .slice none 0 0] 85)) (fun _ _ => 0)
  case atStart => exact ⟨rfl, rfl⟩
  case round =>
    obtain ⟨rfl, rfl⟩ := hrel
    go_wp2_with fail
    refine (HU.out _).mono ?_
    rintro e v ⟨rfl, hv⟩
    have hv' := hv.symm
    subst hv'
    clear hv
    go_wp2
    go_loopw [36] (fun i wr => i = .int .i64 0 ∧ wr = ((w.alloc (.cells #[.slice none 0 0, .slice none 0 0] 85)).alloc (.cells #[.string ⟨#[73, 78, 66, 79, 88]⟩, .int .i64 1, .slice none 0 0] 110)).alloc (.cells #[.slice (some ⟨w.heap.size + 1, 0, none⟩) 1 1, .slice none 0 0] 85)) (fun _ _ => 0)
    case atStart => exact ⟨rfl, rfl⟩
    case round =>
      obtain ⟨rfl, rfl⟩ := hrel
      go_wp2
      refine bodyPost_ret (v := .tuple #[.agg #[.slice (some ⟨w.heap.size + 1, 0, none⟩) 1 1, .slice none 0 0], .int .i64 0]) (by simp [results, Tryz.results25, go_sem]) rfl ?_
      refine ⟨w.heap.size + 1, rfl, ?_, by omega, ((((Below.refl _ _).alloc (Nat.le_refl _) _).alloc (by simp) _).alloc (by simp; omega) _)⟩
      have h1 := heap_alloc_new (w.alloc (.cells #[.slice (some ⟨w.heap.size + 1, 0, none⟩) 1 1, .slice none 0 0] 85)) (.cells #[.string ⟨#[73, 78, 66, 79, 88]⟩, .int .i64 1, .slice none 0 0] 110)
      have h2 : (w.alloc (.cells #[.slice (some ⟨w.heap.size + 1, 0, none⟩) 1 1, .slice none 0 0] 85)).heap.size = w.heap.size + 1 := by simp
      rw [h2] at h1
      exact (((Below.refl _ _).alloc (Nat.le_refl _) _).block (w.heap.size + 1) (by simp)).trans h1
end Go.Proofs.YtepfniiojjefhaaGreatDoor
namespace Go.Proofs.YtepfniiojjefhaaGreatDoor
open Go.RowKit Go.Proofs

theorem infoSt : (Tryz.prog.info? 85).map (fun i => (i.zero, i.size, i.bytes)) = some (some (.agg #[.slice none 0 0, .slice none 0 0]), 2, 48) := by kernel_rfl
set_option maxHeartbeats 1000000 in
set_option maxRecDepth 100000 in
theorem cloneSt (ad : Addr) (n c : Nat) (news : List Value) (w : World) (hl : news.length = n * 2) (hn : n ≤ 1000) (hc : ∀ j u, news[j]? = some u → w.cell? (ad.add j) = some u) (h1 : ∀ u ∈ news, u.oneCell' = true) :
    Calls Tryz.prog 48 #[.slice (some ad) n c] w fun e w' => ∃ v', e = .returned v' ∧ (w'.ownsRow w.heap.size 85 2 v' n news) ∧ Below w.heap.size w w' := by
  obtain ⟨i0, hi, hz0, hz1, hz2⟩ := info_parts infoSt
  have q22 : ∀ (w : World) (a : Option Addr) (n c n' c' : Nat), (binOp .eql 31 (.slice a n c) (.slice none n' c')).run Tryz.prog w = .ok (.bool a.isNone) w := fun w a n c n' c' => Lib.run_eql_slice_nil w _ _ a n c n' c' Tryz.underlying31
  have HC := hid hc
  have H1 := hid h1
  have HL := hid hl
  clear hc h1 hl
  go_enter Tryz.func48, Tryz.ntmps48
  go_wp2_with (at_builtin; refine wpList_append_own _ rfl _ _ 31 rfl w.heap.size 85 i0 _ 2 48 Tryz.underlying31 hi hz0 hz1 hz2 rfl (by decide) _ _ _ rfl (World.ownsRow_made w #[] 0 (Nat.le_refl _) (Nat.zero_le _) rfl) ad n c news rfl ?qc1 ?qc2 ?qc3 ?qc4 ?qc5 ?qc6 ?_)
  case qc1 => exact HL.out
  case qc2 => exact fun j u hj => Lib.cell?_alloc_some _ (HC.out j u hj)
  case qc3 => exact H1.out
  case qc4 => unfold maxLen; omega
  case qc5 => omega
  case qc6 => simp
  intro v' w1 hown hgrow hnil
  have HO := hid hown
  have HB := hid (show Below w.heap.size w w1 from ((Below.refl _ w).alloc (Nat.le_refl _) _).grown hgrow (by simp) (by intro k hk; simp [Value.ownBlock] at hk; omega))
  clear hown hgrow hnil
  go_wp2
  go_ret
  exact ⟨v', rfl, by simpa using HO.out, HB.out⟩
theorem but_set {b : Nat} {w w' : World} (h : But b w w') (o : Nat) (v : Value) : But b w (w'.setCell ⟨b, o, none⟩ v) :=
  ⟨h.os, h.tape, h.output, by simpa [World.setCell] using h.size, fun k hk hn => (Below.heap_setCell _ _ _ _ hn).trans (h.block k hk hn)⟩
theorem but_drew {b : Nat} {w w' : World} (h : But b w w') : But b w w'.drew := ⟨h.os, h.tape, h.output, h.size, h.block⟩
theorem but_cell {b : Nat} {w w' : World} {p : Addr} {v : Value} (h : But b w w') (hp : w.cell? p = some v) (hn : p.block ≠ b) : w'.cell? p = some v :=
  (World.cell?_of_block (w := w) (h.block p.block (World.block_lt_of_cell? w _ hp) hn)).trans hp
theorem add_block (a : Addr) (j : Nat) : (a.add j).block = a.block := by unfold Addr.add; split <;> rfl
/-- A ledger's box, and nothing else, has changed. -/
def LgR (w : World) (b : Nat) (v0 v1 v2 v3 v4 v5 : Value) (wx : World) : Prop := wx.heap[b]? = some (.cells #[v0, v1, v2, v3, v4, v5] 56) ∧ But b w wx
theorem LgR.of {w : World} {b : Nat} {v0 v1 v2 v3 v4 v5 : Value} (h : w.heap[b]? = some (.cells #[v0, v1, v2, v3, v4, v5] 56)) (x y : Value) : LgR w b v0 v1 x y v4 v5 ((w.setCell ⟨b, 2, none⟩ x).setCell ⟨b, 3, none⟩ y).drew := by
  refine ⟨?_, but_drew (but_set (but_set (But.refl _ _) 2 x) 3 y)⟩
  have h1 := heap_setCell_same _ b 3 _ _ y (heap_setCell_same w b 2 _ _ x h)
  simp at h1
  exact h1
theorem LgR.of' {w : World} {b : Nat} {v0 v1 v2 v3 v4 v5 : Value} (h : w.heap[b]? = some (.cells #[v0, v1, v2, v3, v4, v5] 56)) (x y : Value) : LgR w b v0 v1 x y v4 v5 ((w.setCell ⟨b, 3, none⟩ y).setCell ⟨b, 2, none⟩ x).drew := by
  refine ⟨?_, but_drew (but_set (but_set (But.refl _ _) 3 y) 2 x)⟩
  have h1 := heap_setCell_same _ b 2 _ _ x (heap_setCell_same w b 3 _ _ y h)
  simp at h1
  exact h1
theorem lg_base {w : World} {B B' : Nat} {e : TypeId} {k n : Nat} {v : Value} {xs : List Value} (h : w.ownsRow B e k v n xs) (hB : B' ≤ B) : w.ownsRow B' e k v n xs := by
  refine ⟨h.1, ?_⟩
  rcases h.2 with h' | ⟨g, cap, cur, h1, h2, h3⟩
  · exact .inl h'
  · exact .inr ⟨g, cap, cur, h1, Nat.le_trans hB h2, h3⟩
/-- The ledger's box behind settle. -/
def StP (w : World) (b : Nat) (td ts : Value) (sy wa : Int) (ad : Addr) (n c : Nat) (news : List Value) (e : Ending) (w' : World) : Prop :=
  (∃ v, e = .returned v) ∧ ∃ v', w'.heap[b]? = some (.cells #[td, ts, .int .i64 (sy + wa), .int .i64 0, v', .slice (some ad) n c] 56) ∧ w'.ownsRow w.heap.size 85 2 v' n news ∧ But b w w'
set_option maxHeartbeats 1000000 in
set_option maxRecDepth 100000 in
theorem settle_any (b : Nat) (td ts v4 : Value) (sy wa : Int) (ad : Addr) (n c : Nat) (news : List Value) (w : World) (hb : w.heap[b]? = some (.cells #[td, ts, .int .i64 sy, .int .i64 wa, v4, .slice (some ad) n c] 56))
    (hsy : 0 ≤ sy ∧ sy ≤ 1000000) (hwa : 0 ≤ wa ∧ wa ≤ 1000000) (hl : news.length = n * 2) (hn : n ≤ 1000) (hc : ∀ j u, news[j]? = some u → w.cell? (ad.add j) = some u) (h1 : ∀ u ∈ news, u.oneCell' = true) (had : ad.block ≠ b) :
    Calls Tryz.prog 26 #[.pointer (some ⟨b, 0, none⟩)] w (StP w b td ts sy wa ad n c news) := by
  have HB := hid hb
  have HC := hid hc
  have H1 := hid h1
  have HL := hid hl
  have hwr : IntKind.i64.wrap (sy + wa) = sy + wa := by rw [IntKind.wrap_i64]; omega
  have c0 : w.cell? ⟨b, 0, none⟩ = some td := by simp [World.cell?, hb]
  have c1 : w.cell? ⟨b, 1, none⟩ = some ts := by simp [World.cell?, hb]
  have c2 : w.cell? ⟨b, 2, none⟩ = some (.int .i64 sy) := by simp [World.cell?, hb]
  have c3 : w.cell? ⟨b, 3, none⟩ = some (.int .i64 wa) := by simp [World.cell?, hb]
  have c4 : w.cell? ⟨b, 4, none⟩ = some v4 := by simp [World.cell?, hb]
  have c5 : w.cell? ⟨b, 5, none⟩ = some (.slice (some ad) n c) := by simp [World.cell?, hb]
  have zf : ∀ o, w.frozen? ⟨b, o, none⟩ = false := fun o => by simp [World.frozen?, hb]
  clear hb hc h1 hl
  go_enter Tryz.func26, Tryz.ntmps26
  go_upto_region 0 with fail
  have HE1 := hid (LgR.of HB.out (.int .i64 (sy + wa)) (.int .i64 0))
  have HE2 := hid (LgR.of' HB.out (.int .i64 (sy + wa)) (.int .i64 0))
  go_cut [] (fun wx => LgR w b td ts (.int .i64 (sy + wa)) (.int .i64 0) v4 (.slice (some ad) n c) wx)
  case first =>
    go_region_law (fail)
    all_goals first
      | (have HE := HE1; go_wp2_with fail; go_meet; exact HE.out)
      | (have HE := HE2; go_wp2_with fail; go_meet; exact HE.out)
      | fail
  case rest =>
    obtain ⟨hx, hB⟩ := hcut
    obtain ⟨W1, rfl⟩ : ∃ W, W = wc := ⟨_, rfl⟩
    have hlt : b < W1.heap.size := (Array.getElem?_eq_some_iff.1 hx).1
    have HX := hid hx
    have HBT := hid hB
    have d5 : W1.cell? ⟨b, 5, none⟩ = some (.slice (some ad) n c) := by simp [World.cell?, hx]
    clear hx hB c0 c1 c2 c3 c4 c5 zf
    go_wp2_with fail
    refine (cloneSt ad n c news W1 HL.out hn (fun j u hj => but_cell HBT.out (HC.out j u hj) (by rw [add_block]; exact had)) H1.out).mono ?_
    rintro e w2 ⟨v', rfl, ho, hb2⟩
    obtain ⟨a', c', rfl⟩ := own_form ho
    have hx2 := (hb2.block b hlt).trans HX.out
    have e4 : w2.cell? ⟨b, 4, none⟩ = some v4 := by simp [World.cell?, hx2]
    have zf : ∀ o, w2.frozen? ⟨b, o, none⟩ = false := fun o => by simp [World.frozen?, hx2]
    have hz1 := HBT.out.size
    have HE := hid (show StP w b td ts sy wa ad n c news (.returned (.tuple #[])) (w2.setCell ⟨b, 4, none⟩ (.slice a' n c')) from ⟨⟨_, rfl⟩, .slice a' n c', by have := heap_setCell_same w2 b 4 _ _ (.slice a' n c') hx2; simpa using this, by
      have h := owns_keep (w' := w2.setCell ⟨b, 4, none⟩ (.slice a' n c')) ho fun g hg => Below.heap_setCell _ _ _ _ (fun e => by have e' : g = b := e; have := (World.ownsRow.lt ho g hg).1; omega)
      exact lg_base h hz1, but_set ((HBT.out).trans (But.of hb2)) 4 _⟩)
    clear ho hb2 hx2
    go_wp2
    go_end0
    exact HE.out
end Go.Proofs.YtepfniiojjefhaaGreatDoor
