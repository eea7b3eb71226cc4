/-
  Entries and states that the laws make of raw numbers: plain facts, and the walks of boxName and Entry.
  What the laws of the whole make of raw numbers: an act. Plain meaning and walk.
  The acts of raw numbers, at most so many: the walk of the laws' acts.
  How arguments that are acts in raw numbers are read: five numbers and a text each.
  The three users of the laws of the whole: their names and scripts, and the walk of the laws' users.
  Plain facts on tokens, as the program reads them: gaps by the library's Cut, kinds of what begins. No program is named here.
-/
import Derived.Test.YtepfniiojjefhaaGreatDoorQScrMemX2
import Derived.Test.YtepfniiojjefhaaGreatDoorQScrCard9
import Derived.Test.YtepfniiojjefhaaGreatDoorCut
import Derived.Test.YtepfniiojjefhaaGreatDoorRows
import Derived.WalkKit
import Derived.Test.YtepfniiojjefhaaGreatDoorQTopLt2
import Derived.Deep.MidRow
import Derived.Deep.SlicePairs
import Derived.Lib.SmallJoins
import Derived.ProofKit
import Derived.OpenShut
import Derived.Test.YtepfniiojjefhaaGreatDoorQPure6
import Derived.Lib.IndexLaws
namespace Go.Proofs.YtepfniiojjefhaaGreatDoor
open Go.RowKit Go.Proofs

/-- An entry in raw numbers. -/
structure Chr where
  kind : Int
  box : Int
  uid : Int
  flags : Int
  goal : Int
  text : ByteArray
def chrW (c : Chr) : Prop := (Lit.int .i64 c.kind).wf = true ∧ (Lit.int .i64 c.box).wf = true ∧ (Lit.int .i64 c.uid).wf = true ∧ (Lit.int .i64 c.flags).wf = true ∧ (Lit.int .i64 c.goal).wf = true ∧ c.text.size ≤ maxLen
def boxNs : List (List UInt8) := [[73, 78, 66, 79, 88], [119, 111, 114, 107], [106, 117, 110, 107], [97], [98], [99]]
def boxN (n : Int) : List UInt8 := boxNs.getD (pickN n 6) []
def abc : List UInt8 := [97, 64, 98, 46, 99]
def cutL (s : ByteArray) (n : Nat) : List UInt8 := (cutB s n).data.toList
theorem S_cutL (s : ByteArray) (n : Nat) : S (cutL s n) = cutB s n := by unfold cutL; exact S_list _
def entP (c : Chr) : Ent := match pickN c.kind 6 with
  | 0 => ⟨1, boxN c.box, 0, 0, [], []⟩
  | 1 => ⟨2, boxN c.box, 0, pickN c.flags 32, [], cutL c.text 300⟩
  | 2 => ⟨3, boxN c.box, 1 + pickN c.uid 8, pickN c.flags 32, [], []⟩
  | 3 => ⟨4, boxN c.box, 0, 0, [], []⟩
  | 4 => ⟨5, boxN c.box, 1 + pickN c.uid 8, 0, boxN c.goal, []⟩
  | _ => ⟨6, [], 0, 0, abc, cutL c.text 100⟩
def boxRow : Obj := .cells #[.string ⟨#[73, 78, 66, 79, 88]⟩, .string ⟨#[119, 111, 114, 107]⟩, .string ⟨#[106, 117, 110, 107]⟩, .string ⟨#[97]⟩, .string ⟨#[98]⟩, .string ⟨#[99]⟩] 9
set_option maxHeartbeats 1000000 in
set_option maxRecDepth 100000 in
theorem boxName_any (n : Int) (w : World) (hn : (Lit.int .i64 n).wf = true) :
    Calls Tryz.prog 43 #[.int .i64 n] w fun e w' => e = .returned (.string (S (boxN n))) ∧ w' = w.alloc boxRow := by
  have HP := hid (fun u => picked_any n 6 u hn (by decide) (by decide))
  have h6 := pickN_lt n 6 (by decide)
  obtain ⟨t, ht⟩ : ∃ t, t = boxN n := ⟨_, rfl⟩
  have HT := hid ht
  rw [← ht]
  unfold boxN at HT
  clear hn ht
  generalize pickN n 6 = k at *
  match k, h6 with
  | 0, _ =>
    go_enter Tryz.func43, Tryz.ntmps43
    go_wp2_with fail
    refine (HP.out _).mono ?_
    rintro e u ⟨rfl, hu⟩
    have hu' := hu.symm
    subst hu'
    clear hu
    go_wp2
    go_ret
    exact ⟨by rw [HT.out]; rfl, rfl⟩
  | 1, _ =>
    go_enter Tryz.func43, Tryz.ntmps43
    go_wp2_with fail
    refine (HP.out _).mono ?_
    rintro e u ⟨rfl, hu⟩
    have hu' := hu.symm
    subst hu'
    clear hu
    go_wp2
    go_ret
    exact ⟨by rw [HT.out]; rfl, rfl⟩
  | 2, _ =>
    go_enter Tryz.func43, Tryz.ntmps43
    go_wp2_with fail
    refine (HP.out _).mono ?_
    rintro e u ⟨rfl, hu⟩
    have hu' := hu.symm
    subst hu'
    clear hu
    go_wp2
    go_ret
    exact ⟨by rw [HT.out]; rfl, rfl⟩
  | 3, _ =>
    go_enter Tryz.func43, Tryz.ntmps43
    go_wp2_with fail
    refine (HP.out _).mono ?_
    rintro e u ⟨rfl, hu⟩
    have hu' := hu.symm
    subst hu'
    clear hu
    go_wp2
    go_ret
    exact ⟨by rw [HT.out]; rfl, rfl⟩
  | 4, _ =>
    go_enter Tryz.func43, Tryz.ntmps43
    go_wp2_with fail
    refine (HP.out _).mono ?_
    rintro e u ⟨rfl, hu⟩
    have hu' := hu.symm
    subst hu'
    clear hu
    go_wp2
    go_ret
    exact ⟨by rw [HT.out]; rfl, rfl⟩
  | 5, _ =>
    go_enter Tryz.func43, Tryz.ntmps43
    go_wp2_with fail
    refine (HP.out _).mono ?_
    rintro e u ⟨rfl, hu⟩
    have hu' := hu.symm
    subst hu'
    clear hu
    go_wp2
    go_ret
    exact ⟨by rw [HT.out]; rfl, rfl⟩
set_option maxHeartbeats 1000000 in
set_option maxRecDepth 100000 in
theorem entry_k0 (c : Chr) (w : World) (hw : chrW c) (hk : pickN c.kind 6 = 0) :
    Calls Tryz.prog 24 #[.agg #[.int .i64 c.kind, .int .i64 c.box, .int .i64 c.uid, .int .i64 c.flags, .int .i64 c.goal, .string c.text]] w fun e w' => e = .returned (.agg #[.int .i64 1, .string (S (boxN c.box)), .int .i64 0, .int .i64 0, .string ⟨#[]⟩, .string ⟨#[]⟩]) ∧ Below w.heap.size w w' := by
  have HW := hid hw
  have HP := hid (fun u => picked_any c.kind 6 u hw.1 (by decide) (by decide))
  rw [hk] at HP
  have hp8 := pickN_lt c.uid 8 (by decide)
  have HB := hid (show ∀ a b d e : Obj, Below w.heap.size w ((((w.alloc a).alloc b).alloc d).alloc e) from fun a b d e => (((((Below.refl w.heap.size w).alloc (by simp) a).alloc (by simp) b).alloc (by simp; omega) d).alloc (by simp; omega) e))
  clear hw hk
  go_enter Tryz.func24, Tryz.ntmps24
  go_wp2_with fail
  refine (HP.out _).mono ?_
  rintro e u ⟨rfl, hu⟩
  have hu' := hu.symm
  subst hu'
  clear hu
  go_wp2_with fail
  refine (boxName_any c.box _ HW.out.2.1).mono ?_
  rintro e u ⟨rfl, hu⟩
  subst hu
  go_wp2
  refine bodyPost_ret (v := .agg #[.int .i64 1, .string (S (boxN c.box)), .int .i64 0, .int .i64 0, .string ⟨#[]⟩, .string ⟨#[]⟩]) (by simp [results, Tryz.results24, go_sem, *]) rfl ?_
  exact ⟨rfl, HB.out _ _ _ _⟩
set_option maxHeartbeats 1000000 in
set_option maxRecDepth 100000 in
theorem entry_k1 (c : Chr) (w : World) (hw : chrW c) (hk : pickN c.kind 6 = 1) :
    Calls Tryz.prog 24 #[.agg #[.int .i64 c.kind, .int .i64 c.box, .int .i64 c.uid, .int .i64 c.flags, .int .i64 c.goal, .string c.text]] w fun e w' => e = .returned (.agg #[.int .i64 2, .string (S (boxN c.box)), .int .i64 0, .int .i64 (pickN c.flags 32 : Nat), .string ⟨#[]⟩, .string (cutB c.text 300)]) ∧ Below w.heap.size w w' := by
  have HW := hid hw
  have HP := hid (fun u => picked_any c.kind 6 u hw.1 (by decide) (by decide))
  rw [hk] at HP
  have hp8 := pickN_lt c.uid 8 (by decide)
  have HB := hid (show ∀ a b d e : Obj, Below w.heap.size w ((((w.alloc a).alloc b).alloc d).alloc e) from fun a b d e => (((((Below.refl w.heap.size w).alloc (by simp) a).alloc (by simp) b).alloc (by simp; omega) d).alloc (by simp; omega) e))
  clear hw hk
  go_enter Tryz.func24, Tryz.ntmps24
  go_wp2_with fail
  refine (HP.out _).mono ?_
  rintro e u ⟨rfl, hu⟩
  have hu' := hu.symm
  subst hu'
  clear hu
  go_wp2_with fail
  refine (boxName_any c.box _ HW.out.2.1).mono ?_
  rintro e u ⟨rfl, hu⟩
  subst hu
  go_wp2_with fail
  refine (picked_any c.flags 32 _ HW.out.2.2.2.1 (by decide) (by decide)).mono ?_
  rintro e u ⟨rfl, hu⟩
  have hu' := hu.symm
  subst hu'
  clear hu
  go_wp2_with fail
  refine (cut_any c.text 300 _ HW.out.2.2.2.2.2 (by decide)).mono ?_
  rintro e u ⟨rfl, hu⟩
  have hu' := hu.symm
  subst hu'
  clear hu
  go_wp2
  refine bodyPost_ret (v := .agg #[.int .i64 2, .string (S (boxN c.box)), .int .i64 0, .int .i64 (pickN c.flags 32 : Nat), .string ⟨#[]⟩, .string (cutB c.text 300)]) (by simp [results, Tryz.results24, go_sem, *]) rfl ?_
  exact ⟨rfl, HB.out _ _ _ _⟩
set_option maxHeartbeats 1000000 in
set_option maxRecDepth 100000 in
theorem entry_k2 (c : Chr) (w : World) (hw : chrW c) (hk : pickN c.kind 6 = 2) :
    Calls Tryz.prog 24 #[.agg #[.int .i64 c.kind, .int .i64 c.box, .int .i64 c.uid, .int .i64 c.flags, .int .i64 c.goal, .string c.text]] w fun e w' => e = .returned (.agg #[.int .i64 3, .string (S (boxN c.box)), .int .i64 (1 + (pickN c.uid 8 : Nat)), .int .i64 (pickN c.flags 32 : Nat), .string ⟨#[]⟩, .string ⟨#[]⟩]) ∧ Below w.heap.size w w' := by
  have HW := hid hw
  have HP := hid (fun u => picked_any c.kind 6 u hw.1 (by decide) (by decide))
  rw [hk] at HP
  have hp8 := pickN_lt c.uid 8 (by decide)
  have HB := hid (show ∀ a b d e : Obj, Below w.heap.size w ((((w.alloc a).alloc b).alloc d).alloc e) from fun a b d e => (((((Below.refl w.heap.size w).alloc (by simp) a).alloc (by simp) b).alloc (by simp; omega) d).alloc (by simp; omega) e))
  clear hw hk
  go_enter Tryz.func24, Tryz.ntmps24
  go_wp2_with fail
  refine (HP.out _).mono ?_
  rintro e u ⟨rfl, hu⟩
  have hu' := hu.symm
  subst hu'
  clear hu
  go_wp2_with fail
  refine (boxName_any c.box _ HW.out.2.1).mono ?_
  rintro e u ⟨rfl, hu⟩
  subst hu
  go_wp2_with fail
  refine (picked_any c.uid 8 _ HW.out.2.2.1 (by decide) (by decide)).mono ?_
  rintro e u ⟨rfl, hu⟩
  have hu' := hu.symm
  subst hu'
  clear hu
  go_wp2_with fail
  refine (picked_any c.flags 32 _ HW.out.2.2.2.1 (by decide) (by decide)).mono ?_
  rintro e u ⟨rfl, hu⟩
  have hu' := hu.symm
  subst hu'
  clear hu
  go_wp2
  refine bodyPost_ret (v := .agg #[.int .i64 3, .string (S (boxN c.box)), .int .i64 (1 + (pickN c.uid 8 : Nat)), .int .i64 (pickN c.flags 32 : Nat), .string ⟨#[]⟩, .string ⟨#[]⟩]) (by simp [results, Tryz.results24, go_sem, *]) rfl ?_
  exact ⟨rfl, HB.out _ _ _ _⟩
set_option maxHeartbeats 1000000 in
set_option maxRecDepth 100000 in
theorem entry_k3 (c : Chr) (w : World) (hw : chrW c) (hk : pickN c.kind 6 = 3) :
    Calls Tryz.prog 24 #[.agg #[.int .i64 c.kind, .int .i64 c.box, .int .i64 c.uid, .int .i64 c.flags, .int .i64 c.goal, .string c.text]] w fun e w' => e = .returned (.agg #[.int .i64 4, .string (S (boxN c.box)), .int .i64 0, .int .i64 0, .string ⟨#[]⟩, .string ⟨#[]⟩]) ∧ Below w.heap.size w w' := by
  have HW := hid hw
  have HP := hid (fun u => picked_any c.kind 6 u hw.1 (by decide) (by decide))
  rw [hk] at HP
  have hp8 := pickN_lt c.uid 8 (by decide)
  have HB := hid (show ∀ a b d e : Obj, Below w.heap.size w ((((w.alloc a).alloc b).alloc d).alloc e) from fun a b d e => (((((Below.refl w.heap.size w).alloc (by simp) a).alloc (by simp) b).alloc (by simp; omega) d).alloc (by simp; omega) e))
  clear hw hk
  go_enter Tryz.func24, Tryz.ntmps24
  go_wp2_with fail
  refine (HP.out _).mono ?_
  rintro e u ⟨rfl, hu⟩
  have hu' := hu.symm
  subst hu'
  clear hu
  go_wp2_with fail
  refine (boxName_any c.box _ HW.out.2.1).mono ?_
  rintro e u ⟨rfl, hu⟩
  subst hu
  go_wp2
  refine bodyPost_ret (v := .agg #[.int .i64 4, .string (S (boxN c.box)), .int .i64 0, .int .i64 0, .string ⟨#[]⟩, .string ⟨#[]⟩]) (by simp [results, Tryz.results24, go_sem, *]) rfl ?_
  exact ⟨rfl, HB.out _ _ _ _⟩
set_option maxHeartbeats 1000000 in
set_option maxRecDepth 100000 in
theorem entry_k4 (c : Chr) (w : World) (hw : chrW c) (hk : pickN c.kind 6 = 4) :
    Calls Tryz.prog 24 #[.agg #[.int .i64 c.kind, .int .i64 c.box, .int .i64 c.uid, .int .i64 c.flags, .int .i64 c.goal, .string c.text]] w fun e w' => e = .returned (.agg #[.int .i64 5, .string (S (boxN c.box)), .int .i64 (1 + (pickN c.uid 8 : Nat)), .int .i64 0, .string (S (boxN c.goal)), .string ⟨#[]⟩]) ∧ Below w.heap.size w w' := by
  have HW := hid hw
  have HP := hid (fun u => picked_any c.kind 6 u hw.1 (by decide) (by decide))
  rw [hk] at HP
  have hp8 := pickN_lt c.uid 8 (by decide)
  have HB := hid (show ∀ a b d e f : Obj, Below w.heap.size w (((((w.alloc a).alloc b).alloc d).alloc e).alloc f) from fun a b d e f => ((((((Below.refl w.heap.size w).alloc (by simp) a).alloc (by simp) b).alloc (by simp; omega) d).alloc (by simp; omega) e).alloc (by simp; omega) f))
  clear hw hk
  go_enter Tryz.func24, Tryz.ntmps24
  go_wp2_with fail
  refine (HP.out _).mono ?_
  rintro e u ⟨rfl, hu⟩
  have hu' := hu.symm
  subst hu'
  clear hu
  go_wp2_with fail
  refine (boxName_any c.box _ HW.out.2.1).mono ?_
  rintro e u ⟨rfl, hu⟩
  subst hu
  go_wp2_with fail
  refine (picked_any c.uid 8 _ HW.out.2.2.1 (by decide) (by decide)).mono ?_
  rintro e u ⟨rfl, hu⟩
  have hu' := hu.symm
  subst hu'
  clear hu
  go_wp2_with fail
  refine (boxName_any c.goal _ HW.out.2.2.2.2.1).mono ?_
  rintro e u ⟨rfl, hu⟩
  subst hu
  go_wp2
  refine bodyPost_ret (v := .agg #[.int .i64 5, .string (S (boxN c.box)), .int .i64 (1 + (pickN c.uid 8 : Nat)), .int .i64 0, .string (S (boxN c.goal)), .string ⟨#[]⟩]) (by simp [results, Tryz.results24, go_sem, *]) rfl ?_
  exact ⟨rfl, HB.out _ _ _ _ _⟩
set_option maxHeartbeats 1000000 in
set_option maxRecDepth 100000 in
theorem entry_k5 (c : Chr) (w : World) (hw : chrW c) (hk : pickN c.kind 6 = 5) :
    Calls Tryz.prog 24 #[.agg #[.int .i64 c.kind, .int .i64 c.box, .int .i64 c.uid, .int .i64 c.flags, .int .i64 c.goal, .string c.text]] w fun e w' => e = .returned (.agg #[.int .i64 6, .string ⟨#[]⟩, .int .i64 0, .int .i64 0, .string ⟨#[97, 64, 98, 46, 99]⟩, .string (cutB c.text 100)]) ∧ Below w.heap.size w w' := by
  have HW := hid hw
  have HP := hid (fun u => picked_any c.kind 6 u hw.1 (by decide) (by decide))
  rw [hk] at HP
  have hp8 := pickN_lt c.uid 8 (by decide)
  have HB := hid (show ∀ a b d : Obj, Below w.heap.size w (((w.alloc a).alloc b).alloc d) from fun a b d => ((((Below.refl w.heap.size w).alloc (by simp) a).alloc (by simp) b).alloc (by simp; omega) d))
  clear hw hk
  go_enter Tryz.func24, Tryz.ntmps24
  go_wp2_with fail
  refine (HP.out _).mono ?_
  rintro e u ⟨rfl, hu⟩
  have hu' := hu.symm
  subst hu'
  clear hu
  go_wp2_with fail
  refine (cut_any c.text 100 _ HW.out.2.2.2.2.2 (by decide)).mono ?_
  rintro e u ⟨rfl, hu⟩
  have hu' := hu.symm
  subst hu'
  clear hu
  go_wp2
  refine bodyPost_ret (v := .agg #[.int .i64 6, .string ⟨#[]⟩, .int .i64 0, .int .i64 0, .string ⟨#[97, 64, 98, 46, 99]⟩, .string (cutB c.text 100)]) (by simp [results, Tryz.results24, go_sem, *]) rfl ?_
  exact ⟨rfl, HB.out _ _ _⟩
theorem entry_any (c : Chr) (w : World) (hw : chrW c) :
    Calls Tryz.prog 24 #[.agg #[.int .i64 c.kind, .int .i64 c.box, .int .i64 c.uid, .int .i64 c.flags, .int .i64 c.goal, .string c.text]] w fun e w' => e = .returned (.agg #[.int .i64 (entP c).kind, .string (S (entP c).box), .int .i64 (entP c).uid, .int .i64 (entP c).flags, .string (S (entP c).goal), .string (S (entP c).text)]) ∧ Below w.heap.size w w' := by
  have h := pickN_lt c.kind 6 (by decide)
  unfold entP
  cases hk : pickN c.kind 6 with
  | zero => exact entry_k0 c w hw hk
  | succ k =>
    rw [hk] at h
    match k, h, hk with
    | 0, _, hk => simp only [S_cutL]; exact entry_k1 c w hw hk
    | 1, _, hk => exact entry_k2 c w hw hk
    | 2, _, hk => exact entry_k3 c w hw hk
    | 3, _, hk => exact entry_k4 c w hw hk
    | 4, _, hk => simp only [S_cutL]; exact entry_k5 c w hw hk
end Go.Proofs.YtepfniiojjefhaaGreatDoor
namespace Go.Proofs.YtepfniiojjefhaaGreatDoor
open Go.RowKit Go.Proofs

/-- An act. -/
structure Acu where
  kind : Int
  conn : Int
  user : Int
  keep : Int
  data : List UInt8
  ent : Ent
def noEnt : Ent := ⟨0, [], 0, 0, [], []⟩
def acuC (x : Acu) : List Value := [.int .i64 x.kind, .int .i64 x.conn, .int .i64 x.user, .int .i64 x.keep, .string (S x.data), .int .i64 x.ent.kind, .string (S x.ent.box), .int .i64 x.ent.uid, .int .i64 x.ent.flags, .string (S x.ent.goal), .string (S x.ent.text)]
def gLine (g : Gea) : Gea := ⟨g.a, 0, g.user, g.b, 0, g.text⟩
def gChr (g : Gea) : Chr := ⟨g.a, g.b, g.b, g.a, g.conn, g.text⟩
def actK (g : Gea) : Nat → Acu
  | 0 | 1 | 2 => ⟨1, pickN g.conn 3, 0, 0, letterM g, noEnt⟩
  | 3 | 4 => ⟨1, pickN g.conn 3, 0, 0, tlineM (gLine g) ++ crL, noEnt⟩
  | 5 | 6 | 7 => ⟨2, 0, 0, 0, [], noEnt⟩
  | 8 => ⟨3, 0, 0, pickN g.a 900, [], noEnt⟩
  | 9 => ⟨4, 0, 0, 0, [], noEnt⟩
  | _ => ⟨5, 0, pickN g.user 3, 0, [], entP (gChr g)⟩
/-- An act of raw numbers. -/
def actM (g : Gea) : Acu := actK g (pickN g.kind 12)
theorem tlineM_len (g : Gea) : (tlineM g).length ≤ 60 := by
  unfold tlineM
  generalize pickN g.kind 16 = k
  unfold lineK
  have h1 := joe_size (pickN g.a 2)
  have h2 := ann_size (pickN g.user 4)
  have h3 := wf_size (pickN g.a 2)
  have h4 := valL_len g.text.data.toList
  rw [size_S] at h1 h2 h3
  split <;> (try simp only [mailL, rcptL, subjL, crL, lhloL, List.length_append, List.length_cons, List.length_nil]) <;> omega
def zAct : Array Value := #[.int .i64 0, .int .i64 0, .int .i64 0, .int .i64 0, .string ⟨#[]⟩, .int .i64 0, .string ⟨#[]⟩, .int .i64 0, .int .i64 0, .string ⟨#[]⟩, .string ⟨#[]⟩]
theorem box11 {w : World} {b : Nat} {v0 v1 v2 v3 v4 v5 v6 v7 v8 v9 v10 : Value} {t : TypeId} (h : w.heap[b]? = some (.cells #[v0, v1, v2, v3, v4, v5, v6, v7, v8, v9, v10] t)) :
    w.cell? ⟨b, 0, none⟩ = some v0 ∧ w.cell? ⟨b, 1, none⟩ = some v1 ∧ w.cell? ⟨b, 2, none⟩ = some v2 ∧ w.cell? ⟨b, 3, none⟩ = some v3 ∧ w.cell? ⟨b, 4, none⟩ = some v4 ∧ w.cell? ⟨b, 5, none⟩ = some v5 ∧ w.cell? ⟨b, 6, none⟩ = some v6 ∧ w.cell? ⟨b, 7, none⟩ = some v7 ∧ w.cell? ⟨b, 8, none⟩ = some v8 ∧ w.cell? ⟨b, 9, none⟩ = some v9 ∧ w.cell? ⟨b, 10, none⟩ = some v10 ∧ ∀ o, w.frozen? ⟨b, o, none⟩ = false := by
  refine ⟨?_, ?_, ?_, ?_, ?_, ?_, ?_, ?_, ?_, ?_, ?_, fun o => ?_⟩ <;> simp [World.cell?, World.frozen?, h]
theorem put11 {w : World} {b : Nat} {t : TypeId} (v0 v1 v2 v3 v4 v5 v6 v7 v8 v9 v10 : Value) {u0 u1 u2 u3 u4 u5 u6 u7 u8 u9 u10 : Value} (h : w.heap[b]? = some (.cells #[u0, u1, u2, u3, u4, u5, u6, u7, u8, u9, u10] t)) : (w.setCells b 0 [v0, v1, v2, v3, v4, v5, v6, v7, v8, v9, v10]).heap[b]? = some (.cells #[v0, v1, v2, v3, v4, v5, v6, v7, v8, v9, v10] t) := by
  have h := heap_setCell_same _ b 0 _ t v0 h
  have h := heap_setCell_same _ b 1 _ t v1 h
  have h := heap_setCell_same _ b 2 _ t v2 h
  have h := heap_setCell_same _ b 3 _ t v3 h
  have h := heap_setCell_same _ b 4 _ t v4 h
  have h := heap_setCell_same _ b 5 _ t v5 h
  have h := heap_setCell_same _ b 6 _ t v6 h
  have h := heap_setCell_same _ b 7 _ t v7 h
  have h := heap_setCell_same _ b 8 _ t v8 h
  have h := heap_setCell_same _ b 9 _ t v9 h
  have h := heap_setCell_same _ b 10 _ t v10 h
  simp only [World.setCells, Nat.reduceAdd]
  simpa using h
theorem bel11 {B b : Nat} {w w2 : World} {vs : List Value} {o : Nat} (hb : B ≤ b) (h : Below B w w2) : Below B w (w2.setCells b o vs) := by
  induction vs generalizing w2 o with
  | nil => exact h
  | cons v vs ih => exact ih (h.setCell hb v)
/-- An act in a box. -/
def AcB (w : World) (b : Nat) (x : Acu) (wx : World) : Prop := wx.heap[b]? = some (.cells (acuC x).toArray 46) ∧ Below w.heap.size w wx
theorem there11 {w : World} {b : Nat} {v0 v1 v2 v3 v4 v5 v6 v7 v8 v9 v10 : Value} {t : TypeId} (h : w.heap[b]? = some (.cells #[v0, v1, v2, v3, v4, v5, v6, v7, v8, v9, v10] t)) : w.there b 0 11 := fun j hj => by
  rw [Nat.zero_add]
  simp only [World.cell?, World.frozen?, h]
  exact ⟨by simpa using hj, by simp⟩
theorem acb_stay {w : World} {a b o : Nat} {v : Value} {vs : List Value} (h : w.cell? ⟨a, o, none⟩ = some v) (hne : a ≠ b) : (w.setCells b 0 vs).cell? ⟨a, o, none⟩ = some v := (World.cell?_setCells_out b vs 0 w _ (fun e _ => absurd e hne)).trans h
theorem cr_S (l : List UInt8) : S l ++ ⟨#[13, 10]⟩ = S (l ++ crL) := S_app l crL
set_option linter.unusedSimpArgs false in
set_option maxHeartbeats 3000000 in
set_option maxRecDepth 100000 in
theorem act_any (g : Gea) (w : World) (hw : geaW g) :
    Calls Tryz.prog 13 #[geaV g] w fun e w' => e = .returned (.agg (acuC (actM g)).toArray) ∧ Below w.heap.size w w' := by
  have HW := hid hw
  have h3 := pickN_lt g.conn 3 (by decide)
  have h12 := pickN_lt g.kind 12 (by decide)
  have HPC := hid (fun u => Picked_any g.conn 3 u HW.out.2.1 (by decide) (by decide))
  have HPK := hid (fun u => Picked_any g.kind 12 u HW.out.1 (by decide) (by decide))
  have HP9 := hid (fun u => Picked_any g.a 900 u HW.out.2.2.2.1 (by decide) (by decide))
  have HM := hid (show actM g = actK g (pickN g.kind 12) from rfl)
  have HE1 := hid (show ∀ k, k = 0 ∨ k = 1 ∨ k = 2 → actK g k = ⟨1, pickN g.conn 3, 0, 0, letterM g, noEnt⟩ by rintro k (rfl | rfl | rfl) <;> rfl)
  have HE2 := hid (show ∀ k, k = 3 ∨ k = 4 → actK g k = ⟨1, pickN g.conn 3, 0, 0, tlineM (gLine g) ++ crL, noEnt⟩ by rintro k (rfl | rfl) <;> rfl)
  have HE3 := hid (show ∀ k, k = 5 ∨ k = 6 ∨ k = 7 → actK g k = ⟨2, 0, 0, 0, [], noEnt⟩ by rintro k (rfl | rfl | rfl) <;> rfl)
  have HE4 := hid (show actK g 8 = ⟨3, 0, 0, pickN g.a 900, [], noEnt⟩ from rfl)
  have HE5 := hid (show actK g 9 = ⟨4, 0, 0, 0, [], noEnt⟩ from rfl)
  have HE6 := hid (show ∀ k, k = 10 ∨ k = 11 → actK g k = ⟨5, 0, pickN g.user 3, 0, [], entP (gChr g)⟩ by rintro k (rfl | rfl) <;> rfl)
  clear hw
  generalize pickN g.conn 3 = i at *
  generalize pickN g.kind 12 = k at *
  unfold geaV
  go_enter Tryz.func13, Tryz.ntmps13
  go_wp2_with fail
  refine (HPC.out _).mono ?_
  rintro e u ⟨rfl, hu⟩
  have hu' := hu.symm
  subst hu'
  clear hu
  go_wp2_with fail
  refine (HPK.out _).mono ?_
  rintro e u ⟨rfl, hu⟩
  have hu' := hu.symm
  subst hu'
  clear hu
  obtain ⟨W1, hW1⟩ : ∃ W1, W1 = (w.alloc (.cells #[.int .i64 g.kind, .int .i64 g.conn, .int .i64 g.user, .int .i64 g.a, .int .i64 g.b, .string g.text] 51)).alloc (.cells zAct 46) := ⟨_, rfl⟩
  rw [show (w.alloc (.cells #[.int .i64 g.kind, .int .i64 g.conn, .int .i64 g.user, .int .i64 g.a, .int .i64 g.b, .string g.text] 51)).alloc (.cells #[.int .i64 0, .int .i64 0, .int .i64 0, .int .i64 0, .string ⟨#[]⟩, .int .i64 0, .string ⟨#[]⟩, .int .i64 0, .int .i64 0, .string ⟨#[]⟩, .string ⟨#[]⟩] 46) = W1 from hW1.symm]
  have hg : W1.heap[w.heap.size]? = some (.cells #[.int .i64 g.kind, .int .i64 g.conn, .int .i64 g.user, .int .i64 g.a, .int .i64 g.b, .string g.text] 51) := by
    rw [hW1]
    exact (((Below.refl _ _).alloc (Nat.le_refl _) _).block w.heap.size (by simp)).trans (heap_alloc_new w _)
  have hz : W1.heap[w.heap.size + 1]? = some (.cells zAct 46) := by
    rw [hW1]
    have := heap_alloc_new (w.alloc (.cells #[.int .i64 g.kind, .int .i64 g.conn, .int .i64 g.user, .int .i64 g.a, .int .i64 g.b, .string g.text] 51)) (.cells zAct 46)
    simpa using this
  have hB1 : Below w.heap.size w W1 := by rw [hW1]; exact ((Below.refl _ _).alloc (Nat.le_refl _) _).alloc (by simp) _
  have HB1 := hid hB1
  have HZ1 := hid hz
  have g0 : W1.cell? ⟨w.heap.size, 0, none⟩ = some (.int .i64 g.kind) := by simp [World.cell?, hg]
  have g1 : W1.cell? ⟨w.heap.size, 1, none⟩ = some (.int .i64 g.conn) := by simp [World.cell?, hg]
  have g2 : W1.cell? ⟨w.heap.size, 2, none⟩ = some (.int .i64 g.user) := by simp [World.cell?, hg]
  have g3 : W1.cell? ⟨w.heap.size, 3, none⟩ = some (.int .i64 g.a) := by simp [World.cell?, hg]
  have g4 : W1.cell? ⟨w.heap.size, 4, none⟩ = some (.int .i64 g.b) := by simp [World.cell?, hg]
  have g5 : W1.cell? ⟨w.heap.size, 5, none⟩ = some (.string g.text) := by simp [World.cell?, hg]
  clear hW1 hg hz hB1 HPC HPK
  obtain rfl | rfl | rfl | rfl | rfl | rfl | rfl | rfl | rfl | rfl | rfl | rfl : k = 0 ∨ k = 1 ∨ k = 2 ∨ k = 3 ∨ k = 4 ∨ k = 5 ∨ k = 6 ∨ k = 7 ∨ k = 8 ∨ k = 9 ∨ k = 10 ∨ k = 11 := by omega
  iterate 3
    · go_wp2_with fail
      rw [show Value.agg #[.int .i64 g.kind, .int .i64 g.conn, .int .i64 g.user, .int .i64 g.a, .int .i64 g.b, .string g.text] = geaV g from rfl]
      refine (letter_any g W1 HW.out).mono ?_
      rintro e w2 ⟨rfl, hb2⟩
      have hz2 := (hb2.block _ (Array.getElem?_eq_some_iff.1 HZ1.out).1).trans HZ1.out
      have HZ2 := hid hz2
      have HB2 := hid (HB1.out.trans (hb2.mono HB1.out.size))
      obtain ⟨z0, z1, z2, z3, z4, z5, z6, z7, z8, z9, z10, zf⟩ := box11 hz2
      clear hz2 hb2
      go_wp2
      have hput := put11 (w := w2) (b := w.heap.size + 1) (.int .i64 1) (.int .i64 i) (.int .i64 0) (.int .i64 0) (.string (S (letterM g))) (.int .i64 0) (.string ⟨#[]⟩) (.int .i64 0) (.int .i64 0) (.string ⟨#[]⟩) (.string ⟨#[]⟩) HZ2.out
      simp only [World.setCells, Nat.reduceAdd] at hput
      obtain ⟨m0, m1, m2, m3, m4, m5, m6, m7, m8, m9, m10, _⟩ := box11 hput
      refine bodyPost_ret (v := .agg #[.int .i64 1, .int .i64 i, .int .i64 0, .int .i64 0, .string (S (letterM g)), .int .i64 0, .string ⟨#[]⟩, .int .i64 0, .int .i64 0, .string ⟨#[]⟩, .string ⟨#[]⟩]) (by simp only [results, Tryz.results13]; simp [go_sem, m0, m1, m2, m3, m4, m5, m6, m7, m8, m9, m10]) rfl ?_
      refine ⟨by rw [HM.out, HE1.out _ (by decide)]; rfl, ?_⟩
      have hbel := bel11 (b := w.heap.size + 1) (o := 0) (vs := [.int .i64 1, .int .i64 i, .int .i64 0, .int .i64 0, .string (S (letterM g)), .int .i64 0, .string ⟨#[]⟩, .int .i64 0, .int .i64 0, .string ⟨#[]⟩, .string ⟨#[]⟩]) (by omega) HB2.out
      simp only [World.setCells, Nat.reduceAdd] at hbel
      exact hbel
  iterate 2
    · have hll := tlineM_len (gLine g)
      have hls : (S (tlineM (gLine g))).size ≤ 60 := by rw [size_S]; exact hll
      go_wp2_with fail
      rw [show Value.agg #[.int .i64 g.a, .int .i64 0, .int .i64 g.user, .int .i64 g.b, .int .i64 0, .string g.text] = geaV (gLine g) from rfl]
      refine (line_any' (gLine g) W1 ⟨HW.out.2.2.2.1, by rfl, HW.out.2.2.1, HW.out.2.2.2.2.1, by rfl, HW.out.2.2.2.2.2⟩).mono ?_
      rintro e w2 ⟨rfl, hb2⟩
      have hz2 := (hb2.block _ (Array.getElem?_eq_some_iff.1 HZ1.out).1).trans HZ1.out
      have HZ2 := hid hz2
      have HB2 := hid (HB1.out.trans (hb2.mono HB1.out.size))
      obtain ⟨z0, z1, z2, z3, z4, z5, z6, z7, z8, z9, z10, zf⟩ := box11 hz2
      clear hz2 hb2
      go_wp2
      have hput := put11 (w := w2) (b := w.heap.size + 1) (.int .i64 1) (.int .i64 i) (.int .i64 0) (.int .i64 0) (.string (S (tlineM (gLine g)) ++ ⟨#[13, 10]⟩)) (.int .i64 0) (.string ⟨#[]⟩) (.int .i64 0) (.int .i64 0) (.string ⟨#[]⟩) (.string ⟨#[]⟩) HZ2.out
      simp only [World.setCells, Nat.reduceAdd] at hput
      obtain ⟨m0, m1, m2, m3, m4, m5, m6, m7, m8, m9, m10, _⟩ := box11 hput
      refine bodyPost_ret (v := .agg #[.int .i64 1, .int .i64 i, .int .i64 0, .int .i64 0, .string (S (tlineM (gLine g)) ++ ⟨#[13, 10]⟩), .int .i64 0, .string ⟨#[]⟩, .int .i64 0, .int .i64 0, .string ⟨#[]⟩, .string ⟨#[]⟩]) (by simp only [results, Tryz.results13]; simp [go_sem, m0, m1, m2, m3, m4, m5, m6, m7, m8, m9, m10]) rfl ?_
      refine ⟨by rw [HM.out, HE2.out _ (by decide)]; rw [cr_S]; rfl, ?_⟩
      have hbel := bel11 (b := w.heap.size + 1) (o := 0) (vs := [.int .i64 1, .int .i64 i, .int .i64 0, .int .i64 0, .string (S (tlineM (gLine g)) ++ ⟨#[13, 10]⟩), .int .i64 0, .string ⟨#[]⟩, .int .i64 0, .int .i64 0, .string ⟨#[]⟩, .string ⟨#[]⟩]) (by omega) HB2.out
      simp only [World.setCells, Nat.reduceAdd] at hbel
      exact hbel
  iterate 3
    · have HZ2 := HZ1
      have HB2 := HB1
      obtain ⟨z0, z1, z2, z3, z4, z5, z6, z7, z8, z9, z10, zf⟩ := box11 HZ1.out
      go_wp2
      have hput := put11 (w := W1) (b := w.heap.size + 1) (.int .i64 2) (.int .i64 0) (.int .i64 0) (.int .i64 0) (.string ⟨#[]⟩) (.int .i64 0) (.string ⟨#[]⟩) (.int .i64 0) (.int .i64 0) (.string ⟨#[]⟩) (.string ⟨#[]⟩) HZ2.out
      simp only [World.setCells, Nat.reduceAdd] at hput
      obtain ⟨m0, m1, m2, m3, m4, m5, m6, m7, m8, m9, m10, _⟩ := box11 hput
      refine bodyPost_ret (v := .agg #[.int .i64 2, .int .i64 0, .int .i64 0, .int .i64 0, .string ⟨#[]⟩, .int .i64 0, .string ⟨#[]⟩, .int .i64 0, .int .i64 0, .string ⟨#[]⟩, .string ⟨#[]⟩]) (by simp only [results, Tryz.results13]; simp [go_sem, m0, m1, m2, m3, m4, m5, m6, m7, m8, m9, m10]) rfl ?_
      refine ⟨by rw [HM.out, HE3.out _ (by decide)]; rfl, ?_⟩
      have hbel := bel11 (b := w.heap.size + 1) (o := 0) (vs := [.int .i64 2, .int .i64 0, .int .i64 0, .int .i64 0, .string ⟨#[]⟩, .int .i64 0, .string ⟨#[]⟩, .int .i64 0, .int .i64 0, .string ⟨#[]⟩, .string ⟨#[]⟩]) (by omega) HB2.out
      simp only [World.setCells, Nat.reduceAdd] at hbel
      exact hbel
  · have HZ2 := HZ1
    have HB2 := HB1
    go_wp2_with fail
    refine (HP9.out _).mono ?_
    rintro e u ⟨rfl, hu⟩
    have hu' := hu.symm
    subst hu'
    clear hu
    obtain ⟨z0, z1, z2, z3, z4, z5, z6, z7, z8, z9, z10, zf⟩ := box11 HZ1.out
    go_wp2
    have hput := put11 (w := W1) (b := w.heap.size + 1) (.int .i64 3) (.int .i64 0) (.int .i64 0) (.int .i64 (pickN g.a 900)) (.string ⟨#[]⟩) (.int .i64 0) (.string ⟨#[]⟩) (.int .i64 0) (.int .i64 0) (.string ⟨#[]⟩) (.string ⟨#[]⟩) HZ2.out
    simp only [World.setCells, Nat.reduceAdd] at hput
    obtain ⟨m0, m1, m2, m3, m4, m5, m6, m7, m8, m9, m10, _⟩ := box11 hput
    refine bodyPost_ret (v := .agg #[.int .i64 3, .int .i64 0, .int .i64 0, .int .i64 (pickN g.a 900), .string ⟨#[]⟩, .int .i64 0, .string ⟨#[]⟩, .int .i64 0, .int .i64 0, .string ⟨#[]⟩, .string ⟨#[]⟩]) (by simp only [results, Tryz.results13]; simp [go_sem, m0, m1, m2, m3, m4, m5, m6, m7, m8, m9, m10]) rfl ?_
    refine ⟨by rw [HM.out, HE4.out]; rfl, ?_⟩
    have hbel := bel11 (b := w.heap.size + 1) (o := 0) (vs := [.int .i64 3, .int .i64 0, .int .i64 0, .int .i64 (pickN g.a 900), .string ⟨#[]⟩, .int .i64 0, .string ⟨#[]⟩, .int .i64 0, .int .i64 0, .string ⟨#[]⟩, .string ⟨#[]⟩]) (by omega) HB2.out
    simp only [World.setCells, Nat.reduceAdd] at hbel
    exact hbel
  · have HZ2 := HZ1
    have HB2 := HB1
    obtain ⟨z0, z1, z2, z3, z4, z5, z6, z7, z8, z9, z10, zf⟩ := box11 HZ1.out
    go_wp2
    have hput := put11 (w := W1) (b := w.heap.size + 1) (.int .i64 4) (.int .i64 0) (.int .i64 0) (.int .i64 0) (.string ⟨#[]⟩) (.int .i64 0) (.string ⟨#[]⟩) (.int .i64 0) (.int .i64 0) (.string ⟨#[]⟩) (.string ⟨#[]⟩) HZ2.out
    simp only [World.setCells, Nat.reduceAdd] at hput
    obtain ⟨m0, m1, m2, m3, m4, m5, m6, m7, m8, m9, m10, _⟩ := box11 hput
    refine bodyPost_ret (v := .agg #[.int .i64 4, .int .i64 0, .int .i64 0, .int .i64 0, .string ⟨#[]⟩, .int .i64 0, .string ⟨#[]⟩, .int .i64 0, .int .i64 0, .string ⟨#[]⟩, .string ⟨#[]⟩]) (by simp only [results, Tryz.results13]; simp [go_sem, m0, m1, m2, m3, m4, m5, m6, m7, m8, m9, m10]) rfl ?_
    refine ⟨by rw [HM.out, HE5.out]; rfl, ?_⟩
    have hbel := bel11 (b := w.heap.size + 1) (o := 0) (vs := [.int .i64 4, .int .i64 0, .int .i64 0, .int .i64 0, .string ⟨#[]⟩, .int .i64 0, .string ⟨#[]⟩, .int .i64 0, .int .i64 0, .string ⟨#[]⟩, .string ⟨#[]⟩]) (by omega) HB2.out
    simp only [World.setCells, Nat.reduceAdd] at hbel
    exact hbel
  iterate 2
    · have HP3 := hid (fun u => Picked_any g.user 3 u HW.out.2.2.1 (by decide) (by decide))
      have HEN := hid (fun u => entry_any (gChr g) u ⟨HW.out.2.2.2.1, HW.out.2.2.2.2.1, HW.out.2.2.2.2.1, HW.out.2.2.2.1, HW.out.2.1, HW.out.2.2.2.2.2⟩)
      have HC := hid (show ∀ v, Below W1.heap.size W1 v → v.cell? ⟨w.heap.size, 0, none⟩ = some (.int .i64 g.kind) ∧ v.cell? ⟨w.heap.size, 1, none⟩ = some (.int .i64 g.conn) ∧ v.cell? ⟨w.heap.size, 2, none⟩ = some (.int .i64 g.user) ∧ v.cell? ⟨w.heap.size, 3, none⟩ = some (.int .i64 g.a) ∧ v.cell? ⟨w.heap.size, 4, none⟩ = some (.int .i64 g.b) ∧ v.cell? ⟨w.heap.size, 5, none⟩ = some (.string g.text) from fun v hv => ⟨wcell_next g0 hv, wcell_next g1 hv, wcell_next g2 hv, wcell_next g3 hv, wcell_next g4 hv, wcell_next g5 hv⟩)
      have hnb : w.heap.size ≠ w.heap.size + 1 := by omega
      go_upto_region 18 with fail
      go_cut [] (fun wx => AcB w (w.heap.size + 1) (actM g) wx)
      case first =>
        refine wp_region_held_drew (S := fun u => u.cell? ⟨w.heap.size, 0, none⟩ = some (.int .i64 g.kind) ∧ u.cell? ⟨w.heap.size, 1, none⟩ = some (.int .i64 g.conn) ∧ u.cell? ⟨w.heap.size, 2, none⟩ = some (.int .i64 g.user) ∧ u.cell? ⟨w.heap.size, 3, none⟩ = some (.int .i64 g.a) ∧ u.cell? ⟨w.heap.size, 4, none⟩ = some (.int .i64 g.b) ∧ u.cell? ⟨w.heap.size, 5, none⟩ = some (.string g.text)) (by kernel_rfl) ?_ (fun hHeld => ?_)
        · exact HC.out _ ((Below.refl _ _).drew)
        refine wpAnyH_take (i := 0) (v := ?v1) rfl (by kernel_rfl) (by kernel_rfl) (by kernel_rfl) (fun _ _ _ h => h) (Or.inl ⟨by rfl, ?hy1⟩) (by assumption) ?_
        case hy1 =>
          intro w hSw
          (try dsimp only at hSw)
          go_simp
          all_goals with_reducible rfl
        change wpAnyH _ _ _ _ _ _ _ (Act.put _ (some 48) _) _
        try simp only [Act.put, List.setIfInBounds_toArray, List.set_cons_zero, List.set_cons_succ]
        refine wpAnyH_take (i := 1) (v := ?v2) rfl (by kernel_rfl) (by kernel_rfl) (by kernel_rfl) (fun _ _ _ h => h) (Or.inl ⟨by rfl, ?hy2⟩) (by assumption) ?_
        case hy2 =>
          intro w hSw
          (try dsimp only at hSw)
          go_simp
          all_goals with_reducible rfl
        change wpAnyH _ _ _ _ _ _ _ (Act.put _ (some 49) _) _
        try simp only [Act.put, List.setIfInBounds_toArray, List.set_cons_zero, List.set_cons_succ]
        refine wpAnyH_take (i := 3) (v := ?v3) rfl (by kernel_rfl) (by kernel_rfl) (by kernel_rfl) (fun _ _ _ h => h) (Or.inl ⟨by rfl, ?hy3⟩) (by assumption) ?_
        case hy3 =>
          intro w hSw
          (try dsimp only at hSw)
          go_simp
          all_goals with_reducible rfl
        change wpAnyH _ _ _ _ _ _ _ (Act.put _ (some 51) _) _
        try simp only [Act.put, List.setIfInBounds_toArray, List.set_cons_zero, List.set_cons_succ]
        refine wpAnyH_take (i := 4) (v := ?v4) rfl (by kernel_rfl) (by kernel_rfl) (by kernel_rfl) (fun _ _ _ h => h) (Or.inl ⟨by rfl, ?hy4⟩) (by assumption) ?_
        case hy4 =>
          intro w hSw
          (try dsimp only at hSw)
          go_simp
          all_goals with_reducible rfl
        change wpAnyH _ _ _ _ _ _ _ (Act.put _ (some 52) _) _
        try simp only [Act.put, List.setIfInBounds_toArray, List.set_cons_zero, List.set_cons_succ]
        refine wpAnyH_take (i := 5) (v := ?v5) rfl (by kernel_rfl) (by kernel_rfl) (by kernel_rfl) (fun _ _ _ h => h) (Or.inl ⟨by rfl, ?hy5⟩) (by assumption) ?_
        case hy5 =>
          intro w hSw
          (try dsimp only at hSw)
          go_simp
          all_goals with_reducible rfl
        change wpAnyH _ _ _ _ _ _ _ (Act.put _ (some 53) _) _
        try simp only [Act.put, List.setIfInBounds_toArray, List.set_cons_zero, List.set_cons_succ]
        refine wpAnyH_take (i := 6) (v := ?v6) rfl (by kernel_rfl) (by kernel_rfl) (by kernel_rfl) (fun _ _ _ h => h) (Or.inl ⟨by rfl, ?hy6⟩) (by assumption) ?_
        case hy6 =>
          intro w hSw
          (try dsimp only at hSw)
          go_simp
          all_goals with_reducible rfl
        change wpAnyH _ _ _ _ _ _ _ (Act.put _ (some 54) _) _
        try simp only [Act.put, List.setIfInBounds_toArray, List.set_cons_zero, List.set_cons_succ]
        refine wpAnyH_take (i := 7) (v := ?v7) rfl (by kernel_rfl) (by kernel_rfl) (by kernel_rfl) (fun _ _ _ h => h) (Or.inl ⟨by rfl, ?hy7⟩) (by assumption) ?_
        case hy7 =>
          intro w hSw
          (try dsimp only at hSw)
          go_simp
          all_goals with_reducible rfl
        change wpAnyH _ _ _ _ _ _ _ (Act.put _ (some 55) _) _
        try simp only [Act.put, List.setIfInBounds_toArray, List.set_cons_zero, List.set_cons_succ]
        refine wpAnyH_take (i := 8) (v := ?v8) rfl (by kernel_rfl) (by kernel_rfl) (by kernel_rfl) (fun _ _ _ h => h) (Or.inl ⟨by rfl, ?hy8⟩) (by assumption) ?_
        case hy8 =>
          intro w hSw
          (try dsimp only at hSw)
          go_simp
          all_goals with_reducible rfl
        change wpAnyH _ _ _ _ _ _ _ (Act.put _ (some 56) _) _
        try simp only [Act.put, List.setIfInBounds_toArray, List.set_cons_zero, List.set_cons_succ]
        refine wpAnyH_take (i := 9) (v := ?v9) rfl (by kernel_rfl) (by kernel_rfl) (by kernel_rfl) (fun _ _ _ h => h) (Or.inl ⟨by rfl, ?hy9⟩) (by assumption) ?_
        case hy9 =>
          intro w hSw
          (try dsimp only at hSw)
          go_simp
          all_goals with_reducible rfl
        change wpAnyH _ _ _ _ _ _ _ (Act.put _ (some 57) _) _
        try simp only [Act.put, List.setIfInBounds_toArray, List.set_cons_zero, List.set_cons_succ]
        refine wpAnyH_take (i := 10) (v := ?v10) rfl (by kernel_rfl) (by kernel_rfl) (by kernel_rfl) (fun _ _ _ h => h) (Or.inl ⟨by rfl, ?hy10⟩) (by assumption) ?_
        case hy10 =>
          intro w hSw
          (try dsimp only at hSw)
          go_simp
          all_goals with_reducible rfl
        change wpAnyH _ _ _ _ _ _ _ (Act.put _ (some 58) _) _
        try simp only [Act.put, List.setIfInBounds_toArray, List.set_cons_zero, List.set_cons_succ]
        refine wpAnyH_take (i := 11) (v := ?v11) rfl (by kernel_rfl) (by kernel_rfl) (by kernel_rfl) (fun _ _ _ h => h) (Or.inl ⟨by rfl, ?hy11⟩) (by assumption) ?_
        case hy11 =>
          intro w hSw
          (try dsimp only at hSw)
          go_simp
          all_goals with_reducible rfl
        change wpAnyH _ _ _ _ _ _ _ (Act.put _ (some 59) _) _
        try simp only [Act.put, List.setIfInBounds_toArray, List.set_cons_zero, List.set_cons_succ]
        refine wpAnyH_take (i := 12) (v := ?v12) rfl (by kernel_rfl) (by kernel_rfl) (by kernel_rfl) (fun _ _ _ h => h) (Or.inl ⟨by rfl, ?hy12⟩) (by assumption) ?_
        case hy12 =>
          intro w hSw
          (try dsimp only at hSw)
          go_simp
          all_goals with_reducible rfl
        change wpAnyH _ _ _ _ _ _ _ (Act.put _ (some 60) _) _
        try simp only [Act.put, List.setIfInBounds_toArray, List.set_cons_zero, List.set_cons_succ]
        refine wpAnyH_take (i := 13) (v := ?v13) rfl (by kernel_rfl) (by kernel_rfl) (by kernel_rfl) (fun _ _ _ h => h) (Or.inl ⟨by rfl, ?hy13⟩) (by assumption) ?_
        case hy13 =>
          intro w hSw
          (try dsimp only at hSw)
          go_simp
          all_goals with_reducible rfl
        change wpAnyH _ _ _ _ _ _ _ (Act.put _ (some 61) _) _
        try simp only [Act.put, List.setIfInBounds_toArray, List.set_cons_zero, List.set_cons_succ]
        refine wpAnyH_take (i := 14) (v := ?v14) rfl (by kernel_rfl) (by kernel_rfl) (by kernel_rfl) (fun _ _ _ h => h) (Or.inl ⟨by rfl, ?hy14⟩) (by assumption) ?_
        case hy14 =>
          intro w hSw
          (try dsimp only at hSw)
          go_simp
          all_goals with_reducible rfl
        change wpAnyH _ _ _ _ _ _ _ (Act.put _ (some 62) _) _
        try simp only [Act.put, List.setIfInBounds_toArray, List.set_cons_zero, List.set_cons_succ]
        refine wpAnyH_take (i := 15) (v := ?v15) rfl (by kernel_rfl) (by kernel_rfl) (by kernel_rfl) (fun _ _ _ h => h) (Or.inl ⟨by rfl, ?hy15⟩) (by assumption) ?_
        case hy15 =>
          intro w hSw
          (try dsimp only at hSw)
          go_simp
          all_goals with_reducible rfl
        change wpAnyH _ _ _ _ _ _ _ (Act.put _ (some 63) _) _
        try simp only [Act.put, List.setIfInBounds_toArray, List.set_cons_zero, List.set_cons_succ]
        refine wpAnyH_ready (rs := [2]) (by kernel_rfl) (by simp) ?_
        refine AllReadyH.cons rfl (fun K hK => ?_) AllReadyH.nil
        go_simp
        refine (HP3.out _).mono ?_
        rintro e u ⟨rfl, hu⟩
        subst hu
        go_wp2_with fail
        refine hK.out _ _ ?_ (fun hHeld => ?_)
        · exact HC.out _ ((Below.refl _ _).drew)
        clear hK K
        try simp only [Act.put, List.setIfInBounds_toArray, List.set_cons_zero, List.set_cons_succ]
        refine wpAnyH_ready (rs := [16]) (by kernel_rfl) (by simp) ?_
        refine AllReadyH.cons rfl (fun K hK => ?_) AllReadyH.nil
        go_simp
        refine (HEN.out _).mono ?_
        rintro e w2 ⟨rfl, hb2⟩
        have HBC := hid (show Below W1.heap.size W1 w2 from ((Below.refl _ W1).drew).trans hb2)
        clear hb2
        go_wp2_with fail
        refine hK.out _ _ ?_ (fun hHeld => ?_)
        · exact HC.out _ HBC.out
        clear hK K
        try simp only [Act.put, List.setIfInBounds_toArray, List.set_cons_zero, List.set_cons_succ]
        refine wpAnyH_take (i := 17) (v := ?v16) rfl (by kernel_rfl) (by kernel_rfl) (by kernel_rfl) (fun _ _ _ h => h) (Or.inl ⟨by rfl, ?hy16⟩) (by assumption) ?_
        case hy16 =>
          intro w hSw
          (try dsimp only at hSw)
          go_simp
          all_goals with_reducible rfl
        change wpAnyH _ _ _ _ _ _ _ (Act.put _ (some 65) _) _
        try simp only [Act.put, List.setIfInBounds_toArray, List.set_cons_zero, List.set_cons_succ]
        refine wpAnyH_ready (rs := [18]) (by kernel_rfl) (by simp) ?_
        refine AllReadyH.cons rfl (fun K hK => ?_) AllReadyH.nil
        have HZ2 := hid ((HBC.out.block _ (Array.getElem?_eq_some_iff.1 HZ1.out).1).trans HZ1.out)
        have HB2 := hid (HB1.out.trans (HBC.out.mono HB1.out.size))
        have HEE := hid (show AcB w (w.heap.size + 1) (actM g) (w2.setCells (w.heap.size + 1) 0 [.int .i64 5, .int .i64 0, .int .i64 (pickN g.user 3), .int .i64 0, .string ⟨#[]⟩, .int .i64 (entP (gChr g)).kind, .string (S (entP (gChr g)).box), .int .i64 (entP (gChr g)).uid, .int .i64 (entP (gChr g)).flags, .string (S (entP (gChr g)).goal), .string (S (entP (gChr g)).text)]) from ⟨by rw [HM.out, HE6.out _ (by decide)]; exact put11 (w := w2) (.int .i64 5) (.int .i64 0) (.int .i64 (pickN g.user 3)) (.int .i64 0) (.string ⟨#[]⟩) (.int .i64 (entP (gChr g)).kind) (.string (S (entP (gChr g)).box)) (.int .i64 (entP (gChr g)).uid) (.int .i64 (entP (gChr g)).flags) (.string (S (entP (gChr g)).goal)) (.string (S (entP (gChr g)).text)) HZ2.out, bel11 (b := w.heap.size + 1) (by omega) HB2.out⟩)
        rw [if_pos (by rfl)]
        refine wp_store_mid _ _ _ rfl (w.heap.size + 1) 0 #[.int .i64 5, .int .i64 0, .int .i64 (pickN g.user 3), .int .i64 0, .string ⟨#[]⟩, .int .i64 (entP (gChr g)).kind, .string (S (entP (gChr g)).box), .int .i64 (entP (gChr g)).uid, .int .i64 (entP (gChr g)).flags, .string (S (entP (gChr g)).goal), .string (S (entP (gChr g)).text)] rfl rfl (there11 HZ2.out) (by kernel_rfl) (by simp [Value.oneCell']) ?_
        try simp only [Act.put]
        refine hK.out _ _ ?_ (fun hHeld => ?_)
        · exact ⟨acb_stay hHeld.1 hnb, acb_stay hHeld.2.1 hnb, acb_stay hHeld.2.2.1 hnb, acb_stay hHeld.2.2.2.1 hnb, acb_stay hHeld.2.2.2.2.1 hnb, acb_stay hHeld.2.2.2.2.2 hnb⟩
        clear hK K
        try simp only [Act.put]
        refine wpAnyH_done (by kernel_rfl) ?_ _
        have HE := HEE
        go_wp2_with fail
        go_meet
        exact HE.out
      case rest =>
        obtain ⟨hbx, hBx⟩ := hcut
        have HBX := hid hBx
        obtain ⟨x, hx⟩ : ∃ x, x = actM g := ⟨_, rfl⟩
        have HX := hid hx
        rw [← hx] at hbx
        obtain ⟨m0, m1, m2, m3, m4, m5, m6, m7, m8, m9, m10, _⟩ := box11 hbx
        clear hbx hx hBx
        go_wp2
        refine bodyPost_ret (v := .agg #[.int .i64 x.kind, .int .i64 x.conn, .int .i64 x.user, .int .i64 x.keep, .string (S x.data), .int .i64 x.ent.kind, .string (S x.ent.box), .int .i64 x.ent.uid, .int .i64 x.ent.flags, .string (S x.ent.goal), .string (S x.ent.text)]) (by simp only [results, Tryz.results13]; simp [go_sem, m0, m1, m2, m3, m4, m5, m6, m7, m8, m9, m10]) rfl ?_
        exact ⟨by rw [← HX.out]; rfl, HBX.out⟩
end Go.Proofs.YtepfniiojjefhaaGreatDoor
namespace Go.Proofs.YtepfniiojjefhaaGreatDoor
open Go.RowKit Go.Proofs

def geaC (g : Gea) : List Value := [.int .i64 g.kind, .int .i64 g.conn, .int .i64 g.user, .int .i64 g.a, .int .i64 g.b, .string g.text]
def GeaM (g : Gea) (cs : List Value) : Prop := cs = geaC g
def GesM (Q : Nat → Prop) (w : World) (v : Value) (l : List Gea) : Prop := RowM Q 6 GeaM w v l
theorem GesM.next {Q : Nat → Prop} {w w' : World} {v : Value} {l : List Gea} (h : GesM Q w v l) (hb : Below w.heap.size w w') : GesM Q w' v l := RowM.imp h (fun _ h => h) (Keeps.of_below hb) fun _ _ h => h
theorem GesM.at {Q : Nat → Prop} {w : World} {a : Option Addr} {n c : Nat} {l : List Gea} (h : GesM Q w (.slice a n c) l) {i : Nat} {x : Gea} (hx : l[i]? = some x) : ∃ b o, a = some ⟨b, o, none⟩ ∧ w.cell? ⟨b, o + i * 6, none⟩ = some (.int .i64 x.kind) ∧ w.cell? ⟨b, o + i * 6 + 1, none⟩ = some (.int .i64 x.conn) ∧ w.cell? ⟨b, o + i * 6 + 2, none⟩ = some (.int .i64 x.user) ∧ w.cell? ⟨b, o + i * 6 + 3, none⟩ = some (.int .i64 x.a) ∧ w.cell? ⟨b, o + i * 6 + 4, none⟩ = some (.int .i64 x.b) ∧ w.cell? ⟨b, o + i * 6 + 5, none⟩ = some (.string x.text) := by
  obtain ⟨a', c', hv, _, hr⟩ := h
  simp only [Value.slice.injEq] at hv
  obtain ⟨b, o, cs, ha, _, _, _, hc, hP⟩ := hr i x hx
  have hcs : cs = geaC x := hP
  subst hcs
  exact ⟨b, o, by rw [hv.1, ha], hc 0 _ rfl, hc 1 _ rfl, hc 2 _ rfl, hc 3 _ rfl, hc 4 _ rfl, hc 5 _ rfl⟩
def ActM (x : Acu) (cs : List Value) : Prop := cs = acuC x
def AcsM (Q : Nat → Prop) (w : World) (v : Value) (l : List Acu) : Prop := RowM Q 11 ActM w v l
/-- What acts hands back. -/
def AsP (w : World) (l : List Acu) (e : Ending) (w' : World) : Prop := ∃ a c, e = .returned (.slice a l.length c) ∧ AcsM (fun k => w.heap.size ≤ k) w' (.slice a l.length c) l ∧ Below w.heap.size w w' ∧ l.length ≤ c
def actsK (l : List Gea) (k : Nat) : List Acu := (l.take k).map actM
theorem acts_step {l : List Gea} {k : Nat} {c : Gea} (h : l[k]? = some c) : actsK l (k + 1) = actsK l k ++ [actM c] := by
  unfold actsK
  have hk : k < l.length := (List.getElem?_eq_some_iff.1 h).1
  rw [List.take_succ_eq_append_getElem hk, (List.getElem?_eq_some_iff.1 h).2, List.map_append]
  rfl
theorem infoAc : (Tryz.prog.info? 46).map (fun i => (i.zero, i.size, i.bytes)) = some (some (.agg #[.int .i64 0, .int .i64 0, .int .i64 0, .int .i64 0, .string ByteArray.empty, .int .i64 0, .string ByteArray.empty, .int .i64 0, .int .i64 0, .string ByteArray.empty, .string ByteArray.empty]), 11, 120) := by kernel_rfl
theorem acu_cells (w : World) (cs : List Value) (t : TypeId) : ∀ j u, cs[j]? = some u → (w.alloc (.cells cs.toArray t)).cell? ((⟨w.heap.size, 0, none⟩ : Addr).add j) = some u := by
  intro j u hj
  rw [Addr.add_lit]
  have := heap_alloc_new w (.cells cs.toArray t)
  simp only [World.cell?, this, Nat.zero_add]
  simpa using hj
theorem acu_flat (l : List Acu) (x : Acu) : ((l ++ [x]).map acuC).flatten = (l.map acuC).flatten ++ acuC x := by simp
set_option maxHeartbeats 1000000 in
set_option maxRecDepth 100000 in
theorem acts_any (l : List Gea) (a : Option Addr) (c n : Nat) (w : World) (Q : Nat → Prop) (hL : GesM Q w (.slice a l.length c) l) (hW : ∀ x ∈ l, geaW x) (hn : n ≤ 1000) :
    Calls Tryz.prog 7 #[.slice a l.length c, .int .i64 n] w (AsP w (actsK l n)) := by
  have hm := RowM.small hL
  unfold maxLen at hm
  have HL := hid hL
  have HCW := hid hW
  obtain ⟨i0, hi, hz0, hz1, hz2⟩ := info_parts infoAc
  clear hL hW
  go_enter Tryz.func7, Tryz.ntmps7
  go_wp2
  go_loopw [5, 6] (fun q v wr => ∃ (k : Nat) (a9 : Option Addr) (c9 : Nat), k ≤ l.length ∧ k ≤ n ∧ v = .int .i64 k ∧ q = .slice a9 k c9 ∧ Hid (wr.ownsRow w.heap.size 46 11 (.slice a9 k c9) k ((actsK l k).map acuC).flatten) ∧ Hid (Below w.heap.size w wr)) (fun _ v _ => l.length - (intOf v).toNat)
  case atStart => exact ⟨0, none, 0, Nat.zero_le _, Nat.zero_le _, rfl, rfl, World.ownsRow_nil _ _ _ _, Below.refl _ _⟩
  case round =>
    obtain ⟨k, a9, c9, hk, hkn, rfl, rfl, HO, HB⟩ := hrel
    by_cases hlt : k < l.length ∧ k < n
    · obtain ⟨hl1, hl2⟩ := hlt
      have k1 : (k : Int) < (l.length : Int) := by omega
      have k2 : (k : Int) < (n : Int) := by omega
      have k0 : (0 : Int) ≤ (k : Int) := by omega
      obtain ⟨x, hx⟩ : ∃ x, l[k]? = some x := ⟨_, List.getElem?_eq_getElem hl1⟩
      obtain ⟨b, o, rfl, e0, e1, e2, e3, e4, e5⟩ := (HL.out.next HB.out).at hx
      have HEN := hid (act_any x wr (HCW.out x (List.mem_of_getElem? hx)))
      have HMS := hid (acts_step hx)
      obtain ⟨E, hE⟩ : ∃ E, E = actM x := ⟨_, rfl⟩
      rw [← hE] at HEN HMS
      clear hx hE
      go_wp2_with fail
      refine HEN.out.mono ?_
      rintro e w2 ⟨rfl, hb2⟩
      rw [show (acuC E).toArray = #[.int .i64 E.kind, .int .i64 E.conn, .int .i64 E.user, .int .i64 E.keep, .string (S E.data), .int .i64 E.ent.kind, .string (S E.ent.box), .int .i64 E.ent.uid, .int .i64 E.ent.flags, .string (S E.ent.goal), .string (S E.ent.text)] from rfl]
      obtain ⟨W3, hW3⟩ : ∃ W3, W3 = w2.alloc (.cells #[.int .i64 E.kind, .int .i64 E.conn, .int .i64 E.user, .int .i64 E.keep, .string (S E.data), .int .i64 E.ent.kind, .string (S E.ent.box), .int .i64 E.ent.uid, .int .i64 E.ent.flags, .string (S E.ent.goal), .string (S E.ent.text)] 46) := ⟨_, rfl⟩
      have HWE3 := hid hW3
      have hB3 : Below wr.heap.size wr W3 := by rw [hW3]; exact hb2.alloc hb2.size _
      have hX3 : W3.heap[w2.heap.size]? = some (.cells #[.int .i64 E.kind, .int .i64 E.conn, .int .i64 E.user, .int .i64 E.keep, .string (S E.data), .int .i64 E.ent.kind, .string (S E.ent.box), .int .i64 E.ent.uid, .int .i64 E.ent.flags, .string (S E.ent.goal), .string (S E.ent.text)] 46) := by rw [hW3]; exact heap_alloc_new w2 _
      obtain ⟨x0, x1, x2, x3, x4, x5, x6, x7, x8, x9, x10, _⟩ := box11 hX3
      have HO3 := hid (owns_keep HO.out fun g hg => hB3.block g (World.ownsRow.lt HO.out g hg).2)
      have HB3 := hid (show Below w.heap.size w W3 from HB.out.trans (hB3.mono HB.out.size))
      have hz3 := HB3.out.size
      clear hb2 hB3 hW3 hX3
      go_upto_region 6 with fail
      rw [← HWE3.out]
      go_wp2_with (first
        | (at_builtin; refine wpList_append_lies _ rfl _ _ 36 rfl w.heap.size 46 i0 _ 11 120 Tryz.underlying36 hi hz0 hz1 hz2 rfl (by omega) (.slice a9 k c9) k (((actsK l k).map acuC).flatten) rfl (World.ownsRow.alloc HO3.out _) ⟨W3.heap.size, 0, none⟩ 1 1 (acuC E) rfl rfl (acu_cells W3 (acuC E) _) ?c1 (by omega) ?c2 ?c3 ?c4 _ rfl ?_)
        | fail)
      case c1 => simp [acuC, Value.oneCell']
      case c2 => unfold maxLen; omega
      case c3 => omega
      case c4 => simp; omega
      intro gm cap w4 hown hgrow hat hlt4
      have HB4 := hid (show Below w.heap.size w w4 from (HB3.out.alloc hz3 _).grown hgrow (by simp; omega) (fun j hj => (World.ownsRow.lt HO3.out j hj).1))
      have HO4 := hid (show w4.ownsRow w.heap.size 46 11 (.slice (some ⟨gm, 0, none⟩) (k + 1) cap) (k + 1) ((actsK l (k + 1)).map acuC).flatten by
        rw [HMS.out, acu_flat]; exact hown)
      clear hown hgrow hat
      go_wp2
      go_roundw
      case rel => first | exact ⟨k + 1, _, cap, by omega, by omega, by go_num, rfl, HO4, HB4⟩ | ((repeat apply Exists.intro); exact ⟨⟨k + 1, _, cap, by omega, by omega, by go_num, rfl, HO4, HB4⟩, rfl⟩)
      case measure => simp [intOf]; omega
    · have hE : actsK l k = actsK l n := by
        unfold actsK
        by_cases h4 : k = n
        · rw [h4]
        · rw [List.take_of_length_le (by omega), List.take_of_length_le (by omega)]
      have hlen : (actsK l n).length = k := by rw [← hE]; unfold actsK; simp; omega
      have HF := hid (show AsP w (actsK l n) (.returned (.slice a9 k c9)) wr from by
        have h1 : AcsM (fun k => w.heap.size ≤ k) wr (.slice a9 k c9) (actsK l n) := own_row (hE ▸ HO.out) hlen.symm (by unfold maxLen; omega) (by simp) (map_flat_len (k := 11) acuC (fun _ => rfl) _) (fun q y cs hy hc => by rw [List.getElem?_map, hy] at hc; cases hc; rfl) (fun g hg => (World.ownsRow.lt HO.out g hg).1)
        refine ⟨a9, c9, by rw [hlen], by rw [hlen]; exact h1, HB.out, ?_⟩
        rw [hlen]
        rcases HO.out.2 with ⟨e, h0⟩ | ⟨_, _, _, e, _, _, e2, _⟩
        · omega
        · simp only [Value.slice.injEq] at e; omega)
      clear hE hlen
      by_cases hkl : k < l.length
      · have k1 : (k : Int) < (l.length : Int) := by omega
        have k2 : ¬ (k : Int) < (n : Int) := by omega
        go_wp2
        go_ret
        exact HF.out
      · have k1 : ¬ (k : Int) < (l.length : Int) := by omega
        go_wp2
        go_ret
        exact HF.out
end Go.Proofs.YtepfniiojjefhaaGreatDoor
namespace Go.Proofs.YtepfniiojjefhaaGreatDoor
open Go.RowKit Go.Deep Go.Joins Go.ChangeShapes Go.WideShapes

set_option maxRecDepth 100000 in
theorem open_gears {H : Type} {enc : TypeId × Value → H} {w : World} {base b0 : Nat} {spare : Nat → Bool} {held : Bool} {v : Value} {d : DataW H} {p : List MemPlace}
    (hv : Value.okWide Tryz.prog w .any b0 22 v) (h : DataW.Trod enc Tryz.prog w base spare held 22 v d p) :
    ∃ a c, ∃ ps : List Gea, v = .slice a ps.length c ∧ GesM (fun _ => True) w (.slice a ps.length c) ps ∧ ∀ x ∈ ps, geaW x := by
  obtain ⟨a0, len0, cap0, rfl⟩ := okWide_slice Tryz.underlying22 hv
  obtain ⟨fuel, hf0⟩ := h
  have hf : DataW.trod enc Tryz.prog w base spare held fuel 22 [.slice a0 len0 cap0] = some (d, p) := by simpa [Value.cells] using hf0
  have ce : Tryz.prog.cellsOf 51 = 6 := by kernel_rfl
  have cs : Tryz.prog.cellsOf 9 = 1 := by kernel_rfl
  have ci : Tryz.prog.cellsOf 3 = 1 := by kernel_rfl
  rcases open_slice Tryz.underlying22 hf with ⟨h0, _⟩ | ⟨a, len, cap, m, n, D, Pl, h0, hb, hl, hm, hmm, _, hx⟩
  · simp only [List.cons.injEq, and_true] at h0
    exact ⟨none, 0, [], h0, rowM_nil _ _ _ _ _ _, by simp⟩
  simp only [List.cons.injEq, and_true] at h0
  rw [h0]
  have hlm : len ≤ m := by rw [hmm]; split <;> omega
  have each : ∀ i, i < len → ∃ x : Gea, w.cell? (a.add (i * 6)) = some (.int .i64 x.kind) ∧ w.cell? (a.add (i * 6 + 1)) = some (.int .i64 x.conn) ∧ w.cell? (a.add (i * 6 + 2)) = some (.int .i64 x.user) ∧ w.cell? (a.add (i * 6 + 3)) = some (.int .i64 x.a) ∧ w.cell? (a.add (i * 6 + 4)) = some (.int .i64 x.b) ∧ w.cell? (a.add (i * 6 + 5)) = some (.string x.text) ∧ geaW x := by
    intro i hi
    obtain ⟨cs', h1, h2⟩ := hx i (by omega)
    rw [ce] at h1
    obtain ⟨_, hlen, hcell⟩ := World.cells?_some h1
    obtain ⟨xs, k, hk, hxy, _, hxl, hf⟩ := DataW.trod_struct Tryz.underlying51 h2
    match xs, hxl, cs', hlen with
    | [y0, y1, y2, y3, y4, y5], _, [v0, v1, v2, v3, v4, v5], _ =>
      have g0 := hf 0 _ rfl
      have g1 := hf 1 _ rfl
      have g2 := hf 2 _ rfl
      have g3 := hf 3 _ rfl
      have g4 := hf 4 _ rfl
      have g5 := hf 5 _ rfl
      simp [cs, ci] at g0 g1 g2 g3 g4 g5
      have e0 := hcell 0 (by omega)
      have e1 := hcell 1 (by omega)
      have e2 := hcell 2 (by omega)
      have e3 := hcell 3 (by omega)
      have e4 := hcell 4 (by omega)
      have e5 := hcell 5 (by omega)
      rw [add_add] at e0 e1 e2 e3 e4 e5
      obtain ⟨s0, q0, _, k0⟩ := DataW.trod_int Tryz.underlying3 g0
      obtain ⟨s1, q1, _, k1⟩ := DataW.trod_int Tryz.underlying3 g1
      obtain ⟨s2, q2, _, k2⟩ := DataW.trod_int Tryz.underlying3 g2
      obtain ⟨s3, q3, _, k3⟩ := DataW.trod_int Tryz.underlying3 g3
      obtain ⟨s4, q4, _, k4⟩ := DataW.trod_int Tryz.underlying3 g4
      obtain ⟨s5, q5, _, k5⟩ := DataW.trod_string Tryz.underlying9 g5
      simp only [List.cons.injEq, and_true] at q0 q1 q2 q3 q4 q5
      subst q0
      subst q1
      subst q2
      subst q3
      subst q4
      subst q5
      exact ⟨⟨s0, s1, s2, s3, s4, s5⟩, by simpa using e0, by simpa using e1, by simpa using e2, by simpa using e3, by simpa using e4, by simpa using e5, k0, k1, k2, k3, k4, k5⟩
  haveI : Inhabited Gea := ⟨⟨0, 0, 0, 0, 0, ByteArray.empty⟩⟩
  obtain ⟨q, hq⟩ := choose_lt each
  refine ⟨some a, cap, (List.range len).map q, by simp, ⟨some a, cap, rfl, by simp; omega, ?_⟩, ?_⟩
  · intro i x hx
    have hi : i < len := by
      rcases Nat.lt_or_ge i len with h | h
      · exact h
      · rw [List.getElem?_eq_none (by simpa using h)] at hx; cases hx
    rw [List.getElem?_map, List.getElem?_range hi] at hx
    simp only [Option.map_some, Option.some.injEq] at hx
    subst hx
    obtain ⟨h0, h1, h2, h3, h4, h5, _⟩ := hq i hi
    obtain ⟨b, off, spot⟩ := a
    have hspot : spot = none := by
      have := World.cell?_spot (hq 0 (by omega)).1
      simpa [Addr.add] using this
    subst hspot
    rw [Addr.add_lit] at h0 h1 h2 h3 h4 h5
    refine ⟨b, off, geaC (q i), rfl, World.block_lt_of_cell? w _ h0, trivial, rfl, ?_, rfl⟩
    intro j u hj
    have hj6 : j < 6 := (List.getElem?_eq_some_iff.1 hj).1
    match j, hj6, hj with
    | 0, _, hj => cases hj; exact h0
    | 1, _, hj => cases hj; rw [Nat.add_assoc]; exact h1
    | 2, _, hj => cases hj; rw [Nat.add_assoc]; exact h2
    | 3, _, hj => cases hj; rw [Nat.add_assoc]; exact h3
    | 4, _, hj => cases hj; rw [Nat.add_assoc]; exact h4
    | 5, _, hj => cases hj; rw [Nat.add_assoc]; exact h5
  · intro x hx
    obtain ⟨i, hi, rfl⟩ := List.mem_map.1 hx
    exact (hq i (List.mem_range.1 hi)).2.2.2.2.2.2
set_option maxRecDepth 100000 in
theorem open_gear {H : Type} {enc : TypeId × Value → H} {w : World} {base b0 : Nat} {spare : Nat → Bool} {held : Bool} {v : Value} {d : DataW H} {p : List MemPlace}
    (hv : Value.okWide Tryz.prog w .any b0 51 v) (h : DataW.Trod enc Tryz.prog w base spare held 51 v d p) :
    ∃ x : Gea, v = .agg #[.int .i64 x.kind, .int .i64 x.conn, .int .i64 x.user, .int .i64 x.a, .int .i64 x.b, .string x.text] ∧ geaW x := by
  obtain ⟨cs, rfl, hsz⟩ := okWide_struct Tryz.underlying51 hv
  have hC : Tryz.prog.cellsOf 51 = 6 := by kernel_rfl
  have ci : Tryz.prog.cellsOf 3 = 1 := by kernel_rfl
  have cs' : Tryz.prog.cellsOf 9 = 1 := by kernel_rfl
  obtain ⟨fuel, hf⟩ := h
  obtain ⟨xs, n, _, _, _, hxl, hx⟩ := DataW.trod_struct Tryz.underlying51 hf
  obtain ⟨c0, c1, c2, c3, c4, c5, rfl⟩ : ∃ c0 c1 c2 c3 c4 c5, cs = #[c0, c1, c2, c3, c4, c5] := by
    obtain ⟨l⟩ := cs
    match l, (hsz.trans hC) with
    | [c0, c1, c2, c3, c4, c5], _ => exact ⟨c0, c1, c2, c3, c4, c5, rfl⟩
  have hxl6 : xs.length = 6 := hxl
  have at' : ∀ i : Nat, i < 6 → ∃ y, xs[i]? = some y := fun i hi => ⟨_, List.getElem?_eq_getElem (by omega)⟩
  obtain ⟨y0, g0⟩ := at' 0 (by omega)
  obtain ⟨y1, g1⟩ := at' 1 (by omega)
  obtain ⟨y2, g2⟩ := at' 2 (by omega)
  obtain ⟨y3, g3⟩ := at' 3 (by omega)
  obtain ⟨y4, g4⟩ := at' 4 (by omega)
  obtain ⟨y5, g5⟩ := at' 5 (by omega)
  have h0 := (hx 0 _ rfl).trans g0
  have h1 := (hx 1 _ rfl).trans g1
  have h2 := (hx 2 _ rfl).trans g2
  have h3 := (hx 3 _ rfl).trans g3
  have h4 := (hx 4 _ rfl).trans g4
  have h5 := (hx 5 _ rfl).trans g5
  simp [ci, cs', Value.cells] at h0 h1 h2 h3 h4 h5
  obtain ⟨s0, q0, _, k0⟩ := DataW.trod_int Tryz.underlying3 h0
  obtain ⟨s1, q1, _, k1⟩ := DataW.trod_int Tryz.underlying3 h1
  obtain ⟨s2, q2, _, k2⟩ := DataW.trod_int Tryz.underlying3 h2
  obtain ⟨s3, q3, _, k3⟩ := DataW.trod_int Tryz.underlying3 h3
  obtain ⟨s4, q4, _, k4⟩ := DataW.trod_int Tryz.underlying3 h4
  obtain ⟨s5, q5, _, k5⟩ := DataW.trod_string Tryz.underlying9 h5
  simp only [List.cons.injEq, and_true] at q0 q1 q2 q3 q4 q5
  subst q0
  subst q1
  subst q2
  subst q3
  subst q4
  subst q5
  exact ⟨⟨s0, s1, s2, s3, s4, s5⟩, rfl, k0, k1, k2, k3, k4, k5⟩
end Go.Proofs.YtepfniiojjefhaaGreatDoor
namespace Go.Proofs.YtepfniiojjefhaaGreatDoor
open Go.RowKit Go.Proofs

def nmA : List UInt8 := [97, 110, 110]
def nmB : List UInt8 := [98, 111, 98]
def nmC : List UInt8 := [99, 97, 116]
/-- bob's script. -/
def scrB : List UInt8 := [114, 101, 113, 117, 105, 114, 101, 32, 91, 34, 102, 105, 108, 101, 105, 110, 116, 111, 34, 44, 32, 34, 105, 109, 97, 112, 52, 102, 108, 97, 103, 115, 34, 93, 59, 32, 105, 102, 32, 104, 101, 97, 100, 101, 114, 32, 58, 99, 111, 110, 116, 97, 105, 110, 115, 32, 34, 115, 117, 98, 106, 101, 99, 116, 34, 32, 34, 119, 111, 114, 107, 34, 32, 123, 32, 115, 101, 116, 102, 108, 97, 103, 32, 34, 92, 92, 83, 101, 101, 110, 34, 59, 32, 102, 105, 108, 101, 105, 110, 116, 111, 32, 34, 119, 111, 114, 107, 34, 59, 32, 125, 32, 101, 108, 115, 105, 102, 32, 115, 105, 122, 101, 32, 58, 111, 118, 101, 114, 32, 51, 48, 48, 32, 123, 32, 100, 105, 115, 99, 97, 114, 100, 59, 32, 125]
/-- cat's script. -/
def scrC : List UInt8 := [114, 101, 113, 117, 105, 114, 101, 32, 91, 34, 114, 101, 106, 101, 99, 116, 34, 44, 32, 34, 101, 110, 118, 101, 108, 111, 112, 101, 34, 93, 59, 32, 105, 102, 32, 101, 110, 118, 101, 108, 111, 112, 101, 32, 58, 108, 111, 99, 97, 108, 112, 97, 114, 116, 32, 34, 102, 114, 111, 109, 34, 32, 34, 115, 112, 97, 109, 34, 32, 123, 32, 114, 101, 106, 101, 99, 116, 32, 34, 110, 111, 34, 59, 32, 125, 32, 101, 108, 115, 105, 102, 32, 101, 120, 105, 115, 116, 115, 32, 34, 108, 105, 115, 116, 34, 32, 123, 32, 114, 101, 100, 105, 114, 101, 99, 116, 32, 34, 97, 110, 110, 64, 120, 46, 121, 34, 59, 32, 107, 101, 101, 112, 59, 32, 125]
/-- The row of users. -/
def usrRow (a1 a2 b1 b2 c1 c2 : List UInt8) : Obj := .cells #[.string (S a1), .string (S a2), .string (S b1), .string (S b2), .string (S c1), .string (S c2)] 28
set_option maxRecDepth 100000 in
theorem users_any (w : World) :
    Calls Tryz.prog 4 #[] w fun e w' => e = .returned (.slice (some ⟨w.heap.size, 0, none⟩) 3 3) ∧ w' = w.alloc (usrRow nmA [] nmB scrB nmC scrC) := by
  go_enter Tryz.func4, Tryz.ntmps4
  go_wp2
  go_ret
  exact ⟨rfl, rfl⟩
end Go.Proofs.YtepfniiojjefhaaGreatDoor
namespace Go.Proofs.YtepfniiojjefhaaGreatDoor
open Go.RowKit

theorem silM_spaces (s : List UInt8) : silM (s.dropWhile spaceC) = silM s := by
  induction s with
  | nil => rfl
  | cons c t ih =>
    rw [List.dropWhile_cons]
    cases h : spaceC c with
    | true => rw [if_pos rfl, ih, silM_space t h]
    | false => simp
theorem comEnd_index (u : List UInt8) : comEnd u = if 0 ≤ Lib.index u [42, 47] then some (u.drop ((Lib.index u [42, 47]).toNat + 2)) else none := by
  induction u with
  | nil => rfl
  | cons a t ih =>
    cases t with
    | nil =>
      have e : Lib.index [a] [42, 47] = -1 := by
        unfold Lib.index
        rw [if_neg (by simp [List.isPrefixOf])]
        rfl
      rw [e]; rfl
    | cons b t =>
      by_cases h : a = 42 ∧ b = 47
      · obtain ⟨rfl, rfl⟩ := h
        have e : Lib.index (42 :: 47 :: t) [42, 47] = 0 := by
          unfold Lib.index; rw [if_pos (by simp [List.isPrefixOf])]
        rw [e, comEnd]; rfl
      · have hp : ¬ ([42, 47] : List UInt8).isPrefixOf (a :: b :: t) = true := by
          intro hp
          simp only [List.isPrefixOf, Bool.and_true, Bool.and_eq_true, beq_iff_eq] at hp
          exact h ⟨hp.1.symm, hp.2.symm⟩
        have hge := Lib.index_ge (b :: t) [42, 47]
        rw [comEnd, if_neg h, ih]
        have e : Lib.index (a :: b :: t) [42, 47] = if Lib.index (b :: t) [42, 47] == -1 then -1 else Lib.index (b :: t) [42, 47] + 1 := by
          rw [Lib.index, if_neg hp]
        rw [e]
        by_cases hm : Lib.index (b :: t) [42, 47] = -1
        · rw [hm]; rfl
        · have hm' : ¬ (Lib.index (b :: t) [42, 47] == -1) = true := by simpa using hm
          rw [if_neg hm', if_pos (by omega), if_pos (by omega)]
          have e2 : (Lib.index (b :: t) [42, 47] + 1).toNat + 2 = ((Lib.index (b :: t) [42, 47]).toNat + 2) + 1 := by omega
          rw [e2]
          rfl
theorem cut_open {u : List UInt8} (h : comEnd u = none) : Lib.cut u [42, 47] = (u, [], false) := by
  rw [comEnd_index] at h
  unfold Lib.cut
  split at h
  · cases h
  · rename_i hn; rw [if_neg hn]
theorem cut_com {u r : List UInt8} (h : comEnd u = some r) : ∃ a, Lib.cut u [42, 47] = (a, r, true) ∧ u.length = a.length + 2 + r.length ∧ r = u.drop (a.length + 2) := by
  rw [comEnd_index] at h
  split at h
  · rename_i hn
    have hr := Lib.index_room u [42, 47] hn
    simp only [List.length_cons, List.length_nil] at hr
    simp only [Option.some.injEq] at h
    refine ⟨u.take (Lib.index u [42, 47]).toNat, ?_, ?_, ?_⟩
    · unfold Lib.cut; rw [if_pos hn, ← h]; rfl
    · rw [← h]; simp; omega
    · rw [← h, List.length_take, Nat.min_eq_left (by omega)]
  · cases h

/- Which token begins. -/
def kindM (s : List UInt8) : Int :=
  match s with
  | [] => 0
  | c :: t => if letterC c then 1 else if c = 58 ∧ (t.head?.map letterC).getD false = true then 2 else if digitC c then 3 else if c = 34 then 4 else if markC c then 5 else 0
theorem kindM_beg (s : List UInt8) : (kindM s = 0) ↔ begM s = false := by
  cases s with
  | nil => simp [kindM, begM]
  | cons c t =>
    simp only [kindM, begM]
    cases h1 : letterC c with
    | true => simp
    | false =>
      by_cases h2 : c = 58 ∧ (t.head?.map letterC).getD false = true
      · simp only [Bool.false_eq_true, if_false, h2.1, h2.2]; simp
      · simp only [Bool.false_eq_true, if_false, if_neg h2]
        have h2' : (c == 58 && (t.head?.map letterC).getD false) = false := by
          cases e : (c == 58 && (t.head?.map letterC).getD false) with
          | false => rfl
          | true => exact absurd (by simpa using e) h2
        rw [h2']
        cases h3 : digitC c with
        | true => simp
        | false =>
          by_cases h4 : c = 34
          · simp [h4]
          · cases h5 : markC c <;> simp [h4]

/- Words. -/
def wlen (s : List UInt8) : Nat := match s with | [] => 0 | c :: t => if digitC c then 0 else ((c :: t).takeWhile wordyC).length
theorem letter_not_digit {c : UInt8} (h : letterC c = true) : digitC c = false := by
  cases e : digitC c with
  | false => rfl
  | true =>
    unfold digitC at e
    unfold letterC at h
    simp only [Bool.and_eq_true, decide_eq_true_eq, Bool.or_eq_true, beq_iff_eq] at e h
    rcases h with (h | h) | h
    · omega
    · omega
    · subst h; simp at e
theorem wlen_letter {c : UInt8} (t : List UInt8) (h : letterC c = true) : wlen (c :: t) = 1 + (t.takeWhile wordyC).length := by
  show (if digitC c then 0 else ((c :: t).takeWhile wordyC).length) = _
  rw [letter_not_digit h, if_neg (by simp), List.takeWhile_cons, if_pos (by unfold wordyC; rw [h]; rfl)]
  simp; omega
theorem wlen_not {c : UInt8} (t : List UInt8) (h : letterC c = false) : wlen (c :: t) = 0 := by
  show (if digitC c then 0 else ((c :: t).takeWhile wordyC).length) = _
  cases e : digitC c with
  | true => rfl
  | false => rw [if_neg (by simp), List.takeWhile_cons, if_neg (by unfold wordyC; rw [h, e]; simp)]; rfl
theorem wlen_pos (s : List UInt8) : 0 < wlen s ↔ (s.head?.map letterC).getD false = true := by
  cases s with
  | nil => simp [wlen]
  | cons c t =>
    cases e : letterC c with
    | true => rw [wlen_letter t e]; simp [e]; omega
    | false => rw [wlen_not t e]; simp [e]
theorem wlen_all (s : List UInt8) : (s ≠ [] ∧ wlen s = s.length) ↔ wordB s = true := by
  cases s with
  | nil => simp [wordB]
  | cons c t =>
    cases e : letterC c with
    | false => rw [wlen_not t e]; simp [wordB, e]
    | true =>
      rw [wlen_letter t e]
      have hc : wordyC c = true := by unfold wordyC; rw [e]; rfl
      simp only [wordB, List.head?_cons, Option.map_some, Option.getD_some, e, Bool.true_and, List.all_cons, hc, ne_eq, reduceCtorEq, not_false_eq_true, true_and, List.length_cons]
      rw [List.all_eq_true]
      constructor
      · intro h x hx
        have h2 : t.takeWhile wordyC = t := by
          have hs := List.takeWhile_prefix (l := t) wordyC
          exact hs.eq_of_length (by omega)
        rw [← h2] at hx
        exact List.all_eq_true.1 (List.all_takeWhile (p := wordyC) (l := t)) x hx
      · intro h
        have h2 : t.takeWhile wordyC = t := by
          have := List.takeWhile_append_of_pos (p := wordyC) (l₁ := t) (l₂ := []) h
          simpa using this
        rw [h2]; omega

end Go.Proofs.YtepfniiojjefhaaGreatDoor
