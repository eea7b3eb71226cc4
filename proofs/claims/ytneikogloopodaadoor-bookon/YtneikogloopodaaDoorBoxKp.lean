/-
  Entries and states that the laws make of raw numbers: plain facts, and the walks of boxName and Entry.
-/
import Derived.Test.YtneikogloopodaaDoorBoxMem
import Derived.Test.YtneikogloopodaaDoorKeepPick
import Derived.Test.YtneikogloopodaaDoorCut
import Derived.Test.YtneikogloopodaaDoorRows
import Derived.WalkKit
namespace Go.Proofs.YtneikogloopodaaDoor
open Go.RowKit Go.Proofs

/-- An entry in raw numbers. -/
structure Chr where
  kind : Int
  box : Int
  uid : Int
  flags : Int
  goal : Int
  text : ByteArray
def chrW (c : Chr) : Prop := (Lit.int .i64 c.kind).wf = true ∧ (Lit.int .i64 c.box).wf = true ∧ (Lit.int .i64 c.uid).wf = true ∧ (Lit.int .i64 c.flags).wf = true ∧ (Lit.int .i64 c.goal).wf = true ∧ c.text.size ≤ maxLen
def boxNs : List (List UInt8) := [[73, 78, 66, 79, 88], [119, 111, 114, 107], [106, 117, 110, 107], [97], [98], [99]]
def boxN (n : Int) : List UInt8 := boxNs.getD (pickN n 6) []
def abc : List UInt8 := [97, 64, 98, 46, 99]
def cutL (s : ByteArray) (n : Nat) : List UInt8 := (cutB s n).data.toList
theorem S_cutL (s : ByteArray) (n : Nat) : S (cutL s n) = cutB s n := by unfold cutL; exact S_list _
theorem cutL_len (s : ByteArray) (n : Nat) : (cutL s n).length ≤ n := by unfold cutL; rw [size_list, cutB_size]; exact Nat.min_le_right _ _
def entP (c : Chr) : Ent := match pickN c.kind 6 with
  | 0 => ⟨1, boxN c.box, 0, 0, [], []⟩
  | 1 => ⟨2, boxN c.box, 0, pickN c.flags 32, [], cutL c.text 300⟩
  | 2 => ⟨3, boxN c.box, 1 + pickN c.uid 8, pickN c.flags 32, [], []⟩
  | 3 => ⟨4, boxN c.box, 0, 0, [], []⟩
  | 4 => ⟨5, boxN c.box, 1 + pickN c.uid 8, 0, boxN c.goal, []⟩
  | _ => ⟨6, [], 0, 0, abc, cutL c.text 100⟩
theorem boxN_name (n : Int) : nameP (boxN n) = 0 := by
  have h := pickN_lt n 6 (by decide)
  unfold boxN
  generalize pickN n 6 = k at h
  match k, h with
  | 0, _ => rfl
  | 1, _ => rfl
  | 2, _ => rfl
  | 3, _ => rfl
  | 4, _ => rfl
  | 5, _ => rfl
theorem abc_goal : goalM abc = 0 := by decide
theorem fl_lt (n : Int) : (0 : Int) ≤ (pickN n 32 : Nat) ∧ ((pickN n 32 : Nat) : Int) ≤ 31 := by have := pickN_lt n 32 (by decide); omega
theorem uid_lt (n : Int) : (0 : Int) ≤ 1 + (pickN n 8 : Nat) ∧ 1 + ((pickN n 8 : Nat) : Int) ≤ 1048576 := by have := pickN_lt n 8 (by decide); omega
theorem entP_formed (c : Chr) : Formed (entP c) := by
  unfold entP
  have hb := boxN_name c.box
  have hg := boxN_name c.goal
  have hf := fl_lt c.flags
  have hu := uid_lt c.uid
  have h3 := cutL_len c.text 300
  have h1 := cutL_len c.text 100
  split
  · exact ⟨by simp, ⟨fun _ => ⟨rfl, rfl, rfl, rfl⟩, fun h => by simp at h, fun h => by simp at h, fun h => by simp at h, fun h => by simp at h⟩, by simp, by simp, by simp, fun h => by simp at h, fun _ => hb, fun h => by simp at h⟩
  · exact ⟨by simp, ⟨fun h => by simp at h, fun _ => ⟨rfl, rfl⟩, fun h => by simp at h, fun h => by simp at h, fun h => by simp at h⟩, hf, by simp, by show (cutL c.text 300).length ≤ 2000; omega, fun h => by simp at h, fun _ => hb, fun h => by simp at h⟩
  · exact ⟨by simp, ⟨fun h => by simp at h, fun h => by simp at h, fun _ => ⟨rfl, rfl⟩, fun h => by simp at h, fun h => by simp at h⟩, hf, hu, by simp, fun h => by simp at h, fun _ => hb, fun h => by simp at h⟩
  · exact ⟨by simp, ⟨fun _ => ⟨rfl, rfl, rfl, rfl⟩, fun h => by simp at h, fun h => by simp at h, fun h => by simp at h, fun h => by simp at h⟩, by simp, by simp, by simp, fun h => by simp at h, fun _ => hb, fun h => by simp at h⟩
  · exact ⟨by simp, ⟨fun h => by simp at h, fun h => by simp at h, fun h => by simp at h, fun _ => ⟨rfl, rfl⟩, fun h => by simp at h⟩, by simp, hu, by simp, fun h => by simp at h, fun _ => hb, fun _ => hg⟩
  · exact ⟨by simp, ⟨fun h => by simp at h, fun h => by simp at h, fun h => by simp at h, fun h => by simp at h, fun _ => ⟨rfl, rfl, rfl⟩⟩, by simp, by simp, by show (cutL c.text 100).length ≤ 2000; omega, fun _ => abc_goal, fun h => by simp at h, fun h => by simp at h⟩
def stepP (s : Stt) (c : Chr) : Stt := match doM s (entP c) with
  | .ok s' => s'
  | .error _ => s
def initS : Stt := ⟨[⟨[73, 78, 66, 79, 88], 1, []⟩], []⟩
/-- The state that entries make. -/
def stateP (l : List Chr) : Stt := (l.take 40).foldl stepP initS
theorem initS_may : May initS := by
  refine ⟨by decide, by decide, ?_, by decide, by decide, fun x hx => by cases hx⟩
  intro b hb
  simp [initS] at hb
  subst hb
  exact ⟨rfl, by decide, by decide, trivial⟩
theorem stepP_may {s : Stt} (h : May s) (c : Chr) : May (stepP s c) := by
  unfold stepP
  split
  · rename_i s' he; exact doM_may h (entP_formed c) he
  · exact h
theorem foldl_may : ∀ (l : List Chr) (s : Stt), May s → May (l.foldl stepP s) := by
  intro l
  induction l with
  | nil => intro s h; exact h
  | cons c l ih => intro s h; exact ih _ (stepP_may h c)
theorem stateP_may (l : List Chr) : May (stateP l) := foldl_may _ _ initS_may
theorem foldl_step {l : List Chr} {k : Nat} {c : Chr} (h : l[k]? = some c) (s : Stt) : (l.take (k + 1)).foldl stepP s = stepP ((l.take k).foldl stepP s) c := by
  have hk : k < l.length := (List.getElem?_eq_some_iff.1 h).1
  rw [List.take_succ_eq_append_getElem hk, (List.getElem?_eq_some_iff.1 h).2, List.foldl_append]
  rfl

def boxRow : Obj := .cells #[.string ⟨#[73, 78, 66, 79, 88]⟩, .string ⟨#[119, 111, 114, 107]⟩, .string ⟨#[106, 117, 110, 107]⟩, .string ⟨#[97]⟩, .string ⟨#[98]⟩, .string ⟨#[99]⟩] 9
set_option maxHeartbeats 1000000 in
set_option maxRecDepth 100000 in
theorem boxName_any (n : Int) (w : World) (hn : (Lit.int .i64 n).wf = true) :
    Calls Tryd.prog 60 #[.int .i64 n] w fun e w' => e = .returned (.string (S (boxN n))) ∧ w' = w.alloc boxRow := by
  have HP := hid (fun u => picked_any n 6 u hn (by decide) (by decide))
  have h6 := pickN_lt n 6 (by decide)
  obtain ⟨t, ht⟩ : ∃ t, t = boxN n := ⟨_, rfl⟩
  have HT := hid ht
  rw [← ht]
  unfold boxN at HT
  clear hn ht
  generalize pickN n 6 = k at *
  match k, h6 with
  | 0, _ =>
    go_enter Tryd.func60, Tryd.ntmps60
    go_wp2_with fail
    refine (HP.out _).mono ?_
    rintro e u ⟨rfl, hu⟩
    have hu' := hu.symm
    subst hu'
    clear hu
    go_wp2
    go_ret
    exact ⟨by rw [HT.out]; rfl, rfl⟩
  | 1, _ =>
    go_enter Tryd.func60, Tryd.ntmps60
    go_wp2_with fail
    refine (HP.out _).mono ?_
    rintro e u ⟨rfl, hu⟩
    have hu' := hu.symm
    subst hu'
    clear hu
    go_wp2
    go_ret
    exact ⟨by rw [HT.out]; rfl, rfl⟩
  | 2, _ =>
    go_enter Tryd.func60, Tryd.ntmps60
    go_wp2_with fail
    refine (HP.out _).mono ?_
    rintro e u ⟨rfl, hu⟩
    have hu' := hu.symm
    subst hu'
    clear hu
    go_wp2
    go_ret
    exact ⟨by rw [HT.out]; rfl, rfl⟩
  | 3, _ =>
    go_enter Tryd.func60, Tryd.ntmps60
    go_wp2_with fail
    refine (HP.out _).mono ?_
    rintro e u ⟨rfl, hu⟩
    have hu' := hu.symm
    subst hu'
    clear hu
    go_wp2
    go_ret
    exact ⟨by rw [HT.out]; rfl, rfl⟩
  | 4, _ =>
    go_enter Tryd.func60, Tryd.ntmps60
    go_wp2_with fail
    refine (HP.out _).mono ?_
    rintro e u ⟨rfl, hu⟩
    have hu' := hu.symm
    subst hu'
    clear hu
    go_wp2
    go_ret
    exact ⟨by rw [HT.out]; rfl, rfl⟩
  | 5, _ =>
    go_enter Tryd.func60, Tryd.ntmps60
    go_wp2_with fail
    refine (HP.out _).mono ?_
    rintro e u ⟨rfl, hu⟩
    have hu' := hu.symm
    subst hu'
    clear hu
    go_wp2
    go_ret
    exact ⟨by rw [HT.out]; rfl, rfl⟩
set_option maxHeartbeats 1000000 in
set_option maxRecDepth 100000 in
theorem entry_k0 (c : Chr) (w : World) (hw : chrW c) (hk : pickN c.kind 6 = 0) :
    Calls Tryd.prog 47 #[.agg #[.int .i64 c.kind, .int .i64 c.box, .int .i64 c.uid, .int .i64 c.flags, .int .i64 c.goal, .string c.text]] w fun e w' => e = .returned (.agg #[.int .i64 1, .string (S (boxN c.box)), .int .i64 0, .int .i64 0, .string ⟨#[]⟩, .string ⟨#[]⟩]) ∧ Below w.heap.size w w' := by
  have HW := hid hw
  have HP := hid (fun u => picked_any c.kind 6 u hw.1 (by decide) (by decide))
  rw [hk] at HP
  have hp8 := pickN_lt c.uid 8 (by decide)
  have HB := hid (show ∀ a b d e : Obj, Below w.heap.size w ((((w.alloc a).alloc b).alloc d).alloc e) from fun a b d e => (((((Below.refl w.heap.size w).alloc (by simp) a).alloc (by simp) b).alloc (by simp; omega) d).alloc (by simp; omega) e))
  clear hw hk
  go_enter Tryd.func47, Tryd.ntmps47
  go_wp2_with fail
  refine (HP.out _).mono ?_
  rintro e u ⟨rfl, hu⟩
  have hu' := hu.symm
  subst hu'
  clear hu
  go_wp2_with fail
  refine (boxName_any c.box _ HW.out.2.1).mono ?_
  rintro e u ⟨rfl, hu⟩
  subst hu
  go_wp2
  refine bodyPost_ret (v := .agg #[.int .i64 1, .string (S (boxN c.box)), .int .i64 0, .int .i64 0, .string ⟨#[]⟩, .string ⟨#[]⟩]) (by simp [results, Tryd.results47, go_sem, *]) rfl ?_
  exact ⟨rfl, HB.out _ _ _ _⟩
set_option maxHeartbeats 1000000 in
set_option maxRecDepth 100000 in
theorem entry_k1 (c : Chr) (w : World) (hw : chrW c) (hk : pickN c.kind 6 = 1) :
    Calls Tryd.prog 47 #[.agg #[.int .i64 c.kind, .int .i64 c.box, .int .i64 c.uid, .int .i64 c.flags, .int .i64 c.goal, .string c.text]] w fun e w' => e = .returned (.agg #[.int .i64 2, .string (S (boxN c.box)), .int .i64 0, .int .i64 (pickN c.flags 32 : Nat), .string ⟨#[]⟩, .string (cutB c.text 300)]) ∧ Below w.heap.size w w' := by
  have HW := hid hw
  have HP := hid (fun u => picked_any c.kind 6 u hw.1 (by decide) (by decide))
  rw [hk] at HP
  have hp8 := pickN_lt c.uid 8 (by decide)
  have HB := hid (show ∀ a b d e : Obj, Below w.heap.size w ((((w.alloc a).alloc b).alloc d).alloc e) from fun a b d e => (((((Below.refl w.heap.size w).alloc (by simp) a).alloc (by simp) b).alloc (by simp; omega) d).alloc (by simp; omega) e))
  clear hw hk
  go_enter Tryd.func47, Tryd.ntmps47
  go_wp2_with fail
  refine (HP.out _).mono ?_
  rintro e u ⟨rfl, hu⟩
  have hu' := hu.symm
  subst hu'
  clear hu
  go_wp2_with fail
  refine (boxName_any c.box _ HW.out.2.1).mono ?_
  rintro e u ⟨rfl, hu⟩
  subst hu
  go_wp2_with fail
  refine (picked_any c.flags 32 _ HW.out.2.2.2.1 (by decide) (by decide)).mono ?_
  rintro e u ⟨rfl, hu⟩
  have hu' := hu.symm
  subst hu'
  clear hu
  go_wp2_with fail
  refine (cut_any c.text 300 _ HW.out.2.2.2.2.2 (by decide)).mono ?_
  rintro e u ⟨rfl, hu⟩
  have hu' := hu.symm
  subst hu'
  clear hu
  go_wp2
  refine bodyPost_ret (v := .agg #[.int .i64 2, .string (S (boxN c.box)), .int .i64 0, .int .i64 (pickN c.flags 32 : Nat), .string ⟨#[]⟩, .string (cutB c.text 300)]) (by simp [results, Tryd.results47, go_sem, *]) rfl ?_
  exact ⟨rfl, HB.out _ _ _ _⟩
set_option maxHeartbeats 1000000 in
set_option maxRecDepth 100000 in
theorem entry_k2 (c : Chr) (w : World) (hw : chrW c) (hk : pickN c.kind 6 = 2) :
    Calls Tryd.prog 47 #[.agg #[.int .i64 c.kind, .int .i64 c.box, .int .i64 c.uid, .int .i64 c.flags, .int .i64 c.goal, .string c.text]] w fun e w' => e = .returned (.agg #[.int .i64 3, .string (S (boxN c.box)), .int .i64 (1 + (pickN c.uid 8 : Nat)), .int .i64 (pickN c.flags 32 : Nat), .string ⟨#[]⟩, .string ⟨#[]⟩]) ∧ Below w.heap.size w w' := by
  have HW := hid hw
  have HP := hid (fun u => picked_any c.kind 6 u hw.1 (by decide) (by decide))
  rw [hk] at HP
  have hp8 := pickN_lt c.uid 8 (by decide)
  have HB := hid (show ∀ a b d e : Obj, Below w.heap.size w ((((w.alloc a).alloc b).alloc d).alloc e) from fun a b d e => (((((Below.refl w.heap.size w).alloc (by simp) a).alloc (by simp) b).alloc (by simp; omega) d).alloc (by simp; omega) e))
  clear hw hk
  go_enter Tryd.func47, Tryd.ntmps47
  go_wp2_with fail
  refine (HP.out _).mono ?_
  rintro e u ⟨rfl, hu⟩
  have hu' := hu.symm
  subst hu'
  clear hu
  go_wp2_with fail
  refine (boxName_any c.box _ HW.out.2.1).mono ?_
  rintro e u ⟨rfl, hu⟩
  subst hu
  go_wp2_with fail
  refine (picked_any c.uid 8 _ HW.out.2.2.1 (by decide) (by decide)).mono ?_
  rintro e u ⟨rfl, hu⟩
  have hu' := hu.symm
  subst hu'
  clear hu
  go_wp2_with fail
  refine (picked_any c.flags 32 _ HW.out.2.2.2.1 (by decide) (by decide)).mono ?_
  rintro e u ⟨rfl, hu⟩
  have hu' := hu.symm
  subst hu'
  clear hu
  go_wp2
  refine bodyPost_ret (v := .agg #[.int .i64 3, .string (S (boxN c.box)), .int .i64 (1 + (pickN c.uid 8 : Nat)), .int .i64 (pickN c.flags 32 : Nat), .string ⟨#[]⟩, .string ⟨#[]⟩]) (by simp [results, Tryd.results47, go_sem, *]) rfl ?_
  exact ⟨rfl, HB.out _ _ _ _⟩
set_option maxHeartbeats 1000000 in
set_option maxRecDepth 100000 in
theorem entry_k3 (c : Chr) (w : World) (hw : chrW c) (hk : pickN c.kind 6 = 3) :
    Calls Tryd.prog 47 #[.agg #[.int .i64 c.kind, .int .i64 c.box, .int .i64 c.uid, .int .i64 c.flags, .int .i64 c.goal, .string c.text]] w fun e w' => e = .returned (.agg #[.int .i64 4, .string (S (boxN c.box)), .int .i64 0, .int .i64 0, .string ⟨#[]⟩, .string ⟨#[]⟩]) ∧ Below w.heap.size w w' := by
  have HW := hid hw
  have HP := hid (fun u => picked_any c.kind 6 u hw.1 (by decide) (by decide))
  rw [hk] at HP
  have hp8 := pickN_lt c.uid 8 (by decide)
  have HB := hid (show ∀ a b d e : Obj, Below w.heap.size w ((((w.alloc a).alloc b).alloc d).alloc e) from fun a b d e => (((((Below.refl w.heap.size w).alloc (by simp) a).alloc (by simp) b).alloc (by simp; omega) d).alloc (by simp; omega) e))
  clear hw hk
  go_enter Tryd.func47, Tryd.ntmps47
  go_wp2_with fail
  refine (HP.out _).mono ?_
  rintro e u ⟨rfl, hu⟩
  have hu' := hu.symm
  subst hu'
  clear hu
  go_wp2_with fail
  refine (boxName_any c.box _ HW.out.2.1).mono ?_
  rintro e u ⟨rfl, hu⟩
  subst hu
  go_wp2
  refine bodyPost_ret (v := .agg #[.int .i64 4, .string (S (boxN c.box)), .int .i64 0, .int .i64 0, .string ⟨#[]⟩, .string ⟨#[]⟩]) (by simp [results, Tryd.results47, go_sem, *]) rfl ?_
  exact ⟨rfl, HB.out _ _ _ _⟩
set_option maxHeartbeats 1000000 in
set_option maxRecDepth 100000 in
theorem entry_k4 (c : Chr) (w : World) (hw : chrW c) (hk : pickN c.kind 6 = 4) :
    Calls Tryd.prog 47 #[.agg #[.int .i64 c.kind, .int .i64 c.box, .int .i64 c.uid, .int .i64 c.flags, .int .i64 c.goal, .string c.text]] w fun e w' => e = .returned (.agg #[.int .i64 5, .string (S (boxN c.box)), .int .i64 (1 + (pickN c.uid 8 : Nat)), .int .i64 0, .string (S (boxN c.goal)), .string ⟨#[]⟩]) ∧ Below w.heap.size w w' := by
  have HW := hid hw
  have HP := hid (fun u => picked_any c.kind 6 u hw.1 (by decide) (by decide))
  rw [hk] at HP
  have hp8 := pickN_lt c.uid 8 (by decide)
  have HB := hid (show ∀ a b d e f : Obj, Below w.heap.size w (((((w.alloc a).alloc b).alloc d).alloc e).alloc f) from fun a b d e f => ((((((Below.refl w.heap.size w).alloc (by simp) a).alloc (by simp) b).alloc (by simp; omega) d).alloc (by simp; omega) e).alloc (by simp; omega) f))
  clear hw hk
  go_enter Tryd.func47, Tryd.ntmps47
  go_wp2_with fail
  refine (HP.out _).mono ?_
  rintro e u ⟨rfl, hu⟩
  have hu' := hu.symm
  subst hu'
  clear hu
  go_wp2_with fail
  refine (boxName_any c.box _ HW.out.2.1).mono ?_
  rintro e u ⟨rfl, hu⟩
  subst hu
  go_wp2_with fail
  refine (picked_any c.uid 8 _ HW.out.2.2.1 (by decide) (by decide)).mono ?_
  rintro e u ⟨rfl, hu⟩
  have hu' := hu.symm
  subst hu'
  clear hu
  go_wp2_with fail
  refine (boxName_any c.goal _ HW.out.2.2.2.2.1).mono ?_
  rintro e u ⟨rfl, hu⟩
  subst hu
  go_wp2
  refine bodyPost_ret (v := .agg #[.int .i64 5, .string (S (boxN c.box)), .int .i64 (1 + (pickN c.uid 8 : Nat)), .int .i64 0, .string (S (boxN c.goal)), .string ⟨#[]⟩]) (by simp [results, Tryd.results47, go_sem, *]) rfl ?_
  exact ⟨rfl, HB.out _ _ _ _ _⟩
set_option maxHeartbeats 1000000 in
set_option maxRecDepth 100000 in
theorem entry_k5 (c : Chr) (w : World) (hw : chrW c) (hk : pickN c.kind 6 = 5) :
    Calls Tryd.prog 47 #[.agg #[.int .i64 c.kind, .int .i64 c.box, .int .i64 c.uid, .int .i64 c.flags, .int .i64 c.goal, .string c.text]] w fun e w' => e = .returned (.agg #[.int .i64 6, .string ⟨#[]⟩, .int .i64 0, .int .i64 0, .string ⟨#[97, 64, 98, 46, 99]⟩, .string (cutB c.text 100)]) ∧ Below w.heap.size w w' := by
  have HW := hid hw
  have HP := hid (fun u => picked_any c.kind 6 u hw.1 (by decide) (by decide))
  rw [hk] at HP
  have hp8 := pickN_lt c.uid 8 (by decide)
  have HB := hid (show ∀ a b d : Obj, Below w.heap.size w (((w.alloc a).alloc b).alloc d) from fun a b d => ((((Below.refl w.heap.size w).alloc (by simp) a).alloc (by simp) b).alloc (by simp; omega) d))
  clear hw hk
  go_enter Tryd.func47, Tryd.ntmps47
  go_wp2_with fail
  refine (HP.out _).mono ?_
  rintro e u ⟨rfl, hu⟩
  have hu' := hu.symm
  subst hu'
  clear hu
  go_wp2_with fail
  refine (cut_any c.text 100 _ HW.out.2.2.2.2.2 (by decide)).mono ?_
  rintro e u ⟨rfl, hu⟩
  have hu' := hu.symm
  subst hu'
  clear hu
  go_wp2
  refine bodyPost_ret (v := .agg #[.int .i64 6, .string ⟨#[]⟩, .int .i64 0, .int .i64 0, .string ⟨#[97, 64, 98, 46, 99]⟩, .string (cutB c.text 100)]) (by simp [results, Tryd.results47, go_sem, *]) rfl ?_
  exact ⟨rfl, HB.out _ _ _⟩
theorem entry_any (c : Chr) (w : World) (hw : chrW c) :
    Calls Tryd.prog 47 #[.agg #[.int .i64 c.kind, .int .i64 c.box, .int .i64 c.uid, .int .i64 c.flags, .int .i64 c.goal, .string c.text]] w fun e w' => e = .returned (.agg #[.int .i64 (entP c).kind, .string (S (entP c).box), .int .i64 (entP c).uid, .int .i64 (entP c).flags, .string (S (entP c).goal), .string (S (entP c).text)]) ∧ Below w.heap.size w w' := by
  have h := pickN_lt c.kind 6 (by decide)
  unfold entP
  cases hk : pickN c.kind 6 with
  | zero => exact entry_k0 c w hw hk
  | succ k =>
    rw [hk] at h
    match k, h, hk with
    | 0, _, hk => simp only [S_cutL]; exact entry_k1 c w hw hk
    | 1, _, hk => exact entry_k2 c w hw hk
    | 2, _, hk => exact entry_k3 c w hw hk
    | 3, _, hk => exact entry_k4 c w hw hk
    | 4, _, hk => simp only [S_cutL]; exact entry_k5 c w hw hk
end Go.Proofs.YtneikogloopodaaDoor
