/-
  Entries and states that the laws make of raw numbers: plain facts, and the walks of boxName and Entry.
-/
import Derived.Test.YtgfbdgheencmaaaGreatDoorXKeepPick
import Derived.Test.YtgfbdgheencmaaaGreatDoorXCut
import Derived.Test.YtgfbdgheencmaaaGreatDoorRows
import Derived.Test.YtgfbdgheencmaaaGreatDoorXBoxAl
import Derived.Deep.SlicePairs
import Derived.Lib.SmallJoins
set_option maxHeartbeats 4000000
set_option maxRecDepth 100000
namespace Go.Proofs.YtgfbdgheencmaaaGreatDoor
open Go.RowKit Go.Proofs
structure Chr where
 kind : Int
 box : Int
 uid : Int
 flags : Int
 goal : Int
 text : ByteArray
def chrW (c : Chr) : Prop := (Lit.int .i64 c.kind).wf = true ∧ (Lit.int .i64 c.box).wf = true ∧ (Lit.int .i64 c.uid).wf = true ∧ (Lit.int .i64 c.flags).wf = true ∧ (Lit.int .i64 c.goal).wf = true ∧ c.text.size ≤ maxLen
def boxNs : List (List UInt8) := [[73, 78, 66, 79, 88], [119, 111, 114, 107], [106, 117, 110, 107], [97], [98], [99]]
def boxN (n : Int) : List UInt8 := boxNs.getD (jp n 6) []
def abc : List UInt8 := [97, 64, 98, 46, 99]
def cutL (s : ByteArray) (n : Nat) : List UInt8 := (cutB s n).data.toList
theorem jmk (s : ByteArray) (n : Nat) : S (cutL s n) = cutB s n := by unfold cutL; exact zZ _
theorem jgf (s : ByteArray) (n : Nat) : (cutL s n).length ≤ n := by unfold cutL; rw [size_list, jaI]; exact Nat.min_le_right _ _
def entP (c : Chr) : Ent := match jp c.kind 6 with
 | 0 => ⟨1, boxN c.box, 0, 0, [], []⟩
 | 1 => ⟨2, boxN c.box, 0, jp c.flags 32, [], cutL c.text 300⟩
 | 2 => ⟨3, boxN c.box, 1 + jp c.uid 8, jp c.flags 32, [], []⟩
 | 3 => ⟨4, boxN c.box, 0, 0, [], []⟩
 | 4 => ⟨5, boxN c.box, 1 + jp c.uid 8, 0, boxN c.goal, []⟩
 | _ => ⟨6, [], 0, 0, abc, cutL c.text 100⟩
theorem jee (n : Int) : zQ (boxN n) = 0 := by
 have h := jn n 6 (by decide); unfold boxN; generalize jp n 6 = k at h
 match k, h with
 | 0, _ => rfl
 | 1, _ => rfl
 | 2, _ => rfl
 | 3, _ => rfl
 | 4, _ => rfl
 | 5, _ => rfl
theorem jkG : jbz abc = 0 := by decide
theorem joS (n : Int) : (0 : Int) ≤ (jp n 32 : Nat) ∧ ((jp n 32 : Nat) : Int) ≤ 31 := by have := jn n 32 (by decide); omega
theorem joD (n : Int) : (0 : Int) ≤ 1 + (jp n 8 : Nat) ∧ 1 + ((jp n 8 : Nat) : Int) ≤ 1048576 := by have := jn n 8 (by decide); omega
theorem jaA (c : Chr) : Formed (entP c) := by
 unfold entP; have hb := jee c.box; have hg := jee c.goal; have hf := joS c.flags; have hu := joD c.uid; have h3 := jgf c.text 300; have h1 := jgf c.text 100; split
 · exact ⟨by simp, ⟨fun _ => ⟨rfl, rfl, rfl, rfl⟩, fun h => by simp at h, fun h => by simp at h, fun h => by simp at h, fun h => by simp at h⟩, by simp, by simp, by simp, fun h => by simp at h, fun _ => hb, fun h => by simp at h⟩
 · exact ⟨by simp, ⟨fun h => by simp at h, fun _ => ⟨rfl, rfl⟩, fun h => by simp at h, fun h => by simp at h, fun h => by simp at h⟩, hf, by simp, by show (cutL c.text 300).length ≤ 2000; omega, fun h => by simp at h, fun _ => hb, fun h => by simp at h⟩
 · exact ⟨by simp, ⟨fun h => by simp at h, fun h => by simp at h, fun _ => ⟨rfl, rfl⟩, fun h => by simp at h, fun h => by simp at h⟩, hf, hu, by simp, fun h => by simp at h, fun _ => hb, fun h => by simp at h⟩
 · exact ⟨by simp, ⟨fun _ => ⟨rfl, rfl, rfl, rfl⟩, fun h => by simp at h, fun h => by simp at h, fun h => by simp at h, fun h => by simp at h⟩, by simp, by simp, by simp, fun h => by simp at h, fun _ => hb, fun h => by simp at h⟩
 · exact ⟨by simp, ⟨fun h => by simp at h, fun h => by simp at h, fun h => by simp at h, fun _ => ⟨rfl, rfl⟩, fun h => by simp at h⟩, by simp, hu, by simp, fun h => by simp at h, fun _ => hb, fun _ => hg⟩
 · exact ⟨by simp, ⟨fun h => by simp at h, fun h => by simp at h, fun h => by simp at h, fun h => by simp at h, fun _ => ⟨rfl, rfl, rfl⟩⟩, by simp, by simp, by show (cutL c.text 100).length ≤ 2000; omega, fun _ => jkG, fun h => by simp at h, fun h => by simp at h⟩
def qb (s : Stt) (c : Chr) : Stt := match doM s (entP c) with
 | .ok s' => s'
 | .error _ => s
def jaq : Stt := ⟨[⟨[73, 78, 66, 79, 88], 1, []⟩], []⟩
def jcv (l : List Chr) : Stt := (l.take 40).foldl qb jaq
theorem jey : May jaq := by
 refine ⟨by decide, by decide, ?_, by decide, by decide, fun x hx => by cases hx⟩; intro b hb
 simp [jaq] at hb
 subst hb; exact ⟨rfl, by decide, by decide, trivial⟩
theorem jkd {s : Stt} (h : May s) (c : Chr) : May (qb s c) := by
 unfold qb; split
 · rename_i s' he; exact jfB h (jaA c) he
 · exact h
theorem jeu : ∀ (l : List Chr) (s : Stt), May s → May (l.foldl qb s) := by
 intro l
 induction l with
 | nil => intro s h; exact h
 | cons c l ih => intro s h; exact ih _ (jkd h c)
theorem jh8 (l : List Chr) : May (jcv l) := jeu _ _ jey
theorem jhn {l : List Chr} {k : Nat} {c : Chr} (h : l[k]? = some c) (s : Stt) : (l.take (k + 1)).foldl qb s = qb ((l.take k).foldl qb s) c := by
 have hk : k < l.length := (List.getElem?_eq_some_iff.1 h).1; rw [List.take_succ_eq_append_getElem hk, (List.getElem?_eq_some_iff.1 h).2, List.foldl_append]; rfl
def jn2 : Obj := .cells #[.string ⟨#[73, 78, 66, 79, 88]⟩, .string ⟨#[119, 111, 114, 107]⟩, .string ⟨#[106, 117, 110, 107]⟩, .string ⟨#[97]⟩, .string ⟨#[98]⟩, .string ⟨#[99]⟩] 9
theorem zW (n : Int) (w : World) (hn : (Lit.int .i64 n).wf = true) :
 Calls Tryz.prog 27 #[.int .i64 n] w fun e w' => e = .returned (.string (S (boxN n))) ∧ w' = w.alloc jn2 := by
 have HP := hid (fun u => jf n 6 u hn (by decide) (by decide)); have h6 := jn n 6 (by decide); obtain ⟨t, ht⟩ : ∃ t, t = boxN n := ⟨_, rfl⟩; have HT := hid ht; rw [← ht]; unfold boxN at HT; clear hn ht; generalize jp n 6 = k at *
 match k, h6 with
 | 0, _ =>
   go_enter Tryz.func27, Tryz.ntmps27; go_wp2_with fail; refine (HP.out _).mono ?_; rintro e u ⟨rfl, hu⟩; have hu' := hu.symm; subst hu'; clear hu; go_wp2; go_ret; exact ⟨by rw [HT.out]; rfl, rfl⟩
 | 1, _ =>
   go_enter Tryz.func27, Tryz.ntmps27; go_wp2_with fail; refine (HP.out _).mono ?_; rintro e u ⟨rfl, hu⟩; have hu' := hu.symm; subst hu'; clear hu; go_wp2; go_ret; exact ⟨by rw [HT.out]; rfl, rfl⟩
 | 2, _ =>
   go_enter Tryz.func27, Tryz.ntmps27; go_wp2_with fail; refine (HP.out _).mono ?_; rintro e u ⟨rfl, hu⟩; have hu' := hu.symm; subst hu'; clear hu; go_wp2; go_ret; exact ⟨by rw [HT.out]; rfl, rfl⟩
 | 3, _ =>
   go_enter Tryz.func27, Tryz.ntmps27; go_wp2_with fail; refine (HP.out _).mono ?_; rintro e u ⟨rfl, hu⟩; have hu' := hu.symm; subst hu'; clear hu; go_wp2; go_ret; exact ⟨by rw [HT.out]; rfl, rfl⟩
 | 4, _ =>
   go_enter Tryz.func27, Tryz.ntmps27; go_wp2_with fail; refine (HP.out _).mono ?_; rintro e u ⟨rfl, hu⟩; have hu' := hu.symm; subst hu'; clear hu; go_wp2; go_ret; exact ⟨by rw [HT.out]; rfl, rfl⟩
 | 5, _ =>
   go_enter Tryz.func27, Tryz.ntmps27; go_wp2_with fail; refine (HP.out _).mono ?_; rintro e u ⟨rfl, hu⟩; have hu' := hu.symm; subst hu'; clear hu; go_wp2; go_ret; exact ⟨by rw [HT.out]; rfl, rfl⟩
theorem jlb (c : Chr) (w : World) (hw : chrW c) (hk : jp c.kind 6 = 0) :
 Calls Tryz.prog 12 #[.agg #[.int .i64 c.kind, .int .i64 c.box, .int .i64 c.uid, .int .i64 c.flags, .int .i64 c.goal, .string c.text]] w fun e w' => e = .returned (.agg #[.int .i64 1, .string (S (boxN c.box)), .int .i64 0, .int .i64 0, .string ⟨#[]⟩, .string ⟨#[]⟩]) ∧ Below w.heap.size w w' := by
 have HW := hid hw; have HP := hid (fun u => jf c.kind 6 u hw.1 (by decide) (by decide)); rw [hk] at HP; have hp8 := jn c.uid 8 (by decide); have HB := hid (show ∀ a b d e : Obj, Below w.heap.size w ((((w.alloc a).alloc b).alloc d).alloc e) from fun a b d e => (((((Below.refl w.heap.size w).alloc (by simp) a).alloc (by simp) b).alloc (by simp; omega) d).alloc (by simp; omega) e)); clear hw hk; go_enter Tryz.func12, Tryz.ntmps12; go_wp2_with fail; refine (HP.out _).mono ?_; rintro e u ⟨rfl, hu⟩; have hu' := hu.symm; subst hu'; clear hu; go_wp2_with fail; refine (zW c.box _ HW.out.2.1).mono ?_; rintro e u ⟨rfl, hu⟩; subst hu; go_wp2; refine bodyPost_ret (v := .agg #[.int .i64 1, .string (S (boxN c.box)), .int .i64 0, .int .i64 0, .string ⟨#[]⟩, .string ⟨#[]⟩]) (by simp [results, Tryz.results12, go_sem, *]) rfl ?_; exact ⟨rfl, HB.out _ _ _ _⟩
theorem jlc (c : Chr) (w : World) (hw : chrW c) (hk : jp c.kind 6 = 1) :
 Calls Tryz.prog 12 #[.agg #[.int .i64 c.kind, .int .i64 c.box, .int .i64 c.uid, .int .i64 c.flags, .int .i64 c.goal, .string c.text]] w fun e w' => e = .returned (.agg #[.int .i64 2, .string (S (boxN c.box)), .int .i64 0, .int .i64 (jp c.flags 32 : Nat), .string ⟨#[]⟩, .string (cutB c.text 300)]) ∧ Below w.heap.size w w' := by
 have HW := hid hw; have HP := hid (fun u => jf c.kind 6 u hw.1 (by decide) (by decide)); rw [hk] at HP; have hp8 := jn c.uid 8 (by decide); have HB := hid (show ∀ a b d e : Obj, Below w.heap.size w ((((w.alloc a).alloc b).alloc d).alloc e) from fun a b d e => (((((Below.refl w.heap.size w).alloc (by simp) a).alloc (by simp) b).alloc (by simp; omega) d).alloc (by simp; omega) e)); clear hw hk; go_enter Tryz.func12, Tryz.ntmps12; go_wp2_with fail; refine (HP.out _).mono ?_; rintro e u ⟨rfl, hu⟩; have hu' := hu.symm; subst hu'; clear hu; go_wp2_with fail; refine (zW c.box _ HW.out.2.1).mono ?_; rintro e u ⟨rfl, hu⟩; subst hu; go_wp2_with fail; refine (jf c.flags 32 _ HW.out.2.2.2.1 (by decide) (by decide)).mono ?_; rintro e u ⟨rfl, hu⟩; have hu' := hu.symm; subst hu'; clear hu; go_wp2_with fail; refine (jb4 c.text 300 _ HW.out.2.2.2.2.2 (by decide)).mono ?_; rintro e u ⟨rfl, hu⟩; have hu' := hu.symm; subst hu'; clear hu; go_wp2; refine bodyPost_ret (v := .agg #[.int .i64 2, .string (S (boxN c.box)), .int .i64 0, .int .i64 (jp c.flags 32 : Nat), .string ⟨#[]⟩, .string (cutB c.text 300)]) (by simp [results, Tryz.results12, go_sem, *]) rfl ?_; exact ⟨rfl, HB.out _ _ _ _⟩
theorem jld (c : Chr) (w : World) (hw : chrW c) (hk : jp c.kind 6 = 2) :
 Calls Tryz.prog 12 #[.agg #[.int .i64 c.kind, .int .i64 c.box, .int .i64 c.uid, .int .i64 c.flags, .int .i64 c.goal, .string c.text]] w fun e w' => e = .returned (.agg #[.int .i64 3, .string (S (boxN c.box)), .int .i64 (1 + (jp c.uid 8 : Nat)), .int .i64 (jp c.flags 32 : Nat), .string ⟨#[]⟩, .string ⟨#[]⟩]) ∧ Below w.heap.size w w' := by
 have HW := hid hw; have HP := hid (fun u => jf c.kind 6 u hw.1 (by decide) (by decide)); rw [hk] at HP; have hp8 := jn c.uid 8 (by decide); have HB := hid (show ∀ a b d e : Obj, Below w.heap.size w ((((w.alloc a).alloc b).alloc d).alloc e) from fun a b d e => (((((Below.refl w.heap.size w).alloc (by simp) a).alloc (by simp) b).alloc (by simp; omega) d).alloc (by simp; omega) e)); clear hw hk; go_enter Tryz.func12, Tryz.ntmps12; go_wp2_with fail; refine (HP.out _).mono ?_; rintro e u ⟨rfl, hu⟩; have hu' := hu.symm; subst hu'; clear hu; go_wp2_with fail; refine (zW c.box _ HW.out.2.1).mono ?_; rintro e u ⟨rfl, hu⟩; subst hu; go_wp2_with fail; refine (jf c.uid 8 _ HW.out.2.2.1 (by decide) (by decide)).mono ?_; rintro e u ⟨rfl, hu⟩; have hu' := hu.symm; subst hu'; clear hu; go_wp2_with fail; refine (jf c.flags 32 _ HW.out.2.2.2.1 (by decide) (by decide)).mono ?_; rintro e u ⟨rfl, hu⟩; have hu' := hu.symm; subst hu'; clear hu; go_wp2; refine bodyPost_ret (v := .agg #[.int .i64 3, .string (S (boxN c.box)), .int .i64 (1 + (jp c.uid 8 : Nat)), .int .i64 (jp c.flags 32 : Nat), .string ⟨#[]⟩, .string ⟨#[]⟩]) (by simp [results, Tryz.results12, go_sem, *]) rfl ?_; exact ⟨rfl, HB.out _ _ _ _⟩
theorem jle (c : Chr) (w : World) (hw : chrW c) (hk : jp c.kind 6 = 3) :
 Calls Tryz.prog 12 #[.agg #[.int .i64 c.kind, .int .i64 c.box, .int .i64 c.uid, .int .i64 c.flags, .int .i64 c.goal, .string c.text]] w fun e w' => e = .returned (.agg #[.int .i64 4, .string (S (boxN c.box)), .int .i64 0, .int .i64 0, .string ⟨#[]⟩, .string ⟨#[]⟩]) ∧ Below w.heap.size w w' := by
 have HW := hid hw; have HP := hid (fun u => jf c.kind 6 u hw.1 (by decide) (by decide)); rw [hk] at HP; have hp8 := jn c.uid 8 (by decide); have HB := hid (show ∀ a b d e : Obj, Below w.heap.size w ((((w.alloc a).alloc b).alloc d).alloc e) from fun a b d e => (((((Below.refl w.heap.size w).alloc (by simp) a).alloc (by simp) b).alloc (by simp; omega) d).alloc (by simp; omega) e)); clear hw hk; go_enter Tryz.func12, Tryz.ntmps12; go_wp2_with fail; refine (HP.out _).mono ?_; rintro e u ⟨rfl, hu⟩; have hu' := hu.symm; subst hu'; clear hu; go_wp2_with fail; refine (zW c.box _ HW.out.2.1).mono ?_; rintro e u ⟨rfl, hu⟩; subst hu; go_wp2; refine bodyPost_ret (v := .agg #[.int .i64 4, .string (S (boxN c.box)), .int .i64 0, .int .i64 0, .string ⟨#[]⟩, .string ⟨#[]⟩]) (by simp [results, Tryz.results12, go_sem, *]) rfl ?_; exact ⟨rfl, HB.out _ _ _ _⟩
theorem jlf (c : Chr) (w : World) (hw : chrW c) (hk : jp c.kind 6 = 4) :
 Calls Tryz.prog 12 #[.agg #[.int .i64 c.kind, .int .i64 c.box, .int .i64 c.uid, .int .i64 c.flags, .int .i64 c.goal, .string c.text]] w fun e w' => e = .returned (.agg #[.int .i64 5, .string (S (boxN c.box)), .int .i64 (1 + (jp c.uid 8 : Nat)), .int .i64 0, .string (S (boxN c.goal)), .string ⟨#[]⟩]) ∧ Below w.heap.size w w' := by
 have HW := hid hw; have HP := hid (fun u => jf c.kind 6 u hw.1 (by decide) (by decide)); rw [hk] at HP; have hp8 := jn c.uid 8 (by decide); have HB := hid (show ∀ a b d e f : Obj, Below w.heap.size w (((((w.alloc a).alloc b).alloc d).alloc e).alloc f) from fun a b d e f => ((((((Below.refl w.heap.size w).alloc (by simp) a).alloc (by simp) b).alloc (by simp; omega) d).alloc (by simp; omega) e).alloc (by simp; omega) f)); clear hw hk; go_enter Tryz.func12, Tryz.ntmps12; go_wp2_with fail; refine (HP.out _).mono ?_; rintro e u ⟨rfl, hu⟩; have hu' := hu.symm; subst hu'; clear hu; go_wp2_with fail; refine (zW c.box _ HW.out.2.1).mono ?_; rintro e u ⟨rfl, hu⟩; subst hu; go_wp2_with fail; refine (jf c.uid 8 _ HW.out.2.2.1 (by decide) (by decide)).mono ?_; rintro e u ⟨rfl, hu⟩; have hu' := hu.symm; subst hu'; clear hu; go_wp2_with fail; refine (zW c.goal _ HW.out.2.2.2.2.1).mono ?_; rintro e u ⟨rfl, hu⟩; subst hu; go_wp2; refine bodyPost_ret (v := .agg #[.int .i64 5, .string (S (boxN c.box)), .int .i64 (1 + (jp c.uid 8 : Nat)), .int .i64 0, .string (S (boxN c.goal)), .string ⟨#[]⟩]) (by simp [results, Tryz.results12, go_sem, *]) rfl ?_; exact ⟨rfl, HB.out _ _ _ _ _⟩
theorem jlg (c : Chr) (w : World) (hw : chrW c) (hk : jp c.kind 6 = 5) :
 Calls Tryz.prog 12 #[.agg #[.int .i64 c.kind, .int .i64 c.box, .int .i64 c.uid, .int .i64 c.flags, .int .i64 c.goal, .string c.text]] w fun e w' => e = .returned (.agg #[.int .i64 6, .string ⟨#[]⟩, .int .i64 0, .int .i64 0, .string ⟨#[97, 64, 98, 46, 99]⟩, .string (cutB c.text 100)]) ∧ Below w.heap.size w w' := by
 have HW := hid hw; have HP := hid (fun u => jf c.kind 6 u hw.1 (by decide) (by decide)); rw [hk] at HP; have hp8 := jn c.uid 8 (by decide); have HB := hid (show ∀ a b d : Obj, Below w.heap.size w (((w.alloc a).alloc b).alloc d) from fun a b d => ((((Below.refl w.heap.size w).alloc (by simp) a).alloc (by simp) b).alloc (by simp; omega) d)); clear hw hk; go_enter Tryz.func12, Tryz.ntmps12; go_wp2_with fail; refine (HP.out _).mono ?_; rintro e u ⟨rfl, hu⟩; have hu' := hu.symm; subst hu'; clear hu; go_wp2_with fail; refine (jb4 c.text 100 _ HW.out.2.2.2.2.2 (by decide)).mono ?_; rintro e u ⟨rfl, hu⟩; have hu' := hu.symm; subst hu'; clear hu; go_wp2; refine bodyPost_ret (v := .agg #[.int .i64 6, .string ⟨#[]⟩, .int .i64 0, .int .i64 0, .string ⟨#[97, 64, 98, 46, 99]⟩, .string (cutB c.text 100)]) (by simp [results, Tryz.results12, go_sem, *]) rfl ?_; exact ⟨rfl, HB.out _ _ _⟩
theorem jiM (c : Chr) (w : World) (hw : chrW c) :
 Calls Tryz.prog 12 #[.agg #[.int .i64 c.kind, .int .i64 c.box, .int .i64 c.uid, .int .i64 c.flags, .int .i64 c.goal, .string c.text]] w fun e w' => e = .returned (.agg #[.int .i64 (entP c).kind, .string (S (entP c).box), .int .i64 (entP c).uid, .int .i64 (entP c).flags, .string (S (entP c).goal), .string (S (entP c).text)]) ∧ Below w.heap.size w w' := by
 have h := jn c.kind 6 (by decide); unfold entP; cases hk : jp c.kind 6 with
 | zero => exact jlb c w hw hk
 | succ k =>
   rw [hk] at h
   match k, h, hk with
   | 0, _, hk => simp only [jmk]; exact jlc c w hw hk
   | 1, _, hk => exact jld c w hw hk
   | 2, _, hk => exact jle c w hw hk
   | 3, _, hk => exact jlf c w hw hk
   | 4, _, hk => simp only [jmk]; exact jlg c w hw hk
def chrC (c : Chr) : List Value := [.int .i64 c.kind, .int .i64 c.box, .int .i64 c.uid, .int .i64 c.flags, .int .i64 c.goal, .string c.text]
def ChrM (c : Chr) (cs : List Value) : Prop := cs = chrC c
def ChsM (Q : Nat → Prop) (w : World) (v : Value) (l : List Chr) : Prop := RowM Q 6 ChrM w v l
theorem ChsM.next {Q : Nat → Prop} {w w' : World} {v : Value} {l : List Chr} (h : ChsM Q w v l) (hb : Below w.heap.size w w') : ChsM Q w' v l := RowM.imp h (fun _ h => h) (Keeps.of_below hb) fun _ _ h => h
theorem ChsM.at {Q : Nat → Prop} {w : World} {a : Option Addr} {n c : Nat} {l : List Chr} (h : ChsM Q w (.slice a n c) l) {i : Nat} {x : Chr} (hx : l[i]? = some x) : ∃ b o, a = some ⟨b, o, none⟩ ∧ w.cell? ⟨b, o + i * 6, none⟩ = some (.int .i64 x.kind) ∧ w.cell? ⟨b, o + i * 6 + 1, none⟩ = some (.int .i64 x.box) ∧ w.cell? ⟨b, o + i * 6 + 2, none⟩ = some (.int .i64 x.uid) ∧ w.cell? ⟨b, o + i * 6 + 3, none⟩ = some (.int .i64 x.flags) ∧ w.cell? ⟨b, o + i * 6 + 4, none⟩ = some (.int .i64 x.goal) ∧ w.cell? ⟨b, o + i * 6 + 5, none⟩ = some (.string x.text) := by
 obtain ⟨a', c', hv, _, hr⟩ := h; simp only [Value.slice.injEq] at hv; obtain ⟨rfl, _, rfl⟩ := hv; obtain ⟨b, o, cs, rfl, _, _, _, hc, hP⟩ := hr i x hx; have hcs : cs = _ := hP; subst hcs; exact ⟨b, o, rfl, by simpa using hc 0 _ rfl, hc 1 _ rfl, hc 2 _ rfl, hc 3 _ rfl, hc 4 _ rfl, hc 5 _ rfl⟩
def AllR (w : World) (r : Except Int Stt) (vb vs : Value) (z : Int) (w' : World) : Prop := match r with
 | .error e => z = e ∧ vb = .slice none 0 0 ∧ vs = .slice none 0 0
 | .ok s' => z = 0 ∧ ∃ vm, OwnS w.heap.size w' vb vs vm s'
theorem AllP.form {w w' : World} {r : Except Int Stt} {e : Ending} (h : AllP w r e w') : ∃ a1 n1 c1 a2 n2 c2 z, e = .returned (.tuple #[.agg #[.slice a1 n1 c1, .slice a2 n2 c2], .int .i64 z]) ∧ AllR w r (.slice a1 n1 c1) (.slice a2 n2 c2) z w' := by
 obtain ⟨_, h⟩ := h; cases r with
 | error z => exact ⟨none, 0, 0, none, 0, 0, z, h, rfl, rfl, rfl⟩
 | ok s' =>
   obtain ⟨vb, vs, vm, rfl, hO⟩ := h; obtain ⟨a1, c1, rfl⟩ := js hO.boxes; obtain ⟨a2, c2, rfl⟩ := js hO.spool; exact ⟨_, _, _, _, _, _, _, rfl, rfl, vm, hO⟩
def NxP (wr : World) (r : Except Int Stt) (a b : Value) (wx : World) : Prop := ∃ pn a1 n1 c1 a2 n2 c2 z, a = .pointer (some ⟨pn, 0, none⟩) ∧ b = .int .i64 z ∧ wx.heap[pn]? = some (.cells #[.slice a1 n1 c1, .slice a2 n2 c2] 32) ∧ wr.heap.size ≤ pn ∧ Below wr.heap.size wr wx ∧ match r with
 | .error e => z = e
 | .ok s' => z = 0 ∧ ∃ vm, OwnS wr.heap.size wx (.slice a1 n1 c1) (.slice a2 n2 c2) vm s'
theorem jjL {wr w3 wx u : World} {p n1 c1 n2 c2 : Nat} {a1 a2 : Option Addr} {r : Except Int Stt} {z : Int} (hw : wx.heap[p]? = some (.cells #[.slice a1 n1 c1, .slice a2 n2 c2] 32)) (hoth : ∀ k, k < w3.heap.size → k ≠ p → wx.heap[k]? = w3.heap[k]?) (hbel : Below wr.heap.size wr wx)
 (hR : AllR u r (.slice a1 n1 c1) (.slice a2 n2 c2) z w3) (hu : wr.heap.size ≤ u.heap.size) (hp : wr.heap.size ≤ p) (hpo : ∀ vm s', OwnS u.heap.size w3 (.slice a1 n1 c1) (.slice a2 n2 c2) vm s' → ¬ inS (.slice a1 n1 c1) (.slice a2 n2 c2) vm p) : NxP wr r (.pointer (some ⟨p, 0, none⟩)) (.int .i64 z) wx := by
 refine ⟨p, _, _, _, _, _, _, z, rfl, rfl, hw, hp, hbel, ?_⟩; cases r with
 | error e => exact hR.1
 | ok s' =>
   obtain ⟨h0, vm, hO⟩ := hR; exact ⟨h0, vm, (hO.base hu).keep fun k hk => hoth k (hO.lt hk).2 fun e => hpo vm s' hO (by rw [← e]; exact hk)⟩
def StI (q r0 : Nat) (w wr : World) (s : Stt) : Prop := ∃ ab nb cb ae ns cs, wr.heap[q]? = some (.cells #[.slice ab nb cb, .slice ae ns cs] 32) ∧ wr.heap[r0]? = some (.cells #[.slice none 0 0, .slice none 0 0] 32) ∧ SttM (fun k => k ≠ q ∧ k ≠ r0) wr (.slice ab nb cb) (.slice ae ns cs) s ∧ Below w.heap.size w wr
def StR (w : World) (s : Stt) (e : Ending) (w' : World) : Prop := ∃ a1 n1 c1 a2 n2 c2, e = .returned (.agg #[.slice a1 n1 c1, .slice a2 n2 c2]) ∧ SttM (fun _ => True) w' (.slice a1 n1 c1) (.slice a2 n2 c2) s ∧ Below w.heap.size w w'
theorem jlw (w : World) (p q r0 : Nat) (h : w.heap[p]? = some (.cells #[.string ⟨#[73, 78, 66, 79, 88]⟩, .int .i64 1, .slice none 0 0] 54)) (hp : p ≠ q ∧ p ≠ r0) : SttM (fun k => k ≠ q ∧ k ≠ r0) w (.slice (some ⟨p, 0, none⟩) 1 1) (.slice none 0 0) jaq := by
 refine ⟨⟨some ⟨p, 0, none⟩, 1, rfl, by simp [jaq, maxLen], fun i y hy => ?_⟩, jo _ _ _ _ _ _, fun a n c e => by cases e; exact Nat.le_refl _⟩; cases i with
 | succ i => simp [jaq] at hy
 | zero =>
   simp [jaq] at hy
   subst hy; refine ⟨p, 0, boxC ⟨[73, 78, 66, 79, 88], 1, []⟩ (.slice none 0 0), rfl, (Array.getElem?_eq_some_iff.1 h).1, hp, rfl, fun j u hj => ?_, _, rfl, jo _ _ _ _ _ _⟩; simp only [Nat.zero_mul, Nat.zero_add, World.cell?, h]
   simpa [boxC, S] using hj
theorem StI.step {q r0 : Nat} {w wr wx : World} {s s' : Stt} {pn n1 c1 n2 c2 : Nat} {a1 a2 : Option Addr} {vm : List Value} (h : StI q r0 w wr s) (hM : May s') (hb : Below wr.heap.size wr wx) (hO : OwnS wr.heap.size wx (.slice a1 n1 c1) (.slice a2 n2 c2) vm s') (hqr : q ≠ r0) (hw : w.heap.size ≤ q) (_hpn : wr.heap.size ≤ pn) :
 StI q r0 w ((wx.setCell ⟨q, 0, none⟩ (.slice a1 n1 c1)).setCell ⟨q, 1, none⟩ (.slice a2 n2 c2)) s' := by
 obtain ⟨ab, nb, cb, ae, ns, cs, h1, h2, _, h4⟩ := h; have hql : q < wr.heap.size := (Array.getElem?_eq_some_iff.1 h1).1; have hrl : r0 < wr.heap.size := (Array.getElem?_eq_some_iff.1 h2).1; have hS := hO.stt (Q := fun k => k ≠ q ∧ k ≠ r0) hM (fun g hg => by have := (hO.lt hg).1; omega); refine ⟨a1, n1, c1, a2, n2, c2, jW (jY hb h1), (jk hqr.symm).trans ((jk hqr.symm).trans (jY hb h2)), hS.imp (fun _ h => h) ((Keeps.set wx (p := ⟨q, 0, none⟩) _ fun b hb => hb.1).trans (Keeps.set _ (p := ⟨q, 1, none⟩) _ fun b hb => hb.1)), ?_⟩; exact (((h4.trans (hb.mono h4.size)).setCell hw _).setCell hw _)
theorem StI.same {q r0 : Nat} {w wr wx : World} {s : Stt} (h : StI q r0 w wr s) (hb : Below wr.heap.size wr wx) : StI q r0 w wx s := by
 obtain ⟨ab, nb, cb, ae, ns, cs, h1, h2, h3, h4⟩ := h; exact ⟨ab, nb, cb, ae, ns, cs, jY hb h1, jY hb h2, h3.next hb, h4.trans (hb.mono h4.size)⟩
theorem jlL {a b : Nat} (h : a < b) : a ≠ b := Nat.ne_of_lt h
open Go.Deep Go.Joins Go.ChangeShapes Go.WideShapes
theorem open_chores {H : Type} {enc : TypeId × Value → H} {w : World} {base b0 : Nat} {spare : Nat → Bool} {held : Bool} {v : Value} {d : DataW H} {p : List MemPlace}
 (hv : Value.okWide Tryz.prog w .any b0 22 v) (h : DataW.Trod enc Tryz.prog w base spare held 22 v d p) :
 ∃ a c, ∃ ps : List Chr, v = .slice a ps.length c ∧ ChsM (fun _ => True) w (.slice a ps.length c) ps ∧ ∀ x ∈ ps, chrW x := by
 obtain ⟨a0, len0, cap0, rfl⟩ := okWide_slice Tryz.underlying22 hv; obtain ⟨fuel, hf0⟩ := h; have hf : DataW.trod enc Tryz.prog w base spare held fuel 22 [.slice a0 len0 cap0] = some (d, p) := by simpa [Value.cells] using hf0
 have ce : Tryz.prog.cellsOf 58 = 6 := by kernel_rfl
 have cs : Tryz.prog.cellsOf 9 = 1 := by kernel_rfl
 have ci : Tryz.prog.cellsOf 3 = 1 := by kernel_rfl
 rcases open_slice Tryz.underlying22 hf with ⟨h0, _⟩ | ⟨a, len, cap, m, n, D, Pl, h0, hb, hl, hm, hmm, _, hx⟩
 · simp only [List.cons.injEq, and_true] at h0; exact ⟨none, 0, [], h0, jo _ _ _ _ _ _, by simp⟩
 simp only [List.cons.injEq, and_true] at h0; rw [h0]; have hlm : len ≤ m := by rw [hmm]; split <;> omega
 have each : ∀ i, i < len → ∃ x : Chr, w.cell? (a.add (i * 6)) = some (.int .i64 x.kind) ∧ w.cell? (a.add (i * 6 + 1)) = some (.int .i64 x.box) ∧ w.cell? (a.add (i * 6 + 2)) = some (.int .i64 x.uid) ∧ w.cell? (a.add (i * 6 + 3)) = some (.int .i64 x.flags) ∧ w.cell? (a.add (i * 6 + 4)) = some (.int .i64 x.goal) ∧ w.cell? (a.add (i * 6 + 5)) = some (.string x.text) ∧ chrW x := by
  intro i hi; obtain ⟨cs', h1, h2⟩ := hx i (by omega); rw [ce] at h1; obtain ⟨_, hlen, hcell⟩ := World.cells?_some h1; obtain ⟨xs, k, hk, hxy, _, hxl, hf⟩ := DataW.trod_struct Tryz.underlying58 h2
  match xs, hxl, cs', hlen with
  | [y0, y1, y2, y3, y4, y5], _, [v0, v1, v2, v3, v4, v5], _ =>
    have g0 := hf 0 _ rfl; have g1 := hf 1 _ rfl; have g2 := hf 2 _ rfl; have g3 := hf 3 _ rfl; have g4 := hf 4 _ rfl; have g5 := hf 5 _ rfl
    simp [cs, ci] at g0 g1 g2 g3 g4 g5
    have e0 := hcell 0 (by omega); have e1 := hcell 1 (by omega); have e2 := hcell 2 (by omega); have e3 := hcell 3 (by omega); have e4 := hcell 4 (by omega); have e5 := hcell 5 (by omega); rw [add_add] at e0 e1 e2 e3 e4 e5; obtain ⟨s0, q0, _, k0⟩ := DataW.trod_int Tryz.underlying3 g0; obtain ⟨s1, q1, _, k1⟩ := DataW.trod_int Tryz.underlying3 g1; obtain ⟨s2, q2, _, k2⟩ := DataW.trod_int Tryz.underlying3 g2; obtain ⟨s3, q3, _, k3⟩ := DataW.trod_int Tryz.underlying3 g3; obtain ⟨s4, q4, _, k4⟩ := DataW.trod_int Tryz.underlying3 g4; obtain ⟨s5, q5, _, k5⟩ := DataW.trod_string Tryz.underlying9 g5; simp only [List.cons.injEq, and_true] at q0 q1 q2 q3 q4 q5; subst q0; subst q1; subst q2; subst q3; subst q4; subst q5; exact ⟨⟨s0, s1, s2, s3, s4, s5⟩, by simpa using e0, by simpa using e1, by simpa using e2, by simpa using e3, by simpa using e4, by simpa using e5, k0, k1, k2, k3, k4, k5⟩
 haveI : Inhabited Chr := ⟨⟨0, 0, 0, 0, 0, ByteArray.empty⟩⟩
 obtain ⟨q, hq⟩ := choose_lt each; refine ⟨some a, cap, (List.range len).map q, by simp, ⟨some a, cap, rfl, by simp; omega, ?_⟩, ?_⟩
 · intro i x hx; have hi : i < len := by
    rcases Nat.lt_or_ge i len with h | h
    · exact h
    · rw [List.getElem?_eq_none (by simpa using h)] at hx; cases hx
   rw [List.getElem?_map, List.getElem?_range hi] at hx; simp only [Option.map_some, Option.some.injEq] at hx; subst hx; obtain ⟨h0, h1, h2, h3, h4, h5, _⟩ := hq i hi; obtain ⟨b, off, spot⟩ := a; have hspot : spot = none := by
    have := World.cell?_spot (hq 0 (by omega)).1
    simpa [Addr.add] using this
   subst hspot; rw [Addr.add_lit] at h0 h1 h2 h3 h4 h5; refine ⟨b, off, chrC (q i), rfl, World.block_lt_of_cell? w _ h0, trivial, rfl, ?_, rfl⟩; intro j u hj; have hj6 : j < 6 := (List.getElem?_eq_some_iff.1 hj).1
   match j, hj6, hj with
   | 0, _, hj => cases hj; exact h0
   | 1, _, hj => cases hj; rw [Nat.add_assoc]; exact h1
   | 2, _, hj => cases hj; rw [Nat.add_assoc]; exact h2
   | 3, _, hj => cases hj; rw [Nat.add_assoc]; exact h3
   | 4, _, hj => cases hj; rw [Nat.add_assoc]; exact h4
   | 5, _, hj => cases hj; rw [Nat.add_assoc]; exact h5
 · intro x hx; obtain ⟨i, hi, rfl⟩ := List.mem_map.1 hx; exact (hq i (List.mem_range.1 hi)).2.2.2.2.2.2
theorem open_chore {H : Type} {enc : TypeId × Value → H} {w : World} {base b0 : Nat} {spare : Nat → Bool} {held : Bool} {v : Value} {d : DataW H} {p : List MemPlace}
 (hv : Value.okWide Tryz.prog w .any b0 58 v) (h : DataW.Trod enc Tryz.prog w base spare held 58 v d p) :
 ∃ x : Chr, v = .agg #[.int .i64 x.kind, .int .i64 x.box, .int .i64 x.uid, .int .i64 x.flags, .int .i64 x.goal, .string x.text] ∧ chrW x := by
 obtain ⟨cs, rfl, hsz⟩ := okWide_struct Tryz.underlying58 hv; have hC : Tryz.prog.cellsOf 58 = 6 := by kernel_rfl
 have ci : Tryz.prog.cellsOf 3 = 1 := by kernel_rfl
 have cs' : Tryz.prog.cellsOf 9 = 1 := by kernel_rfl
 obtain ⟨fuel, hf⟩ := h; obtain ⟨xs, n, _, _, _, hxl, hx⟩ := DataW.trod_struct Tryz.underlying58 hf; obtain ⟨c0, c1, c2, c3, c4, c5, rfl⟩ : ∃ c0 c1 c2 c3 c4 c5, cs = #[c0, c1, c2, c3, c4, c5] := by
  obtain ⟨l⟩ := cs
  match l, (hsz.trans hC) with
  | [c0, c1, c2, c3, c4, c5], _ => exact ⟨c0, c1, c2, c3, c4, c5, rfl⟩
 have hxl6 : xs.length = 6 := hxl; have at' : ∀ i : Nat, i < 6 → ∃ y, xs[i]? = some y := fun i hi => ⟨_, List.getElem?_eq_getElem (by omega)⟩
 obtain ⟨y0, g0⟩ := at' 0 (by omega); obtain ⟨y1, g1⟩ := at' 1 (by omega); obtain ⟨y2, g2⟩ := at' 2 (by omega); obtain ⟨y3, g3⟩ := at' 3 (by omega); obtain ⟨y4, g4⟩ := at' 4 (by omega); obtain ⟨y5, g5⟩ := at' 5 (by omega); have h0 := (hx 0 _ rfl).trans g0; have h1 := (hx 1 _ rfl).trans g1; have h2 := (hx 2 _ rfl).trans g2; have h3 := (hx 3 _ rfl).trans g3; have h4 := (hx 4 _ rfl).trans g4; have h5 := (hx 5 _ rfl).trans g5
 simp [ci, cs', Value.cells] at h0 h1 h2 h3 h4 h5
 obtain ⟨s0, q0, _, k0⟩ := DataW.trod_int Tryz.underlying3 h0; obtain ⟨s1, q1, _, k1⟩ := DataW.trod_int Tryz.underlying3 h1; obtain ⟨s2, q2, _, k2⟩ := DataW.trod_int Tryz.underlying3 h2; obtain ⟨s3, q3, _, k3⟩ := DataW.trod_int Tryz.underlying3 h3; obtain ⟨s4, q4, _, k4⟩ := DataW.trod_int Tryz.underlying3 h4; obtain ⟨s5, q5, _, k5⟩ := DataW.trod_string Tryz.underlying9 h5; simp only [List.cons.injEq, and_true] at q0 q1 q2 q3 q4 q5; subst q0; subst q1; subst q2; subst q3; subst q4; subst q5; exact ⟨⟨s0, s1, s2, s3, s4, s5⟩, rfl, k0, k1, k2, k3, k4, k5⟩
theorem jaF {A : Type} {l : List A} {i : Nat} {x : A} (p : A → Bool) (h : l[i]? = some x) : (l.drop i).any p = (p x || (l.drop (i + 1)).any p) := by
 have hi : i < l.length := (List.getElem?_eq_some_iff.1 h).1; have e : l[i] = x := (List.getElem?_eq_some_iff.1 h).2; rw [List.drop_eq_getElem_cons hi, e]; rfl
theorem idxS {A : Type} (l : List A) (p : A → Bool) (V0 : A → Value) (a : Option Addr) (c f : Nat) (cap : Array Value) (eg : ∀ args w, (callFunc f args).run Tryz.prog w = .ok (.enter f args) w) (w : World) (hm : l.length ≤ maxLen)
 (hL : ∀ (i : Nat) (x : A), l[i]? = some x → ∀ u, Below w.heap.size w u → ∃ b o, a = some ⟨b, o, none⟩ ∧ u.cell? ⟨b, o + i, none⟩ = some (V0 x))
 (hf : ∀ (i : Nat) (x : A), l[i]? = some x → ∀ u, Below w.heap.size w u → Calls Tryz.prog f (#[V0 x] ++ cap) u fun e u' => e = .returned (.bool (p x)) ∧ Below u.heap.size u u') :
 Calls Tryz.prog 169 #[.slice a l.length c, .func (.func f) #[] cap] w fun e w' => (∃ z : Int, e = .returned (.int .i64 z) ∧ decide (0 ≤ z) = l.any p) ∧ Below w.heap.size w w' := by
 have HL := hid hL; have HF := hid hf; unfold maxLen at hm; have HN : Hid (l.any p = (l.drop 0).any p) := rfl; clear hL hf; go_enter Tryz.func169, Tryz.ntmps169; go_wp2
 go_loopw [8] (fun v wr => ∃ i : Nat, i ≤ l.length ∧ v = .int .i64 i ∧ Hid (Below w.heap.size w wr) ∧ Hid (l.any p = (l.drop i).any p)) (fun v _ => l.length - (intOf v).toNat)
 case atStart => exact ⟨0, Nat.zero_le _, rfl, Below.refl _ _, HN⟩
 case round =>
  obtain ⟨i, hi, rfl, HB, HI⟩ := hrel
  by_cases hlt : i < l.length
  · have i1 : (i : Int) < (l.length : Int) := by omega
    have i0 : (0 : Int) ≤ (i : Int) := by omega
    obtain ⟨x, hx⟩ : ∃ x, l[i]? = some x := ⟨_, List.getElem?_eq_getElem hlt⟩; have HS := hid (jaF p hx); have HC := hid (HF.out i x hx wr HB.out); obtain ⟨b, o, rfl, e0⟩ := HL.out i x hx wr HB.out; clear hx; cases hp : p x with
    | true =>
      have HE := hid (show l.any p = true by rw [HI.out, HS.out, hp]; rfl); rw [hp] at HC; clear hp
      go_wp2_with (go_at_fn f; refine Calls.mono HC.out ?_; rintro e u ⟨rfl, hb⟩)
      have HB2 := hid (HB.out.trans (hb.mono HB.out.size)); go_ret; exact ⟨⟨_, rfl, by rw [HE.out]; simp⟩, HB2.out⟩
    | false =>
      have HE := hid (show l.any p = (l.drop (i + 1)).any p by rw [HI.out, HS.out, hp]; rfl); rw [hp] at HC; clear hp
      go_wp2_with (go_at_fn f; refine Calls.mono HC.out ?_; rintro e u ⟨rfl, hb⟩)
      have HB2 := hid (HB.out.trans (hb.mono HB.out.size))
      go_roundw
      case rel => first | exact ⟨i + 1, by omega, by go_num, HB2, HE⟩ | ((repeat apply Exists.intro); exact ⟨⟨i + 1, by omega, by go_num, HB2, HE⟩, rfl⟩) | (refine ⟨trivial, ?_⟩; (repeat apply Exists.intro); exact ⟨⟨i + 1, by omega, by go_num, HB2, HE⟩, rfl⟩)
      case measure => simp [intOf]; omega
  · have i1 : ¬ (i : Int) < (l.length : Int) := by omega
    have HE := hid (show l.any p = false by rw [HI.out, List.drop_eq_nil_of_le (by omega)]; rfl); go_wp2; go_ret; exact ⟨⟨_, rfl, by rw [HE.out]; rfl⟩, HB.out⟩
theorem conS {A : Type} (l : List A) (p : A → Bool) (V0 : A → Value) (a : Option Addr) (c f : Nat) (cap : Array Value) (eg : ∀ args w, (callFunc f args).run Tryz.prog w = .ok (.enter f args) w) (w : World) (hm : l.length ≤ maxLen)
 (hL : ∀ (i : Nat) (x : A), l[i]? = some x → ∀ u, Below w.heap.size w u → ∃ b o, a = some ⟨b, o, none⟩ ∧ u.cell? ⟨b, o + i, none⟩ = some (V0 x))
 (hf : ∀ (i : Nat) (x : A), l[i]? = some x → ∀ u, Below w.heap.size w u → Calls Tryz.prog f (#[V0 x] ++ cap) u fun e u' => e = .returned (.bool (p x)) ∧ Below u.heap.size u u') :
 Calls Tryz.prog 127 #[.slice a l.length c, .func (.func f) #[] cap] w fun e w' => e = .returned (.bool (l.any p)) ∧ Below w.heap.size w w' := by
 have HI := hid (idxS l p V0 a c f cap eg w hm hL hf); obtain ⟨q, hq⟩ : ∃ q, q = l.any p := ⟨_, rfl⟩; rw [← hq] at HI; rw [← hq]; clear hL hf hq; go_enter Tryz.func127, Tryz.ntmps127; go_wp2_with fail; refine HI.out.mono ?_; rintro e w1 ⟨⟨z, rfl, hz⟩, hb⟩; simp only; have HZ := hid hz; have HB := hid hb; clear hz hb; go_wp2; go_ret; exact ⟨jg HZ.out, HB.out⟩
theorem idxF {A : Type} (l : List A) (p : A → Bool) (V0 V1 : A → Value) (a : Option Addr) (c f : Nat) (cap : Array Value) (eg : ∀ args w, (callFunc f args).run Tryz.prog w = .ok (.enter f args) w) (w : World) (hm : l.length ≤ maxLen)
 (hL : ∀ (i : Nat) (x : A), l[i]? = some x → ∀ u, Below w.heap.size w u → ∃ b o, a = some ⟨b, o, none⟩ ∧ u.cell? ⟨b, o + i * 2, none⟩ = some (V0 x) ∧ u.cell? ⟨b, o + i * 2 + 1, none⟩ = some (V1 x))
 (hf : ∀ (i : Nat) (x : A), l[i]? = some x → ∀ u, Below w.heap.size w u → Calls Tryz.prog f (#[.agg #[V0 x, V1 x]] ++ cap) u fun e u' => e = .returned (.bool (p x)) ∧ Below u.heap.size u u') :
 Calls Tryz.prog 190 #[.slice a l.length c, .func (.func f) #[] cap] w fun e w' => (∃ z : Int, e = .returned (.int .i64 z) ∧ decide (0 ≤ z) = l.any p) ∧ Below w.heap.size w w' := by
 have HL := hid hL; have HF := hid hf; unfold maxLen at hm; have HN : Hid (l.any p = (l.drop 0).any p) := rfl; clear hL hf; go_enter Tryz.func190, Tryz.ntmps190; go_wp2
 go_loopw [8] (fun v wr => ∃ i : Nat, i ≤ l.length ∧ v = .int .i64 i ∧ Hid (Below w.heap.size w wr) ∧ Hid (l.any p = (l.drop i).any p)) (fun v _ => l.length - (intOf v).toNat)
 case atStart => exact ⟨0, Nat.zero_le _, rfl, Below.refl _ _, HN⟩
 case round =>
  obtain ⟨i, hi, rfl, HB, HI⟩ := hrel
  by_cases hlt : i < l.length
  · have i1 : (i : Int) < (l.length : Int) := by omega
    have i0 : (0 : Int) ≤ (i : Int) := by omega
    obtain ⟨x, hx⟩ : ∃ x, l[i]? = some x := ⟨_, List.getElem?_eq_getElem hlt⟩; have HS := hid (jaF p hx); have HC := hid (HF.out i x hx wr HB.out); obtain ⟨b, o, rfl, e0, e1⟩ := HL.out i x hx wr HB.out; clear hx; cases hp : p x with
    | true =>
      have HE := hid (show l.any p = true by rw [HI.out, HS.out, hp]; rfl); rw [hp] at HC; clear hp
      go_wp2_with (go_at_fn f; refine Calls.mono HC.out ?_; rintro e u ⟨rfl, hb⟩)
      have HB2 := hid (HB.out.trans (hb.mono HB.out.size)); go_ret; exact ⟨⟨_, rfl, by rw [HE.out]; simp⟩, HB2.out⟩
    | false =>
      have HE := hid (show l.any p = (l.drop (i + 1)).any p by rw [HI.out, HS.out, hp]; rfl); rw [hp] at HC; clear hp
      go_wp2_with (go_at_fn f; refine Calls.mono HC.out ?_; rintro e u ⟨rfl, hb⟩)
      have HB2 := hid (HB.out.trans (hb.mono HB.out.size))
      go_roundw
      case rel => first | exact ⟨i + 1, by omega, by go_num, HB2, HE⟩ | ((repeat apply Exists.intro); exact ⟨⟨i + 1, by omega, by go_num, HB2, HE⟩, rfl⟩) | (refine ⟨trivial, ?_⟩; (repeat apply Exists.intro); exact ⟨⟨i + 1, by omega, by go_num, HB2, HE⟩, rfl⟩)
      case measure => simp [intOf]; omega
  · have i1 : ¬ (i : Int) < (l.length : Int) := by omega
    have HE := hid (show l.any p = false by rw [HI.out, List.drop_eq_nil_of_le (by omega)]; rfl); go_wp2; go_ret; exact ⟨⟨_, rfl, by rw [HE.out]; rfl⟩, HB.out⟩
theorem conF {A : Type} (l : List A) (p : A → Bool) (V0 V1 : A → Value) (a : Option Addr) (c f : Nat) (cap : Array Value) (eg : ∀ args w, (callFunc f args).run Tryz.prog w = .ok (.enter f args) w) (w : World) (hm : l.length ≤ maxLen)
 (hL : ∀ (i : Nat) (x : A), l[i]? = some x → ∀ u, Below w.heap.size w u → ∃ b o, a = some ⟨b, o, none⟩ ∧ u.cell? ⟨b, o + i * 2, none⟩ = some (V0 x) ∧ u.cell? ⟨b, o + i * 2 + 1, none⟩ = some (V1 x))
 (hf : ∀ (i : Nat) (x : A), l[i]? = some x → ∀ u, Below w.heap.size w u → Calls Tryz.prog f (#[.agg #[V0 x, V1 x]] ++ cap) u fun e u' => e = .returned (.bool (p x)) ∧ Below u.heap.size u u') :
 Calls Tryz.prog 161 #[.slice a l.length c, .func (.func f) #[] cap] w fun e w' => e = .returned (.bool (l.any p)) ∧ Below w.heap.size w w' := by
 have HI := hid (idxF l p V0 V1 a c f cap eg w hm hL hf); obtain ⟨q, hq⟩ : ∃ q, q = l.any p := ⟨_, rfl⟩; rw [← hq] at HI; rw [← hq]; clear hL hf hq; go_enter Tryz.func161, Tryz.ntmps161; go_wp2_with fail; refine HI.out.mono ?_; rintro e w1 ⟨⟨z, rfl, hz⟩, hb⟩; simp only; have HZ := hid hz; have HB := hid hb; clear hz hb; go_wp2; go_ret; exact ⟨jg HZ.out, HB.out⟩
theorem idxD {A : Type} (l : List A) (p : A → Bool) (V0 V1 : A → Value) (a : Option Addr) (c f : Nat) (cap : Array Value) (eg : ∀ args w, (callFunc f args).run Tryz.prog w = .ok (.enter f args) w) (w : World) (hm : l.length ≤ maxLen)
 (hL : ∀ (i : Nat) (x : A), l[i]? = some x → ∀ u, Below w.heap.size w u → ∃ b o, a = some ⟨b, o, none⟩ ∧ u.cell? ⟨b, o + i * 2, none⟩ = some (V0 x) ∧ u.cell? ⟨b, o + i * 2 + 1, none⟩ = some (V1 x))
 (hf : ∀ (i : Nat) (x : A), l[i]? = some x → ∀ u, Below w.heap.size w u → Calls Tryz.prog f (#[.agg #[V0 x, V1 x]] ++ cap) u fun e u' => e = .returned (.bool (p x)) ∧ Below u.heap.size u u') :
 Calls Tryz.prog 193 #[.slice a l.length c, .func (.func f) #[] cap] w fun e w' => (∃ z : Int, e = .returned (.int .i64 z) ∧ decide (0 ≤ z) = l.any p) ∧ Below w.heap.size w w' := by
 have HL := hid hL; have HF := hid hf; unfold maxLen at hm; have HN : Hid (l.any p = (l.drop 0).any p) := rfl; clear hL hf; go_enter Tryz.func193, Tryz.ntmps193; go_wp2
 go_loopw [8] (fun v wr => ∃ i : Nat, i ≤ l.length ∧ v = .int .i64 i ∧ Hid (Below w.heap.size w wr) ∧ Hid (l.any p = (l.drop i).any p)) (fun v _ => l.length - (intOf v).toNat)
 case atStart => exact ⟨0, Nat.zero_le _, rfl, Below.refl _ _, HN⟩
 case round =>
  obtain ⟨i, hi, rfl, HB, HI⟩ := hrel
  by_cases hlt : i < l.length
  · have i1 : (i : Int) < (l.length : Int) := by omega
    have i0 : (0 : Int) ≤ (i : Int) := by omega
    obtain ⟨x, hx⟩ : ∃ x, l[i]? = some x := ⟨_, List.getElem?_eq_getElem hlt⟩; have HS := hid (jaF p hx); have HC := hid (HF.out i x hx wr HB.out); obtain ⟨b, o, rfl, e0, e1⟩ := HL.out i x hx wr HB.out; clear hx; cases hp : p x with
    | true =>
      have HE := hid (show l.any p = true by rw [HI.out, HS.out, hp]; rfl); rw [hp] at HC; clear hp
      go_wp2_with (go_at_fn f; refine Calls.mono HC.out ?_; rintro e u ⟨rfl, hb⟩)
      have HB2 := hid (HB.out.trans (hb.mono HB.out.size)); go_ret; exact ⟨⟨_, rfl, by rw [HE.out]; simp⟩, HB2.out⟩
    | false =>
      have HE := hid (show l.any p = (l.drop (i + 1)).any p by rw [HI.out, HS.out, hp]; rfl); rw [hp] at HC; clear hp
      go_wp2_with (go_at_fn f; refine Calls.mono HC.out ?_; rintro e u ⟨rfl, hb⟩)
      have HB2 := hid (HB.out.trans (hb.mono HB.out.size))
      go_roundw
      case rel => first | exact ⟨i + 1, by omega, by go_num, HB2, HE⟩ | ((repeat apply Exists.intro); exact ⟨⟨i + 1, by omega, by go_num, HB2, HE⟩, rfl⟩) | (refine ⟨trivial, ?_⟩; (repeat apply Exists.intro); exact ⟨⟨i + 1, by omega, by go_num, HB2, HE⟩, rfl⟩)
      case measure => simp [intOf]; omega
  · have i1 : ¬ (i : Int) < (l.length : Int) := by omega
    have HE := hid (show l.any p = false by rw [HI.out, List.drop_eq_nil_of_le (by omega)]; rfl); go_wp2; go_ret; exact ⟨⟨_, rfl, by rw [HE.out]; rfl⟩, HB.out⟩
theorem conD {A : Type} (l : List A) (p : A → Bool) (V0 V1 : A → Value) (a : Option Addr) (c f : Nat) (cap : Array Value) (eg : ∀ args w, (callFunc f args).run Tryz.prog w = .ok (.enter f args) w) (w : World) (hm : l.length ≤ maxLen)
 (hL : ∀ (i : Nat) (x : A), l[i]? = some x → ∀ u, Below w.heap.size w u → ∃ b o, a = some ⟨b, o, none⟩ ∧ u.cell? ⟨b, o + i * 2, none⟩ = some (V0 x) ∧ u.cell? ⟨b, o + i * 2 + 1, none⟩ = some (V1 x))
 (hf : ∀ (i : Nat) (x : A), l[i]? = some x → ∀ u, Below w.heap.size w u → Calls Tryz.prog f (#[.agg #[V0 x, V1 x]] ++ cap) u fun e u' => e = .returned (.bool (p x)) ∧ Below u.heap.size u u') :
 Calls Tryz.prog 167 #[.slice a l.length c, .func (.func f) #[] cap] w fun e w' => e = .returned (.bool (l.any p)) ∧ Below w.heap.size w w' := by
 have HI := hid (idxD l p V0 V1 a c f cap eg w hm hL hf); obtain ⟨q, hq⟩ : ∃ q, q = l.any p := ⟨_, rfl⟩; rw [← hq] at HI; rw [← hq]; clear hL hf hq; go_enter Tryz.func167, Tryz.ntmps167; go_wp2_with fail; refine HI.out.mono ?_; rintro e w1 ⟨⟨z, rfl, hz⟩, hb⟩; simp only; have HZ := hid hz; have HB := hid hb; clear hz hb; go_wp2; go_ret; exact ⟨jg HZ.out, HB.out⟩
theorem idxT {A : Type} (l : List A) (p : A → Bool) (V0 V1 V2 V3 V4 V5 V6 V7 : A → Value) (a : Option Addr) (c f : Nat) (cap : Array Value) (eg : ∀ args w, (callFunc f args).run Tryz.prog w = .ok (.enter f args) w) (w : World) (hm : l.length ≤ maxLen)
 (hL : ∀ (i : Nat) (x : A), l[i]? = some x → ∀ u, Below w.heap.size w u → ∃ b o, a = some ⟨b, o, none⟩ ∧ u.cell? ⟨b, o + i * 8, none⟩ = some (V0 x) ∧ u.cell? ⟨b, o + i * 8 + 1, none⟩ = some (V1 x) ∧ u.cell? ⟨b, o + i * 8 + 2, none⟩ = some (V2 x) ∧ u.cell? ⟨b, o + i * 8 + 3, none⟩ = some (V3 x) ∧ u.cell? ⟨b, o + i * 8 + 4, none⟩ = some (V4 x) ∧ u.cell? ⟨b, o + i * 8 + 5, none⟩ = some (V5 x) ∧ u.cell? ⟨b, o + i * 8 + 6, none⟩ = some (V6 x) ∧ u.cell? ⟨b, o + i * 8 + 7, none⟩ = some (V7 x))
 (hf : ∀ (i : Nat) (x : A), l[i]? = some x → ∀ u, Below w.heap.size w u → Calls Tryz.prog f (#[.agg #[V0 x, V1 x, V2 x, V3 x, V4 x, V5 x, V6 x, V7 x]] ++ cap) u fun e u' => e = .returned (.bool (p x)) ∧ Below u.heap.size u u') :
 Calls Tryz.prog 160 #[.slice a l.length c, .func (.func f) #[] cap] w fun e w' => (∃ z : Int, e = .returned (.int .i64 z) ∧ decide (0 ≤ z) = l.any p) ∧ Below w.heap.size w w' := by
 have HL := hid hL; have HF := hid hf; unfold maxLen at hm; have HN : Hid (l.any p = (l.drop 0).any p) := rfl; clear hL hf; go_enter Tryz.func160, Tryz.ntmps160; go_wp2
 go_loopw [8] (fun v wr => ∃ i : Nat, i ≤ l.length ∧ v = .int .i64 i ∧ Hid (Below w.heap.size w wr) ∧ Hid (l.any p = (l.drop i).any p)) (fun v _ => l.length - (intOf v).toNat)
 case atStart => exact ⟨0, Nat.zero_le _, rfl, Below.refl _ _, HN⟩
 case round =>
  obtain ⟨i, hi, rfl, HB, HI⟩ := hrel
  by_cases hlt : i < l.length
  · have i1 : (i : Int) < (l.length : Int) := by omega
    have i0 : (0 : Int) ≤ (i : Int) := by omega
    obtain ⟨x, hx⟩ : ∃ x, l[i]? = some x := ⟨_, List.getElem?_eq_getElem hlt⟩; have HS := hid (jaF p hx); have HC := hid (HF.out i x hx wr HB.out); obtain ⟨b, o, rfl, e0, e1, e2, e3, e4, e5, e6, e7⟩ := HL.out i x hx wr HB.out; clear hx; cases hp : p x with
    | true =>
      have HE := hid (show l.any p = true by rw [HI.out, HS.out, hp]; rfl); rw [hp] at HC; clear hp
      go_wp2_with (go_at_fn f; refine Calls.mono HC.out ?_; rintro e u ⟨rfl, hb⟩)
      have HB2 := hid (HB.out.trans (hb.mono HB.out.size)); go_ret; exact ⟨⟨_, rfl, by rw [HE.out]; simp⟩, HB2.out⟩
    | false =>
      have HE := hid (show l.any p = (l.drop (i + 1)).any p by rw [HI.out, HS.out, hp]; rfl); rw [hp] at HC; clear hp
      go_wp2_with (go_at_fn f; refine Calls.mono HC.out ?_; rintro e u ⟨rfl, hb⟩)
      have HB2 := hid (HB.out.trans (hb.mono HB.out.size))
      go_roundw
      case rel => first | exact ⟨i + 1, by omega, by go_num, HB2, HE⟩ | ((repeat apply Exists.intro); exact ⟨⟨i + 1, by omega, by go_num, HB2, HE⟩, rfl⟩) | (refine ⟨trivial, ?_⟩; (repeat apply Exists.intro); exact ⟨⟨i + 1, by omega, by go_num, HB2, HE⟩, rfl⟩)
      case measure => simp [intOf]; omega
  · have i1 : ¬ (i : Int) < (l.length : Int) := by omega
    have HE := hid (show l.any p = false by rw [HI.out, List.drop_eq_nil_of_le (by omega)]; rfl); go_wp2; go_ret; exact ⟨⟨_, rfl, by rw [HE.out]; rfl⟩, HB.out⟩
theorem conT {A : Type} (l : List A) (p : A → Bool) (V0 V1 V2 V3 V4 V5 V6 V7 : A → Value) (a : Option Addr) (c f : Nat) (cap : Array Value) (eg : ∀ args w, (callFunc f args).run Tryz.prog w = .ok (.enter f args) w) (w : World) (hm : l.length ≤ maxLen)
 (hL : ∀ (i : Nat) (x : A), l[i]? = some x → ∀ u, Below w.heap.size w u → ∃ b o, a = some ⟨b, o, none⟩ ∧ u.cell? ⟨b, o + i * 8, none⟩ = some (V0 x) ∧ u.cell? ⟨b, o + i * 8 + 1, none⟩ = some (V1 x) ∧ u.cell? ⟨b, o + i * 8 + 2, none⟩ = some (V2 x) ∧ u.cell? ⟨b, o + i * 8 + 3, none⟩ = some (V3 x) ∧ u.cell? ⟨b, o + i * 8 + 4, none⟩ = some (V4 x) ∧ u.cell? ⟨b, o + i * 8 + 5, none⟩ = some (V5 x) ∧ u.cell? ⟨b, o + i * 8 + 6, none⟩ = some (V6 x) ∧ u.cell? ⟨b, o + i * 8 + 7, none⟩ = some (V7 x))
 (hf : ∀ (i : Nat) (x : A), l[i]? = some x → ∀ u, Below w.heap.size w u → Calls Tryz.prog f (#[.agg #[V0 x, V1 x, V2 x, V3 x, V4 x, V5 x, V6 x, V7 x]] ++ cap) u fun e u' => e = .returned (.bool (p x)) ∧ Below u.heap.size u u') :
 Calls Tryz.prog 119 #[.slice a l.length c, .func (.func f) #[] cap] w fun e w' => e = .returned (.bool (l.any p)) ∧ Below w.heap.size w w' := by
 have HI := hid (idxT l p V0 V1 V2 V3 V4 V5 V6 V7 a c f cap eg w hm hL hf); obtain ⟨q, hq⟩ : ∃ q, q = l.any p := ⟨_, rfl⟩; rw [← hq] at HI; rw [← hq]; clear hL hf hq; go_enter Tryz.func119, Tryz.ntmps119; go_wp2_with fail; refine HI.out.mono ?_; rintro e w1 ⟨⟨z, rfl, hz⟩, hb⟩; simp only; have HZ := hid hz; have HB := hid hb; clear hz hb; go_wp2; go_ret; exact ⟨jg HZ.out, HB.out⟩
theorem idxA {A : Type} (l : List A) (p : A → Bool) (V0 V1 V2 : A → Value) (a : Option Addr) (c f : Nat) (cap : Array Value) (eg : ∀ args w, (callFunc f args).run Tryz.prog w = .ok (.enter f args) w) (w : World) (hm : l.length ≤ maxLen)
 (hL : ∀ (i : Nat) (x : A), l[i]? = some x → ∀ u, Below w.heap.size w u → ∃ b o, a = some ⟨b, o, none⟩ ∧ u.cell? ⟨b, o + i * 3, none⟩ = some (V0 x) ∧ u.cell? ⟨b, o + i * 3 + 1, none⟩ = some (V1 x) ∧ u.cell? ⟨b, o + i * 3 + 2, none⟩ = some (V2 x))
 (hf : ∀ (i : Nat) (x : A), l[i]? = some x → ∀ u, Below w.heap.size w u → Calls Tryz.prog f (#[.agg #[V0 x, V1 x, V2 x]] ++ cap) u fun e u' => e = .returned (.bool (p x)) ∧ Below u.heap.size u u') :
 Calls Tryz.prog 205 #[.slice a l.length c, .func (.func f) #[] cap] w fun e w' => (∃ z : Int, e = .returned (.int .i64 z) ∧ decide (0 ≤ z) = l.any p) ∧ Below w.heap.size w w' := by
 have HL := hid hL; have HF := hid hf; unfold maxLen at hm; have HN : Hid (l.any p = (l.drop 0).any p) := rfl; clear hL hf; go_enter Tryz.func205, Tryz.ntmps205; go_wp2
 go_loopw [8] (fun v wr => ∃ i : Nat, i ≤ l.length ∧ v = .int .i64 i ∧ Hid (Below w.heap.size w wr) ∧ Hid (l.any p = (l.drop i).any p)) (fun v _ => l.length - (intOf v).toNat)
 case atStart => exact ⟨0, Nat.zero_le _, rfl, Below.refl _ _, HN⟩
 case round =>
  obtain ⟨i, hi, rfl, HB, HI⟩ := hrel
  by_cases hlt : i < l.length
  · have i1 : (i : Int) < (l.length : Int) := by omega
    have i0 : (0 : Int) ≤ (i : Int) := by omega
    obtain ⟨x, hx⟩ : ∃ x, l[i]? = some x := ⟨_, List.getElem?_eq_getElem hlt⟩; have HS := hid (jaF p hx); have HC := hid (HF.out i x hx wr HB.out); obtain ⟨b, o, rfl, e0, e1, e2⟩ := HL.out i x hx wr HB.out; clear hx; cases hp : p x with
    | true =>
      have HE := hid (show l.any p = true by rw [HI.out, HS.out, hp]; rfl); rw [hp] at HC; clear hp
      go_wp2_with (go_at_fn f; refine Calls.mono HC.out ?_; rintro e u ⟨rfl, hb⟩)
      have HB2 := hid (HB.out.trans (hb.mono HB.out.size)); go_ret; exact ⟨⟨_, rfl, by rw [HE.out]; simp⟩, HB2.out⟩
    | false =>
      have HE := hid (show l.any p = (l.drop (i + 1)).any p by rw [HI.out, HS.out, hp]; rfl); rw [hp] at HC; clear hp
      go_wp2_with (go_at_fn f; refine Calls.mono HC.out ?_; rintro e u ⟨rfl, hb⟩)
      have HB2 := hid (HB.out.trans (hb.mono HB.out.size))
      go_roundw
      case rel => first | exact ⟨i + 1, by omega, by go_num, HB2, HE⟩ | ((repeat apply Exists.intro); exact ⟨⟨i + 1, by omega, by go_num, HB2, HE⟩, rfl⟩) | (refine ⟨trivial, ?_⟩; (repeat apply Exists.intro); exact ⟨⟨i + 1, by omega, by go_num, HB2, HE⟩, rfl⟩)
      case measure => simp [intOf]; omega
  · have i1 : ¬ (i : Int) < (l.length : Int) := by omega
    have HE := hid (show l.any p = false by rw [HI.out, List.drop_eq_nil_of_le (by omega)]; rfl); go_wp2; go_ret; exact ⟨⟨_, rfl, by rw [HE.out]; rfl⟩, HB.out⟩
theorem conA {A : Type} (l : List A) (p : A → Bool) (V0 V1 V2 : A → Value) (a : Option Addr) (c f : Nat) (cap : Array Value) (eg : ∀ args w, (callFunc f args).run Tryz.prog w = .ok (.enter f args) w) (w : World) (hm : l.length ≤ maxLen)
 (hL : ∀ (i : Nat) (x : A), l[i]? = some x → ∀ u, Below w.heap.size w u → ∃ b o, a = some ⟨b, o, none⟩ ∧ u.cell? ⟨b, o + i * 3, none⟩ = some (V0 x) ∧ u.cell? ⟨b, o + i * 3 + 1, none⟩ = some (V1 x) ∧ u.cell? ⟨b, o + i * 3 + 2, none⟩ = some (V2 x))
 (hf : ∀ (i : Nat) (x : A), l[i]? = some x → ∀ u, Below w.heap.size w u → Calls Tryz.prog f (#[.agg #[V0 x, V1 x, V2 x]] ++ cap) u fun e u' => e = .returned (.bool (p x)) ∧ Below u.heap.size u u') :
 Calls Tryz.prog 188 #[.slice a l.length c, .func (.func f) #[] cap] w fun e w' => e = .returned (.bool (l.any p)) ∧ Below w.heap.size w w' := by
 have HI := hid (idxA l p V0 V1 V2 a c f cap eg w hm hL hf); obtain ⟨q, hq⟩ : ∃ q, q = l.any p := ⟨_, rfl⟩; rw [← hq] at HI; rw [← hq]; clear hL hf hq; go_enter Tryz.func188, Tryz.ntmps188; go_wp2_with fail; refine HI.out.mono ?_; rintro e w1 ⟨⟨z, rfl, hz⟩, hb⟩; simp only; have HZ := hid hz; have HB := hid hb; clear hz hb; go_wp2; go_ret; exact ⟨jg HZ.out, HB.out⟩
end Go.Proofs.YtgfbdgheencmaaaGreatDoor
