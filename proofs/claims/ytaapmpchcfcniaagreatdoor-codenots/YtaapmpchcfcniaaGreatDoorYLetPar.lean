/-
  What letter.isName does: the walk.
  Rows of fields in memory; what letter.isValue and letter.shownSize do: the walks.
  Rows of fields that a call makes.
  What letter.takeLine and letter.trimValues do: the walks. The fields are a row that the call has made itself; a line that goes on is written into it.
  What letter.trimValues and letter.Parse do: the walks.
  What letter.Parse does: the walk.
-/
import Derived.Test.YtaapmpchcfcniaaGreatDoorRows
import Derived.Test.YtaapmpchcfcniaaGreatDoorYQPure2
import Derived.Test.YtaapmpchcfcniaaGreatDoorShelf
import Derived.Deep.QuietTactic
import Derived.BigQuiet
import Derived.Deep.RegionLaw
import Derived.Deep.AppendLies
namespace Go.Proofs.YtaapmpchcfcniaaGreatDoor
open Go.RowKit
theorem jes (c : UInt8) : (qZ c = true ∧ ¬ (c.toNat : Int) < 33 ∧ ¬ 126 < (c.toNat : Int) ∧ ((c.toNat : Int) == 58) = false) ∨
    (qZ c = false ∧ ((c.toNat : Int) < 33 ∨ (¬ (c.toNat : Int) < 33 ∧ 126 < (c.toNat : Int)) ∨ (¬ (c.toNat : Int) < 33 ∧ ¬ 126 < (c.toNat : Int) ∧ ((c.toNat : Int) == 58) = true))) := by
  have e : c = 58 ↔ c.toNat = 58 := ⟨fun h => by rw [h]; rfl, fun h => UInt8.toNat_inj.1 (by rw [h]; rfl)⟩
  by_cases h1 : c.toNat < 33
  · right; exact ⟨by simp [qZ]; omega, .inl (by omega)⟩
  · by_cases h2 : 126 < c.toNat
    · right; exact ⟨by simp [qZ]; omega, .inr (.inl ⟨by omega, by omega⟩)⟩
    · by_cases h3 : c = 58
      · right; exact ⟨by simp [qZ, h3], .inr (.inr ⟨by omega, by omega, by subst h3; decide⟩)⟩
      · left; exact ⟨by simp [qZ, h3]; omega, by omega, by omega, by rw [beq_eq_false_iff_ne]; intro h; exact h3 (e.2 (by omega))⟩
theorem jlr {s : ByteArray} {k : Nat} (hk : k < s.size) (h : (s.data.toList.take k).all qZ = true) (hc : qZ s[k] = true) : (s.data.toList.take (k + 1)).all qZ = true := by
  rw [jdU s k hk, List.all_append, h]; simp [hc]
theorem jhV {s : ByteArray} {k : Nat} (hk : k < s.size) (hc : qZ s[k] = false) : zK s.data.toList = false := by
  have hm : s[k] ∈ s.data.toList := List.mem_of_getElem? (qA s k hk); cases h : zK s.data.toList with
  | false => rfl
  | true => simp only [zK, Bool.and_eq_true, List.all_eq_true] at h; rw [h.2 _ hm] at hc; cases hc
theorem jjH {s : ByteArray} {k : Nat} (hk : ¬ k < s.size) (h : (s.data.toList.take k).all qZ = true) : zK s.data.toList = !s.data.toList.isEmpty := by
  rw [List.take_of_length_le (by rw [size_list]; omega)] at h
  simp [zK, h]
set_option maxHeartbeats 400000 in
theorem vN (s : ByteArray) (w : World) (hs : s.size ≤ maxLen) :
    Calls Tryz.prog 65 #[.string s] w fun e w' => e = .returned (.bool (zK s.data.toList)) ∧ w' = w := by
  unfold maxLen at hs; go_enter Tryz.func65, Tryz.ntmps65; go_wp2
  go_loop [6] (fun i => ∃ k : Nat, k ≤ s.size ∧ i = .int .i64 k ∧ Hid ((s.data.toList.take k).all qZ = true)) (fun i => s.size - (intOf i).toNat)
  case atStart => exact ⟨0, Nat.zero_le _, rfl, by simp [Hid]⟩
  case round =>
    obtain ⟨k, hk, rfl, HA⟩ := hrel
    by_cases hlt : k < s.size
    · rcases jes s[k] with ⟨hc, h1, h2, h3⟩ | ⟨hc, h | ⟨h, h'⟩ | ⟨h, h', h''⟩⟩
      · have HC : Hid _ := hc; clear hc; go_wp2
        go_round
        case rel => exact ⟨k + 1, by omega, by go_num, jlr hlt HA.out HC.out⟩
        case measure => simp [intOf]; omega
      all_goals
        have HC : Hid _ := hc; clear hc; go_wp2; go_ret; exact ⟨jg (jhV hlt HC.out).symm, rfl⟩
    · go_wp2; go_ret; exact ⟨jg (by rw [jjH hlt HA.out, Lib.toList_data]), rfl⟩
end Go.Proofs.YtaapmpchcfcniaaGreatDoor
namespace Go.Proofs.YtaapmpchcfcniaaGreatDoor
open Go.RowKit
def FieldsAt (w : World) (a : Option Addr) (fs : List F) : Prop :=
  ∀ (i : Nat) f, fs[i]? = some f → ∃ b off, a = some ⟨b, off, none⟩ ∧ b < w.heap.size ∧ w.cell? ⟨b, off + i * 2, none⟩ = some (.string (S f.1)) ∧ w.cell? ⟨b, off + i * 2 + 1, none⟩ = some (.string (S f.2))
theorem FieldsAt.below {w w' : World} {a : Option Addr} {fs : List F} (h : FieldsAt w a fs) (hb : Below w.heap.size w w') : FieldsAt w' a fs := by
  intro i f hf; obtain ⟨b, off, ha, hlt, h1, h2⟩ := h i f hf; exact ⟨b, off, ha, Nat.lt_of_lt_of_le hlt hb.size, (hb.cell (p := ⟨b, off + i * 2, none⟩) hlt).trans h1, (hb.cell (p := ⟨b, off + i * 2 + 1, none⟩) hlt).trans h2⟩
theorem qm {w : World} {p : Addr} {v : Value} (h : w.cell? p = some v) (o : Obj) : (w.alloc o).cell? p = some v :=
  (((Below.refl w.heap.size w).alloc (Nat.le_refl _) o).cell (World.block_lt_of_cell? w _ h)).trans h
theorem jH {w w' : World} {p : Addr} {v : Value} (h : w.cell? p = some v) (hb : Below w.heap.size w w') : w'.cell? p = some v :=
  (hb.cell (World.block_lt_of_cell? w _ h)).trans h
theorem ja7 {B : Nat} {a w : World} (h : Below B a w) (n : Nat) : Below B a (w.drewN n) := h.trans ⟨rfl, rfl, rfl, Nat.le_refl _, fun _ _ => rfl⟩
theorem jfF {B : Nat} {a b c : World} (h : Below B a b) (k : Below b.heap.size b c) (hB : B ≤ a.heap.size) : Below B a c := h.trans (k.mono (Nat.le_trans hB h.size))
end Go.Proofs.YtaapmpchcfcniaaGreatDoor
namespace Go.Proofs.YtaapmpchcfcniaaGreatDoor
open Go.RowKit
theorem jdq : (Tryz.prog.info? 69).map (fun i => (i.zero, i.size, i.bytes)) = some (some (.agg #[.string ByteArray.empty, .string ByteArray.empty]), 2, 32) := by kernel_rfl
def zg (fs : List F) : List Value := fs.flatMap fun f => [.string (S f.1), .string (S f.2)]
theorem jag (a b : List F) : zg (a ++ b) = zg a ++ zg b := by simp [zg]
theorem jci (f : F) : zg [f] = [.string (S f.1), .string (S f.2)] := by simp [zg]
theorem jfJ {fs : List F} {i : Nat} {f : F} (h : fs[i]? = some f) : (zg fs)[i * 2]? = some (.string (S f.1)) ∧ (zg fs)[i * 2 + 1]? = some (.string (S f.2)) := by
  induction fs generalizing i with
  | nil => simp at h
  | cons g fs ih =>
    cases i with
    | zero => simp at h; subst h; simp [zg]
    | succ i =>
      have := ih (i := i) (by simpa using h); have e1 : (i + 1) * 2 = i * 2 + 2 := by omega
      rw [e1]
      simpa [zg] using this
theorem jfT {w : World} {base g cap : Nat} {fs : List F} (h : w.ownsRow base 69 2 (.slice (some ⟨g, 0, none⟩) fs.length cap) fs.length (zg fs)) (hg : g < w.heap.size) : FieldsAt w (some ⟨g, 0, none⟩) fs := by
  intro i f hf; have hi : i < fs.length := by
    rcases Nat.lt_or_ge i fs.length with h | h
    · exact h
    · rw [List.getElem?_eq_none h] at hf; cases hf
  obtain ⟨h1, h2⟩ := jfJ hf; refine ⟨g, 0, rfl, hg, ?_, ?_⟩
  · rw [Nat.zero_add, h.cellAt _ (by omega)]; exact h1
  · rw [Nat.zero_add, h.cellAt _ (by omega)]; exact h2
theorem qy {w : World} {p a : Addr} {v : Value} (h : p.block ≠ a.block) : (w.setCell p v).cell? a = w.cell? a :=
  World.cell?_of_block (heap_setCell_other w p a.block v (fun e => h e.symm))
theorem FieldsAt.set {w : World} {g : Nat} {fs : List F} (h : FieldsAt w (some ⟨g, 0, none⟩) fs) {p : Addr} (v : Value) (hp : p.block ≠ g) : FieldsAt (w.setCell p v) (some ⟨g, 0, none⟩) fs := by
  intro i f hf; obtain ⟨b, off, ha, hb, h1, h2⟩ := h i f hf; simp only [Option.some.injEq, Addr.mk.injEq, and_true] at ha; obtain ⟨rfl, rfl⟩ := ha; exact ⟨_, _, rfl, by simpa using hb, (qy hp).trans h1, (qy hp).trans h2⟩
theorem vJ (w : World) (a : Option Addr) : FieldsAt w a [] := by intro i f hf; simp at hf
end Go.Proofs.YtaapmpchcfcniaaGreatDoor
namespace Go.Proofs.YtaapmpchcfcniaaGreatDoor
open Go.RowKit
def OwnF (w : World) (B : Nat) (v : Value) (fs : List F) : Prop := w.ownsRow B 69 2 v fs.length (zg fs)
theorem jc1 {w : World} {base g cap n : Nat} {e : TypeId} {size : Nat} {xs : List Value} (h : w.ownsRow base e size (.slice (some ⟨g, 0, none⟩) n cap) n xs) (j : Nat) (u : Value) :
    (w.setCell ⟨g, j, none⟩ u).ownsRow base e size (.slice (some ⟨g, 0, none⟩) n cap) n (xs.set j u) := by
  refine ⟨by rw [List.length_set]; exact h.1, .inr ?_⟩
  rcases h.2 with ⟨h', _⟩ | ⟨g', cap', cur, h', hb, hg, h1, h2, h3, htake⟩
  · simp at h'
  · simp only [Value.slice.injEq, Option.some.injEq, Addr.mk.injEq, and_true, true_and] at h'; obtain ⟨rfl, rfl⟩ := h'; refine ⟨g, cap, cur.setIfInBounds j u, rfl, hb, heap_setCell_same w g j cur e u hg, h1, h2, by simpa using h3, ?_⟩; rw [Array.toList_setIfInBounds, List.take_set, htake]
theorem OwnF.form {w : World} {B : Nat} {v : Value} {fs : List F} (h : OwnF w B v fs) (h0 : fs ≠ []) : ∃ g cap, v = .slice (some ⟨g, 0, none⟩) fs.length cap ∧ B ≤ g ∧ g < w.heap.size :=
  World.ownsRow.form h (List.length_pos_iff.2 h0)
theorem OwnF.any {w : World} {B : Nat} {v : Value} {fs : List F} (h : OwnF w B v fs) : ∃ a cap, v = .slice a fs.length cap := by
  by_cases h0 : fs = []
  · rcases h.2 with ⟨rfl, hn⟩ | ⟨g, cap, cur, rfl, _⟩
    · subst h0; exact ⟨none, 0, rfl⟩
    · exact ⟨_, _, rfl⟩
  · obtain ⟨g, cap, rfl, _⟩ := h.form h0; exact ⟨_, _, rfl⟩
theorem OwnF.fields {w : World} {B : Nat} {a : Option Addr} {c : Nat} {fs : List F} (h : OwnF w B (.slice a fs.length c) fs) : FieldsAt w a fs := by
  by_cases h0 : fs = []
  · subst h0; exact vJ _ _
  · obtain ⟨g, cap, e, hb, hg⟩ := h.form h0; simp only [Value.slice.injEq, true_and] at e; obtain ⟨rfl, rfl⟩ := e; exact jfT h hg
theorem jaD {fs : List F} {i : Nat} {f : F} (h : fs[i]? = some f) (v : List UInt8) : (zg fs).set (i * 2 + 1) (.string (S v)) = zg (fs.set i (f.1, v)) := by
  induction fs generalizing i with
  | nil => simp at h
  | cons g fs ih =>
    cases i with
    | zero => simp at h; subst h; simp [zg]
    | succ i =>
      have := ih (i := i) (by simpa using h); have e1 : (i + 1) * 2 + 1 = (i * 2 + 1) + 2 := by omega
      rw [e1]
      simpa [zg] using this
theorem jaB {raw : List F} {line : List UInt8} {f : F} (h : raw[raw.length - 1]? = some f) : qR raw line = raw.set (raw.length - 1) (f.1, f.2 ++ line) := by
  have h0 : raw ≠ [] := by rintro rfl; simp at h
  have hl : raw.getLast? = some f := by rw [List.getLast?_eq_getElem?]; exact h
  have e : raw = raw.dropLast ++ [f] := by
    rw [List.getLast?_eq_some_getLast h0] at hl; have := List.dropLast_concat_getLast h0; rw [← this, Option.some.inj hl]; simp
  unfold qR; rw [hl]; simp only [Option.getD_some]; have hn : raw.length - 1 = raw.dropLast.length := by simp
  conv => rhs; rw [hn, e]
  rw [List.set_append_right _ _ (by simp)]
  simp
theorem jbr (c : UInt8) : (0 ≤ Lib.indexByte [32, 9] c) ↔ jA c = true := by
  unfold jA Lib.indexByte Lib.indexByte Lib.indexByte
  by_cases h1 : c = 32
  · subst h1; decide
  · by_cases h2 : c = 9
    · subst h2; decide
    · have e1 : (32 == c) = false := by simpa using fun h => h1 h.symm
      have e2 : (9 == c) = false := by simpa using fun h => h2 h.symm
      simp [e1, e2, h1, h2]
theorem jiJ (c : UInt8) : ((c.toNat : Int)).toNat.toUInt8 = c := by simp
set_option maxHeartbeats 2000000 in
theorem jlP (B : Nat) (v : Value) (fs : List F) (line : ByteArray) (w : World) (hO : OwnF w B v fs) (hl : line.size ≤ 5000) (hb : ∀ f ∈ fs, f.2.length ≤ 5000) (hn : fs.length ≤ 30) (h : zF fs line.data.toList = true) :
    Calls Tryz.prog 82 #[v, .string line] w fun e w' => e = .returned (.tuple #[v, .int .i64 0]) ∧ OwnF w' B v (qR fs line.data.toList) ∧ Below B w w' := by
  have h0 : fs ≠ [] := by rintro rfl; simp [zF] at h
  have hpos : 0 < fs.length := List.length_pos_iff.2 h0; obtain ⟨g, cap, rfl, hB, hg⟩ := hO.form h0; obtain ⟨f, hf⟩ : ∃ f, fs[fs.length - 1]? = some f := ⟨_, List.getElem?_eq_getElem (by omega)⟩; obtain ⟨b, off, ha, _, h1, h2⟩ := (OwnF.fields hO) _ f hf; simp only [Option.some.injEq, Addr.mk.injEq, and_true] at ha; obtain ⟨rfl, rfl⟩ := ha; rw [Nat.zero_add] at h1 h2; have hfz : w.frozen? ⟨g, (fs.length - 1) * 2 + 1, none⟩ = false := World.ownsRow.frozenAt hO _; have hp : 0 < line.size := by
    rcases Nat.eq_zero_or_pos line.size with e | e
    · have : line.data.toList = [] := List.length_eq_zero_iff.1 (by rw [size_list]; exact e)
      simp [zF, this] at h
    · exact e
  have hbl : jA line[0] = true := by
    have e : line.data.toList.head? = some line[0] := by rw [List.head?_eq_getElem?]; exact qA line 0 hp
    simp only [zF, e, Option.map_some, Option.getD_some, Bool.and_eq_true] at h; exact h.2
  have hs2 : (S f.2).size ≤ 5000 := by rw [jt]; exact hb f (List.mem_of_getElem? hf)
  have HI : Hid (0 ≤ Lib.indexByte [32, 9] line[0]) := (jbr _).2 hbl; have HW : Hid (∀ x : ByteArray, x = S f.2 ++ line → OwnF (w.setCell ⟨g, (fs.length - 1) * 2 + 1, none⟩ (.string x)) B (.slice (some ⟨g, 0, none⟩) fs.length cap) (qR fs line.data.toList)) := by
    intro x hx; have hx2 : x = S (f.2 ++ line.data.toList) := by
      rw [hx, ← qe (S f.2 ++ line)]
      simp [ByteArray.data_append, jp]
    have := jc1 hO ((fs.length - 1) * 2 + 1) (.string x); rw [hx2, jaD hf, ← jaB hf] at this; have el : (qR fs line.data.toList).length = fs.length := by rw [jaB hf, List.length_set]
    unfold OwnF; rw [el, hx2]; exact this
  clear h hbl hb hf hO; have hk1 : ((fs.length : Nat) : Int) - 1 = ((fs.length - 1 : Nat) : Int) := by omega
  go_enter Tryz.func82, Tryz.ntmps82; go_wp2_with fail; refine (indexByte_any _ _ _).mono ?_; rintro e u ⟨rfl, rfl⟩; obtain ⟨m, hm⟩ : ∃ m : Nat, Lib.indexByte (⟨#[32, 9]⟩ : ByteArray).data.toList ((line[0].toNat : Int)).toNat.toUInt8 = (m : Int) := by
    rw [jiJ]; exact ⟨(Lib.indexByte [32, 9] line[0]).toNat, by have := HI.out; show Lib.indexByte [32, 9] line[0] = _; omega⟩
  rw [hm]; clear hm; go_wp2; go_ret2; exact ⟨rfl, HW.out _ rfl, (Below.refl _ _).setCell hB _⟩
theorem index_none {c : UInt8} (h : jA c = false) : Lib.indexByte [32, 9] c = -1 := by
  have h1 : ¬ 0 ≤ Lib.indexByte [32, 9] c := fun h0 => by rw [(jbr c).1 h0] at h; cases h
  unfold jA at h; simp only [Bool.or_eq_false_iff, beq_eq_false_iff_ne] at h; have e1 : (32 == c) = false := by simpa using fun e => h.1 e.symm
  have e2 : (9 == c) = false := by simpa using fun e => h.2 e.symm
  simp [Lib.indexByte, e1, e2]
theorem je5 {fs : List F} {line : ByteArray} (hp : 0 < line.size) (h : zF fs line.data.toList = false) : fs = [] ∨ (0 < fs.length ∧ Hid (Lib.indexByte (⟨#[32, 9]⟩ : ByteArray).data.toList ((line[0].toNat : Int)).toNat.toUInt8 = -1)) := by
  by_cases h0 : fs = []
  · exact .inl h0
  · right
    refine ⟨List.length_pos_iff.2 h0, ?_⟩; have e : line.data.toList.head? = some line[0] := by rw [List.head?_eq_getElem?]; exact qA line 0 hp
    have hb : jA line[0] = false := by
      simp only [zF, e, Option.map_some, Option.getD_some, Bool.and_eq_false_iff] at h
      rcases h with h | h
      · cases fs with
        | nil => exact absurd rfl h0
        | cons a t => simp at h
      · exact h
    unfold Hid; rw [jiJ]; exact index_none hb
theorem qT (w : World) (x y : Value) (t : TypeId) : ∀ (j : Nat) u, [x, y][j]? = some u → (w.alloc (.cells #[x, y] t)).cell? ((⟨w.heap.size, 0, none⟩ : Addr).add j) = some u := by
  intro j u hj; rw [Addr.add_lit, Nat.zero_add]
  match j, hj with
  | 0, hj => simp at hj; subst hj; simp
  | 1, hj => simp at hj; subst hj; simp
theorem jg5 (s : ByteArray) (l a b : List UInt8) (t : Bool) (sep : ByteArray) (hl : sep.data.toList = l) (h : Lib.cut s.data.toList l = (a, b, t)) :
    (⟨(Lib.cut s.data.toList sep.data.toList).1.toArray⟩ : ByteArray) = S a ∧ (⟨(Lib.cut s.data.toList sep.data.toList).2.1.toArray⟩ : ByteArray) = S b ∧ (Lib.cut s.data.toList sep.data.toList).2.2 = t := by
  rw [hl, h]; exact ⟨rfl, rfl, rfl⟩
theorem qU (s sep : ByteArray) (l a b : List UInt8) (t : Bool) (hl : sep.data.toList = l) (h : Lib.cut s.data.toList l = (a, b, t)) (w : World) (hs : s.size < 4294967281) (hm : maxLenCell w) :
    Calls Tryz.prog 80 #[.string s, .string sep] w fun e w' => e = .returned (.tuple #[.string (S a), .string (S b), .bool t]) ∧ ∃ n, w' = w.drewN n := by
  have := cutS_any s sep w hs hm; obtain ⟨e1, e2, e3⟩ := jg5 s l a b t sep hl h
  rwa [e1, e2, e3] at this
theorem jak (l : List UInt8) (b : Bool) (h : zK l = b) (hl : l.length ≤ 5000) (w : World) :
    Calls Tryz.prog 65 #[.string (S l)] w fun e w' => e = .returned (.bool b) ∧ w' = w := by
  have := vN (S l) w (by rw [jt]; unfold maxLen; omega)
  rwa [jp, h] at this
set_option maxHeartbeats 2000000 in
theorem jdT (B : Nat) (v : Value) (fs : List F) (line : ByteArray) (w : World) (hO : OwnF w B v fs) (hm : maxLenCell w) (hp : 0 < line.size) (hl : line.size ≤ 5000) (hn : fs.length ≤ 30) (h : zF fs line.data.toList = false)
    (a b : List UInt8) (hc : Lib.cut line.data.toList [58] = (a, b, false)) :
    Calls Tryz.prog 82 #[v, .string line] w fun e w' => e = .returned (.tuple #[.slice none 0 0, .int .i64 3]) ∧ Below w.heap.size w w' := by
  obtain ⟨a0, cap, rfl⟩ := hO.any; have HC : Hid _ := hc; clear hc
  rcases je5 hp h with rfl | ⟨h0, HI⟩
  case' inl =>
    clear h hO; go_enter Tryz.func82, Tryz.ntmps82; go_wp2_with fail
  case' inr =>
    clear h hO; go_enter Tryz.func82, Tryz.ntmps82; go_wp2_with fail; refine (indexByte_any _ _ _).mono ?_; rintro e u ⟨rfl, rfl⟩; rw [HI.out]; go_wp2_with fail
  all_goals
    refine (qU line _ [58] a b false rfl HC.out _ (by omega) hm).mono ?_; rintro e u ⟨rfl, q, rfl⟩; go_wp2; go_ret2; exact ⟨rfl, ja7 (Below.refl _ _) _⟩
set_option maxHeartbeats 2000000 in
theorem jeE (B : Nat) (v : Value) (fs : List F) (line : ByteArray) (w : World) (hO : OwnF w B v fs) (hm : maxLenCell w) (hp : 0 < line.size) (hl : line.size ≤ 5000) (hn : fs.length ≤ 30) (h : zF fs line.data.toList = false)
    (a b : List UInt8) (hc : Lib.cut line.data.toList [58] = (a, b, true)) (ha : zK a = false) (hal : a.length ≤ 5000) :
    Calls Tryz.prog 82 #[v, .string line] w fun e w' => e = .returned (.tuple #[.slice none 0 0, .int .i64 3]) ∧ Below w.heap.size w w' := by
  obtain ⟨a0, cap, rfl⟩ := hO.any; have HC : Hid _ := hc; have HA : Hid _ := ha; clear hc ha
  rcases je5 hp h with rfl | ⟨h0, HI⟩
  case' inl =>
    clear h hO; go_enter Tryz.func82, Tryz.ntmps82; go_wp2_with fail
  case' inr =>
    clear h hO; go_enter Tryz.func82, Tryz.ntmps82; go_wp2_with fail; refine (indexByte_any _ _ _).mono ?_; rintro e u ⟨rfl, rfl⟩; rw [HI.out]; go_wp2_with fail
  all_goals
    refine (qU line _ [58] a b true rfl HC.out _ (by omega) hm).mono ?_; rintro e u ⟨rfl, q, rfl⟩; go_wp2_with fail; refine (jak a false HA.out hal _).mono ?_; rintro e u ⟨rfl, rfl⟩; go_wp2; go_ret2; exact ⟨rfl, ja7 (Below.refl _ _) _⟩
set_option maxHeartbeats 2000000 in
theorem jiy (B : Nat) (v : Value) (fs : List F) (line : ByteArray) (w : World) (hO : OwnF w B v fs) (hm : maxLenCell w) (hp : 0 < line.size) (hl : line.size ≤ 5000) (hn : fs.length = 30) (h : zF fs line.data.toList = false)
    (a b : List UInt8) (hc : Lib.cut line.data.toList [58] = (a, b, true)) (ha : zK a = true) (hal : a.length ≤ 5000) :
    Calls Tryz.prog 82 #[v, .string line] w fun e w' => e = .returned (.tuple #[.slice none 0 0, .int .i64 5]) ∧ Below w.heap.size w w' := by
  obtain ⟨a0, cap, rfl⟩ := hO.any; have HC : Hid _ := hc; have HA : Hid _ := ha; clear hc ha
  rcases je5 hp h with rfl | ⟨h0, HI⟩
  · simp at hn
  · clear h hO; rw [hn]; go_enter Tryz.func82, Tryz.ntmps82; go_wp2_with fail; refine (indexByte_any _ _ _).mono ?_; rintro e u ⟨rfl, rfl⟩; rw [HI.out]; go_wp2_with fail; refine (qU line _ [58] a b true rfl HC.out _ (by omega) hm).mono ?_; rintro e u ⟨rfl, q, rfl⟩; go_wp2_with fail; refine (jak a true HA.out hal _).mono ?_; rintro e u ⟨rfl, rfl⟩; go_wp2; go_ret2; exact ⟨rfl, ja7 (Below.refl _ _) _⟩
set_option maxHeartbeats 2000000 in
set_option maxRecDepth 100000 in
theorem jke (B : Nat) (v : Value) (fs : List F) (line : ByteArray) (w : World) (hO : OwnF w B v fs) (hBw : B ≤ w.heap.size) (hm : maxLenCell w) (hp : 0 < line.size) (hl : line.size ≤ 5000) (hn : fs.length < 30) (h : zF fs line.data.toList = false)
    (a b : List UInt8) (hc : Lib.cut line.data.toList [58] = (a, b, true)) (ha : zK a = true) (hal : a.length ≤ 5000) :
    Calls Tryz.prog 82 #[v, .string line] w fun e w' => ∃ v', e = .returned (.tuple #[v', .int .i64 0]) ∧ OwnF w' B v' (fs ++ [(a, b)]) ∧ Below B w w' := by
  obtain ⟨i0, hi, hz0, hz1, hz2⟩ := info_parts jdq; obtain ⟨a0, cap, rfl⟩ := hO.any; have HC : Hid _ := hc; have HA : Hid _ := ha; have hO' : w.ownsRow B 69 2 (.slice a0 fs.length cap) fs.length (zg fs) := hO; clear hc ha
  rcases je5 hp h with h0 | ⟨h0, HI⟩
  · clear h hO; subst h0; have hO2 : w.ownsRow B 69 2 (.slice a0 0 cap) 0 [] := hO'; clear hO'; go_enter Tryz.func82, Tryz.ntmps82; go_wp2_with fail; refine (qU line _ [58] a b true rfl HC.out _ (by omega) hm).mono ?_; rintro e u ⟨rfl, q, rfl⟩; go_wp2_with fail; refine (jak a true HA.out hal _).mono ?_; rintro e u ⟨rfl, hu⟩; have hu' := hu.symm; subst hu'
    go_wp2_with (at_builtin; refine wpList_append_own _ rfl _ _ 63 rfl B 69 i0 _ 2 32 Tryz.underlying63 hi hz0 hz1 hz2 rfl (by decide) (.slice a0 0 cap) 0 [] rfl (World.ownsRow.alloc (show World.ownsRow (w.drewN q) _ _ _ _ _ _ from hO2) _) ⟨w.heap.size, 0, none⟩ 1 1 [.string (S a), .string (S b)] rfl rfl (qT _ _ _ _) ?c2 ?c3 ?c4 ?c5 ?_)
    case c2 => intro u hu; simp at hu; rcases hu with rfl | rfl <;> rfl
    case c3 => unfold maxLen; omega
    case c4 => omega
    case c5 => simp; omega
    intro v' w2 hown' hgrow _; have hB2 := ((ja7 (Below.refl B w) q).alloc (by simpa using hBw) _).grown hgrow (by simp; omega) (fun j hj => (World.ownsRow.lt hO2 j hj).1); clear hgrow; go_wp2; go_ret2; exact ⟨v', rfl, by unfold OwnF; exact hown', hB2⟩
  · clear h hO; go_enter Tryz.func82, Tryz.ntmps82; go_wp2_with fail; refine (indexByte_any _ _ _).mono ?_; rintro e u ⟨rfl, hu⟩; have hu' := hu.symm; subst hu'; rw [HI.out]; go_wp2_with fail; refine (qU line _ [58] a b true rfl HC.out _ (by omega) hm).mono ?_; rintro e u ⟨rfl, q, rfl⟩; go_wp2_with fail; refine (jak a true HA.out hal _).mono ?_; rintro e u ⟨rfl, hu⟩; have hu' := hu.symm; subst hu'
    go_wp2_with (at_builtin; refine wpList_append_own _ rfl _ _ 63 rfl B 69 i0 _ 2 32 Tryz.underlying63 hi hz0 hz1 hz2 rfl (by decide) (.slice a0 fs.length cap) fs.length (zg fs) rfl (World.ownsRow.alloc (show World.ownsRow (w.drewN q) _ _ _ _ _ _ from hO') _) ⟨w.heap.size, 0, none⟩ 1 1 [.string (S a), .string (S b)] rfl rfl (qT _ _ _ _) ?c2 ?c3 ?c4 ?c5 ?_)
    case c2 => intro u hu; simp at hu; rcases hu with rfl | rfl <;> rfl
    case c3 => unfold maxLen; omega
    case c4 => omega
    case c5 => simp; omega
    intro v' w2 hown' hgrow _; have hB2 := ((ja7 (Below.refl B w) q).alloc (by simpa using hBw) _).grown hgrow (by simp; omega) (fun j hj => (World.ownsRow.lt hO' j hj).1); clear hgrow; go_wp2; go_ret2; exact ⟨v', rfl, by unfold OwnF; rw [jag, jci, List.length_append]; exact hown', hB2⟩
end Go.Proofs.YtaapmpchcfcniaaGreatDoor
namespace Go.Proofs.YtaapmpchcfcniaaGreatDoor
open Go.RowKit
theorem jbP {w w' : World} {base : Nat} {e : TypeId} {size : Nat} {v : Value} {n : Nat} {xs : List Value} (h : w.ownsRow base e size v n xs) (hb : Below w.heap.size w w') : w'.ownsRow base e size v n xs := by
  refine ⟨h.1, ?_⟩
  rcases h.2 with h' | ⟨g, cap, cur, h1, h2, hg, r⟩
  · exact .inl h'
  · refine .inr ⟨g, cap, cur, h1, h2, ?_, r⟩; rw [hb.block g (by
      rcases Nat.lt_or_ge g w.heap.size with h' | h'
      · exact h'
      · rw [Array.getElem?_eq_none h'] at hg; cases hg)]
    exact hg
theorem OwnF.below {w w' : World} {B : Nat} {v : Value} {fs : List F} (h : OwnF w B v fs) (hb : Below w.heap.size w w') : OwnF w' B v fs := jbP h hb
theorem OwnF.far {w : World} {B : Nat} {v : Value} {fs : List F} (h : OwnF w B v fs) {p : Addr} (hp : p.block < B) (u : Value) : OwnF (w.setCell p u) B v fs := ownsRow_setCell_below h hp u
theorem OwnF.nil (w : World) (B : Nat) : OwnF w B (.slice none 0 0) [] := World.ownsRow_nil _ _ _ _
def jY (fs : List F) (k : Nat) : List F := (fs.take k).map vE ++ fs.drop k
theorem vh (fs : List F) (k : Nat) : (jY fs k).length = fs.length := by simp [jY]; omega
theorem jc6 {fs : List F} {k : Nat} {f : F} (h : fs[k]? = some f) : (jY fs k)[k]? = some f := by
  have hk : k < fs.length := (List.getElem?_eq_some_iff.1 h).1; unfold jY; rw [List.getElem?_append_right (by simp; omega)]; have : k - ((fs.take k).map vE).length = 0 := by simp; omega
  rw [this, List.getElem?_drop]
  simpa using h
theorem jcd {fs : List F} {k : Nat} {f : F} (h : fs[k]? = some f) : (jY fs k).set k (vE f) = jY fs (k + 1) := by
  have hk : k < fs.length := (List.getElem?_eq_some_iff.1 h).1; unfold jY; rw [List.set_append_right _ _ (by simp; omega)]; have e : k - ((fs.take k).map vE).length = 0 := by simp; omega
  have ed : fs.drop k = f :: fs.drop (k + 1) := by
    rw [List.drop_eq_getElem_cons hk]
    congr 1
    exact (List.getElem?_eq_some_iff.1 h).2
  rw [e, ed, qt h]
  simp
set_option maxHeartbeats 2000000 in
theorem jcc (B : Nat) (v : Value) (fs : List F) (w : World) (hO : OwnF w B v fs) (hn : fs.length ≤ 30) (hb : ∀ f ∈ fs, f.2.length ≤ 5000) :
    Calls Tryz.prog 81 #[v] w fun e w' => e = .returned (.tuple #[]) ∧ OwnF w' B v (fs.map vE) ∧ Below B w w' ∧ w.heap.size ≤ w'.heap.size := by
  obtain ⟨a, cap, rfl⟩ := hO.any; have HB : Hid _ := hb; clear hb; go_enter Tryz.func81, Tryz.ntmps81; go_wp2
  go_loopw [5] (fun i wr => ∃ k : Nat, k ≤ fs.length ∧ i = .int .i64 k ∧ OwnF wr B (.slice a fs.length cap) (jY fs k) ∧ Below B w wr ∧ w.heap.size ≤ wr.heap.size) (fun i _ => fs.length - (intOf i).toNat)
  case atStart => exact ⟨0, Nat.zero_le _, rfl, by simpa [jY] using hO, Below.refl _ _, Nat.le_refl _⟩
  case round =>
    obtain ⟨k, hk, rfl, hO2, hB, hz⟩ := hrel
    by_cases hlt : k < fs.length
    · obtain ⟨f, hf⟩ : ∃ f, fs[k]? = some f := ⟨_, List.getElem?_eq_getElem hlt⟩; have hfl := HB.out f (List.mem_of_getElem? hf); have hg := jc6 hf; have hO3 : OwnF wr B (.slice a (jY fs k).length cap) (jY fs k) := by rw [vh]; exact hO2
      obtain ⟨g, off, rfl, hgl, h1, h2⟩ := (OwnF.fields hO3) k f hg; obtain ⟨g', cap', e, hBg, _⟩ := hO3.form (by rintro e0; rw [e0] at hg; simp at hg); simp only [Value.slice.injEq, Option.some.injEq, Addr.mk.injEq, and_true] at e; obtain ⟨⟨rfl, rfl⟩, -, rfl⟩ := e; rw [Nat.zero_add] at h1 h2; have hs2 : (S f.2).size ≤ 5000 := by rw [jt]; exact hfl
      have HS : Hid (∀ u : World, Below wr.heap.size wr u → ∀ x : ByteArray, x = S (vm f.2) → OwnF (u.setCell ⟨g, k * 2 + 1, none⟩ (.string x)) B (.slice (some ⟨g, 0, none⟩) fs.length cap) (jY fs (k + 1))) := by
        intro u hu x hx; have := jc1 (hO3.below hu) (k * 2 + 1) (.string x); rw [hx, jaD hg] at this; have e2 : (f.1, vm f.2) = vE f := rfl; rw [e2, jcd hf] at this; unfold OwnF; rw [vh] at this ⊢; rw [hx]; exact this
      have HF : Hid (w.heap.size ≤ wr.heap.size) := hz; have HZ : Hid (∀ u : World, Below wr.heap.size wr u → u.cell? ⟨g, k * 2 + 1, none⟩ = some (.string (S f.2)) ∧ u.frozen? ⟨g, k * 2 + 1, none⟩ = false) := by
        intro u hu; exact ⟨jH h2 hu, (hu.frozen (p := ⟨g, k * 2 + 1, none⟩) hgl).trans (World.ownsRow.frozenAt hO3 _)⟩
      clear hf hg hO2 hO3; go_wp2_with fail; refine (trim_any _ _ (by omega)).mono ?_; rintro e u ⟨rfl, hu⟩; obtain ⟨z1, z2⟩ := HZ.out u hu; have HX : Hid ((⟨(Lib.trimS (S f.2).data.toList [32, 9]).toArray⟩ : ByteArray) = S (vm f.2)) := by unfold Hid; rw [jp]; rfl
      rw [HX.out]; go_wp2
      go_roundw
      case rel => first | exact ⟨k + 1, by omega, by go_num, HS.out u hu _ rfl, ((hB.trans (hu.mono (by have := hB.size; omega))).setCell hBg _), by have := hu.size; have := HF.out; simp; omega⟩ | ((repeat apply Exists.intro); exact ⟨⟨k + 1, by omega, by go_num, HS.out u hu _ rfl, ((hB.trans (hu.mono (by have := hB.size; omega))).setCell hBg _), by have := hu.size; have := HF.out; simp; omega⟩, rfl⟩) | (refine ⟨trivial, ?_⟩; (repeat apply Exists.intro); exact ⟨⟨k + 1, by omega, by go_num, HS.out u hu _ rfl, ((hB.trans (hu.mono (by have := hB.size; omega))).setCell hBg _), by have := hu.size; have := HF.out; simp; omega⟩, rfl⟩)
      case measure => simp [intOf]; omega
    · have HT : Hid (jY fs k = fs.map vE) := by
        unfold Hid jY; rw [List.take_of_length_le (by omega), List.drop_of_length_le (by omega)]; simp
      go_wp2; go_end0; exact ⟨rfl, by rw [← HT.out]; exact hO2, hB, hz⟩
theorem jlO (B : Nat) (v : Value) (fs : List F) (l : List UInt8) (w : World) (hO : OwnF w B v fs) (hBw : B ≤ w.heap.size) (hm : maxLenCell w) (h0 : l ≠ []) (hl : l.length ≤ 2000) (hb : ∀ f ∈ fs, f.2.length ≤ 5000) (hn : fs.length ≤ 30) (h : (j5 fs l).2 = 0) :
    Calls Tryz.prog 82 #[v, .string (S l)] w fun e w' => ∃ v', e = .returned (.tuple #[v', .int .i64 0]) ∧ OwnF w' B v' (j5 fs l).1 ∧ Below B w w' := by
  have hp : 0 < (S l).size := by rw [jt]; exact List.length_pos_iff.2 h0
  have hl2 : (S l).size ≤ 5000 := by rw [jt]; omega
  cases hg : zF fs l with
  | true =>
    have e : j5 fs l = (qR fs l, 0) := by unfold j5; rw [if_pos hg]
    rw [e]; refine (jlP B v fs (S l) w hO hl2 hb hn (by rw [jp]; exact hg)).mono ?_; rintro e w' ⟨rfl, h1, h2⟩; rw [jp] at h1; exact ⟨v, rfl, h1, h2⟩
  | false =>
    unfold j5 at h ⊢; rw [hg] at h ⊢; simp only [Bool.false_eq_true, if_false] at h ⊢
    by_cases h1 : (Lib.cut l [58]).2.2 = false ∨ zK (Lib.cut l [58]).1 = false
    · rw [if_pos h1] at h; cases h
    · rw [if_neg h1] at h ⊢
      by_cases h2 : fs.length = 30
      · rw [if_pos h2] at h; cases h
      · rw [if_neg h2]; simp only [not_or, Bool.not_eq_false] at h1; have hc : Lib.cut (S l).data.toList [58] = ((Lib.cut l [58]).1, (Lib.cut l [58]).2.1, true) := by
          rw [jp]; rw [← h1.1]
        have hle : (Lib.cut l [58]).1.length ≤ 5000 := by
          unfold Lib.cut; split <;> simp <;> omega
        exact jke B v fs (S l) w hO hBw hm hp hl2 (by omega) (by rw [jp]; exact hg) _ _ hc h1.2 hle
theorem jkd (B : Nat) (v : Value) (fs : List F) (l : List UInt8) (w : World) (hO : OwnF w B v fs) (hm : maxLenCell w) (h0 : l ≠ []) (hl : l.length ≤ 2000) (hn : fs.length ≤ 30) (n : Int) (h : (j5 fs l).2 = n) (hne : n ≠ 0) :
    Calls Tryz.prog 82 #[v, .string (S l)] w fun e w' => e = .returned (.tuple #[.slice none 0 0, .int .i64 n]) ∧ Below w.heap.size w w' := by
  have hp : 0 < (S l).size := by rw [jt]; exact List.length_pos_iff.2 h0
  have hl2 : (S l).size ≤ 5000 := by rw [jt]; omega
  have hle : (Lib.cut l [58]).1.length ≤ 5000 := by
    unfold Lib.cut; split <;> simp <;> omega
  cases hg : zF fs l with
  | true => unfold j5 at h; rw [if_pos hg] at h; exact absurd h.symm hne
  | false =>
    have hg' : zF fs (S l).data.toList = false := by rw [jp]; exact hg
    unfold j5 at h; rw [hg] at h; simp only [Bool.false_eq_true, if_false] at h; cases hc1 : (Lib.cut l [58]).2.2 with
    | false =>
      rw [if_pos (.inl hc1)] at h; subst h; exact jdT B v fs (S l) w hO hm hp hl2 hn hg' (Lib.cut l [58]).1 (Lib.cut l [58]).2.1 (by rw [jp, ← hc1])
    | true =>
      cases hc2 : zK (Lib.cut l [58]).1 with
      | false =>
        rw [if_pos (.inr hc2)] at h; subst h; exact jeE B v fs (S l) w hO hm hp hl2 hn hg' (Lib.cut l [58]).1 (Lib.cut l [58]).2.1 (by rw [jp, ← hc1]) hc2 hle
      | true =>
        rw [if_neg (by rw [hc1, hc2]; simp)] at h
        by_cases h2 : fs.length = 30
        · rw [if_pos h2] at h; subst h; exact jiy B v fs (S l) w hO hm hp hl2 h2 hg' (Lib.cut l [58]).1 (Lib.cut l [58]).2.1 (by rw [jp, ← hc1]) hc2 hle
        · rw [if_neg h2] at h; exact absurd h.symm hne
end Go.Proofs.YtaapmpchcfcniaaGreatDoor
namespace Go.Proofs.YtaapmpchcfcniaaGreatDoor
open Go.RowKit
def jis : Value → Nat
  | .string s => s.size
  | _ => 0
theorem jkc {raw : List F} {a : List UInt8} {m : Nat} (hr : raw.length ≤ 30) (hb : ∀ f ∈ raw, f.2.length + (a.length + 2 + m) ≤ 2000) (ha : a.length + 2 + m ≤ 2000) :
    (j5 raw a).1.length ≤ 30 ∧ ∀ f ∈ (j5 raw a).1, f.2.length + m ≤ 2000 := by
  unfold j5; split
  · rename_i hg; have h0 : raw ≠ [] := by rintro rfl; simp [zF] at hg
    obtain ⟨f, hf⟩ : ∃ f, raw[raw.length - 1]? = some f := ⟨_, List.getElem?_eq_getElem (by have := List.length_pos_iff.2 h0; omega)⟩; rw [jaB hf]; refine ⟨by simpa using hr, fun g hg => ?_⟩
    rcases List.mem_or_eq_of_mem_set hg with h | rfl
    · have := hb g h; omega
    · have := hb f (List.mem_of_getElem? hf); simp; omega
  · split
    · simp
    · split
      · simp
      · refine ⟨by simp; omega, fun g hg => ?_⟩
        rcases List.mem_append.1 hg with h | h
        · have := hb g h; omega
        · simp only [List.mem_singleton] at h; subst h; have : (Lib.cut a [58]).2.1.length ≤ a.length := by unfold Lib.cut; split <;> simp
          simp only; omega
theorem jdc (l : List UInt8) : (S l).toList.isEmpty = l.isEmpty := by rw [Lib.toList_data, jp]
def jh5 (r : Res) (a : Option Addr) (c : Nat) : Value := .tuple #[.agg #[.slice a r.1.length c, .string (S r.2.1)], .int .i64 r.2.2.1, .int .i64 r.2.2.2]
theorem jaP {r : Res} {p e : Int} (h : r = ([], [], p, e)) : jh5 r none 0 = .tuple #[.agg #[.slice none 0 0, .string ⟨#[]⟩], .int .i64 p, .int .i64 e] := by
  subst h; rfl
def FreshA (n : Nat) (a : Option Addr) : Prop := ∀ b o q, a = some ⟨b, o, q⟩ → n ≤ b
theorem FreshA.nil (n : Nat) : FreshA n none := fun _ _ _ h => by cases h
theorem OwnF.fresh {w : World} {B n : Nat} {a : Option Addr} {c k : Nat} {fs : List F} (h : OwnF w B (.slice a k c) fs) (hn : n ≤ B) : FreshA n a := by
  intro b o q e; subst e
  rcases h.2 with ⟨h', _⟩ | ⟨g, cap, cur, h', hb, _⟩
  · simp at h'
  · simp only [Value.slice.injEq, Option.some.injEq, Addr.mk.injEq] at h'; obtain ⟨⟨e, _⟩, _⟩ := h'; omega
set_option maxHeartbeats 4000000 in
set_option maxRecDepth 100000 in
theorem jh7 (s : ByteArray) (w : World) (hs : s.size ≤ maxLen) (hm : maxLenCell w) :
    Calls Tryz.prog 46 #[.string s] w fun e w' => ∃ a c, e = .returned (jh5 (zv s.data.toList) a c) ∧ FieldsAt w' a (zv s.data.toList).1 ∧ FreshA w.heap.size a ∧ Below w.heap.size w w' := by
  unfold maxLen at hs; have hB0 : Below w.heap.size w (w.alloc (.cells #[.slice none 0 0, .string ⟨#[]⟩] 65)) := (Below.refl _ _).alloc (Nat.le_refl _) _
  by_cases hbig : 2000 < s.size
  · have HP : Hid (zv s.data.toList = ([], [], 0, 1)) := by unfold Hid zv; rw [size_list, if_pos hbig]
    go_enter Tryz.func46, Tryz.ntmps46; go_wp2; exact bodyPost_ret (v := .tuple #[.agg #[.slice none 0 0, .string ⟨#[]⟩], .int .i64 0, .int .i64 1]) (by simp [results, Tryz.results46, go_sem]) rfl ⟨none, 0, by rw [jaP HP.out], by rw [HP.out]; exact vJ _ _, FreshA.nil _, by first | exact hB0 | exact (hB0.setCell (by simp) _).setCell (by simp) _⟩
  · have HP : Hid (zv s.data.toList = j2 0 [] s.data.toList) := by unfold Hid zv; rw [size_list, if_neg hbig]
    go_enter Tryz.func46, Tryz.ntmps46; go_wp2
    go_loopw [0, 5, 6] (fun t v i wr => ∃ (x : ByteArray) (raw : List F) (p : Nat), t = .string x ∧ i = .int .i64 p ∧ OwnF wr (w.heap.size + 1) v raw ∧ raw.length ≤ 30 ∧ x.size ≤ 2000 ∧ p + x.size ≤ 2000 ∧ Hid (∀ f ∈ raw, f.2.length + x.size ≤ 2000) ∧ Hid (zv s.data.toList = j2 p raw x.data.toList) ∧ Below (w.heap.size + 1) (w.alloc (.cells #[.slice none 0 0, .string ⟨#[]⟩] 65)) wr) (fun t _ _ _ => jis t)
    case atStart => exact ⟨s, [], 0, rfl, rfl, OwnF.nil _ _, by simp, by omega, by omega, by simp [Hid], HP.out, Below.refl _ _⟩
    case round =>
      obtain ⟨x, raw, p, rfl, rfl, hO, hr, hx, hpx, HB, HR, hB⟩ := hrel; clear HP; obtain ⟨a0, c0, rfl⟩ := hO.any; have hz := hB.size; simp only [World.size_alloc] at hz; have hB1 : Below w.heap.size w wr := hB0.trans (hB.mono (by omega)); have hmr := maxLenCell_below hm hB1; have q0 : wr.cell? ⟨w.heap.size, 0, none⟩ = some (.slice none 0 0) := (hB.cell (by simp)).trans (by simp); have q1 : wr.cell? ⟨w.heap.size, 1, none⟩ = some (.string ⟨#[]⟩) := (hB.cell (by simp)).trans (by simp); have q2 : wr.frozen? ⟨w.heap.size, 0, none⟩ = false := (hB.frozen (by simp)).trans (by simp); have q3 : wr.frozen? ⟨w.heap.size, 1, none⟩ = false := (hB.frozen (by simp)).trans (by simp); cases hE : jF x.data.toList with
      | false =>
        have HC : Hid _ := ji9 hE; have HQ : Hid (zv s.data.toList = ([], [], (p : Int), 4)) := by unfold Hid; rw [HR.out]; exact qq hE
        clear hE; go_wp2_with fail; refine (qU x _ [13, 10] _ _ false rfl HC.out _ (by omega) hmr).mono ?_; rintro e u ⟨rfl, q, rfl⟩; go_wp2; exact bodyPost_ret (v := .tuple #[.agg #[.slice none 0 0, .string ⟨#[]⟩], .int .i64 p, .int .i64 4]) (by simp [results, Tryz.results46, go_sem, q0, q1]) rfl ⟨none, 0, by rw [jaP HQ.out], by rw [HQ.out]; exact vJ _ _, FreshA.nil _, by first | exact ja7 hB1 _ | exact ((ja7 hB1 _).setCell (by simp) _).setCell (by simp) _⟩
      | true =>
        obtain ⟨a, b, hab, ha⟩ := jbd hE; have HC : Hid (Lib.cut x.data.toList [13, 10] = (a, b, true)) := by unfold Hid; rw [hab]; exact jbc ha
        have hlen : x.size = a.length + 2 + b.length := by rw [← size_list, hab]; simp; omega
        clear hE
        by_cases h0 : a = []
        · have HQ : Hid (zv s.data.toList = (raw.map vE, b, 0, 0)) := by
            unfold Hid; rw [HR.out, hab, h0, List.nil_append]; exact jas _ _ _
          have he : (S a).toList.isEmpty = true := by rw [jdc, h0]; rfl
          have HB2 : Hid (∀ f ∈ raw, f.2.length ≤ 5000) := fun f hf => by have := HB.out f hf; omega
          clear hab h0; go_wp2_with fail; refine (qU x _ [13, 10] a b true rfl HC.out _ (by omega) hmr).mono ?_; rintro e u ⟨rfl, q, rfl⟩; go_wp2_with fail; refine (jcc (w.heap.size + 1) (.slice a0 raw.length c0) raw (wr.drewN q) hO hr HB2.out).mono ?_; rintro e u ⟨rfl, hO2, hb2, hz2⟩; have hB2 := (ja7 hB q).trans hb2; have r0 : u.cell? ⟨w.heap.size, 0, none⟩ = some (.slice none 0 0) := (hB2.cell (by simp)).trans (by simp); have r1 : u.cell? ⟨w.heap.size, 1, none⟩ = some (.string ⟨#[]⟩) := (hB2.cell (by simp)).trans (by simp); have r2 : u.frozen? ⟨w.heap.size, 0, none⟩ = false := (hB2.frozen (by simp)).trans (by simp); have r3 : u.frozen? ⟨w.heap.size, 1, none⟩ = false := (hB2.frozen (by simp)).trans (by simp); have hml : (raw.map vE).length = raw.length := by simp
          go_wp2; refine bodyPost_ret (v := .tuple #[.agg #[.slice a0 raw.length c0, .string (S b)], .int .i64 0, .int .i64 0]) (by simp [results, Tryz.results46, go_sem, r0, r1]) rfl ⟨a0, c0, ?_, ?_, hO.fresh (by omega), ((hB0.trans (hB2.mono (by omega))).setCell (by simp) _).setCell (by simp) _⟩
          · rw [HQ.out]; unfold jh5; rw [hml]
          · rw [HQ.out]; refine OwnF.fields (B := w.heap.size + 1) (c := c0) ?_; rw [hml]; exact (hO2.far (p := ⟨w.heap.size, 0, none⟩) (by simp) _).far (p := ⟨w.heap.size, 1, none⟩) (by simp) _
        · have he : (S a).toList.isEmpty = false := by rw [jdc]; cases a with | nil => exact absurd rfl h0 | cons c t => rfl
          by_cases ht : (j5 raw a).2 = 0
          · have HQ : Hid (zv s.data.toList = j2 ((p + 1 : Nat) : Int) (j5 raw a).1 b) := by
              unfold Hid; rw [HR.out, hab, jbh ha h0 ht]; simp
            have hbd := jkc (raw := raw) (a := a) (m := b.length) hr (fun f hf => by have := HB.out f hf; omega) (by omega); have HB2 : Hid (∀ f ∈ raw, f.2.length ≤ 5000) := fun f hf => by have := HB.out f hf; omega
            have HT : Hid _ := ht; have HN : Hid _ := hbd; have HA : Hid (a ≠ []) := h0; have hbz : (S b).size = b.length := jt b; have HZ : Hid _ := hbz; clear hab h0 ht hbd hbz; go_wp2_with fail; refine (qU x _ [13, 10] a b true rfl HC.out _ (by omega) hmr).mono ?_; rintro e u ⟨rfl, q, rfl⟩; go_wp2_with fail; refine (jlO (w.heap.size + 1) (.slice a0 raw.length c0) raw a (wr.drewN q) hO hz (maxLenCell_below hmr (ja7 (Below.refl _ _) q)) HA.out (by omega) HB2.out hr HT.out).mono ?_; rintro e u ⟨v', rfl, hO2, hb2⟩; have hB2 := (ja7 hB q).trans hb2; go_wp2
            go_roundw
            case rel => first | exact ⟨S b, (j5 raw a).1, p + 1, rfl, by go_num, hO2, HN.out.1, by have := HZ.out; omega, by have := HZ.out; omega, by unfold Hid; rw [jt]; exact HN.out.2, by unfold Hid; rw [jp]; exact HQ.out, hB2⟩ | ((repeat apply Exists.intro); exact ⟨⟨S b, (j5 raw a).1, p + 1, rfl, by go_num, hO2, HN.out.1, by have := HZ.out; omega, by have := HZ.out; omega, by unfold Hid; rw [jt]; exact HN.out.2, by unfold Hid; rw [jp]; exact HQ.out, hB2⟩, rfl⟩) | (refine ⟨trivial, ?_⟩; (repeat apply Exists.intro); exact ⟨⟨S b, (j5 raw a).1, p + 1, rfl, by go_num, hO2, HN.out.1, by have := HZ.out; omega, by have := HZ.out; omega, by unfold Hid; rw [jt]; exact HN.out.2, by unfold Hid; rw [jp]; exact HQ.out, hB2⟩, rfl⟩)
            case measure => simp only [jis]; have := HZ.out; omega
          · obtain ⟨n, hn⟩ : ∃ n, (j5 raw a).2 = n := ⟨_, rfl⟩; have hne : n ≠ 0 := by rw [← hn]; exact ht
            have hn0 : (n == 0) = false := by simpa using hne
            have HQ : Hid (zv s.data.toList = ([], [], (p : Int), n)) := by
              unfold Hid; rw [HR.out, hab, jbT ha h0 ht, hn]
            have HN : Hid _ := hn; have HE : Hid (n ≠ 0) := hne; have HA : Hid (a ≠ []) := h0; clear hab h0 ht hn hne; go_wp2_with fail; refine (qU x _ [13, 10] a b true rfl HC.out _ (by omega) hmr).mono ?_; rintro e u ⟨rfl, q, rfl⟩; go_wp2_with fail; refine (jkd (w.heap.size + 1) (.slice a0 raw.length c0) raw a (wr.drewN q) hO (maxLenCell_below hmr (ja7 (Below.refl _ _) q)) HA.out (by omega) hr n HN.out HE.out).mono ?_; rintro e u ⟨rfl, hb2⟩; have hB2 := (ja7 hB q).trans (hb2.mono (by simpa using hz)); have r0 : u.cell? ⟨w.heap.size, 0, none⟩ = some (.slice none 0 0) := (hB2.cell (by simp)).trans (by simp); have r1 : u.cell? ⟨w.heap.size, 1, none⟩ = some (.string ⟨#[]⟩) := (hB2.cell (by simp)).trans (by simp); have r2 : u.frozen? ⟨w.heap.size, 0, none⟩ = false := (hB2.frozen (by simp)).trans (by simp); have r3 : u.frozen? ⟨w.heap.size, 1, none⟩ = false := (hB2.frozen (by simp)).trans (by simp); go_wp2; exact bodyPost_ret (v := .tuple #[.agg #[.slice none 0 0, .string ⟨#[]⟩], .int .i64 p, .int .i64 n]) (by simp [results, Tryz.results46, go_sem, r0, r1]) rfl ⟨none, 0, by rw [jaP HQ.out], by rw [HQ.out]; exact vJ _ _, FreshA.nil _, by first | exact hB0.trans (hB2.mono (by omega)) | exact ((hB0.trans (hB2.mono (by omega))).setCell (by simp) _).setCell (by simp) _⟩
end Go.Proofs.YtaapmpchcfcniaaGreatDoor
