/-
  What glob.small does: the walk.
  What glob.Match does with the kind Is: the walk.
  Plain facts on patterns: their pieces, what a text matches, and the places that are reached piece by piece; no program is named here.
  What glob.reach does: the walks.
  What glob.pieces and glob.matches do: the walks (a range over a function).
  What glob.matches does: the walk (a range over a function).
  What glob.Match does, with each kind: the walks.
-/
import Derived.Test.YtaapmpchcfcniaaGreatDoorRows
import Derived.Test.YtaapmpchcfcniaaGreatDoorYQPure2
import Derived.WalkKit
import Derived.WalkSpells
import Derived.WalkLawsBesides
import Derived.Laws.IdiomStrings
import Derived.Deep.QuietTactic
import Derived.BigQuiet
import Derived.RangeFuncNested
import Derived.RangeFuncBound
import Derived.RangeFuncCalls
import Derived.RangeFuncLeaves
import Derived.Shelf.Abstract
import Derived.Shelf.RegionOpen
import Derived.OwnWalkIn
import Derived.TacticsInMore
import Derived.LoopNIn
import Derived.LoopIn
import Derived.Outline
import Derived.Test.YtaapmpchcfcniaaGreatDoorShelf
namespace Go.Proofs.YtaapmpchcfcniaaGreatDoor
open Go.RowKit
def qw (s : ByteArray) (n B k : Nat) (wr : World) : Prop :=
  ∃ cur : Array Value, wr.heap[B]? = some (.cells cur 5 (n, n + 1)) ∧ cur.size = n ∧ s.size ≤ n ∧
    (∀ j (h : j < s.size), j < k → cur[j]? = some (.int .u8 (low1 s[j]).toNat)) ∧ (∀ j (h : j < s.size), k ≤ j → cur[j]? = some (.int .u8 s[j].toNat))
theorem jb9 (s : ByteArray) (w : World) (cap : Nat) :
    qw s (bytesRow s cap).size w.heap.size 0 (w.drew.alloc (.cells (bytesRow s cap) 5 ((bytesRow s cap).size, (bytesRow s cap).size + 1))) := by
  refine ⟨bytesRow s cap, ?_, rfl, ?_, fun j h hj => by omega, fun j h _ => ?_⟩
  · show (w.heap.push _)[w.heap.size]? = _
    simp
  · simp [bytesRow]
  · unfold bytesRow; have hj : j < (s.data.map (fun b => Value.int .u8 b.toNat)).size := by simpa using h
    rw [Array.getElem?_append_left hj, Array.getElem?_eq_getElem hj]
    simp
    rfl
theorem jcU {s : ByteArray} {n B k : Nat} {wr : World} (h : qw s n B k wr) (hk : k < s.size) : wr.cell? ⟨B, k, none⟩ = some (.int .u8 s[k].toNat) ∧ wr.frozen? ⟨B, k, none⟩ = false := by
  obtain ⟨cur, h1, h2, h3, h4, h5⟩ := h; exact ⟨(cell_of_row _ _ _ _ _ _ h1).trans (h5 k hk (Nat.le_refl _)), jeh h1 (by omega)⟩
theorem jcV {s : ByteArray} {n B k : Nat} {wr : World} (h : qw s n B k wr) (hk : k < s.size) (hl : low1 s[k] = s[k]) : qw s n B (k + 1) wr := by
  obtain ⟨cur, h1, h2, h3, h4, h5⟩ := h; refine ⟨cur, h1, h2, h3, fun j h hj => ?_, fun j h hj => h5 j h (by omega)⟩
  by_cases e : j = k
  · subst e; rw [h5 j h (Nat.le_refl _), hl]
  · exact h4 j h (by omega)
theorem jdw {s : ByteArray} {n B k : Nat} {wr : World} (h : qw s n B k wr) (hk : k < s.size) (x : Int) (hl : ((low1 s[k]).toNat : Int) = x) : qw s n B (k + 1) (wr.setCell ⟨B, k, none⟩ (.int .u8 x)) := by
  obtain ⟨cur, h1, h2, h3, h4, h5⟩ := h; refine ⟨_, jv _ h1, by simpa using h2, h3, fun j h hj => ?_, fun j h hj => ?_⟩
  · by_cases e : j = k
    · subst e; rw [Array.getElem?_setIfInBounds_self_of_lt (by omega), hl]
    · rw [Array.getElem?_setIfInBounds_ne (by omega)]; exact h4 j h (by omega)
  · rw [Array.getElem?_setIfInBounds_ne (by omega)]; exact h5 j h (by omega)
theorem jcT {s : ByteArray} {n B cap : Nat} {wr : World} (h : qw s n B s.size wr) :
    (convert 95 9 (.slice (some ⟨B, 0, none⟩) s.size cap)).run Tryz.prog wr = .ok (.string (low s)) wr := by
  obtain ⟨cur, h1, h2, h3, h4, h5⟩ := h; have hlen : (lowL s.data.toList).length = s.size := by rw [lowL, List.length_map]; exact size_list s
  have := run_convert_bytes_back (P := Tryz.prog) wr 95 9 5 ⟨B, 0, none⟩ cap (lowL s.data.toList) Tryz.underlying95 Tryz.underlying5 Tryz.underlying9 (fun j hj => by
    have hj' : j < s.size := by omega
    have e : (⟨B, 0, none⟩ : Addr).add j = ⟨B, j, none⟩ := by simp [Addr.add]; omega
    rw [e, cell_of_row _ _ _ _ _ _ h1, h4 j hj' hj']
    congr 2
    simp only [lowL, List.getElem_map]; rfl)
  rw [hlen] at this; exact this
set_option maxHeartbeats 400000 in
theorem qN (s : ByteArray) (w : World) (hs : s.size ≤ 4611686018427387904) :
    Calls Tryz.prog 133 #[.string s] w fun e w' => e = .returned (.string (low s)) ∧ Below w.heap.size w w' := by
  have hconv := run_bytes_of_string (P := Tryz.prog) w 9 95 5 s Tryz.underlying9 Tryz.underlying95 Tryz.underlying5; have hst := jb9 s w (grownCap w s.size 0 5); have hbs : Below w.heap.size w (w.drew.alloc (.cells (bytesRow s (grownCap w s.size 0 5)) 5 ((bytesRow s (grownCap w s.size 0 5)).size, (bytesRow s (grownCap w s.size 0 5)).size + 1))) :=
    (Below.refl _ _).drew.alloc (by simp) _
  generalize grownCap w s.size 0 5 = cap at *; generalize bytesRow s cap = C at *; go_enter Tryz.func133, Tryz.ntmps133; go_wp2
  go_loopw [10] (fun i wr => ∃ k : Nat, k ≤ s.size ∧ i = .int .i64 k ∧ qw s C.size w.heap.size k wr ∧ Below w.heap.size w wr) (fun i _ => s.size - (intOf i).toNat)
  case atStart => exact ⟨0, Nat.zero_le _, rfl, hst, hbs⟩
  case round =>
    obtain ⟨k, hk, rfl, hL, hB⟩ := hrel; clear hst hbs hconv
    by_cases hlt : k < s.size
    · obtain ⟨hc, hf⟩ := jcU hL hlt; have hu := s[k].toNat_lt
      by_cases hg : 65 ≤ (s[k].toNat : Int) ∧ (s[k].toNat : Int) ≤ 90
      · have hnext := jdw hL hlt ((s[k].toNat : Int) - 65 + 97) (by have := jjz hg; omega); obtain ⟨hg1, hg2⟩ := hg; have hB' := hB.setCell (p := ⟨w.heap.size, k, none⟩) (Nat.le_refl _) (.int .u8 ((s[k].toNat : Int) - 65 + 97)); have HN : Hid _ := hnext; have HB : Hid _ := hB'; clear hnext hB'; go_wp2
        go_roundw
        case rel => exact ⟨k + 1, by omega, by go_num, HN.out, HB.out⟩
        case measure => simp [intOf]; omega
      · have HN : Hid _ := jcV hL hlt (jll hg); go_wp2
        all_goals
          go_roundw
          case rel => exact ⟨k + 1, by omega, by go_num, HN.out, hB⟩
          case measure => simp [intOf]; omega
    · obtain rfl : k = s.size := by omega
      have hback := jcT (cap := cap) hL; go_wp2; go_ret; exact ⟨rfl, hB⟩
end Go.Proofs.YtaapmpchcfcniaaGreatDoor
namespace Go.Proofs.YtaapmpchcfcniaaGreatDoor
open Go.RowKit
set_option maxRecDepth 100000 in
set_option maxHeartbeats 400000 in
theorem jjC (s p : ByteArray) (w : World) (hs : s.size ≤ 2000) (hp : p.size ≤ 100) :
    Calls Tryz.prog 94 #[.int .i64 1, .string s, .string p] w fun e w' => e = .returned (.tuple #[.bool ((low s).toList == (low p).toList), .int .i64 0]) ∧ Below w.heap.size w w' := by
  go_enter Tryz.func94, Tryz.ntmps94; go_wp2_with fail; refine (qN s _ (by omega)).mono ?_; rintro e w1 ⟨rfl, hb1⟩; go_wp2_with fail; refine (qN p _ (by omega)).mono ?_; rintro e w2 ⟨rfl, hb2⟩; go_wp2; go_ret2; exact ⟨rfl, hb1.trans (hb2.mono hb1.size)⟩
end Go.Proofs.YtaapmpchcfcniaaGreatDoor
namespace Go.Proofs.YtaapmpchcfcniaaGreatDoor
open Go.RowKit
abbrev Piece := Nat × UInt8
def js : List UInt8 → List Piece
  | [] => []
  | [c] => if c = 42 then [(2, 0)] else if c = 63 then [(1, 0)] else [(0, c)]
  | c :: d :: r => if c = 42 then (2, 0) :: js (d :: r) else if c = 63 then (1, 0) :: js (d :: r) else if c = 92 then (0, d) :: js r else (0, c) :: js (d :: r)
def jiq (f : List UInt8 → Bool) : List UInt8 → Bool
  | [] => f []
  | c :: r => f (c :: r) || jiq f r
def oneB (k : Nat) (b : UInt8) (f : List UInt8 → Bool) : List UInt8 → Bool
  | [] => false
  | c :: r => (k == 1 || c == b) && f r
def gm : List Piece → List UInt8 → Bool
  | [], s => s.isEmpty
  | p :: ps, s => if p.1 = 2 then jiq (gm ps) s else oneB p.1 p.2 (gm ps) s
def jfW (s p : List UInt8) : Bool := gm (js p) s
theorem jlF (r : List UInt8) : js (42 :: r) = (2, 0) :: js r := by cases r <;> simp [js]
theorem jmB (r : List UInt8) : js (63 :: r) = (1, 0) :: js r := by cases r <;> simp [js]
theorem jmC (d : UInt8) (r : List UInt8) : js (92 :: d :: r) = (0, d) :: js r := by simp [js]
theorem jic {c : UInt8} {r : List UInt8} (h1 : c ≠ 42) (h2 : c ≠ 63) (h3 : c ≠ 92 ∨ r = []) : js (c :: r) = (0, c) :: js r := by
  cases r with
  | nil => simp [js, h1, h2]
  | cons d r =>
    have h4 : c ≠ 92 := by rcases h3 with h | h <;> simp_all
    simp [js, h1, h2, h4]
theorem jha (p : ByteArray) (k : Nat) (h : k < p.size) : p.data.toList.drop k = p[k] :: p.data.toList.drop (k + 1) := by
  rw [List.drop_eq_getElem_cons (by rw [size_list]; exact h)]; rfl
theorem jaj {c : UInt8} {d : Nat} (hd : d < 256) (h : ((c.toNat : Int) == (d : Int)) = false) : c ≠ UInt8.ofNat d := by
  intro e; rw [beq_eq_false_iff_ne] at h
  apply h
  rw [e]
  simp [Nat.mod_eq_of_lt hd]
theorem jcO {c : UInt8} {d : Nat} (hd : d < 256) (h : ((c.toNat : Int) == (d : Int)) = true) : c = UInt8.ofNat d := by
  have h' : (c.toNat : Int) = d := by simpa using h
  apply UInt8.toNat_inj.1
  have e : (UInt8.ofNat d).toNat = d := by simp [Nat.mod_eq_of_lt hd]
  omega
def zi (s : List UInt8) (p : Piece) (i : Nat) : Option Nat := if (p.1 == 1 && decide (i < s.length)) || s[i]? == some p.2 then some (i + 1) else none
def upL (n i : Nat) : List Nat := (List.range (n + 1 - i)).map (i + ·)
def zl (s : List UInt8) (p : Piece) (zs : List Nat) : List Nat := if p.1 = 2 then (match zs with | [] => [] | i :: _ => upL s.length i) else zs.filterMap (zi s p)
def runL (s : List UInt8) (ps : List Piece) : List Nat := ps.foldl (fun zs p => zl s p zs) [0]
def qx (n : Nat) (zs : List Nat) : Prop := zs.Pairwise (· < ·) ∧ ∀ i ∈ zs, i ≤ n
theorem jhQ {n i j : Nat} : j ∈ upL n i ↔ i ≤ j ∧ j ≤ n := by
  unfold upL; simp only [List.mem_map, List.mem_range]
  constructor
  · rintro ⟨a, h, rfl⟩; omega
  · intro h; exact ⟨j - i, by omega, by omega⟩
theorem jgw (n i : Nat) : qx n (upL n i) := by
  refine ⟨?_, fun j hj => (jhQ.1 hj).2⟩; unfold upL; rw [List.pairwise_map]; simp only [Nat.add_lt_add_iff_left]; exact List.pairwise_lt_range
theorem vQ {s : List UInt8} {p : Piece} {i j : Nat} (h : zi s p i = some j) : j = i + 1 ∧ i < s.length := by
  unfold zi at h; split at h
  · rename_i hc
    simp at h
    refine ⟨h.symm, ?_⟩; simp only [Bool.or_eq_true, Bool.and_eq_true, decide_eq_true_eq] at hc
    rcases hc with hc | hc
    · exact hc.2
    · have : s[i]? = some p.2 := by simpa using hc
      exact (List.getElem?_eq_some_iff.1 this).1
  · cases h
theorem jav {s : List UInt8} {p : Piece} : ∀ {zs : List Nat}, qx s.length zs → qx s.length (zs.filterMap (zi s p))
  | [], h => by simpa using h
  | i :: zs, ⟨h1, h2⟩ => by
    have h1' := List.pairwise_cons.1 h1; have ih := jav (s := s) (p := p) (zs := zs) ⟨h1'.2, fun j hj => h2 j (List.mem_cons_of_mem _ hj)⟩; rw [List.filterMap_cons]; cases hs : zi s p i with
    | none => exact ih
    | some j =>
      obtain ⟨rfl, hlt⟩ := vQ hs; refine ⟨List.pairwise_cons.2 ⟨fun a ha => ?_, ih.1⟩, fun a ha => ?_⟩
      · obtain ⟨b, hb, hb'⟩ := List.mem_filterMap.1 ha; obtain ⟨rfl, _⟩ := vQ hb'; have := h1'.1 b hb; omega
      · rcases List.mem_cons.1 ha with rfl | ha
        · omega
        · exact ih.2 a ha
theorem jaw {s : List UInt8} {p : Piece} {zs : List Nat} (h : qx s.length zs) : qx s.length (zl s p zs) := by
  unfold zl; split
  · cases zs with
    | nil => exact ⟨List.Pairwise.nil, by simp⟩
    | cons i r => exact jgw _ _
  · exact jav h
theorem jir (f : List UInt8 → Bool) (s : List UInt8) : jiq f s = true ↔ ∃ j, j ≤ s.length ∧ f (s.drop j) = true := by
  induction s with
  | nil => simp [jiq]
  | cons c r ih =>
    simp only [jiq, Bool.or_eq_true, ih]
    constructor
    · rintro (h | ⟨j, hj, h⟩)
      · exact ⟨0, by simp, by simpa using h⟩
      · exact ⟨j + 1, by simp; omega, by simpa using h⟩
    · rintro ⟨j, hj, h⟩; cases j with
      | zero => exact .inl (by simpa using h)
      | succ j => exact .inr ⟨j, by simp at hj; omega, by simpa using h⟩
theorem jdy (s : List UInt8) (p : Piece) (f : List UInt8 → Bool) (i : Nat) : oneB p.1 p.2 f (s.drop i) = true ↔ ∃ j, zi s p i = some j ∧ f (s.drop j) = true := by
  by_cases h : i < s.length
  · rw [List.drop_eq_getElem_cons h]; simp only [oneB, zi, List.getElem?_eq_getElem h, h, decide_true, Bool.and_true]; have e : (some s[i] == some p.2) = (s[i] == p.2) := by rfl
    rw [e]
    by_cases hc : (p.1 == 1 || s[i] == p.2) = true
    · rw [hc]; simp
    · simp only [Bool.not_eq_true] at hc; rw [hc]; simp
  · rw [List.drop_eq_nil_of_le (by omega)]; simp only [oneB]
    constructor
    · intro h'; cases h'
    · rintro ⟨j, hj, _⟩; exact absurd (vQ hj).2 h
theorem jfC (s : List UInt8) (p : Piece) (rest : List Piece) (zs : List Nat) (hz : qx s.length zs) :
    (zl s p zs).any (fun i => gm rest (s.drop i)) = zs.any (fun i => gm (p :: rest) (s.drop i)) := by
  rw [Bool.eq_iff_iff]; simp only [List.any_eq_true]; unfold zl
  by_cases hp : p.1 = 2
  · simp only [gm, hp, if_true]; cases zs with
    | nil => simp
    | cons i r =>
      simp only [jhQ, jir, List.length_drop, List.drop_drop]
      constructor
      · rintro ⟨j, ⟨h1, h2⟩, h⟩; exact ⟨i, by simp, j - i, by omega, by rw [show i + (j - i) = j from by omega]; exact h⟩
      · rintro ⟨a, ha, j, hj, h⟩; have hai : i ≤ a := by
          rcases List.mem_cons.1 ha with rfl | ha
          · exact Nat.le_refl _
          · exact Nat.le_of_lt ((List.pairwise_cons.1 hz.1).1 a ha)
        have han := hz.2 a ha; exact ⟨a + j, ⟨by omega, by omega⟩, h⟩
  · simp only [gm, hp, if_false, List.mem_filterMap]
    constructor
    · rintro ⟨j, ⟨i, hi, hij⟩, h⟩; exact ⟨i, hi, (jdy s p _ i).2 ⟨j, hij, h⟩⟩
    · rintro ⟨i, hi, h⟩; obtain ⟨j, hj, h'⟩ := (jdy s p _ i).1 h; exact ⟨j, ⟨i, hi, hj⟩, h'⟩
theorem jde (s : List UInt8) (rest : List Piece) : ∀ (ps : List Piece) (zs : List Nat), qx s.length zs →
    (ps.foldl (fun zs p => zl s p zs) zs).any (fun i => gm rest (s.drop i)) = zs.any (fun i => gm (ps ++ rest) (s.drop i))
  | [], _, _ => rfl
  | p :: ps, zs, h => by
    rw [List.foldl_cons, jde s rest ps _ (jaw h), List.cons_append, jfC _ _ _ _ h]
theorem ja2 (s : List UInt8) : ∀ (ps : List Piece) (zs : List Nat), qx s.length zs → qx s.length (ps.foldl (fun zs p => zl s p zs) zs)
  | [], _, h => h
  | _ :: ps, _, h => ja2 s ps _ (jaw h)
theorem ja3 (n : Nat) : qx n [0] := ⟨List.pairwise_singleton _ _, by simp⟩
theorem jad (s : List UInt8) (ps : List Piece) : qx s.length (runL s ps) := ja2 s ps _ (ja3 _)
theorem jim (s : List UInt8) (ps : List Piece) (p : Piece) : runL s (ps ++ [p]) = zl s p (runL s ps) := by simp [runL]
theorem jgu (s : List UInt8) (p : Piece) : zl s p [] = [] := by unfold zl; split <;> simp
theorem jhq (s : List UInt8) (ps : List Piece) : ps.foldl (fun zs p => zl s p zs) [] = [] := by
  induction ps with
  | nil => rfl
  | cons p ps ih => rw [List.foldl_cons, jgu]; exact ih
theorem jhr (s : List UInt8) (ps : List Piece) : gm ps s = (runL s ps).any (fun i => decide (s.length ≤ i)) := by
  have h := jde s [] ps [0] (ja3 _); simp only [List.append_nil, List.any_cons, List.drop_zero, List.any_nil, Bool.or_false] at h; rw [← h, runL]
  congr 1
  funext i
  simp only [gm]; rw [Bool.eq_iff_iff]
  simp
theorem jle {s : List UInt8} {pre ps : List Piece} (h : pre <+: ps) (h0 : runL s pre = []) : gm ps s = false := by
  obtain ⟨r, rfl⟩ := h; rw [jhr, runL, List.foldl_append]; have : pre.foldl (fun zs p => zl s p zs) [0] = [] := h0; rw [this, jhq]; rfl
theorem jld {s : List UInt8} {ps : List Piece} {a : Nat} (h : (runL s ps).getLast? = some a) : gm ps s = decide (a = s.length) := by
  rw [jhr, Bool.eq_iff_iff]; simp only [List.any_eq_true, decide_eq_true_eq]; have hr := jad s ps; have hmem : a ∈ runL s ps := List.mem_of_getLast? h
  constructor
  · rintro ⟨i, hi, hle⟩; have hia : i ≤ a := by
      obtain ⟨l, hl⟩ := List.getLast?_eq_some_iff.1 h; rw [hl] at hi hr
      rcases List.mem_append.1 hi with hi | hi
      · exact Nat.le_of_lt ((List.pairwise_append.1 hr.1).2.2 i hi a (by simp))
      · simp at hi; omega
    have := hr.2 a hmem; omega
  · rintro rfl; exact ⟨_, hmem, Nat.le_refl _⟩
end Go.Proofs.YtaapmpchcfcniaaGreatDoor
namespace Go.Proofs.YtaapmpchcfcniaaGreatDoor
open Go.RowKit
set_option maxRecDepth 100000 in
theorem jhw : (Tryz.prog.info? 3).map (fun i => (i.zero, i.size, i.bytes)) = some (some (.int .i64 0), 1, 8) := by kernel_rfl
def zu (l : List Nat) : List Value := l.map fun (i : Nat) => Value.int .i64 (i : Int)
set_option maxRecDepth 100000 in
theorem jbv (l : List Nat) (i : Nat) (x : Int) (h : (i : Int) = x) : zu (l ++ [i]) = zu l ++ [.int .i64 x] := by simp [zu, h]
def upTo (i m : Nat) : List Nat := (List.range m).map (i + ·)
set_option maxRecDepth 100000 in
theorem jiL (i m : Nat) : upTo i (m + 1) = upTo i m ++ [i + m] := by simp [upTo, List.range_succ]
set_option maxRecDepth 100000 in
theorem jeF (i m : Nat) : (upTo i m).length = m := by simp [upTo]
set_option maxRecDepth 100000 in
theorem jmz {w : World} {base : Nat} {v : Value} {m i n : Nat} (h : w.ownsRow base 3 1 v m (zu (upTo i m))) (hm : m = n + 1 - i) : w.ownsRow base 3 1 v (upL n i).length (zu (upL n i)) := by
  have e : upL n i = upTo i m := by rw [hm]; rfl
  rw [e, jeF]; exact h
set_option maxRecDepth 100000 in
set_option maxHeartbeats 400000 in
theorem jgv (s : ByteArray) (b : UInt8) (g cap i0 : Nat) (zs : List Nat) (w : World) (hs : s.size ≤ 1048576) (hi0 : i0 ≤ s.size) (hz : 1 ≤ zs.length)
    (hc0 : w.cell? ⟨g, 0, none⟩ = some (.int .i64 (i0 : Int))) :
    Calls Tryz.prog 161 #[.string s, .agg #[.int .i64 2, .int .u8 b.toNat], .slice (some ⟨g, 0, none⟩) zs.length cap] w fun e w' =>
      ∃ v, e = .returned v ∧ w'.ownsRow w.heap.size 3 1 v (upL s.size i0).length (zu (upL s.size i0)) ∧ Below w.heap.size w w' := by
  obtain ⟨ii, hi, hz0, hz1, hz2⟩ := info_parts jhw; have hg : g < w.heap.size := World.block_lt_of_cell? w _ hc0; have hB0 : Below w.heap.size w (w.alloc (.cells #[.int .i64 2, .int .u8 b.toNat] 218)) := (Below.refl _ _).alloc (Nat.le_refl _) _; go_enter Tryz.func161, Tryz.ntmps161; go_wp2
  go_loopw [7, 8] (fun v i wr => ∃ m : Nat, i0 + m ≤ s.size + 1 ∧ i = .int .i64 ((i0 + m : Nat) : Int) ∧ wr.ownsRow w.heap.size 3 1 v m (zu (upTo i0 m)) ∧ Below w.heap.size w wr) (fun _ i _ => s.size + 1 - (intOf i).toNat)
  case atStart => exact ⟨0, by omega, rfl, World.ownsRow_nil _ _ _ _, hB0⟩
  case round =>
    obtain ⟨m, hm, rfl, hown, hB⟩ := hrel; clear hB0 hc0
    by_cases hlt : i0 + m ≤ s.size
    · have HS : Hid _ := jbv (upTo i0 m) (i0 + m) ((i0 : Int) + m) (by omega)
      go_wp2_with (at_builtin; refine wpList_append_own _ rfl _ _ 137 rfl w.heap.size 3 ii (.int .i64 0) 1 8 Tryz.underlying137 hi hz0 hz1 hz2 rfl (by decide) _ _ _ rfl (hown.alloc _) ⟨wr.heap.size, 0, none⟩ 1 1 [.int .i64 ((i0 : Int) + m)] rfl rfl (cell_one_new _ _ _) ?c2 ?c3 ?c4 ?c5 ?_)
      case c2 => intro u hu; simp at hu; subst hu; rfl
      case c3 => unfold maxLen; omega
      case c4 => omega
      case c5 => have := hB.size; simp; omega
      intro v' w2 hown' hgrow _; have hsz := hB.size; have hB2 : Below w.heap.size w w2 := (hB.alloc hsz _).grown hgrow (by simp; omega) (fun j hj => (hown.lt j hj).1); rw [← HS.out, ← jiL] at hown'; clear hgrow hown; go_wp2
      go_roundw
      case rel => exact ⟨m + 1, by omega, by go_num, hown', hB2⟩
      case measure => simp [intOf]; omega
    · have hm' : m = s.size + 1 - i0 := by omega
      have hown2 := jmz hown hm'; clear hown hm'; go_wp2; go_ret; exact ⟨_, rfl, hown2, hB⟩
set_option maxRecDepth 100000 in
theorem jbX {s : List UInt8} {p : Piece} {zs : List Nat} {k z : Nat} (h : zs[k]? = some z) : (zs.take (k + 1)).filterMap (zi s p) = (zs.take k).filterMap (zi s p) ++ (zi s p z).toList := by
  rw [List.take_add_one, h, List.filterMap_append]; cases hs : zi s p z <;> simp [hs]
set_option maxRecDepth 100000 in
theorem jhi {s : List UInt8} {p : Piece} {zs : List Nat} (k : Nat) : ((zs.take k).filterMap (zi s p)).length ≤ k := by
  have h1 := List.length_filterMap_le (zi s p) (zs.take k); have h2 := List.length_take_le k zs; omega
set_option maxRecDepth 100000 in
theorem jj9 {s : ByteArray} {p : Piece} {z : Nat} (h : ¬ z < s.size) : zi s.data.toList p z = none := by
  cases hs : zi s.data.toList p z with
  | none => rfl
  | some j => exact absurd (by have := (vQ hs).2; rwa [size_list] at this) h
set_option maxRecDepth 100000 in
theorem jj8 {s : ByteArray} {b : UInt8} {z : Nat} (h : z < s.size) : zi s.data.toList (1, b) z = some (z + 1) := by
  have : z < s.data.toList.length := by rw [size_list]; exact h
  unfold zi; rw [if_pos]
  simp
  exact .inl h
set_option maxRecDepth 100000 in
theorem jka {s : ByteArray} {k : Nat} {b : UInt8} {z : Nat} (h : z < s.size) (e : s[z] = b) : zi s.data.toList (k, b) z = some (z + 1) := by
  unfold zi; rw [if_pos]; rw [qA s z h, e]
  simp
set_option maxRecDepth 100000 in
theorem jlM {s : ByteArray} {k : Nat} {b : UInt8} {z : Nat} (hk : k ≠ 1) (h : z < s.size) (e : s[z] ≠ b) : zi s.data.toList (k, b) z = none := by
  unfold zi; rw [if_neg]; rw [qA s z h]
  simp [hk]
  exact e
set_option maxRecDepth 100000 in
theorem jdN {w : World} {b b' : Nat} {e : TypeId} {v : Value} {n : Nat} {xs : List Value} (hb : b' ≤ b) (h : w.ownsRow b e 1 v n xs) : w.ownsRow b' e 1 v n xs := by
  refine ⟨h.1, ?_⟩
  rcases h.2 with h | ⟨g, cap, cur, h1, h2, r⟩
  · exact .inl h
  · exact .inr ⟨g, cap, cur, h1, Nat.le_trans hb h2, r⟩
set_option maxRecDepth 100000 in
theorem je7 {w : World} {base : Nat} {v : Value} {s : List UInt8} {p : Piece} {zs : List Nat} {k z : Nat} (hz : zs[k]? = some z) (hs : zi s p z = none)
    (h : w.ownsRow base 3 1 v ((zs.take k).filterMap (zi s p)).length (zu ((zs.take k).filterMap (zi s p)))) :
    w.ownsRow base 3 1 v ((zs.take (k + 1)).filterMap (zi s p)).length (zu ((zs.take (k + 1)).filterMap (zi s p))) := by
  rw [jbX hz, hs]
  simpa using h
set_option maxRecDepth 100000 in
theorem je8 {w : World} {base : Nat} {v : Value} {s : List UInt8} {p : Piece} {zs : List Nat} {k z : Nat} (hz : zs[k]? = some z) (hs : zi s p z = some (z + 1)) {x : Int} (hx : ((z + 1 : Nat) : Int) = x)
    (h : w.ownsRow base 3 1 v (((zs.take k).filterMap (zi s p)).length + 1) (zu ((zs.take k).filterMap (zi s p)) ++ [.int .i64 x])) :
    w.ownsRow base 3 1 v ((zs.take (k + 1)).filterMap (zi s p)).length (zu ((zs.take (k + 1)).filterMap (zi s p))) := by
  rw [jbX hz, hs]; rw [← jbv _ _ _ hx] at h
  simpa using h
set_option maxRecDepth 100000 in
set_option maxHeartbeats 400000 in
theorem jig (s : ByteArray) (p : Piece) (g cap : Nat) (zs : List Nat) (w : World) (hs : s.size ≤ 1048576) (hp : p.1 ≠ 2) (hl : zs.length ≤ 1048577) (hz : ∀ z ∈ zs, z ≤ s.size)
    (hc0 : ∀ k z : Nat, zs[k]? = some z → w.cell? ⟨g, k, none⟩ = some (.int .i64 (z : Int))) (hg : g < w.heap.size) :
    Calls Tryz.prog 161 #[.string s, .agg #[.int .i64 p.1, .int .u8 p.2.toNat], .slice (some ⟨g, 0, none⟩) zs.length cap] w fun e w' =>
      ∃ v, e = .returned v ∧ w'.ownsRow w.heap.size 3 1 v (zs.filterMap (zi s.data.toList p)).length (zu (zs.filterMap (zi s.data.toList p))) ∧ Below w.heap.size w w' := by
  obtain ⟨kd, b⟩ := p; simp only at hp ⊢; obtain ⟨ii, hi, hz0, hz1, hz2⟩ := info_parts jhw; have hB0 : Below (w.heap.size + 1) (w.alloc (.cells #[.int .i64 (kd : Int), .int .u8 b.toNat] 218)) (w.alloc (.cells #[.int .i64 (kd : Int), .int .u8 b.toNat] 218)) := Below.refl _ _; have hc1 : (w.alloc (.cells #[.int .i64 (kd : Int), .int .u8 b.toNat] 218)).cell? ⟨w.heap.size, 0, none⟩ = some (.int .i64 (kd : Int)) := by simp
  have hc2 : (w.alloc (.cells #[.int .i64 (kd : Int), .int .u8 b.toNat] 218)).cell? ⟨w.heap.size, 1, none⟩ = some (.int .u8 b.toNat) := by simp
  have hcW : ∀ k z : Nat, zs[k]? = some z → (w.alloc (.cells #[.int .i64 (kd : Int), .int .u8 b.toNat] 218)).cell? ⟨g, k, none⟩ = some (.int .i64 (z : Int)) := fun k z h => (World.cell?_alloc_past _ _ _ hg).trans (hc0 k z h)
  have hBw : Below w.heap.size w (w.alloc (.cells #[.int .i64 (kd : Int), .int .u8 b.toNat] 218)) := (Below.refl _ _).alloc (Nat.le_refl _) _; clear hc0; have hkd2 : ((kd : Int) == 2) = false := by rw [beq_eq_false_iff_ne]; omega
  go_enter Tryz.func161, Tryz.ntmps161; go_wp2; generalize hW0 : w.alloc (.cells #[.int .i64 (kd : Int), .int .u8 b.toNat] 218) = W0 at *
  go_loopw [7, 30] (fun v i wr => ∃ k : Nat, k ≤ zs.length ∧ i = .int .i64 (k : Int) ∧ wr.ownsRow (w.heap.size + 1) 3 1 v ((zs.take k).filterMap (zi s.data.toList (kd, b))).length (zu ((zs.take k).filterMap (zi s.data.toList (kd, b)))) ∧ Below (w.heap.size + 1) W0 wr) (fun _ i _ => zs.length - (intOf i).toNat)
  case atStart => exact ⟨0, by omega, rfl, World.ownsRow_nil _ _ _ _, hB0⟩
  case round =>
    obtain ⟨k, hk, rfl, hown, hB⟩ := hrel; have hsW : W0.heap.size = w.heap.size + 1 := by rw [← hW0]; simp
    clear hB0 hW0; have hq0 := (hB.cell (p := ⟨w.heap.size, 0, none⟩) (by simp)).trans hc1; have hq1 := (hB.cell (p := ⟨w.heap.size, 1, none⟩) (by simp)).trans hc2; have hle := jhi (s := s.data.toList) (p := (kd, b)) (zs := zs) k
    by_cases hlt : k < zs.length
    · obtain ⟨z, hzk⟩ : ∃ z, zs[k]? = some z := ⟨_, List.getElem?_eq_getElem hlt⟩; have hzn : z ≤ s.size := hz z (List.mem_of_getElem? hzk); have hcz := (hB.cell (p := ⟨g, k, none⟩) (by simp; omega)).trans (hcW k z hzk); clear hcW hc1 hc2 hz; have hwz := hB.size
      by_cases hin : z < s.size
      · have hd : decide ((z : Int) < (s.size : Int)) = true := by simp; omega
        have hd' : (z : Int) < (s.size : Int) := by omega
        by_cases hk1 : kd = 1
        · have HM : Hid _ := fun v (u : World) => je8 (w := u) (v := v) (base := w.heap.size + 1) hzk (jj8 (b := b) hin) (x := (z : Int) + 1) (by omega)
          subst hk1; clear hzk; go_wp2
          go_quiet (fail)
          go_wp2_with (at_builtin; refine wpList_append_own _ rfl _ _ 137 rfl (w.heap.size + 1) 3 ii (.int .i64 0) 1 8 Tryz.underlying137 hi hz0 hz1 hz2 rfl (by decide) _ _ _ rfl (World.ownsRow.alloc (show World.ownsRow (wr.drewN nq) _ _ _ _ _ _ from hown) _) ⟨wr.heap.size, 0, none⟩ 1 1 [.int .i64 ((z : Int) + 1)] rfl rfl (cell_one_new _ _ _) ?c2 ?c3 ?c4 ?c5 ?_)
          case c2 => intro u hu; simp at hu; subst hu; rfl
          case c3 => unfold maxLen; omega
          case c4 => omega
          case c5 => have := hB.size; simp; omega
          intro v' w2 hown' hgrow _; have hB2 : Below (w.heap.size + 1) W0 w2 := ((below_drewN hB nq).alloc (by show _ ≤ wr.heap.size; omega) _).grown hgrow (by simp; omega) (fun j hj => (hown.lt j hj).1); have hown2 := HM.out v' w2 hown'; clear hgrow hown hown'; go_wp2
          go_roundw
          case rel => first | exact ⟨k + 1, by omega, by go_num, hown2, hB2⟩ | ((repeat apply Exists.intro); exact ⟨⟨k + 1, by omega, by go_num, hown2, hB2⟩, rfl⟩)
          case measure => simp [intOf]; omega
        · have hk1' : ((kd : Int) == 1) = false := by rw [beq_eq_false_iff_ne]; omega
          by_cases hb : s[z] = b
          · have HM : Hid _ := fun v (u : World) => je8 (w := u) (v := v) (base := w.heap.size + 1) hzk (jka (k := kd) hin hb) (x := (z : Int) + 1) (by omega)
            have hbb : (((s[z]).toNat : Int) == (b.toNat : Int)) = true := by simp [hb]
            clear hzk hb; go_wp2
            go_quiet (fail)
            go_wp2_with (at_builtin; refine wpList_append_own _ rfl _ _ 137 rfl (w.heap.size + 1) 3 ii (.int .i64 0) 1 8 Tryz.underlying137 hi hz0 hz1 hz2 rfl (by decide) _ _ _ rfl (World.ownsRow.alloc (show World.ownsRow (wr.drewN nq) _ _ _ _ _ _ from hown) _) ⟨wr.heap.size, 0, none⟩ 1 1 [.int .i64 ((z : Int) + 1)] rfl rfl (cell_one_new _ _ _) ?d2 ?d3 ?d4 ?d5 ?_)
            case d2 => intro u hu; simp at hu; subst hu; rfl
            case d3 => unfold maxLen; omega
            case d4 => omega
            case d5 => have := hB.size; simp; omega
            intro v' w2 hown' hgrow _; have hB2 : Below (w.heap.size + 1) W0 w2 := ((below_drewN hB nq).alloc (by show _ ≤ wr.heap.size; omega) _).grown hgrow (by simp; omega) (fun j hj => (hown.lt j hj).1); have hown2 := HM.out v' w2 hown'; clear hgrow hown hown'; go_wp2
            go_roundw
            case rel => first | exact ⟨k + 1, by omega, by go_num, hown2, hB2⟩ | ((repeat apply Exists.intro); exact ⟨⟨k + 1, by omega, by go_num, hown2, hB2⟩, rfl⟩)
            case measure => simp [intOf]; omega
          · have HN : Hid _ := je7 hzk (jlM hk1 hin hb) hown; have hbb : (((s[z]).toNat : Int) == (b.toNat : Int)) = false := by
              rw [beq_eq_false_iff_ne]; intro e; exact hb (UInt8.toNat_inj.1 (by omega))
            clear hown hzk hb; go_wp2
            go_quiet (fail)
            go_wp2
            go_roundw
            case rel => exact ⟨k + 1, by omega, by go_num, HN.out, below_drewN hB _⟩
            case measure => simp [intOf]; omega
      · have HN : Hid _ := je7 hzk (jj9 hin) hown; have hd : decide ((z : Int) < (s.size : Int)) = false := by simp; omega
        clear hown hzk; go_wp2
        go_quiet (fail)
        go_wp2
        go_roundw
        case rel => exact ⟨k + 1, by omega, by go_num, HN.out, below_drewN hB _⟩
        case measure => simp [intOf]; omega
    · rw [List.take_of_length_le (by omega)] at hown; have hown2 := jdN (b' := w.heap.size) (by omega) hown; clear hown; go_wp2; go_ret; exact ⟨_, rfl, hown2, hBw.trans (hB.mono (by omega))⟩
set_option maxRecDepth 100000 in
theorem jif (s : ByteArray) (p : Piece) (v : Value) (base : Nat) (zs : List Nat) (w : World) (hs : s.size ≤ 1048576) (hne : zs ≠ []) (hr : qx s.data.toList.length zs) (hl : zs.length ≤ 1048577)
    (hown : w.ownsRow base 3 1 v zs.length (zu zs)) :
    Calls Tryz.prog 161 #[.string s, .agg #[.int .i64 p.1, .int .u8 p.2.toNat], v] w fun e w' =>
      ∃ v', e = .returned v' ∧ w'.ownsRow w.heap.size 3 1 v' (zl s.data.toList p zs).length (zu (zl s.data.toList p zs)) ∧ Below w.heap.size w w' := by
  have hpos : 0 < zs.length := List.length_pos_iff.2 hne
  rcases hown.2 with ⟨_, h0⟩ | ⟨g, cap, cur, rfl, _, hg, _⟩
  · omega
  · have hcell : ∀ k z : Nat, zs[k]? = some z → w.cell? ⟨g, k, none⟩ = some (.int .i64 (z : Int)) := fun k z h => by
      rw [hown.cellAt k (by have := (List.getElem?_eq_some_iff.1 h).1; omega)]
      simp [zu, h]
    have hgs : g < w.heap.size := (Array.getElem?_eq_some_iff.1 hg).1
    by_cases hp : p.1 = 2
    · obtain ⟨kd, b⟩ := p; simp only at hp; subst hp; cases zs with
      | nil => exact absurd rfl hne
      | cons i0 r =>
        have e : zl s.data.toList (2, b) (i0 :: r) = upL s.size i0 := by rw [zl, if_pos rfl, size_list]
        rw [e]; have hi := hr.2 i0 (by simp); rw [size_list] at hi; exact jgv s b g cap i0 (i0 :: r) w hs hi (by simp) (hcell 0 i0 (by simp))
    · have e : zl s.data.toList p zs = zs.filterMap (zi s.data.toList p) := by unfold zl; rw [if_neg hp]
      rw [e]; exact jig s p g cap zs w hs hp hl (fun z hz => by have := hr.2 z hz; rwa [size_list] at this) hcell hgs
end Go.Proofs.YtaapmpchcfcniaaGreatDoor
namespace Go.Proofs.YtaapmpchcfcniaaGreatDoor
open Go.RowKit Go.Shelf
attribute [local go_sem] Oper.semAt_some
def KeepAt (b : Nat) (W W' : World) : Prop := W.heap.size ≤ W'.heap.size ∧ (b < W.heap.size → W'.heap[b]? = W.heap[b]?)
set_option maxRecDepth 100000 in
theorem KeepAt.refl (b : Nat) (W : World) : KeepAt b W W := ⟨Nat.le_refl _, fun _ => rfl⟩
set_option maxRecDepth 100000 in
theorem KeepAt.trans {b : Nat} {A B C : World} (h : KeepAt b A B) (k : KeepAt b B C) : KeepAt b A C := ⟨Nat.le_trans h.1 k.1, fun hb => (k.2 (Nat.lt_of_lt_of_le hb h.1)).trans (h.2 hb)⟩
set_option maxRecDepth 100000 in
theorem KeepAt.alloc {b : Nat} {A B : World} (h : KeepAt b A B) (o : Obj) : KeepAt b A (B.alloc o) := h.trans ⟨by simp, fun hb => Below.heap_alloc B o b hb⟩
set_option maxRecDepth 100000 in
theorem KeepAt.cell {b : Nat} {A B : World} (h : KeepAt b A B) (hb : b < A.heap.size) : B.cell? ⟨b, 0, none⟩ = A.cell? ⟨b, 0, none⟩ := World.cell?_of_block (w := A) (h.2 hb)
set_option maxRecDepth 100000 in
theorem KeepAt.put {b : Nat} {w : World} (hb : b < w.heap.size) (W : World) (l : Nat) (o o' : Obj) (hl : w.heap.size ≤ l) (_ : W.heap[l]? = some o) (_ : o.isCells = false) (_ : o.isWalk = false) : KeepAt b W (W.putObj l o') :=
  ⟨(grownBy_putObj' W l o').size, fun hbl => (grownBy_putObj' W l o').block b hbl (fun e => by cases e; omega)⟩
def jia (x : Piece) : Array Value := #[.agg #[.int .i64 x.1, .int .u8 x.2.toNat]]
set_option maxRecDepth 100000 in
set_option maxHeartbeats 1000000 in
theorem jib (F : Fence) (n : Nat) (h5 : F.fn 160) (hro : F.round = none) (p : ByteArray) (w : World) :
    CallsIn F n Tryz.prog 160 #[.string p] w fun e w' => e = .returned (.func (.func 178) #[] #[.pointer (some ⟨w.heap.size, 0, none⟩)]) ∧ w' = w.alloc (.cells #[.string p] 9) := by
  refine callsIn_of_wp Tryz.func160 rfl h5 ?_ hro; simp only [Tryz.ntmps160, List.size_toArray, List.length_cons, List.length_nil, Nat.reduceAdd, Nat.reduceSub, Array.replicate_succ, Array.replicate_zero, List.push_toArray, List.append_toArray, List.nil_append, List.cons_append]
  gi_wp2
  go_ret; exact ⟨rfl, rfl⟩
set_option maxRecDepth 100000 in
set_option maxHeartbeats 1000000 in
theorem jgq (F : Fence) (n : Nat) (h6 : F.fn 178) (hro : F.round = none) (hn : 1 ≤ n) (l Bn : Nat) (p : ByteArray) (hp : p.size ≤ 1048576) (J Jx : List Piece → World → Prop)
    (W : World) (hBn0 : Bn < W.heap.size) (hJ : AbidesFrom W.heap.size J)
    (hY : ∀ pre x W, J pre W → pre.length < (js p.data.toList).length → YieldAt F (n - 1) Tryz.prog l (jia x) W fun e W' =>
      (e = .returned (.bool true) ∧ J (pre ++ [x]) W' ∧ KeepAt Bn W W') ∨ (e = .returned (.bool false) ∧ Jx (pre ++ [x]) W'))
    (hBn : W.cell? ⟨Bn, 0, none⟩ = some (.string p)) (h0 : J [] W) :
    CallsIn F n Tryz.prog 178 #[.func (.yield l) #[] #[], .pointer (some ⟨Bn, 0, none⟩)] W fun e W' => (∃ v, e = .returned v) ∧
      ((∃ ys, ys = js p.data.toList ∧ J ys W') ∨ (∃ pre, pre <+: js p.data.toList ∧ Jx pre W')) := by
  refine callsIn_of_wp Tryz.func178 rfl h6 ?_ hro; simp only [Tryz.ntmps178, List.size_toArray, List.length_cons, List.length_nil, Nat.reduceAdd, Nat.reduceSub, Array.replicate_succ, Array.replicate_zero, List.push_toArray, List.append_toArray, List.nil_append, List.cons_append]
  gi_wp2
  gi_loopw [3] (fun i wr => ∃ (k : Nat) (pre : List Piece), i = .int .i64 (k : Int) ∧ k ≤ p.size ∧ js p.data.toList = pre ++ js (p.data.toList.drop k) ∧ KeepAt Bn W wr ∧ J pre wr)
    (fun i _ => p.size - (intOf i).toNat)
  case atStart =>
    exact ⟨0, [], rfl, by omega, by simp, KeepAt.refl _ _, h0⟩
  case round =>
    obtain ⟨k, pre, rfl, hk, hx, hB, hJs⟩ := hrel; have hBl : Bn < wr.heap.size := Nat.lt_of_lt_of_le hBn0 hB.1; have hc := (hB.cell hBn0).trans hBn
    by_cases hlt : k < p.size
    · have hd := jha p k hlt
      by_cases h42 : ((p[k].toNat : Int) == 42) = true
      · have hxs : js (p.data.toList.drop k) = (2, 0) :: js (p.data.toList.drop (k + 1)) := by rw [hd, jcO (d := 42) (by omega) h42]; exact jlF _
        clear hd; obtain ⟨fn, tmps, assign, body, hy, hR⟩ := hY pre (2, 0) (wr.alloc (.cells #[.int .i64 2, .int .u8 0] 218)) (hJ _ _ _ none hJs (World.grownBy_alloc _ _ _) (fun r e => by cases e)) (by rw [hx, hxs]; simp); replace hy : (Instr.yield l #[.agg #[.int .i64 2, .int .u8 0]]).run Tryz.prog (wr.alloc (.cells #[.int .i64 2, .int .u8 0] 218)) = _ := hy; have HX : Hid _ := hxs; clear hxs hY
        gi_wp2
        refine hR.mono ?_; rintro e W3 (⟨rfl, hJ3, hk3⟩ | ⟨rfl, hJx3⟩)
        · have hB3 := (hB.alloc (.cells #[.int .i64 2, .int .u8 0] 218)).trans hk3
          gi_wp2
          go_roundw
          case rel => exact ⟨k + 1, pre ++ [(2, 0)], by go_num, by omega, by rw [hx, HX.out]; simp, hB3, hJ3⟩
          case measure => simp [intOf]; omega
        · gi_wp2
          refine bodyPost_ret (results_none rfl _ _ _) rfl ?_; exact ⟨⟨_, rfl⟩, .inr ⟨pre ++ [(2, 0)], ⟨js (p.data.toList.drop (k + 1)), by rw [hx, HX.out]; simp⟩, hJx3⟩⟩
      · replace h42 : ((p[k].toNat : Int) == 42) = false := by simpa using h42
        by_cases h63 : ((p[k].toNat : Int) == 63) = true
        · have hxs : js (p.data.toList.drop k) = (1, 0) :: js (p.data.toList.drop (k + 1)) := by rw [hd, jcO (d := 63) (by omega) h63]; exact jmB _
          clear hd; obtain ⟨fn, tmps, assign, body, hy, hR⟩ := hY pre (1, 0) (wr.alloc (.cells #[.int .i64 1, .int .u8 0] 218)) (hJ _ _ _ none hJs (World.grownBy_alloc _ _ _) (fun r e => by cases e)) (by rw [hx, hxs]; simp); replace hy : (Instr.yield l #[.agg #[.int .i64 1, .int .u8 0]]).run Tryz.prog (wr.alloc (.cells #[.int .i64 1, .int .u8 0] 218)) = _ := hy; have HX : Hid _ := hxs; clear hxs hY
          gi_wp2
          refine hR.mono ?_; rintro e W3 (⟨rfl, hJ3, hk3⟩ | ⟨rfl, hJx3⟩)
          · have hB3 := (hB.alloc (.cells #[.int .i64 1, .int .u8 0] 218)).trans hk3
            gi_wp2
            go_roundw
            case rel => exact ⟨k + 1, pre ++ [(1, 0)], by go_num, by omega, by rw [hx, HX.out]; simp, hB3, hJ3⟩
            case measure => simp [intOf]; omega
          · gi_wp2
            refine bodyPost_ret (results_none rfl _ _ _) rfl ?_; exact ⟨⟨_, rfl⟩, .inr ⟨pre ++ [(1, 0)], ⟨js (p.data.toList.drop (k + 1)), by rw [hx, HX.out]; simp⟩, hJx3⟩⟩
        · replace h63 : ((p[k].toNat : Int) == 63) = false := by simpa using h63
          by_cases h92 : ((p[k].toNat : Int) == 92) = true
          · by_cases hl1 : k + 1 < p.size
            · have hxs : js (p.data.toList.drop k) = (0, p[k + 1]) :: js (p.data.toList.drop (k + 2)) := by rw [hd, jcO (d := 92) (by omega) h92, jha p (k + 1) hl1]; exact jmC _ _
              have hl2 : (k : Int) + 1 < (p.size : Int) := by omega
              clear hd; obtain ⟨fn, tmps, assign, body, hy, hR⟩ := hY pre (0, p[k + 1]) (wr.alloc (.cells #[.int .i64 0, .int .u8 (p[k + 1].toNat : Int)] 218)) (hJ _ _ _ none hJs (World.grownBy_alloc _ _ _) (fun r e => by cases e)) (by rw [hx, hxs]; simp); replace hy : (Instr.yield l #[.agg #[.int .i64 0, .int .u8 (p[k + 1].toNat : Int)]]).run Tryz.prog (wr.alloc (.cells #[.int .i64 0, .int .u8 (p[k + 1].toNat : Int)] 218)) = _ := hy; have HX : Hid _ := hxs; clear hxs hY
              gi_wp2
              refine hR.mono ?_; rintro e W3 (⟨rfl, hJ3, hk3⟩ | ⟨rfl, hJx3⟩)
              · have hB3 := (hB.alloc (.cells #[.int .i64 0, .int .u8 (p[k + 1].toNat : Int)] 218)).trans hk3
                gi_wp2
                go_roundw
                case rel => exact ⟨k + 2, pre ++ [(0, p[k + 1])], by go_num, by omega, by rw [hx, HX.out]; simp, hB3, hJ3⟩
                case measure => simp [intOf]; omega
              · gi_wp2
                refine bodyPost_ret (results_none rfl _ _ _) rfl ?_; exact ⟨⟨_, rfl⟩, .inr ⟨pre ++ [(0, p[k + 1])], ⟨js (p.data.toList.drop (k + 2)), by rw [hx, HX.out]; simp⟩, hJx3⟩⟩
            · have hxs : js (p.data.toList.drop k) = (0, p[k]) :: js (p.data.toList.drop (k + 1)) := by rw [hd]; exact jic (jaj (d := 42) (by omega) h42) (jaj (d := 63) (by omega) h63) (.inr (List.drop_eq_nil_of_le (by rw [size_list]; omega)))
              clear hd; have hl2 : ¬ (k : Int) + 1 < (p.size : Int) := by omega
              obtain ⟨fn, tmps, assign, body, hy, hR⟩ := hY pre (0, p[k]) (wr.alloc (.cells #[.int .i64 0, .int .u8 (p[k].toNat : Int)] 218)) (hJ _ _ _ none hJs (World.grownBy_alloc _ _ _) (fun r e => by cases e)) (by rw [hx, hxs]; simp); replace hy : (Instr.yield l #[.agg #[.int .i64 0, .int .u8 (p[k].toNat : Int)]]).run Tryz.prog (wr.alloc (.cells #[.int .i64 0, .int .u8 (p[k].toNat : Int)] 218)) = _ := hy; have HX : Hid _ := hxs; clear hxs hY
              gi_wp2
              refine hR.mono ?_; rintro e W3 (⟨rfl, hJ3, hk3⟩ | ⟨rfl, hJx3⟩)
              · have hB3 := (hB.alloc (.cells #[.int .i64 0, .int .u8 (p[k].toNat : Int)] 218)).trans hk3
                gi_wp2
                go_roundw
                case rel => exact ⟨k + 1, pre ++ [(0, p[k])], by go_num, by omega, by rw [hx, HX.out]; simp, hB3, hJ3⟩
                case measure => simp [intOf]; omega
              · gi_wp2
                refine bodyPost_ret (results_none rfl _ _ _) rfl ?_; exact ⟨⟨_, rfl⟩, .inr ⟨pre ++ [(0, p[k])], ⟨js (p.data.toList.drop (k + 1)), by rw [hx, HX.out]; simp⟩, hJx3⟩⟩
          · replace h92 : ((p[k].toNat : Int) == 92) = false := by simpa using h92
            have hxs : js (p.data.toList.drop k) = (0, p[k]) :: js (p.data.toList.drop (k + 1)) := by rw [hd]; exact jic (jaj (d := 42) (by omega) h42) (jaj (d := 63) (by omega) h63) (.inl (jaj (d := 92) (by omega) h92))
            clear hd; obtain ⟨fn, tmps, assign, body, hy, hR⟩ := hY pre (0, p[k]) (wr.alloc (.cells #[.int .i64 0, .int .u8 (p[k].toNat : Int)] 218)) (hJ _ _ _ none hJs (World.grownBy_alloc _ _ _) (fun r e => by cases e)) (by rw [hx, hxs]; simp); replace hy : (Instr.yield l #[.agg #[.int .i64 0, .int .u8 (p[k].toNat : Int)]]).run Tryz.prog (wr.alloc (.cells #[.int .i64 0, .int .u8 (p[k].toNat : Int)] 218)) = _ := hy; have HX : Hid _ := hxs; clear hxs hY
            gi_wp2
            refine hR.mono ?_; rintro e W3 (⟨rfl, hJ3, hk3⟩ | ⟨rfl, hJx3⟩)
            · have hB3 := (hB.alloc (.cells #[.int .i64 0, .int .u8 (p[k].toNat : Int)] 218)).trans hk3
              gi_wp2
              go_roundw
              case rel => exact ⟨k + 1, pre ++ [(0, p[k])], by go_num, by omega, by rw [hx, HX.out]; simp, hB3, hJ3⟩
              case measure => simp [intOf]; omega
            · gi_wp2
              refine bodyPost_ret (results_none rfl _ _ _) rfl ?_; exact ⟨⟨_, rfl⟩, .inr ⟨pre ++ [(0, p[k])], ⟨js (p.data.toList.drop (k + 1)), by rw [hx, HX.out]; simp⟩, hJx3⟩⟩
    · gi_wp2
      go_end0; exact ⟨⟨_, rfl⟩, .inl ⟨pre, by rw [hx, List.drop_eq_nil_of_le (by rw [size_list]; omega)]; simp [js], hJs⟩⟩
end Go.Proofs.YtaapmpchcfcniaaGreatDoor
namespace Go.Proofs.YtaapmpchcfcniaaGreatDoor
open Go.RowKit Go.Shelf
attribute [local go_sem] Oper.semAt_some
set_option maxRecDepth 100000 in
theorem jdD (F : Fence) (n : Nat) (h6 : F.fn 178) (hro : F.round = none) (hn : 1 ≤ n) (Bn : Nat) (p : ByteArray) (hp : p.size ≤ 1048576) (w : World) (hBn : Bn < w.heap.size)
    (hc : w.cell? ⟨Bn, 0, none⟩ = some (.string p)) :
    SeqStopsK F n Tryz.prog 178 #[.pointer (some ⟨Bn, 0, none⟩)] jia (KeepAt Bn) (fun ys => ys = js p.data.toList) (fun pre => pre <+: js p.data.toList) (js p.data.toList).length w := fun l J Jx W hW hJ _ hY h0 =>
  jgq F n h6 hro hn l Bn p hp J Jx W (Nat.lt_of_lt_of_le hBn hW.size) hJ hY ((hW.cell (p := ⟨Bn, 0, none⟩) hBn).trans hc) h0
set_option maxRecDepth 100000 in
theorem jcz {n : Nat} : ∀ {zs : List Nat} {a : Nat}, zs.Pairwise (· < ·) → (∀ i ∈ zs, a ≤ i ∧ i ≤ n) → zs.length ≤ n + 1 - a
  | [], _, _, _ => by simp
  | i :: r, a, h, hm => by
    have h' := List.pairwise_cons.1 h; have ih := jcz (n := n) (zs := r) (a := i + 1) h'.2 (fun j hj => ⟨h'.1 j hj, (hm j (List.mem_cons_of_mem _ hj)).2⟩); have := hm i (by simp); simp only [List.length_cons]; omega
set_option maxRecDepth 100000 in
theorem jff (S : List UInt8) (ps : List Piece) : (runL S ps).length ≤ S.length + 1 := by
  have h := jad S ps; exact jcz (a := 0) h.1 (fun i hi => ⟨Nat.zero_le _, h.2 i hi⟩)
set_option maxRecDepth 100000 in
theorem jbQ {w : World} {b : Nat} {e : TypeId} {v : Value} {n : Nat} {xs : List Value} (h : w.ownsRow b e 1 v n xs) : ∃ ao cap, v = .slice ao n cap := by
  rcases h.2 with ⟨h, h0⟩ | ⟨g, cap, cur, h1, r⟩
  · exact ⟨none, 0, by rw [h, h0]⟩
  · exact ⟨_, _, h1⟩
set_option maxRecDepth 100000 in
theorem jbM {W W' : World} (h : Below W.heap.size W W') : KeepsOthers W W' := ⟨h.size, fun k _ hk _ => (h.block k (Array.getElem?_eq_some_iff.1 hk).1).trans hk⟩
set_option maxRecDepth 100000 in
theorem jJ {W W' : World} {B : Nat} {t : TypeId} {v : Value} (h : Boxed W B t v) (hb : Below W.heap.size W W') : Boxed W' B t v := (hb.block B h.lt).trans h
set_option maxRecDepth 100000 in
theorem jdt {W W' : World} (b : Nat) (h : Below W.heap.size W W') : KeepAt b W W' := ⟨h.size, fun hb => h.block b hb⟩
set_option maxRecDepth 100000 in
theorem KeepAt.set {b c : Nat} {A B : World} (h : KeepAt b A B) (hc : b ≠ c) (v : Value) : KeepAt b A (B.setCell ⟨c, 0, none⟩ v) := h.trans ⟨(grownBy_setCell' B c v).size, fun hb => (grownBy_setCell' B c v).block b hb (fun e => hc (by cases e; rfl))⟩
set_option maxRecDepth 100000 in
theorem jjE {W : World} {b B : Nat} {e t : TypeId} {v u x : Value} {n : Nat} {xs : List Value} (h : W.ownsRow b e 1 v n xs) (hB : Boxed W B t u) (hte : t ≠ e) : (W.setCell ⟨B, 0, none⟩ x).ownsRow b e 1 v n xs :=
  h.kept (grownBy_setCell' W B x) (.inr (fun he => hB.not_row hte h he.symm))
def jgP (F : Fence) : Prop :=
  ∀ (m : Nat) (s : ByteArray) (S : List UInt8) (p : Piece) (v : Value) (base : Nat) (zs : List Nat) (w : World), S = s.data.toList → s.size ≤ 1048576 → zs ≠ [] → qx S.length zs → zs.length ≤ 1048577 → w.ownsRow base 3 1 v zs.length (zu zs) →
    CallsIn F m Tryz.prog 161 #[.string s, .agg #[.int .i64 p.1, .int .u8 p.2.toNat], v] w fun e w' =>
      ∃ v', e = .returned v' ∧ w'.ownsRow w.heap.size 3 1 v' (zl S p zs).length (zu (zl S p zs)) ∧ Below w.heap.size w w'
set_option maxRecDepth 100000 in
set_option maxHeartbeats 2000000 in
theorem jgj (F : Fence) (n : Nat) (h3 : F.fn 134) (h4 : F.fn 160) (h5 : F.fn 178) (h6 : F.fn 161) (hro : F.round = none) (hw : Hid (F = Fence.wide)) (hRe : jgP F) (hn : 6 ≤ n) (s p : ByteArray) (hs : s.size ≤ 2000) (hp : p.size ≤ 1048576) (w : World) :
    CallsIn F n Tryz.prog 134 #[.string s, .string p] w fun e W' => e = .returned (.bool (jfW s.data.toList p.data.toList)) ∧ Below w.heap.size w W' := by
  have h1 : 1 ≤ n := by omega
  refine callsIn_of_wp_marks Tryz.func134 rfl h3 ?_ hro; simp only [Tryz.ntmps134, List.size_toArray, List.length_cons, List.length_nil, Nat.reduceAdd, Nat.reduceSub, Array.replicate_succ, Array.replicate_zero, List.push_toArray, List.append_toArray, List.nil_append, List.cons_append]
  gi_wp2_with (gi_at_call 160; refine (jib F (n - 1) h4 hro _ _).mono ?_; rintro e w' ⟨rfl, rfl⟩)
  obtain ⟨S, hS⟩ : ∃ S, S = s.data.toList := ⟨_, rfl⟩; have hSn : S.length = s.size := by rw [hS]; exact size_list s
  have HS : Hid _ := hS; clear hS; have bS := (((((Boxed.new w 9 (.string s)).alloc (.cells #[.bool false] 4)).alloc (.cells #[.int .i64 0] 3)).alloc (.cells #[.slice (some ⟨w.heap.size + 1 + 1, 0, none⟩) 1 1] 137)).alloc (.cells #[.string p] 9)); have bR := (((Boxed.new (w.alloc (.cells #[.string s] 9)) 4 (.bool false)).alloc (.cells #[.int .i64 0] 3)).alloc (.cells #[.slice (some ⟨w.heap.size + 1 + 1, 0, none⟩) 1 1] 137)).alloc (.cells #[.string p] 9); have bV := (Boxed.new (((w.alloc (.cells #[.string s] 9)).alloc (.cells #[.bool false] 4)).alloc (.cells #[.int .i64 0] 3)) 137 (.slice (some ⟨w.heap.size + 1 + 1, 0, none⟩) 1 1)).alloc (.cells #[.string p] 9); have bP := Boxed.new ((((w.alloc (.cells #[.string s] 9)).alloc (.cells #[.bool false] 4)).alloc (.cells #[.int .i64 0] 3)).alloc (.cells #[.slice (some ⟨w.heap.size + 1 + 1, 0, none⟩) 1 1] 137)) 9 (.string p); have hrow0 := ((World.ownsRow_lit (base := w.heap.size) (e := 3) (size := 1) ((w.alloc (.cells #[.string s] 9)).alloc (.cells #[.bool false] 4)) #[.int .i64 0] 1 (by simp; omega) (by simp [maxLen]) rfl).alloc (.cells #[.slice (some ⟨w.heap.size + 1 + 1, 0, none⟩) 1 1] 137)).alloc (.cells #[.string p] 9); simp only [World.size_alloc] at bR bV bP hrow0; have hB0 : Below w.heap.size w (((((w.alloc (.cells #[.string s] 9)).alloc (.cells #[.bool false] 4)).alloc (.cells #[.int .i64 0] 3)).alloc (.cells #[.slice (some ⟨w.heap.size + 1 + 1, 0, none⟩) 1 1] 137)).alloc (.cells #[.string p] 9)) :=
    (((((Below.refl _ w).alloc (Nat.le_refl _) _).alloc (by simp) _).alloc (by simp; omega) _).alloc (by simp; omega) _).alloc (by simp; omega) _
  have hsz : (((((w.alloc (.cells #[.string s] 9)).alloc (.cells #[.bool false] 4)).alloc (.cells #[.int .i64 0] 3)).alloc (.cells #[.slice (some ⟨w.heap.size + 1 + 1, 0, none⟩) 1 1] 137)).alloc (.cells #[.string p] 9)).heap.size = w.heap.size + 5 := by simp
  obtain ⟨W0, hW0⟩ : ∃ W0, ((((w.alloc (.cells #[.string s] 9)).alloc (.cells #[.bool false] 4)).alloc (.cells #[.int .i64 0] 3)).alloc (.cells #[.slice (some ⟨w.heap.size + 1 + 1, 0, none⟩) 1 1] 137)).alloc (.cells #[.string p] 9) = W0 := ⟨_, rfl⟩; rw [hW0] at bS bR bV bP hrow0 hB0 hsz ⊢; clear hW0; refine wpIn_rangeFunc_ownH hro h1 (gf := 178) (lb := #[.pointer (some ⟨w.heap.size + 1 + 1 + 1 + 1, 0, none⟩)]) rfl h5 (enters_of Tryz.func178 (by kernel_rfl) rfl)
    (jdD F (n - 1) h5 hro (by omega) (w.heap.size + 1 + 1 + 1 + 1) p hp W0 (by omega) bP.cell) KeepAt.trans (KeepAt.put (by omega)) (Below.refl _ _) (fun _ => rfl)
    (fun pre W => ((∃ v, Boxed W (w.heap.size + 1 + 1 + 1) 137 v ∧ W.ownsRow w.heap.size 3 1 v (runL S pre).length (zu (runL S pre)) ∧ runL S pre ≠ []) ∧ (Boxed W w.heap.size 9 (.string s) ∧ Boxed W (w.heap.size + 1) 4 (.bool false))) ∧ Below w.heap.size w W)
    (fun c pre W => ((c = .ret ∧ runL S pre = []) ∧ Boxed W (w.heap.size + 1) 4 (.bool false)) ∧ Below w.heap.size w W)
    (OwnFrom.and (OwnFrom.and (Own.from (holdsRow_own w.heap.size (w.heap.size + 1 + 1 + 1) 137 3 1 (fun pre => (runL S pre).length) (fun pre => zu (runL S pre)) (fun pre _ => runL S pre ≠ [])) _) (OwnFrom.and (Own.from (boxed_own _ _ _) _) (Own.from (boxed_own _ _ _) _))) (ownFrom_below (Nat.le_refl _) (by omega)))
    (fun c => OwnFrom.and (OwnFrom.and (ownFrom_pure _ _) (Own.from (boxed_own _ _ _) _)) (ownFrom_below (Nat.le_refl _) (by omega)))
    ⟨⟨⟨_, bV, hrow0, by simp [runL]⟩, bS, bR⟩, hB0⟩
    (fun x a' W => ∃ Bx : Nat, W.heap[Bx]? = some (.cells #[.int .i64 x.1, .int .u8 x.2.toNat] 218 (0, 0)) ∧ a' = { tmps := #[.string s, .string p, .pointer (some ⟨w.heap.size, 0, none⟩), undef, .pointer (some ⟨w.heap.size + 1, 0, none⟩), .pointer (some ⟨w.heap.size + 1 + 1 + 1, 0, none⟩), .pointer (some ⟨Bx, 0, none⟩), .slice (some ⟨w.heap.size + 1 + 1, 0, none⟩) 1 1, .string p, .func (.func 178) #[] #[.pointer (some ⟨w.heap.size + 1 + 1 + 1 + 1, 0, none⟩)], .agg #[.int .i64 x.1, .int .u8 x.2.toNat], undef, undef, undef, undef, undef, undef, undef, undef, undef, undef, undef, undef, undef, undef, undef, undef], defers := [] })
    (fun x a' _ X Y row hs hg hr => by
      obtain ⟨Bx, e2, e3⟩ := hs; exact ⟨Bx, (hg.block Bx (Array.getElem?_eq_some_iff.1 e2).1 (fun e => by obtain ⟨_, o, ho, hc⟩ := hr Bx e.symm; rw [e2] at ho; cases ho; cases hc)).trans e2, e3⟩)
    ?assign ?body ?done ?stop
  case assign =>
    rintro l pre x W K ⟨⟨⟨v, bV1, hrow, hne⟩, bS1, bR1⟩, hB1⟩ hK
    dsimp only [jia]
    gi_wp2
    exact hK _ _ ((KeepsOthers.alloc _ _).from _) ((KeepAt.refl _ W).alloc _) ⟨⟨⟨v, bV1.alloc _, hrow.alloc _, hne⟩, bS1.alloc _, bR1.alloc _⟩, hB1.alloc hB1.size _⟩ ⟨W.heap.size, World.alloc_heap_new W _, rfl⟩
  case body =>
    rintro l pre x a' W hl ⟨r, hr⟩ ⟨⟨⟨v, bV1, hrow, hne⟩, bS1, bR1⟩, hB1⟩ ⟨Bx, hX, rfl⟩ hlt; obtain ⟨ao, cap, rfl⟩ := jbQ hrow; have cV := bV1.cell; have cS := bS1.cell; have cX0 := cell_of_row W Bx 0 _ _ _ hX; have cX1 := cell_of_row W Bx 1 _ _ _ hX; simp only [List.getElem?_toArray, List.getElem?_cons_zero, List.getElem?_cons_succ] at cX0 cX1; have h1' : 1 ≤ n - 1 - 1 := by omega
    have hris : qx S.length (runL S pre) := jad S pre; have hlen : (runL S pre).length ≤ 1048577 := by have := jff S pre; omega
    have hs' : s.size ≤ 1048576 := by omega
    have HN : Hid _ := jim S pre x; have hwW := hB1.size
    by_cases hz : zl S x (runL S pre) = []
    · have hz0 : (((zl S x (runL S pre)).length : Int) == 0) = true := by rw [hz]; rfl
      gi_wp2_with (gi_at_call 161; refine (CallsIn.inRound l (hRe _ s S x _ w.heap.size (runL S pre) W HS.out hs' hne hris hlen hrow)).mono ?_; rintro e W1 ⟨v', rfl, hrow', hb'⟩; obtain ⟨ao', cap', rfl⟩ := jbQ hrow'; have cV1 := (jJ bV1 hb').cell; have fV1 := (jJ bV1 hb').frozen; have cR1 := (jJ bR1 hb').cell; have fR1 := (jJ bR1 hb').frozen)
      have hB2 := hB1.trans (hb'.mono hwW); exact ⟨((jbM hb').trans ((KeepsOthers.setCell _ _ _).trans (KeepsOthers.setCell _ _ _))).from _, ⟨⟨rfl, HN.out.trans hz⟩, ((jJ bR1 hb').other (by omega) _).set _⟩,
        (hB2.setCell (p := ⟨w.heap.size + 1 + 1 + 1, 0, none⟩) (by simp; omega) _).setCell (p := ⟨w.heap.size + 1, 0, none⟩) (by simp) _⟩
    · have hz0 : (((zl S x (runL S pre)).length : Int) == 0) = false := by
        rw [beq_eq_false_iff_ne]; intro e; exact hz (List.length_eq_zero_iff.1 (by omega))
      gi_wp2_with (gi_at_call 161; refine (CallsIn.inRound l (hRe _ s S x _ w.heap.size (runL S pre) W HS.out hs' hne hris hlen hrow)).mono ?_; rintro e W1 ⟨v', rfl, hrow', hb'⟩; obtain ⟨ao', cap', rfl⟩ := jbQ hrow'; have cV1 := (jJ bV1 hb').cell; have fV1 := (jJ bV1 hb').frozen; have cR1 := (jJ bR1 hb').cell; have fR1 := (jJ bR1 hb').frozen)
      have hB2 := hB1.trans (hb'.mono hwW); refine ⟨((jbM hb').trans (KeepsOthers.setCell _ _ _)).from _, (jdt _ hb').set (by omega) _, ⟨⟨_, (jJ bV1 hb').set _, ?_, ?_⟩, (jJ bS1 hb').other (by omega) _, (jJ bR1 hb').other (by omega) _⟩, hB2.setCell (p := ⟨w.heap.size + 1 + 1 + 1, 0, none⟩) (by simp; omega) _⟩
      · rw [HN.out]; exact jjE (jdN hwW hrow') (jJ bV1 hb') (by decide)
      · rw [HN.out]; exact hz
  case done =>
    rintro D zs W hD rfl ⟨⟨⟨v, bV1, hrow, hne⟩, bS1, bR1⟩, hB1⟩ hK; obtain ⟨z, hlast⟩ : ∃ z, (runL S (js p.data.toList)).getLast? = some z := by
      cases h : (runL S (js p.data.toList)).getLast? with
      | none => exact absurd (List.getLast?_eq_none_iff.1 h) hne
      | some z => exact ⟨z, rfl⟩
    have HG : Hid _ := jld hlast; obtain ⟨q, hq⟩ : ∃ q, (runL S (js p.data.toList)).length = q + 1 := ⟨(runL S (js p.data.toList)).length - 1, by have := List.length_pos_iff.2 hne; omega⟩; have hqz : (zu (runL S (js p.data.toList)))[q]? = some (.int .i64 (z : Int)) := by
      rw [List.getLast?_eq_getElem?, hq] at hlast; simp only [Nat.add_sub_cancel] at hlast
      simp [zu, hlast]
    have hql := jff S (js p.data.toList); rw [hq] at hrow hql; obtain ⟨g, cap, rfl⟩ := ownsRow_succ hrow; have cG := (hrow.cellAt q (by omega)).trans hqz; have cV := bV1.cell; have cS := bS1.cell; have cR := bR1.cell; have fR := bR1.frozen; clear hqz hlast hrow hq hne; have hi1 : (0 : Int) ≤ (q : Int) := by omega
    have hi2 : (q : Int) < (q : Int) + 1 := by omega
    gi_wp2
    have hw' := hw.out; subst hw'
    gi_region
    gi_wp2
    have hK' : ((W.setCell ⟨w.heap.size + 1, 0, none⟩ (.bool ((z : Int) == (s.size : Int)))).drew).heap[D]? = some (.deferred (some [])) := (KeepsOthers.setCell W ⟨w.heap.size + 1, 0, none⟩ (.bool ((z : Int) == (s.size : Int)))).same D _ hK rfl; have bR2 : Boxed ((W.setCell ⟨w.heap.size + 1, 0, none⟩ (.bool ((z : Int) == (s.size : Int)))).drew) (w.heap.size + 1) 4 (.bool ((z : Int) == (s.size : Int))) := bR1.set (.bool ((z : Int) == (s.size : Int))); refine ⟨by simp, .inl ⟨_, _, rfl, run_takeDeferred hK', ?_⟩⟩; have hc5 := cell_kept bR2.cell (grownBy_putObj' _ D (.deferred none)) (fun r e => by cases e; exact ⟨_, hK', rfl⟩); refine ⟨.bool ((z : Int) == (s.size : Int)), ?_, ?_, ((hB1.setCell (p := ⟨w.heap.size + 1, 0, none⟩) (by simp) _).drew).trans (belowK_b (w := w) (Nat.le_refl _) _ D _ _ (by omega) hK' rfl rfl)⟩
    · simp [results, Tryz.f134, go_sem, hc5]
    · have h := HG.out; rw [hSn, HS.out] at h; rw [jfW, h]
      congr 2
      rw [Bool.eq_iff_iff]
      simp
      omega
  case stop =>
    rintro D c pre W hD hpre ⟨⟨⟨rfl, h0⟩, bR1⟩, hB1⟩ hK
    gi_wp2
    refine ⟨by simp, .inl ⟨_, _, rfl, run_takeDeferred hK, ?_⟩⟩; have hc5 := cell_kept bR1.cell (grownBy_putObj' _ D (.deferred none)) (fun r e => by cases e; exact ⟨_, hK, rfl⟩); refine ⟨.bool false, ?_, ?_, hB1.trans (belowK_b (w := w) (Nat.le_refl _) W D _ _ (by omega) hK rfl rfl)⟩
    · simp [results, Tryz.f134, go_sem, hc5]
    · have := jle hpre h0; rw [HS.out] at this; rw [jfW, this]
set_option maxRecDepth 100000 in
theorem jdG : jgP Fence.wide := fun _ s S p v base zs w hS hs hne hr hl hown => by
  subst hS; exact callsIn_wide.2 (jif s p v base zs w hs hne hr hl hown)
set_option maxRecDepth 100000 in
theorem jep (s p : ByteArray) (w : World) (hs : s.size ≤ 2000) (hp : p.size ≤ 1048576) :
    Calls Tryz.prog 134 #[.string s, .string p] w fun e W' => e = .returned (.bool (jfW s.data.toList p.data.toList)) ∧ Below w.heap.size w W' :=
  (callsIn_wide (n := 6)).1 (jgj Fence.wide 6 trivial trivial trivial trivial rfl rfl jdG (Nat.le_refl _) s p hs hp w)
end Go.Proofs.YtaapmpchcfcniaaGreatDoor
namespace Go.Proofs.YtaapmpchcfcniaaGreatDoor
open Go.RowKit
def jkG (kind : Int) (s p : ByteArray) : Bool :=
  if kind = 1 then (low s).toList == (low p).toList else if kind = 2 then Lib.contains (low s).data.toList (low p).data.toList else jfW (low s).data.toList (low p).data.toList
def jct (kind : Int) (s p : ByteArray) : Value :=
  if kind < 1 ∨ 3 < kind then .tuple #[.bool false, .int .i64 2] else if 2000 < s.size ∨ 100 < p.size then .tuple #[.bool false, .int .i64 1] else .tuple #[.bool (jkG kind s p), .int .i64 0]
set_option maxRecDepth 100000 in
set_option maxHeartbeats 400000 in
theorem jca (s p : ByteArray) (w : World) (hs : s.size ≤ 2000) (hp : p.size ≤ 100) (hm : maxLenCell w) :
    Calls Tryz.prog 94 #[.int .i64 2, .string s, .string p] w fun e w' => e = .returned (.tuple #[.bool (Lib.contains (low s).data.toList (low p).data.toList), .int .i64 0]) ∧ Below w.heap.size w w' := by
  have hl := jcS s; have HL : Hid _ := hl; clear hl; have HM : Hid _ := hm; clear hm; go_enter Tryz.func94, Tryz.ntmps94; go_wp2_with fail; refine (qN s _ (by omega)).mono ?_; rintro e w1 ⟨rfl, hb1⟩; go_wp2_with fail; refine (qN p _ (by omega)).mono ?_; rintro e w2 ⟨rfl, hb2⟩; have hb := hb1.trans (hb2.mono hb1.size); have HM2 : Hid _ := maxLenCell_below HM.out hb; go_wp2_with fail; refine (contains_any (low s) (low p) _ (by rw [HL.out]; omega) HM2.out).mono ?_; rintro e w3 ⟨rfl, rfl⟩; go_wp2; go_ret2; exact ⟨rfl, hb⟩
set_option maxRecDepth 100000 in
set_option maxHeartbeats 400000 in
theorem jcX (s p : ByteArray) (w : World) (hs : s.size ≤ 2000) (hp : p.size ≤ 100) :
    Calls Tryz.prog 94 #[.int .i64 3, .string s, .string p] w fun e w' => e = .returned (.tuple #[.bool (jfW (low s).data.toList (low p).data.toList), .int .i64 0]) ∧ Below w.heap.size w w' := by
  have HL : Hid _ := jcS s; have HP : Hid _ := jcS p; go_enter Tryz.func94, Tryz.ntmps94; go_wp2_with fail; refine (qN s _ (by omega)).mono ?_; rintro e w1 ⟨rfl, hb1⟩; go_wp2_with fail; refine (qN p _ (by omega)).mono ?_; rintro e w2 ⟨rfl, hb2⟩; have hb := hb1.trans (hb2.mono hb1.size); go_wp2_with fail; refine (jep (low s) (low p) _ (by rw [HL.out]; omega) (by rw [HP.out]; omega)).mono ?_; rintro e w3 ⟨rfl, hb3⟩; have hb' := hb.trans (hb3.mono hb.size); go_wp2; go_ret2; exact ⟨rfl, hb'⟩
set_option maxRecDepth 100000 in
set_option maxHeartbeats 400000 in
theorem jgh (kind : Int) (s p : ByteArray) (w : World) (h : kind < 1 ∨ 3 < kind) :
    Calls Tryz.prog 94 #[.int .i64 kind, .string s, .string p] w fun e w' => e = .returned (.tuple #[.bool false, .int .i64 2]) ∧ Below w.heap.size w w' := by
  have h1 : (kind != 1) = true := by rw [bne_iff_ne]; omega
  have h2 : (kind != 2) = true := by rw [bne_iff_ne]; omega
  have h3 : (kind != 3) = true := by rw [bne_iff_ne]; omega
  go_enter Tryz.func94, Tryz.ntmps94; go_wp2_with fail; go_ret2; exact ⟨rfl, Below.refl _ _⟩
set_option maxRecDepth 100000 in
set_option maxHeartbeats 400000 in
theorem jgi (kind : Int) (s p : ByteArray) (w : World) (h1 : 1 ≤ kind) (h2 : kind ≤ 3) (h : 2000 < s.size ∨ 100 < p.size) :
    Calls Tryz.prog 94 #[.int .i64 kind, .string s, .string p] w fun e w' => e = .returned (.tuple #[.bool false, .int .i64 1]) ∧ Below w.heap.size w w' := by
  have hk : kind = 1 ∨ kind = 2 ∨ kind = 3 := by omega
  by_cases hs : 2000 < s.size
  · rcases hk with rfl | rfl | rfl
    all_goals
      go_enter Tryz.func94, Tryz.ntmps94; go_wp2_with fail; go_ret2; exact ⟨rfl, Below.refl _ _⟩
  · have hp : 100 < p.size := by omega
    rcases hk with rfl | rfl | rfl
    all_goals
      go_enter Tryz.func94, Tryz.ntmps94; go_wp2_with fail; go_ret2; exact ⟨rfl, Below.refl _ _⟩
set_option maxRecDepth 100000 in
theorem jhN (kind : Int) (s p : ByteArray) (w : World) (hm : maxLenCell w) :
    Calls Tryz.prog 94 #[.int .i64 kind, .string s, .string p] w fun e w' => e = .returned (jct kind s p) ∧ Below w.heap.size w w' := by
  by_cases hk : kind < 1 ∨ 3 < kind
  · rw [jct, if_pos hk]; exact jgh kind s p w hk
  · by_cases hz : 2000 < s.size ∨ 100 < p.size
    · rw [jct, if_neg hk, if_pos hz]; exact jgi kind s p w (by omega) (by omega) hz
    · rw [jct, if_neg hk, if_neg hz]; have h3 : kind = 1 ∨ kind = 2 ∨ kind = 3 := by omega
      rcases h3 with rfl | rfl | rfl
      · exact jjC s p w (by omega) (by omega)
      · exact jca s p w (by omega) (by omega) hm
      · exact jcX s p w (by omega) (by omega)
set_option maxRecDepth 100000 in
theorem Below.next {B : Nat} {a b c : World} (h : Below B a b) (k : Below b.heap.size b c) (hB : B ≤ a.heap.size) : Below B a c := h.trans (k.mono (Nat.le_trans hB h.size))
set_option maxRecDepth 100000 in
theorem Below.more {B : Nat} {a b : World} (h : Below B a b) (hB : B ≤ a.heap.size) (o : Obj) : Below B a (b.alloc o) := h.alloc (Nat.le_trans hB h.size) o
end Go.Proofs.YtaapmpchcfcniaaGreatDoor
