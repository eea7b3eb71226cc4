/-
  Plain facts on bytes and lists: small letters in place of great ones; no program is named here.
-/
import Derived.WalkKit
import Derived.Lib.SlTrimSet
import Derived.Lib.IndexMore
import Derived.Lib.IndexLaws
import Derived.Test.YtmgdnhjemhhleaaGreatDoorRows
import Derived.OpenShut
import Derived.Lib.ItoaNum
import Derived.Below
import Derived.Laws.AppendOwn
import Derived.Lib.Strings
import Derived.Deep.Draws
import Derived.WalkSpells
import Derived.WalkLawsBesides
import Derived.Shelf.Abstract
import Derived.Laws.IdiomStrings
namespace Go.Proofs.YtmgdnhjemhhleaaGreatDoor
open Go.RowKit
theorem nb0 (w : World) (o : Obj) : Below w.heap.size w (w.alloc o) := (Below.refl _ _).alloc (Nat.le_refl _) _
def low1 (c : UInt8) : UInt8 := if 65 ≤ (c.toNat : Int) ∧ (c.toNat : Int) ≤ 90 then UInt8.ofNat (c.toNat + 32) else c
def lowL (l : List UInt8) : List UInt8 := l.map low1
def low (s : ByteArray) : ByteArray := ⟨(lowL s.data.toList).toArray⟩
theorem jkr {c : UInt8} (h : 65 ≤ (c.toNat : Int) ∧ (c.toNat : Int) ≤ 90) : ((low1 c).toNat : Int) = c.toNat + 32 := by
 unfold low1; rw [if_pos h]; have : c.toNat + 32 < 256 := by omega
 simp [UInt8.toNat_ofNat, Nat.mod_eq_of_lt this]
theorem jml {c : UInt8} (h : ¬ (65 ≤ (c.toNat : Int) ∧ (c.toNat : Int) ≤ 90)) : low1 c = c := by
 unfold low1; rw [if_neg h]
theorem size_list (s : ByteArray) : s.data.toList.length = s.size := by rw [Array.length_toList]; rfl
theorem jf9 (s : ByteArray) : (low s).data.toList = lowL s.data.toList := by simp [low]
theorem jjx (s : ByteArray) (k : Nat) (h : k < s.size) : s.data.toList.take (k + 1) = s.data.toList.take k ++ [s[k]] := by
 rw [List.take_succ_eq_append_getElem (by simpa using h)]; rfl
theorem jbv (s : ByteArray) (k : Nat) (h : k < s.size) : s.data.toList[k]? = some s[k] := by
 rw [List.getElem?_eq_getElem (by simpa using h)]; rfl
theorem jc {k : IntKind} {a b : Int} (h : a = b) : Ending.returned (.int k a) = .returned (.int k b) := by rw [h]
theorem jb {a b : Bool} (h : a = b) : Ending.returned (.bool a) = .returned (.bool b) := by rw [h]
theorem jfg {w : World} {g j n : Nat} {cs : Array Value} {t : TypeId} (hg : w.heap[g]? = some (.cells cs t (n, n + 1))) (hj : j < n) : w.frozen? ⟨g, j, none⟩ = false := by
 simp [World.frozen?, hg]; omega
theorem ji {w : World} {g i : Nat} {cs : Array Value} {t : TypeId} {fr : Nat × Nat} (v : Value) (hg : w.heap[g]? = some (.cells cs t fr)) :
 (w.setCell ⟨g, i, none⟩ v).heap[g]? = some (.cells (cs.setIfInBounds i v) t fr) := by
 rw [setCell_eq_setRow w g i cs t fr v hg]; exact setRow_heap w g cs _ t _ hg
def S (l : List UInt8) : ByteArray := ⟨l.toArray⟩
theorem jdY (s : ByteArray) : S s.data.toList = s := by cases s; simp [S]
theorem jj (l : List UInt8) : (S l).data.toList = l := by simp [S]
theorem jd (l : List UInt8) : (S l).size = l.length := by simp [S, ByteArray.size]
theorem jlP {a b : List UInt8} (h : S a = S b) : a = b := by
 have := congrArg (fun s => s.data.toList) h
 simpa [jj] using this
def jbb (c : UInt8) : Bool := c == 32 || c == 9
def ja5 (c : UInt8) : Bool := decide (33 ≤ c.toNat) && decide (c.toNat ≤ 126) && c != 58
def jbs (l : List UInt8) : Bool := !l.isEmpty && l.all ja5
def zG (l : List UInt8) : Bool := Lib.contains l [13, 10]
abbrev F := List UInt8 × List UInt8
theorem jcj {α : Type} {l : List α} {k : Nat} {x : α} (h : l[k]? = some x) : l.take (k + 1) = l.take k ++ [x] := by
 obtain ⟨hk, rfl⟩ := List.getElem?_eq_some_iff.1 h; exact List.take_succ_eq_append_getElem hk
def jaf (s : List UInt8) (j : Nat) : Prop := s[j]? = some 13 ∧ s[j + 1]? = some 10
theorem jdB (s : List UInt8) (j : Nat) : Lib.occAt s [13, 10] j = true ↔ jaf s j := by
 unfold Lib.occAt jaf; rw [← List.head?_drop]; have e : s[j + 1]? = (s.drop j).tail.head? := by rw [← List.drop_one, List.drop_drop, List.head?_drop]
 rw [e]; cases h : s.drop j with
 | nil => simp
 | cons a t =>
   cases t with
   | nil => simp [List.isPrefixOf]
   | cons b t => simp [List.isPrefixOf]; constructor <;> rintro ⟨rfl, rfl⟩ <;> simp
theorem jlC {s : List UInt8} {j : Nat} (h : ¬ jaf s j) : Lib.occAt s [13, 10] j = false := by
 cases e : Lib.occAt s [13, 10] j with
 | false => rfl
 | true => exact absurd ((jdB s j).1 e) h
theorem jaz {l : List UInt8} : zG l = false ↔ ∀ j, ¬ jaf l j := by
 constructor
 · intro h j hj; have hl : j ≤ l.length := by
    have := hj.1
    rcases Nat.lt_or_ge j l.length with h' | h'
    · omega
    · rw [List.getElem?_eq_none h'] at this; cases this
   have := Lib.index_ge l [13, 10]; have hne : Lib.index l [13, 10] = -1 := by
    simp [zG, Lib.contains] at h; omega
   have hall : ∀ k, k ≤ j → ∀ i, i < k → Lib.occAt l [13, 10] i = false := by
    intro k
    induction k with
    | zero => intro _ i hi; omega
    | succ k ih =>
      intro hk i hi
      rcases Nat.lt_or_ge i k with h' | h'
      · exact ih (by omega) i h'
      · obtain rfl : i = k := by omega
        cases e : Lib.occAt l [13, 10] i with
        | false => rfl
        | true =>
          have := Lib.index_first (s := l) (sub := [13, 10]) (i := i) (by omega) e (ih (by omega)); omega
   have := Lib.index_first (s := l) (sub := [13, 10]) (i := j) hl ((jdB l j).2 hj) (hall j (Nat.le_refl _)); omega
 · intro h; have : Lib.index l [13, 10] = -1 := Lib.index_none fun j _ => jlC (h j)
   simp [zG, Lib.contains, this]
theorem jgZ {a b : List UInt8} (h : zG a = false) : Lib.index (a ++ [13, 10] ++ b) [13, 10] = a.length := by
 refine Lib.index_first (by simp) ((jdB _ _).2 ⟨by simp, by simp⟩) fun j hj => jlC fun hl => ?_
 rcases Nat.lt_or_ge (j + 1) a.length with h' | h'
 · refine (jaz.1 h) j ⟨?_, ?_⟩
   · have := hl.1; rw [List.append_assoc, List.getElem?_append_left hj] at this; exact this
   · have := hl.2; rw [List.append_assoc, List.getElem?_append_left h'] at this; exact this
 · have e : j + 1 = a.length := by omega
   have := hl.2; rw [e] at this
   simp at this
theorem jf1 {a b : List UInt8} (h : zG a = false) : Lib.cut (a ++ [13, 10] ++ b) [13, 10] = (a, b, true) := by
 unfold Lib.cut; rw [jgZ h]
 simp
theorem jf2 {s : List UInt8} (h : zG s = false) : Lib.cut s [13, 10] = (s, [], false) := by
 unfold Lib.cut; have : ¬ (0 ≤ Lib.index s [13, 10]) := by simpa [zG, Lib.contains] using h
 rw [if_neg this]
theorem jj3 {s : List UInt8} (h : zG s = true) : ∃ a b, s = a ++ [13, 10] ++ b ∧ zG a = false := by
 have h0 : 0 ≤ Lib.index s [13, 10] := by simpa [zG, Lib.contains] using h
 have : ¬ ∀ j, ¬ jaf s j := fun hn => by rw [jaz.2 hn] at h; cases h
 have hex : ∃ j, jaf s j := Classical.byContradiction fun hn => this fun j hj => hn ⟨j, hj⟩
 have key : ∀ n, ∀ s : List UInt8, s.length ≤ n → (∃ j, jaf s j) → ∃ a b, s = a ++ [13, 10] ++ b ∧ zG a = false := by
  intro n
  induction n with
  | zero => intro s hs ⟨j, hj⟩; have := hj.1; cases s <;> simp at hs this
  | succ n ih =>
    intro s hs ⟨j, hj⟩; cases s with
    | nil => have := hj.1; simp at this
    | cons c t =>
      by_cases h0 : jaf (c :: t) 0
      · obtain ⟨h1, h2⟩ := h0; cases t with
        | nil => simp at h2
        | cons d t => simp at h1 h2; subst h1 h2; exact ⟨[], t, rfl, by decide⟩
      · have hj0 : j ≠ 0 := fun e => h0 (e ▸ hj)
        obtain ⟨k, rfl⟩ := Nat.exists_eq_succ_of_ne_zero hj0; obtain ⟨a, b, e, ha⟩ := ih t (by simp at hs; omega) ⟨k, by simpa [jaf] using hj⟩; refine ⟨c :: a, b, by rw [e]; simp, jaz.2 fun i hi => ?_⟩; cases i with
        | zero =>
          refine h0 ?_; obtain ⟨h1, h2⟩ := hi; refine ⟨by simpa using h1, ?_⟩; cases a with
          | nil => simp at h2
          | cons d a => rw [e]; simpa using h2
        | succ i => exact jaz.1 ha i (by simpa [jaf] using hi)
 exact key s.length s (Nat.le_refl _) hex
theorem index_one (l : List UInt8) (c : UInt8) : Lib.index l [c] = Lib.indexByte l c := by
 induction l with
 | nil => rfl
 | cons b l ih =>
   unfold Lib.index Lib.indexByte; rw [ih]
   by_cases h : b = c
   · subst h; simp
   · have : (c == b) = false := by simp; exact fun e => h e.symm
     simp [List.isPrefixOf, h, this]
theorem jdr {a b : List UInt8} {c : UInt8} (h : c ∉ a) : Lib.indexByte (a ++ c :: b) c = a.length := by
 induction a with
 | nil => simp [Lib.indexByte]
 | cons x a ih =>
   have hx : (x == c) = false := by simp; rintro rfl; exact h (by simp)
   have := ih (fun hm => h (by simp [hm])); have e : ((a.length : Int) == -1) = false := by simp
   simp [Lib.indexByte, hx, this, e]
theorem jcu {a : List UInt8} {c : UInt8} (h : c ∉ a) : Lib.indexByte a c = -1 := by
 induction a with
 | nil => rfl
 | cons x a ih =>
   have hx : (x == c) = false := by simp; rintro rfl; exact h (by simp)
   simp [Lib.indexByte, hx, ih (fun hm => h (by simp [hm]))]
theorem jh8 {a b : List UInt8} {c : UInt8} (h : c ∉ a) : Lib.cut (a ++ c :: b) [c] = (a, b, true) := by
 unfold Lib.cut; rw [index_one, jdr h]
 simp
theorem jfc {a : List UInt8} {c : UInt8} (h : c ∉ a) : Lib.cut a [c] = (a, [], false) := by
 unfold Lib.cut; rw [index_one, jcu h]
 simp
theorem jfI {s : List UInt8} {c : UInt8} (h : c ∈ s) : ∃ a b, s = a ++ c :: b ∧ c ∉ a := by
 induction s with
 | nil => cases h
 | cons x s ih =>
   by_cases e : x = c
   · exact ⟨[], s, by simp [e], by simp⟩
   · obtain ⟨a, b, rfl, hn⟩ := ih (by rcases List.mem_cons.1 h with h | h; exact absurd h.symm e; exact h); exact ⟨x :: a, b, rfl, by simp; exact ⟨fun h => e h.symm, hn⟩⟩
def jcR (raw : List F) (line : List UInt8) : Bool := !raw.isEmpty && (line.head?.map jbb).getD false
theorem jmU {s : List UInt8} (h : zG s = true) : (Lib.cut s [13, 10]).2.1.length < s.length := by
 obtain ⟨a, b, rfl, ha⟩ := jj3 h; rw [jf1 ha]
 simp; omega
theorem jgU : zG [] = false := by decide
open Go.Proofs
def nmA : List UInt8 := [97, 110, 110]
def nmB : List UInt8 := [98, 111, 98]
def nmC : List UInt8 := [99, 97, 116]
def scrB : List UInt8 := [114, 101, 113, 117, 105, 114, 101, 32, 91, 34, 102, 105, 108, 101, 105, 110, 116, 111, 34, 44, 32, 34, 105, 109, 97, 112, 52, 102, 108, 97, 103, 115, 34, 93, 59, 32, 105, 102, 32, 104, 101, 97, 100, 101, 114, 32, 58, 99, 111, 110, 116, 97, 105, 110, 115, 32, 34, 115, 117, 98, 106, 101, 99, 116, 34, 32, 34, 119, 111, 114, 107, 34, 32, 123, 32, 115, 101, 116, 102, 108, 97, 103, 32, 34, 92, 92, 83, 101, 101, 110, 34, 59, 32, 102, 105, 108, 101, 105, 110, 116, 111, 32, 34, 119, 111, 114, 107, 34, 59, 32, 125, 32, 101, 108, 115, 105, 102, 32, 115, 105, 122, 101, 32, 58, 111, 118, 101, 114, 32, 51, 48, 48, 32, 123, 32, 100, 105, 115, 99, 97, 114, 100, 59, 32, 125]
def scrC : List UInt8 := [114, 101, 113, 117, 105, 114, 101, 32, 91, 34, 114, 101, 106, 101, 99, 116, 34, 44, 32, 34, 101, 110, 118, 101, 108, 111, 112, 101, 34, 93, 59, 32, 105, 102, 32, 101, 110, 118, 101, 108, 111, 112, 101, 32, 58, 108, 111, 99, 97, 108, 112, 97, 114, 116, 32, 34, 102, 114, 111, 109, 34, 32, 34, 115, 112, 97, 109, 34, 32, 123, 32, 114, 101, 106, 101, 99, 116, 32, 34, 110, 111, 34, 59, 32, 125, 32, 101, 108, 115, 105, 102, 32, 101, 120, 105, 115, 116, 115, 32, 34, 108, 105, 115, 116, 34, 32, 123, 32, 114, 101, 100, 105, 114, 101, 99, 116, 32, 34, 97, 110, 110, 64, 120, 46, 121, 34, 59, 32, 107, 101, 101, 112, 59, 32, 125]
def jgp (a1 a2 b1 b2 c1 c2 : List UInt8) : Obj := .cells #[.string (S a1), .string (S a2), .string (S b1), .string (S b2), .string (S c1), .string (S c2)] 59
set_option maxRecDepth 100000 in
theorem jjI (w : World) :
 Calls Tryz.prog 10 #[] w fun e w' => e = .returned (.slice (some ⟨w.heap.size, 0, none⟩) 3 3) ∧ w' = w.alloc (jgp nmA [] nmB scrB nmC scrC) := by
 go_enter Tryz.func10, Tryz.ntmps10; go_wp2; go_ret; exact ⟨rfl, rfl⟩
structure Tok where
 kind : Int
 text : List UInt8
 num : Int
abbrev Cutting := Except Int (Tok × List UInt8)
structure Tst where
 kind : Int
 mat : Int
 part : Int
 names : List (List UInt8)
 keys : List (List UInt8)
 over : Bool
 limit : Int
 tests : List Tst
structure Cmd where
 kind : Int
 texts : List (List UInt8)
 test : Tst
 thn : List Cmd
 els : List Cmd
def jT : Tst := ⟨0, 0, 0, [], [], false, 0, []⟩
def wTabs : List (List (List UInt8)) := [
 [[], [114, 101, 113, 117, 105, 114, 101], [105, 102], [107, 101, 101, 112], [100, 105, 115, 99, 97, 114, 100], [102, 105, 108, 101, 105, 110, 116, 111], [114, 101, 100, 105, 114, 101, 99, 116], [114, 101, 106, 101, 99, 116], [115, 101, 116, 102, 108, 97, 103], [97, 100, 100, 102, 108, 97, 103], [115, 116, 111, 112]],
 [[], [116, 114, 117, 101], [102, 97, 108, 115, 101], [110, 111, 116], [97, 108, 108, 111, 102], [97, 110, 121, 111, 102], [104, 101, 97, 100, 101, 114], [97, 100, 100, 114, 101, 115, 115], [101, 110, 118, 101, 108, 111, 112, 101], [101, 120, 105, 115, 116, 115], [115, 105, 122, 101]],
 [[], [105, 115], [99, 111, 110, 116, 97, 105, 110, 115], [109, 97, 116, 99, 104, 101, 115], [], [], [], [], [], [], []],
 [[], [97, 108, 108], [108, 111, 99, 97, 108, 112, 97, 114, 116], [100, 111, 109, 97, 105, 110], [], [], [], [], [], [], []]]
def jJ (k n : Nat) : List UInt8 := (wTabs.getD k []).getD n []
def jfr : List (List UInt8) → Nat → List UInt8 → Nat
 | [], _, _ => 0
 | x :: r, n, s => if x = s then n else jfr r (n + 1) s
def jL (k : Nat) (n : Int) : Bool := decide (0 ≤ n) && decide (n < 11) && !(jJ k n.toNat).isEmpty
theorem jiD (n : Int) : jL 0 n = (decide (1 ≤ n) && decide (n ≤ 10)) := by
 unfold jL
 by_cases h0 : 0 ≤ n
 · by_cases h1 : n < 11
   · obtain ⟨k, rfl⟩ := Int.eq_ofNat_of_zero_le h0; have hk : k < 11 := by omega
     match k, hk with
     | 0, _ | 1, _ | 2, _ | 3, _ | 4, _ | 5, _ | 6, _ | 7, _ | 8, _ | 9, _ | 10, _ => rfl
   · simp [h1]; omega
 · simp [h0]; omega
theorem jiE (n : Int) : jL 1 n = (decide (1 ≤ n) && decide (n ≤ 10)) := by
 unfold jL
 by_cases h0 : 0 ≤ n
 · by_cases h1 : n < 11
   · obtain ⟨k, rfl⟩ := Int.eq_ofNat_of_zero_le h0; have hk : k < 11 := by omega
     match k, hk with
     | 0, _ | 1, _ | 2, _ | 3, _ | 4, _ | 5, _ | 6, _ | 7, _ | 8, _ | 9, _ | 10, _ => rfl
   · simp [h1]; omega
 · simp [h0]; omega
theorem jeg (n : Int) : jL 2 n = (decide (1 ≤ n) && decide (n ≤ 3)) := by
 unfold jL
 by_cases h0 : 0 ≤ n
 · by_cases h1 : n < 11
   · obtain ⟨k, rfl⟩ := Int.eq_ofNat_of_zero_le h0; have hk : k < 11 := by omega
     match k, hk with
     | 0, _ | 1, _ | 2, _ | 3, _ | 4, _ | 5, _ | 6, _ | 7, _ | 8, _ | 9, _ | 10, _ => rfl
   · simp [h1]; omega
 · simp [h0]; omega
theorem jg1 (n : Int) : jL 3 n = (decide (1 ≤ n) && decide (n ≤ 3)) := by
 unfold jL
 by_cases h0 : 0 ≤ n
 · by_cases h1 : n < 11
   · obtain ⟨k, rfl⟩ := Int.eq_ofNat_of_zero_le h0; have hk : k < 11 := by omega
     match k, hk with
     | 0, _ | 1, _ | 2, _ | 3, _ | 4, _ | 5, _ | 6, _ | 7, _ | 8, _ | 9, _ | 10, _ => rfl
   · simp [h1]; omega
 · simp [h0]; omega
def jdy (t : Tst) : Bool := decide (t.kind = 0) && decide (t.mat = 0) && decide (t.part = 0) && decide (t.names.length = 0) && decide (t.keys.length = 0) && !t.over && decide (t.limit = 0) && decide (t.tests.length = 0)
def cmpB (t : Tst) : Bool := jL 2 t.mat && decide (0 < t.names.length) && decide (0 < t.keys.length)
def jcq (t : Tst) : Bool :=
 if t.kind = 3 then decide (t.tests.length = 1) && jdy { t with kind := 0, tests := [] }
 else if t.kind = 4 ∨ t.kind = 5 then decide (0 < t.tests.length) && jdy { t with kind := 0, tests := [] }
 else if t.kind = 6 then cmpB t && jdy { t with kind := 0, mat := 0, names := [], keys := [] }
 else if t.kind = 7 ∨ t.kind = 8 then cmpB t && jL 3 t.part && jdy { t with kind := 0, mat := 0, part := 0, names := [], keys := [] }
 else if t.kind = 9 then decide (0 < t.names.length) && jdy { t with kind := 0, names := [] }
 else if t.kind = 10 then decide (0 ≤ t.limit ∧ t.limit ≤ 2147483647) && jdy { t with kind := 0, over := false, limit := 0 }
 else jdy { t with kind := 0 }
def oneP (k : Bool) (d : Nat) (f : Bool) : Int := if k = false then 2 else if 6 < d then 1 else if f = false then 3 else 0
def jh {A : Type} (f : A → Int) : List A → Int
 | [] => 0
 | x :: r => if f x = 0 then jh f r else f x
def jp : Nat → Nat → Tst → Int
 | 0, _, _ => 0
 | n + 1, d, t => if oneP (jL 1 t.kind) d (jcq t) = 0 then jh (jp n (d + 1)) t.tests else oneP (jL 1 t.kind) d (jcq t)
def vE (c : Cmd) : Bool :=
 if c.kind ≠ 2 ∧ (0 < c.thn.length ∨ 0 < c.els.length ∨ jdy c.test = false) then false
 else if c.kind = 1 ∨ c.kind = 8 ∨ c.kind = 9 then decide (0 < c.texts.length)
 else if c.kind = 5 ∨ c.kind = 6 ∨ c.kind = 7 then decide (c.texts.length = 1)
 else decide (c.texts.length = 0)
def zj : List Cmd → Option Cmd
 | [c] => if c.kind = 2 then some c else none
 | _ => none
def jn : Nat → Nat → Cmd → Int
 | 0, _, _ => 0
 | n + 1, d, c =>
   if oneP (jL 0 c.kind) d (vE c) ≠ 0 then oneP (jL 0 c.kind) d (vE c)
   else if c.kind ≠ 2 then 0
   else if jp n 1 c.test ≠ 0 then jp n 1 c.test
   else if jh (jn n (d + 1)) c.thn ≠ 0 then jh (jn n (d + 1)) c.thn
   else match zj c.els with
     | some x => jn n d x
     | none => jh (jn n (d + 1)) c.els
theorem qT (n d : Nat) (c : Cmd) : jn (n + 1) d c =
 if oneP (jL 0 c.kind) d (vE c) ≠ 0 then oneP (jL 0 c.kind) d (vE c)
 else if c.kind ≠ 2 then 0
 else if jp n 1 c.test ≠ 0 then jp n 1 c.test
 else if jh (jn n (d + 1)) c.thn ≠ 0 then jh (jn n (d + 1)) c.thn
 else match zj c.els with
  | some x => jn n d x
  | none => jh (jn n (d + 1)) c.els := rfl
theorem qS {l : List Cmd} {x : Cmd} (h : zj l = some x) : l = [x] ∧ x.kind = 2 := by
 match l with
 | [] => cases h
 | [c] =>
   by_cases hk : c.kind = 2
   · simp only [zj, if_pos hk, Option.some.injEq] at h; subst h; exact ⟨rfl, hk⟩
   · simp only [zj, if_neg hk] at h; cases h
 | a :: b :: r => cases h
def jN (n d : Nat) (l : List Cmd) : Int := jh (jn n d) l
def qZ (s : List UInt8) : Tok := ⟨1, s, 0⟩
def tagT (s : List UInt8) : Tok := ⟨2, s, 0⟩
def strT (s : List UInt8) : Tok := ⟨4, s, 0⟩
def jP (c : UInt8) : Tok := ⟨5, [c], 0⟩
def sepT {A : Type} (f : A → List Tok) : List A → List Tok
 | [] => []
 | x :: r => f x ++ r.flatMap fun y => jP 44 :: f y
def jbr : List (List UInt8) → List Tok
 | [x] => [strT x]
 | l => jP 91 :: (sepT (fun x => [strT x]) l ++ [jP 93])
def vC : List UInt8 := [101, 108, 115, 105, 102]
def jcp : List UInt8 := [101, 108, 115, 101]
def jhl : List UInt8 := [111, 118, 101, 114]
def jc8 : List UInt8 := [117, 110, 100, 101, 114]
def vN : Nat → Tst → List Tok
 | 0, _ => []
 | n + 1, t =>
   qZ (jJ 1 t.kind.toNat) ::
     (if t.kind = 3 then (t.tests.head?.map (vN n)).getD []
      else if t.kind = 4 ∨ t.kind = 5 then jP 40 :: (sepT (vN n) t.tests ++ [jP 41])
      else if t.kind = 6 then tagT (jJ 2 t.mat.toNat) :: (jbr t.names ++ jbr t.keys)
      else if t.kind = 7 ∨ t.kind = 8 then tagT (jJ 3 t.part.toNat) :: tagT (jJ 2 t.mat.toNat) :: (jbr t.names ++ jbr t.keys)
      else if t.kind = 9 then jbr t.names
      else if t.kind = 10 then [tagT (if t.over then jhl else jc8), ⟨3, [], t.limit⟩]
      else [])
def jad : Nat → Cmd → List Tok
 | 0, _ => []
 | n + 1, c =>
   if c.kind = 2 then
     vN n c.test ++ (jP 123 :: (c.thn.flatMap fun x => qZ (jJ 0 x.kind.toNat) :: jad n x) ++ [jP 125]) ++
       (match zj c.els with
        | some x => qZ vC :: jad n x
        | none => if c.els.length = 0 then [] else qZ jcp :: jP 123 :: (c.els.flatMap fun x => qZ (jJ 0 x.kind.toNat) :: jad n x) ++ [jP 125])
   else (if c.texts.length = 0 then [] else jbr c.texts) ++ [jP 59]
def cmdT (n : Nat) (c : Cmd) : List Tok := qZ (jJ 0 c.kind.toNat) :: jad n c
def zh (n : Nat) (l : List Cmd) : List Tok := l.flatMap (cmdT n)
def zQ (n : Nat) (l : List Cmd) : Int := if jN n 0 l ≠ 0 then jN n 0 l else if 400 < (zh n l).length then 5 else 0
structure But (b : Nat) (w w' : World) : Prop where
 os : w'.os = w.os
 tape : w'.tape = w.tape
 output : w'.output = w.output
 size : w.heap.size ≤ w'.heap.size
 block : ∀ k, k < w.heap.size → k ≠ b → w'.heap[k]? = w.heap[k]?
theorem But.refl (b : Nat) (w : World) : But b w w := ⟨rfl, rfl, rfl, Nat.le_refl _, fun _ _ _ => rfl⟩
theorem But.trans {b : Nat} {x y z : World} (h : But b x y) (k : But b y z) : But b x z :=
 ⟨k.os.trans h.os, k.tape.trans h.tape, k.output.trans h.output, Nat.le_trans h.size k.size, fun i hi hn => (k.block i (Nat.lt_of_lt_of_le hi h.size) hn).trans (h.block i hi hn)⟩
theorem But.of {b : Nat} {w w' : World} (h : Below w.heap.size w w') : But b w w' := ⟨h.os, h.tape, h.output, h.size, fun k hk _ => h.block k hk⟩
theorem But.set {b : Nat} (w : World) (v : Value) : But b w (w.setCell ⟨b, 0, none⟩ v) :=
 ⟨rfl, rfl, rfl, by simp [World.setCell], fun k _ hn => Below.heap_setCell _ _ _ _ hn⟩
theorem But.below {b B : Nat} {w w' : World} (h : But b w w') (hB : B ≤ b) (hw : B ≤ w.heap.size) : Below B w w' :=
 ⟨h.os, h.tape, h.output, h.size, fun k hk => h.block k (by omega) (by omega)⟩
theorem But.cell {b : Nat} {w w' : World} (h : But b w w') {p : Addr} {v : Value} (hp : w.cell? p = some v) (hn : p.block ≠ b) : w'.cell? p = some v :=
 (World.cell?_of_block (w := w) (h.block p.block (World.block_lt_of_cell? w _ hp) hn)).trans hp
theorem But.frozen {b : Nat} {w w' : World} (h : But b w w') {p : Addr} (hl : p.block < w.heap.size) (hp : w.frozen? p = false) (hn : p.block ≠ b) : w'.frozen? p = false :=
 (World.frozen?_of_block (w := w) (h.block p.block hl hn)).trans hp
theorem qE {w w' : World} {r base : Nat} {e : TypeId} {size : Nat} {v : Value} {n : Nat} {xs : List Value} (h : w.ownsRow base e size v n xs) (hb : But r w w') (hr : r < base) : w'.ownsRow base e size v n xs := by
 refine ⟨h.1, ?_⟩
 rcases h.2 with h' | ⟨g, cap, cur, h1, h2, hg, q⟩
 · exact .inl h'
 · refine .inr ⟨g, cap, cur, h1, h2, ?_, q⟩; rw [hb.block g (by
    rcases Nat.lt_or_ge g w.heap.size with h' | h'
    · exact h'
    · rw [Array.getElem?_eq_none h'] at hg; cases hg) (by omega)]
   exact hg
def Box (w : World) (b : Nat) (v : Value) (t : TypeId) : Prop := w.heap[b]? = some (.cells #[v] t)
theorem Box.cell {w : World} {b : Nat} {v : Value} {t : TypeId} (h : Box w b v t) : w.cell? ⟨b, 0, none⟩ = some v := by
 unfold Box at h; simp [World.cell?, h]
theorem Box.free {w : World} {b : Nat} {v : Value} {t : TypeId} (h : Box w b v t) : w.frozen? ⟨b, 0, none⟩ = false := by
 unfold Box at h; simp [World.frozen?, h]
theorem Box.lt {w : World} {b : Nat} {v : Value} {t : TypeId} (h : Box w b v t) : b < w.heap.size := World.block_lt_of_cell? w _ h.cell
theorem Box.below {w w' : World} {b B : Nat} {v : Value} {t : TypeId} (h : Box w b v t) (hb : Below B w w') (hB : b < B) : Box w' b v t := (hb.block b hB).trans h
theorem Box.set {w : World} {b : Nat} {v : Value} {t : TypeId} (h : Box w b v t) (u : Value) : Box (w.setCell ⟨b, 0, none⟩ u) b u t := ji _ h
theorem Box.but {w w' : World} {b r : Nat} {v : Value} {t : TypeId} (h : Box w b v t) (hb : But r w w') (hn : b ≠ r) : Box w' b v t := (hb.block b h.lt hn).trans h
theorem Box.new (w : World) (v : Value) (t : TypeId) : Box (w.alloc (.cells #[v] t)) w.heap.size v t := by
 show (w.heap.push _)[w.heap.size]? = _
 simp
theorem hid {p : Prop} (h : p) : Hid p := h
structure Keeps (Q : Nat → Prop) (w w' : World) : Prop where
 size : w.heap.size ≤ w'.heap.size
 block : ∀ b, b < w.heap.size → Q b → w'.heap[b]? = w.heap[b]?
theorem Keeps.refl (Q : Nat → Prop) (w : World) : Keeps Q w w := ⟨Nat.le_refl _, fun _ _ _ => rfl⟩
theorem Keeps.of_below {Q : Nat → Prop} {w w' : World} (h : Below w.heap.size w w') : Keeps Q w w' := ⟨h.size, fun b hb _ => h.block b hb⟩
theorem Keeps.of_below' {Q : Nat → Prop} {w w' : World} {B : Nat} (h : Below B w w') (hq : ∀ b, Q b → b < B) : Keeps Q w w' := ⟨h.size, fun b _ hb => h.block b (hq b hb)⟩
theorem Keeps.of_but {Q : Nat → Prop} {w w' : World} {r : Nat} (h : But r w w') (hq : ∀ b, Q b → b ≠ r) : Keeps Q w w' := ⟨h.size, fun b hb hQ => h.block b hb (hq b hQ)⟩
theorem Keeps.trans {Q : Nat → Prop} {x y z : World} (h : Keeps Q x y) (k : Keeps Q y z) : Keeps Q x z :=
 ⟨Nat.le_trans h.size k.size, fun b hb hQ => (k.block b (Nat.lt_of_lt_of_le hb h.size) hQ).trans (h.block b hb hQ)⟩
theorem Keeps.set {Q : Nat → Prop} (w : World) {p : Addr} (v : Value) (hq : ∀ b, Q b → b ≠ p.block) : Keeps Q w (w.setCell p v) :=
 ⟨by simp [World.setCell], fun b _ hQ => Below.heap_setCell _ _ _ _ (hq b hQ)⟩
theorem Keeps.more {Q : Nat → Prop} {w w' : World} (h : Keeps Q w w') (o : Obj) : Keeps Q w (w'.alloc o) :=
 ⟨by have := h.size; simp; omega, fun b hb hQ => ((show (w'.alloc o).heap[b]? = w'.heap[b]? by show (w'.heap.push o)[b]? = _; rw [Array.getElem?_push_lt (Nat.lt_of_lt_of_le hb h.size), Array.getElem?_eq_getElem (Nat.lt_of_lt_of_le hb h.size)])).trans (h.block b hb hQ)⟩
def RowM {A : Type} (Q : Nat → Prop) (k : Nat) (P : A → List Value → Prop) (w : World) (v : Value) (l : List A) : Prop :=
 ∃ a c, v = .slice a l.length c ∧ l.length ≤ maxLen ∧ ∀ (i : Nat) (x : A), l[i]? = some x → ∃ b o cs, a = some ⟨b, o, none⟩ ∧ b < w.heap.size ∧ Q b ∧ cs.length = k ∧ (∀ (j : Nat) u, cs[j]? = some u → w.cell? ⟨b, o + i * k + j, none⟩ = some u) ∧ P x cs
def TxtM (x : List UInt8) (cs : List Value) : Prop := cs = [.string (S x)]
def TxtsM (Q : Nat → Prop) (w : World) (v : Value) (l : List (List UInt8)) : Prop := RowM Q 1 TxtM w v l
def TstM (Q : Nat → Prop) : Nat → World → Tst → List Value → Prop
 | 0, _, _, _ => False
 | n + 1, w, t, cs => ∃ vn vk vt, cs = [.int .i64 t.kind, .int .i64 t.mat, .int .i64 t.part, vn, vk, .bool t.over, .int .i64 t.limit, vt] ∧ TxtsM Q w vn t.names ∧ TxtsM Q w vk t.keys ∧ RowM Q 8 (TstM Q n w) w vt t.tests
def CmdM (Q : Nat → Prop) : Nat → World → Cmd → List Value → Prop
 | 0, _, _, _ => False
 | n + 1, w, c, cs => ∃ vx vn vk vt va ve, cs = [.int .i64 c.kind, vx, .int .i64 c.test.kind, .int .i64 c.test.mat, .int .i64 c.test.part, vn, vk, .bool c.test.over, .int .i64 c.test.limit, vt, va, ve] ∧ TxtsM Q w vx c.texts ∧
     TstM Q n w c.test [.int .i64 c.test.kind, .int .i64 c.test.mat, .int .i64 c.test.part, vn, vk, .bool c.test.over, .int .i64 c.test.limit, vt] ∧ RowM Q 12 (CmdM Q n w) w va c.thn ∧ RowM Q 12 (CmdM Q n w) w ve c.els
abbrev TstsM (Q : Nat → Prop) (n : Nat) (w : World) (v : Value) (l : List Tst) : Prop := RowM Q 8 (TstM Q n w) w v l
abbrev CmdsM (Q : Nat → Prop) (n : Nat) (w : World) (v : Value) (l : List Cmd) : Prop := RowM Q 12 (CmdM Q n w) w v l
theorem RowM.imp {A : Type} {Q Q' : Nat → Prop} {k : Nat} {P P' : A → List Value → Prop} {w w' : World} {v : Value} {l : List A} (h : RowM Q k P w v l) (hq : ∀ b, Q b → Q' b) (hk : Keeps Q w w') (hp : ∀ x cs, P x cs → P' x cs) : RowM Q' k P' w' v l := by
 obtain ⟨a, c, hv, hm, hx⟩ := h; refine ⟨a, c, hv, hm, fun i x hi => ?_⟩; obtain ⟨b, o, cs, ha, hb, hQ, hl, hc, hP⟩ := hx i x hi; exact ⟨b, o, cs, ha, Nat.lt_of_lt_of_le hb hk.size, hq b hQ, hl, fun j u hj => (World.cell?_of_block (hk.block b hb hQ)).trans (hc j u hj), hp x cs hP⟩
theorem TxtsM.imp {Q Q' : Nat → Prop} {w w' : World} {v : Value} {l : List (List UInt8)} (h : TxtsM Q w v l) (hq : ∀ b, Q b → Q' b) (hk : Keeps Q w w') : TxtsM Q' w' v l := RowM.imp h hq hk fun _ _ h => h
theorem TstM.imp {Q Q' : Nat → Prop} {w w' : World} (hq : ∀ b, Q b → Q' b) (hk : Keeps Q w w') : ∀ (n : Nat) (t : Tst) (cs : List Value), TstM Q n w t cs → TstM Q' n w' t cs := by
 intro n
 induction n with
 | zero => intro t cs h; exact h
 | succ n ih =>
   intro t cs h; obtain ⟨vn, vk, vt, h0, h1, h2, h3⟩ := h; exact ⟨vn, vk, vt, h0, h1.imp hq hk, h2.imp hq hk, RowM.imp h3 hq hk ih⟩
theorem CmdM.imp {Q Q' : Nat → Prop} {w w' : World} (hq : ∀ b, Q b → Q' b) (hk : Keeps Q w w') : ∀ (n : Nat) (c : Cmd) (cs : List Value), CmdM Q n w c cs → CmdM Q' n w' c cs := by
 intro n
 induction n with
 | zero => intro t cs h; exact h
 | succ n ih =>
   intro t cs h; obtain ⟨vx, vn, vk, vt, va, ve, h0, h1, h2, h3, h4⟩ := h; exact ⟨vx, vn, vk, vt, va, ve, h0, h1.imp hq hk, TstM.imp hq hk _ _ _ h2, RowM.imp h3 hq hk ih, RowM.imp h4 hq hk ih⟩
theorem TstM.more {Q : Nat → Prop} {w : World} : ∀ (n m : Nat) (t : Tst) (cs : List Value), n ≤ m → TstM Q n w t cs → TstM Q m w t cs := by
 intro n
 induction n with
 | zero => intro m t cs _ h; exact h.elim
 | succ n ih =>
   intro m t cs hm h; obtain ⟨vn, vk, vt, h0, h1, h2, h3⟩ := h; cases m with
   | zero => omega
   | succ m => exact ⟨vn, vk, vt, h0, h1, h2, RowM.imp h3 (fun _ h => h) (Keeps.refl _ _) fun x cs h => ih m x cs (by omega) h⟩
theorem CmdM.more {Q : Nat → Prop} {w : World} : ∀ (n m : Nat) (t : Cmd) (cs : List Value), n ≤ m → CmdM Q n w t cs → CmdM Q m w t cs := by
 intro n
 induction n with
 | zero => intro m t cs _ h; exact h.elim
 | succ n ih =>
   intro m t cs hm h; obtain ⟨vx, vn, vk, vt, va, ve, h0, h1, h2, h3, h4⟩ := h; cases m with
   | zero => omega
   | succ m => exact ⟨vx, vn, vk, vt, va, ve, h0, h1, TstM.more _ _ _ _ (by omega) h2, RowM.imp h3 (fun _ h => h) (Keeps.refl _ _) (fun x cs h => ih m x cs (by omega) h), RowM.imp h4 (fun _ h => h) (Keeps.refl _ _) fun x cs h => ih m x cs (by omega) h⟩
abbrev anyB : Nat → Prop := fun _ => True
theorem TstM.next {Q : Nat → Prop} {n : Nat} {w w' : World} {t : Tst} {cs : List Value} (h : TstM Q n w t cs) (hb : Below w.heap.size w w') : TstM Q n w' t cs := TstM.imp (fun _ h => h) (Keeps.of_below hb) _ _ _ h
theorem CmdM.next {Q : Nat → Prop} {n : Nat} {w w' : World} {c : Cmd} {cs : List Value} (h : CmdM Q n w c cs) (hb : Below w.heap.size w w') : CmdM Q n w' c cs := CmdM.imp (fun _ h => h) (Keeps.of_below hb) _ _ _ h
theorem TstsM.next {Q : Nat → Prop} {n : Nat} {w w' : World} {v : Value} {l : List Tst} (h : TstsM Q n w v l) (hb : Below w.heap.size w w') : TstsM Q n w' v l := RowM.imp h (fun _ h => h) (Keeps.of_below hb) fun _ _ h => TstM.next h hb
theorem CmdsM.next {Q : Nat → Prop} {n : Nat} {w w' : World} {v : Value} {l : List Cmd} (h : CmdsM Q n w v l) (hb : Below w.heap.size w w') : CmdsM Q n w' v l := RowM.imp h (fun _ h => h) (Keeps.of_below hb) fun _ _ h => CmdM.next h hb
theorem TxtsM.next {Q : Nat → Prop} {w w' : World} {v : Value} {l : List (List UInt8)} (h : TxtsM Q w v l) (hb : Below w.heap.size w w') : TxtsM Q w' v l := h.imp (fun _ h => h) (Keeps.of_below hb)
theorem RowM.slice {A : Type} {Q : Nat → Prop} {k : Nat} {P : A → List Value → Prop} {w : World} {v : Value} {l : List A} (h : RowM Q k P w v l) : ∃ a c, v = .slice a l.length c := by
 obtain ⟨a, c, hv, _⟩ := h; exact ⟨a, c, hv⟩
theorem jg {A : Type} (Q : Nat → Prop) (k : Nat) (P : A → List Value → Prop) (w : World) (a : Option Addr) (c : Nat) : RowM Q k P w (.slice a 0 c) ([] : List A) := ⟨a, c, rfl, by simp, fun i x h => by simp at h⟩
theorem RowM.small {A : Type} {Q : Nat → Prop} {k : Nat} {P : A → List Value → Prop} {w : World} {v : Value} {l : List A} (h : RowM Q k P w v l) : l.length ≤ maxLen := by
 obtain ⟨_, _, _, hm, _⟩ := h; exact hm
theorem jbI (c : UInt8) (t : List UInt8) : (S (c :: t)).toList.isEmpty = false := by rw [Lib.toList_data, jj]; rfl
theorem jbH : (S []).toList.isEmpty = true := by rw [Lib.toList_data, jj]; rfl
theorem jeV (c : UInt8) (t : List UInt8) : 0 < (S (c :: t)).size := by rw [jd]; simp
theorem zO (s : List UInt8) (k : Nat) : (S s).extract k (S s).size = S (s.drop k) := by
 rw [Lib.extract_eq, jj, jd, List.take_of_length_le (by simp)]; rfl
theorem jcH (s : List UInt8) (k : Nat) : (S s).extract 0 k = S (s.take k) := by
 rw [Lib.extract_eq, jj]; rfl
theorem jdX (c : UInt8) (t : List UInt8) (h : 0 < (S (c :: t)).size) : (S (c :: t))[0] = c := rfl
theorem jaY (c : UInt8) : ((c.toNat : Int)).toNat.toUInt8 = c := by simp
theorem jy {w : World} {p : Addr} {v : Value} (h : w.cell? p = some v) (o : Obj) : (w.alloc o).cell? p = some v :=
 (((Below.refl w.heap.size w).alloc (Nat.le_refl _) o).cell (World.block_lt_of_cell? w _ h)).trans h
theorem ja {w w' : World} {p : Addr} {v : Value} (h : w.cell? p = some v) (hb : Below w.heap.size w w') : w'.cell? p = some v :=
 (hb.cell (World.block_lt_of_cell? w _ h)).trans h
theorem qa {B : Nat} {a w : World} (h : Below B a w) (n : Nat) : Below B a (w.drewN n) := h.trans ⟨rfl, rfl, rfl, Nat.le_refl _, fun _ _ => rfl⟩
theorem jfQ {B : Nat} {a b c : World} (h : Below B a b) (k : Below b.heap.size b c) (hB : B ≤ a.heap.size) : Below B a c := h.trans (k.mono (Nat.le_trans hB h.size))
theorem jhP (s : List UInt8) (k : Nat) (h : k < (S s).size) (h' : k < s.length) : (S s)[k]'h = s[k]'h' := by
 have this : (S s)[k]'h = (S s).data.toList[k]'(by simpa using h) := rfl; rw [this]
 simp [jj]
def tokV (t : Tok) : Value := .agg #[.int .i64 t.kind, .string (S t.text), .int .i64 t.num]
def qb : Tok := { kind := 0, text := [], num := 0 }
def TokB (w : World) (b : Nat) (t : Tok) : Prop := w.heap[b]? = some (.cells #[.int .i64 t.kind, .string (S t.text), .int .i64 t.num] 164)
theorem TokB.c0 {w : World} {b : Nat} {t : Tok} (h : TokB w b t) : w.cell? ⟨b, 0, none⟩ = some (.int .i64 t.kind) := by unfold TokB at h; simp [World.cell?, h]
theorem TokB.c1 {w : World} {b : Nat} {t : Tok} (h : TokB w b t) : w.cell? ⟨b, 1, none⟩ = some (.string (S t.text)) := by unfold TokB at h; simp [World.cell?, h]
theorem TokB.c2 {w : World} {b : Nat} {t : Tok} (h : TokB w b t) : w.cell? ⟨b, 2, none⟩ = some (.int .i64 t.num) := by unfold TokB at h; simp [World.cell?, h]
theorem TokB.free {w : World} {b : Nat} {t : Tok} (h : TokB w b t) (o : Nat) : w.frozen? ⟨b, o, none⟩ = false := by unfold TokB at h; simp [World.frozen?, h]
theorem TokB.lt {w : World} {b : Nat} {t : Tok} (h : TokB w b t) : b < w.heap.size := World.block_lt_of_cell? w _ h.c0
theorem TokB.far {w : World} {b : Nat} {t : Tok} (h : TokB w b t) {p : Addr} (hn : b ≠ p.block) (v : Value) : TokB (w.setCell p v) b t := (Below.heap_setCell _ _ _ _ hn).trans h
theorem TokB.but {w w' : World} {r b : Nat} {t : Tok} (h : TokB w b t) (hb : But r w w') (hn : b ≠ r) : TokB w' b t := (hb.block b h.lt hn).trans h
theorem TokB.below {w w' : World} {b B : Nat} {t : Tok} (h : TokB w b t) (hb : Below B w w') (hB : b < B) : TokB w' b t := (hb.block b hB).trans h
theorem TokB.next {w w' : World} {b : Nat} {t : Tok} (h : TokB w b t) (hb : Below w.heap.size w w') : TokB w' b t := (hb.block b h.lt).trans h
theorem qX (w : World) (t : Tok) : TokB (w.alloc (.cells #[.int .i64 t.kind, .string (S t.text), .int .i64 t.num] 164)) w.heap.size t := by
 unfold TokB
 show (w.heap.push _)[w.heap.size]? = _
 simp
def Tk (w : World) (s : List UInt8) (r : Cutting) (e : Ending) (w' : World) : Prop :=
 match r with
 | .error x => e = .returned (.tuple #[tokV qb, .int .i64 0, .int .i64 x]) ∧ Below w.heap.size w w'
 | .ok (t, rest) => e = .returned (.tuple #[tokV t, .int .i64 (s.length - rest.length : Nat), .int .i64 0]) ∧ Below w.heap.size w w'
theorem jiB : (Tryz.prog.info? 164).map (fun i => (i.zero, i.size, i.bytes)) = some (some (.agg #[.int .i64 0, .string ByteArray.empty, .int .i64 0]), 3, 32) := by kernel_rfl
def qv (l : List Tok) : List Value := l.flatMap fun t => [.int .i64 t.kind, .string (S t.text), .int .i64 t.num]
theorem jbR (l : List Tok) (t : Tok) : qv (l ++ [t]) = qv l ++ [.int .i64 t.kind, .string (S t.text), .int .i64 t.num] := by simp [qv]
theorem jgD {l : List Tok} {i : Nat} {t : Tok} (h : l[i]? = some t) : (qv l)[i * 3]? = some (.int .i64 t.kind) ∧ (qv l)[i * 3 + 1]? = some (.string (S t.text)) ∧ (qv l)[i * 3 + 2]? = some (.int .i64 t.num) := by
 induction l generalizing i with
 | nil => simp at h
 | cons g l ih =>
   cases i with
   | zero => simp at h; subst h; simp [qv]
   | succ i =>
     have := ih (i := i) (by simpa using h); have e1 : (i + 1) * 3 = i * 3 + 3 := by omega
     rw [e1]
     simpa [qv] using this
def OwnT (w : World) (B : Nat) (v : Value) (l : List Tok) : Prop := w.ownsRow B 164 3 v l.length (qv l)
def ToksAt (w : World) (a : Option Addr) (l : List Tok) : Prop :=
 ∀ (i : Nat) t, l[i]? = some t → ∃ b o, a = some ⟨b, o, none⟩ ∧ b < w.heap.size ∧ w.cell? ⟨b, o + i * 3, none⟩ = some (.int .i64 t.kind) ∧ w.cell? ⟨b, o + i * 3 + 1, none⟩ = some (.string (S t.text)) ∧ w.cell? ⟨b, o + i * 3 + 2, none⟩ = some (.int .i64 t.num)
theorem ToksAt.below {w w' : World} {a : Option Addr} {l : List Tok} (h : ToksAt w a l) (hb : Below w.heap.size w w') : ToksAt w' a l := by
 intro i x hx; obtain ⟨b, o, ha, hlt, h1, h2, h3⟩ := h i x hx; exact ⟨b, o, ha, Nat.lt_of_lt_of_le hlt hb.size, ja h1 hb, ja h2 hb, ja h3 hb⟩
theorem jlg (w : World) (a : Option Addr) : ToksAt w a [] := fun i x hx => by simp at hx
theorem OwnT.any {w : World} {B : Nat} {v : Value} {l : List Tok} (h : OwnT w B v l) : ∃ a cap, v = .slice a l.length cap := by
 rcases h.2 with ⟨rfl, hn⟩ | ⟨g, cap, cur, rfl, _⟩
 · exact ⟨none, 0, by rw [hn]⟩
 · exact ⟨_, _, rfl⟩
theorem OwnT.at {w : World} {B : Nat} {a : Option Addr} {c : Nat} {l : List Tok} (h : OwnT w B (.slice a l.length c) l) : ToksAt w a l := by
 intro i x hx; have hi : i < l.length := (List.getElem?_eq_some_iff.1 hx).1
 rcases h.2 with ⟨_, hn⟩ | ⟨g, cap, cur, hv, hb, hg, q⟩
 · omega
 · simp only [Value.slice.injEq, true_and] at hv; obtain ⟨rfl, rfl⟩ := hv; have hgl : g < w.heap.size := by
    rcases Nat.lt_or_ge g w.heap.size with h' | h'
    · exact h'
    · rw [Array.getElem?_eq_none h'] at hg; cases hg
   obtain ⟨h1, h2, h3⟩ := jgD hx; refine ⟨g, 0, rfl, hgl, ?_, ?_, ?_⟩
   · rw [Nat.zero_add, World.ownsRow.cellAt h (i * 3) (by omega)]; exact h1
   · rw [Nat.zero_add, World.ownsRow.cellAt h (i * 3 + 1) (by omega)]; exact h2
   · rw [Nat.zero_add, World.ownsRow.cellAt h (i * 3 + 2) (by omega)]; exact h3
theorem j2 {w w' : World} {base : Nat} {e : TypeId} {size : Nat} {v : Value} {n : Nat} {xs : List Value} (h : w.ownsRow base e size v n xs) (hb : Below w.heap.size w w') : w'.ownsRow base e size v n xs := by
 refine ⟨h.1, ?_⟩
 rcases h.2 with h' | ⟨g, cap, cur, h1, h2, hg, q⟩
 · exact .inl h'
 · refine .inr ⟨g, cap, cur, h1, h2, ?_, q⟩; rw [hb.block g (by
    rcases Nat.lt_or_ge g w.heap.size with h' | h'
    · exact h'
    · rw [Array.getElem?_eq_none h'] at hg; cases hg)]
   exact hg
theorem jjE (W : World) (n : Nat) (hn : W.heap.size = n) (x y z : Value) (t : TypeId) : ∀ (j : Nat) u, [x, y, z][j]? = some u → (W.alloc (.cells #[x, y, z] t)).cell? ((⟨n, 0, none⟩ : Addr).add j) = some u := by
 subst hn; intro j u hj; rw [Addr.add_lit, Nat.zero_add]
 match j, hj with
 | 0, hj => simp at hj; subst hj; simp
 | 1, hj => simp at hj; subst hj; simp
 | 2, hj => simp at hj; subst hj; simp
end Go.Proofs.YtmgdnhjemhhleaaGreatDoor
