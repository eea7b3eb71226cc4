/-
  Plain facts on bytes and lists: small letters in place of great ones; no program is named here.
  Plain facts on messages as lists of bytes: names, values, lines; what is shown, what is parsed. No program is named here.
  Plain facts on messages: what is parsed of a text, line by line; what is shown is parsed as it was. No program is named here.
  Plain facts on messages: what is parsed may be; a torn text; lines that are none. No program is named here.
  Plain facts on tokens: what a script is cut into, what tokens are joined to. No program is named here.
  Plain facts on scripts: what commands and tests are, which may be, how they are shown and read. No program is named here.
  Worlds of which all but one block of what was there is as it was. No program is named here.
  Tests and commands in memory: rows within rows. No function of the program is named here.
  Plain facts on scripts: how tokens are read. No program is named here.
-/
import Derived.WalkKit
import Derived.Lib.SlTrimSet
import Derived.Lib.IndexMore
import Derived.Lib.IndexLaws
import Derived.Lib.ItoaNum
import Derived.Below
import Derived.Laws.AppendOwn
namespace Go.Proofs.YtaapmpchcfcniaaGreatDoor
open Go.RowKit
def low1 (c : UInt8) : UInt8 := if 65 ≤ (c.toNat : Int) ∧ (c.toNat : Int) ≤ 90 then UInt8.ofNat (c.toNat + 32) else c
def lowL (l : List UInt8) : List UInt8 := l.map low1
def low (s : ByteArray) : ByteArray := ⟨(lowL s.data.toList).toArray⟩
theorem jjz {c : UInt8} (h : 65 ≤ (c.toNat : Int) ∧ (c.toNat : Int) ≤ 90) : ((low1 c).toNat : Int) = c.toNat + 32 := by
  unfold low1; rw [if_pos h]; have : c.toNat + 32 < 256 := by omega
  simp [UInt8.toNat_ofNat, Nat.mod_eq_of_lt this]
theorem jll {c : UInt8} (h : ¬ (65 ≤ (c.toNat : Int) ∧ (c.toNat : Int) ≤ 90)) : low1 c = c := by
  unfold low1; rw [if_neg h]
theorem size_list (s : ByteArray) : s.data.toList.length = s.size := by rw [Array.length_toList]; rfl
theorem jcS (s : ByteArray) : (low s).size = s.size := by
  show (lowL s.data.toList).toArray.size = _
  simp only [lowL, List.size_toArray, List.length_map]; exact size_list s
theorem jdU (s : ByteArray) (k : Nat) (h : k < s.size) : s.data.toList.take (k + 1) = s.data.toList.take k ++ [s[k]] := by
  rw [List.take_succ_eq_append_getElem (by simpa using h)]; rfl
theorem qA (s : ByteArray) (k : Nat) (h : k < s.size) : s.data.toList[k]? = some s[k] := by
  rw [List.getElem?_eq_getElem (by simpa using h)]; rfl
theorem ji {k : IntKind} {a b : Int} (h : a = b) : Ending.returned (.int k a) = .returned (.int k b) := by rw [h]
theorem jg {a b : Bool} (h : a = b) : Ending.returned (.bool a) = .returned (.bool b) := by rw [h]
theorem jeh {w : World} {g j n : Nat} {cs : Array Value} {t : TypeId} (hg : w.heap[g]? = some (.cells cs t (n, n + 1))) (hj : j < n) : w.frozen? ⟨g, j, none⟩ = false := by
  simp [World.frozen?, hg]; omega
theorem jv {w : World} {g i : Nat} {cs : Array Value} {t : TypeId} {fr : Nat × Nat} (v : Value) (hg : w.heap[g]? = some (.cells cs t fr)) :
    (w.setCell ⟨g, i, none⟩ v).heap[g]? = some (.cells (cs.setIfInBounds i v) t fr) := by
  rw [setCell_eq_setRow w g i cs t fr v hg]; exact setRow_heap w g cs _ t _ hg
end Go.Proofs.YtaapmpchcfcniaaGreatDoor
namespace Go.Proofs.YtaapmpchcfcniaaGreatDoor
open Go.RowKit
def S (l : List UInt8) : ByteArray := ⟨l.toArray⟩
theorem qe (s : ByteArray) : S s.data.toList = s := by cases s; simp [S]
theorem jp (l : List UInt8) : (S l).data.toList = l := by simp [S]
theorem jt (l : List UInt8) : (S l).size = l.length := by simp [S, ByteArray.size]
def jA (c : UInt8) : Bool := c == 32 || c == 9
def qZ (c : UInt8) : Bool := decide (33 ≤ c.toNat) && decide (c.toNat ≤ 126) && c != 58
def zK (l : List UInt8) : Bool := !l.isEmpty && l.all qZ
def vm (l : List UInt8) : List UInt8 := Lib.trimS l [32, 9]
def jF (l : List UInt8) : Bool := Lib.contains l [13, 10]
def qC (l : List UInt8) : Bool := !jF l && vm l == l
abbrev F := List UInt8 × List UInt8
def mayF (f : F) : Bool := zK f.1 && qC f.2
def ja9 (f : F) : Nat := f.1.length + f.2.length + 4
def sumF (fs : List F) : Nat := (fs.map ja9).sum
def jdW (f : F) : List UInt8 := f.1 ++ [58, 32] ++ f.2 ++ [13, 10]
def qK (fs : List F) : List UInt8 := (fs.map jdW).flatten
def vT (fs : List F) (body : List UInt8) : List UInt8 := qK fs ++ [13, 10] ++ body
def zV (fs : List F) (body : List UInt8) : Int :=
  if 30 < fs.length then 5 else if fs.all mayF = false then 3 else if 2000 < 2 + body.length + sumF fs then 1 else 0
theorem jaX (f : F) : (jdW f).length = ja9 f := by simp [jdW, ja9]; omega
theorem jal (fs : List F) : (qK fs).length = sumF fs := by
  induction fs with
  | nil => rfl
  | cons f fs ih => simp [qK, sumF] at ih ⊢; rw [jaX, ih]
theorem jdu (fs : List F) (body : List UInt8) : (vT fs body).length = 2 + body.length + sumF fs := by
  simp [vT, jal]; omega
theorem jit (fs : List F) (f : F) : sumF (fs ++ [f]) = sumF fs + ja9 f := by simp [sumF]
theorem qt {α : Type} {l : List α} {k : Nat} {x : α} (h : l[k]? = some x) : l.take (k + 1) = l.take k ++ [x] := by
  obtain ⟨hk, rfl⟩ := List.getElem?_eq_some_iff.1 h; exact List.take_succ_eq_append_getElem hk
theorem jiu {fs : List F} {k : Nat} {f : F} (h : fs[k]? = some f) : sumF (fs.take (k + 1)) = sumF (fs.take k) + ja9 f := by
  rw [qt h, jit]
theorem jeC (fs : List F) (k : Nat) : sumF (fs.take k) ≤ sumF fs := by
  have e : sumF fs = sumF (fs.take k) + sumF (fs.drop k) := by
    conv => lhs; rw [← List.take_append_drop k fs]
    unfold sumF; rw [List.map_append, List.sum_append]
  omega
theorem jeo (fs : List F) (f : F) : qK (fs ++ [f]) = qK fs ++ jdW f := by simp [qK]
def qp (s : List UInt8) (j : Nat) : Prop := s[j]? = some 13 ∧ s[j + 1]? = some 10
theorem jcY (s : List UInt8) (j : Nat) : Lib.occAt s [13, 10] j = true ↔ qp s j := by
  unfold Lib.occAt qp; rw [← List.head?_drop]; have e : s[j + 1]? = (s.drop j).tail.head? := by rw [← List.drop_one, List.drop_drop, List.head?_drop]
  rw [e]; cases h : s.drop j with
  | nil => simp
  | cons a t =>
    cases t with
    | nil => simp [List.isPrefixOf]
    | cons b t => simp [List.isPrefixOf]; constructor <;> rintro ⟨rfl, rfl⟩ <;> simp
theorem jkJ {s : List UInt8} {j : Nat} (h : ¬ qp s j) : Lib.occAt s [13, 10] j = false := by
  cases e : Lib.occAt s [13, 10] j with
  | false => rfl
  | true => exact absurd ((jcY s j).1 e) h
theorem zb {l : List UInt8} : jF l = false ↔ ∀ j, ¬ qp l j := by
  constructor
  · intro h j hj; have hl : j ≤ l.length := by
      have := hj.1
      rcases Nat.lt_or_ge j l.length with h' | h'
      · omega
      · rw [List.getElem?_eq_none h'] at this; cases this
    have := Lib.index_ge l [13, 10]; have hne : Lib.index l [13, 10] = -1 := by
      simp [jF, Lib.contains] at h; omega
    have hall : ∀ k, k ≤ j → ∀ i, i < k → Lib.occAt l [13, 10] i = false := by
      intro k
      induction k with
      | zero => intro _ i hi; omega
      | succ k ih =>
        intro hk i hi
        rcases Nat.lt_or_ge i k with h' | h'
        · exact ih (by omega) i h'
        · obtain rfl : i = k := by omega
          cases e : Lib.occAt l [13, 10] i with
          | false => rfl
          | true =>
            have := Lib.index_first (s := l) (sub := [13, 10]) (i := i) (by omega) e (ih (by omega)); omega
    have := Lib.index_first (s := l) (sub := [13, 10]) (i := j) hl ((jcY l j).2 hj) (hall j (Nat.le_refl _)); omega
  · intro h; have : Lib.index l [13, 10] = -1 := Lib.index_none fun j _ => jkJ (h j)
    simp [jF, Lib.contains, this]
theorem jf2 {a b : List UInt8} (h : jF a = false) : Lib.index (a ++ [13, 10] ++ b) [13, 10] = a.length := by
  refine Lib.index_first (by simp) ((jcY _ _).2 ⟨by simp, by simp⟩) fun j hj => jkJ fun hl => ?_
  rcases Nat.lt_or_ge (j + 1) a.length with h' | h'
  · refine (zb.1 h) j ⟨?_, ?_⟩
    · have := hl.1; rw [List.append_assoc, List.getElem?_append_left hj] at this; exact this
    · have := hl.2; rw [List.append_assoc, List.getElem?_append_left h'] at this; exact this
  · have e : j + 1 = a.length := by omega
    have := hl.2; rw [e] at this
    simp at this
theorem jbc {a b : List UInt8} (h : jF a = false) : Lib.cut (a ++ [13, 10] ++ b) [13, 10] = (a, b, true) := by
  unfold Lib.cut; rw [jf2 h]
  simp
theorem ji9 {s : List UInt8} (h : jF s = false) : Lib.cut s [13, 10] = (s, [], false) := by
  unfold Lib.cut; have : ¬ (0 ≤ Lib.index s [13, 10]) := by simpa [jF, Lib.contains] using h
  rw [if_neg this]
theorem jbd {s : List UInt8} (h : jF s = true) : ∃ a b, s = a ++ [13, 10] ++ b ∧ jF a = false := by
  have h0 : 0 ≤ Lib.index s [13, 10] := by simpa [jF, Lib.contains] using h
  have : ¬ ∀ j, ¬ qp s j := fun hn => by rw [zb.2 hn] at h; cases h
  have hex : ∃ j, qp s j := Classical.byContradiction fun hn => this fun j hj => hn ⟨j, hj⟩
  have key : ∀ n, ∀ s : List UInt8, s.length ≤ n → (∃ j, qp s j) → ∃ a b, s = a ++ [13, 10] ++ b ∧ jF a = false := by
    intro n
    induction n with
    | zero => intro s hs ⟨j, hj⟩; have := hj.1; cases s <;> simp at hs this
    | succ n ih =>
      intro s hs ⟨j, hj⟩; cases s with
      | nil => have := hj.1; simp at this
      | cons c t =>
        by_cases h0 : qp (c :: t) 0
        · obtain ⟨h1, h2⟩ := h0; cases t with
          | nil => simp at h2
          | cons d t => simp at h1 h2; subst h1 h2; exact ⟨[], t, rfl, by decide⟩
        · have hj0 : j ≠ 0 := fun e => h0 (e ▸ hj)
          obtain ⟨k, rfl⟩ := Nat.exists_eq_succ_of_ne_zero hj0; obtain ⟨a, b, e, ha⟩ := ih t (by simp at hs; omega) ⟨k, by simpa [qp] using hj⟩; refine ⟨c :: a, b, by rw [e]; simp, zb.2 fun i hi => ?_⟩; cases i with
          | zero =>
            refine h0 ?_; obtain ⟨h1, h2⟩ := hi; refine ⟨by simpa using h1, ?_⟩; cases a with
            | nil => simp at h2
            | cons d a => rw [e]; simpa using h2
          | succ i => exact zb.1 ha i (by simpa [qp] using hi)
  exact key s.length s (Nat.le_refl _) hex
theorem index_one (l : List UInt8) (c : UInt8) : Lib.index l [c] = Lib.indexByte l c := by
  induction l with
  | nil => rfl
  | cons b l ih =>
    unfold Lib.index Lib.indexByte; rw [ih]
    by_cases h : b = c
    · subst h; simp
    · have : (c == b) = false := by simp; exact fun e => h e.symm
      simp [List.isPrefixOf, h, this]
theorem jcP {a b : List UInt8} {c : UInt8} (h : c ∉ a) : Lib.indexByte (a ++ c :: b) c = a.length := by
  induction a with
  | nil => simp [Lib.indexByte]
  | cons x a ih =>
    have hx : (x == c) = false := by simp; rintro rfl; exact h (by simp)
    have := ih (fun hm => h (by simp [hm])); have e : ((a.length : Int) == -1) = false := by simp
    simp [Lib.indexByte, hx, this, e]
theorem jb7 {a : List UInt8} {c : UInt8} (h : c ∉ a) : Lib.indexByte a c = -1 := by
  induction a with
  | nil => rfl
  | cons x a ih =>
    have hx : (x == c) = false := by simp; rintro rfl; exact h (by simp)
    simp [Lib.indexByte, hx, ih (fun hm => h (by simp [hm]))]
theorem jdh {a b : List UInt8} {c : UInt8} (h : c ∉ a) : Lib.cut (a ++ c :: b) [c] = (a, b, true) := by
  unfold Lib.cut; rw [index_one, jcP h]
  simp
theorem jec {a : List UInt8} {c : UInt8} (h : c ∉ a) : Lib.cut a [c] = (a, [], false) := by
  unfold Lib.cut; rw [index_one, jb7 h]
  simp
theorem jeB {s : List UInt8} {c : UInt8} (h : c ∈ s) : ∃ a b, s = a ++ c :: b ∧ c ∉ a := by
  induction s with
  | nil => cases h
  | cons x s ih =>
    by_cases e : x = c
    · exact ⟨[], s, by simp [e], by simp⟩
    · obtain ⟨a, b, rfl, hn⟩ := ih (by rcases List.mem_cons.1 h with h | h; exact absurd h.symm e; exact h); exact ⟨x :: a, b, rfl, by simp; exact ⟨fun h => e h.symm, hn⟩⟩
theorem jb3 (c : UInt8) : ([32, 9] : List UInt8).contains c = jA c := by
  cases h1 : (c == 32) <;> cases h2 : (c == 9) <;> simp [jA, List.contains, List.elem, h1, h2]
theorem jkl (l : List UInt8) : vm l = ((l.reverse.dropWhile jA).reverse).dropWhile jA := by
  unfold vm Lib.trimS Lib.trimLeftS Lib.trimRightS; have : (fun x => ([32, 9] : List UInt8).contains x) = jA := by funext c; exact jb3 c
  simp only [this]
end Go.Proofs.YtaapmpchcfcniaaGreatDoor
namespace Go.Proofs.YtaapmpchcfcniaaGreatDoor
open Go.RowKit
def zF (raw : List F) (line : List UInt8) : Bool := !raw.isEmpty && (line.head?.map jA).getD false
def qR (raw : List F) (line : List UInt8) : List F := raw.dropLast ++ [((raw.getLast?.getD ([], [])).1, (raw.getLast?.getD ([], [])).2 ++ line)]
def j5 (raw : List F) (line : List UInt8) : List F × Int :=
  if zF raw line = true then (qR raw line, 0)
  else if (Lib.cut line [58]).2.2 = false ∨ zK (Lib.cut line [58]).1 = false then ([], 3)
  else if raw.length = 30 then ([], 5)
  else (raw ++ [((Lib.cut line [58]).1, (Lib.cut line [58]).2.1)], 0)
def vE (f : F) : F := (f.1, vm f.2)
abbrev Res := List F × List UInt8 × Int × Int
theorem jkz {s : List UInt8} (h : jF s = true) : (Lib.cut s [13, 10]).2.1.length < s.length := by
  obtain ⟨a, b, rfl, ha⟩ := jbd h; rw [jbc ha]
  simp; omega
def jbR : Nat → Int → List F → List UInt8 → Res
  | 0, p, _, _ => ([], [], p, 4)
  | n + 1, p, raw, s =>
    if jF s = true then
      if (Lib.cut s [13, 10]).1 = [] then (raw.map vE, (Lib.cut s [13, 10]).2.1, 0, 0)
      else if (j5 raw (Lib.cut s [13, 10]).1).2 = 0 then jbR n (p + 1) (j5 raw (Lib.cut s [13, 10]).1).1 (Lib.cut s [13, 10]).2.1
      else ([], [], p, (j5 raw (Lib.cut s [13, 10]).1).2)
    else ([], [], p, 4)
theorem jev : ∀ (n m : Nat) (p : Int) (raw : List F) (s : List UInt8), s.length < n → s.length < m → jbR n p raw s = jbR m p raw s := by
  intro n
  induction n with
  | zero => intro m p raw s h1; omega
  | succ n ih =>
    intro m p raw s h1 h2; cases m with
    | zero => omega
    | succ m =>
      simp only [jbR]
      by_cases h : jF s = true
      · have k := jkz h; rw [ih m (p + 1) _ (Lib.cut s [13, 10]).2.1 (by omega) (by omega)]
      · rw [if_neg h, if_neg h]
def j2 (p : Int) (raw : List F) (s : List UInt8) : Res := jbR (s.length + 1) p raw s
theorem jbS (p : Int) (raw : List F) (s : List UInt8) : j2 p raw s =
    if jF s = true then
      if (Lib.cut s [13, 10]).1 = [] then (raw.map vE, (Lib.cut s [13, 10]).2.1, 0, 0)
      else if (j5 raw (Lib.cut s [13, 10]).1).2 = 0 then j2 (p + 1) (j5 raw (Lib.cut s [13, 10]).1).1 (Lib.cut s [13, 10]).2.1
      else ([], [], p, (j5 raw (Lib.cut s [13, 10]).1).2)
    else ([], [], p, 4) := by
  show jbR (s.length + 1) p raw s = _
  simp only [jbR]
  by_cases h : jF s = true
  · have k := jkz h; rw [jev s.length ((Lib.cut s [13, 10]).2.1.length + 1) (p + 1) _ (Lib.cut s [13, 10]).2.1 (by omega) (by omega)]; rfl
  · rw [if_neg h, if_neg h]
def zv (s : List UInt8) : Res := if 2000 < s.length then ([], [], 0, 1) else j2 0 [] s
theorem qq {p : Int} {raw : List F} {s : List UInt8} (h : jF s = false) : j2 p raw s = ([], [], p, 4) := by
  rw [jbS, if_neg (by simp [h])]
theorem jco (a b : List UInt8) : jF (a ++ [13, 10] ++ b) = true := by
  cases h : jF (a ++ [13, 10] ++ b) with
  | true => rfl
  | false => exact absurd ⟨by simp, by simp⟩ (zb.1 h a.length)
theorem jas (p : Int) (raw : List F) (b : List UInt8) : j2 p raw ([13, 10] ++ b) = (raw.map vE, b, 0, 0) := by
  have h := jco [] b; have c := jbc (a := []) (b := b) (by decide); rw [List.nil_append] at h c; rw [jbS, if_pos h, c]
  simp
theorem jcv {p : Int} {raw : List F} {a b : List UInt8} (ha : jF a = false) (h0 : a ≠ []) :
    j2 p raw (a ++ [13, 10] ++ b) = if (j5 raw a).2 = 0 then j2 (p + 1) (j5 raw a).1 b else ([], [], p, (j5 raw a).2) := by
  rw [jbS, if_pos (jco a b), jbc ha, if_neg h0]
theorem jbh {p : Int} {raw : List F} {a b : List UInt8} (ha : jF a = false) (h0 : a ≠ []) (ht : (j5 raw a).2 = 0) :
    j2 p raw (a ++ [13, 10] ++ b) = j2 (p + 1) (j5 raw a).1 b := by
  rw [jcv ha h0, if_pos ht]
theorem jbT {p : Int} {raw : List F} {a b : List UInt8} (ha : jF a = false) (h0 : a ≠ []) (ht : (j5 raw a).2 ≠ 0) :
    j2 p raw (a ++ [13, 10] ++ b) = ([], [], p, (j5 raw a).2) := by
  rw [jcv ha h0, if_neg ht]
theorem jga {a b : List UInt8} {j : Nat} (h : qp b j) : qp (a ++ b) (a.length + j) := by
  refine ⟨?_, ?_⟩
  · rw [List.getElem?_append_right (by omega)]; simpa using h.1
  · rw [List.getElem?_append_right (by omega)]; have := h.2; simpa [Nat.add_sub_cancel_left, Nat.add_assoc] using this
theorem jhA {a : List UInt8} {j : Nat} (h : qp a j) : j + 1 < a.length := by
  have := h.2
  rcases Nat.lt_or_ge (j + 1) a.length with h' | h'
  · exact h'
  · rw [List.getElem?_eq_none h'] at this; cases this
theorem jen {a b : List UInt8} {j : Nat} (h : qp a j) : qp (a ++ b) j := by
  have hl := jhA h; exact ⟨by rw [List.getElem?_append_left (by omega)]; exact h.1, by rw [List.getElem?_append_left hl]; exact h.2⟩
theorem jcn {a m b : List UInt8} (h : jF (a ++ m ++ b) = false) : jF m = false := by
  refine zb.2 fun j hj => ?_
  rw [zb] at h; exact h _ (jen (jga hj))
theorem jfZ {a b : List UInt8} (ha : jF a = false) (hb : jF b = false) (hj : b.head? ≠ some 10) : jF (a ++ b) = false := by
  refine zb.2 fun j hl => ?_
  rcases Nat.lt_or_ge (j + 1) a.length with h | h
  · exact zb.1 ha j ⟨by have := hl.1; rwa [List.getElem?_append_left (by omega)] at this, by have := hl.2; rwa [List.getElem?_append_left h] at this⟩
  · rcases Nat.lt_or_ge j a.length with h' | h'
    · have e : j + 1 = a.length := by omega
      have := hl.2; rw [List.getElem?_append_right h, e, Nat.sub_self] at this; exact hj (by rw [List.head?_eq_getElem?]; exact this)
    · refine zb.1 hb (j - a.length) ⟨by have := hl.1; rwa [List.getElem?_append_right h'] at this, ?_⟩; have := hl.2; rw [List.getElem?_append_right h] at this; have e : j + 1 - a.length = j - a.length + 1 := by omega
      rwa [e] at this
theorem jaK {a b : List UInt8} (ha : (13 : UInt8) ∉ a) (hb : jF b = false) : jF (a ++ b) = false := by
  refine zb.2 fun j hl => ?_
  rcases Nat.lt_or_ge j a.length with h | h
  · have := hl.1; rw [List.getElem?_append_left h] at this; exact ha (List.mem_of_getElem? this)
  · refine zb.1 hb (j - a.length) ⟨by have := hl.1; rwa [List.getElem?_append_right h] at this, ?_⟩; have := hl.2; rw [List.getElem?_append_right (by omega)] at this; have e : j + 1 - a.length = j - a.length + 1 := by omega
    rwa [e] at this
theorem jaJ : jF [] = false := by decide
theorem jdo {a : List UInt8} (ha : (13 : UInt8) ∉ a) : jF a = false := by
  have := jaK ha jaJ; simpa using this
theorem jjG {c : UInt8} (h : qZ c = true) : 33 ≤ c.toNat ∧ c.toNat ≤ 126 ∧ c ≠ 58 := by
  simp [qZ] at h; exact ⟨h.1.1, h.1.2, h.2⟩
theorem je3 {n : List UInt8} (h : zK n = true) {c : UInt8} (hc : c ∈ n) : qZ c = true := by
  simp [zK] at h; exact h.2 c hc
theorem je4 {n : List UInt8} (h : zK n = true) {c : UInt8} (hc : qZ c = false) : c ∉ n := fun hm => by
  rw [je3 h hm] at hc; cases hc
theorem jhU {n : List UInt8} (h : zK n = true) (t : List UInt8) : (((n ++ t).head?).map jA).getD false = false := by
  cases n with
  | nil => simp [zK] at h
  | cons c n =>
    have := jjG (je3 h (c := c) (by simp)); simp only [List.cons_append, List.head?_cons, Option.map_some, Option.getD_some, jA, Bool.or_eq_false_iff, beq_eq_false_iff_ne]; exact ⟨by rintro rfl; exact absurd this.1 (by decide), by rintro rfl; exact absurd this.1 (by decide)⟩
def rawB (f : F) : Bool := zK f.1 && !jF f.2
def jb8 (f : F) : List UInt8 := f.1 ++ 58 :: f.2
def jaY (fs : List F) : List UInt8 := (fs.map fun f => jb8 f ++ [13, 10]).flatten
theorem jeD {raw : List F} {f : F} (h : zK f.1 = true) (hr : raw.length < 30) : j5 raw (jb8 f) = (raw ++ [f], 0) := by
  unfold j5 jb8; have hg : zF raw (f.1 ++ 58 :: f.2) = false := by unfold zF; rw [jhU h]; simp
  rw [hg, jdh (je4 h (by decide)), if_neg (by simp), if_neg (by simp [h]), if_neg (by omega)]
theorem jhB {f : F} (h : rawB f = true) : jF (jb8 f) = false := by
  simp [rawB] at h
  have e : jb8 f = (f.1 ++ [58]) ++ f.2 := by simp [jb8]
  rw [e]; refine jaK ?_ h.2; have := je4 h.1 (c := 13) (by decide)
  simp [this]
theorem jjw (f : F) : jb8 f ≠ [] := by simp [jb8]
theorem jdz {p : Int} {raw : List F} {fs : List F} {rest : List UInt8} (h : ∀ f ∈ fs, rawB f = true) (hr : raw.length + fs.length ≤ 30) :
    j2 p raw (jaY fs ++ rest) = j2 (p + fs.length) (raw ++ fs) rest := by
  induction fs generalizing p raw with
  | nil => simp [jaY]
  | cons f fs ih =>
    have hf := h f (by simp); have e : jaY (f :: fs) ++ rest = jb8 f ++ [13, 10] ++ (jaY fs ++ rest) := by simp [jaY]
    have hn : zK f.1 = true := by simp [rawB] at hf; exact hf.1
    simp only [List.length_cons] at hr; have ht := jeD (raw := raw) (f := f) hn (by omega); rw [e, jbh (jhB hf) (jjw f) (by rw [ht]), ht, ih (fun g hg => h g (by simp [hg])) (by simp; omega)]; simp only [List.append_assoc, List.singleton_append, List.length_cons, Int.natCast_add, Int.natCast_one]
    congr 1
    omega
theorem qV {p : UInt8 → Bool} {a b : List UInt8} (h : ∀ x ∈ a, p x = true) : (a ++ b).dropWhile p = b.dropWhile p := by
  induction a with
  | nil => rfl
  | cons x a ih => simp [h x (by simp)]; exact ih fun y hy => h y (by simp [hy])
theorem vW {p : UInt8 → Bool} {a : List UInt8} (h : ∀ x, a.head? = some x → p x = false) : a.dropWhile p = a := by
  cases a with
  | nil => rfl
  | cons x a => simp [h x rfl]
theorem qu {a m b : List UInt8} (ha : ∀ x ∈ a, jA x = true) (hb : ∀ x ∈ b, jA x = true) (hh : ∀ x, m.head? = some x → jA x = false) (hl : ∀ x, m.getLast? = some x → jA x = false) :
    vm (a ++ m ++ b) = m := by
  rw [jkl]; have e : (a ++ m ++ b).reverse = b.reverse ++ (m.reverse ++ a.reverse) := by simp
  rw [e, qV (by simpa using hb)]; cases hm : m with
  | nil =>
    have : (a.reverse).dropWhile jA = [] := by
      have := qV (p := jA) (a := a.reverse) (b := []) (by simpa using ha)
      simpa using this
    simp [this]
  | cons x t =>
    rw [← hm]; have h1 : (m.reverse ++ a.reverse).dropWhile jA = m.reverse ++ a.reverse := vW fun y hy => by
      have : (m.reverse).head? = some y := by
        cases hr : m.reverse with
        | nil => simp [hm] at hr
        | cons z u => rw [hr] at hy; simpa using hy
      exact hl y (by rw [List.head?_reverse] at this; exact this)
    rw [h1]; simp only [List.reverse_append, List.reverse_reverse]; rw [qV ha]; exact vW hh
theorem vR (l : List UInt8) : ∃ a m b, l = a ++ m ++ b ∧ (∀ x ∈ a, jA x = true) ∧ (∀ x ∈ b, jA x = true) ∧ (∀ x, m.head? = some x → jA x = false) ∧ (∀ x, m.getLast? = some x → jA x = false) := by
  have tw : ∀ l : List UInt8, ∀ x ∈ l.takeWhile jA, jA x = true := by
    intro l
    induction l with
    | nil => simp
    | cons c l ih =>
      intro x hx; rw [List.takeWhile_cons] at hx; split at hx
      · rcases List.mem_cons.1 hx with rfl | h
        · assumption
        · exact ih x h
      · cases hx
  have dw : ∀ l : List UInt8, ∀ x, (l.dropWhile jA).head? = some x → jA x = false := by
    intro l
    induction l with
    | nil => simp
    | cons c l ih =>
      intro x hx; rw [List.dropWhile_cons] at hx; split at hx
      · exact ih x hx
      · rename_i hc; simp at hx; subst hx; exact Bool.eq_false_iff.2 hc
  refine ⟨l.takeWhile jA, ((l.dropWhile jA).reverse.dropWhile jA).reverse, ((l.dropWhile jA).reverse.takeWhile jA).reverse, ?_, tw l, ?_, ?_, ?_⟩
  · rw [List.append_assoc, ← List.reverse_append, List.takeWhile_append_dropWhile, List.reverse_reverse, List.takeWhile_append_dropWhile]
  · intro x hx; exact tw _ x (by simpa using hx)
  · intro x hx; cases hr : (l.dropWhile jA).reverse.dropWhile jA with
    | nil => rw [hr] at hx; simp at hx
    | cons y t =>
      refine dw l x ?_; have e : l.dropWhile jA = ((l.dropWhile jA).reverse.dropWhile jA).reverse ++ ((l.dropWhile jA).reverse.takeWhile jA).reverse := by
        rw [← List.reverse_append, List.takeWhile_append_dropWhile, List.reverse_reverse]
      rw [e]; cases hz : ((l.dropWhile jA).reverse.dropWhile jA).reverse with
      | nil => rw [hr] at hz; simp at hz
      | cons z u => rw [hz] at hx; simpa using hx
  · intro x hx; rw [List.getLast?_reverse] at hx; exact dw _ x hx
theorem jiG (l : List UInt8) : vm (vm l) = vm l := by
  obtain ⟨a, m, b, rfl, ha, hb, hh, hl⟩ := vR l; rw [qu ha hb hh hl]; have := qu (a := []) (m := m) (b := []) (by simp) (by simp) hh hl
  simpa using this
theorem jkm {l : List UInt8} (h : jF l = false) : jF (vm l) = false := by
  obtain ⟨a, m, b, rfl, ha, hb, hh, hl⟩ := vR l; rw [qu ha hb hh hl]; exact jcn h
theorem jkn (l : List UInt8) : (vm l).length ≤ l.length := by
  obtain ⟨a, m, b, rfl, ha, hb, hh, hl⟩ := vR l; rw [qu ha hb hh hl]
  simp; omega
theorem jgH {c : UInt8} (hc : jA c = true) (l : List UInt8) : vm (c :: l) = vm l := by
  obtain ⟨a, m, b, rfl, ha, hb, hh, hl⟩ := vR l; rw [qu ha hb hh hl]; have := qu (a := c :: a) (m := m) (b := b) (fun x hx => by rcases List.mem_cons.1 hx with rfl | h; exact hc; exact ha x h) hb hh hl
  simpa using this
def inF (f : F) : F := (f.1, 32 :: f.2)
theorem jlm {f : F} (h : mayF f = true) : rawB (inF f) = true := by
  simp [mayF, qC] at h
  simp only [rawB, inF, Bool.and_eq_true, Bool.not_eq_true']; refine ⟨h.1, ?_⟩; have := jaK (a := [32]) (b := f.2) (by decide) (by simpa using h.2.1)
  simpa using this
theorem jjx (fs : List F) : qK fs = jaY (fs.map inF) := by
  induction fs with
  | nil => rfl
  | cons f fs ih =>
    simp only [qK, jaY, List.map_cons, List.flatten_cons] at ih ⊢; rw [ih]
    simp [jdW, jb8, inF]
theorem jlZ {f : F} (h : mayF f = true) : vE (inF f) = f := by
  simp [mayF, qC] at h
  simp only [vE, inF]; rw [jgH (by decide), h.2.2]
theorem jgo {p : Int} {fs : List F} {body : List UInt8} (h : ∀ f ∈ fs, mayF f = true) (hl : fs.length ≤ 30) : j2 p [] (vT fs body) = (fs, body, 0, 0) := by
  have e : vT fs body = jaY (fs.map inF) ++ ([13, 10] ++ body) := by simp [vT, jjx]
  rw [e, jdz (fun g hg => by obtain ⟨f, hf, rfl⟩ := List.mem_map.1 hg; exact jlm (h f hf)) (by simpa using hl), jas]; simp only [List.nil_append, List.map_map]
  congr 1
  rw [show fs.map (vE ∘ inF) = fs.map id from List.map_congr_left fun f hf => jlZ (h f hf)]
  simp
end Go.Proofs.YtaapmpchcfcniaaGreatDoor
namespace Go.Proofs.YtaapmpchcfcniaaGreatDoor
open Go.RowKit
theorem jg6 {a : List UInt8} (h : (Lib.cut a [58]).2.2 = true) : a = (Lib.cut a [58]).1 ++ 58 :: (Lib.cut a [58]).2.1 := by
  by_cases hm : (58 : UInt8) ∈ a
  · obtain ⟨n, v, rfl, hn⟩ := jeB hm; rw [jdh hn]
  · rw [jec hm] at h; cases h
theorem jf7 {raw : List F} (h0 : raw ≠ []) : raw = raw.dropLast ++ [raw.getLast?.getD ([], [])] := by
  rw [List.getLast?_eq_some_getLast h0]; exact (List.dropLast_concat_getLast h0).symm
theorem jdS {raw : List F} {a : List UInt8} (P Q : F → Prop) (hr : ∀ f ∈ raw, P f) (hPQ : ∀ f, P f → Q f) (h1 : ∀ f, P f → (a.head?.map jA).getD false = true → Q (f.1, f.2 ++ a))
    (h2 : (Lib.cut a [58]).2.2 = true → zK (Lib.cut a [58]).1 = true → Q ((Lib.cut a [58]).1, (Lib.cut a [58]).2.1)) : ∀ f ∈ (j5 raw a).1, Q f := by
  unfold j5; split
  · rename_i hg; have h0 : raw ≠ [] := by rintro rfl; simp [zF] at hg
    have hb : (a.head?.map jA).getD false = true := by unfold zF at hg; simp only [Bool.and_eq_true] at hg; exact hg.2
    have hs := jf7 h0; intro f hf; unfold qR at hf
    rcases List.mem_append.1 hf with h | h
    · exact hPQ f (hr f ((List.dropLast_sublist raw).subset h))
    · simp only [List.mem_singleton] at h; subst h; exact h1 _ (hr _ (by rw [hs]; simp)) hb
  · split
    · simp
    · rename_i hc; simp only [not_or, Bool.not_eq_false] at hc; split
      · simp
      · intro f hf
        rcases List.mem_append.1 hf with h | h
        · exact hPQ f (hr f h)
        · simp only [List.mem_singleton] at h; subst h; exact h2 hc.1 hc.2
theorem jiw {raw : List F} {a : List UInt8} (hr : raw.length ≤ 30) : (j5 raw a).1.length ≤ 30 := by
  unfold j5; split
  · rename_i hg; have h0 : raw ≠ [] := by rintro rfl; simp [zF] at hg
    have := List.length_pos_iff.2 h0
    simp [qR]; omega
  · split
    · simp
    · split
      · simp
      · simp; omega
theorem jix {raw : List F} {a : List UInt8} (hr : ∀ f ∈ raw, rawB f = true) (ha : jF a = false) : ∀ f ∈ (j5 raw a).1, rawB f = true := by
  refine jdS (fun f => rawB f = true) (fun f => rawB f = true) hr (fun _ h => h) ?_ ?_
  · intro f hf hb
    simp [rawB] at hf ⊢
    refine ⟨hf.1, jfZ hf.2 ha ?_⟩; intro h; rw [h] at hb; exact absurd hb (by decide)
  · intro h1 h2; have e := jg6 h1; simp only [rawB, h2, Bool.true_and, Bool.not_eq_true']; rw [e] at ha; have : jF (((Lib.cut a [58]).1 ++ [58]) ++ (Lib.cut a [58]).2.1 ++ []) = false := by simpa using ha
    exact jcn this
theorem jh6 : ∀ (n : Nat) (s : List UInt8), s.length ≤ n → ∀ (p : Int) (raw : List F), (∀ f ∈ raw, rawB f = true) → raw.length ≤ 30 →
    ((j2 p raw s).2.2.2 = 0 → (∀ f ∈ (j2 p raw s).1, mayF f = true) ∧ (j2 p raw s).1.length ≤ 30 ∧ (j2 p raw s).2.2.1 = 0) ∧
    ((j2 p raw s).2.2.2 ≠ 0 → (j2 p raw s).1 = [] ∧ (j2 p raw s).2.1 = [] ∧ p ≤ (j2 p raw s).2.2.1) := by
  intro n
  induction n with
  | zero =>
    intro s hs p raw _ _; have : s = [] := List.length_eq_zero_iff.1 (by omega); subst this; rw [qq jaJ]; exact ⟨fun h => (by cases h), fun _ => ⟨rfl, rfl, Int.le_refl _⟩⟩
  | succ n ih =>
    intro s hs p raw hr hl; cases hE : jF s with
    | false =>
      rw [qq hE]; exact ⟨fun h => (by cases h), fun _ => ⟨rfl, rfl, Int.le_refl _⟩⟩
    | true =>
      obtain ⟨a, b, rfl, ha⟩ := jbd hE
      by_cases h0 : a = []
      · subst h0; rw [List.nil_append, jas]; refine ⟨fun _ => ⟨?_, by simpa using hl, rfl⟩, fun h => absurd rfl h⟩; intro f hf; obtain ⟨g, hg, rfl⟩ := List.mem_map.1 hf; have := hr g hg; simp only [rawB, Bool.and_eq_true, Bool.not_eq_true'] at this; simp only [mayF, qC, vE, this.1, jkm this.2, jiG, Bool.true_and, Bool.not_false, beq_self_eq_true]
      · by_cases ht : (j5 raw a).2 = 0
        · rw [jbh ha h0 ht]; have := ih b (by simp at hs; omega) (p + 1) (j5 raw a).1 (jix hr ha) (jiw hl); exact ⟨this.1, fun h => by obtain ⟨h1, h2, h3⟩ := this.2 h; exact ⟨h1, h2, by omega⟩⟩
        · rw [jbT ha h0 ht]; exact ⟨fun h => absurd h ht, fun _ => ⟨rfl, rfl, Int.le_refl _⟩⟩
theorem jgn (N : Nat) : ∀ (n : Nat) (s : List UInt8), s.length ≤ n → ∀ (p : Int) (raw : List F), s.length ≤ N → (∀ f ∈ raw, f.1.length ≤ N ∧ f.2.length + s.length ≤ N) →
    (∀ f ∈ (j2 p raw s).1, f.1.length ≤ N ∧ f.2.length ≤ N) ∧ (j2 p raw s).2.1.length ≤ N := by
  intro n
  induction n with
  | zero =>
    intro s hs p raw _ _; have : s = [] := List.length_eq_zero_iff.1 (by omega); subst this; rw [qq jaJ]
    simp
  | succ n ih =>
    intro s hs p raw hN hr; cases hE : jF s with
    | false => rw [qq hE]; simp
    | true =>
      obtain ⟨a, b, rfl, ha⟩ := jbd hE; have hlen : (a ++ [13, 10] ++ b).length = a.length + 2 + b.length := by simp; omega
      by_cases h0 : a = []
      · subst h0; rw [List.nil_append, jas]; refine ⟨?_, by simp at hN ⊢; omega⟩; intro f hf; obtain ⟨g, hg, rfl⟩ := List.mem_map.1 hf; have := hr g hg; have ht := jkn g.2; exact ⟨this.1, by simp only [vE]; omega⟩
      · by_cases ht : (j5 raw a).2 = 0
        · rw [jbh ha h0 ht]; refine ih b (by omega) (p + 1) _ (by omega) ?_; refine jdS (fun f => f.1.length ≤ N ∧ f.2.length + (a ++ [13, 10] ++ b).length ≤ N) (fun f => f.1.length ≤ N ∧ f.2.length + b.length ≤ N) hr (fun f h => ⟨h.1, by omega⟩) ?_ ?_
          · intro f h _; exact ⟨h.1, by simp only [List.length_append]; omega⟩
          · intro h1 _; have e := congrArg List.length (jg6 h1); simp only [List.length_append, List.length_cons] at e; exact ⟨by simp only; omega, by simp only; omega⟩
        · rw [jbT ha h0 ht]; simp
end Go.Proofs.YtaapmpchcfcniaaGreatDoor
namespace Go.Proofs.YtaapmpchcfcniaaGreatDoor
open Go.RowKit
structure Tok where
  kind : Int
  text : List UInt8
  num : Int
end Go.Proofs.YtaapmpchcfcniaaGreatDoor
namespace Go.Proofs.YtaapmpchcfcniaaGreatDoor
open Go.RowKit
structure Tst where
  kind : Int
  mat : Int
  part : Int
  names : List (List UInt8)
  keys : List (List UInt8)
  over : Bool
  limit : Int
  tests : List Tst
structure Cmd where
  kind : Int
  texts : List (List UInt8)
  test : Tst
  thn : List Cmd
  els : List Cmd
def zd : Tst := ⟨0, 0, 0, [], [], false, 0, []⟩
def wTabs : List (List (List UInt8)) := [
  [[], [114, 101, 113, 117, 105, 114, 101], [105, 102], [107, 101, 101, 112], [100, 105, 115, 99, 97, 114, 100], [102, 105, 108, 101, 105, 110, 116, 111], [114, 101, 100, 105, 114, 101, 99, 116], [114, 101, 106, 101, 99, 116], [115, 101, 116, 102, 108, 97, 103], [97, 100, 100, 102, 108, 97, 103], [115, 116, 111, 112]],
  [[], [116, 114, 117, 101], [102, 97, 108, 115, 101], [110, 111, 116], [97, 108, 108, 111, 102], [97, 110, 121, 111, 102], [104, 101, 97, 100, 101, 114], [97, 100, 100, 114, 101, 115, 115], [101, 110, 118, 101, 108, 111, 112, 101], [101, 120, 105, 115, 116, 115], [115, 105, 122, 101]],
  [[], [105, 115], [99, 111, 110, 116, 97, 105, 110, 115], [109, 97, 116, 99, 104, 101, 115], [], [], [], [], [], [], []],
  [[], [97, 108, 108], [108, 111, 99, 97, 108, 112, 97, 114, 116], [100, 111, 109, 97, 105, 110], [], [], [], [], [], [], []]]
def jQ (k n : Nat) : List UInt8 := (wTabs.getD k []).getD n []
def jC (k : Nat) (n : Int) : Bool := decide (0 ≤ n) && decide (n < 11) && !(jQ k n.toNat).isEmpty
theorem jbJ (n : Int) : jC 0 n = (decide (1 ≤ n) && decide (n ≤ 10)) := by
  unfold jC
  by_cases h0 : 0 ≤ n
  · by_cases h1 : n < 11
    · obtain ⟨k, rfl⟩ := Int.eq_ofNat_of_zero_le h0; have hk : k < 11 := by omega
      match k, hk with
      | 0, _ | 1, _ | 2, _ | 3, _ | 4, _ | 5, _ | 6, _ | 7, _ | 8, _ | 9, _ | 10, _ => rfl
    · simp [h1]; omega
  · simp [h0]; omega
theorem jbK (n : Int) : jC 1 n = (decide (1 ≤ n) && decide (n ≤ 10)) := by
  unfold jC
  by_cases h0 : 0 ≤ n
  · by_cases h1 : n < 11
    · obtain ⟨k, rfl⟩ := Int.eq_ofNat_of_zero_le h0; have hk : k < 11 := by omega
      match k, hk with
      | 0, _ | 1, _ | 2, _ | 3, _ | 4, _ | 5, _ | 6, _ | 7, _ | 8, _ | 9, _ | 10, _ => rfl
    · simp [h1]; omega
  · simp [h0]; omega
theorem jdr (n : Int) : jC 2 n = (decide (1 ≤ n) && decide (n ≤ 3)) := by
  unfold jC
  by_cases h0 : 0 ≤ n
  · by_cases h1 : n < 11
    · obtain ⟨k, rfl⟩ := Int.eq_ofNat_of_zero_le h0; have hk : k < 11 := by omega
      match k, hk with
      | 0, _ | 1, _ | 2, _ | 3, _ | 4, _ | 5, _ | 6, _ | 7, _ | 8, _ | 9, _ | 10, _ => rfl
    · simp [h1]; omega
  · simp [h0]; omega
theorem jf3 (n : Int) : jC 3 n = (decide (1 ≤ n) && decide (n ≤ 3)) := by
  unfold jC
  by_cases h0 : 0 ≤ n
  · by_cases h1 : n < 11
    · obtain ⟨k, rfl⟩ := Int.eq_ofNat_of_zero_le h0; have hk : k < 11 := by omega
      match k, hk with
      | 0, _ | 1, _ | 2, _ | 3, _ | 4, _ | 5, _ | 6, _ | 7, _ | 8, _ | 9, _ | 10, _ => rfl
    · simp [h1]; omega
  · simp [h0]; omega
def jap (t : Tst) : Bool := decide (t.kind = 0) && decide (t.mat = 0) && decide (t.part = 0) && decide (t.names.length = 0) && decide (t.keys.length = 0) && !t.over && decide (t.limit = 0) && decide (t.tests.length = 0)
def cmpB (t : Tst) : Bool := jC 2 t.mat && decide (0 < t.names.length) && decide (0 < t.keys.length)
def zW (t : Tst) : Bool :=
  if t.kind = 3 then decide (t.tests.length = 1) && jap { t with kind := 0, tests := [] }
  else if t.kind = 4 ∨ t.kind = 5 then decide (0 < t.tests.length) && jap { t with kind := 0, tests := [] }
  else if t.kind = 6 then cmpB t && jap { t with kind := 0, mat := 0, names := [], keys := [] }
  else if t.kind = 7 ∨ t.kind = 8 then cmpB t && jC 3 t.part && jap { t with kind := 0, mat := 0, part := 0, names := [], keys := [] }
  else if t.kind = 9 then decide (0 < t.names.length) && jap { t with kind := 0, names := [] }
  else if t.kind = 10 then decide (0 ≤ t.limit ∧ t.limit ≤ 2147483647) && jap { t with kind := 0, over := false, limit := 0 }
  else jap { t with kind := 0 }
def oneP (k : Bool) (d : Nat) (f : Bool) : Int := if k = false then 2 else if 6 < d then 1 else if f = false then 3 else 0
def jn {A : Type} (f : A → Int) : List A → Int
  | [] => 0
  | x :: r => if f x = 0 then jn f r else f x
def jo : Nat → Nat → Tst → Int
  | 0, _, _ => 0
  | n + 1, d, t => if oneP (jC 1 t.kind) d (zW t) = 0 then jn (jo n (d + 1)) t.tests else oneP (jC 1 t.kind) d (zW t)
def qg (c : Cmd) : Bool :=
  if c.kind ≠ 2 ∧ (0 < c.thn.length ∨ 0 < c.els.length ∨ jap c.test = false) then false
  else if c.kind = 1 ∨ c.kind = 8 ∨ c.kind = 9 then decide (0 < c.texts.length)
  else if c.kind = 5 ∨ c.kind = 6 ∨ c.kind = 7 then decide (c.texts.length = 1)
  else decide (c.texts.length = 0)
def jP : List Cmd → Option Cmd
  | [c] => if c.kind = 2 then some c else none
  | _ => none
def jl : Nat → Nat → Cmd → Int
  | 0, _, _ => 0
  | n + 1, d, c =>
    if oneP (jC 0 c.kind) d (qg c) ≠ 0 then oneP (jC 0 c.kind) d (qg c)
    else if c.kind ≠ 2 then 0
    else if jo n 1 c.test ≠ 0 then jo n 1 c.test
    else if jn (jl n (d + 1)) c.thn ≠ 0 then jn (jl n (d + 1)) c.thn
    else match jP c.els with
      | some x => jl n d x
      | none => jn (jl n (d + 1)) c.els
theorem zo (n d : Nat) (c : Cmd) : jl (n + 1) d c =
    if oneP (jC 0 c.kind) d (qg c) ≠ 0 then oneP (jC 0 c.kind) d (qg c)
    else if c.kind ≠ 2 then 0
    else if jo n 1 c.test ≠ 0 then jo n 1 c.test
    else if jn (jl n (d + 1)) c.thn ≠ 0 then jn (jl n (d + 1)) c.thn
    else match jP c.els with
      | some x => jl n d x
      | none => jn (jl n (d + 1)) c.els := rfl
theorem zP {l : List Cmd} {x : Cmd} (h : jP l = some x) : l = [x] ∧ x.kind = 2 := by
  match l with
  | [] => cases h
  | [c] =>
    by_cases hk : c.kind = 2
    · simp only [jP, if_pos hk, Option.some.injEq] at h; subst h; exact ⟨rfl, hk⟩
    · simp only [jP, if_neg hk] at h; cases h
  | a :: b :: r => cases h
def jI (n d : Nat) (l : List Cmd) : Int := jn (jl n d) l
def zw (s : List UInt8) : Tok := ⟨1, s, 0⟩
def tagT (s : List UInt8) : Tok := ⟨2, s, 0⟩
def strT (s : List UInt8) : Tok := ⟨4, s, 0⟩
def jG (c : UInt8) : Tok := ⟨5, [c], 0⟩
def sepT {A : Type} (f : A → List Tok) : List A → List Tok
  | [] => []
  | x :: r => f x ++ r.flatMap fun y => jG 44 :: f y
def qX : List (List UInt8) → List Tok
  | [x] => [strT x]
  | l => jG 91 :: (sepT (fun x => [strT x]) l ++ [jG 93])
def jaV : List UInt8 := [101, 108, 115, 105, 102]
def jfR : List UInt8 := [101, 108, 115, 101]
def jlA : List UInt8 := [111, 118, 101, 114]
def jiK : List UInt8 := [117, 110, 100, 101, 114]
def jD : Nat → Tst → List Tok
  | 0, _ => []
  | n + 1, t =>
    zw (jQ 1 t.kind.toNat) ::
      (if t.kind = 3 then (t.tests.head?.map (jD n)).getD []
       else if t.kind = 4 ∨ t.kind = 5 then jG 40 :: (sepT (jD n) t.tests ++ [jG 41])
       else if t.kind = 6 then tagT (jQ 2 t.mat.toNat) :: (qX t.names ++ qX t.keys)
       else if t.kind = 7 ∨ t.kind = 8 then tagT (jQ 3 t.part.toNat) :: tagT (jQ 2 t.mat.toNat) :: (qX t.names ++ qX t.keys)
       else if t.kind = 9 then qX t.names
       else if t.kind = 10 then [tagT (if t.over then jlA else jiK), ⟨3, [], t.limit⟩]
       else [])
def j4 : Nat → Cmd → List Tok
  | 0, _ => []
  | n + 1, c =>
    if c.kind = 2 then
      jD n c.test ++ (jG 123 :: (c.thn.flatMap fun x => zw (jQ 0 x.kind.toNat) :: j4 n x) ++ [jG 125]) ++
        (match jP c.els with
         | some x => zw jaV :: j4 n x
         | none => if c.els.length = 0 then [] else zw jfR :: jG 123 :: (c.els.flatMap fun x => zw (jQ 0 x.kind.toNat) :: j4 n x) ++ [jG 125])
    else (if c.texts.length = 0 then [] else qX c.texts) ++ [jG 59]
def cmdT (n : Nat) (c : Cmd) : List Tok := zw (jQ 0 c.kind.toNat) :: j4 n c
def jK (n : Nat) (l : List Cmd) : List Tok := l.flatMap (cmdT n)
def za (n : Nat) (l : List Cmd) : Int := if jI n 0 l ≠ 0 then jI n 0 l else if 400 < (jK n l).length then 5 else 0
end Go.Proofs.YtaapmpchcfcniaaGreatDoor
namespace Go.Proofs.YtaapmpchcfcniaaGreatDoor
open Go.RowKit
structure But (b : Nat) (w w' : World) : Prop where
  os : w'.os = w.os
  tape : w'.tape = w.tape
  output : w'.output = w.output
  size : w.heap.size ≤ w'.heap.size
  block : ∀ k, k < w.heap.size → k ≠ b → w'.heap[k]? = w.heap[k]?
theorem But.refl (b : Nat) (w : World) : But b w w := ⟨rfl, rfl, rfl, Nat.le_refl _, fun _ _ _ => rfl⟩
theorem But.trans {b : Nat} {x y z : World} (h : But b x y) (k : But b y z) : But b x z :=
  ⟨k.os.trans h.os, k.tape.trans h.tape, k.output.trans h.output, Nat.le_trans h.size k.size, fun i hi hn => (k.block i (Nat.lt_of_lt_of_le hi h.size) hn).trans (h.block i hi hn)⟩
theorem But.of {b : Nat} {w w' : World} (h : Below w.heap.size w w') : But b w w' := ⟨h.os, h.tape, h.output, h.size, fun k hk _ => h.block k hk⟩
theorem But.set {b : Nat} (w : World) (v : Value) : But b w (w.setCell ⟨b, 0, none⟩ v) :=
  ⟨rfl, rfl, rfl, by simp [World.setCell], fun k _ hn => Below.heap_setCell _ _ _ _ hn⟩
theorem But.below {b B : Nat} {w w' : World} (h : But b w w') (hB : B ≤ b) (hw : B ≤ w.heap.size) : Below B w w' :=
  ⟨h.os, h.tape, h.output, h.size, fun k hk => h.block k (by omega) (by omega)⟩
theorem But.cell {b : Nat} {w w' : World} (h : But b w w') {p : Addr} {v : Value} (hp : w.cell? p = some v) (hn : p.block ≠ b) : w'.cell? p = some v :=
  (World.cell?_of_block (w := w) (h.block p.block (World.block_lt_of_cell? w _ hp) hn)).trans hp
theorem But.frozen {b : Nat} {w w' : World} (h : But b w w') {p : Addr} (hl : p.block < w.heap.size) (hp : w.frozen? p = false) (hn : p.block ≠ b) : w'.frozen? p = false :=
  (World.frozen?_of_block (w := w) (h.block p.block hl hn)).trans hp
theorem jet {w w' : World} {r base : Nat} {e : TypeId} {size : Nat} {v : Value} {n : Nat} {xs : List Value} (h : w.ownsRow base e size v n xs) (hb : But r w w') (hr : r < base) : w'.ownsRow base e size v n xs := by
  refine ⟨h.1, ?_⟩
  rcases h.2 with h' | ⟨g, cap, cur, h1, h2, hg, q⟩
  · exact .inl h'
  · refine .inr ⟨g, cap, cur, h1, h2, ?_, q⟩; rw [hb.block g (by
      rcases Nat.lt_or_ge g w.heap.size with h' | h'
      · exact h'
      · rw [Array.getElem?_eq_none h'] at hg; cases hg) (by omega)]
    exact hg
def Box (w : World) (b : Nat) (v : Value) (t : TypeId) : Prop := w.heap[b]? = some (.cells #[v] t)
theorem Box.cell {w : World} {b : Nat} {v : Value} {t : TypeId} (h : Box w b v t) : w.cell? ⟨b, 0, none⟩ = some v := by
  unfold Box at h; simp [World.cell?, h]
theorem Box.free {w : World} {b : Nat} {v : Value} {t : TypeId} (h : Box w b v t) : w.frozen? ⟨b, 0, none⟩ = false := by
  unfold Box at h; simp [World.frozen?, h]
theorem Box.lt {w : World} {b : Nat} {v : Value} {t : TypeId} (h : Box w b v t) : b < w.heap.size := World.block_lt_of_cell? w _ h.cell
theorem Box.below {w w' : World} {b B : Nat} {v : Value} {t : TypeId} (h : Box w b v t) (hb : Below B w w') (hB : b < B) : Box w' b v t := (hb.block b hB).trans h
theorem Box.set {w : World} {b : Nat} {v : Value} {t : TypeId} (h : Box w b v t) (u : Value) : Box (w.setCell ⟨b, 0, none⟩ u) b u t := jv _ h
theorem Box.but {w w' : World} {b r : Nat} {v : Value} {t : TypeId} (h : Box w b v t) (hb : But r w w') (hn : b ≠ r) : Box w' b v t := (hb.block b h.lt hn).trans h
theorem Box.new (w : World) (v : Value) (t : TypeId) : Box (w.alloc (.cells #[v] t)) w.heap.size v t := by
  show (w.heap.push _)[w.heap.size]? = _
  simp
end Go.Proofs.YtaapmpchcfcniaaGreatDoor
namespace Go.Proofs.YtaapmpchcfcniaaGreatDoor
open Go.RowKit
theorem hid {p : Prop} (h : p) : Hid p := h
structure Keeps (Q : Nat → Prop) (w w' : World) : Prop where
  size : w.heap.size ≤ w'.heap.size
  block : ∀ b, b < w.heap.size → Q b → w'.heap[b]? = w.heap[b]?
theorem Keeps.refl (Q : Nat → Prop) (w : World) : Keeps Q w w := ⟨Nat.le_refl _, fun _ _ _ => rfl⟩
theorem Keeps.of_below {Q : Nat → Prop} {w w' : World} (h : Below w.heap.size w w') : Keeps Q w w' := ⟨h.size, fun b hb _ => h.block b hb⟩
theorem Keeps.of_below' {Q : Nat → Prop} {w w' : World} {B : Nat} (h : Below B w w') (hq : ∀ b, Q b → b < B) : Keeps Q w w' := ⟨h.size, fun b _ hb => h.block b (hq b hb)⟩
theorem Keeps.of_but {Q : Nat → Prop} {w w' : World} {r : Nat} (h : But r w w') (hq : ∀ b, Q b → b ≠ r) : Keeps Q w w' := ⟨h.size, fun b hb hQ => h.block b hb (hq b hQ)⟩
theorem Keeps.trans {Q : Nat → Prop} {x y z : World} (h : Keeps Q x y) (k : Keeps Q y z) : Keeps Q x z :=
  ⟨Nat.le_trans h.size k.size, fun b hb hQ => (k.block b (Nat.lt_of_lt_of_le hb h.size) hQ).trans (h.block b hb hQ)⟩
theorem Keeps.set {Q : Nat → Prop} (w : World) {p : Addr} (v : Value) (hq : ∀ b, Q b → b ≠ p.block) : Keeps Q w (w.setCell p v) :=
  ⟨by simp [World.setCell], fun b _ hQ => Below.heap_setCell _ _ _ _ (hq b hQ)⟩
theorem Keeps.more {Q : Nat → Prop} {w w' : World} (h : Keeps Q w w') (o : Obj) : Keeps Q w (w'.alloc o) :=
  ⟨by have := h.size; simp; omega, fun b hb hQ => ((show (w'.alloc o).heap[b]? = w'.heap[b]? by show (w'.heap.push o)[b]? = _; rw [Array.getElem?_push_lt (Nat.lt_of_lt_of_le hb h.size), Array.getElem?_eq_getElem (Nat.lt_of_lt_of_le hb h.size)])).trans (h.block b hb hQ)⟩
def RowM {A : Type} (Q : Nat → Prop) (k : Nat) (P : A → List Value → Prop) (w : World) (v : Value) (l : List A) : Prop :=
  ∃ a c, v = .slice a l.length c ∧ l.length ≤ maxLen ∧ ∀ (i : Nat) (x : A), l[i]? = some x → ∃ b o cs, a = some ⟨b, o, none⟩ ∧ b < w.heap.size ∧ Q b ∧ cs.length = k ∧ (∀ (j : Nat) u, cs[j]? = some u → w.cell? ⟨b, o + i * k + j, none⟩ = some u) ∧ P x cs
def TxtM (x : List UInt8) (cs : List Value) : Prop := cs = [.string (S x)]
def TxtsM (Q : Nat → Prop) (w : World) (v : Value) (l : List (List UInt8)) : Prop := RowM Q 1 TxtM w v l
def TstM (Q : Nat → Prop) : Nat → World → Tst → List Value → Prop
  | 0, _, _, _ => False
  | n + 1, w, t, cs => ∃ vn vk vt, cs = [.int .i64 t.kind, .int .i64 t.mat, .int .i64 t.part, vn, vk, .bool t.over, .int .i64 t.limit, vt] ∧ TxtsM Q w vn t.names ∧ TxtsM Q w vk t.keys ∧ RowM Q 8 (TstM Q n w) w vt t.tests
def CmdM (Q : Nat → Prop) : Nat → World → Cmd → List Value → Prop
  | 0, _, _, _ => False
  | n + 1, w, c, cs => ∃ vx vn vk vt va ve, cs = [.int .i64 c.kind, vx, .int .i64 c.test.kind, .int .i64 c.test.mat, .int .i64 c.test.part, vn, vk, .bool c.test.over, .int .i64 c.test.limit, vt, va, ve] ∧ TxtsM Q w vx c.texts ∧
      TstM Q n w c.test [.int .i64 c.test.kind, .int .i64 c.test.mat, .int .i64 c.test.part, vn, vk, .bool c.test.over, .int .i64 c.test.limit, vt] ∧ RowM Q 12 (CmdM Q n w) w va c.thn ∧ RowM Q 12 (CmdM Q n w) w ve c.els
abbrev TstsM (Q : Nat → Prop) (n : Nat) (w : World) (v : Value) (l : List Tst) : Prop := RowM Q 8 (TstM Q n w) w v l
abbrev CmdsM (Q : Nat → Prop) (n : Nat) (w : World) (v : Value) (l : List Cmd) : Prop := RowM Q 12 (CmdM Q n w) w v l
theorem RowM.imp {A : Type} {Q Q' : Nat → Prop} {k : Nat} {P P' : A → List Value → Prop} {w w' : World} {v : Value} {l : List A} (h : RowM Q k P w v l) (hq : ∀ b, Q b → Q' b) (hk : Keeps Q w w') (hp : ∀ x cs, P x cs → P' x cs) : RowM Q' k P' w' v l := by
  obtain ⟨a, c, hv, hm, hx⟩ := h; refine ⟨a, c, hv, hm, fun i x hi => ?_⟩; obtain ⟨b, o, cs, ha, hb, hQ, hl, hc, hP⟩ := hx i x hi; exact ⟨b, o, cs, ha, Nat.lt_of_lt_of_le hb hk.size, hq b hQ, hl, fun j u hj => (World.cell?_of_block (hk.block b hb hQ)).trans (hc j u hj), hp x cs hP⟩
theorem TxtsM.imp {Q Q' : Nat → Prop} {w w' : World} {v : Value} {l : List (List UInt8)} (h : TxtsM Q w v l) (hq : ∀ b, Q b → Q' b) (hk : Keeps Q w w') : TxtsM Q' w' v l := RowM.imp h hq hk fun _ _ h => h
theorem TstM.imp {Q Q' : Nat → Prop} {w w' : World} (hq : ∀ b, Q b → Q' b) (hk : Keeps Q w w') : ∀ (n : Nat) (t : Tst) (cs : List Value), TstM Q n w t cs → TstM Q' n w' t cs := by
  intro n
  induction n with
  | zero => intro t cs h; exact h
  | succ n ih =>
    intro t cs h; obtain ⟨vn, vk, vt, h0, h1, h2, h3⟩ := h; exact ⟨vn, vk, vt, h0, h1.imp hq hk, h2.imp hq hk, RowM.imp h3 hq hk ih⟩
theorem CmdM.imp {Q Q' : Nat → Prop} {w w' : World} (hq : ∀ b, Q b → Q' b) (hk : Keeps Q w w') : ∀ (n : Nat) (c : Cmd) (cs : List Value), CmdM Q n w c cs → CmdM Q' n w' c cs := by
  intro n
  induction n with
  | zero => intro t cs h; exact h
  | succ n ih =>
    intro t cs h; obtain ⟨vx, vn, vk, vt, va, ve, h0, h1, h2, h3, h4⟩ := h; exact ⟨vx, vn, vk, vt, va, ve, h0, h1.imp hq hk, TstM.imp hq hk _ _ _ h2, RowM.imp h3 hq hk ih, RowM.imp h4 hq hk ih⟩
theorem TstM.more {Q : Nat → Prop} {w : World} : ∀ (n m : Nat) (t : Tst) (cs : List Value), n ≤ m → TstM Q n w t cs → TstM Q m w t cs := by
  intro n
  induction n with
  | zero => intro m t cs _ h; exact h.elim
  | succ n ih =>
    intro m t cs hm h; obtain ⟨vn, vk, vt, h0, h1, h2, h3⟩ := h; cases m with
    | zero => omega
    | succ m => exact ⟨vn, vk, vt, h0, h1, h2, RowM.imp h3 (fun _ h => h) (Keeps.refl _ _) fun x cs h => ih m x cs (by omega) h⟩
theorem CmdM.more {Q : Nat → Prop} {w : World} : ∀ (n m : Nat) (t : Cmd) (cs : List Value), n ≤ m → CmdM Q n w t cs → CmdM Q m w t cs := by
  intro n
  induction n with
  | zero => intro m t cs _ h; exact h.elim
  | succ n ih =>
    intro m t cs hm h; obtain ⟨vx, vn, vk, vt, va, ve, h0, h1, h2, h3, h4⟩ := h; cases m with
    | zero => omega
    | succ m => exact ⟨vx, vn, vk, vt, va, ve, h0, h1, TstM.more _ _ _ _ (by omega) h2, RowM.imp h3 (fun _ h => h) (Keeps.refl _ _) (fun x cs h => ih m x cs (by omega) h), RowM.imp h4 (fun _ h => h) (Keeps.refl _ _) fun x cs h => ih m x cs (by omega) h⟩
abbrev anyB : Nat → Prop := fun _ => True
theorem TstM.next {Q : Nat → Prop} {n : Nat} {w w' : World} {t : Tst} {cs : List Value} (h : TstM Q n w t cs) (hb : Below w.heap.size w w') : TstM Q n w' t cs := TstM.imp (fun _ h => h) (Keeps.of_below hb) _ _ _ h
theorem CmdM.next {Q : Nat → Prop} {n : Nat} {w w' : World} {c : Cmd} {cs : List Value} (h : CmdM Q n w c cs) (hb : Below w.heap.size w w') : CmdM Q n w' c cs := CmdM.imp (fun _ h => h) (Keeps.of_below hb) _ _ _ h
theorem TstsM.next {Q : Nat → Prop} {n : Nat} {w w' : World} {v : Value} {l : List Tst} (h : TstsM Q n w v l) (hb : Below w.heap.size w w') : TstsM Q n w' v l := RowM.imp h (fun _ h => h) (Keeps.of_below hb) fun _ _ h => TstM.next h hb
theorem CmdsM.next {Q : Nat → Prop} {n : Nat} {w w' : World} {v : Value} {l : List Cmd} (h : CmdsM Q n w v l) (hb : Below w.heap.size w w') : CmdsM Q n w' v l := RowM.imp h (fun _ h => h) (Keeps.of_below hb) fun _ _ h => CmdM.next h hb
theorem TxtsM.next {Q : Nat → Prop} {w w' : World} {v : Value} {l : List (List UInt8)} (h : TxtsM Q w v l) (hb : Below w.heap.size w w') : TxtsM Q w' v l := h.imp (fun _ h => h) (Keeps.of_below hb)
theorem RowM.slice {A : Type} {Q : Nat → Prop} {k : Nat} {P : A → List Value → Prop} {w : World} {v : Value} {l : List A} (h : RowM Q k P w v l) : ∃ a c, v = .slice a l.length c := by
  obtain ⟨a, c, hv, _⟩ := h; exact ⟨a, c, hv⟩
theorem jj {A : Type} (Q : Nat → Prop) (k : Nat) (P : A → List Value → Prop) (w : World) (a : Option Addr) (c : Nat) : RowM Q k P w (.slice a 0 c) ([] : List A) := ⟨a, c, rfl, by simp, fun i x h => by simp at h⟩
theorem RowM.small {A : Type} {Q : Nat → Prop} {k : Nat} {P : A → List Value → Prop} {w : World} {v : Value} {l : List A} (h : RowM Q k P w v l) : l.length ≤ maxLen := by
  obtain ⟨_, _, _, hm, _⟩ := h; exact hm
end Go.Proofs.YtaapmpchcfcniaaGreatDoor
namespace Go.Proofs.YtaapmpchcfcniaaGreatDoor
open Go.RowKit
end Go.Proofs.YtaapmpchcfcniaaGreatDoor
