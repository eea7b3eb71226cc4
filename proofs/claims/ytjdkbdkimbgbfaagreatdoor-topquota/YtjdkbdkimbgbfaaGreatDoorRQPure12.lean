/-
  Plain facts on bytes and lists: small letters in place of great ones; no program is named here.
-/
import Derived.Deep.RegionHeld
import Derived.WalkKit
import Derived.Lib.SlTrimSet
import Derived.Lib.IndexMore
import Derived.Lib.IndexLaws
import Derived.Test.YtjdkbdkimbgbfaaGreatDoorRows
import Derived.OpenShut
import Derived.Lib.ItoaNum
import Derived.Below
import Derived.Laws.AppendOwn
import Derived.Lib.Strings
import Derived.Deep.Draws
import Derived.WalkSpells
import Derived.WalkLawsBesides
import Derived.Shelf.Abstract
import Derived.Laws.IdiomStrings
set_option maxHeartbeats 2000000
set_option maxRecDepth 100000
namespace Go.Proofs.YtjdkbdkimbgbfaaGreatDoor
open Go.RowKit
theorem af : type_of% @List.setIfInBounds_toArray := @List.setIfInBounds_toArray
theorem ag : type_of% @List.set_cons_succ := @List.set_cons_succ
theorem ah : type_of% @List.set_cons_zero := @List.set_cons_zero
theorem ai : type_of% @Nat.le_refl := @Nat.le_refl
theorem aj : type_of% @Array.getElem?_eq_some_iff := @Array.getElem?_eq_some_iff
theorem au : type_of% @List.getElem?_eq_some_iff := @List.getElem?_eq_some_iff
theorem aw : type_of% @List.getElem?_eq_getElem := @List.getElem?_eq_getElem
theorem ay : type_of% @Below.refl := @Below.refl
theorem az : type_of% @heap_alloc_new := @heap_alloc_new
theorem aA : type_of% @World.ownsRow.lt := @World.ownsRow.lt
theorem aB : type_of% @List.length_append := @List.length_append
theorem aC : type_of% @Below.heap_setCell := @Below.heap_setCell
theorem aD : type_of% @bodyPost_ret := @bodyPost_ret
theorem aE : type_of% @Value.slice.injEq := @Value.slice.injEq
theorem aF : type_of% @List.mem_of_getElem? := @List.mem_of_getElem?
theorem aG : type_of% @World.block_lt_of_cell? := @World.block_lt_of_cell?
theorem aH : type_of% @List.append_assoc := @List.append_assoc
theorem aI : type_of% @List.length_cons := @List.length_cons
theorem aJ : type_of% @List.length_nil := @List.length_nil
theorem aK : type_of% @Nat.lt_of_lt_of_le := @Nat.lt_of_lt_of_le
theorem aL : type_of% @World.cell?_setCell_other := @World.cell?_setCell_other
theorem aM : type_of% @heap_setCell_same := @heap_setCell_same
theorem aN : type_of% @Nat.le_trans := @Nat.le_trans
theorem aO : type_of% @World.ownsRow.alloc := @World.ownsRow.alloc
theorem aP : type_of% @World.cell?_of_block := @World.cell?_of_block
theorem aQ : type_of% @Nat.zero_le := @Nat.zero_le
theorem aR : type_of% @World.ownsRow_nil := @World.ownsRow_nil
theorem aS : type_of% @Option.some.injEq := @Option.some.injEq
theorem aT : type_of% @List.drop_eq_getElem_cons := @List.drop_eq_getElem_cons
theorem aU : type_of% @List.take_succ_eq_append_getElem := @List.take_succ_eq_append_getElem
theorem aV : type_of% @List.take_of_length_le := @List.take_of_length_le
theorem aW : type_of% @Lib.toList_data := @Lib.toList_data
theorem aX : type_of% @Bool.and_eq_true := @Bool.and_eq_true
theorem aY : type_of% @Array.getElem?_eq_getElem := @Array.getElem?_eq_getElem
theorem aZ : type_of% @List.drop_eq_nil_of_le := @List.drop_eq_nil_of_le
theorem ba : type_of% @List.getElem?_map := @List.getElem?_map
theorem bc : type_of% @Nat.zero_add := @Nat.zero_add
theorem bd : type_of% @List.getElem?_append_right := @List.getElem?_append_right
theorem bf : type_of% @List.getElem?_append_left := @List.getElem?_append_left
theorem bg : type_of% @Addr.add_lit := @Addr.add_lit
theorem bh : type_of% @List.length_eq_zero_iff := @List.length_eq_zero_iff
theorem bi : type_of% @Nat.le_of_lt := @Nat.le_of_lt
theorem bj : type_of% @List.getElem?_set_ne := @List.getElem?_set_ne
theorem bk : type_of% @Option.some.inj := @Option.some.inj
theorem bm : type_of% @Array.getElem?_push_lt := @Array.getElem?_push_lt
theorem bo : type_of% @List.mem_append := @List.mem_append
theorem bp : type_of% @List.length_take := @List.length_take
theorem bq : type_of% @World.frozen?_of_block := @World.frozen?_of_block
theorem br : type_of% @List.getElem?_set_self := @List.getElem?_set_self
theorem bu : type_of% @List.mem_filterMap := @List.mem_filterMap
theorem bv : type_of% @World.ownsRow.cellAt := @World.ownsRow.cellAt
theorem bw : type_of% @List.flatten_cons := @List.flatten_cons
theorem bz : type_of% @Nat.lt_or_ge := @Nat.lt_or_ge
theorem bA : type_of% @beq_eq_false_iff_ne := @beq_eq_false_iff_ne
theorem bB : type_of% @List.suffix_cons := @List.suffix_cons
theorem bC : type_of% @Nat.add_zero := @Nat.add_zero
theorem bD : type_of% @World.ownsRow.cells := @World.ownsRow.cells
theorem bE : type_of% @List.mem_map := @List.mem_map
theorem bF : type_of% @List.takeWhile_append_dropWhile := @List.takeWhile_append_dropWhile
theorem bG : type_of% @wpAnyH_take := @wpAnyH_take
theorem bH : type_of% @wpAnyH_ready := @wpAnyH_ready
theorem bI : type_of% @List.length_map := @List.length_map
theorem bJ : type_of% @Nat.le_of_eq := @Nat.le_of_eq
theorem bK : type_of% @List.map_append := @List.map_append
theorem bL : type_of% @List.cons_append := @List.cons_append
theorem bM : type_of% @List.nil_append := @List.nil_append
theorem bO : type_of% @List.append_nil := @List.append_nil
theorem bQ : type_of% @List.getElem?_cons_zero := @List.getElem?_cons_zero
theorem bR : type_of% @List.getElem?_cons_succ := @List.getElem?_cons_succ
theorem bS : type_of% @World.cell?_setCell_same' := @World.cell?_setCell_same'
theorem bU : type_of% @List.getD_eq_getElem?_getD := @List.getD_eq_getElem?_getD
theorem bV : type_of% @List.mem_cons := @List.mem_cons
theorem bW : type_of% @List.not_mem_nil := @List.not_mem_nil
variable {cs : Array Value} {l : List (List UInt8)} {a b n r s u : List UInt8} {xs : List Value} {B base d g i j k size : Nat} {Q : Nat -> Prop} {A : Type} {e t : TypeId} {c : UInt8} {p : UInt8 -> Bool} {v : Value} {w w' : World}
theorem nb0 (w : World) (o : Obj) : Below w.heap.size w (w.alloc o) := (ay _ _).alloc (ai _) _
def low1 (c : UInt8) : UInt8 := if 65 <= (c.toNat : Int) /\ (c.toNat : Int) <= 90 then UInt8.ofNat (c.toNat + 32) else c
def lowL (l : List UInt8) : List UInt8 := l.map low1
def low (s : ByteArray) : ByteArray := ⟨(lowL s.data.toList).toArray⟩
theorem jnr (h : 65 <= (c.toNat : Int) /\ (c.toNat : Int) <= 90) : ((low1 c).toNat : Int) = c.toNat + 32 := by
 unfold low1; rw [if_pos h]; have : c.toNat + 32 < 256 := by omega
 simp [UInt8.toNat_ofNat, Nat.mod_eq_of_lt this]
theorem jpM (h : ¬ (65 <= (c.toNat : Int) /\ (c.toNat : Int) <= 90)) : low1 c = c := by
 unfold low1; rw [if_neg h]
theorem size_list (s : ByteArray) : s.data.toList.length = s.size := by rw [Array.length_toList]; rfl
theorem jhO (s : ByteArray) : (low s).data.toList = lowL s.data.toList := by simp [low]
theorem jfX (s : ByteArray) (k : Nat) (h : k < s.size) : s.data.toList.take (k + 1) = s.data.toList.take k ++ [s[k]] := by
 rw [aU (by simpa using h)]; rfl
theorem jcl (s : ByteArray) (k : Nat) (h : k < s.size) : s.data.toList[k]? = some s[k] := by
 rw [aw (by simpa using h)]; rfl
theorem jd {k : IntKind} {a b : Int} (h : a = b) : Ending.returned (.int k a) = .returned (.int k b) := by rw [h]
theorem jc {a b : Bool} (h : a = b) : Ending.returned (.bool a) = .returned (.bool b) := by rw [h]
theorem jgB {n : Nat} (hg : w.heap[g]? = some (.cells cs t (n, n + 1))) (hj : j < n) : w.frozen? ⟨g, j, none⟩ = false := by
 simp [World.frozen?, hg]; omega
theorem jk {fr : Nat × Nat} (v : Value) (hg : w.heap[g]? = some (.cells cs t fr)) :
 (w.setCell ⟨g, i, none⟩ v).heap[g]? = some (.cells (cs.setIfInBounds i v) t fr) := by
 rw [setCell_eq_setRow w g i cs t fr v hg]; exact setRow_heap w g cs _ t _ hg
def S (l : List UInt8) : ByteArray := ⟨l.toArray⟩
theorem jhq (s : ByteArray) : S s.data.toList = s := by cases s; simp [S]
theorem ji (l : List UInt8) : (S l).data.toList = l := by simp [S]
theorem jb (l : List UInt8) : (S l).size = l.length := by simp [S, ByteArray.size]
theorem jo0 (h : S a = S b) : a = b := by
 have := congrArg (fun s => s.data.toList) h
 simpa [ji] using this
def zo (c : UInt8) : Bool := c == 32 || c == 9
def jam (c : UInt8) : Bool := decide (33 <= c.toNat) && decide (c.toNat <= 126) && c != 58
def jal (l : List UInt8) : Bool := !l.isEmpty && l.all jam
def jeK (l : List UInt8) : List UInt8 := Lib.trimS l [32, 9]
def jY (l : List UInt8) : Bool := Lib.contains l [13, 10]
def jf3 (l : List UInt8) : Bool := !jY l && jeK l == l
abbrev F := List UInt8 × List UInt8
def mayF (f : F) : Bool := jal f.1 && jf3 f.2
def jhc (f : F) : Nat := f.1.length + f.2.length + 4
def sumF (fs : List F) : Nat := (fs.map jhc).sum
def jhi (f : F) : List UInt8 := f.1 ++ [58, 32] ++ f.2 ++ [13, 10]
def jdF (fs : List F) : List UInt8 := (fs.map jhi).flatten
def jjG (fs : List F) (body : List UInt8) : List UInt8 := jdF fs ++ [13, 10] ++ body
theorem jfs (f : F) : (jhi f).length = jhc f := by simp [jhi, jhc]; omega
theorem jef (fs : List F) : (jdF fs).length = sumF fs := by
 induction fs with
 | nil => rfl
 | cons f fs ih => simp [jdF, sumF] at ih ⊢; rw [jfs, ih]
theorem jft (fs : List F) (body : List UInt8) : (jjG fs body).length = 2 + body.length + sumF fs := by
 simp [jjG, jef]; omega
theorem jax {α : Type} {l : List α} {x : α} (h : l[k]? = some x) : l.take (k + 1) = l.take k ++ [x] := by
 obtain ⟨hk, rfl⟩ := au.1 h; exact aU hk
def ja0 (s : List UInt8) (j : Nat) : Prop := s[j]? = some 13 /\ s[j + 1]? = some 10
theorem jep (s : List UInt8) (j : Nat) : Lib.occAt s [13, 10] j = true ↔ ja0 s j := by
 unfold Lib.occAt ja0; rw [<- List.head?_drop]; have e : s[j + 1]? = (s.drop j).tail.head? := by rw [<- List.drop_one, List.drop_drop, List.head?_drop]
 rw [e]; cases h : s.drop j with
 | nil => simp
 | cons a t =>
   cases t with
   | nil => simp [List.isPrefixOf]
   | cons b t => simp [List.isPrefixOf]; constructor <;> rintro ⟨rfl, rfl⟩ <;> simp
theorem joM (h : ¬ ja0 s j) : Lib.occAt s [13, 10] j = false := by
 cases e : Lib.occAt s [13, 10] j with
 | false => rfl
 | true => exact absurd ((jep s j).1 e) h
theorem vg {l : List UInt8} : jY l = false ↔ ∀ j, ¬ ja0 l j := by
 constructor
 . intro h j hj; have hl : j <= l.length := by
    have := hj.1
    rcases bz j l.length with h' | h'
    . omega
    . rw [List.getElem?_eq_none h'] at this; cases this
   have := Lib.index_ge l [13, 10]; have hne : Lib.index l [13, 10] = -1 := by
    simp [jY, Lib.contains] at h; omega
   have hall : ∀ k, k <= j -> ∀ i, i < k -> Lib.occAt l [13, 10] i = false := by
    intro k
    induction k with
    | zero => intro _ i hi; omega
    | succ k ih =>
      intro hk i hi
      rcases bz i k with h' | h'
      . exact ih (by omega) i h'
      . obtain rfl : i = k := by omega
        cases e : Lib.occAt l [13, 10] i with
        | false => rfl
        | true =>
          have := Lib.index_first (s := l) (sub := [13, 10]) (i := i) (by omega) e (ih (by omega)); omega
   have := Lib.index_first (s := l) (sub := [13, 10]) (i := j) hl ((jep l j).2 hj) (hall j (ai _)); omega
 . intro h; have : Lib.index l [13, 10] = -1 := Lib.index_none fun j _ => joM (h j)
   simp [jY, Lib.contains, this]
theorem jiU (h : jY a = false) : Lib.index (a ++ [13, 10] ++ b) [13, 10] = a.length := by
 refine Lib.index_first (by simp) ((jep _ _).2 ⟨by simp, by simp⟩) fun j hj => joM fun hl => ?_
 rcases bz (j + 1) a.length with h' | h'
 . refine (vg.1 h) j ⟨?_, ?_⟩
   . have := hl.1; rw [aH, bf hj] at this; exact this
   . have := hl.2; rw [aH, bf h'] at this; exact this
 . have e : j + 1 = a.length := by omega
   have := hl.2; rw [e] at this
   simp at this
theorem jck (h : jY a = false) : Lib.cut (a ++ [13, 10] ++ b) [13, 10] = (a, b, true) := by
 unfold Lib.cut; rw [jiU h]
 simp
theorem jhE (h : jY s = false) : Lib.cut s [13, 10] = (s, [], false) := by
 unfold Lib.cut; have : ¬ (0 <= Lib.index s [13, 10]) := by simpa [jY, Lib.contains] using h
 rw [if_neg this]
theorem jmU (h : jY s = true) : ∃ a b, s = a ++ [13, 10] ++ b /\ jY a = false := by
 have h0 : 0 <= Lib.index s [13, 10] := by simpa [jY, Lib.contains] using h
 have : ¬ ∀ j, ¬ ja0 s j := fun hn => by rw [vg.2 hn] at h; cases h
 have hex : ∃ j, ja0 s j := Classical.byContradiction fun hn => this fun j hj => hn ⟨j, hj⟩
 have key : ∀ n, ∀ s : List UInt8, s.length <= n -> (∃ j, ja0 s j) -> ∃ a b, s = a ++ [13, 10] ++ b /\ jY a = false := by
  intro n
  induction n with
  | zero => intro s hs ⟨j, hj⟩; have := hj.1; cases s <;> simp at hs this
  | succ n ih =>
    intro s hs ⟨j, hj⟩; cases s with
    | nil => have := hj.1; simp at this
    | cons c t =>
      by_cases h0 : ja0 (c :: t) 0
      . obtain ⟨h1, h2⟩ := h0; cases t with
        | nil => simp at h2
        | cons d t => simp at h1 h2; subst h1 h2; exact ⟨[], t, rfl, by decide⟩
      . have uX : j ≠ 0 := fun e => h0 (e ▸ hj)
        obtain ⟨k, rfl⟩ := Nat.exists_eq_succ_of_ne_zero uX; obtain ⟨a, b, e, ha⟩ := ih t (by simp at hs; omega) ⟨k, by simpa [ja0] using hj⟩; refine ⟨c :: a, b, by rw [e]; simp, vg.2 fun i hi => ?_⟩; cases i with
        | zero =>
          refine h0 ?_; obtain ⟨h1, h2⟩ := hi; refine ⟨by simpa using h1, ?_⟩; cases a with
          | nil => simp at h2
          | cons d a => rw [e]; simpa using h2
        | succ i => exact vg.1 ha i (by simpa [ja0] using hi)
 exact key s.length s (ai _) hex
theorem index_one (l : List UInt8) (c : UInt8) : Lib.index l [c] = Lib.indexByte l c := by
 induction l with
 | nil => rfl
 | cons b l ih =>
   unfold Lib.index Lib.indexByte; rw [ih]
   by_cases h : b = c
   . subst h; simp
   . have : (c == b) = false := by simp; exact fun e => h e.symm
     simp [List.isPrefixOf, h, this]
theorem jed (h : c ∉ a) : Lib.indexByte (a ++ c :: b) c = a.length := by
 induction a with
 | nil => simp [Lib.indexByte]
 | cons x a ih =>
   have hx : (x == c) = false := by simp; rintro rfl; exact h (by simp)
   have := ih (fun hm => h (by simp [hm])); have e : ((a.length : Int) == -1) = false := by simp
   simp [Lib.indexByte, hx, this, e]
theorem jdb (h : c ∉ a) : Lib.indexByte a c = -1 := by
 induction a with
 | nil => rfl
 | cons x a ih =>
   have hx : (x == c) = false := by simp; rintro rfl; exact h (by simp)
   simp [Lib.indexByte, hx, ih (fun hm => h (by simp [hm]))]
theorem je7 (h : c ∉ a) : Lib.cut (a ++ c :: b) [c] = (a, b, true) := by
 unfold Lib.cut; rw [index_one, jed h]
 simp
theorem jgw (h : c ∉ a) : Lib.cut a [c] = (a, [], false) := by
 unfold Lib.cut; rw [index_one, jdb h]
 simp
theorem jhe (h : c ∈ s) : ∃ a b, s = a ++ c :: b /\ c ∉ a := by
 induction s with
 | nil => cases h
 | cons x s ih =>
   by_cases e : x = c
   . exact ⟨[], s, by simp [e], by simp⟩
   . obtain ⟨a, b, rfl, hn⟩ := ih (by rcases bV.1 h with h | h; exact absurd h.symm e; exact h); exact ⟨x :: a, b, rfl, by simp; exact ⟨fun h => e h.symm, hn⟩⟩
theorem jc6 (c : UInt8) : ([32, 9] : List UInt8).contains c = zo c := by
 cases h1 : (c == 32) <;> cases h2 : (c == 9) <;> simp [zo, List.contains, List.elem, h1, h2]
theorem jok (l : List UInt8) : jeK l = ((l.reverse.dropWhile zo).reverse).dropWhile zo := by
 unfold jeK Lib.trimS Lib.trimLeftS Lib.trimRightS; have : (fun x => ([32, 9] : List UInt8).contains x) = zo := by funext c; exact jc6 c
 simp only [this]
def jfi (raw : List F) (line : List UInt8) : Bool := !raw.isEmpty && (line.head?.map zo).getD false
def jhm (f : F) : F := (f.1, jeK f.2)
theorem jqw (h : jY s = true) : (Lib.cut s [13, 10]).2.1.length < s.length := by
 obtain ⟨a, b, rfl, ha⟩ := jmU h; rw [jck ha]
 simp; omega
theorem jbR (ha : (13 : UInt8) ∉ a) (hb : jY b = false) : jY (a ++ b) = false := by
 refine vg.2 fun j hl => ?_
 rcases bz j a.length with h | h
 . have := hl.1; rw [bf h] at this; exact ha (aF this)
 . refine vg.1 hb (j - a.length) ⟨by have := hl.1; rwa [bd h] at this, ?_⟩; have := hl.2; rw [bd (by omega)] at this; have e : j + 1 - a.length = j - a.length + 1 := by omega
   rwa [e] at this
theorem jdz : jY [] = false := by decide
theorem qO (ha : (13 : UInt8) ∉ a) : jY a = false := by
 have := jbR ha jdz; simpa using this
theorem jny (h : jam c = true) : 33 <= c.toNat /\ c.toNat <= 126 /\ c ≠ 58 := by
 simp [jam] at h; exact ⟨h.1.1, h.1.2, h.2⟩
theorem jhT (h : jal n = true) (hc : c ∈ n) : jam c = true := by
 simp [jal] at h; exact h.2 c hc
theorem jhU (h : jal n = true) (hc : jam c = false) : c ∉ n := fun hm => by
 rw [jhT h hm] at hc; cases hc
theorem jld (h : jal n = true) (t : List UInt8) : (((n ++ t).head?).map zo).getD false = false := by
 cases n with
 | nil => simp [jal] at h
 | cons c n =>
   have := jny (jhT h (c := c) (by simp)); simp only [bL, List.head?_cons, Option.map_some, Option.getD_some, zo, Bool.or_eq_false_iff, bA]; exact ⟨by rintro rfl; exact absurd this.1 (by decide), by rintro rfl; exact absurd this.1 (by decide)⟩
def rawB (f : F) : Bool := jal f.1 && !jY f.2
def vq (f : F) : List UInt8 := f.1 ++ 58 :: f.2
def jaj (fs : List F) : List UInt8 := (fs.map fun f => vq f ++ [13, 10]).flatten
theorem jkX {f : F} (h : rawB f = true) : jY (vq f) = false := by
 simp [rawB] at h
 have e : vq f = (f.1 ++ [58]) ++ f.2 := by simp [vq]
 rw [e]; refine jbR ?_ h.2; have := jhU h.1 (c := 13) (by decide)
 simp [this]
theorem vG (h : ∀ x ∈ a, p x = true) : (a ++ b).dropWhile p = b.dropWhile p := by
 induction a with
 | nil => rfl
 | cons x a ih => simp [h x (by simp)]; exact ih fun y hy => h y (by simp [hy])
theorem jaY (h : ∀ x, a.head? = some x -> p x = false) : a.dropWhile p = a := by
 cases a with
 | nil => rfl
 | cons x a => simp [h x rfl]
theorem jmi {m : List UInt8} (ha : ∀ x ∈ a, zo x = true) (hb : ∀ x ∈ b, zo x = true) (hh : ∀ x, m.head? = some x -> zo x = false) (hl : ∀ x, m.getLast? = some x -> zo x = false) :
 jeK (a ++ m ++ b) = m := by
 rw [jok]; have e : (a ++ m ++ b).reverse = b.reverse ++ (m.reverse ++ a.reverse) := by simp
 rw [e, vG (by simpa using hb)]; cases hm : m with
 | nil =>
   have : (a.reverse).dropWhile zo = [] := by
    have := vG (p := zo) (a := a.reverse) (b := []) (by simpa using ha)
    simpa using this
   simp [this]
 | cons x t =>
   rw [<- hm]; have h1 : (m.reverse ++ a.reverse).dropWhile zo = m.reverse ++ a.reverse := jaY fun y hy => by
    have : (m.reverse).head? = some y := by
       cases hr : m.reverse with
       | nil => simp [hm] at hr
       | cons z u => rw [hr] at hy; simpa using hy
    exact hl y (by rw [List.head?_reverse] at this; exact this)
   rw [h1]; simp only [List.reverse_append, List.reverse_reverse]; rw [vG ha]; exact jaY hh
def inF (f : F) : F := (f.1, 32 :: f.2)
theorem jpS {f : F} (h : mayF f = true) : rawB (inF f) = true := by
 simp [mayF, jf3] at h
 simp only [rawB, inF, aX, Bool.not_eq_true']; refine ⟨h.1, ?_⟩; have := jbR (a := [32]) (b := f.2) (by decide) (by simpa using h.2.1)
 simpa using this
theorem jnn (fs : List F) : jdF fs = jaj (fs.map inF) := by
 induction fs with
 | nil => rfl
 | cons f fs ih =>
   simp only [jdF, jaj, List.map_cons, bw] at ih ⊢; rw [ih]
   simp [jhi, vq, inF]
open Go.Proofs
def nmA : List UInt8 := [97, 110, 110]
def nmB : List UInt8 := [98, 111, 98]
def nmC : List UInt8 := [99, 97, 116]
def scrB : List UInt8 := [114, 101, 113, 117, 105, 114, 101, 32, 91, 34, 102, 105, 108, 101, 105, 110, 116, 111, 34, 44, 32, 34, 105, 109, 97, 112, 52, 102, 108, 97, 103, 115, 34, 93, 59, 32, 105, 102, 32, 104, 101, 97, 100, 101, 114, 32, 58, 99, 111, 110, 116, 97, 105, 110, 115, 32, 34, 115, 117, 98, 106, 101, 99, 116, 34, 32, 34, 119, 111, 114, 107, 34, 32, 123, 32, 115, 101, 116, 102, 108, 97, 103, 32, 34, 92, 92, 83, 101, 101, 110, 34, 59, 32, 102, 105, 108, 101, 105, 110, 116, 111, 32, 34, 119, 111, 114, 107, 34, 59, 32, 125, 32, 101, 108, 115, 105, 102, 32, 115, 105, 122, 101, 32, 58, 111, 118, 101, 114, 32, 51, 48, 48, 32, 123, 32, 100, 105, 115, 99, 97, 114, 100, 59, 32, 125]
def scrC : List UInt8 := [114, 101, 113, 117, 105, 114, 101, 32, 91, 34, 114, 101, 106, 101, 99, 116, 34, 44, 32, 34, 101, 110, 118, 101, 108, 111, 112, 101, 34, 93, 59, 32, 105, 102, 32, 101, 110, 118, 101, 108, 111, 112, 101, 32, 58, 108, 111, 99, 97, 108, 112, 97, 114, 116, 32, 34, 102, 114, 111, 109, 34, 32, 34, 115, 112, 97, 109, 34, 32, 123, 32, 114, 101, 106, 101, 99, 116, 32, 34, 110, 111, 34, 59, 32, 125, 32, 101, 108, 115, 105, 102, 32, 101, 120, 105, 115, 116, 115, 32, 34, 108, 105, 115, 116, 34, 32, 123, 32, 114, 101, 100, 105, 114, 101, 99, 116, 32, 34, 97, 110, 110, 64, 120, 46, 121, 34, 59, 32, 107, 101, 101, 112, 59, 32, 125]
def jic (a1 a2 b1 b2 c1 c2 : List UInt8) : Obj := .cells #[.string (S a1), .string (S a2), .string (S b1), .string (S b2), .string (S c1), .string (S c2)] 65
theorem jmn (w : World) :
 Calls Tryz.prog 10 #[] w fun e w' => e = .returned (.slice (some ⟨w.heap.size, 0, none⟩) 3 3) /\ w' = w.alloc (jic nmA [] nmB scrB nmC scrC) := by
 go_enter Tryz.func10, Tryz.ntmps10; go_wp2; go_ret; exact ⟨rfl, rfl⟩
structure Tok where
 kind : Int
 text : List UInt8
 num : Int
abbrev Cutting := Except Int (Tok × List UInt8)
structure Tst where
 kind : Int
 mat : Int
 part : Int
 names : List (List UInt8)
 keys : List (List UInt8)
 over : Bool
 limit : Int
 tests : List Tst
structure Cmd where
 kind : Int
 texts : List (List UInt8)
 test : Tst
 thn : List Cmd
 els : List Cmd
def jZ : Tst := ⟨0, 0, 0, [], [], false, 0, []⟩
def wTabs : List (List (List UInt8)) := [
 [[], [114, 101, 113, 117, 105, 114, 101], [105, 102], [107, 101, 101, 112], [100, 105, 115, 99, 97, 114, 100], [102, 105, 108, 101, 105, 110, 116, 111], [114, 101, 100, 105, 114, 101, 99, 116], [114, 101, 106, 101, 99, 116], [115, 101, 116, 102, 108, 97, 103], [97, 100, 100, 102, 108, 97, 103], [115, 116, 111, 112]],
 [[], [116, 114, 117, 101], [102, 97, 108, 115, 101], [110, 111, 116], [97, 108, 108, 111, 102], [97, 110, 121, 111, 102], [104, 101, 97, 100, 101, 114], [97, 100, 100, 114, 101, 115, 115], [101, 110, 118, 101, 108, 111, 112, 101], [101, 120, 105, 115, 116, 115], [115, 105, 122, 101]],
 [[], [105, 115], [99, 111, 110, 116, 97, 105, 110, 115], [109, 97, 116, 99, 104, 101, 115], [], [], [], [], [], [], []],
 [[], [97, 108, 108], [108, 111, 99, 97, 108, 112, 97, 114, 116], [100, 111, 109, 97, 105, 110], [], [], [], [], [], [], []]]
def jN (k n : Nat) : List UInt8 := (wTabs.getD k []).getD n []
def jgT : List (List UInt8) -> Nat -> List UInt8 -> Nat
 | [], _, _ => 0
 | x :: r, n, s => if x = s then n else jgT r (n + 1) s
def jQ (k : Nat) (n : Int) : Bool := decide (0 <= n) && decide (n < 11) && !(jN k n.toNat).isEmpty
theorem jkP (n : Int) : jQ 0 n = (decide (1 <= n) && decide (n <= 10)) := by
 unfold jQ
 by_cases h0 : 0 <= n
 . by_cases h1 : n < 11
   . obtain ⟨k, rfl⟩ := Int.eq_ofNat_of_zero_le h0; have hk : k < 11 := by omega
     match k, hk with
     | 0, _ | 1, _ | 2, _ | 3, _ | 4, _ | 5, _ | 6, _ | 7, _ | 8, _ | 9, _ | 10, _ => rfl
   . simp [h1]; omega
 . simp [h0]; omega
theorem jkQ (n : Int) : jQ 1 n = (decide (1 <= n) && decide (n <= 10)) := by
 unfold jQ
 by_cases h0 : 0 <= n
 . by_cases h1 : n < 11
   . obtain ⟨k, rfl⟩ := Int.eq_ofNat_of_zero_le h0; have hk : k < 11 := by omega
     match k, hk with
     | 0, _ | 1, _ | 2, _ | 3, _ | 4, _ | 5, _ | 6, _ | 7, _ | 8, _ | 9, _ | 10, _ => rfl
   . simp [h1]; omega
 . simp [h0]; omega
theorem jfo (n : Int) : jQ 2 n = (decide (1 <= n) && decide (n <= 3)) := by
 unfold jQ
 by_cases h0 : 0 <= n
 . by_cases h1 : n < 11
   . obtain ⟨k, rfl⟩ := Int.eq_ofNat_of_zero_le h0; have hk : k < 11 := by omega
     match k, hk with
     | 0, _ | 1, _ | 2, _ | 3, _ | 4, _ | 5, _ | 6, _ | 7, _ | 8, _ | 9, _ | 10, _ => rfl
   . simp [h1]; omega
 . simp [h0]; omega
theorem jiW (n : Int) : jQ 3 n = (decide (1 <= n) && decide (n <= 3)) := by
 unfold jQ
 by_cases h0 : 0 <= n
 . by_cases h1 : n < 11
   . obtain ⟨k, rfl⟩ := Int.eq_ofNat_of_zero_le h0; have hk : k < 11 := by omega
     match k, hk with
     | 0, _ | 1, _ | 2, _ | 3, _ | 4, _ | 5, _ | 6, _ | 7, _ | 8, _ | 9, _ | 10, _ => rfl
   . simp [h1]; omega
 . simp [h0]; omega
def jem (t : Tst) : Bool := decide (t.kind = 0) && decide (t.mat = 0) && decide (t.part = 0) && decide (t.names.length = 0) && decide (t.keys.length = 0) && !t.over && decide (t.limit = 0) && decide (t.tests.length = 0)
def cmpB (t : Tst) : Bool := jQ 2 t.mat && decide (0 < t.names.length) && decide (0 < t.keys.length)
def jc8 (t : Tst) : Bool :=
 if t.kind = 3 then decide (t.tests.length = 1) && jem { t with kind := 0, tests := [] }
 else if t.kind = 4 ∨ t.kind = 5 then decide (0 < t.tests.length) && jem { t with kind := 0, tests := [] }
 else if t.kind = 6 then cmpB t && jem { t with kind := 0, mat := 0, names := [], keys := [] }
 else if t.kind = 7 ∨ t.kind = 8 then cmpB t && jQ 3 t.part && jem { t with kind := 0, mat := 0, part := 0, names := [], keys := [] }
 else if t.kind = 9 then decide (0 < t.names.length) && jem { t with kind := 0, names := [] }
 else if t.kind = 10 then decide (0 <= t.limit /\ t.limit <= 2147483647) && jem { t with kind := 0, over := false, limit := 0 }
 else jem { t with kind := 0 }
def oneP (k : Bool) (d : Nat) (f : Bool) : Int := if k = false then 2 else if 6 < d then 1 else if f = false then 3 else 0
def jj {A : Type} (f : A -> Int) : List A -> Int
 | [] => 0
 | x :: r => if f x = 0 then jj f r else f x
def jt : Nat -> Nat -> Tst -> Int
 | 0, _, _ => 0
 | n + 1, d, t => if oneP (jQ 1 t.kind) d (jc8 t) = 0 then jj (jt n (d + 1)) t.tests else oneP (jQ 1 t.kind) d (jc8 t)
def jad (c : Cmd) : Bool :=
 if c.kind ≠ 2 /\ (0 < c.thn.length ∨ 0 < c.els.length ∨ jem c.test = false) then false
 else if c.kind = 1 ∨ c.kind = 8 ∨ c.kind = 9 then decide (0 < c.texts.length)
 else if c.kind = 5 ∨ c.kind = 6 ∨ c.kind = 7 then decide (c.texts.length = 1)
 else decide (c.texts.length = 0)
def zt : List Cmd -> Option Cmd
 | [c] => if c.kind = 2 then some c else none
 | _ => none
def jp : Nat -> Nat -> Cmd -> Int
 | 0, _, _ => 0
 | n + 1, d, c =>
   if oneP (jQ 0 c.kind) d (jad c) ≠ 0 then oneP (jQ 0 c.kind) d (jad c)
   else if c.kind ≠ 2 then 0
   else if jt n 1 c.test ≠ 0 then jt n 1 c.test
   else if jj (jp n (d + 1)) c.thn ≠ 0 then jj (jp n (d + 1)) c.thn
   else match zt c.els with
     | some x => jp n d x
     | none => jj (jp n (d + 1)) c.els
theorem vI (n d : Nat) (c : Cmd) : jp (n + 1) d c =
 if oneP (jQ 0 c.kind) d (jad c) ≠ 0 then oneP (jQ 0 c.kind) d (jad c)
 else if c.kind ≠ 2 then 0
 else if jt n 1 c.test ≠ 0 then jt n 1 c.test
 else if jj (jp n (d + 1)) c.thn ≠ 0 then jj (jp n (d + 1)) c.thn
 else match zt c.els with
  | some x => jp n d x
  | none => jj (jp n (d + 1)) c.els := rfl
theorem vH {l : List Cmd} {x : Cmd} (h : zt l = some x) : l = [x] /\ x.kind = 2 := by
 match l with
 | [] => cases h
 | [c] =>
   by_cases hk : c.kind = 2
   . simp only [zt, if_pos hk, aS] at h; subst h; exact ⟨rfl, hk⟩
   . simp only [zt, if_neg hk] at h; cases h
 | a :: b :: r => cases h
def jS (n d : Nat) (l : List Cmd) : Int := jj (jp n d) l
def vP (s : List UInt8) : Tok := ⟨1, s, 0⟩
def tagT (s : List UInt8) : Tok := ⟨2, s, 0⟩
def strT (s : List UInt8) : Tok := ⟨4, s, 0⟩
def jT (c : UInt8) : Tok := ⟨5, [c], 0⟩
def sepT (f : A -> List Tok) : List A -> List Tok
 | [] => []
 | x :: r => f x ++ r.flatMap fun y => jT 44 :: f y
def jcg : List (List UInt8) -> List Tok
 | [x] => [strT x]
 | l => jT 91 :: (sepT (fun x => [strT x]) l ++ [jT 93])
def jab : List UInt8 := [101, 108, 115, 105, 102]
def jc7 : List UInt8 := [101, 108, 115, 101]
def jjf : List UInt8 := [111, 118, 101, 114]
def jdP : List UInt8 := [117, 110, 100, 101, 114]
def jay : Nat -> Tst -> List Tok
 | 0, _ => []
 | n + 1, t =>
   vP (jN 1 t.kind.toNat) ::
     (if t.kind = 3 then (t.tests.head?.map (jay n)).getD []
      else if t.kind = 4 ∨ t.kind = 5 then jT 40 :: (sepT (jay n) t.tests ++ [jT 41])
      else if t.kind = 6 then tagT (jN 2 t.mat.toNat) :: (jcg t.names ++ jcg t.keys)
      else if t.kind = 7 ∨ t.kind = 8 then tagT (jN 3 t.part.toNat) :: tagT (jN 2 t.mat.toNat) :: (jcg t.names ++ jcg t.keys)
      else if t.kind = 9 then jcg t.names
      else if t.kind = 10 then [tagT (if t.over then jjf else jdP), ⟨3, [], t.limit⟩]
      else [])
def jaU : Nat -> Cmd -> List Tok
 | 0, _ => []
 | n + 1, c =>
   if c.kind = 2 then
     jay n c.test ++ (jT 123 :: (c.thn.flatMap fun x => vP (jN 0 x.kind.toNat) :: jaU n x) ++ [jT 125]) ++
       (match zt c.els with
        | some x => vP jab :: jaU n x
        | none => if c.els.length = 0 then [] else vP jc7 :: jT 123 :: (c.els.flatMap fun x => vP (jN 0 x.kind.toNat) :: jaU n x) ++ [jT 125])
   else (if c.texts.length = 0 then [] else jcg c.texts) ++ [jT 59]
def cmdT (n : Nat) (c : Cmd) : List Tok := vP (jN 0 c.kind.toNat) :: jaU n c
def zp (n : Nat) (l : List Cmd) : List Tok := l.flatMap (cmdT n)
def qh (n : Nat) (l : List Cmd) : Int := if jS n 0 l ≠ 0 then jS n 0 l else if 400 < (zp n l).length then 5 else 0
structure But (b : Nat) (w w' : World) : Prop where
 os : w'.os = w.os
 tape : w'.tape = w.tape
 output : w'.output = w.output
 size : w.heap.size <= w'.heap.size
 block : ∀ k, k < w.heap.size -> k ≠ b -> w'.heap[k]? = w.heap[k]?
theorem But.refl (b : Nat) (w : World) : But b w w := ⟨rfl, rfl, rfl, ai _, fun _ _ _ => rfl⟩
theorem But.trans {b : Nat} {x y z : World} (h : But b x y) (k : But b y z) : But b x z :=
 ⟨k.os.trans h.os, k.tape.trans h.tape, k.output.trans h.output, aN h.size k.size, fun i hi hn => (k.block i (aK hi h.size) hn).trans (h.block i hi hn)⟩
theorem But.of {b : Nat} (h : Below w.heap.size w w') : But b w w' := ⟨h.os, h.tape, h.output, h.size, fun k hk _ => h.block k hk⟩
theorem But.set {b : Nat} (w : World) (v : Value) : But b w (w.setCell ⟨b, 0, none⟩ v) :=
 ⟨rfl, rfl, rfl, by simp [World.setCell], fun k _ hn => aC _ _ _ _ hn⟩
theorem But.below {b : Nat} (h : But b w w') (hB : B <= b) (hw : B <= w.heap.size) : Below B w w' :=
 ⟨h.os, h.tape, h.output, h.size, fun k hk => h.block k (by omega) (by omega)⟩
theorem But.cell {b : Nat} {w w' : World} (h : But b w w') {p : Addr} {v : Value} (hp : w.cell? p = some v) (hn : p.block ≠ b) : w'.cell? p = some v :=
 (aP (w := w) (h.block p.block (aG w _ hp) hn)).trans hp
theorem But.frozen {b : Nat} {w w' : World} (h : But b w w') {p : Addr} (hl : p.block < w.heap.size) (hp : w.frozen? p = false) (hn : p.block ≠ b) : w'.frozen? p = false :=
 (bq (w := w) (h.block p.block hl hn)).trans hp
theorem vM {r : Nat} {n : Nat} (h : w.ownsRow base e size v n xs) (hb : But r w w') (hr : r < base) : w'.ownsRow base e size v n xs := by
 refine ⟨h.1, ?_⟩
 rcases h.2 with h' | ⟨g, cap, cur, h1, h2, hg, q⟩
 . exact .inl h'
 . refine .inr ⟨g, cap, cur, h1, h2, ?_, q⟩; rw [hb.block g (by
    rcases bz g w.heap.size with h' | h'
    . exact h'
    . rw [Array.getElem?_eq_none h'] at hg; cases hg) (by omega)]
   exact hg
def Box (w : World) (b : Nat) (v : Value) (t : TypeId) : Prop := w.heap[b]? = some (.cells #[v] t)
theorem Box.cell {w : World} {b : Nat} {v : Value} {t : TypeId} (h : Box w b v t) : w.cell? ⟨b, 0, none⟩ = some v := by
 unfold Box at h; simp [World.cell?, h]
theorem Box.free {b : Nat} (h : Box w b v t) : w.frozen? ⟨b, 0, none⟩ = false := by
 unfold Box at h; simp [World.frozen?, h]
theorem Box.lt {b : Nat} (h : Box w b v t) : b < w.heap.size := aG w _ h.cell
theorem Box.below {b : Nat} (h : Box w b v t) (hb : Below B w w') (hB : b < B) : Box w' b v t := (hb.block b hB).trans h
theorem Box.set {b : Nat} (h : Box w b v t) (u : Value) : Box (w.setCell ⟨b, 0, none⟩ u) b u t := jk _ h
theorem Box.but {b r : Nat} (h : Box w b v t) (hb : But r w w') (hn : b ≠ r) : Box w' b v t := (hb.block b h.lt hn).trans h
theorem Box.new (w : World) (v : Value) (t : TypeId) : Box (w.alloc (.cells #[v] t)) w.heap.size v t := by
 show (w.heap.push _)[w.heap.size]? = _
 simp
theorem hid {p : Prop} (h : p) : Hid p := h
structure Keeps (Q : Nat -> Prop) (w w' : World) : Prop where
 size : w.heap.size <= w'.heap.size
 block : ∀ b, b < w.heap.size -> Q b -> w'.heap[b]? = w.heap[b]?
theorem Keeps.refl (Q : Nat -> Prop) (w : World) : Keeps Q w w := ⟨ai _, fun _ _ _ => rfl⟩
theorem Keeps.of_below (h : Below w.heap.size w w') : Keeps Q w w' := ⟨h.size, fun b hb _ => h.block b hb⟩
theorem Keeps.of_below' (h : Below B w w') (hq : ∀ b, Q b -> b < B) : Keeps Q w w' := ⟨h.size, fun b _ hb => h.block b (hq b hb)⟩
theorem Keeps.of_but {r : Nat} (h : But r w w') (hq : ∀ b, Q b -> b ≠ r) : Keeps Q w w' := ⟨h.size, fun b hb hQ => h.block b hb (hq b hQ)⟩
theorem Keeps.trans {Q : Nat -> Prop} {x y z : World} (h : Keeps Q x y) (k : Keeps Q y z) : Keeps Q x z :=
 ⟨aN h.size k.size, fun b hb hQ => (k.block b (aK hb h.size) hQ).trans (h.block b hb hQ)⟩
theorem Keeps.set (w : World) {p : Addr} (v : Value) (hq : ∀ b, Q b -> b ≠ p.block) : Keeps Q w (w.setCell p v) :=
 ⟨by simp [World.setCell], fun b _ hQ => aC _ _ _ _ (hq b hQ)⟩
theorem Keeps.more (h : Keeps Q w w') (o : Obj) : Keeps Q w (w'.alloc o) :=
 ⟨by have := h.size; simp; omega, fun b hb hQ => ((show (w'.alloc o).heap[b]? = w'.heap[b]? by show (w'.heap.push o)[b]? = _; rw [bm (aK hb h.size), aY (aK hb h.size)])).trans (h.block b hb hQ)⟩
def RowM (Q : Nat -> Prop) (k : Nat) (P : A -> List Value -> Prop) (w : World) (v : Value) (l : List A) : Prop :=
 ∃ a c, v = .slice a l.length c /\ l.length <= maxLen /\ ∀ (i : Nat) (x : A), l[i]? = some x -> ∃ b o cs, a = some ⟨b, o, none⟩ /\ b < w.heap.size /\ Q b /\ cs.length = k /\ (∀ (j : Nat) u, cs[j]? = some u -> w.cell? ⟨b, o + i * k + j, none⟩ = some u) /\ P x cs
def TxtM (x : List UInt8) (cs : List Value) : Prop := cs = [.string (S x)]
def TxtsM (Q : Nat -> Prop) (w : World) (v : Value) (l : List (List UInt8)) : Prop := RowM Q 1 TxtM w v l
def TstM (Q : Nat -> Prop) : Nat -> World -> Tst -> List Value -> Prop
 | 0, _, _, _ => False
 | n + 1, w, t, cs => ∃ vn vk vt, cs = [.int .i64 t.kind, .int .i64 t.mat, .int .i64 t.part, vn, vk, .bool t.over, .int .i64 t.limit, vt] /\ TxtsM Q w vn t.names /\ TxtsM Q w vk t.keys /\ RowM Q 8 (TstM Q n w) w vt t.tests
def CmdM (Q : Nat -> Prop) : Nat -> World -> Cmd -> List Value -> Prop
 | 0, _, _, _ => False
 | n + 1, w, c, cs => ∃ vx vn vk vt va ve, cs = [.int .i64 c.kind, vx, .int .i64 c.test.kind, .int .i64 c.test.mat, .int .i64 c.test.part, vn, vk, .bool c.test.over, .int .i64 c.test.limit, vt, va, ve] /\ TxtsM Q w vx c.texts /\
     TstM Q n w c.test [.int .i64 c.test.kind, .int .i64 c.test.mat, .int .i64 c.test.part, vn, vk, .bool c.test.over, .int .i64 c.test.limit, vt] /\ RowM Q 12 (CmdM Q n w) w va c.thn /\ RowM Q 12 (CmdM Q n w) w ve c.els
abbrev TstsM (Q : Nat -> Prop) (n : Nat) (w : World) (v : Value) (l : List Tst) : Prop := RowM Q 8 (TstM Q n w) w v l
abbrev CmdsM (Q : Nat -> Prop) (n : Nat) (w : World) (v : Value) (l : List Cmd) : Prop := RowM Q 12 (CmdM Q n w) w v l
theorem RowM.imp {Q' : Nat -> Prop} {P P' : A -> List Value -> Prop} {l : List A} (h : RowM Q k P w v l) (hq : ∀ b, Q b -> Q' b) (hk : Keeps Q w w') (hp : ∀ x cs, P x cs -> P' x cs) : RowM Q' k P' w' v l := by
 obtain ⟨a, c, hv, hm, hx⟩ := h; refine ⟨a, c, hv, hm, fun i x hi => ?_⟩; obtain ⟨b, o, cs, ha, hb, hQ, hl, hc, hP⟩ := hx i x hi; exact ⟨b, o, cs, ha, aK hb hk.size, hq b hQ, hl, fun j u hj => (aP (hk.block b hb hQ)).trans (hc j u hj), hp x cs hP⟩
theorem TxtsM.imp {Q Q' : Nat -> Prop} {w w' : World} {v : Value} {l : List (List UInt8)} (h : TxtsM Q w v l) (hq : ∀ b, Q b -> Q' b) (hk : Keeps Q w w') : TxtsM Q' w' v l := RowM.imp h hq hk fun _ _ h => h
theorem TstM.imp {Q Q' : Nat -> Prop} {w w' : World} (hq : ∀ b, Q b -> Q' b) (hk : Keeps Q w w') : ∀ (n : Nat) (t : Tst) (cs : List Value), TstM Q n w t cs -> TstM Q' n w' t cs := by
 intro n
 induction n with
 | zero => intro t cs h; exact h
 | succ n ih =>
   intro t cs h; obtain ⟨vn, vk, vt, h0, h1, h2, h3⟩ := h; exact ⟨vn, vk, vt, h0, h1.imp hq hk, h2.imp hq hk, RowM.imp h3 hq hk ih⟩
theorem CmdM.imp {Q Q' : Nat -> Prop} {w w' : World} (hq : ∀ b, Q b -> Q' b) (hk : Keeps Q w w') : ∀ (n : Nat) (c : Cmd) (cs : List Value), CmdM Q n w c cs -> CmdM Q' n w' c cs := by
 intro n
 induction n with
 | zero => intro t cs h; exact h
 | succ n ih =>
   intro t cs h; obtain ⟨vx, vn, vk, vt, va, ve, h0, h1, h2, h3, h4⟩ := h; exact ⟨vx, vn, vk, vt, va, ve, h0, h1.imp hq hk, TstM.imp hq hk _ _ _ h2, RowM.imp h3 hq hk ih, RowM.imp h4 hq hk ih⟩
theorem TstM.more : ∀ (n m : Nat) (t : Tst) (cs : List Value), n <= m -> TstM Q n w t cs -> TstM Q m w t cs := by
 intro n
 induction n with
 | zero => intro m t cs _ h; exact h.elim
 | succ n ih =>
   intro m t cs hm h; obtain ⟨vn, vk, vt, h0, h1, h2, h3⟩ := h; cases m with
   | zero => omega
   | succ m => exact ⟨vn, vk, vt, h0, h1, h2, RowM.imp h3 (fun _ h => h) (Keeps.refl _ _) fun x cs h => ih m x cs (by omega) h⟩
theorem CmdM.more {Q : Nat -> Prop} {w : World} : ∀ (n m : Nat) (t : Cmd) (cs : List Value), n <= m -> CmdM Q n w t cs -> CmdM Q m w t cs := by
 intro n
 induction n with
 | zero => intro m t cs _ h; exact h.elim
 | succ n ih =>
   intro m t cs hm h; obtain ⟨vx, vn, vk, vt, va, ve, h0, h1, h2, h3, h4⟩ := h; cases m with
   | zero => omega
   | succ m => exact ⟨vx, vn, vk, vt, va, ve, h0, h1, TstM.more _ _ _ _ (by omega) h2, RowM.imp h3 (fun _ h => h) (Keeps.refl _ _) (fun x cs h => ih m x cs (by omega) h), RowM.imp h4 (fun _ h => h) (Keeps.refl _ _) fun x cs h => ih m x cs (by omega) h⟩
abbrev anyB : Nat -> Prop := fun _ => True
theorem TstM.next {n : Nat} {t : Tst} {cs : List Value} (h : TstM Q n w t cs) (hb : Below w.heap.size w w') : TstM Q n w' t cs := TstM.imp (fun _ h => h) (Keeps.of_below hb) _ _ _ h
theorem CmdM.next {n : Nat} {c : Cmd} {cs : List Value} (h : CmdM Q n w c cs) (hb : Below w.heap.size w w') : CmdM Q n w' c cs := CmdM.imp (fun _ h => h) (Keeps.of_below hb) _ _ _ h
theorem TstsM.next {Q : Nat -> Prop} {n : Nat} {w w' : World} {v : Value} {l : List Tst} (h : TstsM Q n w v l) (hb : Below w.heap.size w w') : TstsM Q n w' v l := RowM.imp h (fun _ h => h) (Keeps.of_below hb) fun _ _ h => TstM.next h hb
theorem CmdsM.next {Q : Nat -> Prop} {n : Nat} {w w' : World} {v : Value} {l : List Cmd} (h : CmdsM Q n w v l) (hb : Below w.heap.size w w') : CmdsM Q n w' v l := RowM.imp h (fun _ h => h) (Keeps.of_below hb) fun _ _ h => CmdM.next h hb
theorem TxtsM.next (h : TxtsM Q w v l) (hb : Below w.heap.size w w') : TxtsM Q w' v l := h.imp (fun _ h => h) (Keeps.of_below hb)
theorem RowM.slice {P : A -> List Value -> Prop} {l : List A} (h : RowM Q k P w v l) : ∃ a c, v = .slice a l.length c := by
 obtain ⟨a, c, hv, _⟩ := h; exact ⟨a, c, hv⟩
theorem jh (Q : Nat -> Prop) (k : Nat) (P : A -> List Value -> Prop) (w : World) (a : Option Addr) (c : Nat) : RowM Q k P w (.slice a 0 c) ([] : List A) := ⟨a, c, rfl, by simp, fun i x h => by simp at h⟩
theorem RowM.small {P : A -> List Value -> Prop} {l : List A} (h : RowM Q k P w v l) : l.length <= maxLen := by
 obtain ⟨_, _, _, hm, _⟩ := h; exact hm
theorem jeW (c : UInt8) (t : List UInt8) : (S (c :: t)).toList.isEmpty = false := by rw [aW, ji]; rfl
theorem jeV : (S []).toList.isEmpty = true := by rw [aW, ji]; rfl
theorem jga (c : UInt8) (t : List UInt8) : 0 < (S (c :: t)).size := by rw [jb]; simp
theorem qe (s : List UInt8) (k : Nat) : (S s).extract k (S s).size = S (s.drop k) := by
 rw [Lib.extract_eq, ji, jb, aV (by simp)]; rfl
theorem jdp (s : List UInt8) (k : Nat) : (S s).extract 0 k = S (s.take k) := by
 rw [Lib.extract_eq, ji]; rfl
theorem jeT (c : UInt8) (t : List UInt8) (h : 0 < (S (c :: t)).size) : (S (c :: t))[0] = c := rfl
theorem jbM (c : UInt8) : ((c.toNat : Int)).toNat.toUInt8 = c := by simp
theorem jl {p : Addr} (h : w.cell? p = some v) (o : Obj) : (w.alloc o).cell? p = some v :=
 (((ay w.heap.size w).alloc (ai _) o).cell (aG w _ h)).trans h
theorem ja {p : Addr} (h : w.cell? p = some v) (hb : Below w.heap.size w w') : w'.cell? p = some v :=
 (hb.cell (aG w _ h)).trans h
theorem qG {a : World} (h : Below B a w) (n : Nat) : Below B a (w.drewN n) := h.trans ⟨rfl, rfl, rfl, ai _, fun _ _ => rfl⟩
theorem jjL {a b c : World} (h : Below B a b) (k : Below b.heap.size b c) (hB : B <= a.heap.size) : Below B a c := h.trans (k.mono (aN hB h.size))
theorem jjQ (s : List UInt8) (k : Nat) (h : k < (S s).size) (h' : k < s.length) : (S s)[k]'h = s[k]'h' := by
 have this : (S s)[k]'h = (S s).data.toList[k]'(by simpa using h) := rfl; rw [this]
 simp [ji]
def tokV (t : Tok) : Value := .agg #[.int .i64 t.kind, .string (S t.text), .int .i64 t.num]
def qq : Tok := { kind := 0, text := [], num := 0 }
def TokB (w : World) (b : Nat) (t : Tok) : Prop := w.heap[b]? = some (.cells #[.int .i64 t.kind, .string (S t.text), .int .i64 t.num] 147)
theorem TokB.c0 {b : Nat} {t : Tok} (h : TokB w b t) : w.cell? ⟨b, 0, none⟩ = some (.int .i64 t.kind) := by unfold TokB at h; simp [World.cell?, h]
theorem TokB.c1 {b : Nat} {t : Tok} (h : TokB w b t) : w.cell? ⟨b, 1, none⟩ = some (.string (S t.text)) := by unfold TokB at h; simp [World.cell?, h]
theorem TokB.c2 {b : Nat} {t : Tok} (h : TokB w b t) : w.cell? ⟨b, 2, none⟩ = some (.int .i64 t.num) := by unfold TokB at h; simp [World.cell?, h]
theorem TokB.free {b : Nat} {t : Tok} (h : TokB w b t) (o : Nat) : w.frozen? ⟨b, o, none⟩ = false := by unfold TokB at h; simp [World.frozen?, h]
theorem TokB.lt {b : Nat} {t : Tok} (h : TokB w b t) : b < w.heap.size := aG w _ h.c0
theorem TokB.far {b : Nat} {t : Tok} (h : TokB w b t) {p : Addr} (hn : b ≠ p.block) (v : Value) : TokB (w.setCell p v) b t := (aC _ _ _ _ hn).trans h
theorem TokB.but {r b : Nat} {t : Tok} (h : TokB w b t) (hb : But r w w') (hn : b ≠ r) : TokB w' b t := (hb.block b h.lt hn).trans h
theorem TokB.below {b : Nat} {t : Tok} (h : TokB w b t) (hb : Below B w w') (hB : b < B) : TokB w' b t := (hb.block b hB).trans h
theorem TokB.next {b : Nat} {t : Tok} (h : TokB w b t) (hb : Below w.heap.size w w') : TokB w' b t := (hb.block b h.lt).trans h
theorem vN (w : World) (t : Tok) : TokB (w.alloc (.cells #[.int .i64 t.kind, .string (S t.text), .int .i64 t.num] 147)) w.heap.size t := by
 unfold TokB
 show (w.heap.push _)[w.heap.size]? = _
 simp
def Tk (w : World) (s : List UInt8) (r : Cutting) (e : Ending) (w' : World) : Prop :=
 match r with
 | .error x => e = .returned (.tuple #[tokV qq, .int .i64 0, .int .i64 x]) /\ Below w.heap.size w w'
 | .ok (t, rest) => e = .returned (.tuple #[tokV t, .int .i64 (s.length - rest.length : Nat), .int .i64 0]) /\ Below w.heap.size w w'
theorem jkN : (Tryz.prog.info? 147).map (fun i => (i.zero, i.size, i.bytes)) = some (some (.agg #[.int .i64 0, .string ByteArray.empty, .int .i64 0]), 3, 32) := by kernel_rfl
def qM (l : List Tok) : List Value := l.flatMap fun t => [.int .i64 t.kind, .string (S t.text), .int .i64 t.num]
theorem jcA (l : List Tok) (t : Tok) : qM (l ++ [t]) = qM l ++ [.int .i64 t.kind, .string (S t.text), .int .i64 t.num] := by simp [qM]
theorem jis {l : List Tok} {t : Tok} (h : l[i]? = some t) : (qM l)[i * 3]? = some (.int .i64 t.kind) /\ (qM l)[i * 3 + 1]? = some (.string (S t.text)) /\ (qM l)[i * 3 + 2]? = some (.int .i64 t.num) := by
 induction l generalizing i with
 | nil => simp at h
 | cons g l ih =>
   cases i with
   | zero => simp at h; subst h; simp [qM]
   | succ i =>
     have := ih (i := i) (by simpa using h); have e1 : (i + 1) * 3 = i * 3 + 3 := by omega
     rw [e1]
     simpa [qM] using this
def OwnT (w : World) (B : Nat) (v : Value) (l : List Tok) : Prop := w.ownsRow B 147 3 v l.length (qM l)
def ToksAt (w : World) (a : Option Addr) (l : List Tok) : Prop :=
 ∀ (i : Nat) t, l[i]? = some t -> ∃ b o, a = some ⟨b, o, none⟩ /\ b < w.heap.size /\ w.cell? ⟨b, o + i * 3, none⟩ = some (.int .i64 t.kind) /\ w.cell? ⟨b, o + i * 3 + 1, none⟩ = some (.string (S t.text)) /\ w.cell? ⟨b, o + i * 3 + 2, none⟩ = some (.int .i64 t.num)
theorem ToksAt.below {a : Option Addr} {l : List Tok} (h : ToksAt w a l) (hb : Below w.heap.size w w') : ToksAt w' a l := by
 intro i x hx; obtain ⟨b, o, ha, hlt, h1, h2, h3⟩ := h i x hx; exact ⟨b, o, ha, aK hlt hb.size, ja h1 hb, ja h2 hb, ja h3 hb⟩
theorem joj (w : World) (a : Option Addr) : ToksAt w a [] := fun i x hx => by simp at hx
theorem OwnT.any {l : List Tok} (h : OwnT w B v l) : ∃ a cap, v = .slice a l.length cap := by
 rcases h.2 with ⟨rfl, hn⟩ | ⟨g, cap, cur, rfl, _⟩
 . exact ⟨none, 0, by rw [hn]⟩
 . exact ⟨_, _, rfl⟩
theorem OwnT.at {a : Option Addr} {c : Nat} {l : List Tok} (h : OwnT w B (.slice a l.length c) l) : ToksAt w a l := by
 intro i x hx; have hi : i < l.length := (au.1 hx).1
 rcases h.2 with ⟨_, hn⟩ | ⟨g, cap, cur, hv, hb, hg, q⟩
 . omega
 . simp only [aE, true_and] at hv; obtain ⟨rfl, rfl⟩ := hv; have ip : g < w.heap.size := by
    rcases bz g w.heap.size with h' | h'
    . exact h'
    . rw [Array.getElem?_eq_none h'] at hg; cases hg
   obtain ⟨h1, h2, h3⟩ := jis hx; refine ⟨g, 0, rfl, ip, ?_, ?_, ?_⟩
   . rw [bc, bv h (i * 3) (by omega)]; exact h1
   . rw [bc, bv h (i * 3 + 1) (by omega)]; exact h2
   . rw [bc, bv h (i * 3 + 2) (by omega)]; exact h3
theorem jX {n : Nat} (h : w.ownsRow base e size v n xs) (hb : Below w.heap.size w w') : w'.ownsRow base e size v n xs := by
 refine ⟨h.1, ?_⟩
 rcases h.2 with h' | ⟨g, cap, cur, h1, h2, hg, q⟩
 . exact .inl h'
 . refine .inr ⟨g, cap, cur, h1, h2, ?_, q⟩; rw [hb.block g (by
    rcases bz g w.heap.size with h' | h'
    . exact h'
    . rw [Array.getElem?_eq_none h'] at hg; cases hg)]
   exact hg
theorem jmg (W : World) (n : Nat) (hn : W.heap.size = n) (x y z : Value) (t : TypeId) : ∀ (j : Nat) u, [x, y, z][j]? = some u -> (W.alloc (.cells #[x, y, z] t)).cell? ((⟨n, 0, none⟩ : Addr).add j) = some u := by
 subst hn; intro j u hj; rw [bg, bc]
 match j, hj with
 | 0, hj => simp at hj; subst hj; simp
 | 1, hj => simp at hj; subst hj; simp
 | 2, hj => simp at hj; subst hj; simp
def jE (c : UInt8) : Bool := (decide (97 <= c.toNat) && decide (c.toNat <= 122)) || (decide (65 <= c.toNat) && decide (c.toNat <= 90)) || c == 95
def je (c : UInt8) : Bool := decide (48 <= c.toNat) && decide (c.toNat <= 57)
def jw (c : UInt8) : Bool := jE c || je c
def markL : List UInt8 := [123, 125, 40, 41, 91, 93, 59, 44]
def jbT (c : UInt8) : Bool := markL.contains c
def zu (c : UInt8) : Bool := c == 32 || c == 9 || c == 13 || c == 10
def zO : List UInt8 -> Option (List UInt8)
 | [] => none
 | [_] => none
 | a :: b :: t => if a = 42 /\ b = 47 then some t else zO (b :: t)
theorem jaE (h : zO s = some r) : r.length < s.length := by
 induction s with
 | nil => cases h
 | cons a t ih =>
   cases t with
   | nil => cases h
   | cons b t =>
     unfold zO at h; split at h
     . cases h; simp; omega
     . have := ih h; simp at this ⊢; omega
def vJ (s : List UInt8) : List UInt8 := s.dropWhile (· != 10)
theorem vK (s : List UInt8) : (vJ s).length <= s.length := (List.dropWhile_suffix _).length_le
def jbB (t : List UInt8) : Option (List UInt8) := match t with | [] => none | c :: u => if c = 42 then some u else none
theorem jaR {t : List UInt8} (h : jbB t = some u) : t = 42 :: u := by
 cases t with
 | nil => cases h
 | cons c v =>
   by_cases e : c = 42
   . simp only [jbB, if_pos e, aS] at h; rw [e, h]
   . simp only [jbB, if_neg e] at h; cases h
def silF : Nat -> List UInt8 -> Bool × List UInt8
 | 0, s => (true, s)
 | _ + 1, [] => (true, [])
 | n + 1, c :: t =>
   if zu c then silF n t
   else if c = 35 then silF n (vJ t)
   else if c = 47 then
     match jbB t with
     | none => (true, c :: t)
     | some u => (match zO u with | none => (false, c :: t) | some r => silF n r)
   else (true, c :: t)
theorem jfS : ∀ (n m : Nat) (s : List UInt8), s.length <= n -> s.length <= m -> silF n s = silF m s := by
 intro n
 induction n with
 | zero =>
   intro m s h1 _; have e : s = [] := bh.1 (by omega); subst e; cases m <;> rfl
 | succ n ih =>
   intro m s h1 h2; cases s with
   | nil => cases m <;> rfl
   | cons c t =>
     cases m with
     | zero => simp at h2
     | succ m =>
       simp only [aI] at h1 h2; have hl := vK t; simp only [silF]; rw [ih m t (by omega) (by omega), ih m (vJ t) (by omega) (by omega)]; cases hs : jbB t with
       | none => rfl
       | some u =>
         have hu := congrArg List.length (jaR hs); simp only [aI] at hu; simp only; cases hc : zO u with
         | none => rfl
         | some r =>
           have hr := jaE hc; simp only; rw [ih m r (by omega) (by omega)]
def silM (s : List UInt8) : Bool × List UInt8 := silF s.length s
theorem vA (c : UInt8) (t : List UInt8) : silM (c :: t) =
 if zu c then silM t
 else if c = 35 then silM (vJ t)
 else if c = 47 then
  match jbB t with
  | none => (true, c :: t)
  | some u => (match zO u with | none => (false, c :: t) | some r => silM r)
 else (true, c :: t) := by
 have hl := vK t
 show silF (t.length + 1) (c :: t) = _
 simp only [silF]; rw [jfS t.length (vJ t).length (vJ t) (by omega) (ai _)]; cases hs : jbB t with
 | none => rfl
 | some u =>
   have hu := congrArg List.length (jaR hs); simp only [aI] at hu; simp only; cases hc : zO u with
   | none => rfl
   | some r =>
     have hr := jaE hc; simp only; rw [jfS t.length r.length r (by omega) (ai _)]; rfl
theorem jby : silM [] = (true, []) := rfl
theorem jb1 (t : List UInt8) (h : zu c = true) : silM (c :: t) = silM t := by rw [vA, if_pos h]
theorem jcS (t : List UInt8) : silM (35 :: t) = silM (vJ t) := by
 rw [vA, if_neg (by decide), if_pos rfl]
theorem jcU (t : List UInt8) (h1 : zu c = false) (h2 : c ≠ 35) (h3 : c ≠ 47) : silM (c :: t) = (true, c :: t) := by
 rw [vA, if_neg (by rw [h1]; simp), if_neg h2, if_neg h3]
theorem jb0 {t : List UInt8} (h : jbB t = none) : silM (47 :: t) = (true, 47 :: t) := by
 rw [vA, if_neg (by decide), if_neg (by decide), if_pos rfl, h]
theorem jcT (h : zO u = none) : silM (47 :: 42 :: u) = (false, 47 :: 42 :: u) := by
 have h2 : jbB (42 :: u) = some u := by simp [jbB]
 rw [vA, if_neg (by decide), if_neg (by decide), if_pos rfl, h2]; simp only [h]
theorem jez (h : zO u = some r) : silM (47 :: 42 :: u) = silM r := by
 have h2 : jbB (42 :: u) = some u := by simp [jbB]
 rw [vA, if_neg (by decide), if_neg (by decide), if_pos rfl, h2]; simp only [h]
theorem jh6 : ∀ (n : Nat) (s : List UInt8), s.length <= n -> (silM s).2.length <= s.length := by
 intro n
 induction n with
 | zero => intro s hs; cases s with
   | nil => rw [jby]; simp
   | cons c t => simp at hs
 | succ n ih =>
   intro s hs; cases s with
   | nil => rw [jby]; simp
   | cons c t =>
     simp only [aI] at hs; cases h1 : zu c with
     | true => rw [jb1 t h1]; have := ih t (by omega); simp; omega
     | false =>
       by_cases h2 : c = 35
       . subst h2; rw [jcS]; have h3 := vK t; have := ih (vJ t) (by omega); simp; omega
       . by_cases h3 : c = 47
         . subst h3; cases h4 : jbB t with
           | some u =>
             have pq := jaR h4; subst pq; cases h5 : zO u with
             | none => rw [jcT h5]; simp
             | some r => rw [jez h5]; have := jaE h5; simp only [aI] at hs ⊢; have := ih r (by omega); omega
           | none => rw [jb0 h4]; simp
         . rw [jcU t h1 h2 h3]; simp
def decV (l : List UInt8) : Nat := l.foldl (fun n c => 10 * n + (c.toNat - 48)) 0
def zr (s : List UInt8) : Nat × List UInt8 :=
 match s with
 | [] => (1, [])
 | c :: t => if c = 75 ∨ c = 107 then (1024, t) else if c = 77 ∨ c = 109 then (1048576, t) else (1, c :: t)
theorem jjH (s : List UInt8) : (zr s).2.length <= s.length := by
 unfold zr; split
 . simp
 . split
   . simp
   . split <;> simp
def jcH (s : List UInt8) : Bool := match s with | [] => false | c :: _ => jw c
def numM (s : List UInt8) : Cutting :=
 let r := zr (s.dropWhile je)
 if jcH r.2 then .error 3
 else if 2147483647 < decV (s.takeWhile je) * r.1 then .error 6
 else .ok ({ kind := 3, text := [], num := (decV (s.takeWhile je) * r.1 : Nat) }, r.2)
def strM : Bool -> List UInt8 -> Option (List UInt8 × List UInt8)
 | _, [] => none
 | true, c :: t => (strM false t).map fun x => (c :: x.1, x.2)
 | false, c :: t => if c = 34 then some ([], t) else if c = 92 then strM true t else (strM false t).map fun x => (c :: x.1, x.2)
theorem jn2 {b : Bool} {x : List UInt8 × List UInt8} (h : strM b s = some x) : x.2.length < s.length := by
 induction s generalizing b x with
 | nil => cases b <;> cases h
 | cons c t ih =>
   cases b with
   | true =>
     unfold strM at h; rw [Option.map_eq_some_iff] at h; obtain ⟨y, hy, rfl⟩ := h; have := ih hy; simp; omega
   | false =>
     unfold strM at h; split at h
     . cases h; simp
     . split at h
       . have := ih h; simp; omega
       . rw [Option.map_eq_some_iff] at h; obtain ⟨y, hy, rfl⟩ := h; have := ih hy; simp; omega
def tokM (s : List UInt8) : Cutting :=
 match s with
 | [] => .error 3
 | c :: t =>
   if jE c then .ok ({ kind := 1, text := c :: t.takeWhile jw, num := 0 }, t.dropWhile jw)
   else if c = 58 /\ (t.head?.map jE).getD false = true then .ok ({ kind := 2, text := t.takeWhile jw, num := 0 }, t.dropWhile jw)
   else if je c then numM (c :: t)
   else if c = 34 then (match strM false t with | none => .error 4 | some x => .ok ({ kind := 4, text := x.1, num := 0 }, x.2))
   else if jbT c then .ok ({ kind := 5, text := [c], num := 0 }, t)
   else .error 3
theorem jcD (p : UInt8 -> Bool) (s : List UInt8) : (s.dropWhile p).length <= s.length := (List.dropWhile_suffix _).length_le
theorem jeI {x : Tok × List UInt8} (h : tokM s = .ok x) : x.2.length < s.length := by
 cases s with
 | nil => cases h
 | cons c t =>
   simp only [tokM] at h; split at h
   . cases h; have := jcD jw t; simp; omega
   . split at h
     . cases h; have := jcD jw t; simp; omega
     . split at h
       . rename_i hd; unfold numM at h; simp only at h; split at h
         . cases h
         . split at h
           . cases h
           . cases h; have h1 := jjH ((c :: t).dropWhile je); have h2 : ((c :: t).dropWhile je).length <= t.length := by rw [List.dropWhile_cons, if_pos hd]; exact jcD _ _
             simp; omega
       . split at h
         . split at h
           . cases h
           . rename_i x hx; cases h; have := jn2 hx; simp; omega
         . split at h
           . cases h; simp
           . cases h
def begM (s : List UInt8) : Bool := match s with | [] => false | c :: t => jE c || (c == 58 && (t.head?.map jE).getD false) || je c || c == 34 || jbT c
theorem joh (h : begM s = false) : tokM s = .error 3 := by
 cases s with
 | nil => rfl
 | cons c t =>
   simp only [begM, Bool.or_eq_false_iff, Bool.and_eq_false_iff, bA] at h; obtain ⟨⟨⟨⟨h1, h2⟩, h3⟩, h4⟩, h5⟩ := h; simp only [tokM, h1, h3, h5, Bool.false_eq_true, if_false, if_neg h4]; rw [if_neg]; rintro ⟨a, b⟩
   rcases h2 with h2 | h2
   . exact h2 a
   . rw [b] at h2; cases h2
def cutF : Nat -> Nat -> List UInt8 -> Except (Nat × Int) (List Tok)
 | 0, _, _ => .ok []
 | n + 1, k, s =>
   if (silM s).1 = false then .error ((silM s).2.length, 4)
   else if (silM s).2 = [] then .ok []
   else if k = 400 then .error ((silM s).2.length, if begM (silM s).2 then 5 else 3)
   else match tokM (silM s).2 with
     | .error e => .error ((silM s).2.length, e)
     | .ok x => (match cutF n (k + 1) x.2 with | .error e => .error e | .ok l => .ok (x.1 :: l))
theorem jkb : ∀ (n m k : Nat) (s : List UInt8), s.length < n -> s.length < m -> cutF n k s = cutF m k s := by
 intro n
 induction n with
 | zero => intro m k s h; omega
 | succ n ih =>
   intro m k s h1 h2; cases m with
   | zero => omega
   | succ m =>
     simp only [cutF]; cases ht : tokM (silM s).2 with
     | error e => rfl
     | ok x =>
       have l1 := jeI ht; have l2 := jh6 _ s (ai _); simp only; rw [ih m (k + 1) x.2 (by omega) (by omega)]
def cutP (k : Nat) (s : List UInt8) : Except (Nat × Int) (List Tok) := cutF (s.length + 1) k s
theorem jpk (k : Nat) (s : List UInt8) : cutP k s =
 if (silM s).1 = false then .error ((silM s).2.length, 4)
 else if (silM s).2 = [] then .ok []
 else if k = 400 then .error ((silM s).2.length, if begM (silM s).2 then 5 else 3)
 else match tokM (silM s).2 with
  | .error e => .error ((silM s).2.length, e)
  | .ok x => (match cutP (k + 1) x.2 with | .error e => .error e | .ok l => .ok (x.1 :: l)) := by
 show cutF (s.length + 1) k s = _
 simp only [cutF]; cases ht : tokM (silM s).2 with
 | error e => rfl
 | ok x =>
   have l1 := jeI ht; have l2 := jh6 _ s (ai _); simp only; rw [jkb s.length (x.2.length + 1) (k + 1) x.2 (by omega) (by omega)]; rfl
def cutM (s : List UInt8) : List Tok × Int × Int :=
 if 2000 < s.length then ([], 0, 1)
 else match cutP 0 s with
    | .ok l => (l, 0, 0)
    | .error (n, e) => ([], ((s.length - n : Nat) : Int), e)
def jci (l : List UInt8) : Bool := (l.head?.map jE).getD false && l.all jw
def qt (t : Tok) : Int :=
 if ¬ (1 <= t.kind /\ t.kind <= 5) then 2
 else if t.kind = 3 then (if ¬ (0 <= t.num /\ t.num <= 2147483647) then 6 else if t.text ≠ [] then 3 else 0)
 else if t.num ≠ 0 then 3
 else if t.kind = 5 then (if t.text.length = 1 /\ t.text.all jbT = true then 0 else 3)
 else if t.kind = 4 then 0
 else if jci t.text then 0 else 3
def jJ (k : Nat) (s : List UInt8) : Nat := jgT (wTabs.getD k []) 0 s
abbrev Rdg (A : Type) := Except (Nat × Int) (A × List Tok)
def jo {B : Type} (x : Rdg A) (f : A -> List Tok -> Rdg B) : Rdg B := match x with | .error e => .error e | .ok (a, r) => f a r
def misP (r : List Tok) : Nat × Int := (r.length, if r.isEmpty then 4 else 3)
def qS (k : Int) (r : List Tok) : Rdg Tok := match r with | [] => .error (misP []) | t :: q => if t.kind = k then .ok (t, q) else .error (misP (t :: q))
def zl (k : Int) (s : List UInt8) (r : List Tok) : Option (List Tok) := match r with | [] => none | t :: q => if t.kind = k /\ t.text = s then some q else none
def jI (k : Int) (s : List UInt8) (r : List Tok) : Rdg Unit := match zl k s r with | some q => .ok ((), q) | none => .error (misP r)
def qX (r : List Tok) : Rdg (List UInt8) := jo (qS 4 r) fun t q => .ok (t.text, q)
def vV {A : Type} (f : List Tok -> Rdg A) : Nat -> List A -> List Tok -> Rdg (List A)
 | 0, acc, r => .ok (acc, r)
 | n + 1, acc, r => match zl 5 [44] r with
   | none => .ok (acc, r)
   | some q => jo (f q) fun x q' => vV f n (acc ++ [x]) q'
def ze (r : List Tok) : Rdg (List (List UInt8)) :=
 match zl 5 [91] r with
 | none => jo (qX r) fun x q => .ok ([x], q)
 | some q => jo (qX q) fun x q1 => jo (vV qX q1.length [x] q1) fun l q2 => jo (jI 5 [93] q2) fun _ q3 => .ok (l, q3)
def jaS (k d : Nat) (r : List Tok) : Rdg Nat :=
 if 6 < d then .error (r.length, 1) else
    match r with
    | [] => .error (misP [])
    | t :: q => if t.kind = 1 /\ jJ k t.text ≠ 0 then .ok (jJ k t.text, q) else .error (misP (t :: q))
def zU (b : Bool) : List Tok -> Nat -> Nat -> Rdg (Nat × Nat)
 | [], m, p => .ok ((if m = 0 then 1 else m, if p = 0 /\ b = true then 1 else p), [])
 | t :: q, m, p =>
   if t.kind = 2 then
     if jJ 2 t.text ≠ 0 /\ m = 0 then zU b q (jJ 2 t.text) p
     else if jJ 3 t.text ≠ 0 /\ p = 0 /\ b = true then zU b q m (jJ 3 t.text)
     else .error (misP (t :: q))
   else .ok ((if m = 0 then 1 else m, if p = 0 /\ b = true then 1 else p), t :: q)
def qr (r : List Tok) : Rdg (Bool × Int) :=
 match zl 2 jjf r with
 | some q => jo (qS 3 q) fun t q => .ok ((true, t.num), q)
 | none => jo (jI 2 jdP r) fun _ q => jo (qS 3 q) fun t q => .ok ((false, t.num), q)
def zY (f : List Tok -> Rdg Tst) (r : List Tok) : Rdg (List Tst) :=
 jo (jI 5 [40] r) fun _ q => jo (f q) fun x q => jo (vV f q.length [x] q) fun l q => jo (jI 5 [41] q) fun _ q => .ok (l, q)
def jF : Nat -> Nat -> List Tok -> Rdg Tst
 | 0, _, _ => .error (0, 0)
 | n + 1, d, r => jo (jaS 1 d r) fun k q =>
   if k = 3 then jo (jF n (d + 1) q) fun x q => .ok ({ jZ with kind := 3, tests := [x] }, q)
   else if k = 4 ∨ k = 5 then jo (zY (jF n (d + 1)) q) fun l q => .ok ({ jZ with kind := k, tests := l }, q)
   else if k = 6 ∨ k = 7 ∨ k = 8 then jo (zU (decide (k ≠ 6)) q 0 0) fun mp q => jo (ze q) fun a q => jo (ze q) fun b q => .ok ({ jZ with kind := k, mat := mp.1, part := mp.2, names := a, keys := b }, q)
   else if k = 9 then jo (ze q) fun a q => .ok ({ jZ with kind := 9, names := a }, q)
   else if k = 10 then jo (qr q) fun b q => .ok ({ jZ with kind := 10, over := b.1, limit := b.2 }, q)
   else .ok ({ jZ with kind := k }, q)
def qL (f : List Tok -> Rdg Cmd) : Nat -> List Cmd -> List Tok -> Rdg (List Cmd)
 | 0, _, _ => .error (0, 0)
 | n + 1, acc, r => match zl 5 [125] r with
   | some q => .ok (acc, q)
   | none => if r.isEmpty then .error (misP r) else jo (f r) fun c q => qL f n (acc ++ [c]) q
def zA (f : List Tok -> Rdg Cmd) (r : List Tok) : Rdg (List Cmd) := jo (jI 5 [123] r) fun _ q => qL f (q.length + 1) [] q
def cmdP : Nat -> Bool -> Nat -> List Tok -> Rdg Cmd
 | 0, _, _, _ => .error (0, 0)
 | n + 1, true, d, r => jo (jaS 0 d r) fun k q =>
   if k = 2 then cmdP n false d q
   else if k = 1 ∨ k = 8 ∨ k = 9 then jo (ze q) fun l q => jo (jI 5 [59] q) fun _ q => .ok (⟨k, l, jZ, [], []⟩, q)
   else if k = 5 ∨ k = 6 ∨ k = 7 then jo (qX q) fun x q => jo (jI 5 [59] q) fun _ q => .ok (⟨k, [x], jZ, [], []⟩, q)
   else jo (jI 5 [59] q) fun _ q => .ok (⟨k, [], jZ, [], []⟩, q)
 | n + 1, false, d, r => jo (jF n 1 r) fun t q => jo (zA (cmdP n true (d + 1)) q) fun th q =>
   match zl 1 jab q with
   | some q => jo (cmdP n false d q) fun c q => .ok (⟨2, [], t, th, [c]⟩, q)
   | none => match zl 1 jc7 q with
     | some q => jo (zA (cmdP n true (d + 1)) q) fun el q => .ok (⟨2, [], t, th, el⟩, q)
     | none => .ok (⟨2, [], t, th, []⟩, q)
def jav (f : List Tok -> Rdg Cmd) : Nat -> List Cmd -> List Tok -> Rdg (List Cmd)
 | 0, acc, r => .ok (acc, r)
 | n + 1, acc, r => if r.isEmpty then .ok (acc, r) else jo (f r) fun c q => jav f n (acc ++ [c]) q
def qp (r : List Tok) : Rdg (List Cmd) := jav (cmdP (r.length + 2) true 0) r.length [] r
def jdr : List Tok -> Nat -> Option (Nat × Int)
 | [], _ => none
 | t :: r, i => if qt t = 0 then jdr r (i + 1) else some (i, qt t)
def j7 (l : List Tok) : List Cmd × Int × Int :=
 if 400 < l.length then ([], 0, 5) else
    match jdr l 0 with
    | some (i, e) => ([], i, e)
    | none => match qp l with
      | .ok (cs, _) => (cs, 0, 0)
      | .error (m, e) => ([], (l.length - m : Nat), e)
theorem jv {B : Type} {x : Rdg A} {f : A -> List Tok -> Rdg B} {y : B × List Tok} (h : jo x f = .ok y) : ∃ a q, x = .ok (a, q) /\ f a q = .ok y := by
 unfold jo at h; split at h
 . cases h
 . exact ⟨_, _, rfl, h⟩
theorem jdN {k : Int} {r q : List Tok} (h : zl k s r = some q) : ∃ t, r = t :: q /\ t.kind = k /\ t.text = s := by
 cases r with
 | nil => cases h
 | cons t u =>
   unfold zl at h; simp only at h; split at h
   . rename_i hk; cases h; exact ⟨t, rfl, hk⟩
   . cases h
theorem zC {k : Int} {r q : List Tok} {u : Unit} (h : jI k s r = .ok (u, q)) : zl k s r = some q := by
 unfold jI at h; split at h
 . rename_i hs; cases h; exact hs
 . cases h
theorem jc2 {k : Int} {r q : List Tok} {t : Tok} (h : qS k r = .ok (t, q)) : r = t :: q /\ t.kind = k := by
 unfold qS at h; split at h
 . cases h
 . split at h
   . rename_i hk; cases h; exact ⟨rfl, hk⟩
   . cases h
theorem jH {k : Int} {r q : List Tok} (h : zl k s r = some q) : q.length < r.length := by
 obtain ⟨t, rfl, _⟩ := jdN h; simp
theorem joe {r q : List Tok} {x : List UInt8} (h : qX r = .ok (x, q)) : ∃ t, r = t :: q /\ t.kind = 4 /\ t.text = x := by
 obtain ⟨t, q', h1, h2⟩ := jv h; cases h2; obtain ⟨rfl, hk⟩ := jc2 h1; exact ⟨t, rfl, hk, rfl⟩
theorem jaz {r q : List Tok} {x : List UInt8} (h : qX r = .ok (x, q)) : q.length < r.length := by
 obtain ⟨t, rfl, _⟩ := joe h; simp
theorem jfx {f : List Tok -> Rdg A} (hf : ∀ r x q, f r = .ok (x, q) -> q.length <= r.length) : ∀ (n : Nat) (acc l : List A) (r q : List Tok), vV f n acc r = .ok (l, q) -> q.length <= r.length := by
 intro n
 induction n with
 | zero => intro acc l r q h; cases h; exact ai _
 | succ n ih =>
   intro acc l r q h; unfold vV at h; split at h
   . cases h; exact ai _
   . rename_i q0 hs; obtain ⟨x, q1, h1, h2⟩ := jv h; have a := jH hs; have b := hf _ _ _ h1; have c := ih _ _ _ _ h2; omega
theorem jbk {r q : List Tok} (h : ze r = .ok (l, q)) : q.length < r.length := by
 unfold ze at h; split at h
 . obtain ⟨x, q1, h1, h2⟩ := jv h; cases h2; exact jaz h1
 . rename_i q0 hs; obtain ⟨x, q1, h1, h2⟩ := jv h; obtain ⟨l2, q2, h3, h4⟩ := jv h2; obtain ⟨u, q3, h5, h6⟩ := jv h4; cases h6; have a := jH hs; have b := jaz h1; have c := jfx (fun _ _ _ h => bi (jaz h)) _ _ _ _ _ h3; have d := jH (zC h5); omega
theorem jee {r q : List Tok} {n : Nat} (h : jaS k d r = .ok (n, q)) : d <= 6 /\ n ≠ 0 /\ ∃ t, r = t :: q /\ t.kind = 1 /\ jJ k t.text = n := by
 unfold jaS at h; split at h
 . cases h
 . rename_i hd; split at h
   . cases h
   . split at h
     . rename_i hk; cases h; exact ⟨by omega, hk.2, _, rfl, hk.1, rfl⟩
     . cases h
theorem jbj {r q : List Tok} {n : Nat} (h : jaS k d r = .ok (n, q)) : q.length < r.length := by
 obtain ⟨_, _, t, rfl, _⟩ := jee h; simp
theorem jl4 {b : Bool} : ∀ (r : List Tok) (m p : Nat) (x : Nat × Nat) (q : List Tok), zU b r m p = .ok (x, q) -> q.length <= r.length := by
 intro r
 induction r with
 | nil => intro m p x q h; unfold zU at h; cases h; exact ai _
 | cons t r ih =>
   intro m p x q h; unfold zU at h; split at h
   . split at h
     . have := ih _ _ _ _ h; simp; omega
     . split at h
       . have := ih _ _ _ _ h; simp; omega
       . cases h
   . cases h; exact ai _
theorem jin {r q : List Tok} {x : Bool × Int} (h : qr r = .ok (x, q)) : q.length < r.length := by
 unfold qr at h; split at h
 . rename_i q0 hs; obtain ⟨t, q1, h1, h2⟩ := jv h; cases h2; have a := jH hs; obtain ⟨rfl, _⟩ := jc2 h1
   simp at a; omega
 . obtain ⟨u, q0, h0, h'⟩ := jv h; obtain ⟨t, q1, h1, h2⟩ := jv h'; cases h2; have a := jH (zC h0); obtain ⟨rfl, _⟩ := jc2 h1
   simp at a; omega
theorem jjF {f : List Tok -> Rdg Tst} (hf : ∀ r x q, f r = .ok (x, q) -> q.length <= r.length) {r q : List Tok} {l : List Tst} (h : zY f r = .ok (l, q)) : q.length < r.length := by
 obtain ⟨u, q1, h1, h2⟩ := jv h; obtain ⟨x, q2, h3, h4⟩ := jv h2; obtain ⟨l', q3, h5, h6⟩ := jv h4; obtain ⟨u', q4, h7, h8⟩ := jv h6; cases h8; have a := jH (zC h1); have b := hf _ _ _ h3; have c := jfx hf _ _ _ _ _ h5; have d := jH (zC h7); omega
theorem jbD : ∀ (n d : Nat) (r : List Tok) (t : Tst) (q : List Tok), jF n d r = .ok (t, q) -> q.length < r.length := by
 intro n
 induction n with
 | zero => intro d r t q h; cases h
 | succ n ih =>
   intro d r t q h; unfold jF at h; obtain ⟨k, q1, h1, h2⟩ := jv h; have a := jbj h1; simp only at h2; split at h2
   . obtain ⟨x, q2, h3, h4⟩ := jv h2; cases h4; have := ih _ _ _ _ h3; omega
   . split at h2
     . obtain ⟨x, q2, h3, h4⟩ := jv h2; cases h4; have := jjF (fun _ _ _ h => bi (ih _ _ _ _ h)) h3; omega
     . split at h2
       . obtain ⟨x, q2, h3, h4⟩ := jv h2; obtain ⟨y, q3, h5, h6⟩ := jv h4; obtain ⟨z, q4, h7, h8⟩ := jv h6; cases h8; have b := jl4 _ _ _ _ _ h3; have c := jbk h5; have e := jbk h7; omega
       . split at h2
         . obtain ⟨x, q2, h3, h4⟩ := jv h2; cases h4; have := jbk h3; omega
         . split at h2
           . obtain ⟨x, q2, h3, h4⟩ := jv h2; cases h4; have := jin h3; omega
           . cases h2; omega
theorem jim {f : List Tok -> Rdg Cmd} (hf : ∀ r x q, f r = .ok (x, q) -> q.length <= r.length) : ∀ (n : Nat) (acc l : List Cmd) (r q : List Tok), qL f n acc r = .ok (l, q) -> q.length <= r.length := by
 intro n
 induction n with
 | zero => intro acc l r q h; cases h
 | succ n ih =>
   intro acc l r q h; unfold qL at h; split at h
   . rename_i q0 hs; cases h; exact bi (jH hs)
   . split at h
     . cases h
     obtain ⟨x, q1, h1, h2⟩ := jv h; have b := hf _ _ _ h1; have c := ih _ _ _ _ h2; omega
theorem jbL {f : List Tok -> Rdg Cmd} (hf : ∀ r x q, f r = .ok (x, q) -> q.length <= r.length) {r q : List Tok} {l : List Cmd} (h : zA f r = .ok (l, q)) : q.length < r.length := by
 obtain ⟨u, q1, h1, h2⟩ := jv h; have a := jH (zC h1); have b := jim hf _ _ _ _ _ h2; omega
theorem jd0 : ∀ (n : Nat) (b : Bool) (d : Nat) (r : List Tok) (c : Cmd) (q : List Tok), cmdP n b d r = .ok (c, q) -> q.length < r.length := by
 intro n
 induction n with
 | zero => intro b d r t q h; cases h
 | succ n ih =>
   intro b d r t q h; have ih' : ∀ b d r x q, cmdP n b d r = .ok (x, q) -> q.length <= r.length := fun _ _ _ _ _ h => bi (ih _ _ _ _ _ h)
   cases b with
   | true =>
     unfold cmdP at h; obtain ⟨k, q1, h1, h2⟩ := jv h; have a := jbj h1; split at h2
     . have := ih _ _ _ _ _ h2; omega
     . split at h2
       . obtain ⟨x, q2, h3, h4⟩ := jv h2; obtain ⟨y, q3, h5, h6⟩ := jv h4; cases h6; have := jbk h3; have := jH (zC h5); omega
       . split at h2
         . obtain ⟨x, q2, h3, h4⟩ := jv h2; obtain ⟨y, q3, h5, h6⟩ := jv h4; cases h6; have := jaz h3; have := jH (zC h5); omega
         . obtain ⟨y, q3, h5, h6⟩ := jv h2; cases h6; have := jH (zC h5); omega
   | false =>
     unfold cmdP at h; obtain ⟨x, q1, h1, h2⟩ := jv h; obtain ⟨y, q2, h3, h4⟩ := jv h2; have a := jbD _ _ _ _ _ h1; have b := jbL (ih' _ _) h3; split at h4
     . rename_i q0 hs; obtain ⟨z, q3, h5, h6⟩ := jv h4; cases h6; have := jH hs; have := ih _ _ _ _ _ h5; omega
     . split at h4
       . rename_i q0 hs; obtain ⟨z, q3, h5, h6⟩ := jv h4; cases h6; have := jH hs; have := jbL (ih' _ _) h5; omega
       . cases h4; omega
theorem jg9 (s : List UInt8) : silM (s.dropWhile zu) = silM s := by
 induction s with
 | nil => rfl
 | cons c t ih =>
   rw [List.dropWhile_cons]; cases h : zu c with
   | true => rw [if_pos rfl, ih, jb1 t h]
   | false => simp
theorem jb8 (u : List UInt8) : zO u = if 0 <= Lib.index u [42, 47] then some (u.drop ((Lib.index u [42, 47]).toNat + 2)) else none := by
 induction u with
 | nil => rfl
 | cons a t ih =>
   cases t with
   | nil =>
     have e : Lib.index [a] [42, 47] = -1 := by
        unfold Lib.index; rw [if_neg (by simp [List.isPrefixOf])]; rfl
     rw [e]; rfl
   | cons b t =>
     by_cases h : a = 42 /\ b = 47
     . obtain ⟨rfl, rfl⟩ := h; have e : Lib.index (42 :: 47 :: t) [42, 47] = 0 := by
        unfold Lib.index; rw [if_pos (by simp [List.isPrefixOf])]
       rw [e, zO]; rfl
     . have hp : ¬ ([42, 47] : List UInt8).isPrefixOf (a :: b :: t) = true := by
        intro hp; simp only [List.isPrefixOf, Bool.and_true, aX, beq_iff_eq] at hp; exact h ⟨hp.1.symm, hp.2.symm⟩
       have yx := Lib.index_ge (b :: t) [42, 47]; rw [zO, if_neg h, ih]; have e : Lib.index (a :: b :: t) [42, 47] = if Lib.index (b :: t) [42, 47] == -1 then -1 else Lib.index (b :: t) [42, 47] + 1 := by
        rw [Lib.index, if_neg hp]
       rw [e]
       by_cases hm : Lib.index (b :: t) [42, 47] = -1
       . rw [hm]; rfl
       . have lK : ¬ (Lib.index (b :: t) [42, 47] == -1) = true := by simpa using hm
         rw [if_neg lK, if_pos (by omega), if_pos (by omega)]; have e2 : (Lib.index (b :: t) [42, 47] + 1).toNat + 2 = ((Lib.index (b :: t) [42, 47]).toNat + 2) + 1 := by omega
         rw [e2]; rfl
theorem jmT (h : zO u = none) : Lib.cut u [42, 47] = (u, [], false) := by
 rw [jb8] at h; unfold Lib.cut; split at h
 . cases h
 . rename_i hn; rw [if_neg hn]
theorem jpn (h : zO u = some r) : ∃ a, Lib.cut u [42, 47] = (a, r, true) /\ u.length = a.length + 2 + r.length /\ r = u.drop (a.length + 2) := by
 rw [jb8] at h; split at h
 . rename_i hn; have hr := Lib.index_room u [42, 47] hn; simp only [aI, aJ] at hr; simp only [aS] at h; refine ⟨u.take (Lib.index u [42, 47]).toNat, ?_, ?_, ?_⟩
   . unfold Lib.cut; rw [if_pos hn, <- h]; rfl
   . rw [<- h]; simp; omega
   . rw [<- h, bp, Nat.min_eq_left (by omega)]
 . cases h
def jai (s : List UInt8) : Int :=
 match s with
 | [] => 0
 | c :: t => if jE c then 1 else if c = 58 /\ (t.head?.map jE).getD false = true then 2 else if je c then 3 else if c = 34 then 4 else if jbT c then 5 else 0
theorem jfq (s : List UInt8) : (jai s = 0) ↔ begM s = false := by
 cases s with
 | nil => simp [jai, begM]
 | cons c t =>
   simp only [jai, begM]; cases h1 : jE c with
   | true => simp
   | false =>
     by_cases h2 : c = 58 /\ (t.head?.map jE).getD false = true
     . simp only [Bool.false_eq_true, if_false, h2.1, h2.2]; simp
     . simp only [Bool.false_eq_true, if_false, if_neg h2]; have ud : (c == 58 && (t.head?.map jE).getD false) = false := by
        cases e : (c == 58 && (t.head?.map jE).getD false) with
        | false => rfl
        | true => exact absurd (by simpa using e) h2
       rw [ud]; cases h3 : je c with
       | true => simp
       | false =>
         by_cases h4 : c = 34
         . simp [h4]
         . cases h5 : jbT c <;> simp [h4]
def wlen (s : List UInt8) : Nat := match s with | [] => 0 | c :: t => if je c then 0 else ((c :: t).takeWhile jw).length
theorem jcf (h : jE c = true) : je c = false := by
 cases e : je c with
 | false => rfl
 | true =>
   unfold je at e; unfold jE at h; simp only [aX, decide_eq_true_eq, Bool.or_eq_true, beq_iff_eq] at e h
   rcases h with (h | h) | h
   . omega
   . omega
   . subst h; simp at e
theorem vO (t : List UInt8) (h : jE c = true) : wlen (c :: t) = 1 + (t.takeWhile jw).length := by
 show (if je c then 0 else ((c :: t).takeWhile jw).length) = _
 rw [jcf h, if_neg (by simp), List.takeWhile_cons, if_pos (by unfold jw; rw [h]; rfl)]
 simp; omega
theorem jeP (t : List UInt8) (h : jE c = false) : wlen (c :: t) = 0 := by
 show (if je c then 0 else ((c :: t).takeWhile jw).length) = _
 cases e : je c with
 | true => rfl
 | false => rw [if_neg (by simp), List.takeWhile_cons, if_neg (by unfold jw; rw [h, e]; simp)]; rfl
theorem jeQ (s : List UInt8) : 0 < wlen s ↔ (s.head?.map jE).getD false = true := by
 cases s with
 | nil => simp [wlen]
 | cons c t =>
   cases e : jE c with
   | true => rw [vO t e]; simp [e]; omega
   | false => rw [jeP t e]; simp [e]
theorem jot (s : List UInt8) : (s ≠ [] /\ wlen s = s.length) ↔ jci s = true := by
 cases s with
 | nil => simp [jci]
 | cons c t =>
   cases e : jE c with
   | false => rw [jeP t e]; simp [jci, e]
   | true =>
     rw [vO t e]; have hc : jw c = true := by unfold jw; rw [e]; rfl
     simp only [jci, List.head?_cons, Option.map_some, Option.getD_some, e, Bool.true_and, List.all_cons, hc, ne_eq, reduceCtorEq, not_false_eq_true, true_and, aI]; rw [List.all_eq_true]
     constructor
     . intro h x hx; have h2 : t.takeWhile jw = t := by
        have hs := List.takeWhile_prefix (l := t) jw; exact hs.eq_of_length (by omega)
       rw [<- h2] at hx; exact List.all_eq_true.1 (List.all_takeWhile (p := jw) (l := t)) x hx
     . intro h; have h2 : t.takeWhile jw = t := by
        have := List.takeWhile_append_of_pos (p := jw) (l₁ := t) (l₂ := []) h
        simpa using this
       rw [h2]; omega
theorem jiA (h1 : 48 <= c.toNat) (h2 : c.toNat <= 57) : je c = true := by unfold je; simp [h1, h2]
theorem jfa (h : ¬ (48 <= c.toNat /\ c.toNat <= 57)) : je c = false := by
 unfold je; rw [Bool.and_eq_false_iff, decide_eq_false_iff_not, decide_eq_false_iff_not]; omega
theorem jO (c : UInt8) (w : World) :
 Calls Tryz.prog 110 #[.int .u8 c.toNat] w fun e w' => e = .returned (.bool (je c)) /\ w' = w := by
 have hu := c.toNat_lt
 by_cases h1 : 48 <= c.toNat
 . by_cases h2 : c.toNat <= 57
   . have HA : Hid _ := jiA h1 h2; have b1 : (48 : Int) <= (c.toNat : Int) := by omega
     have b2 : (c.toNat : Int) <= 57 := by omega
     clear h1 h2; go_enter Tryz.func110, Tryz.ntmps110; go_wp2; go_ret; exact ⟨jc HA.out.symm, rfl⟩
   . have HA : Hid (je c = false) := jfa (by omega); have b1 : (48 : Int) <= (c.toNat : Int) := by omega
     have b2 : ¬ (c.toNat : Int) <= 57 := by omega
     clear h1 h2; go_enter Tryz.func110, Tryz.ntmps110; go_wp2; go_ret; exact ⟨jc HA.out.symm, rfl⟩
 . have HA : Hid (je c = false) := jfa (by omega); have b1 : ¬ (48 : Int) <= (c.toNat : Int) := by omega
   clear h1; go_enter Tryz.func110, Tryz.ntmps110; go_wp2; go_ret; exact ⟨jc HA.out.symm, rfl⟩
theorem jmq (h1 : 97 <= c.toNat) (h2 : c.toNat <= 122) : jw c = true := by unfold jw jE; simp [h1, h2]
theorem jow (h1 : 65 <= c.toNat) (h2 : c.toNat <= 90) : jw c = true := by unfold jw jE; simp [h1, h2]
theorem jjM (h1 : ¬ (97 <= c.toNat /\ c.toNat <= 122)) (h2 : ¬ (65 <= c.toNat /\ c.toNat <= 90)) (h3 : je c = false) : jw c = decide ((c.toNat : Int) = 95) := by
 unfold jw jE; rw [h3]; have e1 : (decide (97 <= c.toNat) && decide (c.toNat <= 122)) = false := by rw [Bool.and_eq_false_iff, decide_eq_false_iff_not, decide_eq_false_iff_not]; omega
 have e2 : (decide (65 <= c.toNat) && decide (c.toNat <= 90)) = false := by rw [Bool.and_eq_false_iff, decide_eq_false_iff_not, decide_eq_false_iff_not]; omega
 rw [e1, e2]; simp only [Bool.false_or, Bool.or_false]
 by_cases h : c = 95
 . subst h; rfl
 . have : ¬ (c.toNat : Int) = 95 := fun e => h (UInt8.toNat_inj.1 (by show c.toNat = 95; omega))
   simp [h, this]
theorem zm (c : UInt8) (w : World) :
 Calls Tryz.prog 151 #[.int .u8 c.toNat] w fun e w' => e = .returned (.bool (jw c)) /\ w' = w := by
 have hu := c.toNat_lt
 by_cases h1 : 97 <= c.toNat /\ c.toNat <= 122
 . have HA : Hid _ := jmq h1.1 h1.2; have b1 : (97 : Int) <= (c.toNat : Int) := by omega
   have b2 : (c.toNat : Int) <= 122 := by omega
   clear h1; go_enter Tryz.func151, Tryz.ntmps151; go_wp2; go_ret; exact ⟨jc HA.out.symm, rfl⟩
 by_cases h2 : 65 <= c.toNat /\ c.toNat <= 90
 . have HA : Hid _ := jow h2.1 h2.2; have b0 : ¬ (97 : Int) <= (c.toNat : Int) := by omega
   have b1 : (65 : Int) <= (c.toNat : Int) := by omega
   have b2 : (c.toNat : Int) <= 90 := by omega
   clear h1 h2; go_enter Tryz.func151, Tryz.ntmps151; go_wp2; go_ret; exact ⟨jc HA.out.symm, rfl⟩
 cases h3 : je c with
 | true =>
   have HA : Hid (jw c = true) := by unfold Hid jw; rw [h3]; simp
   have HD : Hid _ := h3; have ue : 48 <= c.toNat /\ c.toNat <= 57 := by unfold je at h3; simpa using h3
   have b0 : ¬ (97 : Int) <= (c.toNat : Int) := by omega
   have b1 : ¬ (65 : Int) <= (c.toNat : Int) := by omega
   clear h1 h2 h3 ue; go_enter Tryz.func151, Tryz.ntmps151; go_wp2_with fail; refine (jO c _).mono ?_; rintro e u ⟨rfl, hu⟩; have b6 := hu.symm; subst b6; rw [HD.out]; go_wp2; go_ret; exact ⟨jc HA.out.symm, rfl⟩
 | false =>
   have HA : Hid _ := jjM h1 h2 h3; have HD : Hid _ := h3; clear h3
   by_cases g1 : 97 <= c.toNat
   . have b0 : (97 : Int) <= (c.toNat : Int) := by omega
     have b0' : ¬ (c.toNat : Int) <= 122 := by omega
     have b1 : (65 : Int) <= (c.toNat : Int) := by omega
     have b1' : ¬ (c.toNat : Int) <= 90 := by omega
     clear h1 h2 g1; go_enter Tryz.func151, Tryz.ntmps151; go_wp2_with fail; refine (jO c _).mono ?_; rintro e u ⟨rfl, hu⟩; have b6 := hu.symm; subst b6; rw [HD.out]; go_wp2; go_ret; exact ⟨jc (by rw [HA.out]; first | rfl | simp), rfl⟩
   . by_cases g2 : 65 <= c.toNat
     . have b0 : ¬ (97 : Int) <= (c.toNat : Int) := by omega
       have b1 : (65 : Int) <= (c.toNat : Int) := by omega
       have b1' : ¬ (c.toNat : Int) <= 90 := by omega
       clear h1 h2 g1 g2; go_enter Tryz.func151, Tryz.ntmps151; go_wp2_with fail; refine (jO c _).mono ?_; rintro e u ⟨rfl, hu⟩; have b6 := hu.symm; subst b6; rw [HD.out]; go_wp2; go_ret; exact ⟨jc (by rw [HA.out]; first | rfl | simp), rfl⟩
     . have b0 : ¬ (97 : Int) <= (c.toNat : Int) := by omega
       have b1 : ¬ (65 : Int) <= (c.toNat : Int) := by omega
       clear h1 h2 g1 g2; go_enter Tryz.func151, Tryz.ntmps151; go_wp2_with fail; refine (jO c _).mono ?_; rintro e u ⟨rfl, hu⟩; have b6 := hu.symm; subst b6; rw [HD.out]; go_wp2; go_ret; exact ⟨jc (by rw [HA.out]; first | rfl | simp), rfl⟩
open Go.Lib
theorem jeD (s : ByteArray) (f : Nat) (cap : Array Value) (eg : ∀ args w, (callFunc f args).run Tryz.prog w = .ok (.enter f args) w) (n : Nat) (J : Nat -> World -> Prop) (w : World) (hs : s.size <= maxLen) (hn : n <= s.size)
 (rB : ∀ (k : Nat) (h : k < s.size) (u : World), k < n -> J k u -> Calls Tryz.prog f (#[.int .u8 s[k].toNat] ++ cap) u fun e u' => e = .returned (.bool true) /\ J (k + 1) u')
 (hno : ∀ (h : n < s.size) (u : World), J n u -> Calls Tryz.prog f (#[.int .u8 s[n].toNat] ++ cap) u fun e u' => e = .returned (.bool false) /\ J n u')
 (h0 : J 0 w) :
 Calls Tryz.prog 104 #[.string s, .func (.func f) #[] cap] w fun e w' => e = .returned (.int .i64 n) /\ J n w' := by
 unfold maxLen at hs; have HY : Hid _ := rB; have HO : Hid _ := hno; have H0 : Hid _ := h0; clear rB hno h0; go_enter Tryz.func104, Tryz.ntmps104; go_wp2
 go_loopw [5] (fun i wr => ∃ k : Nat, k <= n /\ i = .int .i64 k /\ Hid (J k wr)) (fun i _ => s.size - (intOf i).toNat)
 case atStart => exact ⟨0, aQ _, rfl, H0⟩
 case round =>
  obtain ⟨k, hk, rfl, HJ⟩ := hrel
  by_cases hlt : k < n
  . have pQ : k < s.size := by omega
    go_wp2_with (go_at_fn f; refine Calls.mono (HY.out k pQ wr hlt HJ.out) ?_; rintro e u ⟨rfl, hj⟩)
    go_roundw
    case rel => exact ⟨k + 1, by omega, by go_num, hj⟩
    case measure => simp [intOf]; omega
  . have kr : k = n := by omega
    subst kr
    by_cases pQ : k < s.size
    . go_wp2_with (go_at_fn f; refine Calls.mono (HO.out pQ wr HJ.out) ?_; rintro e u ⟨rfl, hj⟩)
      go_ret; exact ⟨rfl, hj⟩
    . go_wp2; go_ret; exact ⟨rfl, HJ.out⟩
theorem jfW : ∀ {l : List UInt8} {k : Nat} (h : k < l.length), k < (l.takeWhile p).length -> p l[k] = true := by
 intro l
 induction l with
 | nil => intro k h; simp at h
 | cons c t ih =>
   intro k h hk; rw [List.takeWhile_cons] at hk; cases e : p c with
   | false => rw [e] at hk; simp at hk
   | true =>
     rw [e] at hk; cases k with
     | zero => exact e
     | succ k => simp at hk; exact ih (by simpa using h) hk
theorem jh8 : ∀ {l : List UInt8} (h : (l.takeWhile p).length < l.length), p (l[(l.takeWhile p).length]'h) = false := by
 intro l
 induction l with
 | nil => intro h; simp at h
 | cons c t ih =>
   intro h; cases e : p c with
   | false =>
     have : (c :: t).takeWhile p = [] := by rw [List.takeWhile_cons, e]; rfl
     simp only [this, aJ, List.getElem_cons_zero]; exact e
   | true =>
     have : (c :: t).takeWhile p = c :: t.takeWhile p := by rw [List.takeWhile_cons, e]; rfl
     simp only [this, aI] at h ⊢; simp only [List.getElem_cons_succ]; exact ih (by omega)
theorem jkZ (s : ByteArray) (k : Nat) (h : k < s.size) : s[k] = s.data.toList[k]'(by rw [size_list]; exact h) := rfl
theorem jcX (s : ByteArray) (f : Nat) (eg : ∀ args w, (callFunc f args).run Tryz.prog w = .ok (.enter f args) w) (p : UInt8 -> Bool) (w : World) (hs : s.size <= maxLen)
 (hf : ∀ (c : UInt8) (u : World), Calls Tryz.prog f #[.int .u8 c.toNat] u fun e u' => e = .returned (.bool (p c)) /\ u' = u) :
 Calls Tryz.prog 104 #[.string s, .func (.func f) #[] #[]] w fun e w' => e = .returned (.int .i64 ((s.data.toList.takeWhile p).length : Nat)) /\ w' = w := by
 have hle : (s.data.toList.takeWhile p).length <= s.size := by rw [<- size_list]; exact (List.takeWhile_prefix p).length_le
 refine jeD s f #[] eg _ (fun _ u => u = w) w hs hle ?_ ?_ rfl
 . intro k h u hk hu; subst hu; refine (hf s[k] u).mono ?_; rintro e u' ⟨rfl, rfl⟩; rw [jkZ s k h, jfW _ hk]; exact ⟨rfl, rfl⟩
 . intro h u hu; subst hu; refine (hf s[(s.data.toList.takeWhile p).length] u).mono ?_; rintro e u' ⟨rfl, rfl⟩; rw [jkZ s _ h, jh8 (p := p) (l := s.data.toList)]; exact ⟨rfl, rfl⟩
theorem jiE : ∀ args w, (callFunc 151 args).run Tryz.prog w = .ok (.enter 151 args) w := enters_of Tryz.func151 (by kernel_rfl) rfl
theorem jD (s : List UInt8) (w : World) (hs : s.length <= maxLen) :
 Calls Tryz.prog 109 #[.string (S s)] w fun e w' => e = .returned (.int .i64 (wlen s : Nat)) /\ w' = w := by
 cases s with
 | nil =>
   have he := jeV; go_enter Tryz.func109, Tryz.ntmps109; go_wp2; go_ret; exact ⟨rfl, rfl⟩
 | cons c t =>
   have he := jeW c t; have hz := jga c t; have HZ : Hid ((S (c :: t)).size <= maxLen) := by unfold Hid; rw [jb]; exact hs
   clear hs; cases hd : je c with
   | true =>
     have HD : Hid _ := hd; have HL : Hid (wlen (c :: t) = 0) := by show (if je c then 0 else _) = 0; rw [hd]; rfl
     clear hd; go_enter Tryz.func109, Tryz.ntmps109; go_wp2_with fail; refine (jO c _).mono ?_; rintro e u ⟨rfl, hu⟩; have b6 := hu.symm; subst b6; rw [HD.out]; go_wp2; go_ret; exact ⟨jd (by rw [HL.out]; rfl), rfl⟩
   | false =>
     have HD : Hid _ := hd; have HL : Hid (wlen (c :: t) = ((S (c :: t)).data.toList.takeWhile jw).length) := by
        unfold Hid; rw [ji]; show (if je c then 0 else _) = _; rw [hd]; rfl
     clear hd; go_enter Tryz.func109, Tryz.ntmps109; go_wp2_with fail; refine (jO c _).mono ?_; rintro e u ⟨rfl, hu⟩; have b6 := hu.symm; subst b6; rw [HD.out]; go_wp2_with fail; refine (jcX (S (c :: t)) 151 jiE jw _ HZ.out (fun c u => zm c u)).mono ?_; rintro e u ⟨rfl, hu⟩; have b6 := hu.symm; subst b6; rw [<- HL.out]; go_wp2; go_ret; exact ⟨rfl, rfl⟩
theorem jdD (s : List UInt8) (w : World) (hs : s.length <= maxLen) :
 Calls Tryz.prog 116 #[.string (S s)] w fun e w' => e = .returned (.bool (jci s)) /\ w' = w := by
 cases s with
 | nil =>
   have he := jeV; go_enter Tryz.func116, Tryz.ntmps116; go_wp2; go_ret; exact ⟨rfl, rfl⟩
 | cons c t =>
   have he := jeW c t; have hz := jga c t; have HB : Hid (jci (c :: t) = decide ((wlen (c :: t) : Int) = ((S (c :: t)).size : Int))) := by
    unfold Hid; rw [jb]; have := jot (c :: t); cases h : jci (c :: t) with
    | true => rw [h] at this; simp only [iff_true] at this; rw [this.2]; simp
    | false =>
      rw [h] at this; simp only [Bool.false_eq_true, iff_false, ne_eq, reduceCtorEq, not_false_eq_true, true_and] at this; rw [eq_comm, decide_eq_false_iff_not]; omega
   have HS : Hid _ := hs; clear hs; go_enter Tryz.func116, Tryz.ntmps116; go_wp2_with fail; refine (jD (c :: t) _ HS.out).mono ?_; rintro e u ⟨rfl, hu⟩; have b6 := hu.symm; subst b6; go_wp2; go_ret; exact ⟨jc (by rw [HB.out]; first | rfl | simp), rfl⟩
theorem jbi {t : List UInt8} {n : Nat} (hn : n < 256) (hz : 0 < (S (c :: t)).size) (h : c = UInt8.ofNat n) : ((((S (c :: t))[0]'hz).toNat : Int) == (n : Int)) = true := by
 rw [jeT, h, UInt8.toNat_ofNat_of_lt' hn, beq_self_eq_true]
theorem jcm {t : List UInt8} {n : Nat} (hn : n < 256) (hz : 0 < (S (c :: t)).size) (h : ¬ c = UInt8.ofNat n) : ((((S (c :: t))[0]'hz).toNat : Int) == (n : Int)) = false := by
 rw [jeT, bA]; intro e; refine h (UInt8.toNat_inj.1 ?_); rw [UInt8.toNat_ofNat_of_lt' hn]; omega
theorem jeN (s : List UInt8) (w : World) :
 Calls Tryz.prog 153 #[.string (S s)] w fun e w' => e = .returned (.int .i64 ((zr s).1 : Nat)) /\ w' = w := by
 cases s with
 | nil =>
   have he := jeV; go_enter Tryz.func153, Tryz.ntmps153; go_wp2; go_ret; exact ⟨rfl, rfl⟩
 | cons c t =>
   have he := jeW c t; have hz := jga c t; have e0 : zr (c :: t) = if c = 75 ∨ c = 107 then (1024, t) else if c = 77 ∨ c = 109 then (1048576, t) else (1, c :: t) := rfl
   by_cases h1 : c = 75
   . have HT : Hid ((zr (c :: t)).1 = 1024) := by unfold Hid; rw [e0, if_pos (Or.inl h1)]
     have q1 := jbi (n := 75) (by decide) hz h1; clear e0 h1; go_enter Tryz.func153, Tryz.ntmps153; go_wp2; go_ret; exact ⟨jd (by rw [HT.out]; rfl), rfl⟩
   have q1 := jcm (n := 75) (by decide) hz h1
   by_cases h2 : c = 107
   . have HT : Hid ((zr (c :: t)).1 = 1024) := by unfold Hid; rw [e0, if_pos (Or.inr h2)]
     have q2 := jbi (n := 107) (by decide) hz h2; clear e0 h1 h2; go_enter Tryz.func153, Tryz.ntmps153; go_wp2; go_ret; exact ⟨jd (by rw [HT.out]; rfl), rfl⟩
   have q2 := jcm (n := 107) (by decide) hz h2; have e1 : zr (c :: t) = if c = 77 ∨ c = 109 then (1048576, t) else (1, c :: t) := by rw [e0, if_neg (fun h => h.elim h1 h2)]
   clear e0
   by_cases h3 : c = 77
   . have HT : Hid ((zr (c :: t)).1 = 1048576) := by unfold Hid; rw [e1, if_pos (Or.inl h3)]
     have q3 := jbi (n := 77) (by decide) hz h3; clear e1 h1 h2 h3; go_enter Tryz.func153, Tryz.ntmps153; go_wp2; go_ret; exact ⟨jd (by rw [HT.out]; rfl), rfl⟩
   have q3 := jcm (n := 77) (by decide) hz h3
   by_cases h4 : c = 109
   . have HT : Hid ((zr (c :: t)).1 = 1048576) := by unfold Hid; rw [e1, if_pos (Or.inr h4)]
     have q4 := jbi (n := 109) (by decide) hz h4; clear e1 h1 h2 h3 h4; go_enter Tryz.func153, Tryz.ntmps153; go_wp2; go_ret; exact ⟨jd (by rw [HT.out]; rfl), rfl⟩
   have q4 := jcm (n := 109) (by decide) hz h4; have HT : Hid ((zr (c :: t)).1 = 1) := by unfold Hid; rw [e1, if_neg (fun h => h.elim h3 h4)]
   clear e1 h1 h2 h3 h4; go_enter Tryz.func153, Tryz.ntmps153; go_wp2; go_ret; exact ⟨jd (by rw [HT.out]; rfl), rfl⟩
theorem jkh (l : List UInt8) (c : UInt8) : decV (l ++ [c]) = 10 * decV l + (c.toNat - 48) := by simp [decV]
def Sil (b : List UInt8) : Prop := ∀ r, silM (b ++ r) = silM r
def jrm (b : List UInt8) : Prop := Sil b /\ ∃ c u, b = c :: u /\ jw c = false
end Go.Proofs.YtjdkbdkimbgbfaaGreatDoor
