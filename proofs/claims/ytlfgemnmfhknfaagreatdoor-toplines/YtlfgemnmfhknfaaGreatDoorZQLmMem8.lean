/-
  Addresses and texts in memory, for sessions: where they lie, and how they are found.
  What slices.Contains and Clone do at rows of addresses and texts: the walks.
  What lmtp.Check does: the walks.
  What glob.small does: the walk.
  What glob.Match does with the kind Is: the walk.
  What strings.TrimPrefix, CutPrefix and CutSuffix do at one byte, and lmtp.behind, addressOf: the walks.
  What glob.Fold does: the walk.
  A session that goes on, in its box: what its methods do.
-/
import Derived.Test.YtlfgemnmfhknfaaGreatDoorZLmPur
import Derived.Test.YtlfgemnmfhknfaaGreatDoorZQPure5
import Derived.Test.YtlfgemnmfhknfaaGreatDoorZRowGen
import Derived.Test.YtlfgemnmfhknfaaGreatDoorRows
import Derived.WalkKit
import Derived.Laws.StructEq
import Derived.Lib.SliceRun
import Derived.Deep.AppendLies
import Derived.Deep.RegionHeld3
import Derived.Deep.RegionLaw
import Derived.Deep.QuietTactic
import Derived.BigQuiet
import Derived.Shelf.Abstract
import Derived.Test.YtlfgemnmfhknfaaGreatDoorZQScrRd135
import Derived.Deep.DeepCutAuto
import Derived.WalkSpells
import Derived.WalkLawsBesides
import Derived.Laws.IdiomStrings
import Derived.Lib.Strings
import Derived.Laws.Strings3
import Derived.Test.YtlfgemnmfhknfaaGreatDoorShelf
namespace Go.Proofs.YtlfgemnmfhknfaaGreatDoor
open Go.RowKit Go.Proofs
theorem jln {a b : ByteArray} (h : ¬ a = b) : (a.toList == b.toList) = false := by
  rw [beq_eq_false_iff_ne]; intro e; rw [Lib.toList_data, Lib.toList_data] at e
  apply h
  obtain ⟨⟨x⟩⟩ := a; obtain ⟨⟨y⟩⟩ := b; simp only at e; rw [e]
theorem jlZ (a : ByteArray) : (a.toList == a.toList) = true := by simp
theorem jmk (a b : List UInt8) : ((S a).toList == (S b).toList) = decide (a = b) := by
  by_cases h : a = b
  · subst h; simp
  · rw [jln fun e => h (jlo e)]; simp [h]
set_option maxHeartbeats 2000000 in
set_option maxRecDepth 100000 in
theorem jiX (x y : Adr) (w : World) : (binOp .eql 82 (.agg #[.string (S x.1), .string (S x.2)]) (.agg #[.string (S y.1), .string (S y.2)])).run Tryz.prog w = .ok (.bool (decide (x = y))) w := by
  obtain ⟨a, b⟩ := x; obtain ⟨c, d⟩ := y
  by_cases h1 : a = c
  · subst h1; have e1 := jlZ (S a)
    by_cases h2 : b = d
    · subst h2; have e2 := jlZ (S b)
      simp [go_sem, *]
    · have e2 : ((S b).toList == (S d).toList) = false := jln fun e => h2 (jlo e)
      have e3 : decide ((a, b) = (a, d)) = false := by simp [h2]
      clear h2; simp only [e3]
      simp [go_sem, *]
  · have e1 : ((S a).toList == (S c).toList) = false := jln fun e => h1 (jlo e)
    have e3 : decide ((a, b) = (c, d)) = false := by simp [h1]
    clear h1; simp only [e3]
    simp [go_sem, *]
def AdrM (x : Adr) (cs : List Value) : Prop := cs = [.string (S x.1), .string (S x.2)]
def AdrsM (Q : Nat → Prop) (w : World) (v : Value) (l : List Adr) : Prop := RowM Q 2 AdrM w v l
def qf (l : List Adr) : List Value := (l.map fun x => [Value.string (S x.1), .string (S x.2)]).flatten
def OwnL (w : World) (B : Nat) (v : Value) (l : List Adr) : Prop := w.ownsRow B 82 2 v l.length (qf l)
theorem jdh {Q : Nat → Prop} {w : World} {a : Option Addr} {c : Nat} {l : List Adr} (h : AdrsM Q w (.slice a l.length c) l) {i : Nat} {x : Adr} (hx : l[i]? = some x) :
    ∃ b o, a = some ⟨b, o, none⟩ ∧ b < w.heap.size ∧ Q b ∧ w.cell? ⟨b, o + i * 2, none⟩ = some (.string (S x.1)) ∧ w.cell? ⟨b, o + i * 2 + 1, none⟩ = some (.string (S x.2)) := by
  obtain ⟨a', c', hv, _, hr⟩ := h; simp only [Value.slice.injEq, true_and] at hv; obtain ⟨rfl, rfl⟩ := hv; obtain ⟨b, o, cs, rfl, hb, hQ, _, hc, hP⟩ := hr i x hx; have hcs : cs = _ := hP; subst hcs; exact ⟨b, o, rfl, hb, hQ, by simpa using hc 0 _ rfl, by simpa using hc 1 _ rfl⟩
theorem jlD {Q : Nat → Prop} {w : World} {a : Option Addr} {c : Nat} {l : List (List UInt8)} (h : TxtsM Q w (.slice a l.length c) l) {i : Nat} {x : List UInt8} (hx : l[i]? = some x) :
    ∃ b o, a = some ⟨b, o, none⟩ ∧ b < w.heap.size ∧ Q b ∧ w.cell? ⟨b, o + i, none⟩ = some (.string (S x)) := by
  obtain ⟨a', c', hv, _, hr⟩ := h; simp only [Value.slice.injEq, true_and] at hv; obtain ⟨rfl, rfl⟩ := hv; obtain ⟨b, o, cs, rfl, hb, hQ, _, hc, hP⟩ := hr i x hx; have hcs : cs = _ := hP; subst hcs; exact ⟨b, o, rfl, hb, hQ, by simpa using hc 0 _ rfl⟩
theorem AdrsM.next {Q : Nat → Prop} {w w' : World} {v : Value} {l : List Adr} (h : AdrsM Q w v l) (hb : Below w.heap.size w w') : AdrsM Q w' v l := RowM.imp h (fun _ h => h) (Keeps.of_below hb) fun _ _ h => h
theorem AdrsM.any {Q : Nat → Prop} {w : World} {v : Value} {l : List Adr} (h : AdrsM Q w v l) : AdrsM anyB w v l := RowM.imp h (fun _ _ => trivial) (Keeps.refl _ _) fun _ _ h => h
theorem TxtsM.nextB {w w' : World} {v : Value} {n : Nat} {l : List (List UInt8)} (h : TxtsM (· < n) w v l) (hb : Below n w w') : TxtsM (· < n) w' v l := TxtsM.imp h (fun _ h => h) (Keeps.of_below' hb fun _ h => h)
theorem AdrsM.same {Q : Nat → Prop} {w w' : World} {v : Value} {l : List Adr} (h : AdrsM Q w v l) (he : w'.heap = w.heap) : AdrsM Q w' v l := RowM.imp h (fun _ h => h) ⟨by rw [he]; exact Nat.le_refl _, fun _ _ _ => by rw [he]⟩ fun _ _ h => h
theorem jhr {w w' : World} {p : Addr} {x : Option Value} (h : w.cell? p = x) (he : w'.heap = w.heap) : w'.cell? p = x := (World.cell?_of_block (w := w) (by rw [he])).trans h
theorem qh (l : List Adr) : (qf l).length = l.length * 2 := by
  induction l with
  | nil => rfl
  | cons x l ih => simp only [qf, List.map_cons, List.flatten_cons, List.length_append, List.length_cons, List.length_nil] at *; omega
theorem jey (l : List Adr) (x : Adr) : qf (l ++ [x]) = qf l ++ [.string (S x.1), .string (S x.2)] := by simp [qf]
theorem jcQ {l : List Adr} {i : Nat} {x : Adr} (h : l[i]? = some x) : (qf l)[i * 2]? = some (.string (S x.1)) ∧ (qf l)[i * 2 + 1]? = some (.string (S x.2)) := by
  induction l generalizing i with
  | nil => simp at h
  | cons g l ih =>
    cases i with
    | zero => simp at h; subst h; simp [qf]
    | succ i =>
      have := ih (i := i) (by simpa using h); have e1 : (i + 1) * 2 = i * 2 + 2 := by omega
      rw [e1]
      simpa [qf] using this
theorem OwnL.slice {w : World} {B : Nat} {v : Value} {l : List Adr} (h : OwnL w B v l) : ∃ a c, v = .slice a l.length c := by
  rcases h.2 with ⟨rfl, hn⟩ | ⟨g, cap, cur, rfl, _⟩
  · exact ⟨none, 0, by rw [hn]⟩
  · exact ⟨_, _, rfl⟩
theorem OwnL.row {w : World} {B : Nat} {v : Value} {l : List Adr} (h : OwnL w B v l) (hm : l.length ≤ maxLen) : AdrsM (B ≤ ·) w v l := by
  obtain ⟨a, c, rfl⟩ := h.slice; refine ⟨a, c, rfl, hm, fun i x hx => ?_⟩; have hi : i < l.length := (List.getElem?_eq_some_iff.1 hx).1; obtain ⟨g, cap, e, hb, hg⟩ := World.ownsRow.form h (by omega); simp only [Value.slice.injEq, true_and] at e; obtain ⟨rfl, rfl⟩ := e; obtain ⟨h1, h2⟩ := jcQ hx; refine ⟨g, 0, _, rfl, hg, hb, rfl, ?_, rfl⟩; intro j u hj
  match j, hj with
  | 0, hj =>
    simp only [List.getElem?_cons_zero, Option.some.injEq] at hj; subst hj; rw [show 0 + i * 2 + 0 = i * 2 by omega, World.ownsRow.cellAt h (i * 2) (by omega)]; exact h1
  | 1, hj =>
    simp only [List.getElem?_cons_succ, List.getElem?_cons_zero, Option.some.injEq] at hj; subst hj; rw [show 0 + i * 2 + 1 = i * 2 + 1 by omega, World.ownsRow.cellAt h (i * 2 + 1) (by omega)]; exact h2
theorem OwnL.nil (w : World) (B : Nat) : OwnL w B (.slice none 0 0) [] := World.ownsRow_nil _ _ _ _
end Go.Proofs.YtlfgemnmfhknfaaGreatDoor
namespace Go.Proofs.YtlfgemnmfhknfaaGreatDoor
open Go.RowKit Go.Proofs
theorem jfR {A : Type} [DecidableEq A] {l : List A} {i : Nat} {x y : A} (h : l[i]? = some y) : (l.drop i).any (fun z => decide (x = z)) = (decide (x = y) || (l.drop (i + 1)).any (fun z => decide (x = z))) := by
  have hi : i < l.length := (List.getElem?_eq_some_iff.1 h).1; have e : l[i] = y := (List.getElem?_eq_some_iff.1 h).2; rw [List.drop_eq_getElem_cons hi, e]; rfl
theorem jh4 {A : Type} [BEq A] [LawfulBEq A] [DecidableEq A] (l : List A) (x : A) : l.any (fun z => decide (x = z)) = l.contains x := by
  induction l with
  | nil => rfl
  | cons y l ih =>
    rw [List.any_cons, ih, List.contains_cons]
    by_cases h : x = y
    · subst h; simp
    · simp [h]
def IxP (w : World) (q : Bool) (e : Ending) (w' : World) : Prop := ∃ z : Int, e = .returned (.int .i64 z) ∧ decide (0 ≤ z) = q ∧ Below w.heap.size w w'
set_option maxHeartbeats 2000000 in
set_option maxRecDepth 100000 in
theorem jg4 (Q : Nat → Prop) (l : List Adr) (x : Adr) (a : Option Addr) (c : Nat) (w : World) (h : AdrsM Q w (.slice a l.length c) l) :
    Calls Tryz.prog 217 #[.slice a l.length c, .agg #[.string (S x.1), .string (S x.2)]] w (IxP w (l.any fun z => decide (x = z))) := by
  have hm : l.length ≤ maxLen := by obtain ⟨_, _, _, hm, _⟩ := h; exact hm
  unfold maxLen at hm; obtain ⟨W1, hW1⟩ : ∃ W1, W1 = w.alloc (.cells #[.string (S x.1), .string (S x.2)] 82) := ⟨_, rfl⟩; have HWE := hid hW1; have HB1 := hid (show Below w.heap.size w W1 by rw [hW1]; exact (Below.refl _ _).alloc (Nat.le_refl _) _); have c0 : W1.cell? ⟨w.heap.size, 0, none⟩ = some (.string (S x.1)) := by rw [hW1]; simp
  have c1 : W1.cell? ⟨w.heap.size, 1, none⟩ = some (.string (S x.2)) := by rw [hW1]; simp
  have HL := hid (h.next HB1.out); clear hW1 h; have HN : Hid ((l.any fun z => decide (x = z)) = (l.drop 0).any fun z => decide (x = z)) := rfl; obtain ⟨q, hq⟩ : ∃ q, q = l.any fun z => decide (x = z) := ⟨_, rfl⟩
  rw [← hq] at HN ⊢; clear hq; have HEQ := hid (jiX x); go_enter Tryz.func217, Tryz.ntmps217; go_wp2_with fail; rw [← HWE.out]; go_wp2
  go_loopw [8] (fun v wr => ∃ i : Nat, i ≤ l.length ∧ v = .int .i64 i ∧ Hid (wr.heap = W1.heap) ∧ Hid (Below w.heap.size w wr) ∧ Hid (q = (l.drop i).any fun z => decide (x = z))) (fun v _ => l.length - (intOf v).toNat)
  case atStart => exact ⟨0, Nat.zero_le _, rfl, rfl, HB1, HN⟩
  case round =>
    obtain ⟨i, hi, rfl, HW, HB, HI⟩ := hrel; have d0 := jhr c0 HW.out; have d1 := jhr c1 HW.out; have HLR := hid (HL.out.same HW.out)
    by_cases hlt : i < l.length
    · have i1 : (i : Int) < (l.length : Int) := by omega
      have i0 : (0 : Int) ≤ (i : Int) := by omega
      obtain ⟨y, hy⟩ : ∃ y, l[i]? = some y := ⟨_, List.getElem?_eq_getElem hlt⟩; have HS := hid (jfR (x := x) hy); obtain ⟨b, o, rfl, _, _, e0, e1⟩ := jdh HLR.out hy; have eq1 : ∀ w : World, (binOp .eql 82 (.agg #[.string (S x.1), .string (S x.2)]) (.agg #[.string (S y.1), .string (S y.2)])).run Tryz.prog w = .ok (.bool (decide (x = y))) w := HEQ.out y; clear hy
      by_cases hp : x = y
      · have HE := hid (show q = true by rw [HI.out, HS.out]; simp [hp]); have ed : decide (x = y) = true := by simp [hp]
        rw [ed] at eq1; clear hp ed; go_wp2
        go_quiet (fail)
        go_wp2; go_ret; exact ⟨_, rfl, by rw [HE.out]; simp, qa HB.out _⟩
      · have HE := hid (show q = (l.drop (i + 1)).any fun z => decide (x = z) by rw [HI.out, HS.out]; simp [hp]); have ed : decide (x = y) = false := by simp [hp]
        rw [ed] at eq1; clear hp ed; go_wp2
        go_quiet (fail)
        go_wp2
        go_roundw
        case rel => first | exact ⟨i + 1, by omega, by go_num, HW, qa HB.out _, HE⟩ | ((repeat apply Exists.intro); exact ⟨⟨i + 1, by omega, by go_num, HW, qa HB.out _, HE⟩, rfl⟩) | (refine ⟨trivial, ?_⟩; (repeat apply Exists.intro); exact ⟨⟨i + 1, by omega, by go_num, HW, qa HB.out _, HE⟩, rfl⟩)
        case measure => simp [intOf]; omega
    · have i1 : ¬ (i : Int) < (l.length : Int) := by omega
      have HE := hid (show q = false by rw [HI.out, List.drop_eq_nil_of_le (by omega)]; rfl); go_wp2; go_ret; exact ⟨_, rfl, by rw [HE.out]; rfl, HB.out⟩
set_option maxHeartbeats 2000000 in
set_option maxRecDepth 100000 in
theorem jgl (Q : Nat → Prop) (l : List (List UInt8)) (x : List UInt8) (a : Option Addr) (c : Nat) (w : World) (h : TxtsM Q w (.slice a l.length c) l) :
    Calls Tryz.prog 68 #[.slice a l.length c, .string (S x)] w (IxP w (l.any fun z => decide (x = z))) := by
  have hm : l.length ≤ maxLen := by obtain ⟨_, _, _, hm, _⟩ := h; exact hm
  unfold maxLen at hm; have HL := hid h; clear h; have HN : Hid ((l.any fun z => decide (x = z)) = (l.drop 0).any fun z => decide (x = z)) := rfl; obtain ⟨q, hq⟩ : ∃ q, q = l.any fun z => decide (x = z) := ⟨_, rfl⟩
  rw [← hq] at HN ⊢; clear hq; go_enter Tryz.func68, Tryz.ntmps68; go_wp2
  go_loopw [8] (fun v wr => ∃ i : Nat, i ≤ l.length ∧ v = .int .i64 i ∧ wr = w ∧ Hid (q = (l.drop i).any fun z => decide (x = z))) (fun v _ => l.length - (intOf v).toNat)
  case atStart => exact ⟨0, Nat.zero_le _, rfl, rfl, HN⟩
  case round =>
    obtain ⟨i, hi, rfl, rfl, HI⟩ := hrel
    by_cases hlt : i < l.length
    · have i1 : (i : Int) < (l.length : Int) := by omega
      have i0 : (0 : Int) ≤ (i : Int) := by omega
      obtain ⟨y, hy⟩ : ∃ y, l[i]? = some y := ⟨_, List.getElem?_eq_getElem hlt⟩; have HS := hid (jfR (x := x) hy); obtain ⟨b, o, rfl, _, _, e0⟩ := jlD HL.out hy; have eq1 := jmk x y; clear hy
      by_cases hp : x = y
      · have HE := hid (show q = true by rw [HI.out, HS.out]; simp [hp]); have ed : decide (x = y) = true := by simp [hp]
        rw [ed] at eq1; clear hp ed; go_wp2; go_ret; exact ⟨_, rfl, by rw [HE.out]; simp, Below.refl _ _⟩
      · have HE := hid (show q = (l.drop (i + 1)).any fun z => decide (x = z) by rw [HI.out, HS.out]; simp [hp]); have ed : decide (x = y) = false := by simp [hp]
        rw [ed] at eq1; clear hp ed; go_wp2
        go_roundw
        case rel => first | exact ⟨i + 1, by omega, by go_num, by first | rfl | trivial, HE⟩ | ((repeat apply Exists.intro); exact ⟨⟨i + 1, by omega, by go_num, by first | rfl | trivial, HE⟩, rfl⟩) | (refine ⟨trivial, ?_⟩; (repeat apply Exists.intro); exact ⟨⟨i + 1, by omega, by go_num, by first | rfl | trivial, HE⟩, rfl⟩)
        case measure => simp [intOf]; omega
    · have i1 : ¬ (i : Int) < (l.length : Int) := by omega
      have HE := hid (show q = false by rw [HI.out, List.drop_eq_nil_of_le (by omega)]; rfl); go_wp2; go_ret; exact ⟨_, rfl, by rw [HE.out]; rfl, Below.refl _ _⟩
set_option maxHeartbeats 1000000 in
theorem jaH (Q : Nat → Prop) (l : List Adr) (x : Adr) (a : Option Addr) (c : Nat) (w : World) (h : AdrsM Q w (.slice a l.length c) l) :
    Calls Tryz.prog 183 #[.slice a l.length c, .agg #[.string (S x.1), .string (S x.2)]] w fun e w' => e = .returned (.bool (l.contains x)) ∧ Below w.heap.size w w' := by
  have HB1 := hid (show Below w.heap.size w (w.alloc (.cells #[.string (S x.1), .string (S x.2)] 82)) from (Below.refl _ _).alloc (Nat.le_refl _) _); have HX := hid (jg4 Q l x a c _ (h.next HB1.out)); rw [← jh4]; clear h; go_enter Tryz.func183, Tryz.ntmps183; go_wp2_with fail; refine HX.out.mono ?_; rintro e u ⟨z, rfl, hz, hb⟩; have HZ := hid hz; have HB := hid hb; clear hz hb; go_wp2; go_ret; exact ⟨jc (by rw [← HZ.out]), jeT HB1.out HB.out (Nat.le_refl _)⟩
set_option maxHeartbeats 1000000 in
theorem jaq (Q : Nat → Prop) (l : List (List UInt8)) (x : List UInt8) (a : Option Addr) (c : Nat) (w : World) (h : TxtsM Q w (.slice a l.length c) l) :
    Calls Tryz.prog 39 #[.slice a l.length c, .string (S x)] w fun e w' => e = .returned (.bool (l.contains x)) ∧ Below w.heap.size w w' := by
  have HX := hid (jgl Q l x a c _ h); rw [← jh4]; clear h; go_enter Tryz.func39, Tryz.ntmps39; go_wp2_with fail; refine HX.out.mono ?_; rintro e u ⟨z, rfl, hz, hb⟩; have HZ := hid hz; have HB := hid hb; clear hz hb; go_wp2; go_ret; exact ⟨jc (by rw [← HZ.out]), HB.out⟩
theorem jk7 (l : List Adr) : ∀ u ∈ qf l, u.oneCell' = true := by
  intro u hu; obtain ⟨cs, hcs, hu⟩ := List.mem_flatten.1 hu; obtain ⟨m, _, rfl⟩ := List.mem_map.1 hcs; simp only [List.mem_cons, List.not_mem_nil, or_false] at hu
  rcases hu with rfl | rfl <;> rfl
theorem jfI : (Tryz.prog.info? 82).map (fun i => (i.zero, i.size, i.bytes)) = some (some (.agg #[.string ByteArray.empty, .string ByteArray.empty]), 2, 32) := by kernel_rfl
theorem je2 {Q : Nat → Prop} {w : World} {b o c : Nat} {l : List Adr} (h : AdrsM Q w (.slice (some ⟨b, o, none⟩) l.length c) l) : ∀ j u, (qf l)[j]? = some u → w.cell? ((⟨b, o, none⟩ : Addr).add j) = some u := by
  intro j u hj; have hlen : j < l.length * 2 := by rw [← qh]; exact (List.getElem?_eq_some_iff.1 hj).1
  obtain ⟨x, hx⟩ : ∃ x, l[j / 2]? = some x := ⟨_, List.getElem?_eq_getElem (by omega)⟩; obtain ⟨b', o', e, _, _, e0, e1⟩ := jdh h hx; simp only [Option.some.injEq, Addr.mk.injEq, and_true] at e; obtain ⟨rfl, rfl⟩ := e; obtain ⟨g0, g1⟩ := jcQ hx; rw [Addr.add_lit]
  rcases Nat.mod_two_eq_zero_or_one j with hm | hm
  · have ej : j = j / 2 * 2 := by omega
    rw [← ej] at g0 e0; rw [g0] at hj; rw [← hj]; exact e0
  · have ej : j = j / 2 * 2 + 1 := by omega
    rw [← ej] at g1; rw [show o + j / 2 * 2 + 1 = o + j by omega] at e1; rw [g1] at hj; rw [← hj]; exact e1
set_option maxHeartbeats 1000000 in
set_option maxRecDepth 100000 in
theorem jgv (Q : Nat → Prop) (l : List Adr) (v : Value) (w : World) (h : AdrsM Q w v l) (hn : l.length ≤ 1000) :
    Calls Tryz.prog 141 #[v] w fun e w' => ∃ v', e = .returned v' ∧ OwnL w' w.heap.size v' l ∧ Below w.heap.size w w' := by
  obtain ⟨i0, hi, hz0, hz1, hz2⟩ := info_parts jfI; have q22 : ∀ (w : World) (a : Option Addr) (n c n' c' : Nat), (binOp .eql 83 (.slice a n c) (.slice none n' c')).run Tryz.prog w = .ok (.bool a.isNone) w := fun w a n c n' c' => Lib.run_eql_slice_nil w _ _ a n c n' c' Tryz.underlying83
  obtain ⟨a, c, rfl, hm, hr⟩ := h; cases a with
  | none =>
    have hl : l = [] := by
      cases l with
      | nil => rfl
      | cons x t => obtain ⟨_, _, _, e, _⟩ := hr 0 x rfl; cases e
    subst hl; clear hr; go_enter Tryz.func141, Tryz.ntmps141; go_wp2; go_ret; exact ⟨_, rfl, OwnL.nil _ _, Below.refl _ _⟩
  | some ad =>
    have hc : ∀ j u, (qf l)[j]? = some u → w.cell? (ad.add j) = some u := by
      intro j u hj; have hlen : j < l.length * 2 := by rw [← qh]; exact (List.getElem?_eq_some_iff.1 hj).1
      obtain ⟨x, hx⟩ : ∃ x, l[0]? = some x := ⟨_, List.getElem?_eq_getElem (by omega)⟩; obtain ⟨b, o, cs, e, _⟩ := hr 0 x hx; simp only [Option.some.injEq] at e; subst e; exact je2 (c := c) (show AdrsM Q w (.slice (some ⟨b, o, none⟩) l.length c) l from ⟨some ⟨b, o, none⟩, c, rfl, hm, hr⟩) j u hj
    have HC := hid hc; have H1 := hid (jk7 l); have HL := hid (qh l); clear hc hr; go_enter Tryz.func141, Tryz.ntmps141
    go_wp2_with (at_builtin; refine wpList_append_own _ rfl _ _ 83 rfl w.heap.size 82 i0 _ 2 32 Tryz.underlying83 hi hz0 hz1 hz2 rfl (by decide) _ _ _ rfl (World.ownsRow_made w #[] 0 (Nat.le_refl _) (Nat.zero_le _) rfl) ad l.length c (qf l) rfl ?qc1 ?qc2 ?qc3 ?qc4 ?qc5 ?qc6 ?_)
    case qc1 => exact HL.out
    case qc2 => exact fun j u hj => Lib.cell?_alloc_some _ (HC.out j u hj)
    case qc3 => exact H1.out
    case qc4 => unfold maxLen; omega
    case qc5 => omega
    case qc6 => simp
    intro v' w1 hown hgrow hnil; have HO := hid hown; have HB := hid (show Below w.heap.size w w1 from ((Below.refl _ w).alloc (Nat.le_refl _) _).grown hgrow (by simp) (by intro k hk; simp [Value.ownBlock] at hk; omega)); clear hown hgrow hnil; go_wp2; go_ret; exact ⟨v', rfl, by unfold OwnL; simpa using HO.out, HB.out⟩
end Go.Proofs.YtlfgemnmfhknfaaGreatDoor
namespace Go.Proofs.YtlfgemnmfhknfaaGreatDoor
open Go.RowKit Go.Proofs
def sesV (s : Ses) (v : Value) : Value := .agg #[.int .i64 s.step, .string (S s.frm.1), .string (S s.frm.2), v, .string (S s.text), .bool s.large]
def jan (v : Value) : Prop := ∀ a n c, v = .slice a n c → n ≤ c
structure Fit (s : Ses) : Prop where
  one : s.frm.1.length ≤ 140737488355328
  two : s.frm.2.length ≤ 140737488355328
  txt : s.text.length ≤ 140737488355328
  lo : -9223372036854775808 ≤ s.step
  hi : s.step < 9223372036854775808
  tos : ∀ x ∈ s.to, x.1.length ≤ 140737488355328 ∧ x.2.length ≤ 140737488355328
theorem jh7 (a : List UInt8) : (S a).toList.isEmpty = a.isEmpty := by rw [Lib.toList_data, jo]
set_option maxHeartbeats 2000000 in
set_option maxRecDepth 100000 in
theorem jk3 (x : Adr) (w : World) : (binOp .eql 82 (.agg #[.string (S x.1), .string (S x.2)]) (.agg #[.string ⟨#[]⟩, .string ⟨#[]⟩])).run Tryz.prog w = .ok (.bool (x.1.isEmpty && x.2.isEmpty)) w := by
  have h := jiX x ([], []) w; have e : decide (x = ([], [])) = (x.1.isEmpty && x.2.isEmpty) := by
    obtain ⟨a, b⟩ := x; cases a <;> cases b <;> simp
  rw [e] at h; exact h
set_option maxHeartbeats 1000000 in
set_option maxRecDepth 100000 in
theorem jhe (s : Ses) (v : Value) (w : World) (hf : Fit s) :
    Calls Tryz.prog 176 #[sesV s v] w fun e w' => e = .returned (.bool (zj s)) ∧ Below w.heap.size w w' := by
  have HB1 := hid (show Below w.heap.size w (w.alloc (.cells #[.int .i64 s.step, .string (S s.frm.1), .string (S s.frm.2), v, .string (S s.text), .bool s.large] 85)) from (Below.refl _ _).alloc (Nat.le_refl _) _); have HC := hid (qF (S s.frm.1) (S s.frm.2) (w.alloc (.cells #[.int .i64 s.step, .string (S s.frm.1), .string (S s.frm.2), v, .string (S s.text), .bool s.large] 85)) (by rw [jf]; exact hf.one) (by rw [jf]; exact hf.two)); have HN := hid (jk3 s.frm); obtain ⟨k, hk⟩ : ∃ k, k = s.step := ⟨_, rfl⟩; unfold sesV; rw [← hk] at HB1 HC ⊢
  by_cases h : s.step < 2 ∨ 4 < s.step
  · have HS := hid (show zj s = (s.frm.1.isEmpty && s.frm.2.isEmpty) by unfold zj; rw [if_pos h]); have eq1 := HN.out; rw [← hk] at h; clear hk
    by_cases h2 : k < 2
    · clear h; go_enter Tryz.func176, Tryz.ntmps176; go_wp2; go_ret; exact ⟨jc HS.out.symm, HB1.out⟩
    · have h4 : 4 < k := by omega
      clear h; go_enter Tryz.func176, Tryz.ntmps176; go_wp2; go_ret; exact ⟨jc HS.out.symm, HB1.out⟩
  · have HS := hid (show zj s = qr s.frm by unfold zj; rw [if_neg h]); rw [← hk] at h; have h2 : ¬ k < 2 := by omega
    have h4 : ¬ 4 < k := by omega
    clear h hk; go_enter Tryz.func176, Tryz.ntmps176; go_wp2_with fail; refine HC.out.mono ?_; rintro e u ⟨rfl, hb⟩; have HB := hid (jeT HB1.out hb (Nat.le_refl _)); clear hb; go_wp2; go_ret; exact ⟨jc (by rw [HS.out, qr, jo, jo]; rfl), HB.out⟩
set_option maxHeartbeats 1000000 in
set_option maxRecDepth 100000 in
theorem jjq (s : Ses) (v : Value) (w : World) :
    Calls Tryz.prog 178 #[sesV s v] w fun e w' => e = .returned (.bool (jac s)) ∧ Below w.heap.size w w' := by
  have HB1 := hid (show Below w.heap.size w (w.alloc (.cells #[.int .i64 s.step, .string (S s.frm.1), .string (S s.frm.2), v, .string (S s.text), .bool s.large] 85)) from (Below.refl _ _).alloc (Nat.le_refl _) _); obtain ⟨k, hk⟩ : ∃ k, k = s.step := ⟨_, rfl⟩; obtain ⟨g, hg⟩ : ∃ g, g = s.large := ⟨_, rfl⟩; unfold sesV; rw [← hk, ← hg] at HB1 ⊢; have HZ := hid (jf s.text)
  by_cases h : s.step = 4
  · have HS := hid (show jac s = decide (s.text.length ≤ 2000) by unfold jac; rw [if_pos h]); rw [← hk] at h; subst h; clear hk hg; go_enter Tryz.func178, Tryz.ntmps178; go_wp2; go_ret; exact ⟨jc (by rw [HS.out, HZ.out]; simp; omega), HB1.out⟩
  · have HS := hid (show jac s = (s.text.isEmpty && !g) by unfold jac; rw [if_neg h, hg]); have hi := jh7 s.text; rw [← hk] at h; clear hk hg; cases hx : s.text.isEmpty with
    | true =>
      rw [hx] at hi HS; have hi2 : (S s.text).toList = [] := List.isEmpty_iff.1 hi; clear hx; go_enter Tryz.func178, Tryz.ntmps178; go_wp2; go_ret; exact ⟨jc (by rw [HS.out]; simp), HB1.out⟩
    | false =>
      rw [hx] at hi HS; have hi2 : ¬ (S s.text).toList = [] := fun e => by rw [e] at hi; cases hi
      clear hx; go_enter Tryz.func178, Tryz.ntmps178; go_wp2; go_ret; exact ⟨jc (by rw [HS.out]; simp), HB1.out⟩
theorem zL {w : World} {b : Nat} {v0 v1 v2 v3 v4 v5 : Value} {t : TypeId} (h : w.heap[b]? = some (.cells #[v0, v1, v2, v3, v4, v5] t)) :
    w.cell? ⟨b, 0, none⟩ = some v0 ∧ w.cell? ⟨b, 1, none⟩ = some v1 ∧ w.cell? ⟨b, 2, none⟩ = some v2 ∧ w.cell? ⟨b, 3, none⟩ = some v3 ∧ w.cell? ⟨b, 4, none⟩ = some v4 ∧ w.cell? ⟨b, 5, none⟩ = some v5 := by
  simp [World.cell?, h]
theorem qD {w : World} {b : Nat} {v0 v1 : Value} {t : TypeId} (h : w.heap[b]? = some (.cells #[v0, v1] t)) : w.cell? ⟨b, 0, none⟩ = some v0 ∧ w.cell? ⟨b, 1, none⟩ = some v1 := by
  simp [World.cell?, h]
theorem jah (l d : List UInt8) : jZ l d = 0 ∨ jZ l d = 1 ∨ jZ l d = 3 := by
  unfold jZ; split
  · simp
  · split <;> simp
set_option maxHeartbeats 2000000 in
set_option maxRecDepth 100000 in
theorem jiH (Q : Nat → Prop) (s : Ses) (v : Value) (w : World) (hf : Fit s) (hv : jan v) (ha : AdrsM Q w v s.to) :
    Calls Tryz.prog 177 #[sesV s v] w fun e w' => e = .returned (.bool (zT s)) ∧ Below w.heap.size w w' := by
  obtain ⟨a, c, rfl⟩ : ∃ a c, v = .slice a s.to.length c := by obtain ⟨a, c, h, _⟩ := ha; exact ⟨a, c, h⟩
  have hm : s.to.length ≤ maxLen := by obtain ⟨_, _, _, hm, _⟩ := ha; exact hm
  unfold maxLen at hm; have hcap : s.to.length ≤ c := hv _ _ _ rfl; clear hv; obtain ⟨W1, hW1⟩ : ∃ W1, W1 = w.alloc (.cells #[.int .i64 s.step, .string (S s.frm.1), .string (S s.frm.2), .slice a s.to.length c, .string (S s.text), .bool s.large] 85) := ⟨_, rfl⟩; have HWE := hid hW1; have hB1 : Below w.heap.size w W1 := by rw [hW1]; exact (Below.refl _ _).alloc (Nat.le_refl _) _
  have HB1 := hid hB1; have hX : W1.heap[w.heap.size]? = some (.cells #[.int .i64 s.step, .string (S s.frm.1), .string (S s.frm.2), .slice a s.to.length c, .string (S s.text), .bool s.large] 85) := by rw [hW1]; exact heap_alloc_new w _
  obtain ⟨x0, _, _, x3, _, _⟩ := zL hX; have HA := hid (ha.next hB1); have HF := hid hf.tos; clear ha hB1 hW1 hX hf; unfold sesV; obtain ⟨k, hk⟩ : ∃ k, k = s.step := ⟨_, rfl⟩; obtain ⟨r, hr⟩ : ∃ r, r = zT s := ⟨_, rfl⟩; have hr' := hr; unfold zT at hr'; rw [← hr]; rw [← hk] at HWE x0 hr' ⊢; clear hr hk
  by_cases h : k < 3 ∨ 4 < k
  · rw [if_pos h] at hr'; have HR := hid (show r = decide ((s.to.length : Int) = 0) by rw [hr']; cases s.to <;> simp <;> omega); clear hr'
    by_cases h3 : k < 3
    · clear h; go_enter Tryz.func177, Tryz.ntmps177; go_wp2_with fail; rw [← HWE.out]; go_wp2; go_ret; exact ⟨jc (by rw [HR.out]; rfl), HB1.out⟩
    · have h4 : 4 < k := by omega
      clear h; go_enter Tryz.func177, Tryz.ntmps177; go_wp2_with fail; rw [← HWE.out]; go_wp2; go_ret; exact ⟨jc (by rw [HR.out]; rfl), HB1.out⟩
  · rw [if_neg h] at hr'; have h3 : ¬ k < 3 := by omega
    have h4 : ¬ 4 < k := by omega
    clear h
    by_cases n1 : (s.to.length : Int) < 1
    · have HR := hid (show r = false by rw [hr']; simp; omega); clear hr'; go_enter Tryz.func177, Tryz.ntmps177; go_wp2_with fail; rw [← HWE.out]; go_wp2; go_ret; exact ⟨jc HR.out.symm, HB1.out⟩
    by_cases n5 : 5 < (s.to.length : Int)
    · have HR := hid (show r = false by rw [hr']; simp; omega); clear hr'; go_enter Tryz.func177, Tryz.ntmps177; go_wp2_with fail; rw [← HWE.out]; go_wp2; go_ret; exact ⟨jc HR.out.symm, HB1.out⟩
    have HR := hid (show r = jaf (s.to.take 0) (s.to.drop 0) by
      rw [hr', show decide (1 ≤ s.to.length) = true by simp; omega, show decide (s.to.length ≤ 5) = true by simp; omega]; rfl)
    clear hr'; go_enter Tryz.func177, Tryz.ntmps177; go_wp2_with fail; rw [← HWE.out]; go_wp2
    go_loopw [30] (fun v wr => ∃ i : Nat, i ≤ s.to.length ∧ v = .int .i64 i ∧ Hid (Below W1.heap.size W1 wr) ∧ Hid (r = jaf (s.to.take i) (s.to.drop i))) (fun v _ => s.to.length - (intOf v).toNat)
    case atStart => exact ⟨0, Nat.zero_le _, rfl, Below.refl _ _, HR⟩
    case round =>
      obtain ⟨i, hi, rfl, HB, HI⟩ := hrel; have y3 := ja x3 HB.out
      by_cases hlt : i < s.to.length
      · have i1 : (i : Int) < (s.to.length : Int) := by omega
        have i0 : (0 : Int) ≤ (i : Int) := by omega
        obtain ⟨x, hx⟩ : ∃ x, s.to[i]? = some x := ⟨_, List.getElem?_eq_getElem hlt⟩; have hAR := HA.out.next HB.out; have i2 : (i : Int) ≤ (c : Int) := by omega
        obtain ⟨p, o, rfl, _, _, e0, e1⟩ := jdh hAR hx; obtain ⟨W2, hW2⟩ : ∃ W2, W2 = wr.alloc (.cells #[.string (S x.1), .string (S x.2)] 82) := ⟨_, rfl⟩; have HWE2 := hid hW2; have hB2 : Below wr.heap.size wr W2 := by rw [hW2]; exact (Below.refl _ _).alloc (Nat.le_refl _) _
        obtain ⟨m0, m1⟩ := qD (show W2.heap[wr.heap.size]? = some (.cells #[.string (S x.1), .string (S x.2)] 82) by rw [hW2]; exact heap_alloc_new wr _); have z3 := ja y3 hB2; have hfx := HF.out x (List.mem_of_getElem? hx); have HDS := hid (jgX hx); have HCK := hid (fun u => qF (S x.1) (S x.2) u (by rw [jf]; exact hfx.1) (by rw [jf]; exact hfx.2)); have hlen : (s.to.take i).length = i := by rw [List.length_take]; omega
        have HCN := hid (fun u (hu : Below W2.heap.size W2 u) => by
          have := jaH Q (s.to.take i) x (some ⟨p, o, none⟩) c u (by rw [hlen]; exact RowM.takeR ((hAR.next hB2).next hu) i c (by omega)); rw [hlen] at this; exact this)
        have HB3 := hid (show Below W1.heap.size W1 W2 from HB.out.trans (hB2.mono HB.out.size)); have HAD := hid (show qr x = decide (jZ (S x.1).data.toList (S x.2).data.toList = 0) by rw [jo, jo]; rfl); obtain ⟨z, hz⟩ : ∃ z, z = jZ (S x.1).data.toList (S x.2).data.toList := ⟨_, rfl⟩; have HZ3 := hid (jah (S x.1).data.toList (S x.2).data.toList); rw [← hz] at HCK HAD HZ3; clear hW2 hB2 hAR hlen hx hfx hz; go_wp2; rw [← HWE2.out]
        by_cases hz : z = 0
        · subst hz; have HOK := hid (show qr x = true by rw [HAD.out]; rfl); obtain ⟨q, hq⟩ : ∃ q, q = (s.to.take i).contains x := ⟨_, rfl⟩; rw [← hq] at HCN HDS; clear hq
          go_cut [45] (fun c wx => c = .bool q ∧ Below W2.heap.size W2 wx)
          case first =>
            go_region_held3 (fun w' => w'.cell? ⟨wr.heap.size, 0, none⟩ = some (.string (S x.1)) ∧ w'.cell? ⟨wr.heap.size, 1, none⟩ = some (.string (S x.2)) ∧ w'.cell? ⟨w.heap.size, 3, none⟩ = some (.slice (some ⟨p, o, none⟩) s.to.length c)) (go_keep)
              (first
                | (go_at_call 183
                   with_reducible refine (HCN.out _ HB4.out).mono ?_
                   rintro e w4 ⟨rfl, hb⟩; have HB5 := hid (HB4.out.trans (hb.mono HB4.out.size)); have q0 := ja k0 hb; have q1 := ja k1 hb; have q3 := ja k3 hb; clear hb)
                | (go_at_call 38
                   with_reducible refine (HCK.out W2.drew).mono ?_
                   rintro e w3 ⟨rfl, hb⟩; have hb2 : Below W2.heap.size W2 w3 := (Below.refl _ _).drew.trans hb; have HB4 := hid hb2; have k0 := ja m0 hb2; have k1 := ja m1 hb2; have k3 := ja z3 hb2; clear hb hb2)
                | fail)
            all_goals
              go_wp2_with fail
              go_meet
              exact ⟨by first | rfl | simp, HB5.out⟩
          case rest =>
            obtain ⟨rfl, hb⟩ := hcut; have HB6 := hid (show Below W1.heap.size W1 wc from HB3.out.trans (hb.mono HB3.out.size)); have HB7 := hid (HB1.out.trans (HB6.out.mono HB1.out.size)); clear hb; cases q with
            | true =>
              have HE := hid (show r = false by rw [HI.out, HDS.out, HOK.out]; rfl); go_wp2; go_ret; exact ⟨jc HE.out.symm, HB7.out⟩
            | false =>
              have HE := hid (show r = jaf (s.to.take (i + 1)) (s.to.drop (i + 1)) by rw [HI.out, HDS.out, HOK.out]; rfl); go_wp2
              go_roundw
              case rel => first | exact ⟨i + 1, by omega, by go_num, HB6, HE⟩ | ((repeat apply Exists.intro); exact ⟨⟨i + 1, by omega, by go_num, HB6, HE⟩, rfl⟩) | (refine ⟨trivial, ?_⟩; (repeat apply Exists.intro); exact ⟨⟨i + 1, by omega, by go_num, HB6, HE⟩, rfl⟩)
              case measure => simp [intOf]; omega
        · have HE := hid (show r = false by rw [HI.out, HDS.out, HAD.out]; simp [hz]); have hz3 : z = 1 ∨ z = 3 := by
            rcases HZ3.out with h | h | h
            · exact absurd h hz
            · exact .inl h
            · exact .inr h
          clear hz; have HFin := hid (show ∀ u, Below W2.drew.heap.size W2.drew u → Below w.heap.size w u from fun u hu => by
            have h1 : Below W2.heap.size W2 u := ((Below.refl _ _).drew).trans hu; have h2 : Below W1.heap.size W1 u := HB3.out.trans (h1.mono HB3.out.size); exact HB1.out.trans (h2.mono HB1.out.size))
          rcases hz3 with rfl | rfl
          all_goals
            first
              | go_region_law
                  (first
                    | (go_simp
                       go_at_call 38
                       refine (HCK.out _).mono ?_; rintro e w3 ⟨rfl, hb⟩; have HB4 := hid (HFin.out w3 hb); clear hb)
                    | fail)
              | fail
            all_goals
              go_wp2; go_ret; exact ⟨jc HE.out.symm, HB4.out⟩
      · have i1 : ¬ (i : Int) < (s.to.length : Int) := by omega
        have HE := hid (show r = true by rw [HI.out, List.drop_eq_nil_of_le (by omega)]; rfl); have HB7 := hid (HB1.out.trans (HB.out.mono HB1.out.size)); go_wp2; go_ret; exact ⟨jc HE.out.symm, HB7.out⟩
set_option maxHeartbeats 2000000 in
set_option maxRecDepth 100000 in
theorem jjz (Q : Nat → Prop) (s : Ses) (v : Value) (w : World) (hf : Fit s) (hv : jan v) (ha : AdrsM Q w v s.to) :
    Calls Tryz.prog 140 #[sesV s v] w fun e w' => e = .returned (.bool (mayS s)) ∧ Below w.heap.size w w' := by
  obtain ⟨W1, hW1⟩ : ∃ W1, W1 = w.alloc (.cells #[.int .i64 s.step, .string (S s.frm.1), .string (S s.frm.2), v, .string (S s.text), .bool s.large] 85) := ⟨_, rfl⟩; have HWE := hid hW1; have hB1 : Below w.heap.size w W1 := by rw [hW1]; exact (Below.refl _ _).alloc (Nat.le_refl _) _
  have HB1 := hid hB1; have hX : W1.heap[w.heap.size]? = some (.cells #[.int .i64 s.step, .string (S s.frm.1), .string (S s.frm.2), v, .string (S s.text), .bool s.large] 85) := by rw [hW1]; exact heap_alloc_new w _
  have HX := hid hX; have HS1 := hid (jhe s v W1 hf); have HS2 := hid (fun u (hu : Below W1.heap.size W1 u) => jiH Q s v u hf hv ((ha.next hB1).next hu)); have HS3 := hid (fun u => jjq s v u); obtain ⟨x0, x1, x2, x3, x4, x5⟩ := zL hX; have HR := hid (show mayS s = (decide (0 ≤ s.step) && decide (s.step ≤ 5) && (zj s && zT s && jac s)) from rfl); obtain ⟨r, hr⟩ : ∃ r, r = mayS s := ⟨_, rfl⟩; obtain ⟨p1, hp1⟩ : ∃ p1, p1 = zj s := ⟨_, rfl⟩; obtain ⟨p2, hp2⟩ : ∃ p2, p2 = zT s := ⟨_, rfl⟩; obtain ⟨p3, hp3⟩ : ∃ p3, p3 = jac s := ⟨_, rfl⟩; rw [← hr] at HR ⊢; rw [← hp1] at HR HS1; rw [← hp2] at HR HS2; rw [← hp3] at HR HS3; clear hr hp1 hp2 hp3 ha hB1 hW1 hX hf hv; unfold sesV at HS1 HS2 HS3 ⊢; obtain ⟨k, hk⟩ : ∃ k, k = s.step := ⟨_, rfl⟩; rw [← hk] at HWE HX HS1 HS2 HS3 HR x0 ⊢; clear hk
  by_cases h0 : k < 0
  · have HE := hid (show r = false by rw [HR.out, show decide (0 ≤ k) = false by simp; omega]; rfl); go_enter Tryz.func140, Tryz.ntmps140; go_wp2_with fail; rw [← HWE.out]; go_wp2; go_ret; exact ⟨jc HE.out.symm, HB1.out⟩
  by_cases h5 : 5 < k
  · have HE := hid (show r = false by rw [HR.out, show decide (k ≤ 5) = false by simp; omega]; simp); go_enter Tryz.func140, Tryz.ntmps140; go_wp2_with fail; rw [← HWE.out]; go_wp2; go_ret; exact ⟨jc HE.out.symm, HB1.out⟩
  have HE := hid (show r = (p1 && p2 && p3) by rw [HR.out, show decide (0 ≤ k) = true by simp; omega, show decide (k ≤ 5) = true by simp; omega]; rfl); clear HR; go_enter Tryz.func140, Tryz.ntmps140; go_wp2_with fail; rw [← HWE.out]; go_wp2_with fail; refine HS1.out.mono ?_; rintro e w2 ⟨rfl, hb2⟩; have y0 := ja x0 hb2; have y1 := ja x1 hb2; have y2 := ja x2 hb2; have y3 := ja x3 hb2; have y4 := ja x4 hb2; have y5 := ja x5 hb2; have HB2 := hid (HB1.out.trans (hb2.mono HB1.out.size)); have HC2 := hid (HS2.out w2 hb2); cases p1 with
  | false =>
    clear hb2; go_wp2; go_ret; exact ⟨jc (by rw [HE.out]; rfl), HB2.out⟩
  | true =>
    have HB12 := hid hb2; clear hb2; go_wp2_with fail; refine HC2.out.mono ?_; rintro e w3 ⟨rfl, hb3⟩; have z0 := ja y0 hb3; have z1 := ja y1 hb3; have z2 := ja y2 hb3; have z3 := ja y3 hb3; have z4 := ja y4 hb3; have z5 := ja y5 hb3; have HB3 := hid (HB2.out.trans (hb3.mono HB2.out.size)); clear hb3; cases p2 with
    | false =>
      go_wp2; go_ret; exact ⟨jc (by rw [HE.out]; rfl), HB3.out⟩
    | true =>
      go_wp2_with fail; refine (HS3.out w3).mono ?_; rintro e w4 ⟨rfl, hb4⟩; have HB4 := hid (HB3.out.trans (hb4.mono HB3.out.size)); clear hb4; go_wp2; go_ret; exact ⟨jc (by rw [HE.out]; rfl), HB4.out⟩
set_option maxHeartbeats 1000000 in
set_option maxRecDepth 100000 in
theorem jfi (Q : Nat → Prop) (s : Ses) (v : Value) (w : World) (hf : Fit s) (hv : jan v) (ha : AdrsM Q w v s.to) :
    Calls Tryz.prog 107 #[sesV s v] w fun e w' => e = .returned (.int .i64 (if mayS s = true then 0 else 11)) ∧ Below w.heap.size w w' := by
  have HB1 := hid (show Below w.heap.size w (w.alloc (.cells #[.int .i64 s.step, .string (S s.frm.1), .string (S s.frm.2), v, .string (S s.text), .bool s.large] 85)) from (Below.refl _ _).alloc (Nat.le_refl _) _); have HM := hid (jjz Q s v _ hf hv (ha.next HB1.out)); clear hf hv ha; obtain ⟨r, hr⟩ : ∃ r, r = mayS s := ⟨_, rfl⟩; rw [← hr] at HM ⊢; clear hr; unfold sesV at HM ⊢; cases r with
  | true =>
    go_enter Tryz.func107, Tryz.ntmps107; go_wp2_with fail; refine HM.out.mono ?_; rintro e w2 ⟨rfl, hb⟩; have HB := hid (jeT HB1.out hb (Nat.le_refl _)); clear hb; go_wp2; go_ret; exact ⟨rfl, HB.out⟩
  | false =>
    go_enter Tryz.func107, Tryz.ntmps107; go_wp2_with fail; refine HM.out.mono ?_; rintro e w2 ⟨rfl, hb⟩; have HB := hid (jeT HB1.out hb (Nat.le_refl _)); clear hb; go_wp2; go_ret; exact ⟨rfl, HB.out⟩
end Go.Proofs.YtlfgemnmfhknfaaGreatDoor
namespace Go.Proofs.YtlfgemnmfhknfaaGreatDoor
open Go.RowKit
def qu (s : ByteArray) (n B k : Nat) (wr : World) : Prop :=
  ∃ cur : Array Value, wr.heap[B]? = some (.cells cur 5 (n, n + 1)) ∧ cur.size = n ∧ s.size ≤ n ∧
    (∀ j (h : j < s.size), j < k → cur[j]? = some (.int .u8 (low1 s[j]).toNat)) ∧ (∀ j (h : j < s.size), k ≤ j → cur[j]? = some (.int .u8 s[j].toNat))
theorem jcb (s : ByteArray) (w : World) (cap : Nat) :
    qu s (bytesRow s cap).size w.heap.size 0 (w.drew.alloc (.cells (bytesRow s cap) 5 ((bytesRow s cap).size, (bytesRow s cap).size + 1))) := by
  refine ⟨bytesRow s cap, ?_, rfl, ?_, fun j h hj => by omega, fun j h _ => ?_⟩
  · show (w.heap.push _)[w.heap.size]? = _
    simp
  · simp [bytesRow]
  · unfold bytesRow; have hj : j < (s.data.map (fun b => Value.int .u8 b.toNat)).size := by simpa using h
    rw [Array.getElem?_append_left hj, Array.getElem?_eq_getElem hj]
    simp
    rfl
theorem jdv {s : ByteArray} {n B k : Nat} {wr : World} (h : qu s n B k wr) (hk : k < s.size) : wr.cell? ⟨B, k, none⟩ = some (.int .u8 s[k].toNat) ∧ wr.frozen? ⟨B, k, none⟩ = false := by
  obtain ⟨cur, h1, h2, h3, h4, h5⟩ := h; exact ⟨(cell_of_row _ _ _ _ _ _ h1).trans (h5 k hk (Nat.le_refl _)), je9 h1 (by omega)⟩
theorem jdr {s : ByteArray} {n B k : Nat} {wr : World} (h : qu s n B k wr) (hk : k < s.size) (hl : low1 s[k] = s[k]) : qu s n B (k + 1) wr := by
  obtain ⟨cur, h1, h2, h3, h4, h5⟩ := h; refine ⟨cur, h1, h2, h3, fun j h hj => ?_, fun j h hj => h5 j h (by omega)⟩
  by_cases e : j = k
  · subst e; rw [h5 j h (Nat.le_refl _), hl]
  · exact h4 j h (by omega)
theorem jeg {s : ByteArray} {n B k : Nat} {wr : World} (h : qu s n B k wr) (hk : k < s.size) (x : Int) (hl : ((low1 s[k]).toNat : Int) = x) : qu s n B (k + 1) (wr.setCell ⟨B, k, none⟩ (.int .u8 x)) := by
  obtain ⟨cur, h1, h2, h3, h4, h5⟩ := h; refine ⟨_, ji _ h1, by simpa using h2, h3, fun j h hj => ?_, fun j h hj => ?_⟩
  · by_cases e : j = k
    · subst e; rw [Array.getElem?_setIfInBounds_self_of_lt (by omega), hl]
    · rw [Array.getElem?_setIfInBounds_ne (by omega)]; exact h4 j h (by omega)
  · rw [Array.getElem?_setIfInBounds_ne (by omega)]; exact h5 j h (by omega)
theorem jdd {s : ByteArray} {n B cap : Nat} {wr : World} (h : qu s n B s.size wr) :
    (convert 75 9 (.slice (some ⟨B, 0, none⟩) s.size cap)).run Tryz.prog wr = .ok (.string (low s)) wr := by
  obtain ⟨cur, h1, h2, h3, h4, h5⟩ := h; have hlen : (lowL s.data.toList).length = s.size := by rw [lowL, List.length_map]; exact size_list s
  have := run_convert_bytes_back (P := Tryz.prog) wr 75 9 5 ⟨B, 0, none⟩ cap (lowL s.data.toList) Tryz.underlying75 Tryz.underlying5 Tryz.underlying9 (fun j hj => by
    have hj' : j < s.size := by omega
    have e : (⟨B, 0, none⟩ : Addr).add j = ⟨B, j, none⟩ := by simp [Addr.add]; omega
    rw [e, cell_of_row _ _ _ _ _ _ h1, h4 j hj' hj']
    congr 2
    simp only [lowL, List.getElem_map]; rfl)
  rw [hlen] at this; exact this
set_option maxHeartbeats 400000 in
theorem jal (s : ByteArray) (w : World) (hs : s.size ≤ 4611686018427387904) :
    Calls Tryz.prog 212 #[.string s] w fun e w' => e = .returned (.string (low s)) ∧ Below w.heap.size w w' := by
  have hconv := run_bytes_of_string (P := Tryz.prog) w 9 75 5 s Tryz.underlying9 Tryz.underlying75 Tryz.underlying5; have hst := jcb s w (grownCap w s.size 0 5); have hbs : Below w.heap.size w (w.drew.alloc (.cells (bytesRow s (grownCap w s.size 0 5)) 5 ((bytesRow s (grownCap w s.size 0 5)).size, (bytesRow s (grownCap w s.size 0 5)).size + 1))) :=
    (Below.refl _ _).drew.alloc (by simp) _
  generalize grownCap w s.size 0 5 = cap at *; generalize bytesRow s cap = C at *; go_enter Tryz.func212, Tryz.ntmps212; go_wp2
  go_loopw [10] (fun i wr => ∃ k : Nat, k ≤ s.size ∧ i = .int .i64 k ∧ qu s C.size w.heap.size k wr ∧ Below w.heap.size w wr) (fun i _ => s.size - (intOf i).toNat)
  case atStart => exact ⟨0, Nat.zero_le _, rfl, hst, hbs⟩
  case round =>
    obtain ⟨k, hk, rfl, hL, hB⟩ := hrel; clear hst hbs hconv
    by_cases hlt : k < s.size
    · obtain ⟨hc, hf⟩ := jdv hL hlt; have hu := s[k].toNat_lt
      by_cases hg : 65 ≤ (s[k].toNat : Int) ∧ (s[k].toNat : Int) ≤ 90
      · have hnext := jeg hL hlt ((s[k].toNat : Int) - 65 + 97) (by have := jks hg; omega); obtain ⟨hg1, hg2⟩ := hg; have hB' := hB.setCell (p := ⟨w.heap.size, k, none⟩) (Nat.le_refl _) (.int .u8 ((s[k].toNat : Int) - 65 + 97)); have HN : Hid _ := hnext; have HB : Hid _ := hB'; clear hnext hB'; go_wp2
        go_roundw
        case rel => exact ⟨k + 1, by omega, by go_num, HN.out, HB.out⟩
        case measure => simp [intOf]; omega
      · have HN : Hid _ := jdr hL hlt (jls hg); go_wp2
        all_goals
          go_roundw
          case rel => exact ⟨k + 1, by omega, by go_num, HN.out, hB⟩
          case measure => simp [intOf]; omega
    · obtain rfl : k = s.size := by omega
      have hback := jdd (cap := cap) hL; go_wp2; go_ret; exact ⟨rfl, hB⟩
end Go.Proofs.YtlfgemnmfhknfaaGreatDoor
namespace Go.Proofs.YtlfgemnmfhknfaaGreatDoor
open Go.RowKit
set_option maxRecDepth 100000 in
set_option maxHeartbeats 400000 in
theorem jj7 (s p : ByteArray) (w : World) (hs : s.size ≤ 2000) (hp : p.size ≤ 100) :
    Calls Tryz.prog 181 #[.int .i64 1, .string s, .string p] w fun e w' => e = .returned (.tuple #[.bool ((low s).toList == (low p).toList), .int .i64 0]) ∧ Below w.heap.size w w' := by
  go_enter Tryz.func181, Tryz.ntmps181; go_wp2_with fail; refine (jal s _ (by omega)).mono ?_; rintro e w1 ⟨rfl, hb1⟩; go_wp2_with fail; refine (jal p _ (by omega)).mono ?_; rintro e w2 ⟨rfl, hb2⟩; go_wp2; go_ret2; exact ⟨rfl, hb1.trans (hb2.mono hb1.size)⟩
end Go.Proofs.YtlfgemnmfhknfaaGreatDoor
namespace Go.Proofs.YtlfgemnmfhknfaaGreatDoor
open Go.RowKit
set_option maxHeartbeats 1000000 in
theorem vU (s p : ByteArray) (w : World) :
    Calls Tryz.prog 156 #[.string s, .string p] w fun e w' => e = .returned (.bool (Lib.hasPrefix s.data.toList p.data.toList)) ∧ w' = w := by
  rw [← Lib.hasPrefix_of_take, ← Lib.size_eq, ← Lib.size_eq]; go_enter Tryz.func156, Tryz.ntmps156; go_wp2
  · rename_i h; go_ret; refine ⟨?_, rfl⟩
    show Ending.returned (Value.bool ((s.extract 0 p.size).toList == p.toList)) = _
    rw [Lib.extract_toList, Lib.toList_data]
    simp [h]
  · rename_i h; go_ret; refine ⟨?_, rfl⟩
    show Ending.returned (Value.bool false) = _
    simp [h]
theorem jc0 (l : List UInt8) (c : UInt8) : Lib.hasPrefix l [c] = (l.head? == some c) := by
  cases l with
  | nil => rfl
  | cons x t =>
    have e : (x == c) = (c == x) := by
      by_cases h : x = c
      · subst h; rfl
      · have h' : ¬ c = x := fun e => h e.symm
        rw [beq_eq_false_iff_ne.2 h, beq_eq_false_iff_ne.2 h']
    simp [Lib.hasPrefix, List.isPrefixOf, e]
set_option maxHeartbeats 1000000 in
theorem jga (s p : ByteArray) (w : World) (_hs : s.size ≤ 9223372036854775807) (h : Lib.hasPrefix s.data.toList p.data.toList = false) :
    Calls Tryz.prog 244 #[.string s, .string p] w fun e w' => e = .returned (.tuple #[.string s, .bool false]) ∧ w' = w := by
  have H : Hid _ := h; clear h; go_enter Tryz.func244, Tryz.ntmps244; go_wp2_with fail; refine (vU s p _).mono ?_; rintro e u ⟨rfl, hu⟩; have hu' := hu.symm; subst hu'; rw [H.out]; go_wp2
  all_goals go_ret2
  all_goals exact ⟨rfl, rfl⟩
set_option maxHeartbeats 1000000 in
theorem jeP (s p : ByteArray) (w : World) (_hs : s.size ≤ 9223372036854775807) (h : Lib.hasPrefix s.data.toList p.data.toList = true) :
    Calls Tryz.prog 244 #[.string s, .string p] w fun e w' => e = .returned (.tuple #[.string (s.extract p.size s.size), .bool true]) ∧ w' = w := by
  have hz : p.size ≤ s.size := by rw [Lib.size_eq, Lib.size_eq]; exact (List.isPrefixOf_iff_prefix.1 h).length_le
  have hz' : (p.size : Int) ≤ (s.size : Int) := by omega
  have H : Hid _ := h; clear h; go_enter Tryz.func244, Tryz.ntmps244; go_wp2_with fail; refine (vU s p _).mono ?_; rintro e u ⟨rfl, hu⟩; have hu' := hu.symm; subst hu'; rw [H.out]; go_wp2
  all_goals go_ret2
  all_goals exact ⟨rfl, rfl⟩
set_option maxHeartbeats 1000000 in
theorem jiu (s p : ByteArray) (w : World) (_hs : s.size ≤ 9223372036854775807) (h : Lib.hasPrefix s.data.toList p.data.toList = false) :
    Calls Tryz.prog 215 #[.string s, .string p] w fun e w' => e = .returned (.tuple #[.string s, .bool false]) ∧ w' = w := by
  go_enter Tryz.func215, Tryz.ntmps215; go_wp2_with fail; refine (jga s p _ _hs h).mono ?_; rintro e u ⟨rfl, hu⟩; have hu' := hu.symm; subst hu'; go_wp2
  all_goals go_ret2
  all_goals exact ⟨rfl, rfl⟩
set_option maxHeartbeats 1000000 in
theorem jf7 (s p : ByteArray) (w : World) (_hs : s.size ≤ 9223372036854775807) (h : Lib.hasPrefix s.data.toList p.data.toList = true) :
    Calls Tryz.prog 215 #[.string s, .string p] w fun e w' => e = .returned (.tuple #[.string (s.extract p.size s.size), .bool true]) ∧ w' = w := by
  go_enter Tryz.func215, Tryz.ntmps215; go_wp2_with fail; refine (jeP s p _ _hs h).mono ?_; rintro e u ⟨rfl, hu⟩; have hu' := hu.symm; subst hu'; go_wp2
  all_goals go_ret2
  all_goals exact ⟨rfl, rfl⟩
set_option maxHeartbeats 1000000 in
theorem jcs (s p : ByteArray) (w : World) (hs : s.size ≤ 9223372036854775807) :
    Calls Tryz.prog 264 #[.string s, .string p] w fun e w' => e = .returned (.bool (Lib.hasSuffix s.data.toList p.data.toList)) ∧ w' = w := by
  rw [← Lib.hasSuffix_raw]; have hlo : p.size ≤ s.size → ((s.size : Int) - (p.size : Int) + 9223372036854775808) % 18446744073709551616 - 9223372036854775808 = ((s.size - p.size : Nat) : Int) := fun _ => by omega
  go_enter Tryz.func264, Tryz.ntmps264; go_wp2
  · have h : p.size ≤ s.size := by assumption
    go_ret; refine ⟨?_, rfl⟩
    show Ending.returned (Value.bool ((s.extract (s.size - p.size) s.size).toList == p.toList)) = _
    simp [h]
  · have h : ¬ p.size ≤ s.size := by assumption
    go_ret; refine ⟨?_, rfl⟩
    show Ending.returned (Value.bool false) = _
    simp [h]
set_option maxHeartbeats 1000000 in
theorem jhj (s p : ByteArray) (w : World) (_hs : s.size ≤ 9223372036854775807) (h : Lib.hasSuffix s.data.toList p.data.toList = false) :
    Calls Tryz.prog 245 #[.string s, .string p] w fun e w' => e = .returned (.tuple #[.string s, .bool false]) ∧ w' = w := by
  have H : Hid _ := h; clear h; go_enter Tryz.func245, Tryz.ntmps245; go_wp2_with fail; refine (jcs s p _ _hs).mono ?_; rintro e u ⟨rfl, hu⟩; have hu' := hu.symm; subst hu'; rw [H.out]; go_wp2
  all_goals go_ret2
  all_goals exact ⟨rfl, rfl⟩
set_option maxHeartbeats 1000000 in
theorem jeY (s p : ByteArray) (w : World) (_hs : s.size ≤ 9223372036854775807) (h : Lib.hasSuffix s.data.toList p.data.toList = true) :
    Calls Tryz.prog 245 #[.string s, .string p] w fun e w' => e = .returned (.tuple #[.string (s.extract 0 (s.size - p.size)), .bool true]) ∧ w' = w := by
  have hz : p.size ≤ s.size := by rw [Lib.size_eq, Lib.size_eq]; exact (List.isSuffixOf_iff_suffix.1 h).length_le
  have hlo : ((s.size : Int) - (p.size : Int) + 9223372036854775808) % 18446744073709551616 - 9223372036854775808 = ((s.size - p.size : Nat) : Int) := by omega
  have hlo2 : IntKind.i64.wrap ((s.size : Int) - (p.size : Int)) = ((s.size - p.size : Nat) : Int) := by simp only [IntKind.wrap_i64]; omega
  have hz' : (p.size : Int) ≤ (s.size : Int) := by omega
  have H : Hid _ := h; clear h; go_enter Tryz.func245, Tryz.ntmps245; go_wp2_with fail; refine (jcs s p _ _hs).mono ?_; rintro e u ⟨rfl, hu⟩; have hu' := hu.symm; subst hu'; rw [H.out]; go_wp2
  all_goals go_ret2
  all_goals exact ⟨rfl, rfl⟩
set_option maxHeartbeats 1000000 in
theorem jhW (s p : ByteArray) (w : World) (_hs : s.size ≤ 9223372036854775807) (h : Lib.hasSuffix s.data.toList p.data.toList = false) :
    Calls Tryz.prog 216 #[.string s, .string p] w fun e w' => e = .returned (.tuple #[.string s, .bool false]) ∧ w' = w := by
  go_enter Tryz.func216, Tryz.ntmps216; go_wp2_with fail; refine (jhj s p _ _hs h).mono ?_; rintro e u ⟨rfl, hu⟩; have hu' := hu.symm; subst hu'; go_wp2
  all_goals go_ret2
  all_goals exact ⟨rfl, rfl⟩
set_option maxHeartbeats 1000000 in
theorem jgE (s p : ByteArray) (w : World) (_hs : s.size ≤ 9223372036854775807) (h : Lib.hasSuffix s.data.toList p.data.toList = true) :
    Calls Tryz.prog 216 #[.string s, .string p] w fun e w' => e = .returned (.tuple #[.string (s.extract 0 (s.size - p.size)), .bool true]) ∧ w' = w := by
  go_enter Tryz.func216, Tryz.ntmps216; go_wp2_with fail; refine (jeY s p _ _hs h).mono ?_; rintro e u ⟨rfl, hu⟩; have hu' := hu.symm; subst hu'; go_wp2
  all_goals go_ret2
  all_goals exact ⟨rfl, rfl⟩
theorem jk9 (l : List UInt8) (c : UInt8) : Lib.hasSuffix l [c] = (l.getLast? == some c) := by
  have h : Lib.hasSuffix l [c] = Lib.hasPrefix l.reverse [c] := by
    simp [Lib.hasSuffix, Lib.hasPrefix, List.isSuffixOf]
  rw [h, jc0, List.head?_reverse]
set_option maxHeartbeats 1000000 in
theorem jej (s : ByteArray) (w : World) :
    Calls Tryz.prog 180 #[.string s, .string ⟨#[46]⟩] w fun e w' => e = .returned (.string (S (qE s.data.toList))) ∧ w' = w := by
  have hp := jc0 s.data.toList 46; cases h : (s.data.toList.head? == some 46) with
  | false =>
    rw [h] at hp; have H : Hid _ := hp; have HU : Hid (S (qE s.data.toList) = s) := by
      unfold Hid; cases hl : s.data.toList with
      | nil => rw [show qE [] = s.data.toList by rw [hl]; rfl]; rfl
      | cons c t =>
        have hc : ¬ c = 46 := by rw [hl] at h; simpa using h
        rw [show qE (c :: t) = s.data.toList by rw [hl]; simp [qE, hc]]; rfl
    clear h hp; go_enter Tryz.func180, Tryz.ntmps180; go_wp2_with fail; refine (vU s _ _).mono ?_; rintro e u ⟨rfl, hu⟩; have hu' := hu.symm; subst hu'; rw [H.out]; go_wp2; go_ret; exact ⟨by rw [HU.out]; rfl, rfl⟩
  | true =>
    rw [h] at hp; have H : Hid _ := hp; have HU : Hid (S (qE s.data.toList) = s.extract 1 s.size ∧ 1 ≤ s.size) := by
      unfold Hid; cases hl : s.data.toList with
      | nil => rw [hl] at h; cases h
      | cons c t =>
        have hc : c = 46 := by rw [hl] at h; simpa using h
        have e : s = S (c :: t) := by rw [← hl]; rfl
        have e2 : qE (c :: t) = (c :: t).drop 1 := by simp [qE, hc]
        constructor
        · rw [e, zP, e2]
        · rw [e, jf]; simp
    have hz : (1 : Int) ≤ (s.size : Int) := by have := HU.out.2; omega
    clear h hp; go_enter Tryz.func180, Tryz.ntmps180; go_wp2_with fail; refine (vU s _ _).mono ?_; rintro e u ⟨rfl, hu⟩; have hu' := hu.symm; subst hu'; rw [H.out]; go_wp2; go_ret; exact ⟨by rw [HU.out.1]; rfl, rfl⟩
set_option maxHeartbeats 1000000 in
theorem jfa (s : ByteArray) (w : World) :
    Calls Tryz.prog 143 #[.string s, .string ⟨#[46]⟩] w fun e w' => e = .returned (.string (S (qE s.data.toList))) ∧ w' = w := by
  go_enter Tryz.func143, Tryz.ntmps143; go_wp2_with fail; refine (jej s _).mono ?_; rintro e u ⟨rfl, hu⟩; have hu' := hu.symm; subst hu'; go_wp2; go_ret; exact ⟨rfl, rfl⟩
end Go.Proofs.YtlfgemnmfhknfaaGreatDoor
namespace Go.Proofs.YtlfgemnmfhknfaaGreatDoor
open Go.RowKit
def jjd (s : ByteArray) : Value := if s.size ≤ 2000 then .tuple #[.string (low s), .int .i64 0] else .tuple #[.string .empty, .int .i64 1]
set_option maxHeartbeats 400000 in
theorem jjK (s : ByteArray) (w : World) :
    Calls Tryz.prog 184 #[.string s] w fun e w' => e = .returned (jjd s) ∧ Below w.heap.size w w' := by
  by_cases h : s.size ≤ 2000
  · go_enter Tryz.func184, Tryz.ntmps184
    go_wp2_with (go_at_call 212; refine (jal _ _ (by omega)).mono ?_; rintro e w1 ⟨rfl, hb⟩)
    go_ret2; exact ⟨by rw [jjd, if_pos h]; rfl, hb⟩
  · go_enter Tryz.func184, Tryz.ntmps184
    go_wp2_with (go_at_call 212; refine (jal _ _ (by omega)).mono ?_; rintro e w1 ⟨rfl, hb⟩)
    go_ret2; exact ⟨by rw [jjd, if_neg h]; rfl, Below.refl _ _⟩
end Go.Proofs.YtlfgemnmfhknfaaGreatDoor
namespace Go.Proofs.YtlfgemnmfhknfaaGreatDoor
open Go.RowKit Go.Proofs
def SB (w : World) (b : Nat) (s : Ses) (v lv : Value) : Prop := w.heap[b]? = some (.cells #[.int .i64 s.step, .string (S s.frm.1), .string (S s.frm.2), v, .string (S s.text), .bool s.large, lv] 185)
def SesW (w : World) (b B : Nat) (s : Ses) (lv : Value) : Prop := ∃ v, SB w b s v lv ∧ OwnL w B v s.to
theorem j5 {w : World} {p j : Nat} {cs : Array Value} {u : Value} {t : TypeId} (h : w.heap[p]? = some (.cells cs t)) : (w.setCell ⟨p, j, none⟩ u).heap[p]? = some (.cells (cs.setIfInBounds j u) t) := heap_setCell_same w p j cs t u h
theorem zz {w : World} {p : Nat} {v0 v1 v2 v3 v4 v5 v6 : Value} {t : TypeId} (h : w.heap[p]? = some (.cells #[v0, v1, v2, v3, v4, v5, v6] t)) :
    (w.cell? ⟨p, 0, none⟩ = some v0 ∧ w.cell? ⟨p, 1, none⟩ = some v1 ∧ w.cell? ⟨p, 2, none⟩ = some v2 ∧ w.cell? ⟨p, 3, none⟩ = some v3 ∧ w.cell? ⟨p, 4, none⟩ = some v4 ∧ w.cell? ⟨p, 5, none⟩ = some v5 ∧ w.cell? ⟨p, 6, none⟩ = some v6) ∧ ∀ j, w.frozen? ⟨p, j, none⟩ = false := by
  simp [World.cell?, World.frozen?, h]
theorem jl2 {w w' : World} {p n : Nat} {o : Obj} (hb : Below n w w') (h : w.heap[p]? = some o) (hn : p < n) : w'.heap[p]? = some o := (hb.block p hn).trans h
theorem jS {w w' : World} {p : Nat} {o : Obj} (hb : Below w.heap.size w w') (h : w.heap[p]? = some o) : w'.heap[p]? = some o := (hb.block p (Array.getElem?_eq_some_iff.1 h).1).trans h
theorem jQ {w w' : World} {B : Nat} {v : Value} {l : List Adr} (h : OwnL w B v l) (hb : Below w.heap.size w w') : OwnL w' B v l := by
  unfold OwnL at *; refine ⟨h.1, ?_⟩
  rcases h.2 with h' | ⟨g, cap, cur, hv, hB, hg, hr⟩
  · exact .inl h'
  · exact .inr ⟨g, cap, cur, hv, hB, (hb.block g (Array.getElem?_eq_some_iff.1 hg).1).trans hg, hr⟩
theorem zG {w : World} {B b j : Nat} {v u : Value} {l : List Adr} {cs : Array Value} (h : OwnL w B v l) (hb : w.heap[b]? = some (.cells cs 185)) : OwnL (w.setCell ⟨b, j, none⟩ u) B v l := by
  unfold OwnL at *; refine ⟨h.1, ?_⟩
  rcases h.2 with h' | ⟨g, cap, cur, hv, hB, hg, hr⟩
  · exact .inl h'
  · refine .inr ⟨g, cap, cur, hv, hB, ?_, hr⟩; have hne : g ≠ b := fun e => by rw [e, hb] at hg; simp at hg
    exact (Below.heap_setCell _ _ _ _ hne).trans hg
def ObP (n b B : Nat) (w : World) (r : Ses × Int) (lv : Value) (e : Ending) (w' : World) : Prop := e = .returned (.int .i64 r.2) ∧ SesW w' b B r.1 lv ∧ Below n w w'
def DoP' (n b B : Nat) (w : World) (r : Ses) (lv : Value) (e : Ending) (w' : World) : Prop := e = .returned (.tuple #[]) ∧ SesW w' b B r lv ∧ Below n w w'
theorem six7 {W : World} {p : Nat} {u0 u1 u2 u3 u4 u5 u6 v0 v1 v2 v3 v4 v5 : Value} {t : TypeId} (h : W.heap[p]? = some (.cells #[u0, u1, u2, u3, u4, u5, u6] t)) : ((((((W.setCell ⟨p, 0, none⟩ v0).setCell ⟨p, 1, none⟩ v1).setCell ⟨p, 2, none⟩ v2).setCell ⟨p, 3, none⟩ v3).setCell ⟨p, 4, none⟩ v4).setCell ⟨p, 5, none⟩ v5).heap[p]? = some (.cells #[v0, v1, v2, v3, v4, v5, u6] t) := by
  have := j5 (j := 5) (u := v5) (j5 (j := 4) (u := v4) (j5 (j := 3) (u := v3) (j5 (j := 2) (u := v2) (j5 (j := 1) (u := v1) (j5 (j := 0) (u := v0) h))))); simp only [List.setIfInBounds_toArray, List.set_cons_succ, List.set_cons_zero] at this; exact this
theorem low7 {B p : Nat} (W : World) (v0 v1 v2 v3 v4 v5 : Value) (hp : B ≤ p) : Below B W ((((((W.setCell ⟨p, 0, none⟩ v0).setCell ⟨p, 1, none⟩ v1).setCell ⟨p, 2, none⟩ v2).setCell ⟨p, 3, none⟩ v3).setCell ⟨p, 4, none⟩ v4).setCell ⟨p, 5, none⟩ v5) := by
  have h0 := (Below.refl B W).setCell (p := ⟨p, 0, none⟩) hp v0; have h1 := h0.setCell (p := ⟨p, 1, none⟩) hp v1; have h2 := h1.setCell (p := ⟨p, 2, none⟩) hp v2; have h3 := h2.setCell (p := ⟨p, 3, none⟩) hp v3; have h4 := h3.setCell (p := ⟨p, 4, none⟩) hp v4; exact h4.setCell (p := ⟨p, 5, none⟩) hp v5
def je6 (w : World) (b : Nat) (k : Int) : World := (((((w.setCell ⟨b, 0, none⟩ (.int .i64 k)).setCell ⟨b, 1, none⟩ (.string ⟨#[]⟩)).setCell ⟨b, 2, none⟩ (.string ⟨#[]⟩)).setCell ⟨b, 3, none⟩ (.slice none 0 0)).setCell ⟨b, 4, none⟩ (.string ⟨#[]⟩)).setCell ⟨b, 5, none⟩ (.bool false)
theorem jeo {w : World} {b : Nat} {s : Ses} {v lv : Value} (h : SB w b s v lv) (k : Int) : SB (je6 w b k) b (atS k) (.slice none 0 0) lv := six7 h
theorem jdz {n b : Nat} (w : World) (hn : n ≤ b) (k : Int) : Below n w (je6 w b k) := low7 _ _ _ _ _ _ _ hn
theorem jgy {w : World} {b g : Nat} (k : Int) (hg : g ≠ b) : (je6 w b k).heap[g]? = w.heap[g]? := by
  unfold je6; rw [Below.heap_setCell _ _ _ _ hg, Below.heap_setCell _ _ _ _ hg, Below.heap_setCell _ _ _ _ hg, Below.heap_setCell _ _ _ _ hg, Below.heap_setCell _ _ _ _ hg, Below.heap_setCell _ _ _ _ hg]
set_option maxHeartbeats 1000000 in
set_option maxRecDepth 100000 in
theorem jcA (b : Nat) (k : Int) (s : Ses) (v lv : Value) (w : World) (h : SB w b s v lv) :
    Calls Tryz.prog 179 #[.pointer (some ⟨b, 0, none⟩), .int .i64 k] w fun e w' => e = .returned (.tuple #[]) ∧ w' = je6 w b k := by
  obtain ⟨⟨x0, x1, x2, x3, x4, x5, x6⟩, hfz⟩ := zz h; have f0 := hfz 0; have f1 := hfz 1; have f2 := hfz 2; have f3 := hfz 3; have f4 := hfz 4; have f5 := hfz 5; clear hfz h; go_enter Tryz.func179, Tryz.ntmps179; go_wp2; go_end0; exact ⟨rfl, rfl⟩
theorem jaQ (n b B : Nat) (k : Int) (s : Ses) (v lv : Value) (w : World) (h : SB w b s v lv) (hn : n ≤ b) :
    Calls Tryz.prog 179 #[.pointer (some ⟨b, 0, none⟩), .int .i64 k] w (DoP' n b B w (atS k) lv) := by
  refine (jcA b k s v lv w h).mono ?_; rintro e u ⟨rfl, rfl⟩; exact ⟨rfl, ⟨_, jeo h k, OwnL.nil _ _⟩, jdz _ hn k⟩
end Go.Proofs.YtlfgemnmfhknfaaGreatDoor
