/-
  How an argument that holds fields is read: a slice of pairs of texts; a message; and how great it can be where its bulk is bounded.
  How an argument that holds raw lines is read; what the message that is made of them is.
  The letter that a law makes of raw bytes: what it is, and that it may be, as far as no judge is named.
  The letter that a law makes of raw bytes: what it is, and that it may be.
-/
import Derived.Test.YtaapmpchcfcniaaGreatDoorYLetPar
import Derived.Deep.SlicePairs
import Derived.Lib.SmallJoins
import Derived.ProofKit
import Derived.OpenShut
import Derived.Test.YtaapmpchcfcniaaGreatDoorYQKeepMsg4
import Derived.Test.YtaapmpchcfcniaaGreatDoorYQPure2
import Derived.Test.YtaapmpchcfcniaaGreatDoorYQJudChk5
namespace Go.Proofs.YtaapmpchcfcniaaGreatDoor
open Go.RowKit Go.Deep Go.Joins Go.ChangeShapes Go.WideShapes
def jmA {H : Type} (f : F) : DataW H := .agg [.lit (.string f.1), .lit (.string f.2)]
theorem jgm {H : Type} {enc : TypeId × Value → H} {P : Program} {w : World} {base : Nat} {spare : Nat → Bool} {held : Bool} {t e : TypeId} {f0 f1 : Field} {fuel : Nat} {v : Value} {x : DataW H × List MemPlace}
    (ht : P.underlying t = some (.slice e)) (he : P.underlying e = some (.struct #[f0, f1])) (ce : P.cellsOf e = 2) (o0 : f0.offset = 0) (o1 : f1.offset = 1) (c0 : P.cellsOf f0.type = 1) (c1 : P.cellsOf f1.type = 1)
    (s0 : P.underlying f0.type = some .string) (s1 : P.underlying f1.type = some .string)
    (h : DataW.trod enc P w base spare held fuel t [v] = some x) :
    ∃ a c, ∃ fs : List F, v = .slice a fs.length c ∧ FieldsAt w a fs ∧ fs.length ≤ maxLen ∧ (∀ f ∈ fs, f.1.length ≤ maxLen ∧ f.2.length ≤ maxLen) ∧ ((x.1 = .nil ∧ fs = []) ∨ ∃ sp, x.1 = .slice (fs.map jmA) sp) := by
  rcases open_slice_pairs ht he ce o0 o1 c0 c1 h with ⟨hcs, rfl⟩ | ⟨a, len, cap, m, n, V0, V1, D0, D1, P0, P1, hcs, hb, hl, hm, hmm, rfl, hx⟩
  · simp only [List.cons.injEq, and_true] at hcs; exact ⟨none, 0, [], hcs, by intro i f hf; simp at hf, by simp, by simp, .inl ⟨rfl, rfl⟩⟩
  simp only [List.cons.injEq, and_true] at hcs; subst hcs; have hlm : len ≤ m := by rw [hmm]; split <;> omega
  have each : ∀ i, i < len → ∃ f : F, w.cell? (a.add (i * 2)) = some (.string (S f.1)) ∧ w.cell? (a.add (i * 2 + 1)) = some (.string (S f.2)) ∧ D0 i = .lit (.string f.1) ∧ D1 i = .lit (.string f.2) ∧ f.1.length ≤ maxLen ∧ f.2.length ≤ maxLen := by
    intro i hi; obtain ⟨h1, h2, h3, h4⟩ := hx i (by omega); obtain ⟨y0, e0, g0, k0⟩ := DataW.trod_string s0 h3; obtain ⟨y1, e1, g1, k1⟩ := DataW.trod_string s1 h4; simp only [List.cons.injEq, and_true] at e0 e1; simp only [Prod.mk.injEq] at g0 g1; refine ⟨(y0.data.toList, y1.data.toList), ?_, ?_, g0.1, g1.1, by rw [size_list]; exact k0, by rw [size_list]; exact k1⟩
    · rw [h1, e0, qe]
    · rw [h2, e1, qe]
  obtain ⟨q, hq⟩ := choose_lt each; refine ⟨some a, cap, (List.range len).map q, by simp, ?_, by simp; omega, ?_, .inr ⟨(List.range (m - len)).map fun j => .agg [D0 (len + j), D1 (len + j)], ?_⟩⟩
  · intro i f hf; have hi : i < len := by
      rcases Nat.lt_or_ge i len with h | h
      · exact h
      · rw [List.getElem?_eq_none (by simpa using h)] at hf; cases hf
    rw [List.getElem?_map, List.getElem?_range hi] at hf; simp only [Option.map_some, Option.some.injEq] at hf; subst hf; obtain ⟨h1, h2, _⟩ := hq i hi; obtain ⟨b, off, spot⟩ := a; have hspot : spot = none := by
      have := World.cell?_spot (hq 0 (by omega)).1
      simpa [Addr.add] using this
    subst hspot; rw [Addr.add_lit] at h1 h2; exact ⟨b, off, rfl, World.block_lt_of_cell? w _ h1, h1, by rw [Nat.add_assoc]; exact h2⟩
  · intro f hf; obtain ⟨i, hi, rfl⟩ := List.mem_map.1 hf; exact (hq i (List.mem_range.1 hi)).2.2.2.2
  · rw [List.map_map]
    show DataW.slice _ _ = DataW.slice _ _
    congr 1
    refine List.map_congr_left fun i hi => ?_
    obtain ⟨_, _, h1, h2, _⟩ := hq i (List.mem_range.1 hi)
    simp [jmA, h1, h2]
end Go.Proofs.YtaapmpchcfcniaaGreatDoor
namespace Go.Proofs.YtaapmpchcfcniaaGreatDoor
open Go.RowKit Go.Deep Go.Joins Go.ChangeShapes Go.WideShapes
set_option maxRecDepth 100000 in
theorem jgM (c : UInt8) : qZ (jgL c) = true := by
  have h := jb0 c; have h2 : (jgL c).toNat = 97 + c.toNat % 26 := by omega
  have h3 : jgL c ≠ 58 := fun e => by rw [e] at h2; simp at h2; omega
  simp [qZ, h2, h3]; omega
set_option maxRecDepth 100000 in
theorem jiP (l : List UInt8) : zK (zN l) = true := by
  unfold zN; split
  · decide
  · rename_i h; have : jba l 8 ≠ [] := by
      unfold jba; intro e; have := congrArg List.length e
      simp at this
      exact h this
    simp only [zK, Bool.and_eq_true, Bool.not_eq_true', List.all_eq_true]; refine ⟨by cases hw : jba l 8 with | nil => exact absurd hw this | cons a t => rfl, fun x hx => ?_⟩; obtain ⟨c, _, rfl⟩ := List.mem_map.1 hx; exact jgM c
set_option maxRecDepth 100000 in
theorem jd0 {n i : Nat} {c : UInt8} (h : i = 0 ∨ i + 1 = n ∨ i = 39) : jA (valC n i c) = false := by
  unfold valC; split
  · decide
  · rename_i hn; simp only [not_or, not_and] at hn; unfold jA; simp only [Bool.or_eq_false_iff, beq_eq_false_iff_ne]; refine ⟨fun e => ?_, fun e => ?_⟩
    · have := hn.2.2 (.inl e); rcases h with h | h | h
      · exact this.1 h
      · exact this.2.1 h
      · exact this.2.2 h
    · have := hn.2.2 (.inr e); rcases h with h | h | h
      · exact this.1 h
      · exact this.2.1 h
      · exact this.2.2 h
set_option maxRecDepth 100000 in
theorem jiM {l : List UInt8} {k : Nat} {x : UInt8} (h : (valK l k).head? = some x) : ∃ c, x = valC l.length 0 c := by
  induction k with
  | zero => cases h
  | succ k ih =>
    cases k with
    | zero => simp [valK] at h; exact ⟨_, h.symm⟩
    | succ k =>
      have e : (valK l (k + 1 + 1)).head? = (valK l (k + 1)).head? := by
        show (valK l (k + 1) ++ _).head? = _
        cases hv : valK l (k + 1) with
        | nil => have := jfp l (k + 1); rw [hv] at this; simp at this
        | cons a t => rfl
      rw [e] at h; exact ih h
set_option maxRecDepth 100000 in
theorem jiN (l : List UInt8) : vm (valL l) = valL l := by
  have := qu (a := []) (m := valL l) (b := []) (by simp) (by simp) ?_ ?_
  · simpa using this
  · intro x hx; obtain ⟨c, rfl⟩ := jiM hx; exact jd0 (.inl rfl)
  · intro x hx; unfold valL at hx; cases hk : min l.length 40 with
    | zero => rw [hk] at hx; cases hx
    | succ k =>
      rw [hk] at hx; have : x = valC l.length k (l[k]?.getD 0) := by simpa [valK] using hx.symm
      rw [this]; exact jd0 (by omega)
set_option maxRecDepth 100000 in
theorem jmn (f : F) : mayF (mkF f) = true := by
  simp only [mayF, mkF, qC, jiP, jkq, jiN, Bool.not_false, Bool.true_and, beq_self_eq_true]
set_option maxRecDepth 100000 in
theorem jlq (fs : List F) : ∀ f ∈ msgK fs 6, mayF f = true := by
  intro f hf; obtain ⟨g, _, rfl⟩ := List.mem_map.1 hf; exact jmn g
set_option maxRecDepth 100000 in
theorem je2 (fs : List F) : ∀ f ∈ msgK fs 6, f.1.length ≤ 8 ∧ f.2.length ≤ 40 := by
  intro f hf; obtain ⟨g, _, rfl⟩ := List.mem_map.1 hf; exact ⟨zn _, jkr _⟩
set_option maxRecDepth 100000 in
theorem jlp (fs : List F) : (msgK fs 6).length ≤ 6 := by simp [msgK]; omega
end Go.Proofs.YtaapmpchcfcniaaGreatDoor
namespace Go.Proofs.YtaapmpchcfcniaaGreatDoor
open Go.RowKit Go.Proofs
def ltrM (fs : List F) : List F := (msgK fs 6).map ltrF
def ltrB (body : ByteArray) : ByteArray := cutB (cutB body 100) 200
theorem jcs (n : Nat) : zK (qY n) = true ∧ (qY n).length ≤ 8 := by
  unfold qY; have h : n % 5 < 5 := Nat.mod_lt _ (by omega); generalize n % 5 = q at *
  match q, h with
  | 0, _ | 1, _ | 2, _ | 3, _ | 4, _ => decide
theorem jl7 : qC annL = true := by decide +kernel
theorem jjA {f : F} (h : mayF f = true) : mayF (ltrF f) = true := by
  unfold mayF ltrF at *; simp only [Bool.and_eq_true] at *; refine ⟨(jcs _).1, ?_⟩; split
  · exact jl7
  · exact h.2
theorem jhH (fs : List F) : ∀ f ∈ ltrM fs, mayF f = true := by
  intro f hf; obtain ⟨g, hg, rfl⟩ := List.mem_map.1 hf; exact jjA (jlq fs g hg)
theorem jeY (fs : List F) : ∀ f ∈ ltrM fs, f.1.length ≤ 8 ∧ f.2.length ≤ 40 := by
  intro f hf; obtain ⟨g, hg, rfl⟩ := List.mem_map.1 hf; refine ⟨(jcs _).2, ?_⟩; unfold ltrF; simp only; split
  · decide
  · exact (je2 fs g hg).2
theorem jcW (fs : List F) : (ltrM fs).length ≤ 6 := by
  have := jlp fs; unfold ltrM; rw [List.length_map]; exact this
theorem jhJ (fs : List F) : sumF (ltrM fs) ≤ 312 := by
  have key : ∀ l : List F, (∀ f ∈ l, f.1.length ≤ 8 ∧ f.2.length ≤ 40) → sumF l ≤ l.length * 52 := by
    intro l
    induction l with
    | nil => intro _; simp [sumF]
    | cons f l ih =>
      intro h; have h1 := h f (by simp); have h2 := ih fun g hg => h g (by simp [hg])
      have e : sumF (f :: l) = ja9 f + sumF l := by simp [sumF]
      rw [e]; simp only [ja9, List.length_cons]; omega
  have := key _ (jeY fs); have := jcW fs; omega
theorem jbN (body : ByteArray) : (ltrB body).size ≤ 100 := by unfold ltrB; rw [jbA, jbA]; omega
theorem jhG (fs : List F) (body : ByteArray) : zV (ltrM fs) (ltrB body).data.toList = 0 := by
  have h1 := jcW fs; have h2 := jhJ fs; have h3 := jbN body; rw [← size_list] at h3; unfold zV; rw [if_neg (by omega), if_neg (by simpa using jhH fs), if_neg (by omega)]
theorem jeZ (fs : List F) (body : ByteArray) : 2 ≤ (vT (ltrM fs) (ltrB body).data.toList).length ∧ (vT (ltrM fs) (ltrB body).data.toList).length ≤ 500 := by
  have h2 := jhJ fs; have h3 := jbN body; rw [← size_list] at h3; rw [jdu]; omega
theorem jhI (fs : List F) (body : ByteArray) : zv (vT (ltrM fs) (ltrB body).data.toList) = (ltrM fs, (ltrB body).data.toList, 0, 0) := by
  have h := jeZ fs body; have h1 := jcW fs; unfold zv; rw [if_neg (by omega)]; exact jgo (jhH fs) (by omega)
end Go.Proofs.YtaapmpchcfcniaaGreatDoor
namespace Go.Proofs.YtaapmpchcfcniaaGreatDoor
open Go.RowKit Go.Proofs
def ltrO (fl fd tl td : ByteArray) (fs : List F) (body : ByteArray) : Opn :=
  ⟨(jaC fl.data.toList fd.data.toList).1, (jaC fl.data.toList fd.data.toList).2, (jaC tl.data.toList td.data.toList).1, (jaC tl.data.toList td.data.toList).2, vT (ltrM fs) (ltrB body).data.toList, ltrM fs, (ltrB body).data.toList⟩
theorem jgf (fl fd tl td : ByteArray) (fs : List F) (body : ByteArray) : vU (ltrO fl fd tl td fs body) := by
  unfold vU jaW ltrO; simp only; rw [if_neg (by rw [(jaS _ _).check]; simp), if_neg (by rw [(jaS _ _).check]; simp), jhI]
def LtrP (w : World) (o : Opn) (e : Ending) (w' : World) : Prop :=
  e = .returned (.tuple #[.agg #[.string (S o.fl), .string (S o.fd), .string (S o.tl), .string (S o.td), .string (S o.tx)], .bool true]) ∧ Below w.heap.size w w'
theorem jhz (fl fd fg tl td tg : ByteArray) (a : Option Addr) (c : Nat) (fs : List F) (body : ByteArray) (w : World) (hF : FieldsAt w a fs) (hl : fs.length ≤ maxLen) (hb : ∀ f ∈ fs, f.1.length ≤ maxLen ∧ f.2.length ≤ maxLen) (hbody : body.size ≤ maxLen) (h1 : fl.size ≤ maxLen) (h2 : fd.size ≤ maxLen) (h3 : tl.size ≤ maxLen) (h4 : td.size ≤ maxLen) (hm : maxLenCell w) :
    Calls Tryz.prog 5 #[.agg #[.string fl, .string fd, .string fg, .string tl, .string td, .string tg, .slice a fs.length c, .string body]] w (LtrP w (ltrO fl fd tl td fs body)) :=
  jf9 fl fd fg tl td tg a c fs body w hF hl hb hbody h1 h2 h3 h4 hm (fun f hf => (je2 fs f hf).2) (ltrM fs) rfl (ltrB body) rfl
    ⟨by have := jcW fs; omega, by have := jbN body; omega, fun f hf => by have := jeY fs f hf; omega⟩ (jhG fs body) (by have := jeZ fs body; omega)
end Go.Proofs.YtaapmpchcfcniaaGreatDoor
