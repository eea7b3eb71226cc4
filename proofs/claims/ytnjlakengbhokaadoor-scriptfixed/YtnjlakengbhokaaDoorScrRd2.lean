/-
  What the reader's misfitHere, skips, take, takeKind, text do: the walks.
-/
import Derived.Test.YtnjlakengbhokaaDoorScrMemX
import Derived.Test.YtnjlakengbhokaaDoorScrRd
namespace Go.Proofs.YtnjlakengbhokaaDoor
open Go.RowKit Go.Proofs

def misV (p : Nat) (e : Int) : Value := .agg #[.int .i64 p, .int .i64 e]
def misPanic (L : List Tok) (m : Nat × Int) : List PanicEntry := [{ v := .iface 59 (misV (L.length - m.1) m.2), recovered := false }]
/-- What a method of the reader does: it hands something back and leaves a rest, or it panics. -/
def Rp {A : Type} (b : Nat) (w : World) (a : Option Addr) (C : Nat) (L : List Tok) (V : A → World → Value → Prop) (x : Rdg A) (e : Ending) (w' : World) : Prop :=
  match x with
  | .ok (y, q) => ∃ v, e = .returned v ∧ V y w' v ∧ RdS w' b a C L q ∧ But b w w'
  | .error m => e = .panicked (misPanic L m) ∧ But b w w'
theorem misP_nil : misP [] = (0, 4) := rfl
theorem misP_cons (t : Tok) (r : List Tok) : misP (t :: r) = (r.length + 1, 3) := rfl

theorem RdS.under {w w' : World} {b B : Nat} {A : Option Addr} {C : Nat} {L r : List Tok} (h : RdS w b A C L r) (hb : Below B w w') (hB : b < B) : RdS w' b A C L r := by
  refine ⟨(hb.block b hB).trans h.heap, fun i x hx => ?_, h.low, h.rest, h.small⟩
  obtain ⟨q, o, ha, hq, h1, h2, h3⟩ := h.toks i x hx
  have hqb := h.low _ _ hx q o ha
  have hql : q < B := by omega
  exact ⟨q, o, ha, Nat.lt_of_lt_of_le hq hb.size, (hb.cell hql).trans h1, (hb.cell hql).trans h2, (hb.cell hql).trans h3⟩
theorem But.low {b : Nat} {w w1 w2 : World} (h : But b w w1) (hb : Below w.heap.size w1 w2) : But b w w2 :=
  ⟨hb.os.trans h.os, hb.tape.trans h.tape, hb.output.trans h.output, Nat.le_trans h.size hb.size, fun k hk hn => (hb.block k hk).trans (h.block k hk hn)⟩

set_option maxHeartbeats 4000000 in
theorem misfit_any (b : Nat) (A : Option Addr) (C : Nat) (L r : List Tok) (w : World) (h : RdS w b A C L r) :
    Calls Tryd.prog 77 #[.pointer (some ⟨b, 0, none⟩)] w fun e w' => e = .returned (misV (L.length - (misP r).1) (misP r).2) ∧ Below w.heap.size w w' := by
  have hbl := h.lt
  have hne : b ≠ w.heap.size := by omega
  have c1 := h.c1
  have hlen := h.len
  have H := hid h
  obtain ⟨W0, hW0⟩ : ∃ W0, W0 = w.alloc (.cells #[.int .i64 0, .int .i64 0] 59) := ⟨_, rfl⟩
  have hal : Below w.heap.size w W0 := by rw [hW0]; exact (Below.refl _ _).alloc (Nat.le_refl _) _
  have HWE := hid hW0
  have HAL := hid hal
  clear hW0 hal
  cases r with
  | nil =>
    simp at c1
    rw [misP_nil]
    simp only [Nat.sub_zero]
    clear h
    go_enter Tryd.func77, Tryd.ntmps77
    go_wp2_with fail
    rw [← HWE.out]
    refine (rended_draw b A C L [] W0 (H.out.next HAL.out)).mono ?_
    rintro e w1 ⟨rfl, nq, hw1⟩
    rw [HWE.out] at hw1
    subst hw1
    go_wp2
    refine bodyPost_ret (v := misV L.length 4) (by simp [results, Tryd.results77, go_sem, misV]) rfl ⟨rfl, ?_⟩
    exact ((wdrew ((Below.refl _ _).alloc (Nat.le_refl _) _) _).setCell (Nat.le_refl _) _).setCell (Nat.le_refl _) _
  | cons t r =>
    rw [misP_cons]
    obtain ⟨i, hie⟩ : ∃ i, i = L.length - (t :: r).length := ⟨_, rfl⟩
    have HI := hid (show L.length - (r.length + 1) = i by rw [hie]; rfl)
    simp only
    rw [HI.out]
    rw [← hie] at c1
    clear h hie
    go_enter Tryd.func77, Tryd.ntmps77
    go_wp2_with fail
    rw [← HWE.out]
    refine (rended_draw b A C L (t :: r) W0 (H.out.next HAL.out)).mono ?_
    rintro e w1 ⟨rfl, nq, hw1⟩
    rw [HWE.out] at hw1
    subst hw1
    go_wp2
    refine bodyPost_ret (v := misV i 3) (by simp [results, Tryd.results77, go_sem, misV]) rfl ⟨rfl, ?_⟩
    exact ((wdrew ((Below.refl _ _).alloc (Nat.le_refl _) _) _).setCell (Nat.le_refl _) _).setCell (Nat.le_refl _) _

/-- What skips does. -/
def Sk (b : Nat) (w : World) (a : Option Addr) (C : Nat) (L r : List Tok) (x : Option (List Tok)) (e : Ending) (w' : World) : Prop :=
  match x with
  | some q => e = .returned (.bool true) ∧ RdS w' b a C L q ∧ But b w w'
  | none => e = .returned (.bool false) ∧ RdS w' b a C L r ∧ But b w w'
theorem skip_nil (k : Int) (s : List UInt8) : skipP k s [] = none := rfl
theorem skip_yes {k : Int} {s : List UInt8} {t : Tok} {r : List Tok} (h1 : t.kind = k) (h2 : t.text = s) : skipP k s (t :: r) = some r := by unfold skipP; simp only; rw [if_pos ⟨h1, h2⟩]
theorem skip_no {k : Int} {s : List UInt8} {t : Tok} {r : List Tok} (h : ¬ (t.kind = k ∧ t.text = s)) : skipP k s (t :: r) = none := by unfold skipP; simp only; rw [if_neg h]
theorem nextT_cons (t : Tok) (r : List Tok) : nextT (t :: r) = t := rfl

set_option maxHeartbeats 4000000 in
theorem rmeets_any (b : Nat) (A : Option Addr) (C : Nat) (L r : List Tok) (k : Int) (s : List UInt8) (w : World) (h : RdS w b A C L r) (hk : k ≠ 0) :
    Calls Tryd.prog 95 #[.pointer (some ⟨b, 0, none⟩), .int .i64 k, .string (S s)] w fun e w' => e = .returned (.bool (skipP k s r).isSome) ∧ Below w.heap.size w w' := by
  have H := hid h
  clear h
  go_enter Tryd.func95, Tryd.ntmps95
  go_wp2_with fail
  refine (rnext_any b A C L r w H.out).mono ?_
  rintro e w1 ⟨rfl, hb1⟩
  have HB1 := hid hb1
  have HBA := hid (fun o => hb1.alloc hb1.size o)
  clear hb1
  cases r with
  | nil =>
    have hk0 : ((0 : Int) == k) = false := by rw [beq_eq_false_iff_ne]; omega
    unfold nextT tokV zeroT
    go_wp2
    go_ret
    exact ⟨rfl, HBA.out _⟩
  | cons t r =>
    rw [nextT_cons]
    unfold tokV
    by_cases hkk : t.kind = k
    · have q1 : (t.kind == k) = true := by simp [hkk]
      by_cases hss : t.text = s
      · have q2 : ((S t.text).toList == (S s).toList) = true := S_same hss
        have HS := hid (show (skipP k s (t :: r)).isSome = true by rw [skip_yes hkk hss]; rfl)
        clear hkk hss
        go_wp2
        go_ret
        rw [HS.out]
        exact ⟨rfl, HBA.out _⟩
      · have q2 : ((S t.text).toList == (S s).toList) = false := S_ne hss
        have HS := hid (show (skipP k s (t :: r)).isSome = false by rw [skip_no (fun h => hss h.2)]; rfl)
        clear hkk hss
        go_wp2
        go_ret
        rw [HS.out]
        exact ⟨rfl, HBA.out _⟩
    · have q1 : (t.kind == k) = false := by simpa using hkk
      have HS := hid (show (skipP k s (t :: r)).isSome = false by rw [skip_no (fun h => hkk h.1)]; rfl)
      clear hkk
      go_wp2
      go_ret
      rw [HS.out]
      exact ⟨rfl, HBA.out _⟩

set_option maxHeartbeats 4000000 in
theorem skips_any (b : Nat) (A : Option Addr) (C : Nat) (L r : List Tok) (k : Int) (s : List UInt8) (w : World) (h : RdS w b A C L r) (hk : k ≠ 0) :
    Calls Tryd.prog 80 #[.pointer (some ⟨b, 0, none⟩), .int .i64 k, .string (S s)] w (Sk b w A C L r (skipP k s r)) := by
  have H := hid h
  have hbl := h.lt
  have hsm := h.small
  have hlen := h.len
  clear h
  go_enter Tryd.func80, Tryd.ntmps80
  go_wp2_with fail
  refine (rmeets_any b A C L r k s w H.out hk).mono ?_
  rintro e w1 ⟨rfl, hb1⟩
  have hR1 := H.out.next hb1
  have HR1 := hid hR1
  have HB1 := hid (show But b w w1 from But.of hb1)
  have d1 := hR1.c1
  have y1 := hR1.z1
  clear hb1 hR1
  cases hs : skipP k s r with
  | none =>
    have HS := hid hs
    clear hs
    simp only [Option.isSome]
    go_wp2
    go_ret
    rw [HS.out]
    exact ⟨rfl, HR1.out, HB1.out⟩
  | some q =>
    obtain ⟨t, rfl, _⟩ := skipP_some hs
    have HS := hid hs
    clear hs
    simp only [Option.isSome]
    obtain ⟨i, hie⟩ : ∃ i, i = L.length - (t :: q).length := ⟨_, rfl⟩
    have HI := hid (show i + 1 = L.length - q.length by rw [hie]; simp at hlen ⊢; omega)
    rw [← hie] at d1
    have hi4 : (i : Int) ≤ 400 := by omega
    have hi0 : (0 : Int) ≤ (i : Int) := by omega
    have HST := hid (show RdS (w1.setCell ⟨b, 1, none⟩ (.int .i64 ((i : Int) + 1))) b A C L q by
      have := HR1.out.step
      rw [← HI.out] at this
      exact this)
    clear hie
    go_wp2
    go_ret
    rw [HS.out]
    exact ⟨rfl, HST.out, HB1.out.trans (But.setO _ 1 _)⟩

set_option maxHeartbeats 4000000 in
theorem rtake_any (b : Nat) (A : Option Addr) (C : Nat) (L r : List Tok) (k : Int) (s : List UInt8) (w : World) (h : RdS w b A C L r) (hk : k ≠ 0) :
    Calls Tryd.prog 58 #[.pointer (some ⟨b, 0, none⟩), .int .i64 k, .string (S s)] w (Rp b w A C L (fun (_ : Unit) _ v => v = .tuple #[]) (takeTP k s r)) := by
  have H := hid h
  clear h
  go_enter Tryd.func58, Tryd.ntmps58
  go_wp2_with fail
  refine (skips_any b A C L r k s w H.out hk).mono ?_
  cases hs : skipP k s r with
  | some q =>
    have HE := hid (show takeTP k s r = .ok ((), q) by unfold takeTP; rw [hs])
    clear hs
    rintro e w1 ⟨rfl, hR1, hB1⟩
    have HR1 := hid hR1
    have HB1 := hid hB1
    clear hR1 hB1
    go_wp2
    go_end0
    rw [HE.out]
    exact ⟨_, rfl, rfl, HR1.out, HB1.out⟩
  | none =>
    have HE := hid (show takeTP k s r = .error (misP r) by unfold takeTP; rw [hs])
    clear hs
    rintro e w1 ⟨rfl, hR1, hB1⟩
    have HR1 := hid hR1
    have HB1 := hid hB1
    clear hR1 hB1
    go_wp2_with fail
    refine (misfit_any b A C L r w1 HR1.out).mono ?_
    rintro e w2 ⟨rfl, hb2⟩
    have HB2 := hid (HB1.out.trans (But.of hb2))
    clear hb2
    unfold misV
    go_wp2
    rw [HE.out]
    exact ⟨rfl, rfl, HB2.out⟩

theorem takeK_ok' {k : Int} {t : Tok} {r : List Tok} (h : t.kind = k) : takeKP k (t :: r) = .ok (t, r) := by unfold takeKP; simp only; rw [if_pos h]
theorem takeK_no {k : Int} {t : Tok} {r : List Tok} (h : ¬ t.kind = k) : takeKP k (t :: r) = .error (misP (t :: r)) := by unfold takeKP; simp only; rw [if_neg h]

set_option maxHeartbeats 4000000 in
theorem takeKind_any (b : Nat) (A : Option Addr) (C : Nat) (L r : List Tok) (k : Int) (w : World) (h : RdS w b A C L r) (hk : k ≠ 0) :
    Calls Tryd.prog 81 #[.pointer (some ⟨b, 0, none⟩), .int .i64 k] w (Rp b w A C L (fun t _ v => v = tokV t) (takeKP k r)) := by
  have H := hid h
  have hbl := h.lt
  have hsm := h.small
  have hlen := h.len
  clear h
  obtain ⟨W0, hW0⟩ : ∃ W0, W0 = w.alloc (.cells #[.int .i64 0, .string ⟨#[]⟩, .int .i64 0] 44) := ⟨_, rfl⟩
  have hal : Below w.heap.size w W0 := by rw [hW0]; exact (Below.refl _ _).alloc (Nat.le_refl _) _
  have hz0 : w.heap.size < W0.heap.size := by rw [hW0]; simp
  have hT0 : TokB W0 w.heap.size zeroT := by rw [hW0]; exact tokB_new w zeroT
  have HWE := hid hW0
  have HAL := hid hal
  have HT0 := hid hT0
  clear hW0 hal hT0
  go_enter Tryd.func81, Tryd.ntmps81
  go_wp2_with fail
  rw [← HWE.out]
  refine (rnext_any b A C L r W0 (H.out.next HAL.out)).mono ?_
  rintro e w1 ⟨rfl, hb1⟩
  have hR1 := (H.out.next HAL.out).next hb1
  have hT1 := HT0.out.next hb1
  have hbl1 := hR1.lt
  have hne : b ≠ w1.heap.size := by omega
  have hnw : w.heap.size ≠ w1.heap.size := by have := hb1.size; omega
  have hwl : w.heap.size < w1.heap.size := by have := hb1.size; omega
  have hbw : b ≠ w.heap.size := by omega
  have HR1 := hid hR1
  have HT1 := hid hT1
  have HB1 := hid (show But b w w1 from (But.of HAL.out).trans (But.of hb1))
  have d1 := hR1.c1
  have y1 := hR1.z1
  have t0 := hT1.c0
  have t1 := hT1.c1
  have t2 := hT1.c2
  have u0 := hT1.free 0
  have u1 := hT1.free 1
  have u2 := hT1.free 2
  clear hb1 hR1 hT1
  cases r with
  | nil =>
    have hk0 : ((0 : Int) != k) = true := by simp; omega
    have HE := hid (show takeKP k [] = .error (misP []) from rfl)
    unfold nextT tokV zeroT
    go_wp2_with fail
    refine (misfit_any b A C L [] _ (HR1.out.next ((Below.refl _ _).alloc (Nat.le_refl _) _))).mono ?_
    rintro e w2 ⟨rfl, hb2⟩
    have HB2 := hid ((HB1.out.trans (But.of ((Below.refl _ _).alloc (Nat.le_refl _) _))).trans (But.of hb2))
    clear hb2
    unfold misV
    go_wp2
    exact ⟨rfl, rfl, HB2.out⟩
  | cons t r =>
    rw [nextT_cons]
    unfold tokV
    by_cases hkk : t.kind = k
    · have q1 : (t.kind != k) = false := by simp [hkk]
      obtain ⟨i, hie⟩ : ∃ i, i = L.length - (t :: r).length := ⟨_, rfl⟩
      have HI := hid (show i + 1 = L.length - r.length by rw [hie]; simp at hlen ⊢; omega)
      rw [← hie] at d1
      have hi4 : (i : Int) ≤ 400 := by omega
      have hi0 : (0 : Int) ≤ (i : Int) := by omega
      have HS := hid (takeK_ok' (r := r) hkk)
      have HST := hid (show RdS (w1.setCell ⟨b, 1, none⟩ (.int .i64 ((i : Int) + 1))) b A C L r by
        have := HR1.out.step
        rw [← HI.out] at this
        exact this)
      clear hkk hie
      go_wp2
      have hlow : Below w.heap.size (w1.setCell ⟨b, 1, none⟩ (.int .i64 ((i : Int) + 1))) (((((w1.setCell ⟨b, 1, none⟩ (.int .i64 ((i : Int) + 1))).setCell ⟨w.heap.size, 0, none⟩ (.int .i64 t.kind)).setCell ⟨w.heap.size, 1, none⟩ (.string (S t.text))).setCell ⟨w.heap.size, 2, none⟩ (.int .i64 t.num)).alloc (.cells #[.int .i64 t.kind, .string (S t.text), .int .i64 t.num] 44)) :=
        ((((Below.refl _ _).setCell (p := ⟨w.heap.size, 0, none⟩) (Nat.le_refl _) _).setCell (p := ⟨w.heap.size, 1, none⟩) (Nat.le_refl _) _).setCell (p := ⟨w.heap.size, 2, none⟩) (Nat.le_refl _) _).alloc (by simp [World.setCell]; omega) _
      have hTW : TokB (((((w1.setCell ⟨b, 1, none⟩ (.int .i64 ((i : Int) + 1))).setCell ⟨w.heap.size, 0, none⟩ (.int .i64 t.kind)).setCell ⟨w.heap.size, 1, none⟩ (.string (S t.text))).setCell ⟨w.heap.size, 2, none⟩ (.int .i64 t.num)).alloc (.cells #[.int .i64 t.kind, .string (S t.text), .int .i64 t.num] 44)) w.heap.size t := by
        have a0 : TokB (w1.setCell ⟨b, 1, none⟩ (.int .i64 ((i : Int) + 1))) w.heap.size zeroT := HT1.out.far (p := ⟨b, 1, none⟩) hbw.symm _
        have a1 := setCell_mark (i := 0) (.int .i64 t.kind) a0
        have a2 := setCell_mark (i := 1) (.string (S t.text)) a1
        have a3 := setCell_mark (i := 2) (.int .i64 t.num) a2
        unfold TokB
        rw [show ∀ (W : World) (o : Obj), w.heap.size < W.heap.size → (W.alloc o).heap[w.heap.size]? = W.heap[w.heap.size]? from fun W o h => by
          show (W.heap.push o)[w.heap.size]? = _
          rw [Array.getElem?_push_lt h, Array.getElem?_eq_getElem h]]
        · rw [a3]; simp
        · simpa [World.setCell] using hwl
      have m0 := hTW.c0
      have m1 := hTW.c1
      have m2 := hTW.c2
      refine bodyPost_ret (v := tokV t) (by simp only [results, Tryd.results81]; simp [go_sem, tokV, m0, m1, m2]) rfl ?_
      rw [HS.out]
      exact ⟨_, rfl, rfl, HST.out.under hlow hbl, (HB1.out.trans (But.setO _ 1 _)).low hlow⟩
    · have q1 : (t.kind != k) = true := by simpa using hkk
      have HE := hid (takeK_no (r := r) hkk)
      clear hkk
      go_wp2_with fail
      refine (misfit_any b A C L (t :: r) _ (HR1.out.next ((Below.refl _ _).alloc (Nat.le_refl _) _))).mono ?_
      rintro e w2 ⟨rfl, hb2⟩
      have HB2 := hid ((HB1.out.trans (But.of ((Below.refl _ _).alloc (Nat.le_refl _) _))).trans (But.of hb2))
      clear hb2
      unfold misV
      go_wp2
      rw [HE.out]
      exact ⟨rfl, rfl, HB2.out⟩

theorem tok_f0 (t : Tok) : ∀ w : World, (Instr.field 44 (.agg #[.int .i64 t.kind, .string (S t.text), .int .i64 t.num]) 0).run Tryd.prog w = .ok (.int .i64 t.kind) w := fun _ => by kernel_rfl
theorem tok_f1 (t : Tok) : ∀ w : World, (Instr.field 44 (.agg #[.int .i64 t.kind, .string (S t.text), .int .i64 t.num]) 1).run Tryd.prog w = .ok (.string (S t.text)) w := fun _ => by kernel_rfl
theorem tok_f2 (t : Tok) : ∀ w : World, (Instr.field 44 (.agg #[.int .i64 t.kind, .string (S t.text), .int .i64 t.num]) 2).run Tryd.prog w = .ok (.int .i64 t.num) w := fun _ => by kernel_rfl

set_option maxHeartbeats 4000000 in
set_option maxRecDepth 100000 in
theorem rtext_any (b : Nat) (A : Option Addr) (C : Nat) (L r : List Tok) (w : World) (h : RdS w b A C L r) :
    Calls Tryd.prog 57 #[.pointer (some ⟨b, 0, none⟩)] w (Rp b w A C L (fun x _ v => v = .string (S x)) (textR r)) := by
  have H := hid h
  clear h
  go_enter Tryd.func57, Tryd.ntmps57
  go_wp2_with fail
  refine (takeKind_any b A C L r 4 w H.out (by omega)).mono ?_
  cases hs : takeKP 4 r with
  | ok x =>
    obtain ⟨t, q⟩ := x
    have HE := hid (show textR r = .ok (t.text, q) by unfold textR; rw [hs]; rfl)
    clear hs
    rintro e w1 ⟨v, rfl, rfl, hR1, hB1⟩
    have HR1 := hid hR1
    have HB1 := hid hB1
    clear hR1 hB1
    unfold tokV
    have hf1 := tok_f1 t
    go_wp2
    go_ret
    rw [HE.out]
    exact ⟨_, rfl, rfl, HR1.out, HB1.out⟩
  | error m =>
    have HE := hid (show textR r = .error m by unfold textR; rw [hs]; rfl)
    clear hs
    rintro e w1 ⟨rfl, hB1⟩
    have HB1 := hid hB1
    clear hB1
    go_wp2
    rw [HE.out]
    exact ⟨rfl, rfl, HB1.out⟩
end Go.Proofs.YtnjlakengbhokaaDoor
