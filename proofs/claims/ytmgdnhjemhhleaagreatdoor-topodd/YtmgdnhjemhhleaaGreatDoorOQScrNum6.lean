/-
  What script.numberOf does: the walk.
-/
import Derived.Test.YtmgdnhjemhhleaaGreatDoorOScrCk
import Derived.Deep.QuietTactic
import Derived.BigQuiet
set_option maxHeartbeats 16000000
set_option maxRecDepth 100000
namespace Go.Proofs.YtmgdnhjemhhleaaGreatDoor
open Go.RowKit Go.Proofs
theorem ja7 (k : Nat) (hk : k < 4) (s : List UInt8) (w : World) (hw : WordsAt w) :
 Calls Tryz.prog 189 #[.int .i64 k, .string (S s)] w fun e w' => e = .returned (.int .i64 (jG k s : Nat)) ∧ w' = w := by
 have k4 : (k : Int) < 4 := by omega
 have k0 : (0 : Int) ≤ (k : Int) := by omega
 have q0 := hw k 0 hk (by omega); have q1 := hw k 1 hk (by omega); have q2 := hw k 2 hk (by omega); have q3 := hw k 3 hk (by omega); have q4 := hw k 4 hk (by omega); have q5 := hw k 5 hk (by omega); have q6 := hw k 6 hk (by omega); have q7 := hw k 7 hk (by omega); have q8 := hw k 8 hk (by omega); have q9 := hw k 9 hk (by omega); have q10 := hw k 10 hk (by omega); have hlen := jjh k hk; have HN : Hid (jG k s = jfr ((wTabs.getD k []).drop 0) 0 s) := rfl; rw [Nat.add_zero] at q0; go_enter Tryz.func189, Tryz.ntmps189; go_wp2
 go_loopw [10] (fun v wr => ∃ i : Nat, i ≤ 11 ∧ v = .int .i64 i ∧ wr = w ∧ Hid (jG k s = jfr ((wTabs.getD k []).drop i) i s)) (fun v _ => 11 - (intOf v).toNat)
 case atStart => exact ⟨0, by omega, rfl, rfl, HN⟩
 case round =>
  obtain ⟨i, hi, rfl, rfl, hN⟩ := hrel
  by_cases hlt : i < 11
  · have i1 : (i : Int) < 11 := by omega
    have hidx : ∀ w : World, (Instr.index 240 (.agg #[.string (S (jJ k 0)), .string (S (jJ k 1)), .string (S (jJ k 2)), .string (S (jJ k 3)), .string (S (jJ k 4)), .string (S (jJ k 5)), .string (S (jJ k 6)), .string (S (jJ k 7)), .string (S (jJ k 8)), .string (S (jJ k 9)), .string (S (jJ k 10))]) (.int .i64 i)).run Tryz.prog w = .ok (.string (S (jJ k i))) w := by
        intro w
        match i, hlt with
        | 0, _ | 1, _ | 2, _ | 3, _ | 4, _ | 5, _ | 6, _ | 7, _ | 8, _ | 9, _ | 10, _ => rfl
    have HS := jhj (wTabs.getD k []) i i s (by omega); rw [jlG k i (by omega)] at HS
    by_cases hs : jJ k i = s
    · have HE : Hid (jG k s = i) := by unfold Hid; rw [hN.out, HS, if_pos hs]
      have hq : ((S (jJ k i)).toList == (S s).toList) = true := by rw [hs]; simp
      clear HS hs; go_wp2; go_ret; exact ⟨jc (by rw [HE.out]), rfl⟩
    · have HE : Hid (jG k s = jfr ((wTabs.getD k []).drop (i + 1)) (i + 1) s) := by unfold Hid; rw [hN.out, HS, if_neg hs]
      have hq : ((S (jJ k i)).toList == (S s).toList) = false := S_ne hs; clear HS hs; go_wp2
      case roundEnd => exact ⟨⟨i + 1, by omega, by go_num, trivial, HE⟩, by simp [intOf]; omega⟩
  · have i1 : ¬ (i : Int) < 11 := by omega
    have HE : Hid (jG k s = 0) := by unfold Hid; rw [hN.out, List.drop_eq_nil_of_le (by omega)]; rfl
    go_wp2; go_ret; exact ⟨jc (by rw [HE.out]; rfl), rfl⟩
structure RdS (w : World) (b : Nat) (A : Option Addr) (C : Nat) (L r : List Tok) : Prop where
 heap : w.heap[b]? = some (.cells #[.slice A L.length C, .int .i64 (L.length - r.length : Nat)] 202)
 toks : ToksAt w A L
 low : ∀ (i : Nat) (x : Tok), L[i]? = some x → ∀ q o, A = some ⟨q, o, none⟩ → q < b
 rest : ∃ pre, L = pre ++ r
 small : L.length ≤ 400
theorem RdS.lt {w : World} {b : Nat} {A : Option Addr} {C : Nat} {L r : List Tok} (h : RdS w b A C L r) : b < w.heap.size := (Array.getElem?_eq_some_iff.1 h.heap).1
theorem RdS.len {w : World} {b : Nat} {A : Option Addr} {C : Nat} {L r : List Tok} (h : RdS w b A C L r) : r.length ≤ L.length := by
 obtain ⟨pre, rfl⟩ := h.rest; simp
theorem RdS.c0 {w : World} {b : Nat} {A : Option Addr} {C : Nat} {L r : List Tok} (h : RdS w b A C L r) : w.cell? ⟨b, 0, none⟩ = some (.slice A L.length C) := by simp [World.cell?, h.heap]
theorem RdS.c1 {w : World} {b : Nat} {A : Option Addr} {C : Nat} {L r : List Tok} (h : RdS w b A C L r) : w.cell? ⟨b, 1, none⟩ = some (.int .i64 (L.length - r.length : Nat)) := by simp [World.cell?, h.heap]
theorem RdS.z1 {w : World} {b : Nat} {A : Option Addr} {C : Nat} {L r : List Tok} (h : RdS w b A C L r) : w.frozen? ⟨b, 1, none⟩ = false := by simp [World.frozen?, h.heap]
theorem RdS.next {w w' : World} {b : Nat} {A : Option Addr} {C : Nat} {L r : List Tok} (h : RdS w b A C L r) (hb : Below w.heap.size w w') : RdS w' b A C L r :=
 ⟨(hb.block b h.lt).trans h.heap, h.toks.below hb, h.low, h.rest, h.small⟩
theorem RdS.at {w : World} {b : Nat} {A : Option Addr} {C : Nat} {L r : List Tok} {t : Tok} (h : RdS w b A C L (t :: r)) : ∃ q o, A = some ⟨q, o, none⟩ ∧ q < b ∧ L.length - (t :: r).length < L.length ∧
 w.cell? ⟨q, o + (L.length - (t :: r).length) * 3, none⟩ = some (.int .i64 t.kind) ∧ w.cell? ⟨q, o + (L.length - (t :: r).length) * 3 + 1, none⟩ = some (.string (S t.text)) ∧ w.cell? ⟨q, o + (L.length - (t :: r).length) * 3 + 2, none⟩ = some (.int .i64 t.num) := by
 obtain ⟨pre, hp⟩ := h.rest; have hl : L.length - (t :: r).length = pre.length := by rw [hp]; simp
 have hx : L[L.length - (t :: r).length]? = some t := by rw [hl, hp]; simp
 obtain ⟨q, o, ha, _, h1, h2, h3⟩ := h.toks _ t hx; refine ⟨q, o, ha, h.low _ _ hx q o ha, ?_, h1, h2, h3⟩; have := (List.getElem?_eq_some_iff.1 hx).1; exact this
theorem But.setO {b : Nat} (w : World) (o : Nat) (v : Value) : But b w (w.setCell ⟨b, o, none⟩ v) :=
 ⟨rfl, rfl, rfl, by simp [World.setCell], fun k _ hn => Below.heap_setCell _ _ _ _ hn⟩
theorem RdS.step {w : World} {b : Nat} {A : Option Addr} {C : Nat} {L r : List Tok} {t : Tok} (h : RdS w b A C L (t :: r)) : RdS (w.setCell ⟨b, 1, none⟩ (.int .i64 (L.length - r.length : Nat))) b A C L r := by
 have hb : Below b w (w.setCell ⟨b, 1, none⟩ (.int .i64 (L.length - r.length : Nat)))   := (Below.refl b w).setCell (p := ⟨b, 1, none⟩) (Nat.le_refl b) _; refine ⟨?_, ?_, h.low, ?_, h.small⟩
 · have := ji (i := 1) (.int .i64 (L.length - r.length : Nat)) h.heap
   simpa using this
 · intro i x hx; obtain ⟨q, o, ha, hq, h1, h2, h3⟩ := h.toks i x hx; have hqb := h.low _ _ hx q o ha; exact ⟨q, o, ha, by simpa [World.setCell] using hq, (hb.cell hqb).trans h1, (hb.cell hqb).trans h2, (hb.cell hqb).trans h3⟩
 · obtain ⟨pre, hp⟩ := h.rest; exact ⟨pre ++ [t], by rw [hp]; simp⟩
def ja6 (r : List Tok) : Tok := match r with | [] => qb | t :: _ => t
theorem qn (b : Nat) (A : Option Addr) (C : Nat) (L r : List Tok) (w : World) (h : RdS w b A C L r) :
 Calls Tryz.prog 127 #[.pointer (some ⟨b, 0, none⟩)] w fun e w' => e = .returned (.bool r.isEmpty) ∧ ∃ k, w' = w.drewN k := by
 have c0 := h.c0; have c1 := h.c1; have hlen := h.len; cases r with
 | nil =>
   simp at c1
   clear h; go_enter Tryz.func127, Tryz.ntmps127; go_wp2
   go_quiet (fail)
   go_wp2; go_ret; exact ⟨rfl, nq, rfl⟩
 | cons t r =>
   obtain ⟨i, hie⟩ : ∃ i, i = L.length - (t :: r).length := ⟨_, rfl⟩; rw [← hie] at c1; have hin : ((i : Int) == (L.length : Int)) = false := by
    rw [beq_eq_false_iff_ne]
    simp at hlen hie
    omega
   clear h hie; go_enter Tryz.func127, Tryz.ntmps127; go_wp2
   go_quiet (fail)
   go_wp2; go_ret; exact ⟨rfl, nq, rfl⟩
theorem jc2 (b : Nat) (A : Option Addr) (C : Nat) (L r : List Tok) (w : World) (h : RdS w b A C L r) :
 Calls Tryz.prog 127 #[.pointer (some ⟨b, 0, none⟩)] w fun e w' => e = .returned (.bool r.isEmpty) ∧ Below w.heap.size w w' := by
 refine (qn b A C L r w h).mono ?_; rintro e w' ⟨he, k, rfl⟩; exact ⟨he, qa (Below.refl _ _) k⟩
theorem qp (b : Nat) (A : Option Addr) (C : Nat) (L r : List Tok) (w : World) (h : RdS w b A C L r) :
 Calls Tryz.prog 190 #[.pointer (some ⟨b, 0, none⟩)] w fun e w' => e = .returned (tokV (ja6 r)) ∧ Below w.heap.size w w' := by
 have hbl := h.lt; have hne : b ≠ w.heap.size := by omega
 have c0 := h.c0; have c1 := h.c1; have hlen := h.len; have hsm := h.small; have H := hid h; obtain ⟨W0, hW0⟩ : ∃ W0, W0 = w.alloc (.cells #[.int .i64 0, .string ⟨#[]⟩, .int .i64 0] 164) := ⟨_, rfl⟩; have hal : Below w.heap.size w W0 := by rw [hW0]; exact nb0 _ _
 have HWE := hid hW0; have HAL := hid hal; clear hW0 hal; cases r with
 | nil =>
   simp at c1
   clear h; go_enter Tryz.func190, Tryz.ntmps190; go_wp2_with fail; rw [← HWE.out]; refine (qn b A C L [] W0 (H.out.next HAL.out)).mono ?_; rintro e w1 ⟨rfl, nq, hw1⟩; rw [HWE.out] at hw1; subst hw1; go_wp2; refine bodyPost_ret (v := tokV qb) (by simp [results, Tryz.results190, go_sem, tokV, qb, S]) rfl ⟨rfl, ?_⟩; exact (((qa (nb0 _ _) _).setCell (Nat.le_refl _) _).setCell (Nat.le_refl _) _).setCell (Nat.le_refl _) _
 | cons t r =>
   obtain ⟨q, o, rfl, hq, hi, e0, e1, e2⟩ := h.at; obtain ⟨i, hie⟩ : ∃ i, i = L.length - (t :: r).length := ⟨_, rfl⟩; rw [← hie] at c1 hi e0 e1 e2; clear hie; have hi1 : (i : Int) < (L.length : Int) := by omega
   have hi0 : (0 : Int) ≤ (i : Int) := by omega
   have hqn : q ≠ w.heap.size := by omega
   have hqs : q < w.heap.size := by omega
   clear h; go_enter Tryz.func190, Tryz.ntmps190; go_wp2_with fail; rw [← HWE.out]; refine (qn b _ C L (t :: r) W0 (H.out.next HAL.out)).mono ?_; rintro e w1 ⟨rfl, nq, hw1⟩; rw [HWE.out] at hw1; subst hw1; go_wp2
   go_region
   all_goals go_wp2
   all_goals refine bodyPost_ret (v := tokV t) (by simp [results, Tryz.results190, go_sem, tokV]) rfl ⟨rfl, ?_⟩
   all_goals exact (((qa (nb0 _ _) _).setCell (Nat.le_refl _) _).setCell (Nat.le_refl _) _).setCell (Nat.le_refl _) _
def misV (p : Nat) (e : Int) : Value := .agg #[.int .i64 p, .int .i64 e]
def jgb (L : List Tok) (m : Nat × Int) : List PanicEntry := [{ v := .iface 169 (misV (L.length - m.1) m.2), recovered := false }]
def Rp {A : Type} (b : Nat) (w : World) (a : Option Addr) (C : Nat) (L : List Tok) (V : A → World → Value → Prop) (x : Rdg A) (e : Ending) (w' : World) : Prop :=
 match x with
 | .ok (y, q) => ∃ v, e = .returned v ∧ V y w' v ∧ RdS w' b a C L q ∧ But b w w'
 | .error m => e = .panicked (jgb L m) ∧ But b w w'
theorem jkv : misP [] = (0, 4) := rfl
theorem jiT (t : Tok) (r : List Tok) : misP (t :: r) = (r.length + 1, 3) := rfl
theorem RdS.under {w w' : World} {b B : Nat} {A : Option Addr} {C : Nat} {L r : List Tok} (h : RdS w b A C L r) (hb : Below B w w') (hB : b < B) : RdS w' b A C L r := by
 refine ⟨(hb.block b hB).trans h.heap, fun i x hx => ?_, h.low, h.rest, h.small⟩; obtain ⟨q, o, ha, hq, h1, h2, h3⟩ := h.toks i x hx; have hqb := h.low _ _ hx q o ha; have hql : q < B := by omega
 exact ⟨q, o, ha, Nat.lt_of_lt_of_le hq hb.size, (hb.cell hql).trans h1, (hb.cell hql).trans h2, (hb.cell hql).trans h3⟩
theorem But.low {b : Nat} {w w1 w2 : World} (h : But b w w1) (hb : Below w.heap.size w1 w2) : But b w w2 :=
 ⟨hb.os.trans h.os, hb.tape.trans h.tape, hb.output.trans h.output, Nat.le_trans h.size hb.size, fun k hk hn => (hb.block k hk).trans (h.block k hk hn)⟩
theorem zK (b : Nat) (A : Option Addr) (C : Nat) (L r : List Tok) (w : World) (h : RdS w b A C L r) :
 Calls Tryz.prog 191 #[.pointer (some ⟨b, 0, none⟩)] w fun e w' => e = .returned (misV (L.length - (misP r).1) (misP r).2) ∧ Below w.heap.size w w' := by
 have hbl := h.lt; have hne : b ≠ w.heap.size := by omega
 have c1 := h.c1; have hlen := h.len; have H := hid h; obtain ⟨W0, hW0⟩ : ∃ W0, W0 = w.alloc (.cells #[.int .i64 0, .int .i64 0] 169) := ⟨_, rfl⟩; have hal : Below w.heap.size w W0 := by rw [hW0]; exact nb0 _ _
 have HWE := hid hW0; have HAL := hid hal; clear hW0 hal; cases r with
 | nil =>
   simp at c1
   rw [jkv]; simp only [Nat.sub_zero]; clear h; go_enter Tryz.func191, Tryz.ntmps191; go_wp2_with fail; rw [← HWE.out]; refine (qn b A C L [] W0 (H.out.next HAL.out)).mono ?_; rintro e w1 ⟨rfl, nq, hw1⟩; rw [HWE.out] at hw1; subst hw1; go_wp2; refine bodyPost_ret (v := misV L.length 4) (by simp [results, Tryz.results191, go_sem, misV]) rfl ⟨rfl, ?_⟩; exact ((qa (nb0 _ _) _).setCell (Nat.le_refl _) _).setCell (Nat.le_refl _) _
 | cons t r =>
   rw [jiT]; obtain ⟨i, hie⟩ : ∃ i, i = L.length - (t :: r).length := ⟨_, rfl⟩; have HI := hid (show L.length - (r.length + 1) = i by rw [hie]; rfl); simp only; rw [HI.out]; rw [← hie] at c1; clear h hie; go_enter Tryz.func191, Tryz.ntmps191; go_wp2_with fail; rw [← HWE.out]; refine (qn b A C L (t :: r) W0 (H.out.next HAL.out)).mono ?_; rintro e w1 ⟨rfl, nq, hw1⟩; rw [HWE.out] at hw1; subst hw1; go_wp2; refine bodyPost_ret (v := misV i 3) (by simp [results, Tryz.results191, go_sem, misV]) rfl ⟨rfl, ?_⟩; exact ((qa (nb0 _ _) _).setCell (Nat.le_refl _) _).setCell (Nat.le_refl _) _
def Sk (b : Nat) (w : World) (a : Option Addr) (C : Nat) (L r : List Tok) (x : Option (List Tok)) (e : Ending) (w' : World) : Prop :=
 match x with
 | some q => e = .returned (.bool true) ∧ RdS w' b a C L q ∧ But b w w'
 | none => e = .returned (.bool false) ∧ RdS w' b a C L r ∧ But b w w'
theorem jkW {k : Int} {s : List UInt8} {t : Tok} {r : List Tok} (h1 : t.kind = k) (h2 : t.text = s) : zd k s (t :: r) = some r := by unfold zd; simp only; rw [if_pos ⟨h1, h2⟩]
theorem jjp {k : Int} {s : List UInt8} {t : Tok} {r : List Tok} (h : ¬ (t.kind = k ∧ t.text = s)) : zd k s (t :: r) = none := by unfold zd; simp only; rw [if_neg h]
theorem zy (t : Tok) (r : List Tok) : ja6 (t :: r) = t := rfl
theorem jc3 (b : Nat) (A : Option Addr) (C : Nat) (L r : List Tok) (k : Int) (s : List UInt8) (w : World) (h : RdS w b A C L r) (hk : k ≠ 0) :
 Calls Tryz.prog 229 #[.pointer (some ⟨b, 0, none⟩), .int .i64 k, .string (S s)] w fun e w' => e = .returned (.bool (zd k s r).isSome) ∧ Below w.heap.size w w' := by
 have H := hid h; clear h; go_enter Tryz.func229, Tryz.ntmps229; go_wp2_with fail; refine (qp b A C L r w H.out).mono ?_; rintro e w1 ⟨rfl, hb1⟩; have HB1 := hid hb1; have HBA := hid (fun o => hb1.alloc hb1.size o); clear hb1; cases r with
 | nil =>
   have hk0 : ((0 : Int) == k) = false := by rw [beq_eq_false_iff_ne]; omega
   unfold ja6 tokV qb; go_wp2; go_ret; exact ⟨rfl, HBA.out _⟩
 | cons t r =>
   rw [zy]; unfold tokV
   by_cases hkk : t.kind = k
   · have q1 : (t.kind == k) = true := by simp [hkk]
     by_cases hss : t.text = s
     · have q2 : ((S t.text).toList == (S s).toList) = true := jmS hss; have HS := hid (show (zd k s (t :: r)).isSome = true by rw [jkW hkk hss]; rfl); clear hkk hss; go_wp2; go_ret; rw [HS.out]; exact ⟨rfl, HBA.out _⟩
     · have q2 : ((S t.text).toList == (S s).toList) = false := S_ne hss; have HS := hid (show (zd k s (t :: r)).isSome = false by rw [jjp (fun h => hss h.2)]; rfl); clear hkk hss; go_wp2; go_ret; rw [HS.out]; exact ⟨rfl, HBA.out _⟩
   · have q1 : (t.kind == k) = false := by simpa using hkk
     have HS := hid (show (zd k s (t :: r)).isSome = false by rw [jjp (fun h => hkk h.1)]; rfl); clear hkk; go_wp2; go_ret; rw [HS.out]; exact ⟨rfl, HBA.out _⟩
theorem qq (b : Nat) (A : Option Addr) (C : Nat) (L r : List Tok) (k : Int) (s : List UInt8) (w : World) (h : RdS w b A C L r) (hk : k ≠ 0) :
 Calls Tryz.prog 194 #[.pointer (some ⟨b, 0, none⟩), .int .i64 k, .string (S s)] w (Sk b w A C L r (zd k s r)) := by
 have H := hid h; have hbl := h.lt; have hsm := h.small; have hlen := h.len; clear h; go_enter Tryz.func194, Tryz.ntmps194; go_wp2_with fail; refine (jc3 b A C L r k s w H.out hk).mono ?_; rintro e w1 ⟨rfl, hb1⟩; have hR1 := H.out.next hb1; have HR1 := hid hR1; have HB1 := hid (show But b w w1 from But.of hb1); have d1 := hR1.c1; have y1 := hR1.z1; clear hb1 hR1; cases hs : zd k s r with
 | none =>
   have HS := hid hs; clear hs; simp only [Option.isSome]; go_wp2; go_ret; rw [HS.out]; exact ⟨rfl, HR1.out, HB1.out⟩
 | some q =>
   obtain ⟨t, rfl, _⟩ := jc6 hs; have HS := hid hs; clear hs; simp only [Option.isSome]; obtain ⟨i, hie⟩ : ∃ i, i = L.length - (t :: q).length := ⟨_, rfl⟩; have HI := hid (show i + 1 = L.length - q.length by rw [hie]; simp at hlen ⊢; omega); rw [← hie] at d1; have hi4 : (i : Int) ≤ 400 := by omega
   have hi0 : (0 : Int) ≤ (i : Int) := by omega
   have HST := hid (show RdS (w1.setCell ⟨b, 1, none⟩ (.int .i64 ((i : Int) + 1))) b A C L q by
    have := HR1.out.step; rw [← HI.out] at this; exact this)
   clear hie; go_wp2; go_ret; rw [HS.out]; exact ⟨rfl, HST.out, HB1.out.trans (But.setO _ 1 _)⟩
theorem zq (b : Nat) (A : Option Addr) (C : Nat) (L r : List Tok) (k : Int) (s : List UInt8) (w : World) (h : RdS w b A C L r) (hk : k ≠ 0) :
 Calls Tryz.prog 161 #[.pointer (some ⟨b, 0, none⟩), .int .i64 k, .string (S s)] w (Rp b w A C L (fun (_ : Unit) _ v => v = .tuple #[]) (jD k s r)) := by
 have H := hid h; clear h; go_enter Tryz.func161, Tryz.ntmps161; go_wp2_with fail; refine (qq b A C L r k s w H.out hk).mono ?_; cases hs : zd k s r with
 | some q =>
   have HE := hid (show jD k s r = .ok ((), q) by unfold jD; rw [hs]); clear hs; rintro e w1 ⟨rfl, hR1, hB1⟩; have HR1 := hid hR1; have HB1 := hid hB1; clear hR1 hB1; go_wp2; go_end0; rw [HE.out]; exact ⟨_, rfl, rfl, HR1.out, HB1.out⟩
 | none =>
   have HE := hid (show jD k s r = .error (misP r) by unfold jD; rw [hs]); clear hs; rintro e w1 ⟨rfl, hR1, hB1⟩; have HR1 := hid hR1; have HB1 := hid hB1; clear hR1 hB1; go_wp2_with fail; refine (zK b A C L r w1 HR1.out).mono ?_; rintro e w2 ⟨rfl, hb2⟩; have HB2 := hid (HB1.out.trans (But.of hb2)); clear hb2; unfold misV; go_wp2; rw [HE.out]; exact ⟨rfl, rfl, HB2.out⟩
theorem jju {k : Int} {t : Tok} {r : List Tok} (h : t.kind = k) : qA k (t :: r) = .ok (t, r) := by unfold qA; simp only; rw [if_pos h]
theorem jk5 {k : Int} {t : Tok} {r : List Tok} (h : ¬ t.kind = k) : qA k (t :: r) = .error (misP (t :: r)) := by unfold qA; simp only; rw [if_neg h]
theorem vM (b : Nat) (A : Option Addr) (C : Nat) (L r : List Tok) (k : Int) (w : World) (h : RdS w b A C L r) (hk : k ≠ 0) :
 Calls Tryz.prog 195 #[.pointer (some ⟨b, 0, none⟩), .int .i64 k] w (Rp b w A C L (fun t _ v => v = tokV t) (qA k r)) := by
 have H := hid h; have hbl := h.lt; have hsm := h.small; have hlen := h.len; clear h; obtain ⟨W0, hW0⟩ : ∃ W0, W0 = w.alloc (.cells #[.int .i64 0, .string ⟨#[]⟩, .int .i64 0] 164) := ⟨_, rfl⟩; have hal : Below w.heap.size w W0 := by rw [hW0]; exact nb0 _ _
 have hz0 : w.heap.size < W0.heap.size := by rw [hW0]; simp
 have hT0 : TokB W0 w.heap.size qb := by rw [hW0]; exact qX w qb
 have HWE := hid hW0; have HAL := hid hal; have HT0 := hid hT0; clear hW0 hal hT0; go_enter Tryz.func195, Tryz.ntmps195; go_wp2_with fail; rw [← HWE.out]; refine (qp b A C L r W0 (H.out.next HAL.out)).mono ?_; rintro e w1 ⟨rfl, hb1⟩; have hR1 := (H.out.next HAL.out).next hb1; have hT1 := HT0.out.next hb1; have hbl1 := hR1.lt; have hne : b ≠ w1.heap.size := by omega
 have hnw : w.heap.size ≠ w1.heap.size := by have := hb1.size; omega
 have hwl : w.heap.size < w1.heap.size := by have := hb1.size; omega
 have hbw : b ≠ w.heap.size := by omega
 have HR1 := hid hR1; have HT1 := hid hT1; have HB1 := hid (show But b w w1 from (But.of HAL.out).trans (But.of hb1)); have d1 := hR1.c1; have y1 := hR1.z1; have t0 := hT1.c0; have t1 := hT1.c1; have t2 := hT1.c2; have u0 := hT1.free 0; have u1 := hT1.free 1; have u2 := hT1.free 2; clear hb1 hR1 hT1; cases r with
 | nil =>
   have hk0 : ((0 : Int) != k) = true := by simp; omega
   have HE := hid (show qA k [] = .error (misP []) from rfl); unfold ja6 tokV qb; go_wp2_with fail; refine (zK b A C L [] _ (HR1.out.next (nb0 _ _))).mono ?_; rintro e w2 ⟨rfl, hb2⟩; have HB2 := hid ((HB1.out.trans (But.of (nb0 _ _))).trans (But.of hb2)); clear hb2; unfold misV; go_wp2; exact ⟨rfl, rfl, HB2.out⟩
 | cons t r =>
   rw [zy]; unfold tokV
   by_cases hkk : t.kind = k
   · have q1 : (t.kind != k) = false := by simp [hkk]
     obtain ⟨i, hie⟩ : ∃ i, i = L.length - (t :: r).length := ⟨_, rfl⟩; have HI := hid (show i + 1 = L.length - r.length by rw [hie]; simp at hlen ⊢; omega); rw [← hie] at d1; have hi4 : (i : Int) ≤ 400 := by omega
     have hi0 : (0 : Int) ≤ (i : Int) := by omega
     have HS := hid (jju (r := r) hkk); have HST := hid (show RdS (w1.setCell ⟨b, 1, none⟩ (.int .i64 ((i : Int) + 1))) b A C L r by
        have := HR1.out.step; rw [← HI.out] at this; exact this)
     clear hkk hie; go_wp2; have hlow : Below w.heap.size (w1.setCell ⟨b, 1, none⟩ (.int .i64 ((i : Int) + 1))) (((((w1.setCell ⟨b, 1, none⟩ (.int .i64 ((i : Int) + 1))).setCell ⟨w.heap.size, 0, none⟩ (.int .i64 t.kind)).setCell ⟨w.heap.size, 1, none⟩ (.string (S t.text))).setCell ⟨w.heap.size, 2, none⟩ (.int .i64 t.num)).alloc (.cells #[.int .i64 t.kind, .string (S t.text), .int .i64 t.num] 164)) :=
        ((((Below.refl _ _).setCell (p := ⟨w.heap.size, 0, none⟩) (Nat.le_refl _) _).setCell (p := ⟨w.heap.size, 1, none⟩) (Nat.le_refl _) _).setCell (p := ⟨w.heap.size, 2, none⟩) (Nat.le_refl _) _).alloc (by simp [World.setCell]; omega) _
     have hTW : TokB (((((w1.setCell ⟨b, 1, none⟩ (.int .i64 ((i : Int) + 1))).setCell ⟨w.heap.size, 0, none⟩ (.int .i64 t.kind)).setCell ⟨w.heap.size, 1, none⟩ (.string (S t.text))).setCell ⟨w.heap.size, 2, none⟩ (.int .i64 t.num)).alloc (.cells #[.int .i64 t.kind, .string (S t.text), .int .i64 t.num] 164)) w.heap.size t := by
        have a0 : TokB (w1.setCell ⟨b, 1, none⟩ (.int .i64 ((i : Int) + 1))) w.heap.size qb := HT1.out.far (p := ⟨b, 1, none⟩) hbw.symm _; have a1 := ji (i := 0) (.int .i64 t.kind) a0; have a2 := ji (i := 1) (.string (S t.text)) a1; have a3 := ji (i := 2) (.int .i64 t.num) a2; unfold TokB; rw [show ∀ (W : World) (o : Obj), w.heap.size < W.heap.size → (W.alloc o).heap[w.heap.size]? = W.heap[w.heap.size]? from fun W o h => by
         show (W.heap.push o)[w.heap.size]? = _
         rw [Array.getElem?_push_lt h, Array.getElem?_eq_getElem h]]
        · rw [a3]; simp
        · simpa [World.setCell] using hwl
     have m0 := hTW.c0; have m1 := hTW.c1; have m2 := hTW.c2; refine bodyPost_ret (v := tokV t) (by simp only [results, Tryz.results195]; simp [go_sem, tokV, m0, m1, m2]) rfl ?_; rw [HS.out]; exact ⟨_, rfl, rfl, HST.out.under hlow hbl, (HB1.out.trans (But.setO _ 1 _)).low hlow⟩
   · have q1 : (t.kind != k) = true := by simpa using hkk
     have HE := hid (jk5 (r := r) hkk); clear hkk; go_wp2_with fail; refine (zK b A C L (t :: r) _ (HR1.out.next (nb0 _ _))).mono ?_; rintro e w2 ⟨rfl, hb2⟩; have HB2 := hid ((HB1.out.trans (But.of (nb0 _ _))).trans (But.of hb2)); clear hb2; unfold misV; go_wp2; rw [HE.out]; exact ⟨rfl, rfl, HB2.out⟩
theorem jlK (t : Tok) : ∀ w : World, (Instr.field 164 (.agg #[.int .i64 t.kind, .string (S t.text), .int .i64 t.num]) 0).run Tryz.prog w = .ok (.int .i64 t.kind) w := fun _ => by kernel_rfl
theorem jjC (t : Tok) : ∀ w : World, (Instr.field 164 (.agg #[.int .i64 t.kind, .string (S t.text), .int .i64 t.num]) 1).run Tryz.prog w = .ok (.string (S t.text)) w := fun _ => by kernel_rfl
theorem jlL (t : Tok) : ∀ w : World, (Instr.field 164 (.agg #[.int .i64 t.kind, .string (S t.text), .int .i64 t.num]) 2).run Tryz.prog w = .ok (.int .i64 t.num) w := fun _ => by kernel_rfl
theorem jaL (b : Nat) (A : Option Addr) (C : Nat) (L r : List Tok) (w : World) (h : RdS w b A C L r) :
 Calls Tryz.prog 160 #[.pointer (some ⟨b, 0, none⟩)] w (Rp b w A C L (fun x _ v => v = .string (S x)) (qF r)) := by
 have H := hid h; clear h; go_enter Tryz.func160, Tryz.ntmps160; go_wp2_with fail; refine (vM b A C L r 4 w H.out (by omega)).mono ?_; cases hs : qA 4 r with
 | ok x =>
   obtain ⟨t, q⟩ := x; have HE := hid (show qF r = .ok (t.text, q) by unfold qF; rw [hs]; rfl); clear hs; rintro e w1 ⟨v, rfl, rfl, hR1, hB1⟩; have HR1 := hid hR1; have HB1 := hid hB1; clear hR1 hB1; unfold tokV; have hf1 := jjC t; go_wp2; go_ret; rw [HE.out]; exact ⟨_, rfl, rfl, HR1.out, HB1.out⟩
 | error m =>
   have HE := hid (show qF r = .error m by unfold qF; rw [hs]; rfl); clear hs; rintro e w1 ⟨rfl, hB1⟩; have HB1 := hid hB1; clear hB1; go_wp2; rw [HE.out]; exact ⟨rfl, rfl, HB1.out⟩
theorem jg4 {k d : Nat} {r : List Tok} (h : 6 < d) : jac k d r = .error (r.length, 1) := by unfold jac; rw [if_pos h]
theorem jiF {k d : Nat} (h : ¬ 6 < d) : jac k d [] = .error (misP []) := by unfold jac; rw [if_neg h]
theorem jiG {k d : Nat} {t : Tok} {r : List Tok} (h : ¬ 6 < d) (h1 : t.kind = 1) (h2 : jG k t.text ≠ 0) : jac k d (t :: r) = .ok (jG k t.text, r) := by unfold jac; rw [if_neg h]; simp only; rw [if_pos ⟨h1, h2⟩]
theorem jf7 {k d : Nat} {t : Tok} {r : List Tok} (h : ¬ 6 < d) (h1 : ¬ (t.kind = 1 ∧ jG k t.text ≠ 0)) : jac k d (t :: r) = .error (misP (t :: r)) := by unfold jac; rw [if_neg h]; simp only; rw [if_neg h1]
theorem jey (b : Nat) (A : Option Addr) (C : Nat) (L r : List Tok) (k d : Nat) (w : World) (h : RdS w b A C L r) (hk : k < 4) (hw : WordsAt w) :
 Calls Tryz.prog 157 #[.pointer (some ⟨b, 0, none⟩), .int .i64 k, .int .i64 d] w (Rp b w A C L (fun n _ v => v = .int .i64 (n : Nat)) (jac k d r)) := by
 have H := hid h; have HW := hid hw; have hbl := h.lt; have hsm := h.small; have hlen := h.len; have c1 := h.c1; clear h hw
 by_cases hd : 6 < d
 · have HE := hid (jg4 (k := k) (r := r) hd); have hd' : (6 : Int) < (d : Int) := by omega
   clear hd; go_enter Tryz.func157, Tryz.ntmps157; go_wp2; rw [HE.out]; exact ⟨rfl, rfl, But.refl _ _⟩
 · have hd' : ¬ (6 : Int) < (d : Int) := by omega
   have HD := hid hd; clear hd c1; go_enter Tryz.func157, Tryz.ntmps157; go_wp2_with fail; refine (qp b A C L r w H.out).mono ?_; rintro e w1 ⟨rfl, hb1⟩; have HR1 := hid (H.out.next hb1); have HB1 := hid (show But b w w1 from But.of hb1); have HW1 := hid (HW.out.next hb1); clear hb1; have hf1 := jjC (ja6 r); rw [tokV]; go_wp2_with fail; refine (ja7 k hk (ja6 r).text w1 HW1.out).mono ?_; rintro e w1' ⟨rfl, hw1⟩; have hw1' := hw1.symm; subst hw1'; clear hf1; go_wp2_with fail; refine (qp b A C L r w1 HR1.out).mono ?_; rintro e w2 ⟨rfl, hb2⟩; have hR2 := HR1.out.next hb2; have HR2 := hid hR2; have HB2 := hid (show But b w w2 from HB1.out.trans (But.of hb2)); have d1 := hR2.c1; have y1 := hR2.z1; clear hb2 hR2; have hf0 := jlK (ja6 r); rw [tokV]; cases r with
   | nil =>
     have hz : (((ja6 []).kind : Int) != 1) = true := by rfl
     have HE := hid (jiF (k := k) HD.out); go_wp2_with fail; refine (zK b A C L [] w2 HR2.out).mono ?_; rintro e w3 ⟨rfl, hb3⟩; have HB3 := hid (HB2.out.trans (But.of hb3)); clear hb3; unfold misV; go_wp2; rw [HE.out]; exact ⟨rfl, rfl, HB3.out⟩
   | cons t r =>
     rw [zy]; rw [zy] at hf0
     by_cases ht : t.kind = 1
     · have q1 : (t.kind != 1) = false := by simp [ht]
       by_cases hn : jG k t.text = 0
       · have HE := hid (jf7 (r := r) HD.out (fun (h : t.kind = 1 ∧ jG k t.text ≠ 0) => h.2 hn)); rw [hn]; clear ht hn; go_wp2_with fail; refine (zK b A C L (t :: r) w2 HR2.out).mono ?_; rintro e w3 ⟨rfl, hb3⟩; have HB3 := hid (HB2.out.trans (But.of hb3)); clear hb3; unfold misV; go_wp2; rw [HE.out]; exact ⟨rfl, rfl, HB3.out⟩
       · have HE := hid (jiG (r := r) HD.out ht hn); obtain ⟨m, hm⟩ : ∃ m, m = jG k t.text := ⟨_, rfl⟩; rw [← hm]; have HM := hid hm; have hm0 : ((m : Int) == 0) = false := by rw [beq_eq_false_iff_ne, hm]; omega
         obtain ⟨i, hie⟩ : ∃ i, i = L.length - (t :: r).length := ⟨_, rfl⟩; have HI := hid (show i + 1 = L.length - r.length by rw [hie]; simp at hlen ⊢; omega); rw [← hie] at d1; have hi4 : (i : Int) ≤ 400 := by omega
         have hi0 : (0 : Int) ≤ (i : Int) := by omega
         have HST := hid (show RdS (w2.setCell ⟨b, 1, none⟩ (.int .i64 ((i : Int) + 1))) b A C L r by
            have := HR2.out.step; rw [← HI.out] at this; exact this)
         clear ht hn hm hie; go_wp2; go_ret; rw [HE.out, ← HM.out]; exact ⟨_, rfl, rfl, HST.out, HB2.out.trans (But.setO _ 1 _)⟩
     · have q1 : (t.kind != 1) = true := by simpa using ht
       have HE := hid (jf7 (r := r) HD.out (fun (h : t.kind = 1 ∧ jG k t.text ≠ 0) => ht h.1)); clear ht; go_wp2_with fail; refine (zK b A C L (t :: r) w2 HR2.out).mono ?_; rintro e w3 ⟨rfl, hb3⟩; have HB3 := hid (HB2.out.trans (But.of hb3)); clear hb3; unfold misV; go_wp2; rw [HE.out]; exact ⟨rfl, rfl, HB3.out⟩
theorem jhs (b : Nat) (A : Option Addr) (C : Nat) (L r : List Tok) (w : World) (h : RdS w b A C L r) :
 Calls Tryz.prog 228 #[.pointer (some ⟨b, 0, none⟩)] w (Rp b w A C L (fun (x : Bool × Int) _ v => v = .tuple #[.bool x.1, .int .i64 x.2]) (qc r)) := by
 have H := hid h; clear h; go_enter Tryz.func228, Tryz.ntmps228; go_wp2_with fail; refine (qq b A C L r 2 jhl w H.out (by omega)).mono ?_; cases hs : zd 2 jhl r with
 | some q =>
   rintro e w1 ⟨rfl, hR1, hB1⟩; have HR1 := hid hR1; have HB1 := hid hB1; clear hR1 hB1; go_wp2_with fail; refine (vM b A C L q 3 w1 HR1.out (by omega)).mono ?_; cases hk : qA 3 q with
   | ok x =>
     obtain ⟨t, q2⟩ := x; have HE := hid (show qc r = .ok ((true, t.num), q2) by unfold qc; rw [hs]; simp only; rw [hk]; rfl); clear hs hk; rintro e w2 ⟨v, rfl, rfl, hR2, hB2⟩; have HR2 := hid hR2; have HB2 := hid (HB1.out.trans hB2); clear hR2 hB2; rw [tokV]; have hf2 := jlL t; go_wp2; go_ret2; rw [HE.out]; exact ⟨_, rfl, rfl, HR2.out, HB2.out⟩
   | error m =>
     have HE := hid (show qc r = .error m by unfold qc; rw [hs]; simp only; rw [hk]; rfl); clear hs hk; rintro e w2 ⟨rfl, hB2⟩; have HB2 := hid (HB1.out.trans hB2); clear hB2; go_wp2; rw [HE.out]; exact ⟨rfl, rfl, HB2.out⟩
 | none =>
   rintro e w1 ⟨rfl, hR1, hB1⟩; have HR1 := hid hR1; have HB1 := hid hB1; clear hR1 hB1; go_wp2_with fail; refine (zq b A C L r 2 jc8 w1 HR1.out (by omega)).mono ?_; cases hu : jD 2 jc8 r with
   | error m =>
     have HE := hid (show qc r = .error m by unfold qc; rw [hs]; simp only; rw [hu]; rfl); clear hs hu; rintro e w2 ⟨rfl, hB2⟩; have HB2 := hid (HB1.out.trans hB2); clear hB2; go_wp2; rw [HE.out]; exact ⟨rfl, rfl, HB2.out⟩
   | ok x =>
     obtain ⟨u, q⟩ := x; rintro e w2 ⟨v, rfl, rfl, hR2, hB2⟩; have HR2 := hid hR2; have HB2 := hid (HB1.out.trans hB2); clear hR2 hB2; go_wp2_with fail; refine (vM b A C L q 3 w2 HR2.out (by omega)).mono ?_; cases hk : qA 3 q with
     | ok x =>
       obtain ⟨t, q2⟩ := x; have HE := hid (show qc r = .ok ((false, t.num), q2) by unfold qc; rw [hs]; simp only; rw [hu]; unfold jm; simp only; rw [hk]); clear hs hk hu; rintro e w3 ⟨v, rfl, rfl, hR3, hB3⟩; have HR3 := hid hR3; have HB3 := hid (HB2.out.trans hB3); clear hR3 hB3; rw [tokV]; have hf2 := jlL t; go_wp2; go_ret2; rw [HE.out]; exact ⟨_, rfl, rfl, HR3.out, HB3.out⟩
     | error m =>
       have HE := hid (show qc r = .error m by unfold qc; rw [hs]; simp only; rw [hu]; unfold jm; simp only; rw [hk]); clear hs hk hu; rintro e w3 ⟨rfl, hB3⟩; have HB3 := hid (HB2.out.trans hB3); clear hB3; go_wp2; rw [HE.out]; exact ⟨rfl, rfl, HB3.out⟩
theorem jmf : (Tryz.prog.info? 9).map (fun i => (i.zero, i.size, i.bytes)) = some (some (.string ByteArray.empty), 1, 16) := by kernel_rfl
def jbd (l : List (List UInt8)) : List Value := l.map fun x => .string (S x)
theorem jkF {w : World} {B : Nat} {v : Value} {l : List (List UInt8)} (h : w.ownsRow B 9 1 v l.length (jbd l)) (hm : l.length ≤ maxLen) : TxtsM (newB B) w v l := by
 rcases h.2 with ⟨rfl, hn⟩ | ⟨g, cap, cur, rfl, hb, hg, q⟩
 · have : l = [] := List.length_eq_zero_iff.1 hn; subst this; exact jg _ _ _ _ _ _
 · refine ⟨some ⟨g, 0, none⟩, cap, rfl, hm, fun i x hx => ?_⟩; refine ⟨g, 0, [.string (S x)], rfl, (Array.getElem?_eq_some_iff.1 hg).1, hb, rfl, fun j u hj => ?_, rfl⟩; cases j with
   | succ j => simp at hj
   | zero =>
     simp at hj
     subst hj; have hi : i < l.length := (List.getElem?_eq_some_iff.1 hx).1; rw [Nat.zero_add, Nat.mul_one, Nat.add_zero, World.ownsRow.cellAt h i (by omega)]
     simp [jbd, hx]
def vJ (b n : Nat) (w : World) : Nat := match w.cell? ⟨b, 1, none⟩ with | some (.int _ k) => ((n : Int) - k).toNat | _ => 0
theorem zN {w : World} {b : Nat} {A : Option Addr} {C : Nat} {L r : List Tok} (h : RdS w b A C L r) : vJ b L.length w = r.length := by
 unfold vJ; rw [h.c1]; have := h.len; simp only; omega
theorem jek {A : Type} {f : List Tok → Rdg A} {m : Nat} {acc : List A} {r : List Tok} (h : zd 5 [44] r = none) : vq f m acc r = .ok (acc, r) := by
 cases m with
 | zero => rfl
 | succ m => unfold vq; rw [h]
theorem jf8 {A : Type} {f : List Tok → Rdg A} {m : Nat} {acc : List A} {r q : List Tok} (h : zd 5 [44] r = some q) : vq f (m + 1) acc r = jm (f q) fun x q' => vq f m (acc ++ [x]) q' := by
 rw [vq, h]
theorem jmw (W : World) (x : Value) (t : TypeId) : ∀ (j : Nat) u, [x][j]? = some u → (W.alloc (.cells #[x] t)).cell? ((⟨W.heap.size, 0, none⟩ : Addr).add j) = some u := by
 intro j u hj; rw [Addr.add_lit, Nat.zero_add]
 match j, hj with
 | 0, hj => simp at hj; subst hj; simp
theorem qL (b : Nat) (A : Option Addr) (C : Nat) (L r : List Tok) (w : World) (h : RdS w b A C L r) :
 Calls Tryz.prog 159 #[.pointer (some ⟨b, 0, none⟩)] w (Rp b w A C L (fun l w' v => TxtsM (newB w.heap.size) w' v l) (j8 r)) := by
 have H := hid h; have hbl := h.lt; have hsm := h.small; obtain ⟨i0, hi, hz0, hz1, hz2⟩ := info_parts jmf; clear h; go_enter Tryz.func159, Tryz.ntmps159; go_wp2_with fail; refine (qq b A C L r 5 [91] w H.out (by omega)).mono ?_; cases hs : zd 5 [91] r with
 | none =>
   rintro e w1 ⟨rfl, hR1, hB1⟩; have HR1 := hid hR1; have HB1 := hid hB1; clear hR1 hB1; go_wp2_with fail; refine (jaL b A C L r w1 HR1.out).mono ?_; cases hk : qF r with
   | error m =>
     have HE := hid (show j8 r = .error m by unfold j8; rw [hs]; simp only; rw [hk]; rfl); clear hs hk; rintro e w2 ⟨rfl, hB2⟩; have HB2 := hid (HB1.out.trans hB2); clear hB2; go_wp2; rw [HE.out]; exact ⟨rfl, rfl, HB2.out⟩
   | ok y =>
     obtain ⟨x, q⟩ := y; have HE := hid (show j8 r = .ok ([x], q) by unfold j8; rw [hs]; simp only; rw [hk]; rfl); clear hs hk; rintro e w2 ⟨v, rfl, rfl, hR2, hB2⟩; have HB2 := hid (HB1.out.trans hB2); have HR2 := hid hR2; have hsz := HB2.out.size; clear hR2 hB2; have hal : Below w2.heap.size w2 (w2.alloc (.cells #[.string (S x)] 9)) := nb0 _ _; have HV := hid (show TxtsM (newB w.heap.size) (w2.alloc (.cells #[.string (S x)] 9)) (.slice (some ⟨w2.heap.size, 0, none⟩) 1 1) [x] from jbC (cs := [.string (S x)]) (heap_alloc_new w2 _) rfl hsz rfl); have HAL := hid hal; clear hal; go_wp2; go_ret; rw [HE.out]; exact ⟨_, rfl, HV.out, HR2.out.next HAL.out, HB2.out.trans (But.of HAL.out)⟩
 | some q0 =>
   rintro e w1 ⟨rfl, hR1, hB1⟩; have HR1 := hid hR1; have HB1 := hid hB1; clear hR1 hB1; go_wp2_with fail; refine (jaL b A C L q0 w1 HR1.out).mono ?_; cases hk : qF q0 with
   | error m =>
     have HE := hid (show j8 r = .error m by unfold j8; rw [hs]; simp only; rw [hk]; rfl); clear hs hk; rintro e w2 ⟨rfl, hB2⟩; have HB2 := hid (HB1.out.trans hB2); clear hB2; go_wp2; rw [HE.out]; exact ⟨rfl, rfl, HB2.out⟩
   | ok y =>
     obtain ⟨x, q1⟩ := y; have HL := hid (show j8 r = jm (vq qF q1.length [x] q1) fun l q2 => jm (jD 5 [93] q2) fun _ q3 => .ok (l, q3) by unfold j8; rw [hs]; simp only; rw [hk]; rfl); clear hs hk; rintro e w2 ⟨v, rfl, rfl, hR2, hB2⟩; have HB2 := hid (HB1.out.trans hB2); have hsz := HB2.out.size; obtain ⟨W0, hW0⟩ : ∃ W0, W0 = w2.alloc (.cells #[.string (S x)] 9) := ⟨_, rfl⟩; have hal : Below w2.heap.size w2 W0 := by rw [hW0]; exact nb0 _ _
     have HO0 := hid (show W0.ownsRow w.heap.size 9 1 (.slice (some ⟨w2.heap.size, 0, none⟩) [x].length 1) [x].length (jbd [x]) by
        rw [hW0]; exact ⟨rfl, .inr ⟨w2.heap.size, 1, #[.string (S x)], rfl, hsz, heap_alloc_new w2 _, by simp, by unfold maxLen; omega, rfl, rfl⟩⟩)
     have HR0 := hid (hR2.next hal); have HB0 := hid (show But b w W0 from HB2.out.trans (But.of hal)); have HWE := hid hW0; clear hR2 hB2 hW0 hal; go_wp2; rw [← HWE.out]
     go_loopw [3] (fun v wr => ∃ (acc : List (List UInt8)) (q : List Tok) (a0 : Option Addr) (c0 m : Nat), v = .slice a0 acc.length c0 ∧ wr.ownsRow w.heap.size 9 1 (.slice a0 acc.length c0) acc.length (jbd acc) ∧ RdS wr b A C L q ∧ q.length ≤ m ∧ acc.length + q.length ≤ 401 ∧
      Hid (j8 r = jm (vq qF m acc q) fun l q2 => jm (jD 5 [93] q2) fun _ q3 => .ok (l, q3)) ∧ But b w wr) (fun _ wr => vJ b L.length wr)
     case atStart => exact ⟨[x], q1, _, _, q1.length, rfl, HO0.out, HR0.out, Nat.le_refl _, by have := HR0.out.len; simp; omega, HL, HB0.out⟩
     case round =>
        obtain ⟨acc, q, a0, c0, m, rfl, hO, hRr, hqm, hacc, hN, hBr⟩ := hrel; have HO := hid hO; have HRr := hid hRr; have HBr := hid hBr; have HM := hid (zN hRr); clear hO hRr hBr; go_wp2_with fail; refine (qq b A C L q 5 [44] wr HRr.out (by omega)).mono ?_; cases hs : zd 5 [44] q with
        | none =>
          have HE := hid (show j8 r = jm (jD 5 [93] q) fun _ q3 => .ok (acc, q3) by rw [hN.out, jek hs]; rfl); clear hs; rintro e w3 ⟨rfl, hR3, hB3⟩; have HR3 := hid hR3; have HB3 := hid (HBr.out.trans hB3); have HO3 := hid (qE HO.out hB3 hbl); clear hR3 hB3; go_wp2_with fail; refine (zq b A C L q 5 [93] w3 HR3.out (by omega)).mono ?_; cases ht : jD 5 [93] q with
          | error mm =>
            have HF := hid (show j8 r = .error mm by rw [HE.out, ht]; rfl); clear ht; rintro e w4 ⟨rfl, hB4⟩; have HB4 := hid (HB3.out.trans hB4); clear hB4; go_wp2; rw [HF.out]; exact ⟨rfl, rfl, HB4.out⟩
          | ok y =>
            obtain ⟨u, q3⟩ := y; have HF := hid (show j8 r = .ok (acc, q3) by rw [HE.out, ht]; rfl); clear ht; rintro e w4 ⟨v, rfl, rfl, hR4, hB4⟩; have HR4 := hid hR4; have HB4 := hid (HB3.out.trans hB4); have HV := hid (jkF (qE HO3.out hB4 hbl) (by unfold maxLen; omega)); clear hR4 hB4; go_wp2; go_ret; rw [HF.out]; exact ⟨_, rfl, HV.out, HR4.out, HB4.out⟩
        | some q' =>
          have hql := jC hs; obtain ⟨m', rfl⟩ : ∃ m', m = m' + 1 := ⟨m - 1, by omega⟩; have HE := hid (show j8 r = jm (jm (qF q') fun x q2 => vq qF m' (acc ++ [x]) q2) fun l q2 => jm (jD 5 [93] q2) fun _ q3 => .ok (l, q3) by rw [hN.out, jf8 hs]); clear hs; rintro e w3 ⟨rfl, hR3, hB3⟩; have HR3 := hid hR3; have HB3 := hid (HBr.out.trans hB3); have HO3 := hid (qE HO.out hB3 hbl); clear hR3 hB3; go_wp2_with fail; refine (jaL b A C L q' w3 HR3.out).mono ?_; cases ht : qF q' with
          | error mm =>
            have HF := hid (show j8 r = .error mm by rw [HE.out, ht]; rfl); clear ht; rintro e w4 ⟨rfl, hB4⟩; have HB4 := hid (HB3.out.trans hB4); clear hB4; go_wp2; rw [HF.out]; exact ⟨rfl, rfl, HB4.out⟩
          | ok y =>
            obtain ⟨x2, q2⟩ := y; have hq2 := vO ht; have HF := hid (show j8 r = jm (vq qF m' (acc ++ [x2]) q2) fun l q2 => jm (jD 5 [93] q2) fun _ q3 => .ok (l, q3) by rw [HE.out, ht]; rfl); clear ht; rintro e w4 ⟨v, rfl, rfl, hR4, hB4⟩; have HR4 := hid hR4; have HB4 := hid (HB3.out.trans hB4); have hO4 : w4.ownsRow w.heap.size 9 1 (.slice a0 acc.length c0) acc.length (jbd acc) := qE HO3.out hB4 hbl; have hsz4 := HB4.out.size; clear hR4 hB4
            go_wp2_with (at_builtin; refine wpList_append_own _ rfl _ _ 22 rfl w.heap.size 9 i0 _ 1 16 Tryz.underlying22 hi hz0 hz1 hz2 rfl (by decide) (.slice a0 acc.length c0) acc.length (jbd acc) rfl (World.ownsRow.alloc hO4 _) ⟨w4.heap.size, 0, none⟩ 1 1 [.string (S x2)] rfl rfl (jmw _ _ _) ?c2 ?c3 ?c4 ?c5 ?_)
            case c2 => intro u hu; simp at hu; subst hu; rfl
            case c3 => unfold maxLen; omega
            case c4 => omega
            case c5 => simp; omega
            intro v' w5 hown' hgrow _; have hBb : Below w.heap.size w4 w5 := ((Below.refl _ _).alloc hsz4 _).grown hgrow (by simp; omega) (fun j hj => (World.ownsRow.lt hO4 j hj).1); have HR5 := hid (HR4.out.under hBb hbl); have HB5 := hid (HB4.out.low hBb); have HO5 := hid (show w5.ownsRow w.heap.size 9 1 v' (acc ++ [x2]).length (jbd (acc ++ [x2])) by
              have := hown'; rw [List.length_append]; unfold jbd at this ⊢; rw [List.map_append]; exact this)
            obtain ⟨a5, c5, hv5⟩ : ∃ a c, v' = .slice a (acc ++ [x2]).length c := by
              rcases HO5.out.2 with ⟨rfl, hn⟩ | ⟨g, cap, cur, rfl, _⟩
              · exact ⟨none, 0, by rw [hn]⟩
              · exact ⟨_, _, rfl⟩
            subst hv5; have HD := hid (show vJ b L.length w5 < vJ b L.length wr by rw [zN HR5.out, HM.out]; omega); clear hown' hgrow hBb hO4; go_wp2; exact ⟨⟨acc ++ [x2], q2, a5, c5, m', by first | rfl | simp, HO5.out, HR5.out, by omega, by simp; omega, HF, HB5.out⟩, HD.out⟩
def finT (hp : Bool) (m p : Nat) : Nat × Nat := (if m = 0 then 1 else m, if p = 0 ∧ hp = true then 1 else p)
theorem jk2 {hp : Bool} {r : List Tok} {m p : Nat} (h : ¬ (ja6 r).kind = 2) : zE hp r m p = .ok (finT hp m p, r) := by
 cases r with
 | nil => rfl
 | cons t r => unfold zE; rw [if_neg (show ¬ t.kind = 2 from h)]; rfl
theorem jk3 {hp : Bool} {t : Tok} {r : List Tok} {m p : Nat} (h : t.kind = 2) (h1 : jG 2 t.text ≠ 0 ∧ m = 0) : zE hp (t :: r) m p = zE hp r (jG 2 t.text) p := by
 rw [zE, if_pos h, if_pos h1]
theorem jjt {hp : Bool} {t : Tok} {r : List Tok} {m p : Nat} (h : t.kind = 2) (h1 : ¬ (jG 2 t.text ≠ 0 ∧ m = 0)) (h2 : jG 3 t.text ≠ 0 ∧ p = 0 ∧ hp = true) : zE hp (t :: r) m p = zE hp r m (jG 3 t.text) := by
 rw [zE, if_pos h, if_neg h1, if_pos h2]
theorem jk4 {hp : Bool} {t : Tok} {r : List Tok} {m p : Nat} (h : t.kind = 2) (h1 : ¬ (jG 2 t.text ≠ 0 ∧ m = 0)) (h2 : ¬ (jG 3 t.text ≠ 0 ∧ p = 0 ∧ hp = true)) : zE hp (t :: r) m p = .error (misP (t :: r)) := by
 rw [zE, if_pos h, if_neg h1, if_neg h2]
theorem jeB (b : Nat) (A : Option Addr) (C : Nat) (L r : List Tok) (hp : Bool) (w : World) (h : RdS w b A C L r) (hw : WordsAt w) (hG : 3 < b) :
 Calls Tryz.prog 227 #[.pointer (some ⟨b, 0, none⟩), .bool hp] w (Rp b w A C L (fun (x : Nat × Nat) _ v => v = .tuple #[.int .i64 (x.1 : Nat), .int .i64 (x.2 : Nat)]) (zE hp r 0 0)) := by
 have H := hid h; have HW := hid hw; have hsm := h.small; clear h hw; go_enter Tryz.func227, Tryz.ntmps227; go_wp2
 go_loopw [4, 5] (fun v4 v5 wr => ∃ (m p : Nat) (q : List Tok), v4 = .int .i64 m ∧ v5 = .int .i64 p ∧ RdS wr b A C L q ∧ But b w wr ∧ Hid (zE hp r 0 0 = zE hp q m p)) (fun _ _ wr => vJ b L.length wr)
 case atStart => exact ⟨0, 0, r, rfl, rfl, H.out, But.refl _ _, rfl⟩
 case round =>
  obtain ⟨m, p, q, rfl, rfl, hRr, hBr, hN⟩ := hrel; have HRr := hid hRr; have HBr := hid hBr; have HWr := hid (HW.out.but hBr hG); have HM := hid (zN hRr); have hlen := hRr.len; clear hRr hBr; go_wp2_with fail; refine (qp b A C L q wr HRr.out).mono ?_; rintro e w1 ⟨rfl, hb1⟩; have HR1 := hid (HRr.out.next hb1); have HB1 := hid (HBr.out.trans (But.of hb1)); have HW1 := hid (HWr.out.next hb1); clear hb1; rw [tokV]; have hf0 := jlK (ja6 q)
  by_cases hk : (ja6 q).kind = 2
  · have q1 : ((ja6 q).kind == 2) = true := by simp [hk]
    cases q with
    | nil => exact absurd hk (by decide)
    | cons t q =>
      rw [zy] at hk q1 hf0; rw [zy]; have HK := hid hk; clear hk; go_wp2_with fail; refine (qp b A C L (t :: q) w1 HR1.out).mono ?_; rintro e w2 ⟨rfl, hb2⟩; have HR2 := hid (HR1.out.next hb2); have HB2 := hid (HB1.out.trans (But.of hb2)); have HW2 := hid (HW1.out.next hb2); clear hb2; rw [tokV, zy]; have hf1 := jjC t; go_wp2_with fail; refine (ja7 2 (by omega) t.text w2 HW2.out).mono ?_; rintro e w2' ⟨rfl, hw2⟩; have hw2' := hw2.symm; subst hw2'; go_wp2_with fail; refine (qp b A C L (t :: q) w2 HR2.out).mono ?_; rintro e w3 ⟨rfl, hb3⟩; have hR3 := HR2.out.next hb3; have HR3 := hid hR3; have HB3 := hid (HB2.out.trans (But.of hb3)); have HW3 := hid (HW2.out.next hb3); have d1 := hR3.c1; have y1 := hR3.z1; clear hb3 hR3; rw [tokV, zy]; go_wp2_with fail; refine (ja7 3 (by omega) t.text w3 HW3.out).mono ?_; rintro e w3' ⟨rfl, hw3⟩; have hw3' := hw3.symm; subst hw3'; obtain ⟨n2, hn2⟩ : ∃ n2, n2 = jG 2 t.text := ⟨_, rfl⟩; obtain ⟨n3, hn3⟩ : ∃ n3, n3 = jG 3 t.text := ⟨_, rfl⟩; rw [← hn2, ← hn3]; obtain ⟨i, hie⟩ : ∃ i, i = L.length - (t :: q).length := ⟨_, rfl⟩; have HI := hid (show i + 1 = L.length - q.length by rw [hie]; simp at hlen ⊢; omega); rw [← hie] at d1; have hi4 : (i : Int) ≤ 400 := by omega
      have hi0 : (0 : Int) ≤ (i : Int) := by omega
      have HST := hid (show RdS (w3.setCell ⟨b, 1, none⟩ (.int .i64 ((i : Int) + 1))) b A C L q by
       have := HR3.out.step; rw [← HI.out] at this; exact this)
      have HD := hid (show vJ b L.length (w3.setCell ⟨b, 1, none⟩ (.int .i64 ((i : Int) + 1))) < vJ b L.length wr by rw [zN HST.out, HM.out]; simp); have HBS := hid (show But b w (w3.setCell ⟨b, 1, none⟩ (.int .i64 ((i : Int) + 1))) from HB3.out.trans (But.setO _ 1 _)); clear hie hf0 hf1 q1
      by_cases c1 : n2 ≠ 0 ∧ m = 0
      · have HE := hid (show zE hp r 0 0 = zE hp q n2 p by rw [hN.out, hn2]; exact jk3 HK.out (by rw [← hn2]; exact c1)); have e1 : ((n2 : Int) != 0) = true := by simp; exact c1.1
        have e2 : m = 0 := c1.2; subst e2; clear hn2 hn3 c1; go_wp2; exact ⟨⟨n2, p, q, rfl, rfl, HST.out, HBS.out, HE⟩, HD.out⟩
      · have HC1 := hid c1; have e1 : n2 = 0 ∨ m ≠ 0 := by omega
        by_cases c2 : n3 ≠ 0 ∧ p = 0 ∧ hp = true
        · have HE := hid (show zE hp r 0 0 = zE hp q m n3 by rw [hN.out, hn3]; exact jjt HK.out (by rw [← hn2]; exact c1) (by rw [← hn3]; exact c2)); obtain ⟨g1, g2, g3⟩ := c2; have e3 : ((n3 : Int) != 0) = true := by simp; exact g1
          subst g2; subst g3; clear hn2 hn3 c1 g1
          rcases e1 with e1 | e1
          · subst e1; go_wp2; exact ⟨⟨m, n3, q, rfl, rfl, HST.out, HBS.out, HE⟩, HD.out⟩
          · have e4 : ((m : Int) == 0) = false := by rw [beq_eq_false_iff_ne]; omega
            clear e1
            by_cases z : n2 = 0
            · subst z; go_wp2; exact ⟨⟨m, n3, q, rfl, rfl, HST.out, HBS.out, HE⟩, HD.out⟩
            · have e5 : ((n2 : Int) != 0) = true := by simp; exact z
              clear z; go_wp2; exact ⟨⟨m, n3, q, rfl, rfl, HST.out, HBS.out, HE⟩, HD.out⟩
        · have HE := hid (show zE hp r 0 0 = .error (misP (t :: q)) by rw [hN.out]; exact jk4 HK.out (by rw [← hn2]; exact c1) (by rw [← hn3]; exact c2)); have HC2 := hid c2; clear hn2 hn3 c1 c2 e1; have s1 : (((n2 : Int) != 0) && ((m : Int) == 0)) = false := by
            have := HC1.out; rw [Bool.eq_false_iff]
            simp
            omega
          have s2 : (((n3 : Int) != 0) && ((p : Int) == 0) && hp) = false := by
            have := HC2.out; rw [Bool.eq_false_iff]; simp only [Bool.and_eq_true, bne_iff_ne, beq_iff_eq, ne_eq, not_and]; intro u hh; exact this ⟨by omega, by omega, hh⟩
          go_wp2_with fail
          all_goals first
            | (refine (zK b A C L (t :: q) w3 HR3.out).mono ?_
               rintro e w4 ⟨rfl, hb4⟩; have HB4 := hid (HB3.out.trans (But.of hb4)); clear hb4; unfold misV; go_wp2; rw [HE.out]; exact ⟨rfl, rfl, HB4.out⟩)
            | (exfalso; simp_all)
  · have q1 : ((ja6 q).kind == 2) = false := by simp [hk]
    have HE := hid (show zE hp r 0 0 = .ok (finT hp m p, q) by rw [hN.out]; exact jk2 hk); clear hk
    by_cases hm : m = 0
    · have HF := hid (show (finT hp m p).1 = 1 by unfold finT; rw [if_pos hm]); subst hm
      by_cases hpp : p = 0 ∧ hp = true
      · have HG := hid (show (finT hp 0 p).2 = 1 by unfold finT; simp only; rw [if_pos hpp]); obtain ⟨g1, g2⟩ := hpp; subst g1; subst g2; go_wp2; go_ret2; rw [HE.out]; exact ⟨_, rfl, by simp only [HF.out, HG.out]; rfl, HR1.out, HB1.out⟩
      · have HG := hid (show (finT hp 0 p).2 = p by unfold finT; simp only; rw [if_neg hpp])
        by_cases z : p = 0
        · have hh : hp = false := by cases hp <;> simp_all
          subst hh; subst z; clear hpp; go_wp2; go_ret2; rw [HE.out]; exact ⟨_, rfl, by simp only [HF.out, HG.out]; rfl, HR1.out, HB1.out⟩
        · have e4 : ((p : Int) == 0) = false := by rw [beq_eq_false_iff_ne]; omega
          clear z hpp; go_wp2; go_ret2; rw [HE.out]; exact ⟨_, rfl, by simp only [HF.out, HG.out]; rfl, HR1.out, HB1.out⟩
    · have HF := hid (show (finT hp m p).1 = m by unfold finT; simp only; rw [if_neg hm]); have e3 : ((m : Int) == 0) = false := by rw [beq_eq_false_iff_ne]; omega
      clear hm
      by_cases hpp : p = 0 ∧ hp = true
      · have HG := hid (show (finT hp m p).2 = 1 by unfold finT; simp only; rw [if_pos hpp]); obtain ⟨g1, g2⟩ := hpp; subst g1; subst g2; go_wp2; go_ret2; rw [HE.out]; exact ⟨_, rfl, by simp only [HF.out, HG.out]; rfl, HR1.out, HB1.out⟩
      · have HG := hid (show (finT hp m p).2 = p by unfold finT; simp only; rw [if_neg hpp])
        by_cases z : p = 0
        · have hh : hp = false := by cases hp <;> simp_all
          subst hh; subst z; clear hpp; go_wp2; go_ret2; rw [HE.out]; exact ⟨_, rfl, by simp only [HF.out, HG.out]; rfl, HR1.out, HB1.out⟩
        · have e4 : ((p : Int) == 0) = false := by rw [beq_eq_false_iff_ne]; omega
          clear z hpp; go_wp2; go_ret2; rw [HE.out]; exact ⟨_, rfl, by simp only [HF.out, HG.out]; rfl, HR1.out, HB1.out⟩
end Go.Proofs.YtmgdnhjemhhleaaGreatDoor
