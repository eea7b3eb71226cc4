/-
  What judge.open and judge.Ask do: the walks.
  Plain facts on tests that are asked: one test behind a Require of the envelope is allowed; what it shows.
-/
import Derived.Test.YtkciflocpelhiaaGreatDoorJudTel
import Derived.Test.YtkciflocpelhiaaGreatDoorJudChk
import Derived.Test.YtkciflocpelhiaaGreatDoorRulCs
import Derived.Test.YtkciflocpelhiaaGreatDoorScrCk
import Derived.Test.YtkciflocpelhiaaGreatDoorPure
namespace Go.Proofs.YtkciflocpelhiaaGreatDoor
open Go.RowKit Go.Proofs

theorem fields_far {w : World} {a : Option Addr} {fs : List F} (h : FieldsAt w a fs) {p j : Nat} (v : Value) (hne : ∀ b o q, a = some ⟨b, o, q⟩ → b ≠ p) : FieldsAt (w.setCell ⟨p, j, none⟩ v) a fs := by
  intro i f hf
  obtain ⟨b, off, ha, hlt, h1, h2⟩ := h i f hf
  have hb := hne b off none ha
  have hset : ∀ k, (w.setCell ⟨p, j, none⟩ v).cell? ⟨b, k, none⟩ = w.cell? ⟨b, k, none⟩ := fun k => World.cell?_setCell_other w _ _ _ (fun e => hb (by cases e; rfl))
  exact ⟨b, off, ha, by simpa [World.setCell] using hlt, by rw [hset]; exact h1, by rw [hset]; exact h2⟩
/-- A letter that may be, opened. -/
def Opened (o : Opn) : Prop := judgeL o.fl o.fd o.tl o.td o.tx = (o.fs, o.body, 0)
/-- What comes back with an opened letter. -/
def OpnR (w : World) (o : Opn) (e : Ending) (w' : World) : Prop := ∃ fa fc, e = .returned (.tuple #[.agg #[.string (S o.fl), .string (S o.fd), .string (S o.tl), .string (S o.td), .string (S o.tx), .slice fa o.fs.length fc, .string (S o.body)], .int .i64 0]) ∧ FieldsAt w' fa o.fs ∧ Below w.heap.size w w'
theorem opened_ok {o : Opn} (h : Opened o) : OpnOk o ∧ o.tx.length ≤ 2000 ∧ o.fs.length ≤ 30 := by
  unfold Opened judgeL at h
  by_cases h1 : checkA o.fl o.fd = 0
  · rw [if_neg (by simpa using h1)] at h
    by_cases h2 : checkA o.tl o.td = 0
    · rw [if_neg (by simpa using h2)] at h
      have hx : (parseM o.tx).1 = o.fs ∧ (parseM o.tx).2.2.2 = 0 := by
        constructor
        · exact congrArg Prod.fst h
        · exact congrArg (fun q => q.2.2) h
      have hl : o.tx.length ≤ 2000 := by
        rcases Nat.lt_or_ge 2000 o.tx.length with h' | h'
        · have := hx.2
          unfold parseM at this
          rw [if_pos h'] at this
          cases this
        · exact h'
      have hp : parseM o.tx = parseR 0 [] o.tx := by unfold parseM; rw [if_neg (by omega)]
      have hs := (parse_size 2000 o.tx.length o.tx (Nat.le_refl _) 0 [] hl (by simp)).1
      have hi := ((parse_inv o.tx.length o.tx (Nat.le_refl _) 0 [] (by simp) (by simp)).1 (by rw [← hp]; exact hx.2)).2.1
      rw [← hp, hx.1] at hs hi
      have m1 := may_short h1
      have m2 := may_short h2
      exact ⟨⟨⟨by omega, by omega, by omega, by omega⟩, by unfold maxLen; omega, fun f hf => by have := (hs f hf).2; unfold maxLen; omega⟩, hl, hi⟩
    · rw [if_pos h2] at h
      have : checkA o.tl o.td = 0 := congrArg (fun q => q.2.2) h
      exact absurd this h2
  · rw [if_pos h1] at h
    have : checkA o.fl o.fd = 0 := congrArg (fun q => q.2.2) h
    exact absurd this h1
set_option maxHeartbeats 1000000 in
set_option maxRecDepth 100000 in
theorem open_ok (o : Opn) (w : World) (hj : Opened o) (hm : maxLenCell w) :
    Calls Tryz.prog 16 #[.agg #[.string (S o.fl), .string (S o.fd), .string (S o.tl), .string (S o.td), .string (S o.tx)]] w (OpnR w o) := by
  have hok := opened_ok hj
  obtain ⟨W0, hW0⟩ : ∃ W0, W0 = (w.alloc (.cells #[.string (S o.fl), .string (S o.fd), .string (S o.tl), .string (S o.td), .string (S o.tx)] 33)).alloc (.cells #[.string ⟨#[]⟩, .string ⟨#[]⟩, .string ⟨#[]⟩, .string ⟨#[]⟩, .string ⟨#[]⟩, .slice none 0 0, .string ⟨#[]⟩] 63) := ⟨_, rfl⟩
  have HWE := hid hW0
  have HB0 := hid (show Below w.heap.size w W0 by rw [hW0]; exact ((Below.refl _ _).alloc (Nat.le_refl _) _).alloc (by simp) _)
  have hs0 : W0.heap.size = w.heap.size + 2 := by rw [hW0]; simp
  have HL := hid (show W0.heap[w.heap.size]? = some (.cells #[.string (S o.fl), .string (S o.fd), .string (S o.tl), .string (S o.td), .string (S o.tx)] 33) by rw [hW0]; exact tl_old _ (tl_at _ rfl))
  have HR := hid (show W0.heap[w.heap.size + 1]? = some (.cells #[.string ⟨#[]⟩, .string ⟨#[]⟩, .string ⟨#[]⟩, .string ⟨#[]⟩, .string ⟨#[]⟩, .slice none 0 0, .string ⟨#[]⟩] 63) by rw [hW0]; exact tl_at _ (by simp))
  have HC := hid (show Calls Tryz.prog 26 #[.agg #[.string (S o.fl), .string (S o.fd), .string (S o.tl), .string (S o.td), .string (S o.tx)]] W0 (MsgN W0 (o.fs, o.body, 0)) by
    obtain ⟨⟨⟨s1, s2, s3, s4⟩, _⟩, s5, _⟩ := hok
    have := jcheck_new (S o.fl) (S o.fd) (S o.tl) (S o.td) (S o.tx) W0 (by rw [size_S]; omega) (by rw [size_S]; omega) (by rw [size_S]; omega) (by rw [size_S]; omega) (by rw [size_S]; unfold maxLen; omega) (maxLenCell_below hm HB0.out)
    rw [list_S, list_S, list_S, list_S, list_S, show judgeL o.fl o.fd o.tl o.td o.tx = (o.fs, o.body, 0) from hj] at this
    exact this)
  clear hm hj hW0 hok
  go_enter Tryz.func16, Tryz.ntmps16
  go_wp2_with fail
  rw [← HWE.out]
  refine HC.out.mono ?_
  rintro e w1 ⟨fa, fc, he, hF, hfr, hb1⟩
  rw [show e = .returned (.tuple #[.agg #[.slice fa o.fs.length fc, .string (S o.body)], .int .i64 0]) from he]
  simp only
  have hal : Below w1.heap.size w1 (w1.alloc (.cells #[.slice fa o.fs.length fc, .string (S o.body)] 49)) := (Below.refl _ _).alloc (Nat.le_refl _) _
  have HB1 := hid (HB0.out.trans ((hb1.trans (hal.mono hb1.size)).mono HB0.out.size))
  have HF1 := hid (hF.below hal)
  have hL1 := tl_low hal (tl_low hb1 HL.out)
  have hR1 := tl_low hal (tl_low hb1 HR.out)
  have HNE := hid (show ∀ b o q, fa = some ⟨b, o, q⟩ → b ≠ w.heap.size + 1 from fun b o q e => by have := hfr b o q e; omega)
  have l0 := tl_cell (j := 0) hL1 rfl
  have l1 := tl_cell (j := 1) hL1 rfl
  have l2 := tl_cell (j := 2) hL1 rfl
  have l3 := tl_cell (j := 3) hL1 rfl
  have l4 := tl_cell (j := 4) hL1 rfl
  have r0 := tl_cell (j := 0) hR1 rfl
  have r1 := tl_cell (j := 1) hR1 rfl
  have r2 := tl_cell (j := 2) hR1 rfl
  have r3 := tl_cell (j := 3) hR1 rfl
  have r4 := tl_cell (j := 4) hR1 rfl
  have r5 := tl_cell (j := 5) hR1 rfl
  have r6 := tl_cell (j := 6) hR1 rfl
  have fr : ∀ j, (w1.alloc (.cells #[.slice fa o.fs.length fc, .string (S o.body)] 49)).frozen? ⟨w.heap.size + 1, j, none⟩ = false := fun j => by simp only [World.frozen?, hR1]; simp
  have f0 := fr 0
  have f1 := fr 1
  have f2 := fr 2
  have f3 := fr 3
  have f4 := fr 4
  have f5 := fr 5
  have f6 := fr 6
  clear he hb1 hal hF hfr hL1 hR1 HWE HL HR HC HB0 fr
  go_wp2
  refine bodyPost_ret (v := .tuple #[.agg #[.string (S o.fl), .string (S o.fd), .string (S o.tl), .string (S o.td), .string (S o.tx), .slice fa o.fs.length fc, .string (S o.body)], .int .i64 0]) (by simp [results, Tryz.results16, go_sem, *]) rfl ?_
  refine ⟨fa, fc, rfl, ?_, ?_⟩
  · exact fields_far (fields_far (fields_far (fields_far (fields_far (fields_far (fields_far HF1.out _ HNE.out) _ HNE.out) _ HNE.out) _ HNE.out) _ HNE.out) _ HNE.out) _ HNE.out
  · exact ((((((HB1.out.setCell (by simp) _).setCell (by simp) _).setCell (by simp) _).setCell (by simp) _).setCell (by simp) _).setCell (by simp) _).setCell (by simp) _
end Go.Proofs.YtkciflocpelhiaaGreatDoor
