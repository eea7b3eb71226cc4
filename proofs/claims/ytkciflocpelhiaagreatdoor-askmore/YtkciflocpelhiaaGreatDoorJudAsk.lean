/-
  What judge.Ask does: the walk, and what it asks for.
-/
import Derived.Test.YtkciflocpelhiaaGreatDoorJudOpn
import Derived.Test.YtkciflocpelhiaaGreatDoorJudReq
namespace Go.Proofs.YtkciflocpelhiaaGreatDoor
open Go.RowKit Go.Proofs

/- Ask. -/
def envC : Cmd := ⟨1, [envW], noneT, [], []⟩
def ifC (t : Tst) : Cmd := ⟨2, [], t, [], []⟩
set_option maxHeartbeats 1000000 in
set_option maxRecDepth 100000 in
theorem Ask_ok (M : Nat) (t : Tst) (o : Opn) (an ak at' : Option Addr) (cn ck ct : Nat) (w : World) (hw : Tabs w) (hm : maxLenCell w) (hj : Opened o) (hT : TstM anyB (M + 1) w t [.int .i64 t.kind, .int .i64 t.mat, .int .i64 t.part, .slice an t.names.length cn, .slice ak t.keys.length ck, .bool t.over, .int .i64 t.limit, .slice at' t.tests.length ct]) (hr : ruleM (M + 2) [envC, ifC t] = 0) (hg : goodT (M + 1) t) :
    Calls Tryz.prog 7 #[.agg #[.int .i64 t.kind, .int .i64 t.mat, .int .i64 t.part, .slice an t.names.length cn, .slice ak t.keys.length ck, .bool t.over, .int .i64 t.limit, .slice at' t.tests.length ct], .agg #[.string (S o.fl), .string (S o.fd), .string (S o.tl), .string (S o.td), .string (S o.tx)]] w fun e w' => e = .returned (.tuple #[.bool (tellsP o (M + 1) t), .int .i64 0]) ∧ Below w.heap.size w w' := by
  have HM := hid hm
  have HW := hid hw
  have HJ := hid hj
  have HT := hid hT
  have HG := hid hg
  have HRR := hid hr
  obtain ⟨v, hv⟩ : ∃ v, v = tellsP o (M + 1) t := ⟨_, rfl⟩
  rw [← hv]
  have HV := hid hv
  obtain ⟨W0, hW0⟩ : ∃ W0, W0 = (w.alloc (.cells #[.int .i64 t.kind, .int .i64 t.mat, .int .i64 t.part, .slice an t.names.length cn, .slice ak t.keys.length ck, .bool t.over, .int .i64 t.limit, .slice at' t.tests.length ct] 40)).alloc (.cells #[.string (S o.fl), .string (S o.fd), .string (S o.tl), .string (S o.td), .string (S o.tx)] 33) := ⟨_, rfl⟩
  have HWE := hid hW0
  have HB0 := hid (show Below w.heap.size w W0 by rw [hW0]; exact ((Below.refl _ _).alloc (Nat.le_refl _) _).alloc (by simp) _)
  have HTB := hid (show W0.heap[w.heap.size]? = some (.cells #[.int .i64 t.kind, .int .i64 t.mat, .int .i64 t.part, .slice an t.names.length cn, .slice ak t.keys.length ck, .bool t.over, .int .i64 t.limit, .slice at' t.tests.length ct] 40) by rw [hW0]; exact tl_old _ (tl_at _ rfl))
  have HLB := hid (show W0.heap[w.heap.size + 1]? = some (.cells #[.string (S o.fl), .string (S o.fd), .string (S o.tl), .string (S o.td), .string (S o.tx)] 33) by rw [hW0]; exact tl_at _ (by simp))
  have hTB := HTB.out
  have HAL := hid (show Below W0.heap.size W0 (W0.alloc (.cells #[.string ⟨#[101, 110, 118, 101, 108, 111, 112, 101]⟩] 9)) from (Below.refl _ _).alloc (Nat.le_refl _) _)
  have hTA := tl_low HAL.out hTB
  have g0 := tl_cell (j := 0) hTB rfl
  have g1 := tl_cell (j := 1) hTB rfl
  have g2 := tl_cell (j := 2) hTB rfl
  have g3 := tl_cell (j := 3) hTB rfl
  have g4 := tl_cell (j := 4) hTB rfl
  have g5 := tl_cell (j := 5) hTB rfl
  have g6 := tl_cell (j := 6) hTB rfl
  have g7 := tl_cell (j := 7) hTB rfl
  have ga0 := tl_cell (j := 0) hTA rfl
  have ga1 := tl_cell (j := 1) hTA rfl
  have ga2 := tl_cell (j := 2) hTA rfl
  have ga3 := tl_cell (j := 3) hTA rfl
  have ga4 := tl_cell (j := 4) hTA rfl
  have ga5 := tl_cell (j := 5) hTA rfl
  have ga6 := tl_cell (j := 6) hTA rfl
  have ga7 := tl_cell (j := 7) hTA rfl
  clear hw hm hj hT hr hg hv hTB hTA hW0
  go_enter Tryz.func7, Tryz.ntmps7
  go_wp2
  rw [← HWE.out]
  go_region_law
    (go_simp
     go_at_call 14
     refine (requireOf_any _ _ _ _).mono ?_
     rintro e u ⟨rfl, hb2⟩
     have HB2 := hid (show Below W0.heap.size W0 u from HAL.out.drew.trans (hb2.mono (by simp)))
     have hX := tl_low HB2.out HTB.out
     have gu0 := tl_cell (j := 0) hX rfl
     have gu1 := tl_cell (j := 1) hX rfl
     have gu2 := tl_cell (j := 2) hX rfl
     have gu3 := tl_cell (j := 3) hX rfl
     have gu4 := tl_cell (j := 4) hX rfl
     have gu5 := tl_cell (j := 5) hX rfl
     have gu6 := tl_cell (j := 6) hX rfl
     have gu7 := tl_cell (j := 7) hX rfl
     have HS2 := hid (show u.heap[W0.heap.size]? = some (.cells #[.string ⟨#[101, 110, 118, 101, 108, 111, 112, 101]⟩] 9) from (hb2.block W0.heap.size (by simp)).trans (heap_alloc_new W0.drew _))
     clear hX hb2)
  all_goals
    obtain ⟨W3, hW3⟩ : ∃ W3, W3 = u.alloc (.cells #[.int .i64 1, .slice (some ⟨W0.heap.size, 0, none⟩) 1 1, .int .i64 0, .int .i64 0, .int .i64 0, .slice none 0 0, .slice none 0 0, .bool false, .int .i64 0, .slice none 0 0, .slice none 0 0, .slice none 0 0, .int .i64 2, .slice none 0 0, .int .i64 t.kind, .int .i64 t.mat, .int .i64 t.part, .slice an t.names.length cn, .slice ak t.keys.length ck, .bool t.over, .int .i64 t.limit, .slice at' t.tests.length ct, .slice none 0 0, .slice none 0 0] 59) := ⟨_, rfl⟩
    have HWE3 := hid hW3
    have hal3 : Below u.heap.size u W3 := by rw [hW3]; exact (Below.refl _ _).alloc (Nat.le_refl _) _
    have HBu := hid (HB0.out.trans (HB2.out.mono HB0.out.size))
    have HB3 := hid (HBu.out.trans (hal3.mono HBu.out.size))
    have HRW := hid (show CmdsM anyB (M + 2) W3 (.slice (some ⟨u.heap.size, 0, none⟩) [envC, ifC t].length 2) [envC, ifC t] by
      refine pairM (t := 59) (fr := (0, 0)) (cs := [.int .i64 1, .slice (some ⟨W0.heap.size, 0, none⟩) 1 1, .int .i64 0, .int .i64 0, .int .i64 0, .slice none 0 0, .slice none 0 0, .bool false, .int .i64 0, .slice none 0 0, .slice none 0 0, .slice none 0 0]) (ds := [.int .i64 2, .slice none 0 0, .int .i64 t.kind, .int .i64 t.mat, .int .i64 t.part, .slice an t.names.length cn, .slice ak t.keys.length ck, .bool t.over, .int .i64 t.limit, .slice at' t.tests.length ct, .slice none 0 0, .slice none 0 0]) (by rw [hW3]; exact tl_at _ rfl) rfl rfl trivial ?_ ?_
      · exact ⟨_, _, _, _, _, _, rfl, rowM_one (t := 9) (fr := (0, 0)) (cs := [.string ⟨#[101, 110, 118, 101, 108, 111, 112, 101]⟩]) (tl_low hal3 HS2.out) rfl trivial rfl, none_tst _ _ _, rowM_nil _ _ _ _ _ _, rowM_nil _ _ _ _ _ _⟩
      · exact ⟨_, _, _, _, _, _, rfl, rowM_nil _ _ _ _ _ _, TstM.imp (fun _ h => h) (Keeps.of_below HB3.out) _ _ _ HT.out, rowM_nil _ _ _ _ _ _, rowM_nil _ _ _ _ _ _⟩)
    have HCH := hid (show Calls Tryz.prog 15 #[.slice (some ⟨u.heap.size, 0, none⟩) 2 2] W3 fun e w' => e = .returned (.int .i64 0) ∧ Below W3.heap.size W3 w' by
      have := rcheck_some (M + 1) [envC, ifC t] u.heap.size 0 2 W3 (HW.out.next HB3.out) (by simp) (fun y hy => by
        simp at hy
        rcases hy with e | e
        · rw [e]; exact ⟨(fun h => by cases h), (fun x hx => by cases hx), fun x hx => by cases hx⟩
        · rw [e]; exact ⟨(fun h => by cases h), (fun x hx => by cases hx), fun x hx => by cases hx⟩) HRW.out
      rw [show ruleM (M + 1 + 1) [envC, ifC t] = 0 from HRR.out] at this
      exact this)
    have HT3 := hid (tl_low hal3 (tl_low HB2.out HTB.out))
    have HL3 := hid (tl_low hal3 (tl_low HB2.out HLB.out))
    clear hW3 hal3 g0 g1 g2 g3 g4 g5 g6 g7 ga0 ga1 ga2 ga3 ga4 ga5 ga6 ga7 gu0 gu1 gu2 gu3 gu4 gu5 gu6 gu7
    go_wp2_with fail
    rw [← HWE3.out]
    refine HCH.out.mono ?_
    rintro e w4 ⟨rfl, hb4⟩
    simp only
    have HB4 := hid (HB3.out.trans (hb4.mono HB3.out.size))
    have HT4 := hid (tl_low hb4 HT3.out)
    have hL4 := tl_low hb4 HL3.out
    have l0 := tl_cell (j := 0) hL4 rfl
    have l1 := tl_cell (j := 1) hL4 rfl
    have l2 := tl_cell (j := 2) hL4 rfl
    have l3 := tl_cell (j := 3) hL4 rfl
    have l4 := tl_cell (j := 4) hL4 rfl
    have HOP := hid (open_ok o w4 HJ.out (maxLenCell_below HM.out HB4.out))
    clear hb4 hL4 HWE3 HCH HRW HT3 HL3
    go_wp2_with fail
    refine HOP.out.mono ?_
    rintro e w5 ⟨fa, fc, rfl, hF, hb5⟩
    simp only
    have hal5 : Below w5.heap.size w5 (w5.alloc (.cells #[.string (S o.fl), .string (S o.fd), .string (S o.tl), .string (S o.td), .string (S o.tx), .slice fa o.fs.length fc, .string (S o.body)] 63)) := (Below.refl _ _).alloc (Nat.le_refl _) _
    have HB5 := hid (HB4.out.trans ((hb5.trans (hal5.mono hb5.size)).mono HB4.out.size))
    have hT5 := tl_low hal5 (tl_low hb5 HT4.out)
    have t0 := tl_cell (j := 0) hT5 rfl
    have t1 := tl_cell (j := 1) hT5 rfl
    have t2 := tl_cell (j := 2) hT5 rfl
    have t3 := tl_cell (j := 3) hT5 rfl
    have t4 := tl_cell (j := 4) hT5 rfl
    have t5 := tl_cell (j := 5) hT5 rfl
    have t6 := tl_cell (j := 6) hT5 rfl
    have t7 := tl_cell (j := 7) hT5 rfl
    have HTE := hid (show Calls Tryz.prog 17 #[.agg #[.string (S o.fl), .string (S o.fd), .string (S o.tl), .string (S o.td), .string (S o.tx), .slice fa o.fs.length fc, .string (S o.body)], .agg #[.int .i64 t.kind, .int .i64 t.mat, .int .i64 t.part, .slice an t.names.length cn, .slice ak t.keys.length ck, .bool t.over, .int .i64 t.limit, .slice at' t.tests.length ct]] (w5.alloc (.cells #[.string (S o.fl), .string (S o.fd), .string (S o.tl), .string (S o.td), .string (S o.tx), .slice fa o.fs.length fc, .string (S o.body)] 63)) fun e w' => e = .returned (.bool v) ∧ Below (w5.alloc (.cells #[.string (S o.fl), .string (S o.fd), .string (S o.tl), .string (S o.td), .string (S o.tx), .slice fa o.fs.length fc, .string (S o.body)] 63)).heap.size (w5.alloc (.cells #[.string (S o.fl), .string (S o.fd), .string (S o.tl), .string (S o.td), .string (S o.tx), .slice fa o.fs.length fc, .string (S o.body)] 63)) w' by
      rw [HV.out]
      exact tells_any o fa fc (opened_ok HJ.out).1 (M + 1) t an ak at' cn ck ct _ (hF.below hal5) (maxLenCell_below HM.out HB5.out) HG.out (TstM.next HT.out HB5.out))
    clear hF hb5 hal5 hT5 HOP
    go_wp2_with fail
    refine HTE.out.mono ?_
    rintro e w6 ⟨rfl, hb6⟩
    simp only
    have HB6 := hid (HB5.out.trans (hb6.mono HB5.out.size))
    clear hb6
    go_wp2
    go_ret2
    exact ⟨rfl, HB6.out⟩
end Go.Proofs.YtkciflocpelhiaaGreatDoor

namespace Go.Proofs.YtkciflocpelhiaaGreatDoor
open Go.RowKit Go.Proofs

theorem fault_env (n : Nat) : faultCmd n 0 envC = 0 := by cases n <;> rfl
theorem fault_if {n : Nat} {t : Tst} (h : faultTst n 1 t = 0) : faultCmd (n + 1) 0 (ifC t) = 0 := by
  rw [faultCmd_step]
  have h1 : oneP (isNumP 0 (ifC t).kind) 0 (fitsC (ifC t)) = 0 := rfl
  rw [h1, if_neg (by simp), if_neg (by show ¬ (2 : Int) ≠ 2; simp), if_neg (by show ¬ faultTst n 1 t ≠ 0; rw [h]; simp)]
  rfl
theorem len_if (n : Nat) (t : Tst) : (cmdT (n + 1) (ifC t)).length = (testT n t).length + 3 := by
  unfold cmdT restT ifC
  simp [elsifP]
/-- One test that is asked is allowed. -/
theorem rule_ask {n : Nat} {t : Tst} (hN : NiceT n t) (hf : faultTst n 1 t = 0) (hl : (testT n t).length ≤ 390) : ruleM (n + 1) [envC, ifC t] = 0 := by
  have hc : checkM (n + 1) [envC, ifC t] = 0 := by
    rw [checkM_of fun y hy => by
      simp at hy
      rcases hy with e | e
      · rw [e]; exact fault_env _
      · rw [e]; exact fault_if hf]
    rw [if_neg]
    have h3 : (cmdsT (n + 1) [envC, ifC t]).length = (cmdT (n + 1) envC).length + (cmdT (n + 1) (ifC t)).length := by simp [cmdsT]
    have h4 : (cmdT (n + 1) envC).length = 3 := rfl
    have h5 := len_if n t
    omega
  have ha : aheadP [envC, ifC t] = 1 := rfl
  have hr : reqsP [envC, ifC t] = [envW] := rfl
  unfold ruleM
  rw [if_neg (by rw [hc]; simp), hr, if_neg (by decide), ha]
  refine firstP_zero fun x hx => ?_
  simp at hx
  rw [hx]
  unfold cmdA
  have e1 : hasP [envW] (needP (ifC t).kind) = true := rfl
  rw [e1]
  have e2 : tstA [envW] n (ifC t).test = 0 := tstA_all (by decide) n t hN
  simp only [ifC] at e2 ⊢
  simp [e2, firstP]
/-- A test that may be has a test in each Not. -/
theorem good_of : ∀ (n d : Nat) (t : Tst), faultTst n d t = 0 → goodT n t := by
  intro n
  induction n with
  | zero => intro d t _; trivial
  | succ n ih =>
    intro d t h
    unfold faultTst at h
    by_cases h1 : oneP (isNumP 1 t.kind) d (fitsT t) = 0
    · rw [if_pos h1] at h
      have hf : fitsT t = true := by
        unfold oneP at h1
        by_cases h2 : isNumP 1 t.kind = false
        · rw [if_pos h2] at h1; cases h1
        · rw [if_neg h2] at h1
          by_cases h3 : 6 < d
          · rw [if_pos h3] at h1; cases h1
          · rw [if_neg h3] at h1
            cases hq : fitsT t with
            | true => rfl
            | false => rw [hq] at h1; simp at h1
      refine ⟨fun hk => ?_, fun x hx => ih (d + 1) x ?_⟩
      · unfold fitsT at hf
        rw [if_pos hk] at hf
        simp only [Bool.and_eq_true, decide_eq_true_eq] at hf
        intro e
        rw [e] at hf
        simp at hf
      · clear hf h1
        generalize t.tests = l at h hx
        induction l with
        | nil => cases hx
        | cons y l ihl =>
          unfold firstP at h
          by_cases hy : faultTst n (d + 1) y = 0
          · rw [if_pos hy] at h
            rcases List.mem_cons.1 hx with e | e
            · rw [e]; exact hy
            · exact ihl h e
          · rw [if_neg hy] at h; exact absurd h hy
    · rw [if_neg h1] at h; exact absurd h h1
end Go.Proofs.YtkciflocpelhiaaGreatDoor
