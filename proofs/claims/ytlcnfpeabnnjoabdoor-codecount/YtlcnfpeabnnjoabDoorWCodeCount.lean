/-
  Each command has an op, each test that asks for no other ones, too: walked.
-/
import Derived.Test.YtlcnfpeabnnjoabDoorCodCnt
import Derived.Test.YtlcnfpeabnnjoabDoorMkScrX
import Derived.Test.YtlcnfpeabnnjoabDoorRulTabs
namespace Go.Proofs.YtlcnfpeabnnjoabDoor
open Go.RowKit Go.Proofs

theorem sh_fit {Q : Nat → Prop} {w : World} : ∀ (n : Nat) (t : Tst) (cs : List Value), TstM Q n w t cs → FitT n t → shT n t := by
  intro n
  induction n with
  | zero => intro t cs h; exact h.elim
  | succ n ih =>
    intro t cs h hF
    obtain ⟨_, _, vt, _, _, _, hr⟩ := h
    obtain ⟨_, _, _, hfit⟩ := fit_head hF
    refine ⟨fits_not hfit, fun k => fits_all hfit k, fun k3 k4 k5 => ?_, fun x hx => ?_⟩
    · unfold fitsT at hfit
      rw [if_neg k3, if_neg (by omega)] at hfit
      have hno : ∀ u : Tst, noTst u = true → u.tests = [] := fun u hu => by
        unfold noTst at hu
        simp only [Bool.and_eq_true, decide_eq_true_eq] at hu
        exact List.length_eq_zero_iff.1 hu.2
      split at hfit
      · simp only [Bool.and_eq_true] at hfit; have h := hno _ hfit.2; exact h
      · split at hfit
        · simp only [Bool.and_eq_true] at hfit; have h := hno _ hfit.2; exact h
        · split at hfit
          · simp only [Bool.and_eq_true] at hfit; have h := hno _ hfit.2; exact h
          · split at hfit
            · simp only [Bool.and_eq_true] at hfit; have h := hno _ hfit.2; exact h
            · have h := hno _ hfit; exact h
    · obtain ⟨_, _, _, _, hrr⟩ := hr
      obtain ⟨i, hi⟩ := List.getElem?_of_mem hx
      obtain ⟨_, _, cs', _, _, _, _, _, hP⟩ := hrr i x hi
      exact ih x cs' hP (hF.2 x hx)
theorem cn_fit {Q : Nat → Prop} {w : World} : ∀ (n : Nat) (c : Cmd) (cs : List Value), CmdM Q n w c cs → FitC n c → CnC n c ∧ shC n c ∧ LnC n c := by
  intro n
  induction n with
  | zero => intro t cs h; exact h.elim
  | succ n ih =>
    intro c cs h hF
    obtain ⟨_, _, _, _, _, _, _, _, hT, hA, hE⟩ := h
    obtain ⟨h1, h2, h3, h4⟩ := hF
    unfold fitHC at h1
    simp only [Bool.and_eq_true, decide_eq_true_eq] at h1
    have hA' : ∀ x ∈ c.thn, CnC n x ∧ shC n x ∧ LnC n x := fun x hx => by
      obtain ⟨_, _, _, _, hr⟩ := hA
      obtain ⟨i, hi⟩ := List.getElem?_of_mem hx
      obtain ⟨_, _, cs', _, _, _, _, _, hP⟩ := hr i x hi
      exact ih x cs' hP (h3 x hx)
    have hE' : ∀ x ∈ c.els, CnC n x ∧ shC n x ∧ LnC n x := fun x hx => by
      obtain ⟨_, _, _, _, hr⟩ := hE
      obtain ⟨i, hi⟩ := List.getElem?_of_mem hx
      obtain ⟨_, _, cs', _, _, _, _, _, hP⟩ := hr i x hi
      exact ih x cs' hP (h4 x hx)
    exact ⟨fun k => ⟨⟨sh_fit n _ _ hT (h2 k), h2 k⟩, fun x hx => (hA' x hx).1, fun x hx => (hE' x hx).1⟩, fun k => ⟨sh_fit n _ _ hT (h2 k), fun x hx => (hA' x hx).2.1, fun x hx => (hE' x hx).2.1⟩, fun k => ⟨by omega, by omega, fun x hx _ => (hA' x hx).2.2, fun x hx _ => (hE' x hx).2.2⟩⟩
theorem counted_any : ∀ n, CntW n := by
  intro n
  induction n with
  | zero => exact counted_step 0 fun q h => by omega
  | succ n ih =>
    refine counted_step (n + 1) fun q h => ?_
    obtain rfl : n = q := by omega
    exact ih
theorem kind_at {Q : Nat → Prop} {w : World} {a : Option Addr} {c : Nat} {l : List Opr} (h : OpsM Q w (.slice a l.length c) l) {i : Nat} {x : Opr} (hx : l[i]? = some x) : ∃ b o, a = some ⟨b, o, none⟩ ∧ w.cell? ⟨b, o + i * 22, none⟩ = some (.int .i64 x.kind) := by
  obtain ⟨a', c', hv, _, hr⟩ := h
  simp only [Value.slice.injEq, true_and] at hv
  obtain ⟨rfl, rfl⟩ := hv
  obtain ⟨b, o, cs, rfl, _, _, _, hc, ts, ds, rfl, _⟩ := hr i x hx
  exact ⟨b, o, rfl, by simpa using hc 0 _ rfl⟩
theorem does_snoc {l : List Opr} {m : Nat} {x : Opr} (hx : l[m]? = some x) : doesN (l.take (m + 1)) = doesN (l.take m) + (if x.kind = 6 then 1 else 0) := by
  rw [List.take_add_one, hx]
  unfold doesN
  rw [List.countP_append]
  by_cases h : x.kind = 6 <;> simp [h]
theorem asks_snoc {l : List Opr} {m : Nat} {x : Opr} (hx : l[m]? = some x) : asksN (l.take (m + 1)) = asksN (l.take m) + (if x.kind = 1 then 1 else 0) := by
  rw [List.take_add_one, hx]
  unfold asksN
  rw [List.countP_append]
  by_cases h : x.kind = 1 <;> simp [h]
set_option maxHeartbeats 2000000 in
set_option maxRecDepth 100000 in
theorem codeCount_walk (w : World) (hm : TabsM w) (a : Option Addr) (c : Nat) (l : List Stk) (n : Nat) (hF : SticksM n w (.slice a l.length c) l) :
    Calls Tryd.prog 3 #[.slice a l.length c] w fun e w' => e = .returned (.bool true) ∧ Below w.heap.size w w' := by
  have HM := hid hm
  have HF := hid hF
  clear hm hF
  go_enter Tryd.func3, Tryd.ntmps3
  go_wp2_with fail
  refine (script_any 5 (by omega) cmds0 n l a c w HM.out.1.1 HF.out).mono ?_
  rintro e w1 ⟨r, a1, c1, rfl, hM1, hN, hck, ⟨hcap, hr4⟩, hb1⟩
  have HB1 := hid hb1
  have HC1 := hid (show CmdsM anyB 5 w1 (.slice a1 (reqC :: r).length c1) (reqC :: r) from RowM.imp hM1 (fun _ _ => trivial) (Keeps.refl _ _) fun _ _ h => CmdM.imp (fun _ _ => trivial) (Keeps.refl _ _) _ _ _ h)
  have HCP := hid (Compile_scr 4 r a1 c1 w1 (HM.out.1.next hb1) hN hck hcap HC1.out)
  have HALL := hid (show ∀ x ∈ reqC :: r, CnC 5 x ∧ shC 5 x ∧ LnC 5 x from fun x hx => by
    rcases List.mem_cons.1 hx with rfl | hx
    · exact ⟨(fun h => by cases h), (fun h => by cases h), (fun h => by cases h)⟩
    · obtain ⟨i, hi⟩ := List.getElem?_of_mem (List.mem_cons_of_mem reqC hx)
      obtain ⟨_, _, _, _, hr⟩ := HC1.out
      obtain ⟨_, _, cs', _, _, _, _, _, hP⟩ := hr i x hi
      exact cn_fit 5 x cs' hP (hN x hx 5).2)
  obtain ⟨ops, hops⟩ : ∃ ops, ops = compM 5 (reqC :: r) := ⟨_, rfl⟩
  have hol : ops.length ≤ 400 := by rw [hops]; exact Nat.le_trans (comp_tok 5 _) (checkM_ok hck).2
  obtain ⟨D, hD⟩ : ∃ D, D = ((reqC :: r).map (cntD 5)).sum := ⟨_, rfl⟩
  obtain ⟨A, hA⟩ : ∃ A, A = ((reqC :: r).map (cntA 5)).sum := ⟨_, rfl⟩
  have hcc := comp_count 5 (reqC :: r) fun x hx => (HALL.out x hx).2.1
  rw [← hops, ← hD, ← hA] at hcc
  have hDle : D ≤ 400 := by rw [← hcc.2]; exact Nat.le_trans List.countP_le_length hol
  have hAle : A ≤ 400 := by rw [← hcc.1]; exact Nat.le_trans List.countP_le_length hol
  have hD1 : 1 ≤ D := by rw [hD, List.map_cons, List.sum_cons, show cntD 5 reqC = 1 from rfl]; omega
  have HCC := hid hcc
  have HCN := hid (show ∀ u, Below w1.heap.size w1 u → Calls Tryd.prog 6 #[.slice a1 (r.length + 1) c1] u fun e w' => e = .returned (.tuple #[.int .i64 (D : Nat), .int .i64 (A : Nat)]) ∧ Below u.heap.size u w' from fun u hu => by
    rw [hD, hA]
    exact counted_any 5 (reqC :: r) a1 c1 u (CmdsM.next HC1.out hu) (fun x hx => (HALL.out x hx).1) (by simp; omega) (by omega) (by omega) (fun x hx _ => (HALL.out x hx).2.2))
  rw [← hops] at HCP
  clear hM1 hN hck hcap hr4 hb1 hops hD hA hcc
  go_wp2_with fail
  refine HCP.out.mono ?_
  rintro e w2 ⟨a2, c2, he, hM2, hb2⟩
  rw [he]
  simp only
  have HM2 := hid hM2
  have HB2 := hid hb2
  clear he hM2 hb2
  go_wp2
  go_loopw [6, 7, 8] (fun d s i wr => ∃ m : Nat, m ≤ ops.length ∧ i = .int .i64 m ∧ d = .int .i64 (doesN (ops.take m) : Nat) ∧ s = .int .i64 (asksN (ops.take m) : Nat) ∧ wr = w2) (fun _ _ i _ => ops.length - (intOf i).toNat)
  case atStart => exact ⟨0, Nat.zero_le _, rfl, rfl, rfl, rfl⟩
  case round =>
    obtain ⟨m, hm, rfl, rfl, rfl, rfl⟩ := hrel
    by_cases hlm : m < ops.length
    · have i1 : (m : Int) < (ops.length : Int) := by omega
      have i3 : (0 : Int) ≤ (m : Int) := by omega
      obtain ⟨x, hx⟩ : ∃ x, ops[m]? = some x := ⟨_, List.getElem?_eq_getElem hlm⟩
      obtain ⟨b, o, rfl, y0⟩ := kind_at HM2.out hx
      have h1 := does_snoc hx
      have h2 := asks_snoc hx
      obtain ⟨D0, hD0⟩ : ∃ D0, D0 = doesN (ops.take m) := ⟨_, rfl⟩
      obtain ⟨A0, hA0⟩ : ∃ A0, A0 = asksN (ops.take m) := ⟨_, rfl⟩
      have hd0 : D0 ≤ 400 := by rw [hD0]; refine Nat.le_trans List.countP_le_length ?_; rw [List.length_take]; omega
      have ha0 : A0 ≤ 400 := by rw [hA0]; refine Nat.le_trans List.countP_le_length ?_; rw [List.length_take]; omega
      rw [← hD0] at h1
      rw [← hA0] at h2
      rw [← hD0, ← hA0]
      by_cases k6 : x.kind = 6
      · have c6 : (x.kind == 6) = true := by simp [k6]
        have c1' : (x.kind == 1) = false := by simp [k6]
        rw [if_pos k6] at h1
        rw [if_neg (by omega)] at h2
        have H1 := hid h1
        have H2 := hid h2
        clear h1 h2 k6 hx hD0 hA0
        go_wp2
        go_roundw
        case rel => exact ⟨m + 1, by omega, by go_num, by rw [H1.out]; go_num, by rw [H2.out]; go_num, by first | rfl | trivial⟩
        case measure => simp [intOf]; omega
      · have c6 : (x.kind == 6) = false := by simp [k6]
        rw [if_neg k6] at h1
        by_cases k1 : x.kind = 1
        · have c1' : (x.kind == 1) = true := by simp [k1]
          rw [if_pos k1] at h2
          have H1 := hid h1
          have H2 := hid h2
          clear h1 h2 k6 k1 hx hD0 hA0
          go_wp2
          go_roundw
          case rel => exact ⟨m + 1, by omega, by go_num, by rw [H1.out]; go_num, by rw [H2.out]; go_num, by first | rfl | trivial⟩
          case measure => simp [intOf]; omega
        · have c1' : (x.kind == 1) = false := by simp [k1]
          rw [if_neg k1] at h2
          have H1 := hid h1
          have H2 := hid h2
          clear h1 h2 k6 k1 hx hD0 hA0
          go_wp2
          go_roundw
          case rel => exact ⟨m + 1, by omega, by go_num, by rw [H1.out]; go_num, by rw [H2.out]; go_num, by first | rfl | trivial⟩
          case measure => simp [intOf]; omega
    · have i1 : ¬ (m : Int) < (ops.length : Int) := by omega
      obtain rfl : m = ops.length := by omega
      rw [List.take_length, HCC.out.1, HCC.out.2]
      have HCW := hid (HCN.out wr HB2.out)
      have hDp : (0 : Int) < (D : Int) := by omega
      have hDn : 0 < D := by omega
      go_wp2_with fail
      refine HCW.out.mono ?_
      rintro e w4 ⟨rfl, hb4⟩
      simp only
      have HEND := hid ((HB1.out.trans (HB2.out.mono HB1.out.size)).trans (hb4.mono (Nat.le_trans HB1.out.size HB2.out.size)))
      clear hb4
      go_wp2
      go_ret
      exact ⟨ret_bool (by simp), HEND.out⟩
end Go.Proofs.YtlcnfpeabnnjoabDoor
