/-
  Proved: for every raw script, a script is read from its text as it was shown, and with a closing brace more it is not read (no condition but the form's own).
-/
import Derived.Test.YthikilhhmianlaaGreatDoorQTokLaws8
import Derived.Test.YthikilhhmianlaaGreatDoorQScrCard10
import Derived.Test.YthikilhhmianlaaGreatDoorQScrSm5
import Derived.Test.YthikilhhmianlaaGreatDoorQPure4
import Derived.Test.YthikilhhmianlaaGreatDoorMkCs
import Derived.Test.YthikilhhmianlaaGreatDoorMkScrX
namespace Go.Proofs.YthikilhhmianlaaGreatDoor
open Go.RowKit Go.Proofs
theorem jkz (l : List UInt8) : S l ++ ⟨#[125]⟩ = S (l ++ [125]) := jiN l [125]
set_option maxHeartbeats 4000000 in
set_option maxRecDepth 100000 in
theorem ruleText_walk (w : World) (hE : TabsE w) (a : Option Addr) (c : Nat) (l : List Stk) (n : Nat) (hF : SticksM n w (.slice a l.length c) l) :
    Calls Tryz.prog 3 #[.slice a l.length c] w fun e w' => e = .returned (.bool true) ∧ Below w.heap.size w w' := by
  have HE := hid hE; have HF := hid hF; clear hE hF; go_enter Tryz.func3, Tryz.ntmps3; go_wp2_with fail; refine (jgE 5 (by omega) jkN n l a c w HE.out.1.1.1 HF.out).mono ?_; rintro e w1 ⟨r, a1, c1, rfl, hM1, hN, hck, _, hb1⟩; obtain ⟨CS, hCS⟩ : ∃ CS, CS = reqC :: r := ⟨_, rfl⟩; have hlen : r.length + 1 = CS.length := by rw [hCS]; rfl
  have hsh : ∀ k, ∀ x ∈ CS, jat k x := by
    rw [hCS]; intro k x hx
    rcases List.mem_cons.1 hx with e | e
    · rw [e]; cases k with
      | zero => trivial
      | succ k => exact ⟨(fun h => by cases h), (fun x hx => by cases hx), fun x hx => by cases hx⟩
    · exact jiQ (fun n => (hN x e n).1) k
  have hrl : ∀ k, zb (k + 1) CS = 0 → jbw (k + 1) CS = 0 := fun k h => by rw [hCS] at h ⊢; exact jdH h fun x hx => (hN x hx (k + 1)).1
  rw [← hCS] at hM1 hck; rw [hlen]; obtain ⟨TS, hTS⟩ : ∃ TS, TS = ze 5 CS := ⟨_, rfl⟩; have hdp := jhp hM1; have hpb : zp TS = (CS, 0, 0) := by rw [hTS]; exact jgb 5 CS hdp hck
  obtain ⟨_, _, hok, h4, _⟩ := jhU hpb; have HTB := hid (show TB TS by rw [hTS, hCS]; exact jin fun x hx => hN x hx 5); have HOK := hid hok; have HPM := hid (show (zp (TS ++ [jx 125])).2.2 ≠ 0 by rw [hTS]; exact jgc 5 CS hdp hck); have HRL := hid (hrl 4 hck); have HSH := hid (show ∀ x ∈ CS, jat 5 x ∧ DeepC 5 x from fun x hx => ⟨hsh 5 x hx, hdp x hx⟩); have HPB := hid hpb; have HM1 := hid hM1.any; have HB1 := hid hb1; have HCK := hid hck; have HTS := hid hTS; have HJ := hid (jj1 hok h4); have HDP := hid hdp; clear hCS hlen hM1 hck hb1 hdp hN hTS hpb hok hsh hrl; go_wp2_with fail; refine (jhW 5 CS a1 c1 w1 (HE.out.next HB1.out).1.1.1 HM1.out).mono ?_; intro e w2 hS; unfold jgk at hS; rw [if_pos HCK.out, ← HTS.out] at hS; obtain ⟨a2, c2, rfl, hT2, hb2⟩ := hS; have HB2 := hid (HB1.out.trans (hb2.mono HB1.out.size)); have HM2 := hid (CmdsM.next HM1.out hb2); have HT2 := hid hT2; clear hT2 hb2; go_wp2_with fail; refine (jhx a2 c2 TS w2 (HE.out.next HB2.out).2 HT2.out (fun t ht => by have := HTB.out t ht; unfold maxLen; omega)).mono ?_; rintro e w3 ⟨rfl, hb3⟩; have HB3 := hid (HB2.out.trans (hb3.mono HB2.out.size)); have HM3 := hid (CmdsM.next HM2.out hb3); clear hb3
  rcases HJ.out with hj | ⟨hj, hjl⟩
  · rw [hj]; unfold jbc; go_wp2; go_ret; exact ⟨rfl, HB3.out⟩
  · rw [hj]; unfold jbc; obtain ⟨X, hX⟩ : ∃ X, X = qg (TS.map fun t => (t, [32])) := ⟨_, rfl⟩; have hcx : cutM X = (TS, 0, 0) := by have := jfh HOK.out h4 hjl; rw [hj] at this; rw [hX]; exact this
    have hrd : jbh 5 X = (CS, 0) := by unfold jbh; rw [hcx]; simp only; rw [HPB.out]; simp only; rw [HRL.out]; simp
    have HC2 := hid (show (cutM (X ++ [125])).2.2 ≠ 0 ∨ (TS.length < 400 ∧ cutM (X ++ [125]) = (TS ++ [jx 125], 0, 0)) by rw [hX]; exact jjp HOK.out h4); have hxl : X.length ≤ 2000 := by rw [hX]; exact hjl
    rw [← hX]; have hsz : (S X).size ≤ 2000 := by rw [jB]; exact hxl
    have HRA := hid (jfI 4 X w3 (HE.out.next HB3.out).1 (by rw [hcx]; exact fun t ht _ => by have := HTB.out t ht; unfold maxLen; omega) (by rw [hcx]; exact h4) (by rw [hcx]; simp only; rw [HPB.out]; exact fun _ => HSH.out)); rw [hrd] at HRA; have hne : (jbh 5 (X ++ [125])).2 ≠ 0 := by
      rcases HC2.out with h | ⟨_, h⟩
      · unfold jbh; rw [if_pos h]; exact h
      · unfold jbh; rw [h]; simp only; rw [if_neg (by simp), if_pos HPM.out]; exact HPM.out
    have HRB := hid (show ∀ v, Below w3.heap.size w3 v → Calls Tryz.prog 7 #[.string (S (X ++ [125]))] v (RdP v 5 (jbh 5 (X ++ [125]))) from fun v hv => jfI 4 (X ++ [125]) v ((HE.out.next HB3.out).1.next hv) (by
        rcases HC2.out with h | ⟨_, h⟩
        · rw [jeK h]; exact fun t ht => by cases ht
        · rw [h]; exact fun t ht _ => by have := TB.app HTB.out (TB.cons (qE 125) TB.nil) t ht; unfold maxLen; omega) (by
        rcases HC2.out with h | ⟨_, h⟩
        · rw [jeK h]; simp
        · rw [h]; simp; omega) (by
        rcases HC2.out with h | ⟨_, h⟩
        · rw [jeK h]; exact fun _ x hx => by cases hx
        · rw [h]; exact fun e => absurd e HPM.out))
    obtain ⟨R2, hR2⟩ : ∃ R2, R2 = jbh 5 (X ++ [125]) := ⟨_, rfl⟩; rw [← hR2] at HRB hne; obtain ⟨r2, y2⟩ := R2; simp only at hne; clear hX hcx hrd hxl hR2 hj hjl h4; go_wp2_with fail; refine HRA.out.mono ?_; rintro e w4 ⟨a4, c4, rfl, hM4, hb4, _⟩; simp only at hM4 ⊢; have HM4 := hid hM4.any; have HB4 := hid (HB3.out.trans (hb4.mono HB3.out.size)); have HN4 := hid hb4; have HO4 := hid (CmdsM.next HM3.out hb4); clear hM4 hb4; go_wp2_with fail; rw [jkz]; refine (HRB.out w4 HN4.out).mono ?_; rintro e w5 ⟨a5, c5, rfl, _, hb5, _⟩; simp only; have HB5 := hid (HB4.out.trans (hb5.mono HB4.out.size)); have HM5 := hid (CmdsM.next HM4.out hb5); have HO5 := hid (CmdsM.next HO4.out hb5); clear hb5; go_wp2_with fail; refine (jeR 5 CS w5 a1 a4 c1 c4 HO5.out HM5.out).mono ?_; rintro e w6 ⟨rfl, hb6⟩; have HB6 := hid (HB5.out.trans (hb6.mono HB5.out.size)); clear hb6; go_wp2; go_ret; refine ⟨?_, HB6.out⟩
    show Ending.returned (.bool (y2 != 0)) = _
    rw [show (y2 != 0) = true by simpa using hne]
end Go.Proofs.YthikilhhmianlaaGreatDoor
namespace Go.Proofs.YthikilhhmianlaaGreatDoor
open Go.ChangeShapes Go.WideShapes Go.ChangeAt Go.RowKit
set_option maxRecDepth 100000 in
theorem ruleText_contract (H : Type) (enc : TypeId × Value → H) (W : World) (base : Nat) (args : Array Value) (ds gs : List (DataW H)) (before : List MemPlace)
    (hval : ∀ (j : Nat) t v, Tryz.f3.params[j]? = some t → args[j]? = some v → Value.okWide Tryz.prog W .any base t v)
    (hW : DataW.Whole enc Tryz.prog Tryz.f3.params.toList Rows.ruleTextSpec.vars false W args.toList ds gs before) (hwt : (DataW.weightsEach Tryz.prog (Tryz.f3.params.toList ++ (OpenSpec.ofChange Rows.ruleTextSpec).bare.plain.varTypes Tryz.prog) (ds ++ gs)).all (· ≤ reachBytes) = true) (hm : TabsE W) :
    Calls Tryz.prog 3 args W fun e W' => ∃ v, e = .returned v ∧ Rows.ruleTextSpec.post enc Tryz.prog Tryz.f3 false true false false W args v W' := by
  have hW' := hW
  obtain ⟨p, q, hA0, hV, rfl, hfz, hnd⟩ := hW
  have hA : DataW.TrodAll enc Tryz.prog W 0 (fun _ => true) true Tryz.f3.params.toList args.toList ds p := hA0
  rw [Tryz.params3] at hA hval
  obtain ⟨v0, vs0, d0, ds0, p0, q0, hargs, rfl, rfl, h0, r0⟩ := trodAll_cons hA
  obtain ⟨rfl, rfl, rfl⟩ := trodAll_nil r0
  obtain rfl : args = #[v0] := by cases args; simp_all
  obtain ⟨rfl, rfl⟩ := trodVars_none hV
  have k0 := h0
  have lt0 : ∀ x ∈ p0, x.block < W.heap.size := by obtain ⟨m, hm⟩ := k0; exact DataW.trod_lt m _ _ _ hm
  have hv0 := hval 0 22 v0 rfl rfl
  have hq0 : ∀ m ∈ d0.weights Tryz.prog 22, m ≤ reachBytes := fun m hm => of_decide_eq_true (List.all_eq_true.1 hwt m (DataW.weights_mem_each (j := 0) (by rw [Tryz.params3]; rfl) rfl m hm))
  obtain ⟨a0, c0, sk0, sn0, rfl, _, _, hF0⟩ := open_sticks hv0 h0 hq0
  clear hA0
  refine (ruleText_walk W hm a0 c0 sk0 sn0 hF0).mono fun e W' ⟨he, bel⟩ => ?_
  subst he
  exact ⟨_, rfl, _, _, _, [], _, [], hW', trodAll_mk1 (shut_bool Tryz.underlying4 _), (trodAll_cons_mk (Below.trod laidOut (by kernel_rfl) (of_decide_eq_true (by kernel_rfl)) k0 bel lt0) trodAll_mk0), rfl, bel.frame _, fun h => by cases h⟩

set_option maxRecDepth 100000 in
theorem ruleText_laid (os : Os) : laidMet Tryz.prog Rows.ruleTextRow.laid (({ World.holding Tryz.prog os ⟨#[], #[], []⟩ with heap := (((((((((((World.holding Tryz.prog os ⟨#[], #[], []⟩).heap.modify 8 (layCells (cellsD Rows.laid_math_bits_deBruijn32tab))).modify 9 (layCells (cellsD Rows.laid_math_bits_deBruijn64tab))).modify 4 (layCells (cellsD Rows.laid_internal_strconv_uint64pow10))).modify 6 (layCells (#[.int .u8 128, .int .u8 191, .int .u8 160, .int .u8 191, .int .u8 128, .int .u8 159, .int .u8 144, .int .u8 191, .int .u8 128, .int .u8 143, .int .u8 0, .int .u8 0, .int .u8 0, .int .u8 0, .int .u8 0, .int .u8 0, .int .u8 0, .int .u8 0, .int .u8 0, .int .u8 0, .int .u8 0, .int .u8 0, .int .u8 0, .int .u8 0, .int .u8 0, .int .u8 0, .int .u8 0, .int .u8 0, .int .u8 0, .int .u8 0, .int .u8 0, .int .u8 0]))).modify 0 (layCells (cellsD Rows.laid_postroom_script_words))).modify 1 (layCells (cellsD Rows.laid_postroom_rule_requirable))).modify 2 (layCells (cellsD Rows.laid_postroom_rule_neededFor))).modify 10 (layCells (cellsD Rows.laid_postroom_rule_envelopeParts))).modify 7 (layCells (cellsD Rows.laid_postroom_rule_flagNames))).modify 5 (layCells ((Go.Pinned.utf8FirstZ.map fun (n : Nat) => Value.int .u8 (Int.ofNat n)).toArray))) } : World).forCall (fun _ _ => 0) ⟨#[], #[.slice none 0 0], []⟩).memory :=
  laidMet_of_run' 8 (by kernel_rfl) (by kernel_rfl)
set_option maxRecDepth 100000 in
theorem ruleText_reads (os : Os) {H : Type} (enc : TypeId × Value → H) : ∃ places, DataW.whole enc Tryz.prog (({ World.holding Tryz.prog os ⟨#[], #[], []⟩ with heap := (((((((((((World.holding Tryz.prog os ⟨#[], #[], []⟩).heap.modify 8 (layCells (cellsD Rows.laid_math_bits_deBruijn32tab))).modify 9 (layCells (cellsD Rows.laid_math_bits_deBruijn64tab))).modify 4 (layCells (cellsD Rows.laid_internal_strconv_uint64pow10))).modify 6 (layCells (#[.int .u8 128, .int .u8 191, .int .u8 160, .int .u8 191, .int .u8 128, .int .u8 159, .int .u8 144, .int .u8 191, .int .u8 128, .int .u8 143, .int .u8 0, .int .u8 0, .int .u8 0, .int .u8 0, .int .u8 0, .int .u8 0, .int .u8 0, .int .u8 0, .int .u8 0, .int .u8 0, .int .u8 0, .int .u8 0, .int .u8 0, .int .u8 0, .int .u8 0, .int .u8 0, .int .u8 0, .int .u8 0, .int .u8 0, .int .u8 0, .int .u8 0, .int .u8 0]))).modify 0 (layCells (cellsD Rows.laid_postroom_script_words))).modify 1 (layCells (cellsD Rows.laid_postroom_rule_requirable))).modify 2 (layCells (cellsD Rows.laid_postroom_rule_neededFor))).modify 10 (layCells (cellsD Rows.laid_postroom_rule_envelopeParts))).modify 7 (layCells (cellsD Rows.laid_postroom_rule_flagNames))).modify 5 (layCells ((Go.Pinned.utf8FirstZ.map fun (n : Nat) => Value.int .u8 (Int.ofNat n)).toArray))) } : World).forCall (fun _ _ => 0) ⟨#[], #[.slice none 0 0], []⟩).memory Tryz.f3.params.toList Rows.ruleTextSpec.vars false #[.slice none 0 0].toList 8 = some ([.nil], [], places) :=
  ⟨[], by kernel_rfl⟩

set_option maxRecDepth 100000 in
theorem ruleText_lifted (os : Os) (started : os.Started) (H : Type) (enc : TypeId × Value → H) (F : Stop.Interp) :
    ReturnsInHanded {} Tryz.checked os 3 .any ((OpenSpec.ofChange Rows.ruleTextSpec).preRow enc Tryz.prog Tryz.f3 Rows.ruleTextRow.domain false Rows.ruleTextRow.laid) (((OpenSpec.ofChange Rows.ruleTextSpec).at F).post enc Tryz.prog Tryz.f3 false true false false) := by
  obtain ⟨places, hx⟩ := ruleText_reads os enc
  refine returnsInHanded_of_row (C := Tryz.checked) (s := OpenSpec.ofChange Rows.ruleTextSpec) own started (by kernel_rfl) Tryz.func3
    (witness_row_at (enc := enc) (C := Tryz.checked) false ({ World.holding Tryz.prog os ⟨#[], #[], []⟩ with heap := (((((((((((World.holding Tryz.prog os ⟨#[], #[], []⟩).heap.modify 8 (layCells (cellsD Rows.laid_math_bits_deBruijn32tab))).modify 9 (layCells (cellsD Rows.laid_math_bits_deBruijn64tab))).modify 4 (layCells (cellsD Rows.laid_internal_strconv_uint64pow10))).modify 6 (layCells (#[.int .u8 128, .int .u8 191, .int .u8 160, .int .u8 191, .int .u8 128, .int .u8 159, .int .u8 144, .int .u8 191, .int .u8 128, .int .u8 143, .int .u8 0, .int .u8 0, .int .u8 0, .int .u8 0, .int .u8 0, .int .u8 0, .int .u8 0, .int .u8 0, .int .u8 0, .int .u8 0, .int .u8 0, .int .u8 0, .int .u8 0, .int .u8 0, .int .u8 0, .int .u8 0, .int .u8 0, .int .u8 0, .int .u8 0, .int .u8 0, .int .u8 0, .int .u8 0]))).modify 0 (layCells (cellsD Rows.laid_postroom_script_words))).modify 1 (layCells (cellsD Rows.laid_postroom_rule_requirable))).modify 2 (layCells (cellsD Rows.laid_postroom_rule_neededFor))).modify 10 (layCells (cellsD Rows.laid_postroom_rule_envelopeParts))).modify 7 (layCells (cellsD Rows.laid_postroom_rule_flagNames))).modify 5 (layCells ((Go.Pinned.utf8FirstZ.map fun (n : Nat) => Value.int .u8 (Int.ofNat n)).toArray))) } : World) #[.slice none 0 0] rfl (by kernel_rfl) (by kernel_rfl) (by kernel_rfl)
      (OpenSpec.preRow_of_cond 8 hx (by kernel_rfl) (fun k hk => by cases hk) (by kernel_rfl) (ruleText_laid os))) ?_
  intro W base args ds gs before hval hW _ hcond hwt hla hsh _
  exact ruleText_contract H enc W base args ds gs before hval hW hwt (tabsE_of W Rows.ruleTextRow.laid hsh (show laidMet Tryz.prog Rows.ruleTextRow.laid W from hla) (by kernel_rfl) (by kernel_rfl) (by kernel_rfl) (by kernel_rfl) (by kernel_rfl) (by kernel_rfl))

theorem ruleText_said : Rows.RuleTextSaid :=
  OpenClaim.holds_of_cond 3 Tryz.f3 rfl rfl rfl rfl rfl rfl rfl ⟨rfl, rfl, rfl, rfl, rfl⟩ rfl rfl rfl rfl rfl (by kernel_rfl) Tryz.func3 (by kernel_rfl)
    (of_decide_eq_true (by kernel_rfl)) (by unfold Func.isWrapper; rw [if_neg (by decide +kernel)]; exact ⟨rfl, rfl⟩)
    (fun os started H enc _ F => by rw [OpenClaim.pre_eq_preRow]; exact ruleText_lifted os started H enc F)

theorem ruleText_plain (f : FuncId) (fn : Func) (hf : Tryz.pinned.checked.prog.funcNamed "postroom/postroomkeep.RuleText" = some f) (hfn : Tryz.pinned.checked.prog.funcs[f]? = some fn) :
    true = Tryz.pinned.checked.prog.looks [] ∧ ∀ (j : Nat) t, fn.params[j]? = some t → Tryz.pinned.checked.prog.wantsStandIn t = false := by
  obtain rfl : f = 3 := Option.some.inj ((show Tryz.prog.funcNamed "postroom/postroomkeep.RuleText" = some 3 by kernel_rfl).symm.trans hf) |>.symm
  obtain rfl : fn = Tryz.f3 := (Option.some.inj (Tryz.func3.symm.trans hfn)).symm
  refine ⟨by kernel_rfl, fun j t ht => ?_⟩
  rw [Tryz.params3] at ht
  obtain rfl : t = 22 := by simpa using Array.mem_of_getElem? ht
  exact (show Tryz.prog.wantsStandIn 22 = false by kernel_rfl)

/-- THE CARD. -/
theorem ruleText_card : Rows.RuleTextCardSaid :=
  Claim7.holds_tied_plain_at .later [] _ _ _ _ ruleText_said (fun _ h => by cases h) (by kernel_rfl) (fun _ h => by cases h) ruleText_row_tie rfl ⟨rfl, rfl⟩ (by kernel_rfl) rfl ruleText_plain (by kernel_rfl)
end Go.Proofs.YthikilhhmianlaaGreatDoor
