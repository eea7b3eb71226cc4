/-
  Proved: for every raw script, a script is parsed as it was shown (no condition but the form's own: what is handed in lies within the form's reach).
-/
import Derived.Test.YtbdpfoidhffalaaDoorMkScr
import Derived.Test.YtbdpfoidhffalaaDoorScrRd13
import Derived.Test.YtbdpfoidhffalaaDoorScrBk
import Derived.Test.YtbdpfoidhffalaaDoorScrSm
import Derived.Test.YtbdpfoidhffalaaDoorScrCard
namespace Go.Proofs.YtbdpfoidhffalaaDoor
open Go.RowKit Go.Proofs

theorem RowM.impM {A : Type} {Q : Nat → Prop} {k : Nat} {P P' : A → List Value → Prop} {w : World} {v : Value} {l : List A} (h : RowM Q k P w v l) (hp : ∀ x ∈ l, ∀ cs, P x cs → P' x cs) : RowM Q k P' w v l := by
  obtain ⟨a, c, hv, hm, hx⟩ := h
  refine ⟨a, c, hv, hm, fun i x hi => ?_⟩
  obtain ⟨b, o, cs, ha, hb, hQ, hl, hc, hP⟩ := hx i x hi
  exact ⟨b, o, cs, ha, hb, hQ, hl, hc, hp x (List.mem_of_getElem? hi) cs hP⟩
theorem TstM.less {Q : Nat → Prop} {w : World} : ∀ (n m : Nat) (t : Tst) (cs : List Value), DeepT n t → TstM Q m w t cs → TstM Q n w t cs := by
  intro n
  induction n with
  | zero => intro m t cs h; exact h.elim
  | succ n ih =>
    intro m t cs hd h
    cases m with
    | zero => exact h.elim
    | succ m =>
      obtain ⟨vn, vk, vt, h0, h1, h2, h3⟩ := h
      exact ⟨vn, vk, vt, h0, h1, h2, RowM.impM h3 fun x hx cs hc => ih m x cs (hd x hx) hc⟩
theorem CmdM.less {Q : Nat → Prop} {w : World} : ∀ (n m : Nat) (t : Cmd) (cs : List Value), DeepC n t → CmdM Q m w t cs → CmdM Q n w t cs := by
  intro n
  induction n with
  | zero => intro m t cs h; exact h.elim
  | succ n ih =>
    intro m t cs hd h
    cases m with
    | zero => exact h.elim
    | succ m =>
      obtain ⟨vx, vn, vk, vt, va, ve, h0, h1, h2, h3, h4⟩ := h
      exact ⟨vx, vn, vk, vt, va, ve, h0, h1, TstM.less n m _ _ hd.1 h2, RowM.impM h3 fun x hx cs hc => ih m x cs (hd.2.1 x hx) hc, RowM.impM h4 fun x hx cs hc => ih m x cs (hd.2.2 x hx) hc⟩
theorem CmdsM.less {Q : Nat → Prop} {n m : Nat} {w : World} {v : Value} {l : List Cmd} (hd : ∀ x ∈ l, DeepC n x) (h : CmdsM Q m w v l) : CmdsM Q n w v l := RowM.impM h fun x hx cs hc => CmdM.less n m x cs (hd x hx) hc

set_option maxHeartbeats 8000000 in
set_option maxRecDepth 100000 in
theorem scriptBack_walk (w : World) (hE : WordsAt w) (a : Option Addr) (c : Nat) (l : List Stk) (n : Nat) (hF : SticksM n w (.slice a l.length c) l) :
    Calls Tryd.prog 5 #[.slice a l.length c] w fun e w' => e = .returned (.bool true) ∧ Below w.heap.size w w' := by
  have HE := hid hE
  have HF := hid hF
  clear hE hF
  go_enter Tryd.func5, Tryd.ntmps5
  go_wp2_with fail
  refine (script_any 5 (by omega) cmds0 n l a c w HE.out HF.out).mono ?_
  rintro e w1 ⟨r, a1, c1, rfl, hM1, hN, hck, hb1⟩
  obtain ⟨CS, hCS⟩ : ∃ CS, CS = reqC :: r := ⟨_, rfl⟩
  have hlen : r.length + 1 = CS.length := by rw [hCS]; rfl
  rw [← hCS] at hM1 hck
  rw [hlen]
  obtain ⟨TS, hTS⟩ : ∃ TS, TS = cmdsT 5 CS := ⟨_, rfl⟩
  have hdp := deep_cmds hM1
  have HPB := hid (show parseS TS = (CS, 0, 0) by rw [hTS]; exact parse_back 5 CS hdp hck)
  have hfz := checkM_ok hck
  have HAS := hid (show AllS TS by rw [hTS]; exact shown_short hdp (fault_of hfz.1))
  have HT4 := hid (show TS.length ≤ 400 by rw [hTS]; exact hfz.2)
  have hpos : 0 < TS.length := by rw [hTS, hCS]; simp [cmdsT, cmdT]
  have HDP := hid hdp
  have HM1 := hid hM1.any
  have HB1 := hid hb1
  have HCK := hid hck
  have HTS := hid hTS
  clear hCS hlen hM1 hck hb1 hdp hN hfz hTS
  go_wp2_with fail
  refine (sshow_any 5 CS a1 c1 w1 (HE.out.next HB1.out) HM1.out).mono ?_
  intro e w2 hS
  unfold Shown at hS
  rw [if_pos HCK.out, ← HTS.out] at hS
  obtain ⟨a2, c2, rfl, hT2, hb2⟩ := hS
  have HB2 := hid (HB1.out.trans (hb2.mono HB1.out.size))
  have HM2 := hid (CmdsM.next HM1.out hb2)
  have HT2 := hid hT2
  clear hT2 hb2
  go_wp2_with fail
  refine (parse_any a2 c2 TS w2 HT2.out (by have := HT4.out; unfold maxLen; omega) (fun t ht hk => by have := HAS.out t ht hk; unfold maxLen; omega) (HE.out.next HB2.out)).mono ?_
  rw [HPB.out]
  rintro e w3 ⟨a3, c3, rfl, hM3, hb3⟩
  simp only at hM3 ⊢
  have HB3 := hid (HB2.out.trans (hb3.mono HB2.out.size))
  have HM3 := hid (show CmdsM anyB 5 w3 (.slice a3 CS.length c3) CS from CmdsM.less HDP.out hM3.any)
  have HM2' := hid (CmdsM.next HM2.out hb3)
  have hposI : (0 : Int) < (TS.length : Int) := by omega
  clear hM3 hb3
  go_wp2_with fail
  refine (sameCmd_any 5 CS w3 a1 a3 c1 c3 HM2'.out HM3.out).mono ?_
  rintro e w4 ⟨rfl, hb4⟩
  have HB4 := hid (HB3.out.trans (hb4.mono HB3.out.size))
  have HM4 := hid (CmdsM.next HM3.out hb4)
  clear hb4
  go_wp2_with fail
  refine (scheck_any 5 CS a3 c3 w4 (HE.out.next HB4.out) HM4.out).mono ?_
  rw [HCK.out]
  rintro e w5 ⟨rfl, hb5⟩
  have HB5 := hid (HB4.out.trans (hb5.mono HB4.out.size))
  clear hb5
  go_wp2
  go_ret
  exact ⟨rfl, HB5.out⟩
end Go.Proofs.YtbdpfoidhffalaaDoor

namespace Go.Proofs.YtbdpfoidhffalaaDoor
open Go.ChangeShapes Go.WideShapes Go.ChangeAt Go.RowKit

set_option maxRecDepth 100000 in
theorem scriptBack_contract (H : Type) (enc : TypeId × Value → H) (W : World) (base : Nat) (args : Array Value) (ds gs : List (DataW H)) (before : List MemPlace)
    (hval : ∀ (j : Nat) t v, Tryd.f5.params[j]? = some t → args[j]? = some v → Value.okWide Tryd.prog W .any base t v)
    (hW : DataW.Whole enc Tryd.prog Tryd.f5.params.toList Rows.scriptBackSpec.vars false W args.toList ds gs before) (hwt : (DataW.weightsEach Tryd.prog (Tryd.f5.params.toList ++ (OpenSpec.ofChange Rows.scriptBackSpec).bare.plain.varTypes Tryd.prog) (ds ++ gs)).all (· ≤ reachBytes) = true) (hm : WordsAt W) :
    Calls Tryd.prog 5 args W fun e W' => ∃ v, e = .returned v ∧ Rows.scriptBackSpec.post enc Tryd.prog Tryd.f5 false true false false W args v W' := by
  have hW' := hW
  obtain ⟨p, q, hA0, hV, rfl, hfz, hnd⟩ := hW
  have hA : DataW.TrodAll enc Tryd.prog W 0 (fun _ => true) true Tryd.f5.params.toList args.toList ds p := hA0
  rw [Tryd.params5] at hA hval
  obtain ⟨v0, vs0, d0, ds0, p0, q0, hargs, rfl, rfl, h0, r0⟩ := trodAll_cons hA
  obtain ⟨rfl, rfl, rfl⟩ := trodAll_nil r0
  obtain rfl : args = #[v0] := by cases args; simp_all
  obtain ⟨rfl, rfl⟩ := trodVars_none hV
  have k0 := h0
  have lt0 : ∀ x ∈ p0, x.block < W.heap.size := by obtain ⟨m, hm⟩ := k0; exact DataW.trod_lt m _ _ _ hm
  have hv0 := hval 0 32 v0 rfl rfl
  have hq0 : ∀ m ∈ d0.weights Tryd.prog 32, m ≤ reachBytes := fun m hm => of_decide_eq_true (List.all_eq_true.1 hwt m (DataW.weights_mem_each (j := 0) (by rw [Tryd.params5]; rfl) rfl m hm))
  obtain ⟨a0, c0, sk0, sn0, rfl, _, _, hF0⟩ := open_sticks hv0 h0 hq0
  clear hA0
  refine (scriptBack_walk W hm a0 c0 sk0 sn0 hF0).mono fun e W' ⟨he, bel⟩ => ?_
  subst he
  exact ⟨_, rfl, _, _, _, [], _, [], hW', trodAll_mk1 (shut_bool Tryd.underlying4 _), (trodAll_cons_mk (Below.trod laidOut (by kernel_rfl) (of_decide_eq_true (by kernel_rfl)) k0 bel lt0) trodAll_mk0), rfl, bel.frame _, fun h => by cases h⟩

set_option maxRecDepth 100000 in
theorem scriptBack_laid (os : Os) : laidMet Tryd.prog Rows.scriptBackRow.laid (({ World.holding Tryd.prog os ⟨#[], #[], []⟩ with heap := (World.holding Tryd.prog os ⟨#[], #[], []⟩).heap.modify 1 (layCells wordCells) } : World).forCall (fun _ _ => 0) ⟨#[], #[.slice none 0 0], []⟩).memory :=
  laidMet_of_run' 8 (by kernel_rfl) (by kernel_rfl)
set_option maxRecDepth 100000 in
theorem scriptBack_reads (os : Os) {H : Type} (enc : TypeId × Value → H) : ∃ places, DataW.whole enc Tryd.prog (({ World.holding Tryd.prog os ⟨#[], #[], []⟩ with heap := (World.holding Tryd.prog os ⟨#[], #[], []⟩).heap.modify 1 (layCells wordCells) } : World).forCall (fun _ _ => 0) ⟨#[], #[.slice none 0 0], []⟩).memory Tryd.f5.params.toList Rows.scriptBackSpec.vars false #[.slice none 0 0].toList 8 = some ([.nil], [], places) :=
  ⟨[], by kernel_rfl⟩

set_option maxRecDepth 100000 in
theorem scriptBack_lifted (os : Os) (started : os.Started) (H : Type) (enc : TypeId × Value → H) (F : Stop.Interp) :
    ReturnsInHanded {} Tryd.checked os 5 .any ((OpenSpec.ofChange Rows.scriptBackSpec).preRow enc Tryd.prog Tryd.f5 Rows.scriptBackRow.domain false Rows.scriptBackRow.laid) (((OpenSpec.ofChange Rows.scriptBackSpec).at F).post enc Tryd.prog Tryd.f5 false true false false) := by
  obtain ⟨places, hx⟩ := scriptBack_reads os enc
  refine returnsInHanded_of_row (C := Tryd.checked) (s := OpenSpec.ofChange Rows.scriptBackSpec) own started (by kernel_rfl) Tryd.func5
    (witness_row_at (enc := enc) (C := Tryd.checked) false ({ World.holding Tryd.prog os ⟨#[], #[], []⟩ with heap := (World.holding Tryd.prog os ⟨#[], #[], []⟩).heap.modify 1 (layCells wordCells) } : World) #[.slice none 0 0] rfl (by kernel_rfl) (by kernel_rfl) (by kernel_rfl)
      (OpenSpec.preRow_of_cond 8 hx (by kernel_rfl) (fun k hk => by cases hk) (by kernel_rfl) (scriptBack_laid os))) ?_
  intro W base args ds gs before hval hW _ hcond hwt hla _ _
  exact scriptBack_contract H enc W base args ds gs before hval hW hwt (words_of W hla)

theorem scriptBack_said : Rows.ScriptBackSaid :=
  OpenClaim.holds_of_cond 5 Tryd.f5 rfl rfl rfl rfl rfl rfl rfl ⟨rfl, rfl, rfl, rfl, rfl⟩ rfl rfl rfl rfl rfl (by kernel_rfl) Tryd.func5 (by kernel_rfl)
    (of_decide_eq_true (by kernel_rfl)) (by unfold Func.isWrapper; rw [if_neg (by decide +kernel)]; exact ⟨rfl, rfl⟩)
    (fun os started H enc _ F => by rw [OpenClaim.pre_eq_preRow]; exact scriptBack_lifted os started H enc F)

theorem scriptBack_plain (f : FuncId) (fn : Func) (hf : Tryd.pinned.checked.prog.funcNamed "postroom/postroomkeep.ScriptBack" = some f) (hfn : Tryd.pinned.checked.prog.funcs[f]? = some fn) :
    true = Tryd.pinned.checked.prog.looks [] ∧ ∀ (j : Nat) t, fn.params[j]? = some t → Tryd.pinned.checked.prog.wantsStandIn t = false := by
  obtain rfl : f = 5 := Option.some.inj ((show Tryd.prog.funcNamed "postroom/postroomkeep.ScriptBack" = some 5 by kernel_rfl).symm.trans hf) |>.symm
  obtain rfl : fn = Tryd.f5 := (Option.some.inj (Tryd.func5.symm.trans hfn)).symm
  refine ⟨by kernel_rfl, fun j t ht => ?_⟩
  rw [Tryd.params5] at ht
  obtain rfl : t = 32 := by simpa using Array.mem_of_getElem? ht
  exact (show Tryd.prog.wantsStandIn 32 = false by kernel_rfl)

/-- THE CARD. -/
theorem scriptBack_card : Rows.ScriptBackCardSaid :=
  Claim7.holds_tied_plain_at .later [] _ _ _ _ scriptBack_said (fun _ h => by cases h) (by kernel_rfl) (fun _ h => by cases h) scriptBack_row_tie rfl ⟨rfl, rfl⟩ (by kernel_rfl) rfl scriptBack_plain (by kernel_rfl)
end Go.Proofs.YtbdpfoidhffalaaDoor
