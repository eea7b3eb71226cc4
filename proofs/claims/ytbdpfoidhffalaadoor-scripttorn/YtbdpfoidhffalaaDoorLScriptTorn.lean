/-
  Proved: for every raw script and every number, a script that is cut is too short, or is some of its commands (no condition but the form's own: what is handed in lies within the form's reach).
-/
import Derived.Test.YtbdpfoidhffalaaDoorScrCard
import Derived.Test.YtbdpfoidhffalaaDoorMkScr
import Derived.Test.YtbdpfoidhffalaaDoorScrRd13
import Derived.Test.YtbdpfoidhffalaaDoorScrBk
import Derived.Test.YtbdpfoidhffalaaDoorScrCut
import Derived.Test.YtbdpfoidhffalaaDoorKeepPick
namespace Go.Proofs.YtbdpfoidhffalaaDoor
open Go.ChangeShapes Go.WideShapes Go.ChangeAt Go.RowKit Go.Proofs

theorem own_cap {w : World} {base : Nat} {e : TypeId} {size : Nat} {a : Option Addr} {n m c : Nat} {xs : List Value} (h : w.ownsRow base e size (.slice a n c) m xs) : n ≤ c := by
  rcases h.2 with ⟨hv, _⟩ | ⟨g, cap, cur, hv, _, _, hc, _⟩
  · cases hv; exact Nat.le_refl _
  · cases hv; exact hc
set_option maxHeartbeats 4000000 in
theorem tokensOf_cap (n : Nat) (l : List Cmd) (a : Option Addr) (k : Nat) (w : World) (hw : WordsAt w) (hF : faultCmds n 0 l = 0) (h : CmdsM anyB n w (.slice a l.length k) l) :
    Calls Tryd.prog 26 #[.slice a l.length k] w fun e w' => ∃ a' c', e = .returned (.slice a' ((cmdsT n l).take 401).length c') ∧ ToksAt w' a' ((cmdsT n l).take 401) ∧ ((cmdsT n l).take 401).length ≤ c' ∧ Below w.heap.size w w' := by
  have hG := hw.pos
  obtain ⟨W0, hW0⟩ : ∃ W0, W0 = w.alloc (.cells #[.slice none 0 0] 72) := ⟨_, rfl⟩
  have hal : Below w.heap.size w W0 := by rw [hW0]; exact (Below.refl _ _).alloc (Nat.le_refl _) _
  have HU0 := hid (show WrB W0 w.heap.size none [] by rw [hW0]; exact ⟨none, 0, heap_alloc_new w _, rfl, World.ownsRow_nil _ _ _ _⟩)
  have HWE := hid hW0
  have HAL := hid hal
  have HT := hid (CmdsM.imp' h.und hal)
  have HW := hid (hw.next hal)
  have HF := hid hF
  clear hW0 hal h hw hF
  go_enter Tryd.func26, Tryd.ntmps26
  go_wp2_with fail
  rw [← HWE.out]
  refine (wcommands_of n (wbranches_any n) l 0 w.heap.size none [] W0 a k HU0.out (by simp) hG HW.out HF.out HT.out).mono ?_
  rintro e w1 ⟨rfl, g1, hU1, hW1⟩
  rw [List.nil_append] at hU1
  clear HF HT
  obtain ⟨T, hT⟩ : ∃ T, T = (cmdsT n l).take 401 := ⟨_, rfl⟩
  rw [← hT] at hU1
  have HTT := hid hT
  clear hT
  have hB1 := HAL.out.trans (HU0.out.below hW1)
  obtain ⟨a', c', h1, h2, h3⟩ := hU1
  have k0 : w1.cell? ⟨w.heap.size, 0, none⟩ = some (.slice a' T.length c') := by simp [World.cell?, h1]
  have HE := hid (show ToksAt w1 a' T from OwnT.at h3)
  have HCP := hid (show T.length ≤ c' from own_cap h3)
  have HB1 := hid hB1
  clear h1 h2 h3 hW1 hB1
  go_wp2
  go_ret
  rw [← HTT.out]
  exact ⟨a', c', rfl, HE.out, HCP.out, HB1.out⟩

set_option maxHeartbeats 4000000 in
theorem sshow_cap (n : Nat) (l : List Cmd) (a : Option Addr) (k : Nat) (w : World) (hw : WordsAt w) (h : CmdsM anyB n w (.slice a l.length k) l) :
    Calls Tryd.prog 13 #[.slice a l.length k] w fun e w' => checkM n l = 0 → ∃ a' c', e = .returned (.tuple #[.slice a' (cmdsT n l).length c', .int .i64 0]) ∧ ToksAt w' a' (cmdsT n l) ∧ (cmdsT n l).length ≤ c' ∧ Below w.heap.size w w' := by
  have HT := hid h
  have HW := hid hw
  clear h hw
  go_enter Tryd.func13, Tryd.ntmps13
  go_wp2_with fail
  refine (scheck_any n l a k w HW.out HT.out).mono ?_
  rintro e w1 ⟨rfl, hb1⟩
  have HB1 := hid hb1
  obtain ⟨x, hx⟩ : ∃ x, x = checkM n l := ⟨_, rfl⟩
  rw [← hx]
  have HX := hid hx
  clear hx hb1
  by_cases hx : x = 0
  · have hc0 : checkM n l = 0 := by rw [← HX.out, hx]
    have HC0 := hid hc0
    obtain ⟨hF, hlen⟩ := checkM_zero hc0
    have HF := hid hF
    have HTk := hid (show (cmdsT n l).take 401 = cmdsT n l from List.take_of_length_le (by omega))
    subst hx
    clear hc0 hF
    go_wp2_with fail
    refine (tokensOf_cap n l a k w1 (HW.out.next HB1.out) HF.out (HT.out.next HB1.out)).mono ?_
    rw [HTk.out]
    rintro e w2 ⟨a', c', rfl, ht, hcp, hb2⟩
    have HE := hid (show ∃ a'' c'', Ending.returned (.tuple #[.slice a' (cmdsT n l).length c', .int .i64 0]) = .returned (.tuple #[.slice a'' (cmdsT n l).length c'', .int .i64 0]) ∧ ToksAt w2 a'' (cmdsT n l) ∧ (cmdsT n l).length ≤ c'' ∧ Below w.heap.size w w2 from ⟨a', c', rfl, ht, hcp, HB1.out.trans (hb2.mono HB1.out.size)⟩)
    clear hcp
    clear hb2 ht
    go_wp2
    go_ret2
    exact fun _ => HE.out
  · have HE := hid (show checkM n l = 0 → False from fun h => hx (by rw [HX.out, h]))
    go_wp2
    go_ret2
    exact fun h => (HE.out h).elim
theorem toks_take {w : World} {a : Option Addr} {ts : List Tok} (h : ToksAt w a ts) (k : Nat) : ToksAt w a (ts.take k) := fun i t ht => by
  have hi : i < (ts.take k).length := (List.getElem?_eq_some_iff.1 ht).1
  rw [List.length_take] at hi
  rw [List.getElem?_take_of_lt (by omega)] at ht
  exact h i t ht

set_option maxHeartbeats 8000000 in
set_option maxRecDepth 100000 in
theorem scriptTorn_walk (w : World) (hE : WordsAt w) (a : Option Addr) (c : Nat) (l : List Stk) (n : Nat) (hF : SticksM n w (.slice a l.length c) l) (at0 : Int) (hat : (Lit.int .i64 at0).wf = true) :
    Calls Tryd.prog 6 #[.slice a l.length c, .int .i64 at0] w fun e w' => e = .returned (.bool true) ∧ Below w.heap.size w w' := by
  have HE := hid hE
  have HF := hid hF
  have HAT := hid hat
  clear hE hF hat
  go_enter Tryd.func6, Tryd.ntmps6
  go_wp2_with fail
  refine (script_any 5 (by omega) cmds0 n l a c w HE.out HF.out).mono ?_
  rintro e w1 ⟨r, a1, c1, rfl, hM1, hN, hck, hb1⟩
  obtain ⟨CS, hCS⟩ : ∃ CS, CS = reqC :: r := ⟨_, rfl⟩
  have hlen : r.length + 1 = CS.length := by rw [hCS]; rfl
  rw [← hCS] at hM1 hck
  rw [hlen]
  obtain ⟨TS, hTS⟩ : ∃ TS, TS = cmdsT 5 CS := ⟨_, rfl⟩
  have hdp := deep_cmds hM1
  have HPB := hid (show parseS TS = (CS, 0, 0) by rw [hTS]; exact parse_back 5 CS hdp hck)
  have hfz := checkM_ok hck
  have HAS := hid (show AllS TS by rw [hTS]; exact shown_short hdp (fault_of hfz.1))
  have hT4 : TS.length ≤ 400 := by rw [hTS]; exact hfz.2
  have hpos : 0 < TS.length := by rw [hTS, hCS]; simp [cmdsT, cmdT]
  have HM1 := hid hM1.any
  have HB1 := hid hb1
  have HCK := hid hck
  have HTS := hid hTS
  clear hCS hlen hM1 hck hb1 hdp hN hfz hTS
  go_wp2_with fail
  refine (sshow_cap 5 CS a1 c1 w1 (HE.out.next HB1.out) HM1.out).mono ?_
  intro e w2 hS
  rw [← HTS.out] at hS
  obtain ⟨a2, c2, rfl, hT2, hcp, hb2⟩ := hS HCK.out
  obtain ⟨b2, o2, rfl⟩ : ∃ b2 o2, a2 = some ⟨b2, o2, none⟩ := by
    obtain ⟨t, ht⟩ : ∃ t, TS[0]? = some t := ⟨_, List.getElem?_eq_getElem hpos⟩
    obtain ⟨b, o, ha, _⟩ := hT2 0 t ht
    exact ⟨b, o, ha⟩
  have HB2 := hid (HB1.out.trans (hb2.mono HB1.out.size))
  have HT2 := hid hT2
  have hz : ((TS.length : Int) == 0) = false := by simp; intro e; rw [e] at hpos; simp at hpos
  clear hT2 hb2
  go_wp2_with fail
  refine (picked_any at0 TS.length w2 HAT.out hpos (by omega)).mono ?_
  rintro e w3 ⟨rfl, hw3⟩
  have hw3' := hw3.symm
  subst hw3'
  have hk := pickN_lt at0 TS.length hpos
  generalize pickN at0 TS.length = k at *
  have k0 : (0 : Int) ≤ (k : Int) := by omega
  have k1 : (k : Int) ≤ (c2 : Int) := by omega
  have hlk : (TS.take k).length = k := by rw [List.length_take]; omega
  have HTK := hid (toks_take HT2.out k)
  have HPC := hid (show Calls Tryd.prog 17 #[.slice (some ⟨b2, o2, none⟩) k k] w2 (Parsed w2 (k + 3) (parseS (TS.take k))) by
    have := parse_any (some ⟨b2, o2, none⟩) k (TS.take k) w2 HTK.out (by rw [hlk]; unfold maxLen; omega) (fun t ht hkk => by have := HAS.out t (List.mem_of_mem_take ht) hkk; unfold maxLen; omega) (HE.out.next HB2.out)
    rw [hlk] at this
    exact this)
  have HTN := hid (show (∃ cs', parseS (TS.take k) = (cs', 0, 0) ∧ cs'.length ≤ CS.length) ∨ parseS (TS.take k) = ([], (k : Int), 4) by
    have h := parse_torn (p := TS.take k) (s := TS.drop k) (cs := CS) (i := 0) (by rw [List.take_append_drop]; exact HPB.out)
    rw [hlk] at h
    exact h)
  clear hlk
  go_wp2_with fail
  refine HPC.out.mono ?_
  rcases HTN.out with ⟨cs', hp, hle⟩ | hp
  · rw [hp]
    rintro e w4 ⟨a4, c4, rfl, _, hb4⟩
    simp only
    have HB4 := hid (HB2.out.trans (hb4.mono HB2.out.size))
    have hleI : (cs'.length : Int) ≤ (CS.length : Int) := by omega
    clear hb4 hp
    go_wp2
    go_ret
    exact ⟨rfl, HB4.out⟩
  · rw [hp]
    rintro e w4 ⟨a4, c4, rfl, _, hb4⟩
    simp only
    have HB4 := hid (HB2.out.trans (hb4.mono HB2.out.size))
    clear hb4 hp
    go_wp2
    go_ret
    exact ⟨by simp, HB4.out⟩

set_option maxRecDepth 100000 in
theorem scriptTorn_contract (H : Type) (enc : TypeId × Value → H) (W : World) (base : Nat) (args : Array Value) (ds gs : List (DataW H)) (before : List MemPlace)
    (hval : ∀ (j : Nat) t v, Tryd.f6.params[j]? = some t → args[j]? = some v → Value.okWide Tryd.prog W .any base t v)
    (hW : DataW.Whole enc Tryd.prog Tryd.f6.params.toList Rows.scriptTornSpec.vars false W args.toList ds gs before) (hwt : (DataW.weightsEach Tryd.prog (Tryd.f6.params.toList ++ (OpenSpec.ofChange Rows.scriptTornSpec).bare.plain.varTypes Tryd.prog) (ds ++ gs)).all (· ≤ reachBytes) = true) (hm : WordsAt W) :
    Calls Tryd.prog 6 args W fun e W' => ∃ v, e = .returned v ∧ Rows.scriptTornSpec.post enc Tryd.prog Tryd.f6 false true false false W args v W' := by
  have hW' := hW
  obtain ⟨p, q, hA0, hV, rfl, hfz, hnd⟩ := hW
  have hA : DataW.TrodAll enc Tryd.prog W 0 (fun _ => true) true Tryd.f6.params.toList args.toList ds p := hA0
  rw [Tryd.params6] at hA hval
  obtain ⟨v0, vs0, d0, ds0, p0, q0, hargs, rfl, rfl, h0, r0⟩ := trodAll_cons hA
  obtain ⟨v1, vs1, d1, ds1, p1, q1, rfl, rfl, rfl, h1, r1⟩ := trodAll_cons r0
  obtain ⟨rfl, rfl, rfl⟩ := trodAll_nil r1
  obtain rfl : args = #[v0, v1] := by cases args; simp_all
  obtain ⟨rfl, rfl⟩ := trodVars_none hV
  have k0 := h0
  have lt0 : ∀ x ∈ p0, x.block < W.heap.size := by obtain ⟨m, hm⟩ := k0; exact DataW.trod_lt m _ _ _ hm
  have hv0 := hval 0 32 v0 rfl rfl
  have hq0 : ∀ m ∈ d0.weights Tryd.prog 32, m ≤ reachBytes := fun m hm => of_decide_eq_true (List.all_eq_true.1 hwt m (DataW.weights_mem_each (j := 0) (by rw [Tryd.params6]; rfl) rfl m hm))
  obtain ⟨a0, c0, sk0, sn0, rfl, _, _, hF0⟩ := open_sticks hv0 h0 hq0
  obtain ⟨a1, rfl, rfl, rfl, w1⟩ := open_int Tryd.underlying3 (hval 1 3 v1 rfl rfl) h1
  clear hA0
  refine (scriptTorn_walk W hm a0 c0 sk0 sn0 hF0 a1 w1).mono fun e W' ⟨he, bel⟩ => ?_
  subst he
  exact ⟨_, rfl, _, _, _, [], _, [], hW', trodAll_mk1 (shut_bool Tryd.underlying4 _), (trodAll_cons_mk (Below.trod laidOut (by kernel_rfl) (of_decide_eq_true (by kernel_rfl)) k0 bel lt0) (trodAll_cons_mk (shut_int Tryd.underlying3 w1) trodAll_mk0)), rfl, bel.frame _, fun h => by cases h⟩

set_option maxRecDepth 100000 in
theorem scriptTorn_laid (os : Os) : laidMet Tryd.prog Rows.scriptTornRow.laid (({ World.holding Tryd.prog os ⟨#[], #[], []⟩ with heap := (World.holding Tryd.prog os ⟨#[], #[], []⟩).heap.modify 1 (layCells wordCells) } : World).forCall (fun _ _ => 0) ⟨#[], #[.slice none 0 0, .int .i64 0], []⟩).memory :=
  laidMet_of_run' 8 (by kernel_rfl) (by kernel_rfl)
set_option maxRecDepth 100000 in
theorem scriptTorn_reads (os : Os) {H : Type} (enc : TypeId × Value → H) : ∃ places, DataW.whole enc Tryd.prog (({ World.holding Tryd.prog os ⟨#[], #[], []⟩ with heap := (World.holding Tryd.prog os ⟨#[], #[], []⟩).heap.modify 1 (layCells wordCells) } : World).forCall (fun _ _ => 0) ⟨#[], #[.slice none 0 0, .int .i64 0], []⟩).memory Tryd.f6.params.toList Rows.scriptTornSpec.vars false #[.slice none 0 0, .int .i64 0].toList 8 = some ([.nil, .lit (.int .i64 0)], [], places) :=
  ⟨[], by kernel_rfl⟩

set_option maxRecDepth 100000 in
theorem scriptTorn_lifted (os : Os) (started : os.Started) (H : Type) (enc : TypeId × Value → H) (F : Stop.Interp) :
    ReturnsInHanded {} Tryd.checked os 6 .any ((OpenSpec.ofChange Rows.scriptTornSpec).preRow enc Tryd.prog Tryd.f6 Rows.scriptTornRow.domain false Rows.scriptTornRow.laid) (((OpenSpec.ofChange Rows.scriptTornSpec).at F).post enc Tryd.prog Tryd.f6 false true false false) := by
  obtain ⟨places, hx⟩ := scriptTorn_reads os enc
  refine returnsInHanded_of_row (C := Tryd.checked) (s := OpenSpec.ofChange Rows.scriptTornSpec) own started (by kernel_rfl) Tryd.func6
    (witness_row_at (enc := enc) (C := Tryd.checked) false ({ World.holding Tryd.prog os ⟨#[], #[], []⟩ with heap := (World.holding Tryd.prog os ⟨#[], #[], []⟩).heap.modify 1 (layCells wordCells) } : World) #[.slice none 0 0, .int .i64 0] rfl (by kernel_rfl) (by kernel_rfl) (by kernel_rfl)
      (OpenSpec.preRow_of_cond 8 hx (by kernel_rfl) (fun k hk => by cases hk) (by kernel_rfl) (scriptTorn_laid os))) ?_
  intro W base args ds gs before hval hW _ hcond hwt hla _ _
  exact scriptTorn_contract H enc W base args ds gs before hval hW hwt (words_of W hla)

theorem scriptTorn_said : Rows.ScriptTornSaid :=
  OpenClaim.holds_of_cond 6 Tryd.f6 rfl rfl rfl rfl rfl rfl rfl ⟨rfl, rfl, rfl, rfl, rfl⟩ rfl rfl rfl rfl rfl (by kernel_rfl) Tryd.func6 (by kernel_rfl)
    (of_decide_eq_true (by kernel_rfl)) (by unfold Func.isWrapper; rw [if_neg (by decide +kernel)]; exact ⟨rfl, rfl⟩)
    (fun os started H enc _ F => by rw [OpenClaim.pre_eq_preRow]; exact scriptTorn_lifted os started H enc F)

theorem scriptTorn_plain (f : FuncId) (fn : Func) (hf : Tryd.pinned.checked.prog.funcNamed "postroom/postroomkeep.ScriptTorn" = some f) (hfn : Tryd.pinned.checked.prog.funcs[f]? = some fn) :
    true = Tryd.pinned.checked.prog.looks [] ∧ ∀ (j : Nat) t, fn.params[j]? = some t → Tryd.pinned.checked.prog.wantsStandIn t = false := by
  obtain rfl : f = 6 := Option.some.inj ((show Tryd.prog.funcNamed "postroom/postroomkeep.ScriptTorn" = some 6 by kernel_rfl).symm.trans hf) |>.symm
  obtain rfl : fn = Tryd.f6 := (Option.some.inj (Tryd.func6.symm.trans hfn)).symm
  refine ⟨by kernel_rfl, fun j t ht => ?_⟩
  rw [Tryd.params6] at ht
  have hmem : t = 32 ∨ t = 3 := by simpa using Array.mem_of_getElem? ht
  rcases hmem with rfl | rfl
  · exact (show Tryd.prog.wantsStandIn 32 = false by kernel_rfl)
  · exact (show Tryd.prog.wantsStandIn 3 = false by kernel_rfl)

/-- THE CARD. -/
theorem scriptTorn_card : Rows.ScriptTornCardSaid :=
  Claim7.holds_tied_plain_at .later [] _ _ _ _ scriptTorn_said (fun _ h => by cases h) (by kernel_rfl) (fun _ h => by cases h) scriptTorn_row_tie rfl ⟨rfl, rfl⟩ (by kernel_rfl) rfl scriptTorn_plain (by kernel_rfl)
end Go.Proofs.YtbdpfoidhffalaaDoor
