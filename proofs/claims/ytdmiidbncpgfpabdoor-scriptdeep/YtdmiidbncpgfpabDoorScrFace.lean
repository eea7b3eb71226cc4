/-
  What script.tokensOf, script.Check and script.Show do: the walks.
-/
import Derived.Test.YtdmiidbncpgfpabDoorScrWbr
namespace Go.Proofs.YtdmiidbncpgfpabDoor
open Go.RowKit Go.Proofs

theorem RowM.und {A : Type} {Q : Nat → Prop} {k : Nat} {P P' : A → List Value → Prop} {w : World} {v : Value} {l : List A} (h : RowM Q k P w v l) (hp : ∀ x cs, P x cs → P' x cs) : RowM (und w.heap.size) k P' w v l := by
  obtain ⟨a, c, hv, hm, hx⟩ := h
  refine ⟨a, c, hv, hm, fun i x hi => ?_⟩
  obtain ⟨b, o, cs, ha, hb, _, hl, hc, hP⟩ := hx i x hi
  exact ⟨b, o, cs, ha, hb, hb, hl, hc, hp x cs hP⟩
theorem TstM.und {Q : Nat → Prop} {w : World} : ∀ (n : Nat) (t : Tst) (cs : List Value), TstM Q n w t cs → TstM (und w.heap.size) n w t cs := by
  intro n
  induction n with
  | zero => intro t cs h; exact h
  | succ n ih =>
    intro t cs h
    obtain ⟨vn, vk, vt, h0, h1, h2, h3⟩ := h
    exact ⟨vn, vk, vt, h0, RowM.und h1 fun _ _ h => h, RowM.und h2 fun _ _ h => h, RowM.und h3 ih⟩
theorem CmdM.und {Q : Nat → Prop} {w : World} : ∀ (n : Nat) (t : Cmd) (cs : List Value), CmdM Q n w t cs → CmdM (und w.heap.size) n w t cs := by
  intro n
  induction n with
  | zero => intro t cs h; exact h
  | succ n ih =>
    intro t cs h
    obtain ⟨vx, vn, vk, vt, va, ve, h0, h1, h2, h3, h4⟩ := h
    exact ⟨vx, vn, vk, vt, va, ve, h0, RowM.und h1 fun _ _ h => h, TstM.und _ _ _ h2, RowM.und h3 ih, RowM.und h4 ih⟩
theorem CmdsM.und {Q : Nat → Prop} {n : Nat} {w : World} {v : Value} {l : List Cmd} (h : CmdsM Q n w v l) : CmdsM (und w.heap.size) n w v l := RowM.und h fun _ _ h => CmdM.und _ _ _ h
theorem CmdsM.any {Q : Nat → Prop} {n : Nat} {w : World} {v : Value} {l : List Cmd} (h : CmdsM Q n w v l) : CmdsM anyB n w v l := RowM.imp h (fun _ _ => trivial) (Keeps.refl _ _) fun _ _ h => CmdM.imp (fun _ _ => trivial) (Keeps.refl _ _) _ _ _ h
theorem CmdsM.imp' {Q : Nat → Prop} {n : Nat} {w w' : World} {v : Value} {l : List Cmd} (h : CmdsM Q n w v l) (hb : Below w.heap.size w w') : CmdsM Q n w' v l := h.next hb
/-- A row of tokens that was made from a block on. -/
def TokFar (B : Nat) (a : Option Addr) (l : List Tok) : Prop := ∀ (i : Nat) x, l[i]? = some x → ∃ b o, a = some ⟨b, o, none⟩ ∧ B ≤ b

set_option maxHeartbeats 4000000 in
theorem tokensOf_any (n : Nat) (l : List Cmd) (a : Option Addr) (k : Nat) (w : World) (hw : WordsAt w) (hF : faultCmds n 0 l = 0) (h : CmdsM anyB n w (.slice a l.length k) l) :
    Calls Tryd.prog 15 #[.slice a l.length k] w fun e w' => ∃ a' c', e = .returned (.slice a' ((cmdsT n l).take 401).length c') ∧ ToksAt w' a' ((cmdsT n l).take 401) ∧ Below w.heap.size w w' := by
  have hG := hw.pos
  obtain ⟨W0, hW0⟩ : ∃ W0, W0 = w.alloc (.cells #[.slice none 0 0] 66) := ⟨_, rfl⟩
  have hal : Below w.heap.size w W0 := by rw [hW0]; exact (Below.refl _ _).alloc (Nat.le_refl _) _
  have HU0 := hid (show WrB W0 w.heap.size none [] by rw [hW0]; exact ⟨none, 0, heap_alloc_new w _, rfl, World.ownsRow_nil _ _ _ _⟩)
  have HWE := hid hW0
  have HAL := hid hal
  have HT := hid (CmdsM.imp' h.und hal)
  have HW := hid (hw.next hal)
  have HF := hid hF
  clear hW0 hal h hw hF
  go_enter Tryd.func15, Tryd.ntmps15
  go_wp2_with fail
  rw [← HWE.out]
  refine (wcommands_of n (wbranches_any n) l 0 w.heap.size none [] W0 a k HU0.out (by simp) hG HW.out HF.out HT.out).mono ?_
  rintro e w1 ⟨rfl, g1, hU1, hW1⟩
  rw [List.nil_append] at hU1
  clear HF HT
  obtain ⟨T, hT⟩ : ∃ T, T = (cmdsT n l).take 401 := ⟨_, rfl⟩
  rw [← hT] at hU1
  have HTT := hid hT
  clear hT
  have hB1 := HAL.out.trans (HU0.out.below hW1)
  obtain ⟨a', c', h1, h2, h3⟩ := hU1
  have k0 : w1.cell? ⟨w.heap.size, 0, none⟩ = some (.slice a' T.length c') := by simp [World.cell?, h1]
  have HE := hid (show ToksAt w1 a' T from OwnT.at h3)
  have HB1 := hid hB1
  clear h1 h2 h3 hW1 hB1
  go_wp2
  go_ret
  rw [← HTT.out]
  exact ⟨a', c', rfl, HE.out, HB1.out⟩

set_option maxHeartbeats 4000000 in
theorem scheck_any (n : Nat) (l : List Cmd) (a : Option Addr) (k : Nat) (w : World) (hw : WordsAt w) (h : CmdsM anyB n w (.slice a l.length k) l) :
    Calls Tryd.prog 7 #[.slice a l.length k] w fun e w' => e = .returned (.int .i64 (checkM n l)) ∧ Below w.heap.size w w' := by
  have HT := hid h
  have HW := hid hw
  clear h hw
  go_enter Tryd.func7, Tryd.ntmps7
  go_wp2_with fail
  refine (checkCommands_of n (checkCommand_any n) l 0 w a k (by omega) HW.out HT.out).mono ?_
  rintro e w1 ⟨rfl, hb1⟩
  have HB1 := hid hb1
  obtain ⟨x, hx⟩ : ∃ x, x = faultCmds n 0 l := ⟨_, rfl⟩
  rw [← hx]
  have HX := hid hx
  clear hx hb1
  by_cases hx : x = 0
  · have HF := hid (show faultCmds n 0 l = 0 by rw [← HX.out, hx])
    subst hx
    go_wp2_with fail
    refine (tokensOf_any n l a k w1 (HW.out.next HB1.out) HF.out (HT.out.next HB1.out)).mono ?_
    rintro e w2 ⟨a', c', rfl, _, hb2⟩
    have HB2 := hid (HB1.out.trans (hb2.mono HB1.out.size))
    clear hb2
    by_cases hlen : 400 < (cmdsT n l).length
    · have hl2 : ((cmdsT n l).take 401).length = 401 := by rw [List.length_take]; omega
      rw [hl2]
      have HR := hid (show checkM n l = 5 by unfold checkM; rw [if_neg (by rw [HF.out]; simp), if_pos hlen])
      go_wp2
      go_ret
      exact ⟨ret_int HR.out.symm, HB2.out⟩
    · have hl2 : ((((cmdsT n l).take 401).length : Nat) : Int) ≤ 400 := by rw [List.length_take]; omega
      have hl3 : ¬ (400 : Int) < ((((cmdsT n l).take 401).length : Nat) : Int) := by omega
      have HR := hid (show checkM n l = 0 by unfold checkM; rw [if_neg (by rw [HF.out]; simp), if_neg hlen])
      generalize ((cmdsT n l).take 401).length = y at *
      go_wp2
      go_ret
      exact ⟨ret_int HR.out.symm, HB2.out⟩
  · have HR := hid (show checkM n l = x by unfold checkM; rw [← HX.out, if_pos hx])
    go_wp2
    go_ret
    exact ⟨ret_int HR.out.symm, HB1.out⟩

/-- What script.Show hands back. -/
def Shown (w : World) (n : Nat) (l : List Cmd) (e : Ending) (w' : World) : Prop :=
  if checkM n l = 0 then ∃ a' c', e = .returned (.tuple #[.slice a' (cmdsT n l).length c', .int .i64 0]) ∧ ToksAt w' a' (cmdsT n l) ∧ Below w.heap.size w w'
  else e = .returned (.tuple #[.slice none 0 0, .int .i64 (checkM n l)]) ∧ Below w.heap.size w w'
theorem checkM_zero {n : Nat} {l : List Cmd} (h : checkM n l = 0) : faultCmds n 0 l = 0 ∧ (cmdsT n l).length ≤ 400 := by
  unfold checkM at h
  by_cases h1 : faultCmds n 0 l = 0
  · rw [if_neg (by simpa using h1)] at h
    refine ⟨h1, ?_⟩
    rcases Nat.lt_or_ge 400 (cmdsT n l).length with h2 | h2
    · rw [if_pos h2] at h; simp at h
    · exact h2
  · rw [if_pos h1] at h; exact absurd h h1

set_option maxHeartbeats 4000000 in
theorem sshow_any (n : Nat) (l : List Cmd) (a : Option Addr) (k : Nat) (w : World) (hw : WordsAt w) (h : CmdsM anyB n w (.slice a l.length k) l) :
    Calls Tryd.prog 13 #[.slice a l.length k] w (Shown w n l) := by
  have HT := hid h
  have HW := hid hw
  clear h hw
  go_enter Tryd.func13, Tryd.ntmps13
  go_wp2_with fail
  refine (scheck_any n l a k w HW.out HT.out).mono ?_
  rintro e w1 ⟨rfl, hb1⟩
  have HB1 := hid hb1
  obtain ⟨x, hx⟩ : ∃ x, x = checkM n l := ⟨_, rfl⟩
  rw [← hx]
  have HX := hid hx
  clear hx hb1
  by_cases hx : x = 0
  · have hc0 : checkM n l = 0 := by rw [← HX.out, hx]
    have HC0 := hid hc0
    obtain ⟨hF, hlen⟩ := checkM_zero hc0
    have HF := hid hF
    have HTk := hid (show (cmdsT n l).take 401 = cmdsT n l from List.take_of_length_le (by omega))
    subst hx
    clear hc0 hF
    go_wp2_with fail
    refine (tokensOf_any n l a k w1 (HW.out.next HB1.out) HF.out (HT.out.next HB1.out)).mono ?_
    rw [HTk.out]
    rintro e w2 ⟨a', c', rfl, ht, hb2⟩
    have HE := hid (show Shown w n l (.returned (.tuple #[.slice a' (cmdsT n l).length c', .int .i64 0])) w2 by
      unfold Shown; rw [if_pos HC0.out]; exact ⟨a', c', rfl, ht, HB1.out.trans (hb2.mono HB1.out.size)⟩)
    clear hb2 ht
    go_wp2
    go_ret2
    exact HE.out
  · have HE := hid (show Shown w n l (.returned (.tuple #[.slice none 0 0, .int .i64 x])) w1 by
      unfold Shown; rw [if_neg (by rw [← HX.out]; exact hx), ← HX.out]; exact ⟨rfl, HB1.out⟩)
    go_wp2
    go_ret2
    exact HE.out
end Go.Proofs.YtdmiidbncpgfpabDoor
