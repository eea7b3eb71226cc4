/-
  code.Compile: the walk.
-/
import Derived.Test.YtlcnfpeabnnjoaaGreatDoorCodCm
import Derived.Test.YtlcnfpeabnnjoaaGreatDoorRulCs
namespace Go.Proofs.YtlcnfpeabnnjoaaGreatDoor
open Go.RowKit Go.Proofs

def OpsP (l : List Opr) (w : World) (e : Ending) (w' : World) : Prop := ∃ a c, e = .returned (.slice a l.length c) ∧ OpsM (newB w.heap.size) w' (.slice a l.length c) l ∧ Below w.heap.size w w'
set_option maxHeartbeats 1000000 in
set_option maxRecDepth 100000 in
theorem opsOf_any (n : Nat) (l : List Cmd) (a : Option Addr) (k : Nat) (w : World) (hM : CmdsM anyB n w (.slice a l.length k) l) (hF : ∀ c ∈ l, WfC n c) (hlen : (cmdsT n l).length ≤ 1000) :
    Calls Tryz.prog 41 #[.slice a l.length k] w (OpsP (compM n l) w) := by
  obtain ⟨W1, hW1⟩ : ∃ W1, W1 = w.alloc (.cells #[.slice none 0 0] 141) := ⟨_, rfl⟩
  have HWE := hid hW1
  have hal : Below w.heap.size w W1 := by rw [hW1]; exact (Below.refl _ _).alloc (Nat.le_refl _) _
  have HB1 := hid hal
  have HC1 := hid (show WrC (fun _ => False) W1 w.heap.size [] from ⟨none, 0, by rw [hW1]; exact heap_alloc_new w _, OwnRow.nil _ _ _ _ _⟩)
  have HCM := hid (cmds_writ n l a k w (fun _ => False) w.heap.size [] W1 (fun p hp => hp.elim) (Nat.le_refl _) hal hM hF (by simpa using hlen) HC1.out)
  have HLC := hid (show (compM n l).length ≤ 1000 from Nat.le_trans (comp_tok n l) hlen)
  clear hW1 hal hM hF hlen
  go_enter Tryz.func41, Tryz.ntmps41
  go_wp2_with fail
  rw [← HWE.out]
  refine HCM.out.mono ?_
  rintro e w2 ⟨⟨v, rfl⟩, hW2, hb2, hf2⟩
  simp only
  rw [List.nil_append] at hW2
  obtain ⟨ra, rk, h1, h2⟩ := hW2
  have HEND := hid (show OpsP (compM n l) w (.returned (.slice ra (compM n l).length rk)) w2 from ⟨ra, rk, rfl, RowM.imp (OwnRow.rowM (firm_opX _) h2 (by have := HLC.out; unfold maxLen; show (compM n l).length ≤ _; omega)) (fun p (hp : w.heap.size + 1 ≤ p) => show w.heap.size ≤ p by omega) (Keeps.refl _ _) (fun _ _ h => firm_op _ _ _ _ _ _ (fun p hp => show w.heap.size ≤ p by have h1 : w.heap.size + 1 ≤ p := hp.1; omega) (Keeps.refl _ _) h), HB1.out.trans hb2⟩)
  have q0 := (box1 h1).1
  clear h1 h2 hb2 hf2
  go_wp2
  go_ret
  exact HEND.out
def CompP (l : List Opr) (w : World) (e : Ending) (w' : World) : Prop := ∃ a c, e = .returned (.tuple #[.slice a l.length c, .int .i64 0]) ∧ OpsM (newB w.heap.size) w' (.slice a l.length c) l ∧ Below w.heap.size w w'
set_option maxHeartbeats 1000000 in
set_option maxRecDepth 100000 in
theorem Compile_ok (n : Nat) (l : List Cmd) (a : Option Addr) (k : Nat) (w : World) (hw : Tabs w) (hk : l.length ≤ k) (hn : l = [] → a = none ∧ k = 0) (hs : ∀ x ∈ l, ShortC (n + 1) x) (hC : CmdsM anyB (n + 1) w (.slice a l.length k) l) (hr : ruleM (n + 1) l = 0) (hF : ∀ c ∈ l, WfC (n + 1) c) (hlen : (cmdsT (n + 1) l).length ≤ 400) :
    Calls Tryz.prog 23 #[.slice a l.length k] w (CompP (compM (n + 1) l) w) := by
  have HCH := hid (show Calls Tryz.prog 32 #[.slice a l.length k] w fun e w' => e = .returned (.int .i64 0) ∧ Below w.heap.size w w' by
    have := rcheck_any n l a k w hw hk hn hs hC
    rw [hr] at this
    exact this)
  have HC := hid hC
  have HF := hid hF
  have HL := hid hlen
  have HLC := hid (show (compM (n + 1) l).length ≤ 400 from Nat.le_trans (comp_tok (n + 1) l) hlen)
  clear hw hk hn hs hC hr hF hlen
  go_enter Tryz.func23, Tryz.ntmps23
  go_wp2_with fail
  refine HCH.out.mono ?_
  rintro e w1 ⟨rfl, hb1⟩
  have HOP := hid (opsOf_any (n + 1) l a k w1 (CmdsM.next HC.out hb1) HF.out (by have := HL.out; omega))
  have HB1 := hid hb1
  clear hb1
  go_wp2_with fail
  refine HOP.out.mono ?_
  rintro e w2 ⟨ra, rk, he, hM, hb2⟩
  rw [he]
  simp only
  have i1 : ¬ (400 : Int) < ((compM (n + 1) l).length : Int) := by have := HLC.out; omega
  have HEND := hid (show CompP (compM (n + 1) l) w (.returned (.tuple #[.slice ra (compM (n + 1) l).length rk, .int .i64 0])) w2 from ⟨ra, rk, rfl, RowM.imp hM (fun p (hp : w1.heap.size ≤ p) => Nat.le_trans HB1.out.size hp) (Keeps.refl _ _) (fun _ _ h => firm_op _ _ _ _ _ _ (fun p (hp : w1.heap.size ≤ p) => Nat.le_trans HB1.out.size hp) (Keeps.refl _ _) h), HB1.out.trans (hb2.mono HB1.out.size)⟩)
  clear he hM hb2
  go_wp2
  go_ret2
  exact HEND.out
/-- What the laws make can be written. -/
theorem wf_nice : ∀ (n : Nat) (c : Cmd), FitC n c → WfC n c := by
  intro n
  induction n with
  | zero => intro c _; trivial
  | succ n ih =>
    intro c h
    obtain ⟨h1, h2, h3, h4⟩ := h
    unfold fitHC at h1
    simp only [Bool.and_eq_true, decide_eq_true_eq] at h1
    exact ⟨by omega, fun k => ⟨h2 k, fun x hx => ih x (h3 x hx), fun x hx => ih x (h4 x hx)⟩⟩
theorem wf_scr {r : List Cmd} (h : ∀ x ∈ r, NC x) (n : Nat) : ∀ x ∈ reqC :: r, WfC n x := fun x hx => by
  rcases List.mem_cons.1 hx with rfl | hx
  · cases n with
    | zero => trivial
    | succ n => exact ⟨by decide, fun h => by cases h⟩
  · exact wf_nice n x (h x hx n).2
theorem Compile_scr (M : Nat) (r : List Cmd) (a : Option Addr) (k : Nat) (w : World) (hw : Tabs w) (hN : ∀ x ∈ r, NC x) (hc : checkM (M + 1) (reqC :: r) = 0) (hk : r.length + 1 ≤ k) (hC : CmdsM anyB (M + 1) w (.slice a (reqC :: r).length k) (reqC :: r)) :
    Calls Tryz.prog 23 #[.slice a (r.length + 1) k] w (CompP (compM (M + 1) (reqC :: r)) w) :=
  Compile_ok M (reqC :: r) a k w hw (by simpa using hk) (fun h => by cases h) (fun x hx => by
    rcases List.mem_cons.1 hx with rfl | hx
    · exact ⟨(fun h => by cases h), (fun x hx => by cases hx), fun x hx => by cases hx⟩
    · exact short_of (fun n => (hN x hx n).1) _) hC (rule_allowed hc fun x hx => (hN x hx _).1) (wf_scr hN _) (checkM_ok hc).2
end Go.Proofs.YtlcnfpeabnnjoaaGreatDoor
