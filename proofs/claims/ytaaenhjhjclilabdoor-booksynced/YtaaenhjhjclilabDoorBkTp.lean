/-
  Tapes: which may be, copies of bytes, Sync and Crash: the walks.
-/
import Derived.Test.YtaaenhjhjclilabDoorBkBy
namespace Go.Proofs.YtaaenhjhjclilabDoor
open Go.RowKit Go.Proofs

/- P10.1. -/
def mayN (n : Nat) (s : Int) : Bool := decide (n ≤ 100000) && (decide (0 ≤ s) && decide (s ≤ n))
def TpC (w : World) (l : List UInt8) (e : Ending) (w' : World) : Prop := ∃ a c, e = .returned (.slice a l.length c) ∧ w'.ownsRow w.heap.size 5 1 (.slice a l.length c) l.length (byC l) ∧ Below w.heap.size w w'
/-- A tape of the call's own, and an error. -/
def TpP (w : World) (l : List UInt8) (s er : Int) (e : Ending) (w' : World) : Prop := ∃ a c, e = .returned (.tuple #[.agg #[.slice a l.length c, .int .i64 s], .int .i64 er]) ∧ w'.ownsRow w.heap.size 5 1 (.slice a l.length c) l.length (byC l) ∧ Below w.heap.size w w'
set_option maxHeartbeats 1000000 in
theorem tmay_any (a : Option Addr) (n c : Nat) (s : Int) (w : World) :
    Calls Tryd.prog 23 #[.agg #[.slice a n c, .int .i64 s]] w fun e w' => e = .returned (.bool (mayN n s)) ∧ Below w.heap.size w w' := by
  have HB := bhid ((Below.refl w.heap.size w).alloc (Nat.le_refl _) (.cells #[.slice a n c, .int .i64 s] 40))
  obtain ⟨r, hr⟩ : ∃ r, r = mayN n s := ⟨_, rfl⟩
  have HR := bhid hr
  rw [← hr]
  clear hr
  go_enter Tryd.func23, Tryd.ntmps23
  go_wp2
  all_goals
    go_ret
    refine ⟨?_, HB.out⟩
    rw [HR.out]
    unfold mayN
    simp [*]
    try omega
set_option maxHeartbeats 1000000 in
set_option maxRecDepth 100000 in
theorem clone_by (a : Option Addr) (c : Nat) (l : List UInt8) (Q : Nat → Prop) (w : World) (h : BysM Q w (.slice a l.length c) l) (hl : l.length ≤ 140737488355328) :
    Calls Tryd.prog 24 #[.slice a l.length c] w (TpC w l) := by
  have q22 : ∀ (w : World) (a : Option Addr) (n c n' c' : Nat), (binOp .eql 38 (.slice a n c) (.slice none n' c')).run Tryd.prog w = .ok (.bool a.isNone) w := fun w a n c n' c' => Lib.run_eql_slice_nil w _ _ a n c n' c' Tryd.underlying38
  have hm : l.length ≤ maxLen := h.slice.elim fun _ h => h.elim fun _ h => h.2.2
  have HH := bhid h
  cases a with
  | none =>
    have h0 : l = [] := by
      cases l with
      | nil => rfl
      | cons x l => obtain ⟨b, o, e, _⟩ := h.at (j := 0) (x := x) rfl; cases e
    subst h0
    have HE := bhid (show TpC w [] (.returned (.slice none 0 0)) w from ⟨none, 0, rfl, World.ownsRow_nil _ _ _ _, Below.refl _ _⟩)
    clear h hl hm HH
    go_enter Tryd.func24, Tryd.ntmps24
    go_wp2
    go_ret
    exact HE.out
  | some ad =>
    clear h
    go_enter Tryd.func24, Tryd.ntmps24
    go_wp2_with (at_builtin; refine wpList_app_by rfl _ _ rfl rfl (World.ownsRow_made w #[] 0 (Nat.le_refl _) (Nat.zero_le _) rfl) rfl (HH.out.next ((Below.refl _ _).alloc (Nat.le_refl _) _)) ?qc1 ?qc2 ?qc3 ?_)
    case qc1 => omega
    case qc2 => omega
    case qc3 => simp
    intro a' c' w1 hown hgrow hat
    have HO := bhid hown
    have HB := bhid (show Below w.heap.size w w1 from ((Below.refl _ w).alloc (Nat.le_refl _) _).grown hgrow (by simp) (by intro k hk; simp [Value.ownBlock] at hk; omega))
    clear hown hgrow hat
    have HE := bhid (show TpC w l (.returned (.slice a' (0 + l.length) c')) w1 by
      have h1 := HO.out
      simp only [Nat.zero_add] at h1 ⊢
      exact ⟨a', c', rfl, h1, HB.out⟩)
    go_wp2
    go_ret
    simpa using HE.out
end Go.Proofs.YtaaenhjhjclilabDoor
