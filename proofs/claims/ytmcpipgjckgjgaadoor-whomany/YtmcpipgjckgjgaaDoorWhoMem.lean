/-
  The reader of a list in memory: one block that holds what is still to be read; all else is left alone.
-/
import Derived.Test.YtmcpipgjckgjgaaDoorWhoChk
import Derived.Test.YtmcpipgjckgjgaaDoorBut
import Derived.WalkLawsBesides
namespace Go.Proofs.YtmcpipgjckgjgaaDoor
open Go.RowKit

/-- The reader's block holds this rest. -/
def RB (w : World) (b : Nat) (s : List UInt8) : Prop := w.heap[b]? = some (.cells #[.string (S s)] 48)
theorem RB.cell {w : World} {b : Nat} {s : List UInt8} (h : RB w b s) : w.cell? ⟨b, 0, none⟩ = some (.string (S s)) := by
  unfold RB at h; simp [World.cell?, h]
theorem RB.free {w : World} {b : Nat} {s : List UInt8} (h : RB w b s) : w.frozen? ⟨b, 0, none⟩ = false := by
  unfold RB at h; simp [World.frozen?, h]
theorem RB.lt {w : World} {b : Nat} {s : List UInt8} (h : RB w b s) : b < w.heap.size := World.block_lt_of_cell? w _ h.cell
theorem RB.below {w w' : World} {b : Nat} {s : List UInt8} (h : RB w b s) (hb : Below w.heap.size w w') : RB w' b s := (hb.block b h.lt).trans h
theorem RB.set {w : World} {b : Nat} {s : List UInt8} (h : RB w b s) (t : List UInt8) : RB (w.setCell ⟨b, 0, none⟩ (.string (S t))) b t := setCell_mark _ h

def formPanic : List PanicEntry := [{ v := .iface 23 (.int .i64 3), recovered := false }]
/-- What a method of the reader does: it hands something back and leaves a rest, or it panics. -/
def Rd (b : Nat) (w : World) (o : Option (Value × List UInt8)) (e : Ending) (w' : World) : Prop :=
  match o with
  | some (v, r) => e = .returned v ∧ RB w' b r ∧ But b w w'
  | none => e = .panicked formPanic ∧ But b w w'
def ptr (b : Nat) : Value := .pointer (some ⟨b, 0, none⟩)
def nextP (s : List UInt8) : Option (Value × List UInt8) := match s with | [] => none | c :: t => some (.int .u8 c.toNat, t)

set_option maxHeartbeats 2000000 in
theorem next_any (b : Nat) (s : List UInt8) (w : World) (hR : RB w b s) :
    Calls Tryd.prog 29 #[.pointer (some ⟨b, 0, none⟩)] w (Rd b w (nextP s)) := by
  have hc := hR.cell
  have hf := hR.free
  have HR : Hid (RB w b s) := hR
  clear hR
  cases s with
  | nil =>
    have he := S_none
    go_enter Tryd.func29, Tryd.ntmps29
    go_wp2
    exact ⟨rfl, rfl, But.refl _ _⟩
  | cons c t =>
    have he := S_some c t
    have hz := S_pos c t
    go_enter Tryd.func29, Tryd.ntmps29
    go_wp2
    go_ret
    refine ⟨rfl, ?_, But.set _ _⟩
    rw [S_drop]
    exact HR.out.set _

set_option maxHeartbeats 2000000 in
theorem take_any (b : Nat) (c : UInt8) (s : List UInt8) (w : World) (hR : RB w b s) :
    Calls Tryd.prog 20 #[.pointer (some ⟨b, 0, none⟩), .int .u8 c.toNat] w (Rd b w ((takeP c s).map fun r => (.tuple #[], r))) := by
  have HR : Hid (RB w b s) := hR
  clear hR
  cases s with
  | nil =>
    go_enter Tryd.func20, Tryd.ntmps20
    go_wp2_with fail
    refine (next_any b [] _ HR.out).mono ?_
    rintro e u ⟨rfl, hB⟩
    go_wp2
    exact ⟨rfl, rfl, hB⟩
  | cons x t =>
    by_cases hx : x = c
    · have HT : Hid (takeP c (x :: t) = some t) := by show (if x = c then some t else none) = some t; rw [if_pos hx]
      have hq : (x.toNat : Int) = (c.toNat : Int) := by rw [hx]
      clear hx
      go_enter Tryd.func20, Tryd.ntmps20
      go_wp2_with fail
      refine (next_any b (x :: t) _ HR.out).mono ?_
      rintro e u ⟨rfl, hR2, hB⟩
      go_wp2
      go_end0
      rw [HT.out]
      exact ⟨rfl, hR2, hB⟩
    · have HT : Hid (takeP c (x :: t) = none) := by show (if x = c then some t else none) = none; rw [if_neg hx]
      have hq : ¬ (x.toNat : Int) = (c.toNat : Int) := fun e => hx (UInt8.toNat_inj.1 (by omega))
      clear hx
      go_enter Tryd.func20, Tryd.ntmps20
      go_wp2_with fail
      refine (next_any b (x :: t) _ HR.out).mono ?_
      rintro e u ⟨rfl, hR2, hB⟩
      go_wp2
      rw [HT.out]
      exact ⟨rfl, rfl, hB⟩

set_option maxHeartbeats 2000000 in
theorem blanks_any (b : Nat) (s : List UInt8) (w : World) (hR : RB w b s) :
    Calls Tryd.prog 25 #[.pointer (some ⟨b, 0, none⟩)] w (Rd b w (some (.tuple #[], wblanks s))) := by
  have hc := hR.cell
  have HR : Hid (RB w b s) := hR
  have HT : Hid ((⟨(Lib.trimLeftS (S s).data.toList [32, 9]).toArray⟩ : ByteArray) = S (wblanks s)) := by
    unfold Hid Lib.trimLeftS wblanks
    rw [list_S]
    show S _ = S _
    congr 1
    congr 1
    funext c
    simp [blankB, Bool.beq_eq_decide_eq]
  clear hR
  go_enter Tryd.func25, Tryd.ntmps25
  go_wp2_with fail
  refine (trimLeft_any (S s) _).mono ?_
  rintro e u ⟨rfl, hb⟩
  rw [HT.out]
  have hc2 := (HR.out.below hb).cell
  have hf2 := (HR.out.below hb).free
  go_wp2
  go_end0
  exact ⟨rfl, (HR.out.below hb).set _, (But.of hb).trans (But.set _ _)⟩
end Go.Proofs.YtmcpipgjckgjgaaDoor
