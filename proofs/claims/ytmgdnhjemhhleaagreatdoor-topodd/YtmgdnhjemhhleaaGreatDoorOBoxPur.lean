/-
  Plain facts on boxes of mails: which states may be, which entries have their form, what an entry does. No program is named here.
-/
import Derived.Test.YtmgdnhjemhhleaaGreatDoorOQScrRd135
namespace Go.Proofs.YtmgdnhjemhhleaaGreatDoor
open Go.RowKit
structure Mail where
 uid : Int
 flags : Int
 text : List UInt8
structure Bx where
 name : List UInt8
 next : Int
 mails : List Mail
structure Ent where
 kind : Int
 box : List UInt8
 uid : Int
 flags : Int
 goal : List UInt8
 text : List UInt8
structure Stt where
 boxes : List Bx
 spool : List Ent
def jnu : List Mail → Nat
 | [] => 0
 | m :: r => m.text.length + jnu r
def jmJ : List Bx → Nat
 | [] => 0
 | b :: r => jnu b.mails + jmJ r
def jnA (s : List UInt8) : Int := if 100 < s.length then 3 else if (vi s).2 = 0 ∧ (vi s).1.length = 1 then 0 else 3
def jny (x : Ent) : Prop :=
 ((x.kind = 1 ∨ x.kind = 4) → x.uid = 0 ∧ x.flags = 0 ∧ x.goal = [] ∧ x.text = []) ∧
 (x.kind = 2 → x.uid = 0 ∧ x.goal = []) ∧
 (x.kind = 3 → x.goal = [] ∧ x.text = []) ∧
 (x.kind = 5 → x.flags = 0 ∧ x.text = []) ∧
 (x.kind = 6 → x.box = [] ∧ x.uid = 0 ∧ x.flags = 0)
structure Formed (x : Ent) : Prop where
 kind : 1 ≤ x.kind ∧ x.kind ≤ 6
 bare : jny x
 flags : 0 ≤ x.flags ∧ x.flags ≤ 31
 uid : 0 ≤ x.uid ∧ x.uid ≤ 1048576
 text : x.text.length ≤ 2000
 goal : x.kind = 6 → jnA x.goal = 0
 name : x.kind ≠ 6 → jak x.box = 0
 to : x.kind = 5 → jak x.goal = 0
def jnr : Int → Int → List Mail → Prop
 | _, _, [] => True
 | last, next, m :: r => last < m.uid ∧ m.uid < next ∧ 0 ≤ m.flags ∧ m.flags ≤ 31 ∧ m.text.length ≤ 2000 ∧ jnr m.uid next r
structure BoxMay (b : Bx) : Prop where
 name : jak b.name = 0
 next : 1 ≤ b.next ∧ b.next ≤ 1048577
 many : b.mails.length ≤ 30
 mails : jnr 0 b.next b.mails
structure May (s : Stt) : Prop where
 boxes : s.boxes.length ≤ 5
 spool : s.spool.length ≤ 20
 each : ∀ b ∈ s.boxes, BoxMay b
 names : (s.boxes.map Bx.name).Nodup
 size : jmJ s.boxes ≤ 6000
 out : ∀ x ∈ s.spool, x.kind = 6 ∧ Formed x
def isName (s : List UInt8) (b : Bx) : Bool := decide (b.name = s)
theorem jeo {A B : Type} (f : A → B) : ∀ (l : List A) (i : Nat) (x y : A), l[i]? = some x → f y = f x → (l.set i y).map f = l.map f := by
 intro l
 induction l with
 | nil => intro i x y h; simp at h
 | cons c l ih =>
   intro i x y h e; cases i with
   | zero => simp only [List.getElem?_cons_zero, Option.some.injEq] at h; subst h; simp [e]
   | succ i => simp only [List.getElem?_cons_succ] at h; simp [ih i x y h e]
theorem jhg {A : Type} {l : List A} {i : Nat} {x y : A} (h : y ∈ l.set i x) : y = x ∨ y ∈ l := by
 rcases List.mem_or_eq_of_mem_set h with h | h
 · exact .inr h
 · exact .inl h
theorem May.changed {s : Stt} {i : Nat} {b b' : Bx} (h : May s) (hb : s.boxes[i]? = some b) (hn : b'.name = b.name) (hm : BoxMay b') (hz : jmJ (s.boxes.set i b') ≤ 6000) : May ⟨s.boxes.set i b', s.spool⟩ := by
 refine ⟨by simpa using h.boxes, h.spool, ?_, ?_, hz, h.out⟩
 · intro c hc
   rcases jhg hc with rfl | hc
   · exact hm
   · exact h.each c hc
 · show ((s.boxes.set i b').map Bx.name).Nodup
   rw [jeo Bx.name _ _ _ _ hb hn]; exact h.names
end Go.Proofs.YtmgdnhjemhhleaaGreatDoor
