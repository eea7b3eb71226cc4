/-
  Courses: plain meanings, and how they lie in memory; what the small functions of package judge on them do: the walks.
  Rows and boxes in memory: what no function is named in.
  Plain facts on addresses: what may be in an atom, what is dotted, how a list of addresses is read. No program is named here.
  Plain facts on lists of addresses that the keeping laws lean on. No program is named here.
  Plain facts on addresses: what is read of a list may be. No program is named here.
  Plain facts on scripts that are allowed: flags, names of boxes, what is required. No program is named here.
  Plain facts on the tests and commands that the laws make: they may be, and are short.
  What rule.Name does: the walk.
-/
import Derived.Test.YtaapmpchcfcniaaGreatDoorYQCodPur6
import Derived.Test.YtaapmpchcfcniaaGreatDoorYScrCk
import Derived.Deep.AppendLies
import Derived.Deep.RegionLaw
import Derived.Test.YtaapmpchcfcniaaGreatDoorYQPure2
import Derived.ProofKit
import Derived.OpenShut
import Derived.WalkKit
import Derived.Test.YtaapmpchcfcniaaGreatDoorRows
namespace Go.Proofs.YtaapmpchcfcniaaGreatDoor
open Go.RowKit Go.Proofs
structure Atn where
  kind : Int
  text : List UInt8
  flags : Int
structure Crs where
  acts : List Atn
  flags : Int
  asked : Bool
  fault : Int
def jdC (k : Int) : Bool := (k == 3) || (k == 5) || (k == 6)
def vg (a b : Int) : Bool := ((a == 7) && ((b == 7) || jdC b)) || ((b == 7) && jdC a)
def jbV (a b : Atn) : Bool := decide (a.kind = b.kind) && decide (a.text = b.text)
def askP (c : Crs) (a : Atn) : Crs × Bool :=
  if c.acts.any (fun b => vg a.kind b.kind) then (⟨c.acts, c.flags, true, 9⟩, true)
  else if c.acts.any (fun b => jbV a b) then (⟨c.acts, c.flags, true, c.fault⟩, false)
  else if 6 ≤ c.acts.length then (⟨c.acts, c.flags, true, 5⟩, true)
  else (⟨c.acts ++ [a], c.flags, true, c.fault⟩, false)
def AtnM (a : Atn) (cs : List Value) : Prop := cs = [.int .i64 a.kind, .string (S a.text), .int .i64 a.flags]
abbrev AtnsM (Q : Nat → Prop) (w : World) (v : Value) (l : List Atn) : Prop := RowM Q 3 AtnM w v l
abbrev OwnAs (B : Nat) : World → Value → List Atn → Prop := OwnRow B 3 128 (fun _ _ a cs => AtnM a cs)
theorem jbe : Firm (fun (_ : Nat → Prop) (_ : World) (a : Atn) cs => AtnM a cs) := fun _ _ _ _ _ _ _ _ h => h
theorem AtnsM.next {Q : Nat → Prop} {w w' : World} {v : Value} {l : List Atn} (h : AtnsM Q w v l) (hb : Below w.heap.size w w') : AtnsM Q w' v l := RowM.imp h (fun _ h => h) (Keeps.of_below hb) fun _ _ h => h
theorem jkv {Q : Nat → Prop} {w : World} {a : Option Addr} {c : Nat} {l : List Atn} (h : AtnsM Q w (.slice a l.length c) l) {i : Nat} {x : Atn} (hx : l[i]? = some x) : ∃ b o, a = some ⟨b, o, none⟩ ∧ w.cell? ⟨b, o + i * 3, none⟩ = some (.int .i64 x.kind) ∧ w.cell? ⟨b, o + i * 3 + 1, none⟩ = some (.string (S x.text)) ∧ w.cell? ⟨b, o + i * 3 + 2, none⟩ = some (.int .i64 x.flags) := by
  obtain ⟨a', c', hv, _, hr⟩ := h; simp only [Value.slice.injEq, true_and] at hv; obtain ⟨rfl, rfl⟩ := hv; obtain ⟨b, o, cs, rfl, _, _, _, hc, hP⟩ := hr i x hx; have hcs : cs = _ := hP; subst hcs; exact ⟨b, o, rfl, hc 0 _ rfl, hc 1 _ rfl, hc 2 _ rfl⟩
def CrsB (w : World) (B b : Nat) (c : Crs) (over : Bool) : Prop :=
  ∃ a k, w.heap[b]? = some (.cells #[.slice a c.acts.length k, .int .i64 c.flags, .bool c.asked, .int .i64 c.fault, .bool over] 86) ∧ OwnAs B w (.slice a c.acts.length k) c.acts ∧ some b ≠ (Value.slice a c.acts.length k).ownBlock ∧ B ≤ b
theorem CrsB.next {w w' : World} {B b : Nat} {c : Crs} {o : Bool} (h : CrsB w B b c o) (hb : Below w.heap.size w w') : CrsB w' B b c o := by
  obtain ⟨a, k, h1, ⟨css, h2, h3, h4, h5⟩, h6, h7⟩ := h; have hlt : b < w.heap.size := (Array.getElem?_eq_some_iff.1 h1).1; refine ⟨a, k, (hb.block b hlt).trans h1, ⟨css, ?_, h3, h4, h5⟩, h6, h7⟩; exact h2.kept (row := none) ⟨hb.os, hb.tape, hb.output, hb.size, fun k hk _ => hb.block k hk⟩ (by cases hv : (Value.slice a c.acts.length k).ownBlock <;> simp)
theorem box5 {w : World} {p : Nat} {v0 v1 v2 v3 v4 : Value} {t : TypeId} (h : w.heap[p]? = some (.cells #[v0, v1, v2, v3, v4] t)) :
    (w.cell? ⟨p, 0, none⟩ = some v0 ∧ w.cell? ⟨p, 1, none⟩ = some v1 ∧ w.cell? ⟨p, 2, none⟩ = some v2 ∧ w.cell? ⟨p, 3, none⟩ = some v3 ∧ w.cell? ⟨p, 4, none⟩ = some v4) ∧ w.frozen? ⟨p, 0, none⟩ = false ∧ w.frozen? ⟨p, 1, none⟩ = false ∧ w.frozen? ⟨p, 2, none⟩ = false ∧ w.frozen? ⟨p, 3, none⟩ = false ∧ w.frozen? ⟨p, 4, none⟩ = false := by
  refine ⟨⟨?_, ?_, ?_, ?_, ?_⟩, ?_, ?_, ?_, ?_, ?_⟩ <;> simp [World.cell?, World.frozen?, h]
theorem box3 {w : World} {p : Nat} {v0 v1 v2 : Value} {t : TypeId} (h : w.heap[p]? = some (.cells #[v0, v1, v2] t)) :
    w.cell? ⟨p, 0, none⟩ = some v0 ∧ w.cell? ⟨p, 1, none⟩ = some v1 ∧ w.cell? ⟨p, 2, none⟩ = some v2 := by
  refine ⟨?_, ?_, ?_⟩ <;> simp [World.cell?, h]
def rowB (w : World) (b : Nat) : Option Nat := (w.cell? ⟨b, 0, none⟩).bind Value.ownBlock
structure Frm (b : Nat) (w w' : World) : Prop where
  size : w.heap.size ≤ w'.heap.size
  keep : ∀ p, p < w.heap.size → p ≠ b → some p ≠ rowB w b → w'.heap[p]? = w.heap[p]?
  row : rowB w' b = rowB w b ∨ ∃ g, rowB w' b = some g ∧ w.heap.size ≤ g
theorem Frm.below {b : Nat} {w w' : World} (hb : b < w.heap.size) (h : Below w.heap.size w w') : Frm b w w' :=
  ⟨h.size, fun p hp _ _ => h.block p hp, .inl (by unfold rowB; rw [h.cell (p := ⟨b, 0, none⟩) hb])⟩
theorem Frm.trans {b : Nat} {x y z : World} (h : Frm b x y) (k : Frm b y z) : Frm b x z := by
  refine ⟨Nat.le_trans h.size k.size, fun p hp hne hr => ?_, ?_⟩
  · refine (k.keep p (Nat.lt_of_lt_of_le hp h.size) hne ?_).trans (h.keep p hp hne hr)
    rcases h.row with e | ⟨g, e, hg⟩
    · rw [e]; exact hr
    · rw [e]; intro e2; have := Option.some.inj e2; omega
  · rcases k.row with e | ⟨g, e, hg⟩
    · rw [e]; exact h.row
    · exact .inr ⟨g, e, Nat.le_trans h.size hg⟩
theorem Frm.set {b j : Nat} (w : World) (hj : j ≠ 0) (v : Value) : Frm b w (w.setCell ⟨b, j, none⟩ v) :=
  ⟨by simp [World.setCell], fun p _ hn _ => Below.heap_setCell _ _ _ _ hn, .inl (by unfold rowB; rw [World.cell?_setCell_other w _ _ _ (fun e => hj (congrArg Addr.off e))])⟩
theorem jbi {w : World} {b : Nat} {v0 v1 v2 v3 v4 : Value} {t : TypeId} (h : w.heap[b]? = some (.cells #[v0, v1, v2, v3, v4] t)) : rowB w b = v0.ownBlock := by
  unfold rowB; rw [(box5 h).1.1]; rfl
theorem Frm.but {b : Nat} {w w' : World} {v0 v1 v2 v3 v4 u1 u2 u3 u4 : Value} {t t' : TypeId} (hb : But b w w') (h : w.heap[b]? = some (.cells #[v0, v1, v2, v3, v4] t)) (h' : w'.heap[b]? = some (.cells #[v0, u1, u2, u3, u4] t')) : Frm b w w' :=
  ⟨hb.size, fun p hp hn _ => hb.block p hp hn, .inl (by rw [jbi h, jbi h'])⟩
theorem Frm.app {b g H m cap n k : Nat} {a : Option Addr} {w w3 Wx w5 : World} {v1 v2 v3 v4 u0 u1 u2 u3 u4 : Value} {t t' : TypeId} (hb : But b w w3) (h0 : w.heap[b]? = some (.cells #[.slice a n k, v1, v2, v3, v4] t))
    (hal : ∀ p, p < w3.heap.size → Wx.heap[p]? = w3.heap[p]?) (hsz : w3.heap.size ≤ Wx.heap.size) (hg : Wx.grownBy w5 (Value.slice a n k).ownBlock) (hat : (Value.slice a n k).ownBlock = some g ∨ g = H) (hH : w.heap.size ≤ H) (h5 : w5.heap[b]? = some (.cells #[u0, u1, u2, u3, u4] t')) :
    Frm b w (w5.setCell ⟨b, 0, none⟩ (.slice (some ⟨g, 0, none⟩) m cap)) := by
  have hr : rowB (w5.setCell ⟨b, 0, none⟩ (.slice (some ⟨g, 0, none⟩) m cap)) b = some g := by
    unfold rowB; rw [World.cell?_setCell_same' w5 _ _ (by rw [(box5 h5).1.1]; rfl)]; rfl
  refine ⟨by have h1 := hb.size; have h2 := hg.size; simp [World.setCell]; omega, fun p hp hn hq => ?_, ?_⟩
  · rw [jbi h0] at hq; have hp3 : p < w3.heap.size := Nat.lt_of_lt_of_le hp hb.size; rw [Below.heap_setCell _ _ _ _ hn, hg.block p (Nat.lt_of_lt_of_le hp3 hsz) hq, hal p hp3]; exact hb.block p hp hn
  · rw [hr, jbi h0]
    rcases hat with e | e
    · exact .inl e.symm
    · exact .inr ⟨g, rfl, by omega⟩
set_option maxHeartbeats 1000000 in
theorem jcw (k : Int) (w : World) : Calls Tryz.prog 159 #[.int .i64 k] w fun e w' => e = .returned (.bool (jdC k)) ∧ w' = w := by
  go_enter Tryz.func159, Tryz.ntmps159; go_wp2
  all_goals
    go_ret; refine ⟨jg ?_, rfl⟩; unfold jdC
    simp_all
set_option maxHeartbeats 1000000 in
theorem jgY (a b : Int) (w : World) : Calls Tryz.prog 128 #[.int .i64 a, .int .i64 b] w fun e w' => e = .returned (.bool (vg a b)) ∧ w' = w := by
  by_cases ha : a = 7
  · by_cases hb : b = 7
    · subst ha; subst hb; go_enter Tryz.func128, Tryz.ntmps128; go_wp2; go_ret; exact ⟨rfl, rfl⟩
    · have hb' : (b == 7) = false := by simpa using hb
      have HE := hid (show vg a b = jdC b by unfold vg; rw [hb', ha]; simp); subst ha; clear hb; go_enter Tryz.func128, Tryz.ntmps128; go_wp2_with fail; refine (jcw b w).mono ?_; rintro e u ⟨rfl, hu⟩; have hu' := hu.symm; subst hu'; obtain ⟨q, hq⟩ : ∃ q, q = jdC b := ⟨_, rfl⟩; rw [← hq]; rw [← hq] at HE; clear hq; cases q
      all_goals
        go_wp2; go_ret; exact ⟨jg HE.out.symm, rfl⟩
  · have ha' : (a == 7) = false := by simpa using ha
    by_cases hb : b = 7
    · have HE := hid (show vg a b = jdC a by unfold vg; rw [ha', hb]; simp); subst hb; clear ha; go_enter Tryz.func128, Tryz.ntmps128; go_wp2_with fail; refine (jcw a w).mono ?_; rintro e u ⟨rfl, hu⟩; have hu' := hu.symm; subst hu'; obtain ⟨q, hq⟩ : ∃ q, q = jdC a := ⟨_, rfl⟩; rw [← hq]; rw [← hq] at HE; clear hq; cases q
      all_goals
        go_wp2; go_ret; exact ⟨jg HE.out.symm, rfl⟩
    · have hb' : (b == 7) = false := by simpa using hb
      have HE := hid (show vg a b = false by unfold vg; rw [hb', ha']; simp); clear ha hb; go_enter Tryz.func128, Tryz.ntmps128; go_wp2; go_ret; exact ⟨jg HE.out.symm, rfl⟩
theorem jkY : ∀ args w, (callFunc 127 args).run Tryz.prog w = .ok (.enter 127 args) w := by intro args w; kernel_rfl
theorem jkZ : ∀ args w, (callFunc 130 args).run Tryz.prog w = .ok (.enter 130 args) w := by intro args w; kernel_rfl
set_option maxHeartbeats 1000000 in
set_option maxRecDepth 100000 in
theorem ji0 (x y : Atn) (p : Nat) (w : World) (hp : w.heap[p]? = some (.cells #[.int .i64 x.kind, .string (S x.text), .int .i64 x.flags] 128)) :
    Calls Tryz.prog 127 #[.agg #[.int .i64 y.kind, .string (S y.text), .int .i64 y.flags], .pointer (some ⟨p, 0, none⟩)] w fun e w' => e = .returned (.bool (vg x.kind y.kind)) ∧ Below w.heap.size w w' := by
  obtain ⟨q0, q1, q2⟩ := box3 hp; have hlt : p < w.heap.size := (Array.getElem?_eq_some_iff.1 hp).1; obtain ⟨W0, hW0⟩ : ∃ W0, W0 = w.alloc (.cells #[.int .i64 y.kind, .string (S y.text), .int .i64 y.flags] 128) := ⟨_, rfl⟩; have HB0 := hid (show Below w.heap.size w W0 by rw [hW0]; exact (Below.refl _ _).alloc (Nat.le_refl _) _); have HWE := hid hW0; have q0' : (w.alloc (.cells #[.int .i64 y.kind, .string (S y.text), .int .i64 y.flags] 128)).cell? ⟨p, 0, none⟩ = some (.int .i64 x.kind) := by rw [← hW0]; exact jb q0 HB0.out
  clear hp hW0 q0 q1 q2; go_enter Tryz.func127, Tryz.ntmps127; go_wp2_with fail; rw [← HWE.out]; refine (jgY x.kind y.kind W0).mono ?_; rintro e u ⟨rfl, hu⟩; have hu' := hu.symm; subst hu'; go_wp2; go_ret; exact ⟨rfl, HB0.out⟩
set_option maxHeartbeats 1000000 in
set_option maxRecDepth 100000 in
theorem ji1 (x y : Atn) (p : Nat) (w : World) (hp : w.heap[p]? = some (.cells #[.int .i64 x.kind, .string (S x.text), .int .i64 x.flags] 128)) :
    Calls Tryz.prog 130 #[.agg #[.int .i64 y.kind, .string (S y.text), .int .i64 y.flags], .pointer (some ⟨p, 0, none⟩)] w fun e w' => e = .returned (.bool (jbV x y)) ∧ Below w.heap.size w w' := by
  obtain ⟨q0, q1, q2⟩ := box3 hp; have hlt : p < w.heap.size := (Array.getElem?_eq_some_iff.1 hp).1; have HB0 := hid (show Below w.heap.size w (w.alloc (.cells #[.int .i64 y.kind, .string (S y.text), .int .i64 y.flags] 128)) from (Below.refl _ _).alloc (Nat.le_refl _) _); have q0' : (w.alloc (.cells #[.int .i64 y.kind, .string (S y.text), .int .i64 y.flags] 128)).cell? ⟨p, 0, none⟩ = some (.int .i64 x.kind) := jb q0 HB0.out; have q1' : (w.alloc (.cells #[.int .i64 y.kind, .string (S y.text), .int .i64 y.flags] 128)).cell? ⟨p, 1, none⟩ = some (.string (S x.text)) := jb q1 HB0.out; clear hp q0 q1 q2
  by_cases hk : x.kind = y.kind
  · have hk' : (x.kind == y.kind) = true := by simpa using hk
    by_cases ht : x.text = y.text
    · have HE := hid (show jbV x y = true by unfold jbV; simp [hk, ht]); have ht' : ((S x.text).toList == (S y.text).toList) = true := by rw [ht]; simp
      clear hk ht; go_enter Tryz.func130, Tryz.ntmps130; go_wp2; go_ret; exact ⟨jg HE.out.symm, HB0.out⟩
    · have HE := hid (show jbV x y = false by unfold jbV; simp [ht]); have ht' : ((S x.text).toList == (S y.text).toList) = false := by rw [Lib.toList_data, Lib.toList_data, jp, jp]; simpa using ht
      clear hk ht; go_enter Tryz.func130, Tryz.ntmps130; go_wp2; go_ret; exact ⟨jg HE.out.symm, HB0.out⟩
  · have hk' : (x.kind == y.kind) = false := by simpa using hk
    have HE := hid (show jbV x y = false by unfold jbV; simp [hk]); clear hk; go_enter Tryz.func130, Tryz.ntmps130; go_wp2; go_ret; exact ⟨jg HE.out.symm, HB0.out⟩
theorem But.setAt {b : Nat} (w : World) (j : Nat) (v : Value) : But b w (w.setCell ⟨b, j, none⟩ v) :=
  ⟨rfl, rfl, rfl, by simp [World.setCell], fun k _ hn => Below.heap_setCell _ _ _ _ hn⟩
theorem set5 {w : World} {b : Nat} {cs : Array Value} {t : TypeId} (h : w.heap[b]? = some (.cells cs t)) (j : Nat) (v : Value) : (w.setCell ⟨b, j, none⟩ v).heap[b]? = some (.cells (cs.setIfInBounds j v) t) := heap_setCell_same w b j cs t v h
theorem jold (w : World) (o : Obj) {k : Nat} (h : k < w.heap.size) : (w.alloc o).heap[k]? = w.heap[k]? := by
  show (w.heap.push o)[k]? = _
  rw [Array.getElem?_push_lt h, Array.getElem?_eq_getElem h]
theorem jlow {w w' : World} {b : Nat} {x : Obj} (h : Below w.heap.size w w') (hb : w.heap[b]? = some x) : w'.heap[b]? = some x := (h.block b (Array.getElem?_eq_some_iff.1 hb).1).trans hb
set_option maxHeartbeats 1000000 in
set_option maxRecDepth 100000 in
theorem jeP (b : Nat) (er : Int) (w : World) (v0 v1 v2 v3 v4 : Value) (h : w.heap[b]? = some (.cells #[v0, v1, v2, v3, v4] 86)) :
    Calls Tryz.prog 129 #[.pointer (some ⟨b, 0, none⟩), .int .i64 er] w fun e w' => (∃ v, e = .returned v) ∧ w'.heap[b]? = some (.cells #[v0, v1, v2, .int .i64 er, .bool true] 86) ∧ But b w w' := by
  obtain ⟨⟨q0, q1, q2, q3, q4⟩, f0, f1, f2, f3, f4⟩ := box5 h; have HH := hid h; clear h; go_enter Tryz.func129, Tryz.ntmps129; go_wp2; go_end0; refine ⟨⟨_, rfl⟩, ?_, (But.setAt w 3 _).trans (But.setAt _ 4 _)⟩; exact set5 (set5 HH.out 3 _) 4 _
theorem jhv : (Tryz.prog.info? 128).map (fun i => (i.zero, i.size, i.bytes)) = some (some (.agg #[.int .i64 0, .string ByteArray.empty, .int .i64 0]), 3, 32) := by kernel_rfl
set_option maxHeartbeats 1000000 in
set_option maxRecDepth 100000 in
theorem jeW (b : Nat) (a : Option Addr) (k : Nat) (l : List Atn) (p : Atn → Bool) (f : Nat) (cap : Array Value) (eg : ∀ args w, (callFunc f args).run Tryz.prog w = .ok (.enter f args) w) (w : World) (c0 : w.cell? ⟨b, 0, none⟩ = some (.slice a l.length k)) (hR : AtnsM anyB w (.slice a l.length k) l)
    (hf : ∀ (y : Atn) (u : World), Below w.heap.size w u → Calls Tryz.prog f (#[.agg #[.int .i64 y.kind, .string (S y.text), .int .i64 y.flags]] ++ cap) u fun e u' => e = .returned (.bool (p y)) ∧ Below u.heap.size u u') :
    Calls Tryz.prog 126 #[.pointer (some ⟨b, 0, none⟩), .func (.func f) #[] cap] w fun e w' => e = .returned (.bool (l.any p)) ∧ Below w.heap.size w w' := by
  have HC := hid (conA l p (fun x => .int .i64 x.kind) (fun x => .string (S x.text)) (fun x => .int .i64 x.flags) a k f cap eg w hR.small (fun i x hx u hu => jkv (hR.next hu) hx) (fun i x _ u hu => hf x u hu)); clear hf hR; go_enter Tryz.func126, Tryz.ntmps126; go_wp2_with fail; refine HC.out.mono ?_; rintro e w1 ⟨rfl, hb⟩; simp only; have HB := hid hb; clear hb; go_wp2; go_ret; exact ⟨rfl, HB.out⟩
theorem OwnAs.but {B r : Nat} {w w' : World} {v : Value} {l : List Atn} (h : OwnAs B w v l) (hb : But r w w') (hr : some r ≠ v.ownBlock) : OwnAs B w' v l := by
  obtain ⟨css, h2, h3, h4, h5⟩ := h; exact ⟨css, h2.kept (row := some r) ⟨hb.os, hb.tape, hb.output, hb.size, fun k hk hn => hb.block k hk (fun e => hn (by rw [e]))⟩ (.inr fun e => hr e.symm), h3, h4, h5⟩
theorem OwnAs.below {B : Nat} {w w' : World} {v : Value} {l : List Atn} (h : OwnAs B w v l) (hb : Below w.heap.size w w') : OwnAs B w' v l := by
  obtain ⟨css, h2, h3, h4, h5⟩ := h; exact ⟨css, h2.kept (row := none) ⟨hb.os, hb.tape, hb.output, hb.size, fun k hk _ => hb.block k hk⟩ (by cases hv : v.ownBlock <;> simp), h3, h4, h5⟩
set_option maxHeartbeats 1000000 in
set_option maxRecDepth 100000 in
theorem jbp (B b : Nat) (c : Crs) (x : Atn) (w : World) (h : CrsB w B b c false) (hl : c.acts.length ≤ 6) :
    Calls Tryz.prog 86 #[.pointer (some ⟨b, 0, none⟩), .agg #[.int .i64 x.kind, .string (S x.text), .int .i64 x.flags]] w fun e w' => (∃ v, e = .returned v) ∧ CrsB w' B b (askP c x).1 (askP c x).2 ∧ Below B w w' ∧ Frm b w w' := by
  obtain ⟨a, k, h1, h2, hne0, hBb⟩ := h; have H0 := hid h1; have hlt : b < w.heap.size := (Array.getElem?_eq_some_iff.1 h1).1; obtain ⟨r, hr⟩ : ∃ r, r = askP c x := ⟨_, rfl⟩; rw [← hr]; unfold askP at hr; have HR := hid hr; clear hr; obtain ⟨W1, hW1⟩ : ∃ W1, W1 = (w.setCell ⟨b, 2, none⟩ (.bool true)).alloc (.cells #[.int .i64 x.kind, .string (S x.text), .int .i64 x.flags] 128) := ⟨_, rfl⟩; have HWE := hid hW1; have hz : (w.setCell ⟨b, 2, none⟩ (.bool true)).heap.size = w.heap.size := by simp [World.setCell]
  have hal : Below w.heap.size (w.setCell ⟨b, 2, none⟩ (.bool true)) W1 := by rw [hW1]; exact (Below.refl _ _).alloc (by omega) _
  have HH1 := hid (show W1.heap[b]? = some (.cells #[.slice a c.acts.length k, .int .i64 c.flags, .bool true, .int .i64 c.fault, .bool false] 86) from (hal.block b hlt).trans (set5 h1 2 _)); have HX1 := hid (show W1.heap[w.heap.size]? = some (.cells #[.int .i64 x.kind, .string (S x.text), .int .i64 x.flags] 128) by rw [hW1, ← hz]; exact heap_alloc_new _ _); have HBt := hid (show But b w W1 from (But.setAt w 2 _).trans (But.of (by rw [hz]; exact hal))); have HO1 := hid (OwnAs.but h2 HBt.out hne0); have hs1 : W1.heap.size = w.heap.size + 1 := by rw [hW1]; simp [World.setCell]
  obtain ⟨⟨q0, q1, q2, q3, q4⟩, f0, f1, f2, f3, f4⟩ := box5 h1; clear h1 h2 hW1 hal hz; go_enter Tryz.func86, Tryz.ntmps86; go_wp2_with fail; rw [← HWE.out]; clear q0 q1 q2 q3 q4 f0 f1 f2 f3 f4 HWE; have HRow := hid (show AtnsM anyB W1 (.slice a c.acts.length k) c.acts from RowM.imp (OwnRow.rowM jbe HO1.out (by unfold maxLen; omega)) (fun _ _ => trivial) (Keeps.refl _ _) fun _ _ h => h); have HF1 := hid (show ∀ (y : Atn) (u : World), Below W1.heap.size W1 u → Calls Tryz.prog 127 (#[.agg #[.int .i64 y.kind, .string (S y.text), .int .i64 y.flags]] ++ #[.pointer (some ⟨w.heap.size, 0, none⟩)]) u fun e u' => e = .returned (.bool (vg x.kind y.kind)) ∧ Below u.heap.size u u' from fun y u hu => ji0 x y w.heap.size u (jlow hu HX1.out)); have HP1 := hid (jeW b a k c.acts (fun y => vg x.kind y.kind) 127 #[.pointer (some ⟨w.heap.size, 0, none⟩)] jkY W1 (box5 HH1.out).1.1 HRow.out HF1.out); refine HP1.out.mono ?_; rintro e w2 ⟨rfl, hb2⟩; simp only; have HB2 := hid (HBt.out.trans (But.of hb2)); have HH2 := hid (jlow hb2 HH1.out); have HX2 := hid (jlow hb2 HX1.out); have HO2 := hid (OwnAs.below HO1.out hb2); have HRow2 := hid (AtnsM.next HRow.out hb2); clear hb2; cases hq : c.acts.any (fun y => vg x.kind y.kind) with
  | true =>
    rw [if_pos hq] at HR; clear hq; go_wp2_with fail; refine (jeP b 9 w2 _ _ _ _ _ HH2.out).mono ?_; rintro e w3 ⟨⟨v, rfl⟩, hh3, hb3⟩; simp only; have HE := hid (show CrsB w3 B b r.1 r.2 ∧ Below B w w3 ∧ Frm b w w3 from ⟨by rw [HR.out]; exact ⟨a, k, hh3, OwnAs.but HO2.out hb3 hne0, hne0, hBb⟩, (HB2.out.trans hb3).below hBb (by omega), Frm.but (HB2.out.trans hb3) H0.out hh3⟩); clear hh3 hb3; go_wp2; go_end0; exact ⟨⟨_, rfl⟩, HE.out.1, HE.out.2⟩
  | false =>
    rw [if_neg (by rw [hq]; simp)] at HR; clear hq; have HF2 := hid (show ∀ (y : Atn) (u : World), Below w2.heap.size w2 u → Calls Tryz.prog 130 (#[.agg #[.int .i64 y.kind, .string (S y.text), .int .i64 y.flags]] ++ #[.pointer (some ⟨w.heap.size, 0, none⟩)]) u fun e u' => e = .returned (.bool (jbV x y)) ∧ Below u.heap.size u u' from fun y u hu => ji1 x y w.heap.size u (jlow hu HX2.out)); have HP2 := hid (jeW b a k c.acts (fun y => jbV x y) 130 #[.pointer (some ⟨w.heap.size, 0, none⟩)] jkZ w2 (box5 HH2.out).1.1 HRow2.out HF2.out); go_wp2_with fail; refine HP2.out.mono ?_; rintro e w3 ⟨rfl, hb3⟩; simp only; have HB3 := hid (HB2.out.trans (But.of hb3)); have HH3 := hid (jlow hb3 HH2.out); have HX3 := hid (jlow hb3 HX2.out); have HO3 := hid (OwnAs.below HO2.out hb3); have hs3 : w.heap.size + 1 ≤ w3.heap.size := by have := HB2.out.size; have := hb3.size; have := (Array.getElem?_eq_some_iff.1 HX2.out).1; omega
    clear hb3; cases hq : c.acts.any (fun y => jbV x y) with
    | true =>
      rw [if_pos hq] at HR; clear hq; have HE := hid (show CrsB w3 B b r.1 r.2 ∧ Below B w w3 ∧ Frm b w w3 from ⟨by rw [HR.out]; exact ⟨a, k, HH3.out, HO3.out, hne0, hBb⟩, HB3.out.below hBb (by omega), Frm.but HB3.out H0.out HH3.out⟩); go_wp2; go_end0; exact ⟨⟨_, rfl⟩, HE.out.1, HE.out.2⟩
    | false =>
      rw [if_neg (by rw [hq]; simp)] at HR; clear hq; obtain ⟨⟨q0, q1, q2, q3, q4⟩, f0, f1, f2, f3, f4⟩ := box5 HH3.out
      by_cases h6 : 6 ≤ c.acts.length
      · rw [if_pos h6] at HR; have h6' : (6 : Int) ≤ (c.acts.length : Int) := by omega
        go_wp2_with fail; refine (jeP b 5 w3 _ _ _ _ _ HH3.out).mono ?_; rintro e w4 ⟨⟨v, rfl⟩, hh4, hb4⟩; simp only; have HE := hid (show CrsB w4 B b r.1 r.2 ∧ Below B w w4 ∧ Frm b w w4 from ⟨by rw [HR.out]; exact ⟨a, k, hh4, OwnAs.but HO3.out hb4 hne0, hne0, hBb⟩, (HB3.out.trans hb4).below hBb (by omega), Frm.but (HB3.out.trans hb4) H0.out hh4⟩); clear hh4 hb4; go_wp2; go_end0; exact ⟨⟨_, rfl⟩, HE.out.1, HE.out.2⟩
      · rw [if_neg h6] at HR; have h6' : ¬ (6 : Int) ≤ (c.acts.length : Int) := by omega
        obtain ⟨x0, x1, x2⟩ := box3 HX3.out; obtain ⟨i0, hi, hz0, hz1, hz2⟩ := info_parts jhv; obtain ⟨css, o1, o2, o3, o4⟩ := HO3.out; have HO4 := hid o4; have HL3 := hid (show Below B w w3 from HB3.out.below hBb (by omega)); have hge : ∀ j, (Value.slice a c.acts.length k).ownBlock = some j → B ≤ j := fun j hj => (World.ownsRow.lt o1 j hj).1
        have hb3 : b < w3.heap.size := by omega
        have hb3n : b ≠ w3.heap.size := by omega
        have q0a : (w3.alloc (.cells #[.int .i64 x.kind, .string (S x.text), .int .i64 x.flags] 128)).cell? ⟨b, 0, none⟩ = some (.slice a c.acts.length k) := jb q0 ((Below.refl _ _).alloc (Nat.le_refl _) _); have HJO := hid (show ∀ o : Obj, ∀ p, p < w3.heap.size → (w3.drew.alloc o).heap[p]? = w3.heap[p]? from fun o p hp => jold w3.drew o hp); have HJS := hid (show ∀ o : Obj, w3.heap.size ≤ (w3.drew.alloc o).heap.size from fun o => by simp); have HJH := hid (show ∀ o : Obj, w.heap.size ≤ (w3.drew.alloc o).heap.size from fun o => by simp; omega); clear o4; go_wp2
        go_region_law
          (refine step_append_lies _ (by rfl) _ _ _ (by rfl) B 128 i0 _ 3 32 Tryz.underlying40 hi hz0 hz1 hz2 rfl (by omega) (.slice a c.acts.length k) c.acts.length css.flatten (by rfl) (by first | exact World.ownsRow.alloc (show World.ownsRow w3.drew _ _ _ _ _ _ from o1) _ | exact (World.ownsRow.alloc o1 _).drew)
             ⟨w3.heap.size, 0, none⟩ 1 1 [.int .i64 x.kind, .string (S x.text), .int .i64 x.flags] (by rfl) (by rfl) (by first | exact jfk w3.drew _ rfl _ _ _ _ | exact jfk w3 _ rfl _ _ _ _) (by simp [Value.oneCell']) (by omega) (by unfold maxLen; omega) (by omega) (by simp; omega) _ rfl ?_
           intro g cap w5 hown5 hgrow hat hlt5; have HBb := hid (show w5.heap[b]? = some (.cells #[.slice a c.acts.length k, .int .i64 c.flags, .bool true, .int .i64 c.fault, .bool false] 86) from (hgrow.block b (by simp; omega) hne0).trans ((jold w3.drew _ (show b < w3.heap.size by omega)).trans HH3.out)); have HBl := hid (show Below B w w5 from ((HL3.out.drew).alloc (by simp; omega) _).grown hgrow (by simp; omega) hge); have HOn := hid (show OwnAs B w5 (.slice (some ⟨g, 0, none⟩) (c.acts.length + 1) cap) (c.acts ++ [x]) from OwnRow.more jbe o2 o3 HO4.out rfl rfl hown5 hgrow (by
             rcases hat with e | e
             · exact .inl e.symm
             · exact .inr (by rw [e]; rfl)) (Nat.le_refl _))
           have HGB := hid (show some b ≠ (Value.slice (some ⟨g, 0, none⟩) (c.acts.length + 1) cap).ownBlock from fun e => by
             have e' : b = g := Option.some.inj e
             rcases hat with h | h
             · exact hne0 (by rw [e']; exact h.symm)
             · simp at h; omega)
           have HFr := hid (show Frm b w (w5.setCell ⟨b, 0, none⟩ (.slice (some ⟨g, 0, none⟩) (c.acts.length + 1) cap)) from Frm.app HB3.out H0.out (HJO.out _) (HJS.out _) hgrow hat (HJH.out _) HBb.out); obtain ⟨⟨t0, t1, t2, t3, t4⟩, u0, u1, u2, u3, u4⟩ := box5 HBb.out; clear hgrow hat hown5)
        all_goals
          have HE := hid (show CrsB (w5.setCell ⟨b, 0, none⟩ (.slice (some ⟨g, 0, none⟩) (c.acts.length + 1) cap)) B b r.1 r.2 ∧ Below B w (w5.setCell ⟨b, 0, none⟩ (.slice (some ⟨g, 0, none⟩) (c.acts.length + 1) cap)) from ⟨by
            rw [HR.out]; refine ⟨some ⟨g, 0, none⟩, cap, ?_, ?_, by simpa using HGB.out, hBb⟩
            · have := set5 HBb.out 0 (.slice (some ⟨g, 0, none⟩) (c.acts.length + 1) cap)
              simpa using this
            · have := OwnAs.but HOn.out (But.setAt (b := b) w5 0 (.slice (some ⟨g, 0, none⟩) (c.acts.length + 1) cap)) HGB.out
              simpa using this, HBl.out.setCell (by simp; omega) _⟩)
          go_wp2; go_end0; exact ⟨⟨_, rfl⟩, HE.out.1, HE.out.2, HFr.out⟩
end Go.Proofs.YtaapmpchcfcniaaGreatDoor
namespace Go.Proofs.YtaapmpchcfcniaaGreatDoor
open Go.RowKit
theorem RowM.takeR {A : Type} {Q : Nat → Prop} {k : Nat} {P : A → List Value → Prop} {w : World} {a : Option Addr} {c : Nat} {l : List A} (h : RowM Q k P w (.slice a l.length c) l) (m c' : Nat) (hm : m ≤ l.length) : RowM Q k P w (.slice a m c') (l.take m) := by
  obtain ⟨a', c0, hv, hs, hx⟩ := h; simp only [Value.slice.injEq, true_and] at hv; obtain ⟨rfl, rfl⟩ := hv; have hl : (l.take m).length = m := by rw [List.length_take]; omega
  refine ⟨a, c', by rw [hl], by omega, fun i x hi => ?_⟩; have hi' : i < m := by rw [← hl]; exact (List.getElem?_eq_some_iff.1 hi).1
  rw [List.getElem?_take_of_lt hi'] at hi; exact hx i x hi
theorem RowM.dropR {A : Type} {Q : Nat → Prop} {k : Nat} {P : A → List Value → Prop} {w : World} {b o c : Nat} {l : List A} (h : RowM Q k P w (.slice (some ⟨b, o, none⟩) l.length c) l) (m n c' : Nat) (hn : n = l.length - m) : RowM Q k P w (.slice (some ⟨b, o + m * k, none⟩) n c') (l.drop m) := by
  obtain ⟨a', c0, hv, hs, hx⟩ := h; simp only [Value.slice.injEq, true_and] at hv; obtain ⟨rfl, rfl⟩ := hv; have hl : (l.drop m).length = n := by rw [List.length_drop]; omega
  refine ⟨_, c', by rw [hl], by omega, fun i x hi => ?_⟩; rw [List.getElem?_drop] at hi; obtain ⟨b', o', cs, ha, h1, h2, h3, h4, h5⟩ := hx _ x hi; cases ha; refine ⟨_, _, cs, rfl, h1, h2, h3, fun j u hj => ?_, h5⟩; rw [show o + m * k + i * k + j = o + (m + i) * k + j by rw [Nat.add_mul]; omega]; exact h4 j u hj
theorem jf {w : World} (o : Obj) {b : Nat} {x : Obj} (h : w.heap[b]? = some x) : (w.alloc o).heap[b]? = some x := by
  have hb := (Array.getElem?_eq_some_iff.1 h).1
  show (w.heap.push o)[b]? = _
  rw [Array.getElem?_push_lt hb, ← Array.getElem?_eq_getElem hb]; exact h
theorem jy {w : World} (o : Obj) {b : Nat} (h : b = w.heap.size) : (w.alloc o).heap[b]? = some o := by rw [h]; exact heap_alloc_new w o
theorem jaI {k : Nat} : ∀ {css : List (List Value)}, (∀ c ∈ css, c.length = k) → css.flatten.length = css.length * k := by
  intro css
  induction css with
  | nil => intro _; simp
  | cons c css ih =>
    intro h; rw [List.flatten_cons, List.length_append, h c (by simp), ih fun d hd => h d (by simp [hd]), List.length_cons, Nat.add_mul]; omega
theorem jdL {A : Type} {Q : Nat → Prop} {k : Nat} {P : A → List Value → Prop} {w : World} {b o c : Nat} {l : List A} (h : RowM Q k P w (.slice (some ⟨b, o, none⟩) l.length c) l) : ∀ m : Nat, m ≤ l.length →
    ∃ css : List (List Value), css.length = m ∧ (∀ cs ∈ css, cs.length = k) ∧ (∀ (i : Nat) (x : A) (cs : List Value), l[i]? = some x → css[i]? = some cs → P x cs) ∧ ∀ (j : Nat) u, css.flatten[j]? = some u → w.cell? ⟨b, o + j, none⟩ = some u := by
  intro m
  induction m with
  | zero => intro _; exact ⟨[], rfl, (fun cs h => by cases h), (fun i x cs _ h => by simp at h), (fun j u h => by simp at h)⟩
  | succ m ih =>
    intro hm; obtain ⟨css, h1, h2, h3, h4⟩ := ih (by omega); obtain ⟨a', c', hv, _, hr⟩ := h; simp only [Value.slice.injEq, true_and] at hv; obtain ⟨rfl, rfl⟩ := hv; obtain ⟨x, hx⟩ : ∃ x, l[m]? = some x := ⟨_, List.getElem?_eq_getElem (by omega)⟩; obtain ⟨b', o', cs, ha, _, _, hl, hc, hP⟩ := hr m x hx; cases ha; have hfl := jaI h2; rw [h1] at hfl; refine ⟨css ++ [cs], by simp [h1], ?_, ?_, ?_⟩
    · intro d hd
      rcases List.mem_append.1 hd with e | e
      · exact h2 d e
      · simp at e; rw [e]; exact hl
    · intro i y d hy hd
      rcases Nat.lt_or_ge i m with hi | hi
      · rw [List.getElem?_append_left (by omega)] at hd; exact h3 i y d hy hd
      · rw [List.getElem?_append_right (by omega)] at hd; have hz : i - css.length = 0 := by
          rcases Nat.eq_zero_or_pos (i - css.length) with e | e
          · exact e
          · obtain ⟨q, hq⟩ : ∃ q, i - css.length = q + 1 := ⟨i - css.length - 1, by omega⟩; rw [hq] at hd; simp at hd
        rw [hz] at hd
        simp at hd
        subst hd; obtain rfl : i = m := by omega
        rw [hx] at hy; cases hy; exact hP
    · intro j u hj; have ef : (css ++ [cs]).flatten = css.flatten ++ cs := by simp
      rw [ef] at hj
      rcases Nat.lt_or_ge j (m * k) with hlt | hge
      · rw [List.getElem?_append_left (by omega)] at hj; exact h4 j u hj
      · rw [List.getElem?_append_right (by omega), hfl] at hj; have := hc _ u hj; rw [show o + m * k + (j - m * k) = o + j by omega] at this; exact this
end Go.Proofs.YtaapmpchcfcniaaGreatDoor
namespace Go.Proofs.YtaapmpchcfcniaaGreatDoor
open Go.RowKit
def marksL : List UInt8 := [33, 35, 36, 37, 38, 39, 42, 43, 45, 47, 61, 63, 94, 95, 96, 123, 124, 125, 126]
def qk (c : UInt8) : Bool := (decide (97 ≤ c.toNat) && decide (c.toNat ≤ 122)) || (decide (65 ≤ c.toNat) && decide (c.toNat ≤ 90)) || (decide (48 ≤ c.toNat) && decide (c.toNat ≤ 57)) || marksL.contains c
def runB (c : UInt8) : Bool := c == 46 || qk c
def dotS : Bool → List UInt8 → Bool
  | b, [] => !b
  | b, c :: t => if c = 46 then !b && dotS true t else qk c && dotS false t
def j0 (l : List UInt8) : Bool := dotS true l
def jaf (l : List UInt8) : Bool := !l.isEmpty && l.all qk
theorem jfQ {p : List UInt8} (h : 46 ∉ p) (b : Bool) : dotS b p = if p.isEmpty then !b else p.all qk := by
  induction p generalizing b with
  | nil => simp [dotS]
  | cons c t ih =>
    simp only [List.mem_cons, not_or] at h; have hc : ¬ c = 46 := fun e => h.1 e.symm
    simp only [dotS, if_neg hc, ih h.2, List.isEmpty_cons, List.all_cons]; cases t <;> simp
theorem jjb {p : List UInt8} (h : 46 ∉ p) (b : Bool) (t : List UInt8) : dotS b (p ++ 46 :: t) = ((if p.isEmpty then !b else p.all qk) && dotS true t) := by
  induction p generalizing b with
  | nil => simp [dotS]
  | cons c u ih =>
    simp only [List.mem_cons, not_or] at h; have hc : ¬ c = 46 := fun e => h.1 e.symm
    simp only [List.cons_append, dotS, if_neg hc, ih h.2, List.isEmpty_cons, List.all_cons]; cases u <;> simp [Bool.and_assoc]
theorem vw {p : List UInt8} (h : 46 ∉ p) : j0 p = jaf p := by
  unfold j0 jaf; rw [jfQ h]; cases p <;> simp
theorem jck {p : List UInt8} (h : 46 ∉ p) (t : List UInt8) : j0 (p ++ 46 :: t) = (jaf p && j0 t) := by
  unfold j0 jaf; rw [jjb h]; cases p <;> simp
def jN (l d : List UInt8) : Int := if (j0 l && j0 d) = false then 3 else if 100 < l.length + 1 + d.length then 1 else 0
def jB (s : List UInt8) : List UInt8 := s.dropWhile jA
def wrun (s : List UInt8) : List UInt8 := s.takeWhile runB
def j6 (s : List UInt8) : List UInt8 := s.dropWhile runB
theorem vG (s : List UInt8) : wrun s ++ j6 s = s := List.takeWhile_append_dropWhile
theorem jS (s : List UInt8) : (jB s).length ≤ s.length := (List.dropWhile_suffix _).length_le
theorem qQ (s : List UInt8) : (j6 s).length ≤ s.length := (List.dropWhile_suffix _).length_le
abbrev Adr := List UInt8 × List UInt8
def zA (c : UInt8) : List UInt8 → Option (List UInt8)
  | [] => none
  | x :: t => if x = c then some t else none
theorem zI {c : UInt8} {s r : List UInt8} (h : zA c s = some r) : s = c :: r := by
  cases s with
  | nil => cases h
  | cons x t =>
    by_cases e : x = c
    · simp only [zA, if_pos e, Option.some.injEq] at h; rw [e, h]
    · simp only [zA, if_neg e] at h; cases h
def jZ : Bool → List UInt8 → Option (List UInt8)
  | _, [] => none
  | true, c :: t => if c = 34 ∨ c = 92 then jZ false t else none
  | false, c :: t => if c = 34 then some t else if c = 92 then jZ true t else jZ false t
theorem vO {b : Bool} {s r : List UInt8} (h : jZ b s = some r) : r.length < s.length := by
  induction s generalizing b with
  | nil => cases b <;> cases h
  | cons c t ih =>
    cases b with
    | true =>
      unfold jZ at h; split at h
      · have := ih h; simp; omega
      · cases h
    | false =>
      unfold jZ at h; split at h
      · cases h; simp
      · split at h <;> (have := ih h; simp; omega)
def zM (s : List UInt8) : Option (Adr × List UInt8) :=
  match zA 64 (j6 s) with
  | none => none
  | some r => if jN (wrun s) (wrun r) = 0 then some ((wrun s, wrun r), j6 r) else none
theorem jcx {s r : List UInt8} {a : Adr} (h : zM s = some (a, r)) : r.length ≤ s.length := by
  unfold zM at h; split at h
  · cases h
  · rename_i r' hr; split at h
    · cases h; have h1 := zI hr; have h2 := qQ s; rw [h1] at h2; have h3 := qQ r'
      simp at h2; omega
    · cases h
def vi : Nat → List UInt8 → Option (List UInt8)
  | 0, s => some s
  | _ + 1, [] => some []
  | n + 1, c :: t =>
    if c = 34 then (jZ false t).bind fun r => vi n (jB r)
    else if runB c then vi n (jB (j6 t)) else some (c :: t)
theorem jb1 : ∀ (n m : Nat) (s : List UInt8), s.length ≤ n → s.length ≤ m → vi n s = vi m s := by
  intro n
  induction n with
  | zero =>
    intro m s h1 _; have e : s = [] := List.length_eq_zero_iff.1 (by omega); subst e; cases m <;> rfl
  | succ n ih =>
    intro m s h1 h2; cases s with
    | nil => cases m <;> rfl
    | cons c t =>
      cases m with
      | zero => simp at h2
      | succ m =>
        simp only [List.length_cons] at h1 h2; have h3 := qQ t; have h4 := jS (j6 t); simp only [vi]; rw [ih m (jB (j6 t)) (by omega) (by omega)]; cases hq : jZ false t with
        | none => rfl
        | some q =>
          have k1 := vO hq; have k2 := jS q; simp only [Option.bind_some]; rw [ih m (jB q) (by omega) (by omega)]
def zO (s : List UInt8) : Option (List UInt8) := vi s.length s
theorem jaR : zO [] = some [] := rfl
theorem ja5 (t : List UInt8) : zO (34 :: t) = (jZ false t).bind fun r => zO (jB r) := by
  show vi (t.length + 1) (34 :: t) = _
  simp only [vi, if_true]; cases hq : jZ false t with
  | none => rfl
  | some q =>
    have k1 := vO hq; have k2 := jS q; exact jb1 _ _ _ (by omega) (Nat.le_refl _)
theorem jcF {c : UInt8} {t : List UInt8} (h : c ≠ 34) (hr : runB c = true) : zO (c :: t) = zO (jB (j6 (c :: t))) := by
  have e : j6 (c :: t) = j6 t := by unfold j6; rw [List.dropWhile_cons, if_pos hr]
  have h3 := qQ t; have h4 := jS (j6 t); rw [e]
  show vi (t.length + 1) (c :: t) = _
  simp only [vi, if_neg h, if_pos hr]; exact jb1 _ _ _ (by omega) (Nat.le_refl _)
theorem jb2 {c : UInt8} {t : List UInt8} (h : c ≠ 34) (hr : runB c = false) : zO (c :: t) = some (c :: t) := by
  show vi (t.length + 1) (c :: t) = _
  simp [vi, if_neg h, hr]
theorem jcE (n : Nat) : ∀ (s r : List UInt8), s.length ≤ n → zO s = some r → r.length ≤ s.length := by
  induction n with
  | zero =>
    intro s r hn h; cases s with
    | nil => rw [jaR] at h; cases h; simp
    | cons c t => simp at hn
  | succ n ih =>
    intro s r hn h; cases s with
    | nil => rw [jaR] at h; cases h; simp
    | cons c t =>
      simp only [List.length_cons] at hn
      by_cases hc : c = 34
      · subst hc; rw [ja5] at h; cases hq : jZ false t with
        | none => rw [hq] at h; cases h
        | some q =>
          rw [hq] at h; have h1 := vO hq; have h2 := jS q; have h3 := ih _ _ (by omega) h
          simp; omega
      · cases hr : runB c with
        | true =>
          rw [jcF hc hr] at h; have e : j6 (c :: t) = j6 t := by unfold j6; rw [List.dropWhile_cons, if_pos hr]
          rw [e] at h; have h1 := qQ t; have h2 := jS (j6 t); have h3 := ih _ _ (by omega) h
          simp; omega
        | false =>
          rw [jb2 hc hr] at h; cases h; simp
def ja1 (s : List UInt8) : Option (Adr × List UInt8) :=
  (zO s).bind fun r => (zA 60 r).bind fun r => (zM r).bind fun x => (zA 62 x.2).map fun r => (x.1, r)
theorem jgl {s r : List UInt8} {a : Adr} (h : ja1 s = some (a, r)) : r.length ≤ s.length := by
  unfold ja1 at h; simp only [Option.bind_eq_some_iff, Option.map_eq_some_iff] at h; obtain ⟨r1, h1, r2, h2, ⟨a3, r3⟩, h3, r4, h4, h5⟩ := h; cases h5; have k1 := jcE _ _ _ (Nat.le_refl _) h1; have k2 := congrArg List.length (zI h2); have k3 := jcx h3; have k4 := congrArg List.length (zI h4)
  simp at k2 k4 k3; omega
def jE (s : List UInt8) : Option (Adr × List UInt8) :=
  (if (zA 64 (j6 (jB s))).isSome then zM (jB s) else ja1 (jB s)).map fun x => (x.1, jB x.2)
theorem vp {s r : List UInt8} {a : Adr} (h : jE s = some (a, r)) : r.length ≤ s.length := by
  unfold jE at h; rw [Option.map_eq_some_iff] at h; obtain ⟨⟨a1, r1⟩, h1, h2⟩ := h; cases h2; have k1 := jS s; have k2 := jS r1; split at h1
  · have := jcx h1; simp only at *; omega
  · have := jgl h1; simp only at *; omega
def jaL : Nat → List UInt8 → Option (List Adr)
  | 0, _ => none
  | n + 1, s => (jE s).bind fun x => if x.2 = [] then some [x.1] else (zA 44 x.2).bind fun r => (jaL n r).map (x.1 :: ·)
theorem jgb : ∀ (n m : Nat) (s : List UInt8), s.length < n → s.length < m → jaL n s = jaL m s := by
  intro n
  induction n with
  | zero => intro m s h1; omega
  | succ n ih =>
    intro m s h1 h2; cases m with
    | zero => omega
    | succ m =>
      simp only [jaL]; cases ha : jE s with
      | none => rfl
      | some x =>
        have k1 := vp (a := x.1) (r := x.2) ha; simp only [Option.bind_some]; split
        · rfl
        · cases ht : zA 44 x.2 with
          | none => rfl
          | some r =>
            have k2 := congrArg List.length (zI ht); simp only [List.length_cons] at k2; simp only [Option.bind_some]; rw [ih m r (by omega) (by omega)]
def vj (s : List UInt8) : Option (List Adr) := jaL (s.length + 1) s
theorem jgd {s : List UInt8} (h : jE s = none) : vj s = none := by
  unfold vj; simp only [jaL, h]; rfl
theorem jhE {s : List UInt8} {a : Adr} (h : jE s = some (a, [])) : vj s = some [a] := by
  unfold vj; simp only [jaL, h]; rfl
theorem jhD {s r : List UInt8} {a : Adr} (h : jE s = some (a, r)) (hr : r ≠ []) (h3 : zA 44 r = none) : vj s = none := by
  unfold vj; simp only [jaL, h, Option.bind_some, if_neg hr, h3]; rfl
theorem jgc {s r : List UInt8} {a : Adr} (h : jE s = some (a, 44 :: r)) : vj s = (vj r).map (a :: ·) := by
  have k1 := vp h; simp only [List.length_cons] at k1
  show jaL (s.length + 1) s = (jaL (r.length + 1) r).map _
  have e : zA 44 (44 :: r) = some r := by simp [zA]
  rw [jaL, h, Option.bind_some, if_neg (by simp), e, Option.bind_some, jgb s.length (r.length + 1) r (by omega) (by omega)]
def zr (s : List UInt8) : List Adr × Int :=
  if 2000 < s.length then ([], 1) else match vj s with
    | none => ([], 3)
    | some l => if 20 < l.length then ([], 5) else (l, 0)
end Go.Proofs.YtaapmpchcfcniaaGreatDoor
namespace Go.Proofs.YtaapmpchcfcniaaGreatDoor
open Go.RowKit
def wordy (l : List UInt8) : Prop := l ≠ [] ∧ l.length ≤ 8 ∧ ∀ c ∈ l, 97 ≤ c.toNat ∧ c.toNat ≤ 122
theorem jem {c : UInt8} (h : 97 ≤ c.toNat ∧ c.toNat ≤ 122) : qk c = true := by unfold qk; simp [h.1, h.2]
def orgL : List UInt8 := [46, 111, 114, 103]
def letters (l : List UInt8) : Prop := ∀ c ∈ l, (97 ≤ c.toNat ∧ c.toNat ≤ 122) ∨ c = 46
theorem wordy.letters {l : List UInt8} (h : wordy l) : letters l := fun c hc => Or.inl (h.2.2 c hc)
theorem wordy.org {l : List UInt8} (h : wordy l) : Go.Proofs.YtaapmpchcfcniaaGreatDoor.letters (l ++ orgL) := by
  intro c hc
  rcases List.mem_append.1 hc with hc | hc
  · exact Or.inl (h.2.2 c hc)
  · simp [orgL] at hc
    rcases hc with rfl | rfl | rfl | rfl <;> decide
theorem ja6 {l : List UInt8} (h : wordy l) : j0 l = true := by
  rw [vw (fun hc => by have := h.2.2 46 hc; simp at this)]; unfold jaf; obtain ⟨h1, _, h2⟩ := h; have e : l.isEmpty = false := by cases l <;> simp_all
  rw [e]; simp only [Bool.not_false, Bool.true_and, List.all_eq_true]; exact fun c hc => jem (h2 c hc)
theorem jiS {l : List UInt8} (h : wordy l) : j0 (l ++ orgL) = true := by
  have e := ja6 h; have h0 : 46 ∉ l := fun hc => by have := h.2.2 46 hc; simp at this
  rw [vw h0] at e
  show j0 (l ++ 46 :: [111, 114, 103]) = true
  rw [jck h0, e]
  decide
def lawful (a : Adr) : Prop := wordy a.1 ∧ ∃ d, wordy d ∧ a.2 = d ++ orgL
theorem lawful.check {a : Adr} (h : lawful a) : jN a.1 a.2 = 0 := by
  obtain ⟨h1, d, h2, h3⟩ := h; unfold jN; rw [h3, ja6 h1, jiS h2]; have l1 := h1.2.1; have l2 := h2.2.1
  simp [orgL]
  omega
theorem lawful.len {a : Adr} (h : lawful a) : a.1.length ≤ 8 ∧ a.2.length ≤ 12 := by
  obtain ⟨h1, d, h2, h3⟩ := h; have l1 := h1.2.1; have l2 := h2.2.1; rw [h3]; simp [orgL]; omega
theorem lawful.letters {a : Adr} (h : lawful a) : letters a.1 ∧ Go.Proofs.YtaapmpchcfcniaaGreatDoor.letters a.2 := by
  obtain ⟨h1, d, h2, h3⟩ := h; rw [h3]; exact ⟨h1.letters, h2.org⟩
def jmO (a : Adr) : List UInt8 := a.1 ++ 64 :: a.2
theorem lawful.size {a : Adr} (h : lawful a) : (jmO a).length ≤ 21 := by
  have := h.len
  simp [jmO]; omega
structure Man where
  adr : Adr
  word : List UInt8
  kind : Nat
  sep : Nat
def Man.ok (x : Man) : Prop := lawful x.adr ∧ wordy x.word
end Go.Proofs.YtaapmpchcfcniaaGreatDoor
namespace Go.Proofs.YtaapmpchcfcniaaGreatDoor
open Go.RowKit Go.Proofs
theorem jdF {s r : List UInt8} {a : Adr} (h : zM s = some (a, r)) : jN a.1 a.2 = 0 := by
  unfold zM at h; split at h
  · cases h
  · split at h
    · next hc => cases h; exact hc
    · cases h
theorem jbn {s r : List UInt8} {a : Adr} (h : jE s = some (a, r)) : jN a.1 a.2 = 0 := by
  unfold jE at h; rw [Option.map_eq_some_iff] at h; obtain ⟨⟨a1, r1⟩, h1, h2⟩ := h; cases h2; split at h1
  · exact jdF h1
  · unfold ja1 at h1; simp only [Option.bind_eq_some_iff, Option.map_eq_some_iff] at h1; obtain ⟨r1, _, r2, _, ⟨a3, r3⟩, h3, r4, _, h5⟩ := h1; cases h5; exact jdF h3
theorem jdv : ∀ (n : Nat) (s : List UInt8) (l : List Adr), jaL n s = some l → ∀ x ∈ l, jN x.1 x.2 = 0 := by
  intro n
  induction n with
  | zero => intro s l h; cases h
  | succ n ih =>
    intro s l h x hx; simp only [jaL, Option.bind_eq_some_iff] at h; obtain ⟨⟨a, r⟩, h1, h2⟩ := h; split at h2
    · cases h2; rw [List.mem_singleton.1 hx]; exact jbn h1
    · simp only [Option.bind_eq_some_iff, Option.map_eq_some_iff] at h2; obtain ⟨r', _, l', h3, h4⟩ := h2; cases h4
      rcases List.mem_cons.1 hx with e | e
      · rw [e]; exact jbn h1
      · exact ih r' l' h3 x e
theorem jan {l d : List UInt8} (h : jN l d = 0) : l.length ≤ 100 ∧ d.length ≤ 100 := by
  unfold jN at h; split at h
  · cases h
  · split at h
    · cases h
    · omega
theorem jhC {s : List UInt8} {x : Adr} (h : x ∈ (zr s).1) : jN x.1 x.2 = 0 := by
  unfold zr at h; split at h
  · cases h
  · split at h
    · cases h
    · next l hl =>
      split at h
      · cases h
      · exact jdv _ _ _ hl x h
end Go.Proofs.YtaapmpchcfcniaaGreatDoor
namespace Go.Proofs.YtaapmpchcfcniaaGreatDoor
open Go.RowKit
def flagTab : List (List UInt8 × Nat) := [([92, 83, 101, 101, 110], 1), ([92, 65, 110, 115, 119, 101, 114, 101, 100], 2), ([92, 70, 108, 97, 103, 103, 101, 100], 4), ([92, 68, 101, 108, 101, 116, 101, 100], 8), ([92, 68, 114, 97, 102, 116], 16)]
def jdj : List (List UInt8 × Nat) → List UInt8 → Nat
  | [], _ => 0
  | x :: r, s => if x.1 = s then x.2 else jdj r s
def jaG (s : List UInt8) : Nat := jdj flagTab s
def jah : Nat → List (List UInt8) → Option Nat
  | n, [] => some n
  | n, s :: r => if jaG s = 0 then none else jah (n ||| jaG s) r
def zJ (l : List (List UInt8)) : Option Nat := jah 0 l
theorem jho : ∀ (t : List (List UInt8 × Nat)) (s : List UInt8), (∀ x ∈ t, x.2 < 32) → jdj t s < 32 := by
  intro t
  induction t with
  | nil => intro s _; show 0 < 32; omega
  | cons x t ih =>
    intro s h; unfold jdj; split
    · exact h x (by simp)
    · exact ih s fun y hy => h y (by simp [hy])
theorem jeT (s : List UInt8) : jaG s < 32 := jho _ _ (by decide)
theorem jkF {a b : Nat} (ha : a < 32) (hb : b < 32) : a ||| b < 32 := Nat.or_lt_two_pow (n := 5) ha hb
theorem jhp : ∀ (l : List (List UInt8)) (n m : Nat), n < 32 → jah n l = some m → m < 32 := by
  intro l
  induction l with
  | nil => intro n m hn h; cases h; exact hn
  | cons s l ih =>
    intro n m hn h; unfold jah at h
    by_cases hf : jaG s = 0
    · rw [if_pos hf] at h; cases h
    · rw [if_neg hf] at h; exact ih _ _ (jkF hn (jeT s)) h
def vB (c : UInt8) : Bool := decide (33 ≤ c.toNat) && decide (c.toNat ≤ 126)
def jao (s : List UInt8) : Int := if s.length < 1 ∨ 12 < s.length then 1 else if s.all vB then 0 else 3
def jfU : List UInt8 := [102, 105, 108, 101, 105, 110, 116, 111]
def rejW : List UInt8 := [114, 101, 106, 101, 99, 116]
def envW : List UInt8 := [101, 110, 118, 101, 108, 111, 112, 101]
def flgW : List UInt8 := [105, 109, 97, 112, 52, 102, 108, 97, 103, 115]
def jlb : List UInt8 := [102, 114, 111, 109]
def toW : List UInt8 := [116, 111]
def extP (s : List UInt8) : Bool := decide (s = jfU) || decide (s = rejW) || decide (s = envW) || decide (s = flgW)
def zR (s : List UInt8) : Bool := decide (s = jlb) || decide (s = toW)
def jcb (k : Int) : List UInt8 := if k = 5 then jfU else if k = 7 then rejW else if k = 8 ∨ k = 9 then flgW else []
def hasP (H : List (List UInt8)) (s : List UInt8) : Bool := s.isEmpty || H.contains s
def zy (l : List (List UInt8)) : Bool := l.any fun s => decide (100 < s.length)
def envP (H : List (List UInt8)) (t : Tst) : Int := if hasP H envW = false then 8 else if t.names.all zR then 0 else 7
def tstA (H : List (List UInt8)) : Nat → Tst → Int
  | 0, _ => 0
  | n + 1, t => if t.kind = 8 ∧ envP H t ≠ 0 then envP H t else if zy t.names ∨ zy t.keys then 1 else jn (tstA H n) t.tests
def qv (s : List UInt8) : Int := if (zr s).2 = 0 ∧ (zr s).1.length = 1 then 0 else 3
def cmdA (H : List (List UInt8)) : Nat → Cmd → Int
  | 0, _ => 0
  | n + 1, c =>
    if hasP H (jcb c.kind) = false then 8
    else if c.kind = 1 then 3
    else if c.kind = 5 then jao (c.texts.getD 0 [])
    else if c.kind = 8 ∨ c.kind = 9 then (if zJ c.texts = none then 7 else 0)
    else if c.kind = 6 then qv (c.texts.getD 0 [])
    else if c.kind = 2 then
      (if tstA H n c.test ≠ 0 then tstA H n c.test
       else if jn (cmdA H n) c.thn ≠ 0 then jn (cmdA H n) c.thn
       else jn (cmdA H n) c.els)
    else 0
def j7 : List Cmd → Nat
  | [] => 0
  | c :: r => if c.kind = 1 then j7 r + 1 else 0
def jc3 (l : List Cmd) : List (List UInt8) := (l.take (j7 l)).flatMap (·.texts)
def vl (n : Nat) (l : List Cmd) : Int :=
  if za n l ≠ 0 then za n l
  else if (jc3 l).all extP = false then 7
  else jn (cmdA (jc3 l) n) (l.drop (j7 l))
def jcG : Nat → Tst → Prop
  | 0, _ => True
  | n + 1, t => zy t.names = false ∧ zy t.keys = false ∧ (t.kind = 8 → t.names.all zR = true) ∧ ∀ u ∈ t.tests, jcG n u
def jaA : Nat → Cmd → Prop
  | 0, _ => True
  | n + 1, c => c.kind ≠ 1 ∧ (c.kind = 5 → jao (c.texts.getD 0 []) = 0) ∧ (c.kind = 8 ∨ c.kind = 9 → zJ c.texts ≠ none) ∧ (c.kind = 6 → qv (c.texts.getD 0 []) = 0) ∧ jcG n c.test ∧ (∀ x ∈ c.thn, jaA n x) ∧ ∀ x ∈ c.els, jaA n x
theorem j9 {A : Type} {f : A → Int} {l : List A} (h : ∀ x ∈ l, f x = 0) : jn f l = 0 := by
  induction l with
  | nil => rfl
  | cons x l ih =>
    unfold jn; rw [if_pos (h x (by simp))]; exact ih fun y hy => h y (by simp [hy])
theorem jfl {H : List (List UInt8)} (hH : hasP H envW = true) : ∀ (n : Nat) (t : Tst), jcG n t → tstA H n t = 0 := by
  intro n
  induction n with
  | zero => intro t _; rfl
  | succ n ih =>
    intro t h; obtain ⟨h1, h2, h3, h4⟩ := h; unfold tstA; have e1 : ¬(t.kind = 8 ∧ envP H t ≠ 0) := by
      rintro ⟨hk, he⟩
      apply he
      unfold envP; rw [if_neg (by rw [hH]; simp), if_pos (h3 hk)]
    rw [if_neg e1, if_neg (by rw [h1, h2]; simp)]; exact j9 fun u hu => ih u (h4 u hu)
theorem ji6 {H : List (List UInt8)} (h0 : hasP H envW = true) (h1 : hasP H jfU = true) (h2 : hasP H rejW = true) (h3 : hasP H flgW = true) : ∀ (n : Nat) (c : Cmd), jaA n c → cmdA H n c = 0 := by
  intro n
  induction n with
  | zero => intro t _; rfl
  | succ n ih =>
    intro c h; obtain ⟨k1, k2, k3, k4, k5, k6, k7⟩ := h; unfold cmdA; have hn : hasP H (jcb c.kind) = true := by
      unfold jcb; split
      · exact h1
      · split
        · exact h2
        · split
          · exact h3
          · rfl
    rw [if_neg (by rw [hn]; simp), if_neg k1]
    by_cases c5 : c.kind = 5
    · rw [if_pos c5]; exact k2 c5
    · rw [if_neg c5]
      by_cases c8 : c.kind = 8 ∨ c.kind = 9
      · rw [if_pos c8, if_neg (k3 c8)]
      · rw [if_neg c8]
        by_cases c6 : c.kind = 6
        · rw [if_pos c6]; exact k4 c6
        · rw [if_neg c6]
          by_cases c2 : c.kind = 2
          · rw [if_pos c2, if_neg (by rw [jfl h0 n _ k5]; simp), if_neg (by rw [j9 fun u hu => ih u (k6 u hu)]; simp)]; exact j9 fun u hu => ih u (k7 u hu)
          · rw [if_neg c2]
def reqT : List (List UInt8) := [[102, 105, 108, 101, 105, 110, 116, 111], [114, 101, 106, 101, 99, 116], [101, 110, 118, 101, 108, 111, 112, 101], [105, 109, 97, 112, 52, 102, 108, 97, 103, 115]]
def reqC : Cmd := ⟨1, reqT, zd, [], []⟩
theorem jhe {n d : Nat} {l : List Cmd} (h : jI n d l = 0) : ∀ x ∈ l, jl n d x = 0 := by
  intro x hx; unfold jI at h
  induction l with
  | nil => cases hx
  | cons y l ih =>
    unfold jn at h
    by_cases hy : jl n d y = 0
    · rw [if_pos hy] at h
      rcases List.mem_cons.1 hx with e | e
      · rw [e]; exact hy
      · exact ih h e
    · rw [if_neg hy] at h; exact absurd h hy
theorem jjk {n d : Nat} {l : List Cmd} (h : ∀ x ∈ l, jl n d x = 0) : jI n d l = 0 := j9 h
theorem vu {n : Nat} {l : List Cmd} (h : ∀ x ∈ l, jl n 0 x = 0) : za n l = if 400 < (jK n l).length then 5 else 0 := by
  unfold za; rw [if_neg (by rw [jjk h]; simp)]
theorem jgX {n : Nat} {l : List Cmd} (h : ∀ x ∈ l, jl n 0 x = 0) : za n l = 0 ∨ za n l = 5 := by
  rw [vu h]; split
  · exact Or.inr rfl
  · exact Or.inl rfl
theorem jbw {n : Nat} {l : List Cmd} (h : za n l = 0) : (∀ x ∈ l, jl n 0 x = 0) ∧ (jK n l).length ≤ 400 := by
  unfold za at h
  by_cases h1 : jI n 0 l = 0
  · rw [if_neg (by simpa using h1)] at h; refine ⟨jhe h1, ?_⟩
    rcases Nat.lt_or_ge 400 (jK n l).length with h2 | h2
    · rw [if_pos h2] at h; simp at h
    · exact h2
  · rw [if_pos h1] at h; exact absurd h h1
theorem jbC (n : Nat) : jl n 0 reqC = 0 := by cases n <;> rfl
theorem jfz {n : Nat} {r : List Cmd} (h : ∀ x ∈ r, jaA (n + 1) x) : j7 r = 0 := by
  cases r with
  | nil => rfl
  | cons c r =>
    unfold j7; rw [if_neg (h c (by simp)).1]
theorem vD {n : Nat} {r : List Cmd} (hc : za (n + 1) (reqC :: r) = 0) (hN : ∀ x ∈ r, jaA (n + 1) x) : vl (n + 1) (reqC :: r) = 0 := by
  have ha : j7 (reqC :: r) = 1 := by show j7 r + 1 = 1; rw [jfz hN]
  have hr : jc3 (reqC :: r) = reqT := by unfold jc3; rw [ha]; rfl
  unfold vl; rw [if_neg (by rw [hc]; simp), hr, if_neg (by decide), ha]; exact j9 fun x hx => ji6 (by decide) (by decide) (by decide) (by decide) _ _ (hN x hx)
end Go.Proofs.YtaapmpchcfcniaaGreatDoor
namespace Go.Proofs.YtaapmpchcfcniaaGreatDoor
open Go.RowKit
def fitH (t : Tst) : Bool := decide (1 ≤ t.kind) && decide (t.kind ≤ 10) && zW t && decide (t.names.length ≤ 2) && decide (t.keys.length ≤ 2) && decide (t.tests.length ≤ 3)
def FitT : Nat → Tst → Prop
  | 0, _ => True
  | n + 1, t => fitH t = true ∧ ∀ u ∈ t.tests, FitT n u
def qJ (c : Cmd) : Bool := decide (2 ≤ c.kind) && decide (c.kind ≤ 10) && qg c && decide (c.texts.length ≤ 1 ∧ (c.kind = 7 → (c.texts.getD 0 []).length ≤ 12)) && decide (c.thn.length ≤ 4) && decide (c.els.length ≤ 4)
def FitC : Nat → Cmd → Prop
  | 0, _ => True
  | n + 1, c => qJ c = true ∧ (c.kind = 2 → FitT n c.test) ∧ (∀ x ∈ c.thn, FitC n x) ∧ ∀ x ∈ c.els, FitC n x
theorem jed {k ma p : Int} {nm : List UInt8} {keys : List (List UInt8)} (hm : ma = 1 ∨ ma = 2 ∨ ma = 3) (hp : k = 6 ∧ p = 0 ∨ (k = 7 ∨ k = 8) ∧ (p = 1 ∨ p = 2 ∨ p = 3)) (hk : ∃ k1, keys = [k1]) : fitH ⟨k, ma, p, [nm], keys, false, 0, []⟩ = true := by
  obtain ⟨k1, rfl⟩ := hk
  rcases hp with ⟨rfl, rfl⟩ | ⟨rfl | rfl, rfl | rfl | rfl⟩ <;> rcases hm with rfl | rfl | rfl <;> rfl
theorem jee {k ma p : Int} {nm k1 k2 : List UInt8} (hm : ma = 1 ∨ ma = 2 ∨ ma = 3) (hp : k = 6 ∧ p = 0 ∨ (k = 7 ∨ k = 8) ∧ (p = 1 ∨ p = 2 ∨ p = 3)) : fitH ⟨k, ma, p, [nm], [k1, k2], false, 0, []⟩ = true := by
  rcases hp with ⟨rfl, rfl⟩ | ⟨rfl | rfl, rfl | rfl | rfl⟩ <;> rcases hm with rfl | rfl | rfl <;> rfl
theorem jhk {k : Int} {l : List Tst} (hk : k = 4 ∨ k = 5) (h0 : 0 < l.length) (h3 : l.length ≤ 3) : fitH ⟨k, 0, 0, [], [], false, 0, l⟩ = true := by
  rcases hk with rfl | rfl <;> simp [fitH, zW, jap, h3] <;> omega
theorem jhj {k : Int} {t : Tst} (hk : k = 3 ∨ k = 4 ∨ k = 5) : fitH ⟨k, 0, 0, [], [], false, 0, [t]⟩ = true := by
  rcases hk with rfl | rfl | rfl <;> rfl
theorem jk6 {nm wd : List UInt8} {q : Nat} (h0 : 0 < q) (h2 : q ≤ 2) : fitH ⟨9, 0, 0, [nm, wd].take q, [], false, 0, []⟩ = true := by
  match q, h0, h2 with
  | 1, _, _ => rfl
  | 2, _, _ => rfl
theorem jjm {o : Bool} {l : Int} (h0 : 0 ≤ l) (h1 : l ≤ 400) : fitH ⟨10, 0, 0, [], [], o, l, []⟩ = true := by
  simp [fitH, zW, jap]; omega
theorem jmi {t : Tst} {a b : List Cmd} (ha : a.length ≤ 4) (hb : b.length ≤ 4) : qJ ⟨2, [], t, a, b⟩ = true := by
  simp [qJ, qg, ha, hb]
end Go.Proofs.YtaapmpchcfcniaaGreatDoor
namespace Go.Proofs.YtaapmpchcfcniaaGreatDoor
open Go.RowKit
theorem jcJ {l : List UInt8} {k : Nat} {c : UInt8} (f : UInt8 → Bool) (h : l[k]? = some c) : (l.take (k + 1)).all f = ((l.take k).all f && f c) := by
  have hk : k < l.length := (List.getElem?_eq_some_iff.1 h).1; have e : l[k] = c := (List.getElem?_eq_some_iff.1 h).2; rw [List.take_succ_eq_append_getElem hk, List.all_append, e]
  simp
theorem jhu {c : UInt8} (h : vB c = false) : c.toNat < 33 ∨ 126 < c.toNat := by
  unfold vB at h; simp at h; omega
theorem jf1 {c : UInt8} (h : vB c = true) : 33 ≤ c.toNat ∧ c.toNat ≤ 126 := by
  unfold vB at h; simpa using h
theorem jhT {s : ByteArray} {c : UInt8} (hc : c ∈ s.data.toList) (h1 : 1 ≤ s.size) (h2 : s.size ≤ 12) (h : vB c = false) : jao s.data.toList = 3 := by
  unfold jao; rw [if_neg (by rw [size_list]; omega), if_neg]; intro ha; have := List.all_eq_true.1 ha c hc; rw [h] at this; cases this
theorem jgk {s : ByteArray} (h1 : 1 ≤ s.size) (h2 : s.size ≤ 12) (h : s.data.toList.all vB = true) : jao s.data.toList = 0 := by
  unfold jao; rw [if_neg (by rw [size_list]; omega), if_pos h]
theorem jcu {s : ByteArray} (h : s.size < 1 ∨ 12 < s.size) : jao s.data.toList = 1 := by
  unfold jao; rw [if_pos (by rw [size_list]; exact h)]
set_option maxHeartbeats 2000000 in
theorem jij (s : ByteArray) (w : World) :
    Calls Tryz.prog 113 #[.string s] w fun e w' => e = .returned (.int .i64 (jao s.data.toList)) ∧ w' = w := by
  by_cases h0 : s.size < 1
  · have HR : Hid _ := jcu (Or.inl h0); have i0 : (s.size : Int) < 1 := by omega
    go_enter Tryz.func113, Tryz.ntmps113; go_wp2; go_ret; exact ⟨ji HR.out.symm, rfl⟩
  · by_cases h12 : 12 < s.size
    · have HR : Hid _ := jcu (Or.inr h12); have i0 : ¬ (s.size : Int) < 1 := by omega
      have i1 : (12 : Int) < (s.size : Int) := by omega
      go_enter Tryz.func113, Tryz.ntmps113; go_wp2; go_ret; exact ⟨ji HR.out.symm, rfl⟩
    · have i0 : ¬ (s.size : Int) < 1 := by omega
      have i1 : ¬ (12 : Int) < (s.size : Int) := by omega
      go_enter Tryz.func113, Tryz.ntmps113; go_wp2
      go_loopw [14] (fun i wr => ∃ k : Nat, k ≤ s.size ∧ i = .int .i64 k ∧ Hid ((s.data.toList.take k).all vB = true) ∧ wr = w) (fun i _ => s.size - (intOf i).toNat)
      case atStart => exact ⟨0, Nat.zero_le _, rfl, rfl, rfl⟩
      case round =>
        obtain ⟨k, hk, rfl, HT, rfl⟩ := hrel
        by_cases hlt : k < s.size
        · have hg := qA s k hlt; have HS : Hid _ := jcJ vB hg; have hlt' : (k : Int) < (s.size : Int) := by omega
          have hk0 : (0 : Int) ≤ (k : Int) := by omega
          cases ha : vB s[k] with
          | true =>
            have HN : Hid ((s.data.toList.take (k + 1)).all vB = true) := by unfold Hid; rw [HS.out, HT.out, ha]; rfl
            obtain ⟨b1, b2⟩ := jf1 ha; have c1 : ¬ ((s[k].toNat : Int) < 33) := by omega
            have c2 : ¬ ((126 : Int) < (s[k].toNat : Int)) := by omega
            clear HS hg ha; go_wp2
            go_roundw
            case rel => first | exact ⟨k + 1, by omega, by go_num, HN, by first | rfl | trivial⟩ | ((repeat apply Exists.intro); exact ⟨⟨k + 1, by omega, by go_num, HN, by first | rfl | trivial⟩, rfl⟩) | (refine ⟨trivial, ?_⟩; (repeat apply Exists.intro); exact ⟨⟨k + 1, by omega, by go_num, HN, by first | rfl | trivial⟩, rfl⟩)
            case measure => simp [intOf]; omega
          | false =>
            have HN : Hid _ := jhT (List.mem_of_getElem? hg) (by omega) (by omega) ha
            rcases jhu ha with b | b
            · have c1 : ((s[k].toNat : Int) < 33) := by omega
              clear HS hg ha; go_wp2; go_ret; exact ⟨ji HN.out.symm, rfl⟩
            · have c1 : ¬ ((s[k].toNat : Int) < 33) := by omega
              have c2 : ((126 : Int) < (s[k].toNat : Int)) := by omega
              clear HS hg ha; go_wp2; go_ret; exact ⟨ji HN.out.symm, rfl⟩
        · have hk' : k = s.size := by omega
          have HN : Hid (jao s.data.toList = 0) := jgk (by omega) (by omega) (by have := HT.out; rwa [List.take_of_length_le (by rw [size_list]; omega)] at this); have hlt' : ¬ (k : Int) < (s.size : Int) := by omega
          go_wp2; go_ret; exact ⟨ji HN.out.symm, rfl⟩
end Go.Proofs.YtaapmpchcfcniaaGreatDoor
