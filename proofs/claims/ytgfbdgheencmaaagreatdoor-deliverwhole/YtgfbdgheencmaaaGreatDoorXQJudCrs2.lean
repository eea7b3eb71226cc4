/-
  Courses: plain meanings, and how they lie in memory; what the small functions of package judge on them do: the walks.
-/
import Derived.Test.YtgfbdgheencmaaaGreatDoorXQBoxKp5
import Derived.Test.YtgfbdgheencmaaaGreatDoorXScrCk
set_option maxHeartbeats 2000000
set_option maxRecDepth 100000
namespace Go.Proofs.YtgfbdgheencmaaaGreatDoor
open Go.RowKit Go.Proofs
structure Atn where
 kind : Int
 text : List UInt8
 flags : Int
structure Crs where
 acts : List Atn
 flags : Int
 asked : Bool
 fault : Int
def jeM (k : Int) : Bool := (k == 3) || (k == 5) || (k == 6)
def vB (a b : Int) : Bool := ((a == 7) && ((b == 7) || jeM b)) || ((b == 7) && jeM a)
def jcq (a b : Atn) : Bool := decide (a.kind = b.kind) && decide (a.text = b.text)
def askP (c : Crs) (a : Atn) : Crs × Bool :=
 if c.acts.any (fun b => vB a.kind b.kind) then (⟨c.acts, c.flags, true, 9⟩, true)
 else if c.acts.any (fun b => jcq a b) then (⟨c.acts, c.flags, true, c.fault⟩, false)
 else if 6 ≤ c.acts.length then (⟨c.acts, c.flags, true, 5⟩, true)
 else (⟨c.acts ++ [a], c.flags, true, c.fault⟩, false)
def AtnM (a : Atn) (cs : List Value) : Prop := cs = [.int .i64 a.kind, .string (S a.text), .int .i64 a.flags]
abbrev AtnsM (Q : Nat → Prop) (w : World) (v : Value) (l : List Atn) : Prop := RowM Q 3 AtnM w v l
abbrev OwnAs (B : Nat) : World → Value → List Atn → Prop := OwnRow B 3 78 (fun _ _ a cs => AtnM a cs)
theorem jbJ : Firm (fun (_ : Nat → Prop) (_ : World) (a : Atn) cs => AtnM a cs) := fun _ _ _ _ _ _ _ _ h => h
theorem AtnsM.next {Q : Nat → Prop} {w w' : World} {v : Value} {l : List Atn} (h : AtnsM Q w v l) (hb : Below w.heap.size w w') : AtnsM Q w' v l := RowM.imp h (fun _ h => h) (Keeps.of_below hb) fun _ _ h => h
theorem jiu {Q : Nat → Prop} {w : World} {a : Option Addr} {c : Nat} {l : List Atn} (h : AtnsM Q w (.slice a l.length c) l) {i : Nat} {x : Atn} (hx : l[i]? = some x) : ∃ b o, a = some ⟨b, o, none⟩ ∧ w.cell? ⟨b, o + i * 3, none⟩ = some (.int .i64 x.kind) ∧ w.cell? ⟨b, o + i * 3 + 1, none⟩ = some (.string (S x.text)) ∧ w.cell? ⟨b, o + i * 3 + 2, none⟩ = some (.int .i64 x.flags) := by
 obtain ⟨a', c', hv, _, hr⟩ := h; simp only [Value.slice.injEq, true_and] at hv; obtain ⟨rfl, rfl⟩ := hv; obtain ⟨b, o, cs, rfl, _, _, _, hc, hP⟩ := hr i x hx; have hcs : cs = _ := hP; subst hcs; exact ⟨b, o, rfl, hc 0 _ rfl, hc 1 _ rfl, hc 2 _ rfl⟩
def CrsB (w : World) (B b : Nat) (c : Crs) (over : Bool) : Prop :=
 ∃ a k, w.heap[b]? = some (.cells #[.slice a c.acts.length k, .int .i64 c.flags, .bool c.asked, .int .i64 c.fault, .bool over] 147) ∧ OwnAs B w (.slice a c.acts.length k) c.acts ∧ some b ≠ (Value.slice a c.acts.length k).ownBlock ∧ B ≤ b
theorem CrsB.next {w w' : World} {B b : Nat} {c : Crs} {o : Bool} (h : CrsB w B b c o) (hb : Below w.heap.size w w') : CrsB w' B b c o := by
 obtain ⟨a, k, h1, ⟨css, h2, h3, h4, h5⟩, h6, h7⟩ := h; have hlt : b < w.heap.size := (Array.getElem?_eq_some_iff.1 h1).1; refine ⟨a, k, (hb.block b hlt).trans h1, ⟨css, ?_, h3, h4, h5⟩, h6, h7⟩; exact h2.kept (row := none) ⟨hb.os, hb.tape, hb.output, hb.size, fun k hk _ => hb.block k hk⟩ (by cases hv : (Value.slice a c.acts.length k).ownBlock <;> simp)
theorem box5 {w : World} {p : Nat} {v0 v1 v2 v3 v4 : Value} {t : TypeId} (h : w.heap[p]? = some (.cells #[v0, v1, v2, v3, v4] t)) :
 (w.cell? ⟨p, 0, none⟩ = some v0 ∧ w.cell? ⟨p, 1, none⟩ = some v1 ∧ w.cell? ⟨p, 2, none⟩ = some v2 ∧ w.cell? ⟨p, 3, none⟩ = some v3 ∧ w.cell? ⟨p, 4, none⟩ = some v4) ∧ w.frozen? ⟨p, 0, none⟩ = false ∧ w.frozen? ⟨p, 1, none⟩ = false ∧ w.frozen? ⟨p, 2, none⟩ = false ∧ w.frozen? ⟨p, 3, none⟩ = false ∧ w.frozen? ⟨p, 4, none⟩ = false := by
 refine ⟨⟨?_, ?_, ?_, ?_, ?_⟩, ?_, ?_, ?_, ?_, ?_⟩ <;> simp [World.cell?, World.frozen?, h]
theorem box3 {w : World} {p : Nat} {v0 v1 v2 : Value} {t : TypeId} (h : w.heap[p]? = some (.cells #[v0, v1, v2] t)) :
 w.cell? ⟨p, 0, none⟩ = some v0 ∧ w.cell? ⟨p, 1, none⟩ = some v1 ∧ w.cell? ⟨p, 2, none⟩ = some v2 := by
 refine ⟨?_, ?_, ?_⟩ <;> simp [World.cell?, h]
def rowB (w : World) (b : Nat) : Option Nat := (w.cell? ⟨b, 0, none⟩).bind Value.ownBlock
structure Frm (b : Nat) (w w' : World) : Prop where
 size : w.heap.size ≤ w'.heap.size
 keep : ∀ p, p < w.heap.size → p ≠ b → some p ≠ rowB w b → w'.heap[p]? = w.heap[p]?
 row : rowB w' b = rowB w b ∨ ∃ g, rowB w' b = some g ∧ w.heap.size ≤ g
theorem Frm.below {b : Nat} {w w' : World} (hb : b < w.heap.size) (h : Below w.heap.size w w') : Frm b w w' :=
 ⟨h.size, fun p hp _ _ => h.block p hp, .inl (by unfold rowB; rw [h.cell (p := ⟨b, 0, none⟩) hb])⟩
theorem Frm.trans {b : Nat} {x y z : World} (h : Frm b x y) (k : Frm b y z) : Frm b x z := by
 refine ⟨Nat.le_trans h.size k.size, fun p hp hne hr => ?_, ?_⟩
 · refine (k.keep p (Nat.lt_of_lt_of_le hp h.size) hne ?_).trans (h.keep p hp hne hr)
   rcases h.row with e | ⟨g, e, hg⟩
   · rw [e]; exact hr
   · rw [e]; intro e2; have := Option.some.inj e2; omega
 · rcases k.row with e | ⟨g, e, hg⟩
   · rw [e]; exact h.row
   · exact .inr ⟨g, e, Nat.le_trans h.size hg⟩
theorem Frm.set {b j : Nat} (w : World) (hj : j ≠ 0) (v : Value) : Frm b w (w.setCell ⟨b, j, none⟩ v) :=
 ⟨by simp [World.setCell], fun p _ hn _ => Below.heap_setCell _ _ _ _ hn, .inl (by unfold rowB; rw [World.cell?_setCell_other w _ _ _ (fun e => hj (congrArg Addr.off e))])⟩
theorem ja1 {w : World} {b : Nat} {v0 v1 v2 v3 v4 : Value} {t : TypeId} (h : w.heap[b]? = some (.cells #[v0, v1, v2, v3, v4] t)) : rowB w b = v0.ownBlock := by
 unfold rowB; rw [(box5 h).1.1]; rfl
theorem Frm.but {b : Nat} {w w' : World} {v0 v1 v2 v3 v4 u1 u2 u3 u4 : Value} {t t' : TypeId} (hb : But b w w') (h : w.heap[b]? = some (.cells #[v0, v1, v2, v3, v4] t)) (h' : w'.heap[b]? = some (.cells #[v0, u1, u2, u3, u4] t')) : Frm b w w' :=
 ⟨hb.size, fun p hp hn _ => hb.block p hp hn, .inl (by rw [ja1 h, ja1 h'])⟩
theorem Frm.app {b g H m cap n k : Nat} {a : Option Addr} {w w3 Wx w5 : World} {v1 v2 v3 v4 u0 u1 u2 u3 u4 : Value} {t t' : TypeId} (hb : But b w w3) (h0 : w.heap[b]? = some (.cells #[.slice a n k, v1, v2, v3, v4] t))
 (hal : ∀ p, p < w3.heap.size → Wx.heap[p]? = w3.heap[p]?) (hsz : w3.heap.size ≤ Wx.heap.size) (hg : Wx.grownBy w5 (Value.slice a n k).ownBlock) (hat : (Value.slice a n k).ownBlock = some g ∨ g = H) (hH : w.heap.size ≤ H) (h5 : w5.heap[b]? = some (.cells #[u0, u1, u2, u3, u4] t')) :
 Frm b w (w5.setCell ⟨b, 0, none⟩ (.slice (some ⟨g, 0, none⟩) m cap)) := by
 have hr : rowB (w5.setCell ⟨b, 0, none⟩ (.slice (some ⟨g, 0, none⟩) m cap)) b = some g := by
  unfold rowB; rw [World.cell?_setCell_same' w5 _ _ (by rw [(box5 h5).1.1]; rfl)]; rfl
 refine ⟨by have h1 := hb.size; have h2 := hg.size; simp [World.setCell]; omega, fun p hp hn hq => ?_, ?_⟩
 · rw [ja1 h0] at hq; have hp3 : p < w3.heap.size := Nat.lt_of_lt_of_le hp hb.size; rw [Below.heap_setCell _ _ _ _ hn, hg.block p (Nat.lt_of_lt_of_le hp3 hsz) hq, hal p hp3]; exact hb.block p hp hn
 · rw [hr, ja1 h0]
   rcases hat with e | e
   · exact .inl e.symm
   · exact .inr ⟨g, rfl, by omega⟩
theorem jdb (k : Int) (w : World) : Calls Tryz.prog 189 #[.int .i64 k] w fun e w' => e = .returned (.bool (jeM k)) ∧ w' = w := by
 go_enter Tryz.func189, Tryz.ntmps189; go_wp2
 all_goals
  go_ret; refine ⟨jg ?_, rfl⟩; unfold jeM
  simp_all
theorem jiA (a b : Int) (w : World) : Calls Tryz.prog 156 #[.int .i64 a, .int .i64 b] w fun e w' => e = .returned (.bool (vB a b)) ∧ w' = w := by
 by_cases ha : a = 7
 · by_cases hb : b = 7
   · subst ha; subst hb; go_enter Tryz.func156, Tryz.ntmps156; go_wp2; go_ret; exact ⟨rfl, rfl⟩
   · have hb' : (b == 7) = false := by simpa using hb
     have HE := hid (show vB a b = jeM b by unfold vB; rw [hb', ha]; simp); subst ha; clear hb; go_enter Tryz.func156, Tryz.ntmps156; go_wp2_with fail; refine (jdb b w).mono ?_; rintro e u ⟨rfl, hu⟩; have hu' := hu.symm; subst hu'; obtain ⟨q, hq⟩ : ∃ q, q = jeM b := ⟨_, rfl⟩; rw [← hq]; rw [← hq] at HE; clear hq; cases q
     all_goals
        go_wp2; go_ret; exact ⟨jg HE.out.symm, rfl⟩
 · have ha' : (a == 7) = false := by simpa using ha
   by_cases hb : b = 7
   · have HE := hid (show vB a b = jeM a by unfold vB; rw [ha', hb]; simp); subst hb; clear ha; go_enter Tryz.func156, Tryz.ntmps156; go_wp2_with fail; refine (jdb a w).mono ?_; rintro e u ⟨rfl, hu⟩; have hu' := hu.symm; subst hu'; obtain ⟨q, hq⟩ : ∃ q, q = jeM a := ⟨_, rfl⟩; rw [← hq]; rw [← hq] at HE; clear hq; cases q
     all_goals
        go_wp2; go_ret; exact ⟨jg HE.out.symm, rfl⟩
   · have hb' : (b == 7) = false := by simpa using hb
     have HE := hid (show vB a b = false by unfold vB; rw [hb', ha']; simp); clear ha hb; go_enter Tryz.func156, Tryz.ntmps156; go_wp2; go_ret; exact ⟨jg HE.out.symm, rfl⟩
theorem jm6 : ∀ args w, (callFunc 155 args).run Tryz.prog w = .ok (.enter 155 args) w := by intro args w; kernel_rfl
theorem jm7 : ∀ args w, (callFunc 158 args).run Tryz.prog w = .ok (.enter 158 args) w := by intro args w; kernel_rfl
theorem jkL (x y : Atn) (p : Nat) (w : World) (hp : w.heap[p]? = some (.cells #[.int .i64 x.kind, .string (S x.text), .int .i64 x.flags] 78)) :
 Calls Tryz.prog 155 #[.agg #[.int .i64 y.kind, .string (S y.text), .int .i64 y.flags], .pointer (some ⟨p, 0, none⟩)] w fun e w' => e = .returned (.bool (vB x.kind y.kind)) ∧ Below w.heap.size w w' := by
 obtain ⟨q0, q1, q2⟩ := box3 hp; have hlt : p < w.heap.size := (Array.getElem?_eq_some_iff.1 hp).1; obtain ⟨W0, hW0⟩ : ∃ W0, W0 = w.alloc (.cells #[.int .i64 y.kind, .string (S y.text), .int .i64 y.flags] 78) := ⟨_, rfl⟩; have HB0 := hid (show Below w.heap.size w W0 by rw [hW0]; exact nb0 _ _); have HWE := hid hW0; have q0' : (w.alloc (.cells #[.int .i64 y.kind, .string (S y.text), .int .i64 y.flags] 78)).cell? ⟨p, 0, none⟩ = some (.int .i64 x.kind) := by rw [← hW0]; exact jb q0 HB0.out
 clear hp hW0 q0 q1 q2; go_enter Tryz.func155, Tryz.ntmps155; go_wp2_with fail; rw [← HWE.out]; refine (jiA x.kind y.kind W0).mono ?_; rintro e u ⟨rfl, hu⟩; have hu' := hu.symm; subst hu'; go_wp2; go_ret; exact ⟨rfl, HB0.out⟩
theorem jkM (x y : Atn) (p : Nat) (w : World) (hp : w.heap[p]? = some (.cells #[.int .i64 x.kind, .string (S x.text), .int .i64 x.flags] 78)) :
 Calls Tryz.prog 158 #[.agg #[.int .i64 y.kind, .string (S y.text), .int .i64 y.flags], .pointer (some ⟨p, 0, none⟩)] w fun e w' => e = .returned (.bool (jcq x y)) ∧ Below w.heap.size w w' := by
 obtain ⟨q0, q1, q2⟩ := box3 hp; have hlt : p < w.heap.size := (Array.getElem?_eq_some_iff.1 hp).1; have HB0 := hid (show Below w.heap.size w (w.alloc (.cells #[.int .i64 y.kind, .string (S y.text), .int .i64 y.flags] 78)) from nb0 _ _); have q0' : (w.alloc (.cells #[.int .i64 y.kind, .string (S y.text), .int .i64 y.flags] 78)).cell? ⟨p, 0, none⟩ = some (.int .i64 x.kind) := jb q0 HB0.out; have q1' : (w.alloc (.cells #[.int .i64 y.kind, .string (S y.text), .int .i64 y.flags] 78)).cell? ⟨p, 1, none⟩ = some (.string (S x.text)) := jb q1 HB0.out; clear hp q0 q1 q2
 by_cases hk : x.kind = y.kind
 · have hk' : (x.kind == y.kind) = true := by simpa using hk
   by_cases ht : x.text = y.text
   · have HE := hid (show jcq x y = true by unfold jcq; simp [hk, ht]); have ht' : ((S x.text).toList == (S y.text).toList) = true := by rw [ht]; simp
     clear hk ht; go_enter Tryz.func158, Tryz.ntmps158; go_wp2; go_ret; exact ⟨jg HE.out.symm, HB0.out⟩
   · have HE := hid (show jcq x y = false by unfold jcq; simp [ht]); have ht' : ((S x.text).toList == (S y.text).toList) = false := by rw [Lib.toList_data, Lib.toList_data, jt, jt]; simpa using ht
     clear hk ht; go_enter Tryz.func158, Tryz.ntmps158; go_wp2; go_ret; exact ⟨jg HE.out.symm, HB0.out⟩
 · have hk' : (x.kind == y.kind) = false := by simpa using hk
   have HE := hid (show jcq x y = false by unfold jcq; simp [hk]); clear hk; go_enter Tryz.func158, Tryz.ntmps158; go_wp2; go_ret; exact ⟨jg HE.out.symm, HB0.out⟩
theorem But.setAt {b : Nat} (w : World) (j : Nat) (v : Value) : But b w (w.setCell ⟨b, j, none⟩ v) :=
 ⟨rfl, rfl, rfl, by simp [World.setCell], fun k _ hn => Below.heap_setCell _ _ _ _ hn⟩
theorem set5 {w : World} {b : Nat} {cs : Array Value} {t : TypeId} (h : w.heap[b]? = some (.cells cs t)) (j : Nat) (v : Value) : (w.setCell ⟨b, j, none⟩ v).heap[b]? = some (.cells (cs.setIfInBounds j v) t) := heap_setCell_same w b j cs t v h
theorem jold (w : World) (o : Obj) {k : Nat} (h : k < w.heap.size) : (w.alloc o).heap[k]? = w.heap[k]? := by
 show (w.heap.push o)[k]? = _
 rw [Array.getElem?_push_lt h, Array.getElem?_eq_getElem h]
theorem jlow {w w' : World} {b : Nat} {x : Obj} (h : Below w.heap.size w w') (hb : w.heap[b]? = some x) : w'.heap[b]? = some x := (h.block b (Array.getElem?_eq_some_iff.1 hb).1).trans hb
theorem jgh (b : Nat) (er : Int) (w : World) (v0 v1 v2 v3 v4 : Value) (h : w.heap[b]? = some (.cells #[v0, v1, v2, v3, v4] 147)) :
 Calls Tryz.prog 157 #[.pointer (some ⟨b, 0, none⟩), .int .i64 er] w fun e w' => (∃ v, e = .returned v) ∧ w'.heap[b]? = some (.cells #[v0, v1, v2, .int .i64 er, .bool true] 147) ∧ But b w w' := by
 obtain ⟨⟨q0, q1, q2, q3, q4⟩, f0, f1, f2, f3, f4⟩ := box5 h; have HH := hid h; clear h; go_enter Tryz.func157, Tryz.ntmps157; go_wp2; go_end0; refine ⟨⟨_, rfl⟩, ?_, (But.setAt w 3 _).trans (But.setAt _ 4 _)⟩; exact set5 (set5 HH.out 3 _) 4 _
theorem jjf : (Tryz.prog.info? 78).map (fun i => (i.zero, i.size, i.bytes)) = some (some (.agg #[.int .i64 0, .string ByteArray.empty, .int .i64 0]), 3, 32) := by kernel_rfl
theorem jgm (b : Nat) (a : Option Addr) (k : Nat) (l : List Atn) (p : Atn → Bool) (f : Nat) (cap : Array Value) (eg : ∀ args w, (callFunc f args).run Tryz.prog w = .ok (.enter f args) w) (w : World) (c0 : w.cell? ⟨b, 0, none⟩ = some (.slice a l.length k)) (hR : AtnsM anyB w (.slice a l.length k) l)
 (hf : ∀ (y : Atn) (u : World), Below w.heap.size w u → Calls Tryz.prog f (#[.agg #[.int .i64 y.kind, .string (S y.text), .int .i64 y.flags]] ++ cap) u fun e u' => e = .returned (.bool (p y)) ∧ Below u.heap.size u u') :
 Calls Tryz.prog 154 #[.pointer (some ⟨b, 0, none⟩), .func (.func f) #[] cap] w fun e w' => e = .returned (.bool (l.any p)) ∧ Below w.heap.size w w' := by
 have HC := hid (conA l p (fun x => .int .i64 x.kind) (fun x => .string (S x.text)) (fun x => .int .i64 x.flags) a k f cap eg w hR.small (fun i x hx u hu => jiu (hR.next hu) hx) (fun i x _ u hu => hf x u hu)); clear hf hR; go_enter Tryz.func154, Tryz.ntmps154; go_wp2_with fail; refine HC.out.mono ?_; rintro e w1 ⟨rfl, hb⟩; simp only; have HB := hid hb; clear hb; go_wp2; go_ret; exact ⟨rfl, HB.out⟩
theorem OwnAs.but {B r : Nat} {w w' : World} {v : Value} {l : List Atn} (h : OwnAs B w v l) (hb : But r w w') (hr : some r ≠ v.ownBlock) : OwnAs B w' v l := by
 obtain ⟨css, h2, h3, h4, h5⟩ := h; exact ⟨css, h2.kept (row := some r) ⟨hb.os, hb.tape, hb.output, hb.size, fun k hk hn => hb.block k hk (fun e => hn (by rw [e]))⟩ (.inr fun e => hr e.symm), h3, h4, h5⟩
theorem OwnAs.below {B : Nat} {w w' : World} {v : Value} {l : List Atn} (h : OwnAs B w v l) (hb : Below w.heap.size w w') : OwnAs B w' v l := by
 obtain ⟨css, h2, h3, h4, h5⟩ := h; exact ⟨css, h2.kept (row := none) ⟨hb.os, hb.tape, hb.output, hb.size, fun k hk _ => hb.block k hk⟩ (by cases hv : v.ownBlock <;> simp), h3, h4, h5⟩
theorem jbU (B b : Nat) (c : Crs) (x : Atn) (w : World) (h : CrsB w B b c false) (hl : c.acts.length ≤ 6) :
 Calls Tryz.prog 117 #[.pointer (some ⟨b, 0, none⟩), .agg #[.int .i64 x.kind, .string (S x.text), .int .i64 x.flags]] w fun e w' => (∃ v, e = .returned v) ∧ CrsB w' B b (askP c x).1 (askP c x).2 ∧ Below B w w' ∧ Frm b w w' := by
 obtain ⟨a, k, h1, h2, hne0, hBb⟩ := h; have H0 := hid h1; have hlt : b < w.heap.size := (Array.getElem?_eq_some_iff.1 h1).1; obtain ⟨r, hr⟩ : ∃ r, r = askP c x := ⟨_, rfl⟩; rw [← hr]; unfold askP at hr; have HR := hid hr; clear hr; obtain ⟨W1, hW1⟩ : ∃ W1, W1 = (w.setCell ⟨b, 2, none⟩ (.bool true)).alloc (.cells #[.int .i64 x.kind, .string (S x.text), .int .i64 x.flags] 78) := ⟨_, rfl⟩; have HWE := hid hW1; have hz : (w.setCell ⟨b, 2, none⟩ (.bool true)).heap.size = w.heap.size := by simp [World.setCell]
 have hal : Below w.heap.size (w.setCell ⟨b, 2, none⟩ (.bool true)) W1 := by rw [hW1]; exact (Below.refl _ _).alloc (by omega) _
 have HH1 := hid (show W1.heap[b]? = some (.cells #[.slice a c.acts.length k, .int .i64 c.flags, .bool true, .int .i64 c.fault, .bool false] 147) from (hal.block b hlt).trans (set5 h1 2 _)); have HX1 := hid (show W1.heap[w.heap.size]? = some (.cells #[.int .i64 x.kind, .string (S x.text), .int .i64 x.flags] 78) by rw [hW1, ← hz]; exact heap_alloc_new _ _); have HBt := hid (show But b w W1 from (But.setAt w 2 _).trans (But.of (by rw [hz]; exact hal))); have HO1 := hid (OwnAs.but h2 HBt.out hne0); have hs1 : W1.heap.size = w.heap.size + 1 := by rw [hW1]; simp [World.setCell]
 obtain ⟨⟨q0, q1, q2, q3, q4⟩, f0, f1, f2, f3, f4⟩ := box5 h1; clear h1 h2 hW1 hal hz; go_enter Tryz.func117, Tryz.ntmps117; go_wp2_with fail; rw [← HWE.out]; clear q0 q1 q2 q3 q4 f0 f1 f2 f3 f4 HWE; have HRow := hid (show AtnsM anyB W1 (.slice a c.acts.length k) c.acts from RowM.imp (OwnRow.rowM jbJ HO1.out (by unfold maxLen; omega)) (fun _ _ => trivial) (Keeps.refl _ _) fun _ _ h => h); have HF1 := hid (show ∀ (y : Atn) (u : World), Below W1.heap.size W1 u → Calls Tryz.prog 155 (#[.agg #[.int .i64 y.kind, .string (S y.text), .int .i64 y.flags]] ++ #[.pointer (some ⟨w.heap.size, 0, none⟩)]) u fun e u' => e = .returned (.bool (vB x.kind y.kind)) ∧ Below u.heap.size u u' from fun y u hu => jkL x y w.heap.size u (jlow hu HX1.out)); have HP1 := hid (jgm b a k c.acts (fun y => vB x.kind y.kind) 155 #[.pointer (some ⟨w.heap.size, 0, none⟩)] jm6 W1 (box5 HH1.out).1.1 HRow.out HF1.out); refine HP1.out.mono ?_; rintro e w2 ⟨rfl, hb2⟩; simp only; have HB2 := hid (HBt.out.trans (But.of hb2)); have HH2 := hid (jlow hb2 HH1.out); have HX2 := hid (jlow hb2 HX1.out); have HO2 := hid (OwnAs.below HO1.out hb2); have HRow2 := hid (AtnsM.next HRow.out hb2); clear hb2; cases hq : c.acts.any (fun y => vB x.kind y.kind) with
 | true =>
   rw [if_pos hq] at HR; clear hq; go_wp2_with fail; refine (jgh b 9 w2 _ _ _ _ _ HH2.out).mono ?_; rintro e w3 ⟨⟨v, rfl⟩, hh3, hb3⟩; simp only; have HE := hid (show CrsB w3 B b r.1 r.2 ∧ Below B w w3 ∧ Frm b w w3 from ⟨by rw [HR.out]; exact ⟨a, k, hh3, OwnAs.but HO2.out hb3 hne0, hne0, hBb⟩, (HB2.out.trans hb3).below hBb (by omega), Frm.but (HB2.out.trans hb3) H0.out hh3⟩); clear hh3 hb3; go_wp2; go_end0; exact ⟨⟨_, rfl⟩, HE.out.1, HE.out.2⟩
 | false =>
   rw [if_neg (by rw [hq]; simp)] at HR; clear hq; have HF2 := hid (show ∀ (y : Atn) (u : World), Below w2.heap.size w2 u → Calls Tryz.prog 158 (#[.agg #[.int .i64 y.kind, .string (S y.text), .int .i64 y.flags]] ++ #[.pointer (some ⟨w.heap.size, 0, none⟩)]) u fun e u' => e = .returned (.bool (jcq x y)) ∧ Below u.heap.size u u' from fun y u hu => jkM x y w.heap.size u (jlow hu HX2.out)); have HP2 := hid (jgm b a k c.acts (fun y => jcq x y) 158 #[.pointer (some ⟨w.heap.size, 0, none⟩)] jm7 w2 (box5 HH2.out).1.1 HRow2.out HF2.out); go_wp2_with fail; refine HP2.out.mono ?_; rintro e w3 ⟨rfl, hb3⟩; simp only; have HB3 := hid (HB2.out.trans (But.of hb3)); have HH3 := hid (jlow hb3 HH2.out); have HX3 := hid (jlow hb3 HX2.out); have HO3 := hid (OwnAs.below HO2.out hb3); have hs3 : w.heap.size + 1 ≤ w3.heap.size := by have := HB2.out.size; have := hb3.size; have := (Array.getElem?_eq_some_iff.1 HX2.out).1; omega
   clear hb3; cases hq : c.acts.any (fun y => jcq x y) with
   | true =>
     rw [if_pos hq] at HR; clear hq; have HE := hid (show CrsB w3 B b r.1 r.2 ∧ Below B w w3 ∧ Frm b w w3 from ⟨by rw [HR.out]; exact ⟨a, k, HH3.out, HO3.out, hne0, hBb⟩, HB3.out.below hBb (by omega), Frm.but HB3.out H0.out HH3.out⟩); go_wp2; go_end0; exact ⟨⟨_, rfl⟩, HE.out.1, HE.out.2⟩
   | false =>
     rw [if_neg (by rw [hq]; simp)] at HR; clear hq; obtain ⟨⟨q0, q1, q2, q3, q4⟩, f0, f1, f2, f3, f4⟩ := box5 HH3.out
     by_cases h6 : 6 ≤ c.acts.length
     · rw [if_pos h6] at HR; have h6' : (6 : Int) ≤ (c.acts.length : Int) := by omega
       go_wp2_with fail; refine (jgh b 5 w3 _ _ _ _ _ HH3.out).mono ?_; rintro e w4 ⟨⟨v, rfl⟩, hh4, hb4⟩; simp only; have HE := hid (show CrsB w4 B b r.1 r.2 ∧ Below B w w4 ∧ Frm b w w4 from ⟨by rw [HR.out]; exact ⟨a, k, hh4, OwnAs.but HO3.out hb4 hne0, hne0, hBb⟩, (HB3.out.trans hb4).below hBb (by omega), Frm.but (HB3.out.trans hb4) H0.out hh4⟩); clear hh4 hb4; go_wp2; go_end0; exact ⟨⟨_, rfl⟩, HE.out.1, HE.out.2⟩
     · rw [if_neg h6] at HR; have h6' : ¬ (6 : Int) ≤ (c.acts.length : Int) := by omega
       obtain ⟨x0, x1, x2⟩ := box3 HX3.out; obtain ⟨i0, hi, hz0, hz1, hz2⟩ := info_parts jjf; obtain ⟨css, o1, o2, o3, o4⟩ := HO3.out; have HO4 := hid o4; have HL3 := hid (show Below B w w3 from HB3.out.below hBb (by omega)); have hge : ∀ j, (Value.slice a c.acts.length k).ownBlock = some j → B ≤ j := fun j hj => (World.ownsRow.lt o1 j hj).1
       have hb3 : b < w3.heap.size := by omega
       have hb3n : b ≠ w3.heap.size := by omega
       have q0a : (w3.alloc (.cells #[.int .i64 x.kind, .string (S x.text), .int .i64 x.flags] 78)).cell? ⟨b, 0, none⟩ = some (.slice a c.acts.length k) := jb q0 (nb0 _ _); have HJO := hid (show ∀ o : Obj, ∀ p, p < w3.heap.size → (w3.drew.alloc o).heap[p]? = w3.heap[p]? from fun o p hp => jold w3.drew o hp); have HJS := hid (show ∀ o : Obj, w3.heap.size ≤ (w3.drew.alloc o).heap.size from fun o => by simp); have HJH := hid (show ∀ o : Obj, w.heap.size ≤ (w3.drew.alloc o).heap.size from fun o => by simp; omega); clear o4; go_wp2
       go_region_law
         (refine step_append_lies _ (by rfl) _ _ _ (by rfl) B 78 i0 _ 3 32 Tryz.underlying72 hi hz0 hz1 hz2 rfl (by omega) (.slice a c.acts.length k) c.acts.length css.flatten (by rfl) (by first | exact World.ownsRow.alloc (show World.ownsRow w3.drew _ _ _ _ _ _ from o1) _ | exact (World.ownsRow.alloc o1 _).drew)
             ⟨w3.heap.size, 0, none⟩ 1 1 [.int .i64 x.kind, .string (S x.text), .int .i64 x.flags] (by rfl) (by rfl) (by first | exact jgH w3.drew _ rfl _ _ _ _ | exact jgH w3 _ rfl _ _ _ _) (by simp [Value.oneCell']) (by omega) (by unfold maxLen; omega) (by omega) (by simp; omega) _ rfl ?_
          intro g cap w5 hown5 hgrow hat hlt5; have HBb := hid (show w5.heap[b]? = some (.cells #[.slice a c.acts.length k, .int .i64 c.flags, .bool true, .int .i64 c.fault, .bool false] 147) from (hgrow.block b (by simp; omega) hne0).trans ((jold w3.drew _ (show b < w3.heap.size by omega)).trans HH3.out)); have HBl := hid (show Below B w w5 from ((HL3.out.drew).alloc (by simp; omega) _).grown hgrow (by simp; omega) hge); have HOn := hid (show OwnAs B w5 (.slice (some ⟨g, 0, none⟩) (c.acts.length + 1) cap) (c.acts ++ [x]) from OwnRow.more jbJ o2 o3 HO4.out rfl rfl hown5 hgrow (by
             rcases hat with e | e
             · exact .inl e.symm
             · exact .inr (by rw [e]; rfl)) (Nat.le_refl _))
          have HGB := hid (show some b ≠ (Value.slice (some ⟨g, 0, none⟩) (c.acts.length + 1) cap).ownBlock from fun e => by
             have e' : b = g := Option.some.inj e
             rcases hat with h | h
             · exact hne0 (by rw [e']; exact h.symm)
             · simp at h; omega)
          have HFr := hid (show Frm b w (w5.setCell ⟨b, 0, none⟩ (.slice (some ⟨g, 0, none⟩) (c.acts.length + 1) cap)) from Frm.app HB3.out H0.out (HJO.out _) (HJS.out _) hgrow hat (HJH.out _) HBb.out); obtain ⟨⟨t0, t1, t2, t3, t4⟩, u0, u1, u2, u3, u4⟩ := box5 HBb.out; clear hgrow hat hown5)
       all_goals
         have HE := hid (show CrsB (w5.setCell ⟨b, 0, none⟩ (.slice (some ⟨g, 0, none⟩) (c.acts.length + 1) cap)) B b r.1 r.2 ∧ Below B w (w5.setCell ⟨b, 0, none⟩ (.slice (some ⟨g, 0, none⟩) (c.acts.length + 1) cap)) from ⟨by
           rw [HR.out]; refine ⟨some ⟨g, 0, none⟩, cap, ?_, ?_, by simpa using HGB.out, hBb⟩
           · have := set5 HBb.out 0 (.slice (some ⟨g, 0, none⟩) (c.acts.length + 1) cap)
             simpa using this
           · have := OwnAs.but HOn.out (But.setAt (b := b) w5 0 (.slice (some ⟨g, 0, none⟩) (c.acts.length + 1) cap)) HGB.out
             simpa using this, HBl.out.setCell (by simp; omega) _⟩)
         go_wp2; go_end0; exact ⟨⟨_, rfl⟩, HE.out.1, HE.out.2, HFr.out⟩
theorem jdS (k : Int) (l d : ByteArray) (w : World) (hl : l.size ≤ 140737488355328) (hd : d.size ≤ 140737488355328) :
 Calls Tryz.prog 74 #[.int .i64 k, .agg #[.string l, .string d]] w fun e w' => e = .returned (.tuple #[.string (S (qx k l.data.toList d.data.toList).1), .int .i64 (qx k l.data.toList d.data.toList).2]) ∧ Below w.heap.size w w' := by
 have HL : Hid _ := hl; have HD : Hid _ := hd; have hN : Below w.heap.size w (w.alloc (.cells #[.string l, .string d] 35)) := nb0 _ _; have HN : Hid _ := hN; have hc0 : ∀ u, Below (w.heap.size + 1) (w.alloc (.cells #[.string l, .string d] 35)) u → u.cell? ⟨w.heap.size, 0, none⟩ = some (.string l) := fun u hb => (hb.cell (by simp)).trans (by simp)
 have hc1 : ∀ u, Below (w.heap.size + 1) (w.alloc (.cells #[.string l, .string d] 35)) u → u.cell? ⟨w.heap.size, 1, none⟩ = some (.string d) := fun u hb => (hb.cell (by simp)).trans (by simp)
 clear hN hl hd
 by_cases h0 : jK l.data.toList d.data.toList = 0
 · have HC : Hid _ := h0; have HP : Hid (qx k l.data.toList d.data.toList = if k = 1 then (l.data.toList ++ 64 :: d.data.toList, 0) else if k = 2 then (l.data.toList, 0) else if k = 3 then (d.data.toList, 0) else ([], 2)) := by
    unfold Hid qx; rw [if_neg (by simpa using h0)]
   clear h0
   by_cases k1 : k = 1
   · subst k1; have HQ : Hid (qx 1 l.data.toList d.data.toList = (l.data.toList ++ 64 :: d.data.toList, 0)) := by unfold Hid; rw [HP.out]; rfl
     clear HP; go_enter Tryz.func74, Tryz.ntmps74; go_wp2_with fail; refine (qd l d _ HL.out HD.out).mono ?_; rintro e u ⟨rfl, hb⟩; rw [HC.out]; have c0 := hc0 u (by simpa using hb); have c1 := hc1 u (by simpa using hb); have hl : l.size ≤ 100 := by have := jcZ HC.out; rw [size_list, size_list] at this; omega
     have hd : d.size ≤ 100 := by have := jcZ HC.out; rw [size_list, size_list] at this; omega
     clear hc0 hc1; go_wp2; go_ret2; refine ⟨?_, jd7 HN.out hb (Nat.le_refl _)⟩; rw [HQ.out, ← jmL]; rfl
   · by_cases k2 : k = 2
     · subst k2; have HQ : Hid (qx 2 l.data.toList d.data.toList = (l.data.toList, 0)) := by unfold Hid; rw [HP.out]; rfl
       clear HP k1; go_enter Tryz.func74, Tryz.ntmps74; go_wp2_with fail; refine (qd l d _ HL.out HD.out).mono ?_; rintro e u ⟨rfl, hb⟩; rw [HC.out]; have c0 := hc0 u (by simpa using hb); clear hc0 hc1; go_wp2; go_ret2; refine ⟨?_, jd7 HN.out hb (Nat.le_refl _)⟩; rw [HQ.out, zZ]; rfl
     · by_cases k3 : k = 3
       · subst k3; have HQ : Hid (qx 3 l.data.toList d.data.toList = (d.data.toList, 0)) := by unfold Hid; rw [HP.out]; rfl
         clear HP k1 k2; go_enter Tryz.func74, Tryz.ntmps74; go_wp2_with fail; refine (qd l d _ HL.out HD.out).mono ?_; rintro e u ⟨rfl, hb⟩; rw [HC.out]; have c1 := hc1 u (by simpa using hb); clear hc0 hc1; go_wp2; go_ret2; refine ⟨?_, jd7 HN.out hb (Nat.le_refl _)⟩; rw [HQ.out, zZ]; rfl
       · have HQ : Hid (qx k l.data.toList d.data.toList = ([], 2)) := by unfold Hid; rw [HP.out, if_neg k1, if_neg k2, if_neg k3]
         clear HP hc0 hc1; go_enter Tryz.func74, Tryz.ntmps74; go_wp2_with fail; refine (qd l d _ HL.out HD.out).mono ?_; rintro e u ⟨rfl, hb⟩; rw [HC.out]; go_wp2; go_ret2; refine ⟨?_, jd7 HN.out hb (Nat.le_refl _)⟩; rw [HQ.out]; rfl
 · have HQ : Hid (qx k l.data.toList d.data.toList = ([], jK l.data.toList d.data.toList)) := by unfold Hid qx; rw [if_pos h0]
   clear hc0 hc1; obtain ⟨x, hx⟩ : ∃ x, x = jK l.data.toList d.data.toList := ⟨_, rfl⟩; rw [← hx] at h0 HQ; have HX : Hid _ := hx; clear hx; go_enter Tryz.func74, Tryz.ntmps74; go_wp2_with fail; refine (qd l d _ HL.out HD.out).mono ?_; rintro e u ⟨rfl, hb⟩; rw [← HX.out]; go_wp2; go_ret2; refine ⟨?_, jd7 HN.out hb (Nat.le_refl _)⟩; rw [HQ.out]; rfl
end Go.Proofs.YtgfbdgheencmaaaGreatDoor
