/-
  What who.Part does: the walk.
  What package judge does with a course, command by command: the walks.
  What a command asks for, and what becomes of a course by it: the walks.
  What a command does with a course on its way: the walk.
  Courses that may be: plain facts.
-/
import Derived.Test.YtaapmpchcfcniaaGreatDoorYWhoChk
import Derived.Test.YtaapmpchcfcniaaGreatDoorYQCodPur6
import Derived.Test.YtaapmpchcfcniaaGreatDoorYQJudCrs5
import Derived.Test.YtaapmpchcfcniaaGreatDoorYRulCs
namespace Go.Proofs.YtaapmpchcfcniaaGreatDoor
open Go.RowKit
set_option maxHeartbeats 2000000 in
theorem jfa (k : Int) (l d : ByteArray) (w : World) (hl : l.size ≤ 140737488355328) (hd : d.size ≤ 140737488355328) :
    Calls Tryz.prog 99 #[.int .i64 k, .agg #[.string l, .string d]] w fun e w' => e = .returned (.tuple #[.string (S (jac k l.data.toList d.data.toList).1), .int .i64 (jac k l.data.toList d.data.toList).2]) ∧ Below w.heap.size w w' := by
  have HL : Hid _ := hl; have HD : Hid _ := hd; have hN : Below w.heap.size w (w.alloc (.cells #[.string l, .string d] 29)) := (Below.refl _ _).alloc (Nat.le_refl _) _; have HN : Hid _ := hN; have hc0 : ∀ u, Below (w.heap.size + 1) (w.alloc (.cells #[.string l, .string d] 29)) u → u.cell? ⟨w.heap.size, 0, none⟩ = some (.string l) := fun u hb => (hb.cell (by simp)).trans (by simp)
  have hc1 : ∀ u, Below (w.heap.size + 1) (w.alloc (.cells #[.string l, .string d] 29)) u → u.cell? ⟨w.heap.size, 1, none⟩ = some (.string d) := fun u hb => (hb.cell (by simp)).trans (by simp)
  clear hN hl hd
  by_cases h0 : jN l.data.toList d.data.toList = 0
  · have HC : Hid _ := h0; have HP : Hid (jac k l.data.toList d.data.toList = if k = 1 then (l.data.toList ++ 64 :: d.data.toList, 0) else if k = 2 then (l.data.toList, 0) else if k = 3 then (d.data.toList, 0) else ([], 2)) := by
      unfold Hid jac; rw [if_neg (by simpa using h0)]
    clear h0
    by_cases k1 : k = 1
    · subst k1; have HQ : Hid (jac 1 l.data.toList d.data.toList = (l.data.toList ++ 64 :: d.data.toList, 0)) := by unfold Hid; rw [HP.out]; rfl
      clear HP; go_enter Tryz.func99, Tryz.ntmps99; go_wp2_with fail; refine (zU l d _ HL.out HD.out).mono ?_; rintro e u ⟨rfl, hb⟩; rw [HC.out]; have c0 := hc0 u (by simpa using hb); have c1 := hc1 u (by simpa using hb); have hl : l.size ≤ 100 := by have := jcj HC.out; rw [size_list, size_list] at this; omega
      have hd : d.size ≤ 100 := by have := jcj HC.out; rw [size_list, size_list] at this; omega
      clear hc0 hc1; go_wp2; go_ret2; refine ⟨?_, jda HN.out hb (Nat.le_refl _)⟩; rw [HQ.out, ← jkS]; rfl
    · by_cases k2 : k = 2
      · subst k2; have HQ : Hid (jac 2 l.data.toList d.data.toList = (l.data.toList, 0)) := by unfold Hid; rw [HP.out]; rfl
        clear HP k1; go_enter Tryz.func99, Tryz.ntmps99; go_wp2_with fail; refine (zU l d _ HL.out HD.out).mono ?_; rintro e u ⟨rfl, hb⟩; rw [HC.out]; have c0 := hc0 u (by simpa using hb); clear hc0 hc1; go_wp2; go_ret2; refine ⟨?_, jda HN.out hb (Nat.le_refl _)⟩; rw [HQ.out, qe]; rfl
      · by_cases k3 : k = 3
        · subst k3; have HQ : Hid (jac 3 l.data.toList d.data.toList = (d.data.toList, 0)) := by unfold Hid; rw [HP.out]; rfl
          clear HP k1 k2; go_enter Tryz.func99, Tryz.ntmps99; go_wp2_with fail; refine (zU l d _ HL.out HD.out).mono ?_; rintro e u ⟨rfl, hb⟩; rw [HC.out]; have c1 := hc1 u (by simpa using hb); clear hc0 hc1; go_wp2; go_ret2; refine ⟨?_, jda HN.out hb (Nat.le_refl _)⟩; rw [HQ.out, qe]; rfl
        · have HQ : Hid (jac k l.data.toList d.data.toList = ([], 2)) := by unfold Hid; rw [HP.out, if_neg k1, if_neg k2, if_neg k3]
          clear HP hc0 hc1; go_enter Tryz.func99, Tryz.ntmps99; go_wp2_with fail; refine (zU l d _ HL.out HD.out).mono ?_; rintro e u ⟨rfl, hb⟩; rw [HC.out]; go_wp2; go_ret2; refine ⟨?_, jda HN.out hb (Nat.le_refl _)⟩; rw [HQ.out]; rfl
  · have HQ : Hid (jac k l.data.toList d.data.toList = ([], jN l.data.toList d.data.toList)) := by unfold Hid jac; rw [if_pos h0]
    clear hc0 hc1; obtain ⟨x, hx⟩ : ∃ x, x = jN l.data.toList d.data.toList := ⟨_, rfl⟩; rw [← hx] at h0 HQ; have HX : Hid _ := hx; clear hx; go_enter Tryz.func99, Tryz.ntmps99; go_wp2_with fail; refine (zU l d _ HL.out HD.out).mono ?_; rintro e u ⟨rfl, hb⟩; rw [← HX.out]; go_wp2; go_ret2; refine ⟨?_, jda HN.out hb (Nat.le_refl _)⟩; rw [HQ.out]; rfl
end Go.Proofs.YtaapmpchcfcniaaGreatDoor
namespace Go.Proofs.YtaapmpchcfcniaaGreatDoor
open Go.RowKit Go.Proofs
theorem jmq : ∀ (p : Addr) (n c : Nat) (w : World), (binOp BinOp.eql 40 (.slice (some p) n c) (.slice none 0 0)).run Tryz.prog w = .ok (.bool false) w := by intro p n c w; kernel_rfl
theorem jlt : ∀ (w : World), (binOp BinOp.eql 40 (.slice none 0 0) (.slice none 0 0)).run Tryz.prog w = .ok (.bool true) w := by intro w; kernel_rfl
set_option maxHeartbeats 1000000 in
set_option maxRecDepth 100000 in
theorem jgZ (l : List Atn) (a : Option Addr) (c : Nat) (w : World) (h : AtnsM anyB w (.slice a l.length c) l) (hl : l.length ≤ 6) (hn : a = none → l = [] ∧ c = 0) :
    Calls Tryz.prog 125 #[.slice a l.length c] w fun e w' => ∃ a' c', e = .returned (.slice a' l.length c') ∧ OwnAs w.heap.size w' (.slice a' l.length c') l ∧ Below w.heap.size w w' := by
  have heq := jmq; have heq0 := jlt; cases a with
  | none =>
    obtain ⟨rfl, rfl⟩ := hn rfl; go_enter Tryz.func125, Tryz.ntmps125; go_wp2; go_ret; exact ⟨_, _, rfl, OwnRow.nil _ _ _ _ _, Below.refl _ _⟩
  | some p =>
    obtain ⟨W1, hW1⟩ : ∃ W1, W1 = w.alloc (.cells #[] 128) := ⟨_, rfl⟩; have HWE := hid hW1; have HB1 := hid (show Below w.heap.size w W1 by rw [hW1]; exact (Below.refl _ _).alloc (Nat.le_refl _) _); have hs1 : W1.heap.size = w.heap.size + 1 := by rw [hW1]; simp
    have HO1 := hid (show W1.ownsRow w.heap.size 128 3 (.slice (some ⟨w.heap.size, 0, none⟩) 0 0) 0 [] from ⟨rfl, .inr ⟨w.heap.size, 0, #[], rfl, Nat.le_refl _, by rw [hW1]; exact heap_alloc_new w _, Nat.le_refl _, by unfold maxLen; omega, rfl, rfl⟩⟩); have HR1 := hid (AtnsM.next h HB1.out); clear h hW1
    by_cases h0 : l = []
    · subst h0; go_enter Tryz.func125, Tryz.ntmps125; go_wp2; have HO2 := hid (show OwnAs w.heap.size W1 (.slice (some ⟨w.heap.size, 0, none⟩) 0 0) [] from ⟨[], HO1.out, rfl, (fun cs h => by cases h), (fun i x cs h => by simp at h)⟩); rw [← HWE.out]; go_ret; exact ⟨_, _, rfl, HO2.out, HB1.out⟩
    · have hpos : 0 < l.length := List.length_pos_iff.2 h0; obtain ⟨b, o, rfl⟩ : ∃ b o, p = ⟨b, o, none⟩ := by
        cases l with
        | nil => exact absurd rfl h0
        | cons x r =>
          obtain ⟨b, o, he, _⟩ := jkv HR1.out (i := 0) rfl; exact ⟨b, o, Option.some.inj he⟩
      obtain ⟨i0, hi, hz0, hz1, hz2⟩ := info_parts jhv; obtain ⟨css, n1, n2, n3, n4⟩ := jdL HR1.out l.length (Nat.le_refl _); have HN3 := hid n3; have HN4 := hid (show ∀ (j : Nat) u, css.flatten[j]? = some u → W1.cell? ((⟨b, o, none⟩ : Addr).add j) = some u from fun j u hj => by rw [Addr.add_lit]; exact n4 j u hj); have hfl : css.flatten.length = l.length * 3 := by rw [jaI n2, n1]
      have HONE := hid (show ∀ u ∈ css.flatten, u.oneCell' = true from fun u hu => by
        obtain ⟨cs, hcs, hu2⟩ := List.mem_flatten.1 hu; obtain ⟨q, hq, hqe⟩ := List.getElem_of_mem hcs; have hq2 : css[q]? = some cs := by rw [List.getElem?_eq_getElem hq, hqe]
        have hP : cs = _ := n3 q _ cs (List.getElem?_eq_getElem (by omega)) hq2; rw [hP] at hu2
        simp at hu2
        rcases hu2 with rfl | rfl | rfl <;> rfl)
      clear n3 n4 h0; go_enter Tryz.func125, Tryz.ntmps125
      go_wp2_with (at_builtin; refine wpList_append_lies _ rfl _ _ 40 rfl w.heap.size 128 i0 _ 3 32 Tryz.underlying40 hi hz0 hz1 hz2 rfl (by decide) (.slice (some ⟨w.heap.size, 0, none⟩) 0 0) 0 [] rfl ?k1 ⟨b, o, none⟩ l.length c css.flatten rfl hfl ?k2 HONE.out hpos ?k3 ?k4 ?k5 _ rfl ?_)
      case k1 => rw [← HWE.out]; exact HO1.out
      case k2 => rw [← HWE.out]; exact HN4.out
      case k3 => unfold maxLen; omega
      case k4 => omega
      case k5 => rw [← HWE.out]; omega
      rw [← HWE.out]; intro g cap w3 hown3 hgrow hat hlt3; have HO3 := hid (show OwnAs w.heap.size w3 (.slice (some ⟨g, 0, none⟩) l.length cap) l from ⟨css, by simpa using hown3, n1, n2, HN3.out⟩); have HB3 := hid (show Below w.heap.size w w3 from HB1.out.grown hgrow (by omega) (fun j hj => by have h1 : w.heap.size = j := Option.some.inj hj; omega)); clear hown3 hgrow hat; go_wp2; go_ret; exact ⟨_, _, rfl, HO3.out, HB3.out⟩
theorem OwnAs.far {B : Nat} {w : World} {v u : Value} {l : List Atn} {p : Addr} (h : OwnAs B w v l) (hp : p.block < B) : OwnAs B (w.setCell p u) v l := by
  obtain ⟨css, h2, h3, h4, h5⟩ := h; refine ⟨css, h2.kept (row := some p.block) ⟨rfl, rfl, rfl, by simp [World.setCell], fun k _ hn => Below.heap_setCell _ _ _ _ (fun e => hn (by rw [e]))⟩ ?_, h3, h4, h5⟩; cases hv : v.ownBlock with
  | none => exact .inl rfl
  | some j => exact .inr fun e => by have := (World.ownsRow.lt h2 j hv).1; have := Option.some.inj e; omega
theorem OwnAs.low {B B' : Nat} {w : World} {v : Value} {l : List Atn} (h : OwnAs B w v l) (hB : B' ≤ B) : OwnAs B' w v l := by
  obtain ⟨css, ⟨h1, h2⟩, h3, h4, h5⟩ := h; refine ⟨css, ⟨h1, ?_⟩, h3, h4, h5⟩
  rcases h2 with h2 | ⟨g, cap, cur, e, hb, r⟩
  · exact .inl h2
  · exact .inr ⟨g, cap, cur, e, Nat.le_trans hB hb, r⟩
set_option maxHeartbeats 1000000 in
set_option maxRecDepth 100000 in
theorem jhP (c : Crs) (a : Option Addr) (k : Nat) (w : World) :
    Calls Tryz.prog 83 #[.agg #[.slice a c.acts.length k, .int .i64 c.flags, .bool c.asked, .int .i64 c.fault]] w fun e w' => e = .returned (.bool (decide (c.acts.length ≤ 6) && (decide (0 ≤ c.flags) && decide (c.flags ≤ 31)))) ∧ Below w.heap.size w w' := by
  have HB := hid (show Below w.heap.size w (w.alloc (.cells #[.slice a c.acts.length k, .int .i64 c.flags, .bool c.asked, .int .i64 c.fault] 42)) from (Below.refl _ _).alloc (Nat.le_refl _) _)
  by_cases h1 : c.acts.length ≤ 6
  · have h1' : (c.acts.length : Int) ≤ 6 := by omega
    by_cases h2 : 0 ≤ c.flags
    · by_cases h3 : c.flags ≤ 31
      all_goals
        have HE := hid (show (decide (c.acts.length ≤ 6) && (decide (0 ≤ c.flags) && decide (c.flags ≤ 31))) = decide (c.flags ≤ 31) by simp [h1, h2]); rw [HE.out]; go_enter Tryz.func83, Tryz.ntmps83; go_wp2; go_ret; exact ⟨jg (by simp [h3]), HB.out⟩
    · have HE := hid (show (decide (c.acts.length ≤ 6) && (decide (0 ≤ c.flags) && decide (c.flags ≤ 31))) = false by simp [h2]); rw [HE.out]; go_enter Tryz.func83, Tryz.ntmps83; go_wp2; go_ret; exact ⟨jg (by simp), HB.out⟩
  · have h1' : ¬ (c.acts.length : Int) ≤ 6 := by omega
    have HE := hid (show (decide (c.acts.length ≤ 6) && (decide (0 ≤ c.flags) && decide (c.flags ≤ 31))) = false by simp [h1]); rw [HE.out]; go_enter Tryz.func83, Tryz.ntmps83; go_wp2; go_ret; exact ⟨jg (by simp), HB.out⟩
end Go.Proofs.YtaapmpchcfcniaaGreatDoor
namespace Go.Proofs.YtaapmpchcfcniaaGreatDoor
open Go.RowKit Go.Proofs
def zj (l : List (List UInt8)) : Nat := (zJ l).getD 0
def jdm (s : List UInt8) : List UInt8 := (jac 1 ((zr s).1.getD 0 ([], [])).1 ((zr s).1.getD 0 ([], [])).2).1
def actP (f : Int) (x : Cmd) : Atn :=
  ⟨x.kind, if x.kind = 5 ∨ x.kind = 7 then x.texts.getD 0 [] else if x.kind = 6 then jdm (x.texts.getD 0 []) else [], if x.kind = 3 ∨ x.kind = 5 then f else 0⟩
def doP (c : Crs) (x : Cmd) : Crs × Bool :=
  if x.kind = 1 then (c, false)
  else if x.kind = 10 then (c, true)
  else if x.kind = 8 then (⟨c.acts, (zj x.texts : Nat), c.asked, c.fault⟩, false)
  else if x.kind = 9 then (⟨c.acts, ((c.flags.toNat ||| zj x.texts : Nat) : Int), c.asked, c.fault⟩, false)
  else askP c (actP c.flags x)
set_option maxHeartbeats 1000000 in
set_option maxRecDepth 100000 in
theorem vA (x : Cmd) (ax an ak at' aa ae : Option Addr) (cx cn ck ct ca ce : Nat) (w : World) (hw : FlagsAt w) (hT : TxtsM anyB w (.slice ax x.texts.length cx) x.texts) :
    Calls Tryz.prog 85 #[.agg #[.int .i64 x.kind, .slice ax x.texts.length cx, .int .i64 x.test.kind, .int .i64 x.test.mat, .int .i64 x.test.part, .slice an x.test.names.length cn, .slice ak x.test.keys.length ck, .bool x.test.over, .int .i64 x.test.limit, .slice at' x.test.tests.length ct, .slice aa x.thn.length ca, .slice ae x.els.length ce]] w fun e w' => e = .returned (.int .i64 (zj x.texts : Nat)) ∧ Below w.heap.size w w' := by
  obtain ⟨W0, hW0⟩ : ∃ W0, W0 = w.alloc (.cells #[.int .i64 x.kind, .slice ax x.texts.length cx, .int .i64 x.test.kind, .int .i64 x.test.mat, .int .i64 x.test.part, .slice an x.test.names.length cn, .slice ak x.test.keys.length ck, .bool x.test.over, .int .i64 x.test.limit, .slice at' x.test.tests.length ct, .slice aa x.thn.length ca, .slice ae x.els.length ce] 58) := ⟨_, rfl⟩; have HWE := hid hW0; have HB0 := hid (show Below w.heap.size w W0 by rw [hW0]; exact (Below.refl _ _).alloc (Nat.le_refl _) _); have HF := hid (jbF x.texts ax cx W0 (hw.next HB0.out) (hT.next HB0.out)); clear hw hT hW0; go_enter Tryz.func85, Tryz.ntmps85; go_wp2_with fail; rw [← HWE.out]; refine HF.out.mono ?_; rintro e w1 ⟨rfl, hb1⟩; simp only; have HB1 := hid (HB0.out.trans (hb1.mono HB0.out.size)); clear hb1 HWE; cases hf : zJ x.texts with
  | none =>
    have HE := hid (show zj x.texts = 0 by unfold zj; rw [hf]; rfl); clear hf; unfold jbD; simp only; go_wp2; go_ret; exact ⟨ji (by rw [HE.out]; rfl), HB1.out⟩
  | some v =>
    have HE := hid (show zj x.texts = v by unfold zj; rw [hf]; rfl); clear hf; unfold jbD; simp only; go_wp2; go_ret; exact ⟨ji (by rw [HE.out]), HB1.out⟩
theorem jju {s : List UInt8} (h : qv s = 0) : ∃ x, zr s = ([x], 0) := by
  unfold qv at h; split at h
  · next h2 =>
    obtain ⟨e1, e2⟩ := h2
    match hl : (zr s).1, e2 with
    | [x], _ => exact ⟨x, by rw [← hl, ← e1]⟩
  · cases h
theorem jkR {s : List UInt8} {x : Adr} (h : zr s = ([x], 0)) : jN x.1 x.2 = 0 := by
  unfold zr at h; split at h
  · cases h
  · split at h
    · cases h
    · next l hl =>
      split at h
      · cases h
      · cases h; exact jdv _ _ _ hl x (by simp)
theorem jgT {s : List UInt8} {x : Adr} (h : zr s = ([x], 0)) : x.1.length ≤ 2000 ∧ x.2.length ≤ 2000 := by
  have := jan (jkR h); omega
set_option maxHeartbeats 1000000 in
set_option maxRecDepth 100000 in
theorem jfX (s : List UInt8) (w : World) (hg : qv s = 0) (hs : s.length ≤ 2000) :
    Calls Tryz.prog 131 #[.string (S s)] w fun e w' => e = .returned (.string (S (jdm s))) ∧ Below w.heap.size w w' := by
  obtain ⟨x, hx⟩ := jju hg; obtain ⟨l1, l2⟩ := jgT hx; have HT := hid (show jdm s = (jac 1 x.1 x.2).1 by unfold jdm; rw [hx]; rfl); have HL := hid (show Calls Tryz.prog 95 #[.string (S s)] w (jfs w ([x], 0)) by
    have := jcQ (S s) w (by rw [jt]; unfold maxLen; omega); rw [jp, hx] at this; exact this)
  have HP := hid (fun W => jfa 1 (S x.1) (S x.2) W (by rw [jt]; omega) (by rw [jt]; omega)); clear hg hx hs; go_enter Tryz.func131, Tryz.ntmps131; go_wp2_with fail; refine HL.out.mono ?_; rintro e w1 ⟨a, c, rfl, hA, hb1⟩; simp only; obtain ⟨b, rfl, hbl, c0, c1⟩ := hA 0 x rfl; have HB1 := hid hb1; clear hb1 hA; simp only [List.length_cons, List.length_nil, Nat.zero_mul, Nat.zero_add] at c0 c1 ⊢; go_wp2_with fail; refine (HP.out w1).mono ?_; rw [jp, jp]; rintro e w2 ⟨rfl, hb2⟩; simp only; have HB2 := hid (HB1.out.trans (hb2.mono HB1.out.size)); clear hb2; go_wp2; go_ret; exact ⟨by rw [HT.out]; rfl, HB2.out⟩
theorem ql (w : World) (o1 o2 o3 : Obj) : Below w.heap.size w (((w.alloc o1).alloc o2).alloc o3) := (((Below.refl _ _).alloc (Nat.le_refl _) _).alloc (by simp) _).alloc (by simp; omega) _
def ActR (w : World) (y : Atn) (e : Ending) (w' : World) : Prop := e = .returned (.agg #[.int .i64 y.kind, .string (S y.text), .int .i64 y.flags]) ∧ Below w.heap.size w w'
set_option maxHeartbeats 1000000 in
set_option maxRecDepth 100000 in
theorem jft (b : Nat) (f : Int) (x : Cmd) (ax an ak at' aa ae : Option Addr) (cx cn ck ct ca ce : Nat) (w : World) (hb : w.cell? ⟨b, 1, none⟩ = some (.int .i64 f)) :
    Calls Tryz.prog 87 #[.pointer (some ⟨b, 0, none⟩), .agg #[.int .i64 3, .slice ax x.texts.length cx, .int .i64 x.test.kind, .int .i64 x.test.mat, .int .i64 x.test.part, .slice an x.test.names.length cn, .slice ak x.test.keys.length ck, .bool x.test.over, .int .i64 x.test.limit, .slice at' x.test.tests.length ct, .slice aa x.thn.length ca, .slice ae x.els.length ce]] w (ActR w ⟨3, [], f⟩) := by
  have hbU : (((w.alloc (.cells #[.int .i64 3, .slice ax x.texts.length cx, .int .i64 x.test.kind, .int .i64 x.test.mat, .int .i64 x.test.part, .slice an x.test.names.length cn, .slice ak x.test.keys.length ck, .bool x.test.over, .int .i64 x.test.limit, .slice at' x.test.tests.length ct, .slice aa x.thn.length ca, .slice ae x.els.length ce] 58)).alloc (.cells #[.int .i64 0, .string ⟨#[]⟩, .int .i64 0] 128)).alloc (.cells #[.int .i64 3, .string ⟨#[]⟩, .int .i64 0] 128)).cell? ⟨b, 1, none⟩ = some (.int .i64 f) := jb hb (ql w (.cells #[.int .i64 3, .slice ax x.texts.length cx, .int .i64 x.test.kind, .int .i64 x.test.mat, .int .i64 x.test.part, .slice an x.test.names.length cn, .slice ak x.test.keys.length ck, .bool x.test.over, .int .i64 x.test.limit, .slice at' x.test.tests.length ct, .slice aa x.thn.length ca, .slice ae x.els.length ce] 58) (.cells #[.int .i64 0, .string ⟨#[]⟩, .int .i64 0] 128) (.cells #[.int .i64 3, .string ⟨#[]⟩, .int .i64 0] 128)); clear hb; go_enter Tryz.func87, Tryz.ntmps87; go_wp2; refine bodyPost_ret (v := .agg #[.int .i64 3, .string ⟨#[]⟩, .int .i64 f]) (by simp [results, Tryz.results87, go_sem, *]) rfl ?_; exact ⟨rfl, ql _ _ _ _⟩
set_option maxHeartbeats 1000000 in
set_option maxRecDepth 100000 in
theorem jfu (b : Nat) (f : Int) (x : Cmd) (ax an ak at' aa ae : Option Addr) (cx cn ck ct ca ce : Nat) (w : World) (hb : w.cell? ⟨b, 1, none⟩ = some (.int .i64 f)) :
    Calls Tryz.prog 87 #[.pointer (some ⟨b, 0, none⟩), .agg #[.int .i64 4, .slice ax x.texts.length cx, .int .i64 x.test.kind, .int .i64 x.test.mat, .int .i64 x.test.part, .slice an x.test.names.length cn, .slice ak x.test.keys.length ck, .bool x.test.over, .int .i64 x.test.limit, .slice at' x.test.tests.length ct, .slice aa x.thn.length ca, .slice ae x.els.length ce]] w (ActR w ⟨4, [], 0⟩) := by
  have hbU : (((w.alloc (.cells #[.int .i64 4, .slice ax x.texts.length cx, .int .i64 x.test.kind, .int .i64 x.test.mat, .int .i64 x.test.part, .slice an x.test.names.length cn, .slice ak x.test.keys.length ck, .bool x.test.over, .int .i64 x.test.limit, .slice at' x.test.tests.length ct, .slice aa x.thn.length ca, .slice ae x.els.length ce] 58)).alloc (.cells #[.int .i64 0, .string ⟨#[]⟩, .int .i64 0] 128)).alloc (.cells #[.int .i64 4, .string ⟨#[]⟩, .int .i64 0] 128)).cell? ⟨b, 1, none⟩ = some (.int .i64 f) := jb hb (ql w (.cells #[.int .i64 4, .slice ax x.texts.length cx, .int .i64 x.test.kind, .int .i64 x.test.mat, .int .i64 x.test.part, .slice an x.test.names.length cn, .slice ak x.test.keys.length ck, .bool x.test.over, .int .i64 x.test.limit, .slice at' x.test.tests.length ct, .slice aa x.thn.length ca, .slice ae x.els.length ce] 58) (.cells #[.int .i64 0, .string ⟨#[]⟩, .int .i64 0] 128) (.cells #[.int .i64 4, .string ⟨#[]⟩, .int .i64 0] 128)); clear hb; go_enter Tryz.func87, Tryz.ntmps87; go_wp2; refine bodyPost_ret (v := .agg #[.int .i64 4, .string ⟨#[]⟩, .int .i64 0]) (by simp [results, Tryz.results87, go_sem, *]) rfl ?_; exact ⟨rfl, ql _ _ _ _⟩
set_option maxHeartbeats 1000000 in
set_option maxRecDepth 100000 in
theorem jfv (b : Nat) (f : Int) (x : Cmd) (ax an ak at' aa ae : Option Addr) (cx cn ck ct ca ce : Nat) (w : World) (hb : w.cell? ⟨b, 1, none⟩ = some (.int .i64 f)) (hT : TxtsM anyB w (.slice ax x.texts.length cx) x.texts) (h0 : x.texts ≠ []) :
    Calls Tryz.prog 87 #[.pointer (some ⟨b, 0, none⟩), .agg #[.int .i64 5, .slice ax x.texts.length cx, .int .i64 x.test.kind, .int .i64 x.test.mat, .int .i64 x.test.part, .slice an x.test.names.length cn, .slice ak x.test.keys.length ck, .bool x.test.over, .int .i64 x.test.limit, .slice at' x.test.tests.length ct, .slice aa x.thn.length ca, .slice ae x.els.length ce]] w (ActR w ⟨5, x.texts.getD 0 [], f⟩) := by
  obtain ⟨bt, ot, rfl, e0⟩ := qO hT h0; have hpos : 0 < x.texts.length := List.length_pos_iff.2 h0; have j1 : (0 : Int) < (x.texts.length : Int) := by omega
  obtain ⟨t, ht⟩ : ∃ t, t = x.texts.getD 0 [] := ⟨_, rfl⟩; rw [← ht] at e0; rw [← ht]; have hbO : ∀ o, (((w.alloc (.cells #[.int .i64 5, .slice (some ⟨bt, ot, none⟩) x.texts.length cx, .int .i64 x.test.kind, .int .i64 x.test.mat, .int .i64 x.test.part, .slice an x.test.names.length cn, .slice ak x.test.keys.length ck, .bool x.test.over, .int .i64 x.test.limit, .slice at' x.test.tests.length ct, .slice aa x.thn.length ca, .slice ae x.els.length ce] 58)).alloc (.cells #[.int .i64 0, .string ⟨#[]⟩, .int .i64 0] 128)).alloc o).cell? ⟨b, 1, none⟩ = some (.int .i64 f) := fun o => jb hb (ql w _ _ o)
  have e0O : ∀ o, (((w.alloc (.cells #[.int .i64 5, .slice (some ⟨bt, ot, none⟩) x.texts.length cx, .int .i64 x.test.kind, .int .i64 x.test.mat, .int .i64 x.test.part, .slice an x.test.names.length cn, .slice ak x.test.keys.length ck, .bool x.test.over, .int .i64 x.test.limit, .slice at' x.test.tests.length ct, .slice aa x.thn.length ca, .slice ae x.els.length ce] 58)).alloc (.cells #[.int .i64 0, .string ⟨#[]⟩, .int .i64 0] 128)).alloc o).cell? ⟨bt, ot, none⟩ = some (.string (S t)) := fun o => jb e0 (ql w _ _ o)
  have hbU : (((w.alloc (.cells #[.int .i64 5, .slice (some ⟨bt, ot, none⟩) x.texts.length cx, .int .i64 x.test.kind, .int .i64 x.test.mat, .int .i64 x.test.part, .slice an x.test.names.length cn, .slice ak x.test.keys.length ck, .bool x.test.over, .int .i64 x.test.limit, .slice at' x.test.tests.length ct, .slice aa x.thn.length ca, .slice ae x.els.length ce] 58)).alloc (.cells #[.int .i64 0, .string ⟨#[]⟩, .int .i64 0] 128)).alloc (.cells #[.int .i64 5, .string ⟨#[]⟩, .int .i64 0] 128)).cell? ⟨b, 1, none⟩ = some (.int .i64 f) := jb hb (ql w (.cells #[.int .i64 5, .slice (some ⟨bt, ot, none⟩) x.texts.length cx, .int .i64 x.test.kind, .int .i64 x.test.mat, .int .i64 x.test.part, .slice an x.test.names.length cn, .slice ak x.test.keys.length ck, .bool x.test.over, .int .i64 x.test.limit, .slice at' x.test.tests.length ct, .slice aa x.thn.length ca, .slice ae x.els.length ce] 58) (.cells #[.int .i64 0, .string ⟨#[]⟩, .int .i64 0] 128) (.cells #[.int .i64 5, .string ⟨#[]⟩, .int .i64 0] 128)); have e0U : (((w.alloc (.cells #[.int .i64 5, .slice (some ⟨bt, ot, none⟩) x.texts.length cx, .int .i64 x.test.kind, .int .i64 x.test.mat, .int .i64 x.test.part, .slice an x.test.names.length cn, .slice ak x.test.keys.length ck, .bool x.test.over, .int .i64 x.test.limit, .slice at' x.test.tests.length ct, .slice aa x.thn.length ca, .slice ae x.els.length ce] 58)).alloc (.cells #[.int .i64 0, .string ⟨#[]⟩, .int .i64 0] 128)).alloc (.cells #[.int .i64 5, .string ⟨#[]⟩, .int .i64 0] 128)).cell? ⟨bt, ot, none⟩ = some (.string (S t)) := jb e0 (ql w (.cells #[.int .i64 5, .slice (some ⟨bt, ot, none⟩) x.texts.length cx, .int .i64 x.test.kind, .int .i64 x.test.mat, .int .i64 x.test.part, .slice an x.test.names.length cn, .slice ak x.test.keys.length ck, .bool x.test.over, .int .i64 x.test.limit, .slice at' x.test.tests.length ct, .slice aa x.thn.length ca, .slice ae x.els.length ce] 58) (.cells #[.int .i64 0, .string ⟨#[]⟩, .int .i64 0] 128) (.cells #[.int .i64 5, .string ⟨#[]⟩, .int .i64 0] 128)); clear hb hT h0 ht e0; go_enter Tryz.func87, Tryz.ntmps87; go_wp2
  go_region_law (fail)
  all_goals
    go_wp2; refine bodyPost_ret (v := .agg #[.int .i64 5, .string (S t), .int .i64 f]) (by simp [results, Tryz.results87, go_sem, *]) rfl ?_
    first | exact ⟨rfl, ql _ _ _ _⟩ | exact ⟨rfl, (ql _ _ _ _).drew⟩ | exact ⟨rfl, ((((Below.refl _ _).alloc (Nat.le_refl _) _).alloc (by simp) _).alloc (by simp; omega) _)⟩ | exact ⟨rfl, ((((Below.refl _ _).alloc (Nat.le_refl _) _).drew.alloc (by simp) _).alloc (by simp; omega) _)⟩ | exact ⟨rfl, ((((Below.refl _ _).alloc (Nat.le_refl _) _).alloc (by simp) _).drew.alloc (by simp; omega) _)⟩
set_option maxHeartbeats 1000000 in
set_option maxRecDepth 100000 in
theorem jfx (b : Nat) (f : Int) (x : Cmd) (ax an ak at' aa ae : Option Addr) (cx cn ck ct ca ce : Nat) (w : World) (hb : w.cell? ⟨b, 1, none⟩ = some (.int .i64 f)) (hT : TxtsM anyB w (.slice ax x.texts.length cx) x.texts) (h0 : x.texts ≠ []) :
    Calls Tryz.prog 87 #[.pointer (some ⟨b, 0, none⟩), .agg #[.int .i64 7, .slice ax x.texts.length cx, .int .i64 x.test.kind, .int .i64 x.test.mat, .int .i64 x.test.part, .slice an x.test.names.length cn, .slice ak x.test.keys.length ck, .bool x.test.over, .int .i64 x.test.limit, .slice at' x.test.tests.length ct, .slice aa x.thn.length ca, .slice ae x.els.length ce]] w (ActR w ⟨7, x.texts.getD 0 [], 0⟩) := by
  obtain ⟨bt, ot, rfl, e0⟩ := qO hT h0; have hpos : 0 < x.texts.length := List.length_pos_iff.2 h0; have j1 : (0 : Int) < (x.texts.length : Int) := by omega
  obtain ⟨t, ht⟩ : ∃ t, t = x.texts.getD 0 [] := ⟨_, rfl⟩; rw [← ht] at e0; rw [← ht]; have hbU : (((w.alloc (.cells #[.int .i64 7, .slice (some ⟨bt, ot, none⟩) x.texts.length cx, .int .i64 x.test.kind, .int .i64 x.test.mat, .int .i64 x.test.part, .slice an x.test.names.length cn, .slice ak x.test.keys.length ck, .bool x.test.over, .int .i64 x.test.limit, .slice at' x.test.tests.length ct, .slice aa x.thn.length ca, .slice ae x.els.length ce] 58)).alloc (.cells #[.int .i64 0, .string ⟨#[]⟩, .int .i64 0] 128)).alloc (.cells #[.int .i64 7, .string ⟨#[]⟩, .int .i64 0] 128)).cell? ⟨b, 1, none⟩ = some (.int .i64 f) := jb hb (ql w (.cells #[.int .i64 7, .slice (some ⟨bt, ot, none⟩) x.texts.length cx, .int .i64 x.test.kind, .int .i64 x.test.mat, .int .i64 x.test.part, .slice an x.test.names.length cn, .slice ak x.test.keys.length ck, .bool x.test.over, .int .i64 x.test.limit, .slice at' x.test.tests.length ct, .slice aa x.thn.length ca, .slice ae x.els.length ce] 58) (.cells #[.int .i64 0, .string ⟨#[]⟩, .int .i64 0] 128) (.cells #[.int .i64 7, .string ⟨#[]⟩, .int .i64 0] 128)); have e0U : (((w.alloc (.cells #[.int .i64 7, .slice (some ⟨bt, ot, none⟩) x.texts.length cx, .int .i64 x.test.kind, .int .i64 x.test.mat, .int .i64 x.test.part, .slice an x.test.names.length cn, .slice ak x.test.keys.length ck, .bool x.test.over, .int .i64 x.test.limit, .slice at' x.test.tests.length ct, .slice aa x.thn.length ca, .slice ae x.els.length ce] 58)).alloc (.cells #[.int .i64 0, .string ⟨#[]⟩, .int .i64 0] 128)).alloc (.cells #[.int .i64 7, .string ⟨#[]⟩, .int .i64 0] 128)).cell? ⟨bt, ot, none⟩ = some (.string (S t)) := jb e0 (ql w (.cells #[.int .i64 7, .slice (some ⟨bt, ot, none⟩) x.texts.length cx, .int .i64 x.test.kind, .int .i64 x.test.mat, .int .i64 x.test.part, .slice an x.test.names.length cn, .slice ak x.test.keys.length ck, .bool x.test.over, .int .i64 x.test.limit, .slice at' x.test.tests.length ct, .slice aa x.thn.length ca, .slice ae x.els.length ce] 58) (.cells #[.int .i64 0, .string ⟨#[]⟩, .int .i64 0] 128) (.cells #[.int .i64 7, .string ⟨#[]⟩, .int .i64 0] 128)); clear hb hT h0 ht e0; go_enter Tryz.func87, Tryz.ntmps87; go_wp2; refine bodyPost_ret (v := .agg #[.int .i64 7, .string (S t), .int .i64 0]) (by simp [results, Tryz.results87, go_sem, *]) rfl ?_; exact ⟨rfl, ql _ _ _ _⟩
set_option maxHeartbeats 1000000 in
set_option maxRecDepth 100000 in
theorem jfw (b : Nat) (f : Int) (x : Cmd) (ax an ak at' aa ae : Option Addr) (cx cn ck ct ca ce : Nat) (w : World) (_ : w.cell? ⟨b, 1, none⟩ = some (.int .i64 f)) (hT : TxtsM anyB w (.slice ax x.texts.length cx) x.texts) (h0 : x.texts ≠ []) (hg : qv (x.texts.getD 0 []) = 0) (hs : (x.texts.getD 0 []).length ≤ 2000) :
    Calls Tryz.prog 87 #[.pointer (some ⟨b, 0, none⟩), .agg #[.int .i64 6, .slice ax x.texts.length cx, .int .i64 x.test.kind, .int .i64 x.test.mat, .int .i64 x.test.part, .slice an x.test.names.length cn, .slice ak x.test.keys.length ck, .bool x.test.over, .int .i64 x.test.limit, .slice at' x.test.tests.length ct, .slice aa x.thn.length ca, .slice ae x.els.length ce]] w (ActR w ⟨6, jdm (x.texts.getD 0 []), 0⟩) := by
  obtain ⟨bt, ot, rfl, e0⟩ := qO hT h0; have hpos : 0 < x.texts.length := List.length_pos_iff.2 h0; have j1 : (0 : Int) < (x.texts.length : Int) := by omega
  obtain ⟨t, ht⟩ : ∃ t, t = x.texts.getD 0 [] := ⟨_, rfl⟩; rw [← ht] at e0 hg hs; rw [← ht]; obtain ⟨W0, hW0⟩ : ∃ W0, W0 = (((w.alloc (.cells #[.int .i64 6, .slice (some ⟨bt, ot, none⟩) x.texts.length cx, .int .i64 x.test.kind, .int .i64 x.test.mat, .int .i64 x.test.part, .slice an x.test.names.length cn, .slice ak x.test.keys.length ck, .bool x.test.over, .int .i64 x.test.limit, .slice at' x.test.tests.length ct, .slice aa x.thn.length ca, .slice ae x.els.length ce] 58)).alloc (.cells #[.int .i64 0, .string ⟨#[]⟩, .int .i64 0] 128)).alloc (.cells #[.int .i64 6, .string ⟨#[]⟩, .int .i64 0] 128)) := ⟨_, rfl⟩; have HWE := hid hW0; have HB0 := hid (show Below w.heap.size w W0 by rw [hW0]; exact ql w (.cells #[.int .i64 6, .slice (some ⟨bt, ot, none⟩) x.texts.length cx, .int .i64 x.test.kind, .int .i64 x.test.mat, .int .i64 x.test.part, .slice an x.test.names.length cn, .slice ak x.test.keys.length ck, .bool x.test.over, .int .i64 x.test.limit, .slice at' x.test.tests.length ct, .slice aa x.thn.length ca, .slice ae x.els.length ce] 58) (.cells #[.int .i64 0, .string ⟨#[]⟩, .int .i64 0] 128) (.cells #[.int .i64 6, .string ⟨#[]⟩, .int .i64 0] 128)); have e0U : (((w.alloc (.cells #[.int .i64 6, .slice (some ⟨bt, ot, none⟩) x.texts.length cx, .int .i64 x.test.kind, .int .i64 x.test.mat, .int .i64 x.test.part, .slice an x.test.names.length cn, .slice ak x.test.keys.length ck, .bool x.test.over, .int .i64 x.test.limit, .slice at' x.test.tests.length ct, .slice aa x.thn.length ca, .slice ae x.els.length ce] 58)).alloc (.cells #[.int .i64 0, .string ⟨#[]⟩, .int .i64 0] 128)).alloc (.cells #[.int .i64 6, .string ⟨#[]⟩, .int .i64 0] 128)).cell? ⟨bt, ot, none⟩ = some (.string (S t)) := jb e0 (ql w (.cells #[.int .i64 6, .slice (some ⟨bt, ot, none⟩) x.texts.length cx, .int .i64 x.test.kind, .int .i64 x.test.mat, .int .i64 x.test.part, .slice an x.test.names.length cn, .slice ak x.test.keys.length ck, .bool x.test.over, .int .i64 x.test.limit, .slice at' x.test.tests.length ct, .slice aa x.thn.length ca, .slice ae x.els.length ce] 58) (.cells #[.int .i64 0, .string ⟨#[]⟩, .int .i64 0] 128) (.cells #[.int .i64 6, .string ⟨#[]⟩, .int .i64 0] 128)); have HR0 := hid (show W0.heap[w.heap.size + 1]? = some (.cells #[.int .i64 0, .string ⟨#[]⟩, .int .i64 0] 128) by rw [hW0]; exact jf _ (jy _ (by simp))); have HA0 := hid (show W0.heap[w.heap.size + 1 + 1]? = some (.cells #[.int .i64 6, .string ⟨#[]⟩, .int .i64 0] 128) by rw [hW0]; exact jy _ (by simp)); have HG := hid (jfX t W0 hg hs); clear hT h0 ht e0 hg hs hW0; go_enter Tryz.func87, Tryz.ntmps87; go_wp2_with fail; rw [← HWE.out]; refine HG.out.mono ?_; rintro e w1 ⟨rfl, hb1⟩; simp only; have HB1 := hid (HB0.out.trans (hb1.mono HB0.out.size)); have HR1 := hid (jlow hb1 HR0.out); have HA1 := hid (jlow hb1 HA0.out); have hR := HR1.out; have hA := HA1.out; obtain ⟨r0, r1, r2⟩ := bx3 hR; obtain ⟨q0, q1, q2⟩ := bx3 hA; have f0 : ∀ j, w1.frozen? ⟨w.heap.size + 1, j, none⟩ = false := by intro j; simp [World.frozen?, hR]
  have f1 : ∀ j, w1.frozen? ⟨w.heap.size + 1 + 1, j, none⟩ = false := by intro j; simp [World.frozen?, hA]
  clear hb1 HWE e0U hR hA; go_wp2; refine bodyPost_ret (v := .agg #[.int .i64 6, .string (S (jdm t)), .int .i64 0]) (by simp [results, Tryz.results87, go_sem, *]) rfl ?_; exact ⟨rfl, (((HB1.out.setCell (by simp; omega) _).setCell (by simp) _).setCell (by simp) _).setCell (by simp) _⟩
end Go.Proofs.YtaapmpchcfcniaaGreatDoor
namespace Go.Proofs.YtaapmpchcfcniaaGreatDoor
open Go.RowKit Go.Proofs
def jbl (w : World) (B b : Nat) (r : Crs × Bool) (e : Ending) (w' : World) : Prop := (∃ v, e = .returned v) ∧ CrsB w' B b r.1 r.2 ∧ Below B w w' ∧ Frm b w w'
theorem jbE (l : List (List UInt8)) : zj l < 32 := by
  unfold zj; cases h : zJ l with
  | none => show 0 < 32; omega
  | some v => exact jhp l 0 v (by omega) h
theorem CrsB.lt {w : World} {B b : Nat} {c : Crs} {o : Bool} (h : CrsB w B b c o) : b < w.heap.size ∧ B ≤ b := by
  obtain ⟨a, k, h1, _, _, h4⟩ := h; exact ⟨(Array.getElem?_eq_some_iff.1 h1).1, h4⟩
theorem CrsB.set {w : World} {B b : Nat} {c : Crs} {o : Bool} (h : CrsB w B b c o) (f : Int) (o' : Bool) : CrsB (w.setCell ⟨b, 1, none⟩ (.int .i64 f)) B b ⟨c.acts, f, c.asked, c.fault⟩ o ∧ CrsB (w.setCell ⟨b, 4, none⟩ (.bool o')) B b c o' := by
  obtain ⟨a, k, h1, h2, h3, h4⟩ := h; exact ⟨⟨a, k, by simpa using set5 h1 1 (.int .i64 f), OwnAs.but h2 (But.setAt w 1 _) h3, h3, h4⟩, ⟨a, k, by simpa using set5 h1 4 (.bool o'), OwnAs.but h2 (But.setAt w 4 _) h3, h3, h4⟩⟩
set_option maxHeartbeats 1000000 in
set_option maxRecDepth 100000 in
theorem do_1 (B b : Nat) (c : Crs) (x : Cmd) (ax an ak at' aa ae : Option Addr) (cx cn ck ct ca ce : Nat) (w : World) (h : CrsB w B b c false) :
    Calls Tryz.prog 49 #[.pointer (some ⟨b, 0, none⟩), .agg #[.int .i64 1, .slice ax x.texts.length cx, .int .i64 x.test.kind, .int .i64 x.test.mat, .int .i64 x.test.part, .slice an x.test.names.length cn, .slice ak x.test.keys.length ck, .bool x.test.over, .int .i64 x.test.limit, .slice at' x.test.tests.length ct, .slice aa x.thn.length ca, .slice ae x.els.length ce]] w (jbl w B b (c, false)) := by
  have hlt := h.lt; obtain ⟨W0, hW0⟩ : ∃ W0, W0 = w.alloc (.cells #[.int .i64 1, .slice ax x.texts.length cx, .int .i64 x.test.kind, .int .i64 x.test.mat, .int .i64 x.test.part, .slice an x.test.names.length cn, .slice ak x.test.keys.length ck, .bool x.test.over, .int .i64 x.test.limit, .slice at' x.test.tests.length ct, .slice aa x.thn.length ca, .slice ae x.els.length ce] 58) := ⟨_, rfl⟩; have HWE := hid hW0; have HB0 := hid (show Below w.heap.size w W0 by rw [hW0]; exact (Below.refl _ _).alloc (Nat.le_refl _) _); have HC0 := hid (h.next HB0.out); have HCW := hid h; have hs0 : W0.heap.size = w.heap.size + 1 := by rw [hW0]; simp
  clear h hW0; go_enter Tryz.func49, Tryz.ntmps49; go_wp2; rw [← HWE.out]; go_end0; exact ⟨⟨_, rfl⟩, HC0.out, HB0.out.mono (by omega), Frm.below hlt.1 HB0.out⟩
set_option maxHeartbeats 1000000 in
set_option maxRecDepth 100000 in
theorem jmV (B b : Nat) (c : Crs) (x : Cmd) (ax an ak at' aa ae : Option Addr) (cx cn ck ct ca ce : Nat) (w : World) (h : CrsB w B b c false) :
    Calls Tryz.prog 49 #[.pointer (some ⟨b, 0, none⟩), .agg #[.int .i64 10, .slice ax x.texts.length cx, .int .i64 x.test.kind, .int .i64 x.test.mat, .int .i64 x.test.part, .slice an x.test.names.length cn, .slice ak x.test.keys.length ck, .bool x.test.over, .int .i64 x.test.limit, .slice at' x.test.tests.length ct, .slice aa x.thn.length ca, .slice ae x.els.length ce]] w (jbl w B b (c, true)) := by
  have hlt := h.lt; obtain ⟨W0, hW0⟩ : ∃ W0, W0 = w.alloc (.cells #[.int .i64 10, .slice ax x.texts.length cx, .int .i64 x.test.kind, .int .i64 x.test.mat, .int .i64 x.test.part, .slice an x.test.names.length cn, .slice ak x.test.keys.length ck, .bool x.test.over, .int .i64 x.test.limit, .slice at' x.test.tests.length ct, .slice aa x.thn.length ca, .slice ae x.els.length ce] 58) := ⟨_, rfl⟩; have HWE := hid hW0; have HB0 := hid (show Below w.heap.size w W0 by rw [hW0]; exact (Below.refl _ _).alloc (Nat.le_refl _) _); have HC0 := hid (h.next HB0.out); have HCW := hid h; have hs0 : W0.heap.size = w.heap.size + 1 := by rw [hW0]; simp
  clear h hW0; obtain ⟨a, k, h1, _⟩ := HC0.out; obtain ⟨⟨q0, q1, q2, q3, q4⟩, f0, f1, f2, f3, f4⟩ := box5 h1; have q4' := q4; have f4' := f4; rw [HWE.out] at q4' f4'; have hz : (w.setCell ⟨b, 4, none⟩ (.bool true)).heap.size = w.heap.size := by simp [World.setCell]
  have HE := hid (show ∀ o, CrsB ((w.setCell ⟨b, 4, none⟩ (.bool true)).alloc o) B b c true ∧ Below B w ((w.setCell ⟨b, 4, none⟩ (.bool true)).alloc o) from fun o => ⟨CrsB.next (HCW.out.set 0 true).2 ((Below.refl _ _).alloc (Nat.le_refl _) _), ((Below.refl _ _).setCell (by simp; omega) _).alloc (by rw [hz]; omega) _⟩); clear h1; go_enter Tryz.func49, Tryz.ntmps49; go_wp2; go_end0; exact ⟨⟨_, rfl⟩, (HE.out _).1, (HE.out _).2, (Frm.set w (by omega) _).trans (Frm.below (by rw [hz]; omega) ((Below.refl _ _).alloc (Nat.le_refl _) _))⟩
set_option maxHeartbeats 1000000 in
set_option maxRecDepth 100000 in
theorem do_8 (B b : Nat) (c : Crs) (x : Cmd) (ax an ak at' aa ae : Option Addr) (cx cn ck ct ca ce : Nat) (w : World) (h : CrsB w B b c false) (hw : FlagsAt w) (hT : TxtsM anyB w (.slice ax x.texts.length cx) x.texts) :
    Calls Tryz.prog 49 #[.pointer (some ⟨b, 0, none⟩), .agg #[.int .i64 8, .slice ax x.texts.length cx, .int .i64 x.test.kind, .int .i64 x.test.mat, .int .i64 x.test.part, .slice an x.test.names.length cn, .slice ak x.test.keys.length ck, .bool x.test.over, .int .i64 x.test.limit, .slice at' x.test.tests.length ct, .slice aa x.thn.length ca, .slice ae x.els.length ce]] w (jbl w B b (⟨c.acts, (zj x.texts : Nat), c.asked, c.fault⟩, false)) := by
  have hlt := h.lt; obtain ⟨W0, hW0⟩ : ∃ W0, W0 = w.alloc (.cells #[.int .i64 8, .slice ax x.texts.length cx, .int .i64 x.test.kind, .int .i64 x.test.mat, .int .i64 x.test.part, .slice an x.test.names.length cn, .slice ak x.test.keys.length ck, .bool x.test.over, .int .i64 x.test.limit, .slice at' x.test.tests.length ct, .slice aa x.thn.length ca, .slice ae x.els.length ce] 58) := ⟨_, rfl⟩; have HWE := hid hW0; have HB0 := hid (show Below w.heap.size w W0 by rw [hW0]; exact (Below.refl _ _).alloc (Nat.le_refl _) _); have HC0 := hid (h.next HB0.out); have HCW := hid h; have hs0 : W0.heap.size = w.heap.size + 1 := by rw [hW0]; simp
  clear h hW0; have HF := hid (show ∀ y : Cmd, y = ⟨8, x.texts, x.test, x.thn, x.els⟩ → Calls Tryz.prog 85 #[.agg #[.int .i64 8, .slice ax x.texts.length cx, .int .i64 x.test.kind, .int .i64 x.test.mat, .int .i64 x.test.part, .slice an x.test.names.length cn, .slice ak x.test.keys.length ck, .bool x.test.over, .int .i64 x.test.limit, .slice at' x.test.tests.length ct, .slice aa x.thn.length ca, .slice ae x.els.length ce]] W0 fun e w' => e = .returned (.int .i64 (zj x.texts : Nat)) ∧ Below W0.heap.size W0 w' from fun y hy => vA ⟨8, x.texts, x.test, x.thn, x.els⟩ ax an ak at' aa ae cx cn ck ct ca ce W0 (hw.next HB0.out) (hT.next HB0.out)); clear hw hT; go_enter Tryz.func49, Tryz.ntmps49; go_wp2_with fail; rw [← HWE.out]; refine (HF.out _ rfl).mono ?_; rintro e w1 ⟨rfl, hb1⟩; simp only; have HC1 := hid (HC0.out.next hb1); have HB1 := hid (HB0.out.trans (hb1.mono HB0.out.size)); obtain ⟨a, k, h1, _⟩ := HC1.out; obtain ⟨⟨q0, q1, q2, q3, q4⟩, f0, f1, f2, f3, f4⟩ := box5 h1; have HE := hid (HC1.out.set (zj x.texts : Nat) true).1; clear h1 hb1 HWE; go_wp2; go_end0; exact ⟨⟨_, rfl⟩, HE.out, (HB1.out.mono (by omega)).setCell (by simp; omega) _, (Frm.below hlt.1 HB1.out).trans (Frm.set _ (by omega) _)⟩
set_option maxHeartbeats 1000000 in
set_option maxRecDepth 100000 in
theorem do_9 (B b : Nat) (c : Crs) (x : Cmd) (ax an ak at' aa ae : Option Addr) (cx cn ck ct ca ce : Nat) (w : World) (h : CrsB w B b c false) (hf0 : 0 ≤ c.flags) (hf1 : c.flags ≤ 31) (hw : FlagsAt w) (hT : TxtsM anyB w (.slice ax x.texts.length cx) x.texts) :
    Calls Tryz.prog 49 #[.pointer (some ⟨b, 0, none⟩), .agg #[.int .i64 9, .slice ax x.texts.length cx, .int .i64 x.test.kind, .int .i64 x.test.mat, .int .i64 x.test.part, .slice an x.test.names.length cn, .slice ak x.test.keys.length ck, .bool x.test.over, .int .i64 x.test.limit, .slice at' x.test.tests.length ct, .slice aa x.thn.length ca, .slice ae x.els.length ce]] w (jbl w B b (⟨c.acts, ((c.flags.toNat ||| zj x.texts : Nat) : Int), c.asked, c.fault⟩, false)) := by
  have hlt := h.lt; obtain ⟨W0, hW0⟩ : ∃ W0, W0 = w.alloc (.cells #[.int .i64 9, .slice ax x.texts.length cx, .int .i64 x.test.kind, .int .i64 x.test.mat, .int .i64 x.test.part, .slice an x.test.names.length cn, .slice ak x.test.keys.length ck, .bool x.test.over, .int .i64 x.test.limit, .slice at' x.test.tests.length ct, .slice aa x.thn.length ca, .slice ae x.els.length ce] 58) := ⟨_, rfl⟩; have HWE := hid hW0; have HB0 := hid (show Below w.heap.size w W0 by rw [hW0]; exact (Below.refl _ _).alloc (Nat.le_refl _) _); have HC0 := hid (h.next HB0.out); have HCW := hid h; have hs0 : W0.heap.size = w.heap.size + 1 := by rw [hW0]; simp
  clear h hW0; have HF := hid (show ∀ y : Cmd, y = ⟨9, x.texts, x.test, x.thn, x.els⟩ → Calls Tryz.prog 85 #[.agg #[.int .i64 9, .slice ax x.texts.length cx, .int .i64 x.test.kind, .int .i64 x.test.mat, .int .i64 x.test.part, .slice an x.test.names.length cn, .slice ak x.test.keys.length ck, .bool x.test.over, .int .i64 x.test.limit, .slice at' x.test.tests.length ct, .slice aa x.thn.length ca, .slice ae x.els.length ce]] W0 fun e w' => e = .returned (.int .i64 (zj x.texts : Nat)) ∧ Below W0.heap.size W0 w' from fun y hy => vA ⟨9, x.texts, x.test, x.thn, x.els⟩ ax an ak at' aa ae cx cn ck ct ca ce W0 (hw.next HB0.out) (hT.next HB0.out)); have HFl := hid (hw.next HB0.out); have HTx := hid (hT.next HB0.out); have HV := hid (show bits .or .i64 c.flags ((zj x.texts : Nat) : Int) = ((c.flags.toNat ||| zj x.texts : Nat) : Int) by
    have h1 := jgV (n := c.flags.toNat) (f := zj x.texts) (by omega) (jbE x.texts); rw [Int.toNat_of_nonneg hf0] at h1; exact h1)
  have hH : W0.heap[w.heap.size]? = some (.cells #[.int .i64 9, .slice ax x.texts.length cx, .int .i64 x.test.kind, .int .i64 x.test.mat, .int .i64 x.test.part, .slice an x.test.names.length cn, .slice ak x.test.keys.length ck, .bool x.test.over, .int .i64 x.test.limit, .slice at' x.test.tests.length ct, .slice aa x.thn.length ca, .slice ae x.els.length ce] 58) := by rw [HWE.out]; exact heap_alloc_new w _
  obtain ⟨g0, g1, g2, g3, g4, g5, g6, g7, g8, g9, g10, g11⟩ := bx12 hH; clear hH; obtain ⟨a, k, h1, _⟩ := HC0.out; obtain ⟨⟨q0, q1, q2, q3, q4⟩, f0, f1, f2, f3, f4⟩ := box5 h1; clear hw hT h1 HF; go_enter Tryz.func49, Tryz.ntmps49; go_wp2; rw [← HWE.out]
  go_region_law
    (go_simp
     go_at_call 85
     refine (vA ⟨9, x.texts, x.test, x.thn, x.els⟩ ax an ak at' aa ae cx cn ck ct ca ce _ (by exact HFl.out) (by exact HTx.out)).mono ?_; rintro e w1 ⟨rfl, hb1⟩; have HC1 := hid (CrsB.next (w := W0.drew) HC0.out hb1); have HB1 := hid (show Below w.heap.size w w1 from HB0.out.drew.trans (hb1.mono HB0.out.drew.size)); obtain ⟨a', k', h1', _⟩ := HC1.out; obtain ⟨⟨t0, t1, t2, t3, t4⟩, u0, u1, u2, u3, u4⟩ := box5 h1'; clear hb1 h1')
  all_goals
    have HE := hid (HC1.out.set ((c.flags.toNat ||| zj x.texts : Nat) : Int) true).1; go_wp2; rw [HV.out]; go_end0; exact ⟨⟨_, rfl⟩, HE.out, (HB1.out.mono (by omega)).setCell (by simp; omega) _, (Frm.below hlt.1 HB1.out).trans (Frm.set _ (by omega) _)⟩
set_option maxHeartbeats 1000000 in
set_option maxRecDepth 100000 in
theorem do_3 (B b : Nat) (c : Crs) (x : Cmd) (ax an ak at' aa ae : Option Addr) (cx cn ck ct ca ce : Nat) (w : World) (h : CrsB w B b c false) (hl : c.acts.length ≤ 6) :
    Calls Tryz.prog 49 #[.pointer (some ⟨b, 0, none⟩), .agg #[.int .i64 3, .slice ax x.texts.length cx, .int .i64 x.test.kind, .int .i64 x.test.mat, .int .i64 x.test.part, .slice an x.test.names.length cn, .slice ak x.test.keys.length ck, .bool x.test.over, .int .i64 x.test.limit, .slice at' x.test.tests.length ct, .slice aa x.thn.length ca, .slice ae x.els.length ce]] w (jbl w B b (askP c ⟨3, [], c.flags⟩)) := by
  have hlt := h.lt; obtain ⟨W0, hW0⟩ : ∃ W0, W0 = w.alloc (.cells #[.int .i64 3, .slice ax x.texts.length cx, .int .i64 x.test.kind, .int .i64 x.test.mat, .int .i64 x.test.part, .slice an x.test.names.length cn, .slice ak x.test.keys.length ck, .bool x.test.over, .int .i64 x.test.limit, .slice at' x.test.tests.length ct, .slice aa x.thn.length ca, .slice ae x.els.length ce] 58) := ⟨_, rfl⟩; have HWE := hid hW0; have HB0 := hid (show Below w.heap.size w W0 by rw [hW0]; exact (Below.refl _ _).alloc (Nat.le_refl _) _); have HC0 := hid (h.next HB0.out); have HCW := hid h; have hs0 : W0.heap.size = w.heap.size + 1 := by rw [hW0]; simp
  clear h hW0; obtain ⟨a, k, h1, _⟩ := HC0.out; obtain ⟨⟨q0, q1, q2, q3, q4⟩, f0, f1, f2, f3, f4⟩ := box5 h1; have HA := hid (jft b c.flags x ax an ak at' aa ae cx cn ck ct ca ce W0 q1); obtain ⟨y, hy⟩ : ∃ y : Atn, y = ⟨3, [], c.flags⟩ := ⟨_, rfl⟩; rw [← hy] at HA; rw [← hy]; clear h1 q0 q1 q2 q3 q4 f0 f1 f2 f3 f4 hy; go_enter Tryz.func49, Tryz.ntmps49; go_wp2_with fail; rw [← HWE.out]; refine HA.out.mono ?_; rintro e w1 ⟨rfl, hb1⟩; simp only; have HC1 := hid (HC0.out.next hb1); have HB1 := hid (HB0.out.trans (hb1.mono HB0.out.size)); clear hb1 HWE; go_wp2_with fail; refine (jbp B b c y w1 HC1.out hl).mono ?_; rintro e w2 ⟨⟨v, rfl⟩, hc2, hb2, hf2⟩; simp only; have HC2 := hid hc2; have HB2 := hid ((HB1.out.mono (by omega)).trans hb2); have HF2 := hid ((Frm.below hlt.1 HB1.out).trans hf2); clear hc2 hb2 hf2; go_wp2; go_end0; exact ⟨⟨_, rfl⟩, HC2.out, HB2.out, HF2.out⟩
set_option maxHeartbeats 1000000 in
set_option maxRecDepth 100000 in
theorem do_4 (B b : Nat) (c : Crs) (x : Cmd) (ax an ak at' aa ae : Option Addr) (cx cn ck ct ca ce : Nat) (w : World) (h : CrsB w B b c false) (hl : c.acts.length ≤ 6) :
    Calls Tryz.prog 49 #[.pointer (some ⟨b, 0, none⟩), .agg #[.int .i64 4, .slice ax x.texts.length cx, .int .i64 x.test.kind, .int .i64 x.test.mat, .int .i64 x.test.part, .slice an x.test.names.length cn, .slice ak x.test.keys.length ck, .bool x.test.over, .int .i64 x.test.limit, .slice at' x.test.tests.length ct, .slice aa x.thn.length ca, .slice ae x.els.length ce]] w (jbl w B b (askP c ⟨4, [], 0⟩)) := by
  have hlt := h.lt; obtain ⟨W0, hW0⟩ : ∃ W0, W0 = w.alloc (.cells #[.int .i64 4, .slice ax x.texts.length cx, .int .i64 x.test.kind, .int .i64 x.test.mat, .int .i64 x.test.part, .slice an x.test.names.length cn, .slice ak x.test.keys.length ck, .bool x.test.over, .int .i64 x.test.limit, .slice at' x.test.tests.length ct, .slice aa x.thn.length ca, .slice ae x.els.length ce] 58) := ⟨_, rfl⟩; have HWE := hid hW0; have HB0 := hid (show Below w.heap.size w W0 by rw [hW0]; exact (Below.refl _ _).alloc (Nat.le_refl _) _); have HC0 := hid (h.next HB0.out); have HCW := hid h; have hs0 : W0.heap.size = w.heap.size + 1 := by rw [hW0]; simp
  clear h hW0; obtain ⟨a, k, h1, _⟩ := HC0.out; obtain ⟨⟨q0, q1, q2, q3, q4⟩, f0, f1, f2, f3, f4⟩ := box5 h1; have HA := hid (jfu b c.flags x ax an ak at' aa ae cx cn ck ct ca ce W0 q1); obtain ⟨y, hy⟩ : ∃ y : Atn, y = ⟨4, [], 0⟩ := ⟨_, rfl⟩; rw [← hy] at HA; rw [← hy]; clear h1 q0 q1 q2 q3 q4 f0 f1 f2 f3 f4 hy; go_enter Tryz.func49, Tryz.ntmps49; go_wp2_with fail; rw [← HWE.out]; refine HA.out.mono ?_; rintro e w1 ⟨rfl, hb1⟩; simp only; have HC1 := hid (HC0.out.next hb1); have HB1 := hid (HB0.out.trans (hb1.mono HB0.out.size)); clear hb1 HWE; go_wp2_with fail; refine (jbp B b c y w1 HC1.out hl).mono ?_; rintro e w2 ⟨⟨v, rfl⟩, hc2, hb2, hf2⟩; simp only; have HC2 := hid hc2; have HB2 := hid ((HB1.out.mono (by omega)).trans hb2); have HF2 := hid ((Frm.below hlt.1 HB1.out).trans hf2); clear hc2 hb2 hf2; go_wp2; go_end0; exact ⟨⟨_, rfl⟩, HC2.out, HB2.out, HF2.out⟩
set_option maxHeartbeats 1000000 in
set_option maxRecDepth 100000 in
theorem do_5 (B b : Nat) (c : Crs) (x : Cmd) (ax an ak at' aa ae : Option Addr) (cx cn ck ct ca ce : Nat) (w : World) (h : CrsB w B b c false) (hT : TxtsM anyB w (.slice ax x.texts.length cx) x.texts) (h0 : x.texts ≠ []) (hl : c.acts.length ≤ 6) :
    Calls Tryz.prog 49 #[.pointer (some ⟨b, 0, none⟩), .agg #[.int .i64 5, .slice ax x.texts.length cx, .int .i64 x.test.kind, .int .i64 x.test.mat, .int .i64 x.test.part, .slice an x.test.names.length cn, .slice ak x.test.keys.length ck, .bool x.test.over, .int .i64 x.test.limit, .slice at' x.test.tests.length ct, .slice aa x.thn.length ca, .slice ae x.els.length ce]] w (jbl w B b (askP c ⟨5, x.texts.getD 0 [], c.flags⟩)) := by
  have hlt := h.lt; obtain ⟨W0, hW0⟩ : ∃ W0, W0 = w.alloc (.cells #[.int .i64 5, .slice ax x.texts.length cx, .int .i64 x.test.kind, .int .i64 x.test.mat, .int .i64 x.test.part, .slice an x.test.names.length cn, .slice ak x.test.keys.length ck, .bool x.test.over, .int .i64 x.test.limit, .slice at' x.test.tests.length ct, .slice aa x.thn.length ca, .slice ae x.els.length ce] 58) := ⟨_, rfl⟩; have HWE := hid hW0; have HB0 := hid (show Below w.heap.size w W0 by rw [hW0]; exact (Below.refl _ _).alloc (Nat.le_refl _) _); have HC0 := hid (h.next HB0.out); have HCW := hid h; have hs0 : W0.heap.size = w.heap.size + 1 := by rw [hW0]; simp
  clear h hW0; obtain ⟨a, k, h1, _⟩ := HC0.out; obtain ⟨⟨q0, q1, q2, q3, q4⟩, f0, f1, f2, f3, f4⟩ := box5 h1; have HA := hid (jfv b c.flags x ax an ak at' aa ae cx cn ck ct ca ce W0 q1 (hT.next HB0.out) h0); obtain ⟨y, hy⟩ : ∃ y : Atn, y = ⟨5, x.texts.getD 0 [], c.flags⟩ := ⟨_, rfl⟩; rw [← hy] at HA; rw [← hy]; clear h1 q0 q1 q2 q3 q4 f0 f1 f2 f3 f4 hy; go_enter Tryz.func49, Tryz.ntmps49; go_wp2_with fail; rw [← HWE.out]; refine HA.out.mono ?_; rintro e w1 ⟨rfl, hb1⟩; simp only; have HC1 := hid (HC0.out.next hb1); have HB1 := hid (HB0.out.trans (hb1.mono HB0.out.size)); clear hb1 HWE; go_wp2_with fail; refine (jbp B b c y w1 HC1.out hl).mono ?_; rintro e w2 ⟨⟨v, rfl⟩, hc2, hb2, hf2⟩; simp only; have HC2 := hid hc2; have HB2 := hid ((HB1.out.mono (by omega)).trans hb2); have HF2 := hid ((Frm.below hlt.1 HB1.out).trans hf2); clear hc2 hb2 hf2; go_wp2; go_end0; exact ⟨⟨_, rfl⟩, HC2.out, HB2.out, HF2.out⟩
set_option maxHeartbeats 1000000 in
set_option maxRecDepth 100000 in
theorem do_6 (B b : Nat) (c : Crs) (x : Cmd) (ax an ak at' aa ae : Option Addr) (cx cn ck ct ca ce : Nat) (w : World) (h : CrsB w B b c false) (hT : TxtsM anyB w (.slice ax x.texts.length cx) x.texts) (h0 : x.texts ≠ []) (hg : qv (x.texts.getD 0 []) = 0) (hs : (x.texts.getD 0 []).length ≤ 2000) (hl : c.acts.length ≤ 6) :
    Calls Tryz.prog 49 #[.pointer (some ⟨b, 0, none⟩), .agg #[.int .i64 6, .slice ax x.texts.length cx, .int .i64 x.test.kind, .int .i64 x.test.mat, .int .i64 x.test.part, .slice an x.test.names.length cn, .slice ak x.test.keys.length ck, .bool x.test.over, .int .i64 x.test.limit, .slice at' x.test.tests.length ct, .slice aa x.thn.length ca, .slice ae x.els.length ce]] w (jbl w B b (askP c ⟨6, jdm (x.texts.getD 0 []), 0⟩)) := by
  have hlt := h.lt; obtain ⟨W0, hW0⟩ : ∃ W0, W0 = w.alloc (.cells #[.int .i64 6, .slice ax x.texts.length cx, .int .i64 x.test.kind, .int .i64 x.test.mat, .int .i64 x.test.part, .slice an x.test.names.length cn, .slice ak x.test.keys.length ck, .bool x.test.over, .int .i64 x.test.limit, .slice at' x.test.tests.length ct, .slice aa x.thn.length ca, .slice ae x.els.length ce] 58) := ⟨_, rfl⟩; have HWE := hid hW0; have HB0 := hid (show Below w.heap.size w W0 by rw [hW0]; exact (Below.refl _ _).alloc (Nat.le_refl _) _); have HC0 := hid (h.next HB0.out); have HCW := hid h; have hs0 : W0.heap.size = w.heap.size + 1 := by rw [hW0]; simp
  clear h hW0; obtain ⟨a, k, h1, _⟩ := HC0.out; obtain ⟨⟨q0, q1, q2, q3, q4⟩, f0, f1, f2, f3, f4⟩ := box5 h1; have HA := hid (jfw b c.flags x ax an ak at' aa ae cx cn ck ct ca ce W0 q1 (hT.next HB0.out) h0 hg hs); obtain ⟨y, hy⟩ : ∃ y : Atn, y = ⟨6, jdm (x.texts.getD 0 []), 0⟩ := ⟨_, rfl⟩; rw [← hy] at HA; rw [← hy]; clear h1 q0 q1 q2 q3 q4 f0 f1 f2 f3 f4 hy; go_enter Tryz.func49, Tryz.ntmps49; go_wp2_with fail; rw [← HWE.out]; refine HA.out.mono ?_; rintro e w1 ⟨rfl, hb1⟩; simp only; have HC1 := hid (HC0.out.next hb1); have HB1 := hid (HB0.out.trans (hb1.mono HB0.out.size)); clear hb1 HWE; go_wp2_with fail; refine (jbp B b c y w1 HC1.out hl).mono ?_; rintro e w2 ⟨⟨v, rfl⟩, hc2, hb2, hf2⟩; simp only; have HC2 := hid hc2; have HB2 := hid ((HB1.out.mono (by omega)).trans hb2); have HF2 := hid ((Frm.below hlt.1 HB1.out).trans hf2); clear hc2 hb2 hf2; go_wp2; go_end0; exact ⟨⟨_, rfl⟩, HC2.out, HB2.out, HF2.out⟩
set_option maxHeartbeats 1000000 in
set_option maxRecDepth 100000 in
theorem do_7 (B b : Nat) (c : Crs) (x : Cmd) (ax an ak at' aa ae : Option Addr) (cx cn ck ct ca ce : Nat) (w : World) (h : CrsB w B b c false) (hT : TxtsM anyB w (.slice ax x.texts.length cx) x.texts) (h0 : x.texts ≠ []) (hl : c.acts.length ≤ 6) :
    Calls Tryz.prog 49 #[.pointer (some ⟨b, 0, none⟩), .agg #[.int .i64 7, .slice ax x.texts.length cx, .int .i64 x.test.kind, .int .i64 x.test.mat, .int .i64 x.test.part, .slice an x.test.names.length cn, .slice ak x.test.keys.length ck, .bool x.test.over, .int .i64 x.test.limit, .slice at' x.test.tests.length ct, .slice aa x.thn.length ca, .slice ae x.els.length ce]] w (jbl w B b (askP c ⟨7, x.texts.getD 0 [], 0⟩)) := by
  have hlt := h.lt; obtain ⟨W0, hW0⟩ : ∃ W0, W0 = w.alloc (.cells #[.int .i64 7, .slice ax x.texts.length cx, .int .i64 x.test.kind, .int .i64 x.test.mat, .int .i64 x.test.part, .slice an x.test.names.length cn, .slice ak x.test.keys.length ck, .bool x.test.over, .int .i64 x.test.limit, .slice at' x.test.tests.length ct, .slice aa x.thn.length ca, .slice ae x.els.length ce] 58) := ⟨_, rfl⟩; have HWE := hid hW0; have HB0 := hid (show Below w.heap.size w W0 by rw [hW0]; exact (Below.refl _ _).alloc (Nat.le_refl _) _); have HC0 := hid (h.next HB0.out); have HCW := hid h; have hs0 : W0.heap.size = w.heap.size + 1 := by rw [hW0]; simp
  clear h hW0; obtain ⟨a, k, h1, _⟩ := HC0.out; obtain ⟨⟨q0, q1, q2, q3, q4⟩, f0, f1, f2, f3, f4⟩ := box5 h1; have HA := hid (jfx b c.flags x ax an ak at' aa ae cx cn ck ct ca ce W0 q1 (hT.next HB0.out) h0); obtain ⟨y, hy⟩ : ∃ y : Atn, y = ⟨7, x.texts.getD 0 [], 0⟩ := ⟨_, rfl⟩; rw [← hy] at HA; rw [← hy]; clear h1 q0 q1 q2 q3 q4 f0 f1 f2 f3 f4 hy; go_enter Tryz.func49, Tryz.ntmps49; go_wp2_with fail; rw [← HWE.out]; refine HA.out.mono ?_; rintro e w1 ⟨rfl, hb1⟩; simp only; have HC1 := hid (HC0.out.next hb1); have HB1 := hid (HB0.out.trans (hb1.mono HB0.out.size)); clear hb1 HWE; go_wp2_with fail; refine (jbp B b c y w1 HC1.out hl).mono ?_; rintro e w2 ⟨⟨v, rfl⟩, hc2, hb2, hf2⟩; simp only; have HC2 := hid hc2; have HB2 := hid ((HB1.out.mono (by omega)).trans hb2); have HF2 := hid ((Frm.below hlt.1 HB1.out).trans hf2); clear hc2 hb2 hf2; go_wp2; go_end0; exact ⟨⟨_, rfl⟩, HC2.out, HB2.out, HF2.out⟩
def jiW (x : Cmd) : Prop := (x.kind = 1 ∨ x.kind = 3 ∨ x.kind = 4 ∨ x.kind = 5 ∨ x.kind = 6 ∨ x.kind = 7 ∨ x.kind = 8 ∨ x.kind = 9 ∨ x.kind = 10) ∧ (x.kind = 5 ∨ x.kind = 6 ∨ x.kind = 7 → x.texts ≠ []) ∧ (x.kind = 6 → qv (x.texts.getD 0 []) = 0)
theorem jjt {s : List UInt8} (h : qv s = 0) : s.length ≤ 2000 := by
  unfold qv at h
  by_cases hl : 2000 < s.length
  · rw [if_neg (by unfold zr; rw [if_pos hl]; simp)] at h; cases h
  · omega
theorem jmd (B b : Nat) (c : Crs) (x : Cmd) (ax an ak at' aa ae : Option Addr) (cx cn ck ct ca ce : Nat) (w : World) (h : CrsB w B b c false) (hl : c.acts.length ≤ 6) (hf0 : 0 ≤ c.flags) (hf1 : c.flags ≤ 31) (hw : FlagsAt w) (hT : TxtsM anyB w (.slice ax x.texts.length cx) x.texts) (hP : jiW x) :
    Calls Tryz.prog 49 #[.pointer (some ⟨b, 0, none⟩), .agg #[.int .i64 x.kind, .slice ax x.texts.length cx, .int .i64 x.test.kind, .int .i64 x.test.mat, .int .i64 x.test.part, .slice an x.test.names.length cn, .slice ak x.test.keys.length ck, .bool x.test.over, .int .i64 x.test.limit, .slice at' x.test.tests.length ct, .slice aa x.thn.length ca, .slice ae x.els.length ce]] w (jbl w B b (doP c x)) := by
  obtain ⟨hk, h5, h6⟩ := hP; obtain ⟨kd, tx, ts, th, el⟩ := x; simp only at hk h5 h6 hT ⊢
  rcases hk with rfl | rfl | rfl | rfl | rfl | rfl | rfl | rfl | rfl
  · exact do_1 B b c ⟨1, tx, ts, th, el⟩ ax an ak at' aa ae cx cn ck ct ca ce w h
  · exact do_3 B b c ⟨3, tx, ts, th, el⟩ ax an ak at' aa ae cx cn ck ct ca ce w h hl
  · exact do_4 B b c ⟨4, tx, ts, th, el⟩ ax an ak at' aa ae cx cn ck ct ca ce w h hl
  · exact do_5 B b c ⟨5, tx, ts, th, el⟩ ax an ak at' aa ae cx cn ck ct ca ce w h hT (h5 (by decide)) hl
  · exact do_6 B b c ⟨6, tx, ts, th, el⟩ ax an ak at' aa ae cx cn ck ct ca ce w h hT (h5 (by decide)) (h6 rfl) (jjt (h6 rfl)) hl
  · exact do_7 B b c ⟨7, tx, ts, th, el⟩ ax an ak at' aa ae cx cn ck ct ca ce w h hT (h5 (by decide)) hl
  · exact do_8 B b c ⟨8, tx, ts, th, el⟩ ax an ak at' aa ae cx cn ck ct ca ce w h hw hT
  · exact do_9 B b c ⟨9, tx, ts, th, el⟩ ax an ak at' aa ae cx cn ck ct ca ce w h hf0 hf1 hw hT
  · exact jmV B b c ⟨10, tx, ts, th, el⟩ ax an ak at' aa ae cx cn ck ct ca ce w h
theorem ji2 (c : Crs) (a : Atn) (h : c.acts.length ≤ 6) : (askP c a).1.acts.length ≤ 6 := by
  unfold askP; split
  · exact h
  · split
    · exact h
    · split
      · exact h
      · simp; omega
theorem jg9 (c : Crs) (x : Cmd) (h : c.acts.length ≤ 6) : (doP c x).1.acts.length ≤ 6 := by
  unfold doP; split
  · exact h
  · split
    · exact h
    · split
      · exact h
      · split
        · exact h
        · exact ji2 c _ h
theorem je9 {B : Nat} {w : World} {a : Option Addr} {k : Nat} {l : List Atn} (h : OwnAs B w (.slice a l.length k) l) : a = none → l = [] ∧ k = 0 := by
  intro ha; obtain ⟨css, h1, _⟩ := h
  rcases h1.2 with ⟨e, hn⟩ | ⟨g, cap, cur, e, _⟩
  · simp only [Value.slice.injEq] at e; exact ⟨List.length_eq_zero_iff.1 hn, e.2.2⟩
  · simp only [Value.slice.injEq] at e; rw [ha] at e; cases e.1
end Go.Proofs.YtaapmpchcfcniaaGreatDoor
namespace Go.Proofs.YtaapmpchcfcniaaGreatDoor
open Go.RowKit Go.Proofs
def ji8 (c : Crs) : Prop := c.acts.length ≤ 6 ∧ 0 ≤ c.flags ∧ c.flags ≤ 31
theorem jfD (c : Crs) (a : Atn) : (askP c a).1.flags = c.flags := by
  unfold askP; split
  · rfl
  · split
    · rfl
    · split <;> rfl
theorem jmX {a b : Nat} (ha : a < 32) (hb : b < 32) : a ||| b < 32 := Nat.or_lt_two_pow (n := 5) ha hb
theorem jme {c : Crs} (h : ji8 c) (x : Cmd) : ji8 (doP c x).1 := by
  obtain ⟨h1, h2, h3⟩ := h; refine ⟨jg9 c x h1, ?_⟩; unfold doP; split
  · exact ⟨h2, h3⟩
  · split
    · exact ⟨h2, h3⟩
    · split
      · have := jbE x.texts; exact ⟨by show (0 : Int) ≤ (zj x.texts : Nat); omega, by show ((zj x.texts : Nat) : Int) ≤ 31; omega⟩
      · split
        · have h := jmX (a := c.flags.toNat) (b := zj x.texts) (by omega) (jbE x.texts); exact ⟨by show (0 : Int) ≤ ((c.flags.toNat ||| zj x.texts : Nat) : Int); omega, by show ((c.flags.toNat ||| zj x.texts : Nat) : Int) ≤ 31; omega⟩
        · rw [jfD]; exact ⟨h2, h3⟩
def newC : Crs := ⟨[], 0, false, 0⟩
theorem jmp : ji8 newC := ⟨by simp [newC], by simp [newC], by simp [newC]⟩
end Go.Proofs.YtaapmpchcfcniaaGreatDoor
