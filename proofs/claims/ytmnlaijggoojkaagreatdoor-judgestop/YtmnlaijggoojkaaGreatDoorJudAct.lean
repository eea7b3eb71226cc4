/-
  What a command asks for, and what becomes of a course by it: the walks.
-/
import Derived.Test.YtmnlaijggoojkaaGreatDoorJudDo
import Derived.Test.YtmnlaijggoojkaaGreatDoorRulCs
import Derived.Test.YtmnlaijggoojkaaGreatDoorWhoPart
import Derived.Test.YtmnlaijggoojkaaGreatDoorWhoPure
namespace Go.Proofs.YtmnlaijggoojkaaGreatDoor
open Go.RowKit Go.Proofs

def flagsZ (l : List (List UInt8)) : Nat := (flagsP l).getD 0
def goalT (s : List UInt8) : List UInt8 := (partM 1 ((listM s).1.getD 0 ([], [])).1 ((listM s).1.getD 0 ([], [])).2).1
/-- What a command asks for now. -/
def actP (f : Int) (x : Cmd) : Atn :=
  ⟨x.kind, if x.kind = 5 ∨ x.kind = 7 then x.texts.getD 0 [] else if x.kind = 6 then goalT (x.texts.getD 0 []) else [], if x.kind = 3 ∨ x.kind = 5 then f else 0⟩
/-- P7.4: a course behind a command that is no If; true: it is over. -/
def doP (c : Crs) (x : Cmd) : Crs × Bool :=
  if x.kind = 1 then (c, false)
  else if x.kind = 10 then (c, true)
  else if x.kind = 8 then (⟨c.acts, (flagsZ x.texts : Nat), c.asked, c.fault⟩, false)
  else if x.kind = 9 then (⟨c.acts, ((c.flags.toNat ||| flagsZ x.texts : Nat) : Int), c.asked, c.fault⟩, false)
  else askP c (actP c.flags x)

set_option maxHeartbeats 1000000 in
set_option maxRecDepth 100000 in
theorem flagsOfJ_any (x : Cmd) (ax an ak at' aa ae : Option Addr) (cx cn ck ct ca ce : Nat) (w : World) (hw : FlagsAt w) (hT : TxtsM anyB w (.slice ax x.texts.length cx) x.texts) :
    Calls Tryz.prog 93 #[.agg #[.int .i64 x.kind, .slice ax x.texts.length cx, .int .i64 x.test.kind, .int .i64 x.test.mat, .int .i64 x.test.part, .slice an x.test.names.length cn, .slice ak x.test.keys.length ck, .bool x.test.over, .int .i64 x.test.limit, .slice at' x.test.tests.length ct, .slice aa x.thn.length ca, .slice ae x.els.length ce]] w fun e w' => e = .returned (.int .i64 (flagsZ x.texts : Nat)) ∧ Below w.heap.size w w' := by
  obtain ⟨W0, hW0⟩ : ∃ W0, W0 = w.alloc (.cells #[.int .i64 x.kind, .slice ax x.texts.length cx, .int .i64 x.test.kind, .int .i64 x.test.mat, .int .i64 x.test.part, .slice an x.test.names.length cn, .slice ak x.test.keys.length ck, .bool x.test.over, .int .i64 x.test.limit, .slice at' x.test.tests.length ct, .slice aa x.thn.length ca, .slice ae x.els.length ce] 60) := ⟨_, rfl⟩
  have HWE := hid hW0
  have HB0 := hid (show Below w.heap.size w W0 by rw [hW0]; exact (Below.refl _ _).alloc (Nat.le_refl _) _)
  have HF := hid (flags_any x.texts ax cx W0 (hw.next HB0.out) (hT.next HB0.out))
  clear hw hT hW0
  go_enter Tryz.func93, Tryz.ntmps93
  go_wp2_with fail
  rw [← HWE.out]
  refine HF.out.mono ?_
  rintro e w1 ⟨rfl, hb1⟩
  simp only
  have HB1 := hid (HB0.out.trans (hb1.mono HB0.out.size))
  clear hb1 HWE
  cases hf : flagsP x.texts with
  | none =>
    have HE := hid (show flagsZ x.texts = 0 by unfold flagsZ; rw [hf]; rfl)
    clear hf
    unfold flagsT
    simp only
    go_wp2
    go_ret
    exact ⟨ret_int (by rw [HE.out]; rfl), HB1.out⟩
  | some v =>
    have HE := hid (show flagsZ x.texts = v by unfold flagsZ; rw [hf]; rfl)
    clear hf
    unfold flagsT
    simp only
    go_wp2
    go_ret
    exact ⟨ret_int (by rw [HE.out]), HB1.out⟩
theorem goal_one {s : List UInt8} (h : goalP s = 0) : ∃ x, listM s = ([x], 0) := by
  unfold goalP at h
  split at h
  · next h2 =>
    obtain ⟨e1, e2⟩ := h2
    match hl : (listM s).1, e2 with
    | [x], _ => exact ⟨x, by rw [← hl, ← e1]⟩
  · cases h
theorem adr_may {s : List UInt8} {x : Adr} (h : listM s = ([x], 0)) : checkA x.1 x.2 = 0 := by
  unfold listM at h
  split at h
  · cases h
  · split at h
    · cases h
    · next l hl =>
      split at h
      · cases h
      · cases h
        exact listF_may _ _ _ hl x (by simp)
theorem adr_short {s : List UInt8} {x : Adr} (h : listM s = ([x], 0)) : x.1.length ≤ 2000 ∧ x.2.length ≤ 2000 := by
  have := may_short (adr_may h)
  omega
set_option maxHeartbeats 1000000 in
set_option maxRecDepth 100000 in
theorem goalOf_any (s : List UInt8) (w : World) (hg : goalP s = 0) (hs : s.length ≤ 2000) :
    Calls Tryz.prog 132 #[.string (S s)] w fun e w' => e = .returned (.string (S (goalT s))) ∧ Below w.heap.size w w' := by
  obtain ⟨x, hx⟩ := goal_one hg
  obtain ⟨l1, l2⟩ := adr_short hx
  have HT := hid (show goalT s = (partM 1 x.1 x.2).1 by unfold goalT; rw [hx]; rfl)
  have HL := hid (show Calls Tryz.prog 81 #[.string (S s)] w (Faced w ([x], 0)) by
    have := list_any (S s) w (by rw [size_S]; unfold maxLen; omega)
    rw [list_S, hx] at this
    exact this)
  have HP := hid (fun W => part_any 1 (S x.1) (S x.2) W (by rw [size_S]; omega) (by rw [size_S]; omega))
  clear hg hx hs
  go_enter Tryz.func132, Tryz.ntmps132
  go_wp2_with fail
  refine HL.out.mono ?_
  rintro e w1 ⟨a, c, rfl, hA, hb1⟩
  simp only
  obtain ⟨b, rfl, hbl, c0, c1⟩ := hA 0 x rfl
  have HB1 := hid hb1
  clear hb1 hA
  simp only [List.length_cons, List.length_nil, Nat.zero_mul, Nat.zero_add] at c0 c1 ⊢
  go_wp2_with fail
  refine (HP.out w1).mono ?_
  rw [list_S, list_S]
  rintro e w2 ⟨rfl, hb2⟩
  simp only
  have HB2 := hid (HB1.out.trans (hb2.mono HB1.out.size))
  clear hb2
  go_wp2
  go_ret
  exact ⟨by rw [HT.out]; rfl, HB2.out⟩

theorem below3 (w : World) (o1 o2 o3 : Obj) : Below w.heap.size w (((w.alloc o1).alloc o2).alloc o3) := (((Below.refl _ _).alloc (Nat.le_refl _) _).alloc (by simp) _).alloc (by simp; omega) _
def ActR (w : World) (y : Atn) (e : Ending) (w' : World) : Prop := e = .returned (.agg #[.int .i64 y.kind, .string (S y.text), .int .i64 y.flags]) ∧ Below w.heap.size w w'
set_option maxHeartbeats 1000000 in
set_option maxRecDepth 100000 in
theorem actionOf_3 (b : Nat) (f : Int) (x : Cmd) (ax an ak at' aa ae : Option Addr) (cx cn ck ct ca ce : Nat) (w : World) (hb : w.cell? ⟨b, 1, none⟩ = some (.int .i64 f)) :
    Calls Tryz.prog 95 #[.pointer (some ⟨b, 0, none⟩), .agg #[.int .i64 3, .slice ax x.texts.length cx, .int .i64 x.test.kind, .int .i64 x.test.mat, .int .i64 x.test.part, .slice an x.test.names.length cn, .slice ak x.test.keys.length ck, .bool x.test.over, .int .i64 x.test.limit, .slice at' x.test.tests.length ct, .slice aa x.thn.length ca, .slice ae x.els.length ce]] w (ActR w ⟨3, [], f⟩) := by
  have hbU : (((w.alloc (.cells #[.int .i64 3, .slice ax x.texts.length cx, .int .i64 x.test.kind, .int .i64 x.test.mat, .int .i64 x.test.part, .slice an x.test.names.length cn, .slice ak x.test.keys.length ck, .bool x.test.over, .int .i64 x.test.limit, .slice at' x.test.tests.length ct, .slice aa x.thn.length ca, .slice ae x.els.length ce] 60)).alloc (.cells #[.int .i64 0, .string ⟨#[]⟩, .int .i64 0] 94)).alloc (.cells #[.int .i64 3, .string ⟨#[]⟩, .int .i64 0] 94)).cell? ⟨b, 1, none⟩ = some (.int .i64 f) := wcell_next hb (below3 w (.cells #[.int .i64 3, .slice ax x.texts.length cx, .int .i64 x.test.kind, .int .i64 x.test.mat, .int .i64 x.test.part, .slice an x.test.names.length cn, .slice ak x.test.keys.length ck, .bool x.test.over, .int .i64 x.test.limit, .slice at' x.test.tests.length ct, .slice aa x.thn.length ca, .slice ae x.els.length ce] 60) (.cells #[.int .i64 0, .string ⟨#[]⟩, .int .i64 0] 94) (.cells #[.int .i64 3, .string ⟨#[]⟩, .int .i64 0] 94))
  clear hb
  go_enter Tryz.func95, Tryz.ntmps95
  go_wp2
  refine bodyPost_ret (v := .agg #[.int .i64 3, .string ⟨#[]⟩, .int .i64 f]) (by simp [results, Tryz.results95, go_sem, *]) rfl ?_
  exact ⟨rfl, below3 _ _ _ _⟩
set_option maxHeartbeats 1000000 in
set_option maxRecDepth 100000 in
theorem actionOf_4 (b : Nat) (f : Int) (x : Cmd) (ax an ak at' aa ae : Option Addr) (cx cn ck ct ca ce : Nat) (w : World) (hb : w.cell? ⟨b, 1, none⟩ = some (.int .i64 f)) :
    Calls Tryz.prog 95 #[.pointer (some ⟨b, 0, none⟩), .agg #[.int .i64 4, .slice ax x.texts.length cx, .int .i64 x.test.kind, .int .i64 x.test.mat, .int .i64 x.test.part, .slice an x.test.names.length cn, .slice ak x.test.keys.length ck, .bool x.test.over, .int .i64 x.test.limit, .slice at' x.test.tests.length ct, .slice aa x.thn.length ca, .slice ae x.els.length ce]] w (ActR w ⟨4, [], 0⟩) := by
  have hbU : (((w.alloc (.cells #[.int .i64 4, .slice ax x.texts.length cx, .int .i64 x.test.kind, .int .i64 x.test.mat, .int .i64 x.test.part, .slice an x.test.names.length cn, .slice ak x.test.keys.length ck, .bool x.test.over, .int .i64 x.test.limit, .slice at' x.test.tests.length ct, .slice aa x.thn.length ca, .slice ae x.els.length ce] 60)).alloc (.cells #[.int .i64 0, .string ⟨#[]⟩, .int .i64 0] 94)).alloc (.cells #[.int .i64 4, .string ⟨#[]⟩, .int .i64 0] 94)).cell? ⟨b, 1, none⟩ = some (.int .i64 f) := wcell_next hb (below3 w (.cells #[.int .i64 4, .slice ax x.texts.length cx, .int .i64 x.test.kind, .int .i64 x.test.mat, .int .i64 x.test.part, .slice an x.test.names.length cn, .slice ak x.test.keys.length ck, .bool x.test.over, .int .i64 x.test.limit, .slice at' x.test.tests.length ct, .slice aa x.thn.length ca, .slice ae x.els.length ce] 60) (.cells #[.int .i64 0, .string ⟨#[]⟩, .int .i64 0] 94) (.cells #[.int .i64 4, .string ⟨#[]⟩, .int .i64 0] 94))
  clear hb
  go_enter Tryz.func95, Tryz.ntmps95
  go_wp2
  refine bodyPost_ret (v := .agg #[.int .i64 4, .string ⟨#[]⟩, .int .i64 0]) (by simp [results, Tryz.results95, go_sem, *]) rfl ?_
  exact ⟨rfl, below3 _ _ _ _⟩
set_option maxHeartbeats 1000000 in
set_option maxRecDepth 100000 in
theorem actionOf_5 (b : Nat) (f : Int) (x : Cmd) (ax an ak at' aa ae : Option Addr) (cx cn ck ct ca ce : Nat) (w : World) (hb : w.cell? ⟨b, 1, none⟩ = some (.int .i64 f)) (hT : TxtsM anyB w (.slice ax x.texts.length cx) x.texts) (h0 : x.texts ≠ []) :
    Calls Tryz.prog 95 #[.pointer (some ⟨b, 0, none⟩), .agg #[.int .i64 5, .slice ax x.texts.length cx, .int .i64 x.test.kind, .int .i64 x.test.mat, .int .i64 x.test.part, .slice an x.test.names.length cn, .slice ak x.test.keys.length ck, .bool x.test.over, .int .i64 x.test.limit, .slice at' x.test.tests.length ct, .slice aa x.thn.length ca, .slice ae x.els.length ce]] w (ActR w ⟨5, x.texts.getD 0 [], f⟩) := by
  obtain ⟨bt, ot, rfl, e0⟩ := txts_first hT h0
  have hpos : 0 < x.texts.length := List.length_pos_iff.2 h0
  have j1 : (0 : Int) < (x.texts.length : Int) := by omega
  obtain ⟨t, ht⟩ : ∃ t, t = x.texts.getD 0 [] := ⟨_, rfl⟩
  rw [← ht] at e0
  rw [← ht]
  have hbO : ∀ o, (((w.alloc (.cells #[.int .i64 5, .slice (some ⟨bt, ot, none⟩) x.texts.length cx, .int .i64 x.test.kind, .int .i64 x.test.mat, .int .i64 x.test.part, .slice an x.test.names.length cn, .slice ak x.test.keys.length ck, .bool x.test.over, .int .i64 x.test.limit, .slice at' x.test.tests.length ct, .slice aa x.thn.length ca, .slice ae x.els.length ce] 60)).alloc (.cells #[.int .i64 0, .string ⟨#[]⟩, .int .i64 0] 94)).alloc o).cell? ⟨b, 1, none⟩ = some (.int .i64 f) := fun o => wcell_next hb (below3 w _ _ o)
  have e0O : ∀ o, (((w.alloc (.cells #[.int .i64 5, .slice (some ⟨bt, ot, none⟩) x.texts.length cx, .int .i64 x.test.kind, .int .i64 x.test.mat, .int .i64 x.test.part, .slice an x.test.names.length cn, .slice ak x.test.keys.length ck, .bool x.test.over, .int .i64 x.test.limit, .slice at' x.test.tests.length ct, .slice aa x.thn.length ca, .slice ae x.els.length ce] 60)).alloc (.cells #[.int .i64 0, .string ⟨#[]⟩, .int .i64 0] 94)).alloc o).cell? ⟨bt, ot, none⟩ = some (.string (S t)) := fun o => wcell_next e0 (below3 w _ _ o)
  have hbU : (((w.alloc (.cells #[.int .i64 5, .slice (some ⟨bt, ot, none⟩) x.texts.length cx, .int .i64 x.test.kind, .int .i64 x.test.mat, .int .i64 x.test.part, .slice an x.test.names.length cn, .slice ak x.test.keys.length ck, .bool x.test.over, .int .i64 x.test.limit, .slice at' x.test.tests.length ct, .slice aa x.thn.length ca, .slice ae x.els.length ce] 60)).alloc (.cells #[.int .i64 0, .string ⟨#[]⟩, .int .i64 0] 94)).alloc (.cells #[.int .i64 5, .string ⟨#[]⟩, .int .i64 0] 94)).cell? ⟨b, 1, none⟩ = some (.int .i64 f) := wcell_next hb (below3 w (.cells #[.int .i64 5, .slice (some ⟨bt, ot, none⟩) x.texts.length cx, .int .i64 x.test.kind, .int .i64 x.test.mat, .int .i64 x.test.part, .slice an x.test.names.length cn, .slice ak x.test.keys.length ck, .bool x.test.over, .int .i64 x.test.limit, .slice at' x.test.tests.length ct, .slice aa x.thn.length ca, .slice ae x.els.length ce] 60) (.cells #[.int .i64 0, .string ⟨#[]⟩, .int .i64 0] 94) (.cells #[.int .i64 5, .string ⟨#[]⟩, .int .i64 0] 94))
  have e0U : (((w.alloc (.cells #[.int .i64 5, .slice (some ⟨bt, ot, none⟩) x.texts.length cx, .int .i64 x.test.kind, .int .i64 x.test.mat, .int .i64 x.test.part, .slice an x.test.names.length cn, .slice ak x.test.keys.length ck, .bool x.test.over, .int .i64 x.test.limit, .slice at' x.test.tests.length ct, .slice aa x.thn.length ca, .slice ae x.els.length ce] 60)).alloc (.cells #[.int .i64 0, .string ⟨#[]⟩, .int .i64 0] 94)).alloc (.cells #[.int .i64 5, .string ⟨#[]⟩, .int .i64 0] 94)).cell? ⟨bt, ot, none⟩ = some (.string (S t)) := wcell_next e0 (below3 w (.cells #[.int .i64 5, .slice (some ⟨bt, ot, none⟩) x.texts.length cx, .int .i64 x.test.kind, .int .i64 x.test.mat, .int .i64 x.test.part, .slice an x.test.names.length cn, .slice ak x.test.keys.length ck, .bool x.test.over, .int .i64 x.test.limit, .slice at' x.test.tests.length ct, .slice aa x.thn.length ca, .slice ae x.els.length ce] 60) (.cells #[.int .i64 0, .string ⟨#[]⟩, .int .i64 0] 94) (.cells #[.int .i64 5, .string ⟨#[]⟩, .int .i64 0] 94))
  clear hb hT h0 ht e0
  go_enter Tryz.func95, Tryz.ntmps95
  go_wp2
  go_region_law (fail)
  all_goals
    go_wp2
    refine bodyPost_ret (v := .agg #[.int .i64 5, .string (S t), .int .i64 f]) (by simp [results, Tryz.results95, go_sem, *]) rfl ?_
    first | exact ⟨rfl, below3 _ _ _ _⟩ | exact ⟨rfl, (below3 _ _ _ _).drew⟩ | exact ⟨rfl, ((((Below.refl _ _).alloc (Nat.le_refl _) _).alloc (by simp) _).alloc (by simp; omega) _)⟩ | exact ⟨rfl, ((((Below.refl _ _).alloc (Nat.le_refl _) _).drew.alloc (by simp) _).alloc (by simp; omega) _)⟩ | exact ⟨rfl, ((((Below.refl _ _).alloc (Nat.le_refl _) _).alloc (by simp) _).drew.alloc (by simp; omega) _)⟩
set_option maxHeartbeats 1000000 in
set_option maxRecDepth 100000 in
theorem actionOf_7 (b : Nat) (f : Int) (x : Cmd) (ax an ak at' aa ae : Option Addr) (cx cn ck ct ca ce : Nat) (w : World) (hb : w.cell? ⟨b, 1, none⟩ = some (.int .i64 f)) (hT : TxtsM anyB w (.slice ax x.texts.length cx) x.texts) (h0 : x.texts ≠ []) :
    Calls Tryz.prog 95 #[.pointer (some ⟨b, 0, none⟩), .agg #[.int .i64 7, .slice ax x.texts.length cx, .int .i64 x.test.kind, .int .i64 x.test.mat, .int .i64 x.test.part, .slice an x.test.names.length cn, .slice ak x.test.keys.length ck, .bool x.test.over, .int .i64 x.test.limit, .slice at' x.test.tests.length ct, .slice aa x.thn.length ca, .slice ae x.els.length ce]] w (ActR w ⟨7, x.texts.getD 0 [], 0⟩) := by
  obtain ⟨bt, ot, rfl, e0⟩ := txts_first hT h0
  have hpos : 0 < x.texts.length := List.length_pos_iff.2 h0
  have j1 : (0 : Int) < (x.texts.length : Int) := by omega
  obtain ⟨t, ht⟩ : ∃ t, t = x.texts.getD 0 [] := ⟨_, rfl⟩
  rw [← ht] at e0
  rw [← ht]
  have hbU : (((w.alloc (.cells #[.int .i64 7, .slice (some ⟨bt, ot, none⟩) x.texts.length cx, .int .i64 x.test.kind, .int .i64 x.test.mat, .int .i64 x.test.part, .slice an x.test.names.length cn, .slice ak x.test.keys.length ck, .bool x.test.over, .int .i64 x.test.limit, .slice at' x.test.tests.length ct, .slice aa x.thn.length ca, .slice ae x.els.length ce] 60)).alloc (.cells #[.int .i64 0, .string ⟨#[]⟩, .int .i64 0] 94)).alloc (.cells #[.int .i64 7, .string ⟨#[]⟩, .int .i64 0] 94)).cell? ⟨b, 1, none⟩ = some (.int .i64 f) := wcell_next hb (below3 w (.cells #[.int .i64 7, .slice (some ⟨bt, ot, none⟩) x.texts.length cx, .int .i64 x.test.kind, .int .i64 x.test.mat, .int .i64 x.test.part, .slice an x.test.names.length cn, .slice ak x.test.keys.length ck, .bool x.test.over, .int .i64 x.test.limit, .slice at' x.test.tests.length ct, .slice aa x.thn.length ca, .slice ae x.els.length ce] 60) (.cells #[.int .i64 0, .string ⟨#[]⟩, .int .i64 0] 94) (.cells #[.int .i64 7, .string ⟨#[]⟩, .int .i64 0] 94))
  have e0U : (((w.alloc (.cells #[.int .i64 7, .slice (some ⟨bt, ot, none⟩) x.texts.length cx, .int .i64 x.test.kind, .int .i64 x.test.mat, .int .i64 x.test.part, .slice an x.test.names.length cn, .slice ak x.test.keys.length ck, .bool x.test.over, .int .i64 x.test.limit, .slice at' x.test.tests.length ct, .slice aa x.thn.length ca, .slice ae x.els.length ce] 60)).alloc (.cells #[.int .i64 0, .string ⟨#[]⟩, .int .i64 0] 94)).alloc (.cells #[.int .i64 7, .string ⟨#[]⟩, .int .i64 0] 94)).cell? ⟨bt, ot, none⟩ = some (.string (S t)) := wcell_next e0 (below3 w (.cells #[.int .i64 7, .slice (some ⟨bt, ot, none⟩) x.texts.length cx, .int .i64 x.test.kind, .int .i64 x.test.mat, .int .i64 x.test.part, .slice an x.test.names.length cn, .slice ak x.test.keys.length ck, .bool x.test.over, .int .i64 x.test.limit, .slice at' x.test.tests.length ct, .slice aa x.thn.length ca, .slice ae x.els.length ce] 60) (.cells #[.int .i64 0, .string ⟨#[]⟩, .int .i64 0] 94) (.cells #[.int .i64 7, .string ⟨#[]⟩, .int .i64 0] 94))
  clear hb hT h0 ht e0
  go_enter Tryz.func95, Tryz.ntmps95
  go_wp2
  refine bodyPost_ret (v := .agg #[.int .i64 7, .string (S t), .int .i64 0]) (by simp [results, Tryz.results95, go_sem, *]) rfl ?_
  exact ⟨rfl, below3 _ _ _ _⟩
set_option maxHeartbeats 1000000 in
set_option maxRecDepth 100000 in
theorem actionOf_6 (b : Nat) (f : Int) (x : Cmd) (ax an ak at' aa ae : Option Addr) (cx cn ck ct ca ce : Nat) (w : World) (_ : w.cell? ⟨b, 1, none⟩ = some (.int .i64 f)) (hT : TxtsM anyB w (.slice ax x.texts.length cx) x.texts) (h0 : x.texts ≠ []) (hg : goalP (x.texts.getD 0 []) = 0) (hs : (x.texts.getD 0 []).length ≤ 2000) :
    Calls Tryz.prog 95 #[.pointer (some ⟨b, 0, none⟩), .agg #[.int .i64 6, .slice ax x.texts.length cx, .int .i64 x.test.kind, .int .i64 x.test.mat, .int .i64 x.test.part, .slice an x.test.names.length cn, .slice ak x.test.keys.length ck, .bool x.test.over, .int .i64 x.test.limit, .slice at' x.test.tests.length ct, .slice aa x.thn.length ca, .slice ae x.els.length ce]] w (ActR w ⟨6, goalT (x.texts.getD 0 []), 0⟩) := by
  obtain ⟨bt, ot, rfl, e0⟩ := txts_first hT h0
  have hpos : 0 < x.texts.length := List.length_pos_iff.2 h0
  have j1 : (0 : Int) < (x.texts.length : Int) := by omega
  obtain ⟨t, ht⟩ : ∃ t, t = x.texts.getD 0 [] := ⟨_, rfl⟩
  rw [← ht] at e0 hg hs
  rw [← ht]
  obtain ⟨W0, hW0⟩ : ∃ W0, W0 = (((w.alloc (.cells #[.int .i64 6, .slice (some ⟨bt, ot, none⟩) x.texts.length cx, .int .i64 x.test.kind, .int .i64 x.test.mat, .int .i64 x.test.part, .slice an x.test.names.length cn, .slice ak x.test.keys.length ck, .bool x.test.over, .int .i64 x.test.limit, .slice at' x.test.tests.length ct, .slice aa x.thn.length ca, .slice ae x.els.length ce] 60)).alloc (.cells #[.int .i64 0, .string ⟨#[]⟩, .int .i64 0] 94)).alloc (.cells #[.int .i64 6, .string ⟨#[]⟩, .int .i64 0] 94)) := ⟨_, rfl⟩
  have HWE := hid hW0
  have HB0 := hid (show Below w.heap.size w W0 by rw [hW0]; exact below3 w (.cells #[.int .i64 6, .slice (some ⟨bt, ot, none⟩) x.texts.length cx, .int .i64 x.test.kind, .int .i64 x.test.mat, .int .i64 x.test.part, .slice an x.test.names.length cn, .slice ak x.test.keys.length ck, .bool x.test.over, .int .i64 x.test.limit, .slice at' x.test.tests.length ct, .slice aa x.thn.length ca, .slice ae x.els.length ce] 60) (.cells #[.int .i64 0, .string ⟨#[]⟩, .int .i64 0] 94) (.cells #[.int .i64 6, .string ⟨#[]⟩, .int .i64 0] 94))
  have e0U : (((w.alloc (.cells #[.int .i64 6, .slice (some ⟨bt, ot, none⟩) x.texts.length cx, .int .i64 x.test.kind, .int .i64 x.test.mat, .int .i64 x.test.part, .slice an x.test.names.length cn, .slice ak x.test.keys.length ck, .bool x.test.over, .int .i64 x.test.limit, .slice at' x.test.tests.length ct, .slice aa x.thn.length ca, .slice ae x.els.length ce] 60)).alloc (.cells #[.int .i64 0, .string ⟨#[]⟩, .int .i64 0] 94)).alloc (.cells #[.int .i64 6, .string ⟨#[]⟩, .int .i64 0] 94)).cell? ⟨bt, ot, none⟩ = some (.string (S t)) := wcell_next e0 (below3 w (.cells #[.int .i64 6, .slice (some ⟨bt, ot, none⟩) x.texts.length cx, .int .i64 x.test.kind, .int .i64 x.test.mat, .int .i64 x.test.part, .slice an x.test.names.length cn, .slice ak x.test.keys.length ck, .bool x.test.over, .int .i64 x.test.limit, .slice at' x.test.tests.length ct, .slice aa x.thn.length ca, .slice ae x.els.length ce] 60) (.cells #[.int .i64 0, .string ⟨#[]⟩, .int .i64 0] 94) (.cells #[.int .i64 6, .string ⟨#[]⟩, .int .i64 0] 94))
  have HR0 := hid (show W0.heap[w.heap.size + 1]? = some (.cells #[.int .i64 0, .string ⟨#[]⟩, .int .i64 0] 94) by rw [hW0]; exact heap_old _ (heap_at _ (by simp)))
  have HA0 := hid (show W0.heap[w.heap.size + 1 + 1]? = some (.cells #[.int .i64 6, .string ⟨#[]⟩, .int .i64 0] 94) by rw [hW0]; exact heap_at _ (by simp))
  have HG := hid (goalOf_any t W0 hg hs)
  clear hT h0 ht e0 hg hs hW0
  go_enter Tryz.func95, Tryz.ntmps95
  go_wp2_with fail
  rw [← HWE.out]
  refine HG.out.mono ?_
  rintro e w1 ⟨rfl, hb1⟩
  simp only
  have HB1 := hid (HB0.out.trans (hb1.mono HB0.out.size))
  have HR1 := hid (jlow hb1 HR0.out)
  have HA1 := hid (jlow hb1 HA0.out)
  have hR := HR1.out
  have hA := HA1.out
  have r0 : w1.cell? ⟨w.heap.size + 1, 0, none⟩ = some (.int .i64 0) := by simp [World.cell?, hR]
  have r1 : w1.cell? ⟨w.heap.size + 1, 1, none⟩ = some (.string ⟨#[]⟩) := by simp [World.cell?, hR]
  have r2 : w1.cell? ⟨w.heap.size + 1, 2, none⟩ = some (.int .i64 0) := by simp [World.cell?, hR]
  have q0 : w1.cell? ⟨w.heap.size + 1 + 1, 0, none⟩ = some (.int .i64 6) := by simp [World.cell?, hA]
  have q1 : w1.cell? ⟨w.heap.size + 1 + 1, 1, none⟩ = some (.string ⟨#[]⟩) := by simp [World.cell?, hA]
  have q2 : w1.cell? ⟨w.heap.size + 1 + 1, 2, none⟩ = some (.int .i64 0) := by simp [World.cell?, hA]
  have f0 : ∀ j, w1.frozen? ⟨w.heap.size + 1, j, none⟩ = false := by intro j; simp [World.frozen?, hR]
  have f1 : ∀ j, w1.frozen? ⟨w.heap.size + 1 + 1, j, none⟩ = false := by intro j; simp [World.frozen?, hA]
  clear hb1 HWE e0U hR hA
  go_wp2
  refine bodyPost_ret (v := .agg #[.int .i64 6, .string (S (goalT t)), .int .i64 0]) (by simp [results, Tryz.results95, go_sem, *]) rfl ?_
  exact ⟨rfl, (((HB1.out.setCell (by simp; omega) _).setCell (by simp) _).setCell (by simp) _).setCell (by simp) _⟩
end Go.Proofs.YtmnlaijggoojkaaGreatDoor
