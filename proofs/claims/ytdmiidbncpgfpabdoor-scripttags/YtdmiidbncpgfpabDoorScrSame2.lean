/-
  What postroomkeep's sameCommands does with the same: the walk.
-/
import Derived.Test.YtdmiidbncpgfpabDoorScrSame
namespace Go.Proofs.YtdmiidbncpgfpabDoor
open Go.RowKit Go.Proofs

theorem cmd_halves {n : Nat} {w : World} {c : Cmd} {ax an ak at' aa ae : Option Addr} {cx cn ck ct ca ce : Nat} (h : CmdM anyB (n + 1) w c [.int .i64 c.kind, .slice ax c.texts.length cx, .int .i64 c.test.kind, .int .i64 c.test.mat, .int .i64 c.test.part, .slice an c.test.names.length cn, .slice ak c.test.keys.length ck, .bool c.test.over, .int .i64 c.test.limit, .slice at' c.test.tests.length ct, .slice aa c.thn.length ca, .slice ae c.els.length ce]) :
    TxtsM anyB w (.slice ax c.texts.length cx) c.texts ∧ TstM anyB n w c.test [.int .i64 c.test.kind, .int .i64 c.test.mat, .int .i64 c.test.part, .slice an c.test.names.length cn, .slice ak c.test.keys.length ck, .bool c.test.over, .int .i64 c.test.limit, .slice at' c.test.tests.length ct] ∧ CmdsM anyB n w (.slice aa c.thn.length ca) c.thn ∧ CmdsM anyB n w (.slice ae c.els.length ce) c.els := by
  obtain ⟨vx, vn, vk, vt, va, ve, he, h1, h2, h3, h4⟩ := h
  simp only [List.cons.injEq, true_and, and_true] at he
  obtain ⟨rfl, rfl, rfl, rfl, rfl, rfl⟩ := he
  exact ⟨h1, h2, h3, h4⟩
def SS (p1 o1 p2 o2 i : Nat) (x : Cmd) (fx fn fk ft fa fe gx gn gk gt ga ge : Option Addr) (fX fN fK fT fA fE gX gN gK gT gA gE : Nat) (w' : World) : Prop := w'.cell? ⟨p1, o1 + i * 12, none⟩ = some (.int .i64 x.kind) ∧ w'.cell? ⟨p1, o1 + i * 12 + 1, none⟩ = some (.slice fx x.texts.length fX) ∧ w'.cell? ⟨p1, o1 + i * 12 + 2, none⟩ = some (.int .i64 x.test.kind) ∧ w'.cell? ⟨p1, o1 + i * 12 + 3, none⟩ = some (.int .i64 x.test.mat) ∧ w'.cell? ⟨p1, o1 + i * 12 + 4, none⟩ = some (.int .i64 x.test.part) ∧ w'.cell? ⟨p1, o1 + i * 12 + 5, none⟩ = some (.slice fn x.test.names.length fN) ∧ w'.cell? ⟨p1, o1 + i * 12 + 6, none⟩ = some (.slice fk x.test.keys.length fK) ∧ w'.cell? ⟨p1, o1 + i * 12 + 7, none⟩ = some (.bool x.test.over) ∧ w'.cell? ⟨p1, o1 + i * 12 + 8, none⟩ = some (.int .i64 x.test.limit) ∧ w'.cell? ⟨p1, o1 + i * 12 + 9, none⟩ = some (.slice ft x.test.tests.length fT) ∧ w'.cell? ⟨p1, o1 + i * 12 + 10, none⟩ = some (.slice fa x.thn.length fA) ∧ w'.cell? ⟨p1, o1 + i * 12 + 11, none⟩ = some (.slice fe x.els.length fE) ∧ w'.cell? ⟨p2, o2 + i * 12, none⟩ = some (.int .i64 x.kind) ∧ w'.cell? ⟨p2, o2 + i * 12 + 1, none⟩ = some (.slice gx x.texts.length gX) ∧ w'.cell? ⟨p2, o2 + i * 12 + 2, none⟩ = some (.int .i64 x.test.kind) ∧ w'.cell? ⟨p2, o2 + i * 12 + 3, none⟩ = some (.int .i64 x.test.mat) ∧ w'.cell? ⟨p2, o2 + i * 12 + 4, none⟩ = some (.int .i64 x.test.part) ∧ w'.cell? ⟨p2, o2 + i * 12 + 5, none⟩ = some (.slice gn x.test.names.length gN) ∧ w'.cell? ⟨p2, o2 + i * 12 + 6, none⟩ = some (.slice gk x.test.keys.length gK) ∧ w'.cell? ⟨p2, o2 + i * 12 + 7, none⟩ = some (.bool x.test.over) ∧ w'.cell? ⟨p2, o2 + i * 12 + 8, none⟩ = some (.int .i64 x.test.limit) ∧ w'.cell? ⟨p2, o2 + i * 12 + 9, none⟩ = some (.slice gt x.test.tests.length gT) ∧ w'.cell? ⟨p2, o2 + i * 12 + 10, none⟩ = some (.slice ga x.thn.length gA) ∧ w'.cell? ⟨p2, o2 + i * 12 + 11, none⟩ = some (.slice ge x.els.length gE)
theorem SS.next {p1 o1 p2 o2 i : Nat} {x : Cmd} {fx fn fk ft fa fe gx gn gk gt ga ge : Option Addr} {fX fN fK fT fA fE gX gN gK gT gA gE : Nat} {w w' : World} (h : SS p1 o1 p2 o2 i x fx fn fk ft fa fe gx gn gk gt ga ge fX fN fK fT fA fE gX gN gK gT gA gE w) (hb : Below w.heap.size w w') : SS p1 o1 p2 o2 i x fx fn fk ft fa fe gx gn gk gt ga ge fX fN fK fT fA fE gX gN gK gT gA gE w' := by
  obtain ⟨h0, h1, h2, h3, h4, h5, h6, h7, h8, h9, h10, h11, h12, h13, h14, h15, h16, h17, h18, h19, h20, h21, h22, h23⟩ := h
  exact ⟨wcell_next h0 hb, wcell_next h1 hb, wcell_next h2 hb, wcell_next h3 hb, wcell_next h4 hb, wcell_next h5 hb, wcell_next h6 hb, wcell_next h7 hb, wcell_next h8 hb, wcell_next h9 hb, wcell_next h10 hb, wcell_next h11 hb, wcell_next h12 hb, wcell_next h13 hb, wcell_next h14 hb, wcell_next h15 hb, wcell_next h16 hb, wcell_next h17 hb, wcell_next h18 hb, wcell_next h19 hb, wcell_next h20 hb, wcell_next h21 hb, wcell_next h22 hb, wcell_next h23 hb⟩
/-- The contract of sameCommands at the same commands, with so much fuel. -/
def SamC (n : Nat) : Prop := ∀ (l : List Cmd) (w : World) (a b : Option Addr) (c d : Nat), CmdsM anyB n w (.slice a l.length c) l → CmdsM anyB n w (.slice b l.length d) l →
    Calls Tryd.prog 11 #[.slice a l.length c, .slice b l.length d] w fun e w' => e = .returned (.bool true) ∧ Below w.heap.size w w'

set_option maxHeartbeats 8000000 in
set_option maxRecDepth 100000 in
theorem sameCmd_any (n : Nat) : SamC n := by
  induction n with
  | zero =>
    intro l w a b c d hA hB
    have hl : l = [] := by
      cases l with
      | nil => rfl
      | cons x l =>
        exfalso
        obtain ⟨_, _, _, _, hr⟩ := hA
        obtain ⟨_, _, _, _, _, _, _, _, hP⟩ := hr 0 x rfl
        exact hP
    subst hl
    clear hA hB
    go_enter Tryd.func11, Tryd.ntmps11
    go_wp2
    go_loopw [5] (fun i wr => i = .int .i64 0 ∧ wr = w) (fun _ _ => 0)
    case atStart => exact ⟨rfl, rfl⟩
    case round =>
      obtain ⟨rfl, rfl⟩ := hrel
      go_wp2
      go_ret
      exact ⟨rfl, Below.refl _ _⟩
  | succ n ih =>
    intro l w a b c d hA hB
    have HA := hid hA
    have HB := hid hB
    have HIH := hid ih
    have hmx := hA.small
    unfold maxLen at hmx
    clear hA hB ih
    go_enter Tryd.func11, Tryd.ntmps11
    go_wp2
    go_loopw [5] (fun i wr => ∃ k : Nat, k ≤ l.length ∧ i = .int .i64 k ∧ Hid (Below w.heap.size w wr)) (fun i _ => l.length - (intOf i).toNat)
    case atStart => exact ⟨0, Nat.zero_le _, rfl, Below.refl _ _⟩
    case round =>
      obtain ⟨i, hk, rfl, HBr⟩ := hrel
      by_cases hlt : i < l.length
      · have i1 : (i : Int) < (l.length : Int) := by omega
        have i3 : (0 : Int) ≤ (i : Int) := by omega
        obtain ⟨x, hx⟩ : ∃ x, l[i]? = some x := ⟨_, List.getElem?_eq_getElem hlt⟩
        obtain ⟨p1, o1, fx, fX, fn, fN, fk, fK, ft, fT, fa, fA, fe, fE, rfl, hp1, c0, c1, c2, c3, c4, c5, c6, c7, c8, c9, c10, c11, hT1⟩ := cmd_at (HA.out.next HBr.out) hx
        obtain ⟨p2, o2, gx, gX, gn, gN, gk, gK, gt, gT, ga, gA, ge, gE, rfl, hp2, d0, d1, d2, d3, d4, d5, d6, d7, d8, d9, d10, d11, hT2⟩ := cmd_at (HB.out.next HBr.out) hx
        obtain ⟨s1, s2, s3, s4⟩ := cmd_halves hT1
        obtain ⟨r1, r2, r3, r4⟩ := cmd_halves hT2
        have hdr : Below wr.heap.size wr wr.drew := (Below.refl _ wr).drew
        have S1 := hid (s1.next hdr)
        have S2 := hid (s2.next hdr)
        have S3 := hid (s3.next hdr)
        have S4 := hid (s4.next hdr)
        have R1 := hid (r1.next hdr)
        have R2 := hid (r2.next hdr)
        have R3 := hid (r3.next hdr)
        have R4 := hid (r4.next hdr)
        have Q0 := hid (show SS p1 o1 p2 o2 i x fx fn fk ft fa fe gx gn gk gt ga ge fX fN fK fT fA fE gX gN gK gT gA gE wr.drew from ⟨c0, c1, c2, c3, c4, c5, c6, c7, c8, c9, c10, c11, d0, d1, d2, d3, d4, d5, d6, d7, d8, d9, d10, d11⟩)
        clear hx hT1 hT2 s1 s2 s3 s4 r1 r2 r3 r4 hdr c0 c1 c2 c3 c4 c5 c6 c7 c8 c9 c10 c11 d0 d1 d2 d3 d4 d5 d6 d7 d8 d9 d10 d11
        go_wp2
        simp only [List.append]
        go_region_held3 (fun w' => w'.cell? ⟨p1, o1 + i * 12, none⟩ = some (.int .i64 x.kind) ∧ w'.cell? ⟨p1, o1 + i * 12 + 1, none⟩ = some (.slice fx x.texts.length fX) ∧ w'.cell? ⟨p1, o1 + i * 12 + 2, none⟩ = some (.int .i64 x.test.kind) ∧ w'.cell? ⟨p1, o1 + i * 12 + 3, none⟩ = some (.int .i64 x.test.mat) ∧ w'.cell? ⟨p1, o1 + i * 12 + 4, none⟩ = some (.int .i64 x.test.part) ∧ w'.cell? ⟨p1, o1 + i * 12 + 5, none⟩ = some (.slice fn x.test.names.length fN) ∧ w'.cell? ⟨p1, o1 + i * 12 + 6, none⟩ = some (.slice fk x.test.keys.length fK) ∧ w'.cell? ⟨p1, o1 + i * 12 + 7, none⟩ = some (.bool x.test.over) ∧ w'.cell? ⟨p1, o1 + i * 12 + 8, none⟩ = some (.int .i64 x.test.limit) ∧ w'.cell? ⟨p1, o1 + i * 12 + 9, none⟩ = some (.slice ft x.test.tests.length fT) ∧ w'.cell? ⟨p1, o1 + i * 12 + 10, none⟩ = some (.slice fa x.thn.length fA) ∧ w'.cell? ⟨p1, o1 + i * 12 + 11, none⟩ = some (.slice fe x.els.length fE) ∧ w'.cell? ⟨p2, o2 + i * 12, none⟩ = some (.int .i64 x.kind) ∧ w'.cell? ⟨p2, o2 + i * 12 + 1, none⟩ = some (.slice gx x.texts.length gX) ∧ w'.cell? ⟨p2, o2 + i * 12 + 2, none⟩ = some (.int .i64 x.test.kind) ∧ w'.cell? ⟨p2, o2 + i * 12 + 3, none⟩ = some (.int .i64 x.test.mat) ∧ w'.cell? ⟨p2, o2 + i * 12 + 4, none⟩ = some (.int .i64 x.test.part) ∧ w'.cell? ⟨p2, o2 + i * 12 + 5, none⟩ = some (.slice gn x.test.names.length gN) ∧ w'.cell? ⟨p2, o2 + i * 12 + 6, none⟩ = some (.slice gk x.test.keys.length gK) ∧ w'.cell? ⟨p2, o2 + i * 12 + 7, none⟩ = some (.bool x.test.over) ∧ w'.cell? ⟨p2, o2 + i * 12 + 8, none⟩ = some (.int .i64 x.test.limit) ∧ w'.cell? ⟨p2, o2 + i * 12 + 9, none⟩ = some (.slice gt x.test.tests.length gT) ∧ w'.cell? ⟨p2, o2 + i * 12 + 10, none⟩ = some (.slice ga x.thn.length gA) ∧ w'.cell? ⟨p2, o2 + i * 12 + 11, none⟩ = some (.slice ge x.els.length gE)) (first | exact Q4.out | exact Q3.out | exact Q2.out | exact Q1.out | exact Q0.out)
          (first
             | (go_at_call 22
                refine (sameTX_any _ _ _ _ x.texts _ S1.out R1.out).mono ?_
                rintro e u1 ⟨rfl, hb1⟩
                have HU1 := hid hb1
                have Q1 := hid (Q0.out.next HU1.out)
                clear hb1)
             | (go_at_call 23
                refine (sameTst_any n x.test _ _ _ _ _ _ _ _ _ _ _ _ _ (S2.out.next HU1.out) (R2.out.next HU1.out)).mono ?_
                rintro e u2 ⟨rfl, hb2⟩
                have HU2 := hid (show Below wr.drew.heap.size wr.drew u2 from HU1.out.trans (hb2.mono HU1.out.size))
                have Q2 := hid (Q0.out.next HU2.out)
                clear hb2)
             | (go_at_call 11
                refine (HIH.out x.els _ _ _ _ _ (S4.out.next HU3.out) (R4.out.next HU3.out)).mono ?_
                rintro e u4 ⟨rfl, hb4⟩
                have HU4 := hid (show Below wr.drew.heap.size wr.drew u4 from HU3.out.trans (hb4.mono HU3.out.size))
                have Q4 := hid (Q0.out.next HU4.out)
                clear hb4)
             | (go_at_call 11
                refine (HIH.out x.thn _ _ _ _ _ (S3.out.next HU2.out) (R3.out.next HU2.out)).mono ?_
                rintro e u3 ⟨rfl, hb3⟩
                have HU3 := hid (show Below wr.drew.heap.size wr.drew u3 from HU2.out.trans (hb3.mono HU2.out.size))
                have Q3 := hid (Q0.out.next HU3.out)
                clear hb3))
        have HB3 := hid (show Below w.heap.size w u4 from HBr.out.drew.trans (HU4.out.mono HBr.out.drew.size))
        go_wp2
        go_roundw
        case rel => first | exact ⟨i + 1, by omega, by go_num, HB3⟩ | ((repeat apply Exists.intro); exact ⟨⟨i + 1, by omega, by go_num, HB3⟩, rfl⟩) | (refine ⟨trivial, ?_⟩; (repeat apply Exists.intro); exact ⟨⟨i + 1, by omega, by go_num, HB3⟩, rfl⟩)
        case measure => simp [intOf]; omega
      · have i1 : ¬ (i : Int) < (l.length : Int) := by omega
        go_wp2
        go_ret
        exact ⟨rfl, HBr.out⟩
end Go.Proofs.YtdmiidbncpgfpabDoor
