/-
  Commands that are made at a depth at which there is no If: their makers once more.
-/
import Derived.Test.YtiefkkmkhhannaaGreatDoorScrCk
import Derived.Test.YtiefkkmkhhannaaGreatDoorRowGw
import Derived.Test.YtiefkkmkhhannaaGreatDoorTokMem
import Derived.Test.YtiefkkmkhhannaaGreatDoorRulPur
import Derived.Test.YtiefkkmkhhannaaGreatDoorMkCmd
namespace Go.Proofs.YtiefkkmkhhannaaGreatDoor
open Go.RowKit Go.Proofs

def NC2 (c : Cmd) : Prop := NC c ∧ c.kind ≠ 2
def CmdP2 (m : Nat) (w : World) (e : Ending) (w' : World) : Prop := ∃ (c : Cmd) (cs' : List Value), e = .returned (.agg cs'.toArray) ∧ CmdM (newB' w.heap.size) m w' c cs' ∧ NC2 c ∧ Below w.heap.size w w'
def CmdC2 (d m : Nat) : Prop := ∀ (n : Nat) (x : Stk) (cs : List Value) (w : World), StkM n w x cs →
    Calls Tryz.prog 12 #[.agg cs.toArray, .int .i64 d] w (CmdP2 m w)
def CmdsC2 (d m : Nat) : Prop := ∀ (n : Nat) (l : List Stk) (a : Option Addr) (c : Nat) (w : World), SticksM n w (.slice a l.length c) l →
    Calls Tryz.prog 10 #[.slice a l.length c, .int .i64 d] w fun e w' => ∃ (L : List Cmd) (a' : Option Addr) (c' : Nat), e = .returned (.slice a' L.length c') ∧ CmdsM (newB' w.heap.size) m w' (.slice a' L.length c') L ∧ (∀ x ∈ L, NC2 x) ∧ L.length ≤ 4 ∧ (L = [] → a' = none ∧ c' = 0) ∧ Below w.heap.size w w'
theorem cmd_of2 (d m : Nat) (hd : ¬ d < 2) : CmdC2 d (m + 2) := by
  intro n x cs w h
  cases n with
  | zero => exact h.elim
  | succ n =>
  have hp := pickN_lt x.kind 12 (by omega)
  have go : ∀ p : Nat, p < 12 → pickN x.kind 12 = p → Calls Tryz.prog 12 #[.agg cs.toArray, .int .i64 d] w (CmdQ (m + 2) w) := by
    intro p hp12 hpe
    match p, hp12 with
    | 0, _ => exact cmd_keep d m n x cs w h (by rw [hpe]; rfl)
    | 1, _ => exact cmd_deep d m n x cs w h (by rw [hpe]; rfl) hd
    | 2, _ => exact cmd_file d m n x cs w h (by rw [hpe]; rfl)
    | 3, _ => exact cmd_deep d m n x cs w h (by rw [hpe]; rfl) hd
    | 4, _ => exact cmd_redirect d m n x cs w h (by rw [hpe]; rfl)
    | 5, _ => exact cmd_deep d m n x cs w h (by rw [hpe]; rfl) hd
    | 6, _ => exact cmd_discard d m n x cs w h (by rw [hpe]; rfl)
    | 7, _ => exact cmd_setflag d m n x cs w h (by rw [hpe]; rfl)
    | 8, _ => exact cmd_addflag d m n x cs w h (by rw [hpe]; rfl)
    | 9, _ => exact cmd_reject d m n x cs w h (by rw [hpe]; rfl)
    | 10, _ => exact cmd_stop d m n x cs w h (by rw [hpe]; rfl)
    | 11, _ => exact cmd_deep d m n x cs w h (by rw [hpe]; rfl) hd
  exact go _ hp rfl
set_option maxHeartbeats 8000000 in
set_option maxRecDepth 100000 in
theorem cmds_of2 (d m : Nat) (ih : CmdC2 d m) : CmdsC2 d m := by
  intro n l a c w h
  have HR := hid h
  have HIH := hid ih
  have hlm : l.length ≤ maxLen := h.small
  unfold maxLen at hlm
  obtain ⟨i0, hi, hz0, hz1, hz2⟩ := info_parts infoCmd
  clear h ih
  go_enter Tryz.func10, Tryz.ntmps10
  go_wp2
  go_loopw [5, 6] (fun v i wr => ∃ (acc : List Cmd) (a0 : Option Addr) (c0 : Nat), acc.length ≤ l.length ∧ acc.length ≤ 4 ∧ i = .int .i64 acc.length ∧ v = .slice a0 acc.length c0 ∧
      Hid (OwnCs w.heap.size m wr (.slice a0 acc.length c0) acc) ∧ Hid (∀ u ∈ acc, NC2 u) ∧ Hid (Below w.heap.size w wr) ∧ Hid (acc = [] → a0 = none ∧ c0 = 0)) (fun _ i _ => 4 - (intOf i).toNat)
  case atStart => exact ⟨[], none, 0, Nat.zero_le _, Nat.zero_le _, rfl, rfl, hid (show OwnRow _ _ _ _ _ (.slice none 0 0) ([] : List Cmd) from OwnRow.nil _ _ _ _ _), (fun u hu => by cases hu), Below.refl _ _, fun _ => ⟨rfl, rfl⟩⟩
  case round =>
    obtain ⟨acc, a0, c0, hl1, hl3, rfl, rfl, HO, HN, HB, HE⟩ := hrel
    by_cases hlt : acc.length < l.length ∧ acc.length < 4
    · obtain ⟨hl, h3⟩ := hlt
      have i1 : (acc.length : Int) < (l.length : Int) := by omega
      have i2 : (acc.length : Int) < 4 := by omega
      have i3 : (0 : Int) ≤ (acc.length : Int) := by omega
      obtain ⟨a', c', hv, hsm, hrow⟩ := SticksM.next HR.out HB.out
      simp only [Value.slice.injEq, true_and] at hv
      obtain ⟨rfl, rfl⟩ := hv
      obtain ⟨y, hy⟩ : ∃ y, l[acc.length]? = some y := ⟨_, List.getElem?_eq_getElem hl⟩
      obtain ⟨b, o, cy, rfl, hbl, _, hly, hcy, hY⟩ := hrow _ y hy
      obtain ⟨ay, ky, rfl⟩ := stk_form hY
      have HY := hid hY
      have e0 : wr.cell? ⟨b, o + acc.length * 6, none⟩ = some (.int .i64 y.kind) := by simpa using hcy 0 _ rfl
      have e1 : wr.cell? ⟨b, o + acc.length * 6 + 1, none⟩ = some (.int .i64 y.a) := hcy 1 _ rfl
      have e2 : wr.cell? ⟨b, o + acc.length * 6 + 2, none⟩ = some (.int .i64 y.b) := hcy 2 _ rfl
      have e3 : wr.cell? ⟨b, o + acc.length * 6 + 3, none⟩ = some (.string (S y.s)) := hcy 3 _ rfl
      have e4 : wr.cell? ⟨b, o + acc.length * 6 + 4, none⟩ = some (.string (S y.t)) := hcy 4 _ rfl
      have e5 : wr.cell? ⟨b, o + acc.length * 6 + 5, none⟩ = some (.slice ay y.ins.length ky) := hcy 5 _ rfl
      clear hcy hrow hY hy
      go_wp2_with fail
      refine (HIH.out n y _ wr HY.out).mono ?_
      rintro e w2 ⟨t', cs', rfl, hT, hN, hb2⟩
      obtain ⟨ax, cx, an, cn, ak, ck, at', ct, aa, ca, ae, ce, m0, _, rfl, _⟩ := cmd_form hT
      have hs2 := hb2.size
      have hs0 := HB.out.size
      obtain ⟨css, k1, k2, k3, k4⟩ := HO.out.next' (firm_cmd m) hb2
      have hrow3 : ∀ k, (Value.slice a0 acc.length c0).ownBlock = some k → k < wr.heap.size := fun k hk => by
        obtain ⟨_, g1, _⟩ := HO.out
        exact (World.ownsRow.lt g1 k hk).2
      have HTT := hid (show CmdM (rowQ w.heap.size w2 (.slice a0 acc.length c0)) m w2 t' [.int .i64 t'.kind, .slice ax t'.texts.length cx, .int .i64 t'.test.kind, .int .i64 t'.test.mat, .int .i64 t'.test.part, .slice an t'.test.names.length cn, .slice ak t'.test.keys.length ck, .bool t'.test.over, .int .i64 t'.test.limit, .slice at' t'.test.tests.length ct, .slice aa t'.thn.length ca, .slice ae t'.els.length ce] from CmdM.imp (fun k hk => by
        have q1 : wr.heap.size ≤ k := hk.1
        have q2 : k < w2.heap.size := hk.2
        exact ⟨by omega, q2, fun e => by have := hrow3 k e.symm; omega⟩) (Keeps.refl _ _) _ _ _ (CmdM.both _ _ _ hT))
      have hone2 := cmd_one hT
      have HN2 := hid (show ∀ u ∈ acc ++ [t'], NC2 u from fun u hu => by
        rcases List.mem_append.1 hu with e | e
        · exact HN.out u e
        · simp at e; rw [e]; exact hN)
      have HB2 := hid (HB.out.trans (hb2.mono HB.out.size))
      have K1 := hid k1
      have K2 := hid k2
      have K3 := hid k3
      have K4 := hid k4
      have HRB := hid (show ∀ k, (Value.slice a0 acc.length c0).ownBlock = some k → w.heap.size ≤ k from fun k hk => (World.ownsRow.lt k1 k hk).1)
      clear hT hN hb2 k1 k2 k3 k4 e0 e1 e2 e3 e4 e5 hrow3
      go_wp2_with (at_builtin; refine wpList_append_lies _ rfl _ _ 50 rfl w.heap.size 55 i0 _ 12 192 Tryz.underlying50 hi hz0 hz1 hz2 rfl (by decide) (.slice a0 acc.length c0) acc.length css.flatten rfl (World.ownsRow.alloc (World.ownsRow.alloc K1.out _) _) ⟨w2.heap.size + 1, 0, none⟩ 1 1 [.int .i64 t'.kind, .slice ax t'.texts.length cx, .int .i64 t'.test.kind, .int .i64 t'.test.mat, .int .i64 t'.test.part, .slice an t'.test.names.length cn, .slice ak t'.test.keys.length ck, .bool t'.test.over, .int .i64 t'.test.limit, .slice at' t'.test.tests.length ct, .slice aa t'.thn.length ca, .slice ae t'.els.length ce] rfl rfl (eight' _ _ _ _ (by simp)) hone2 (by omega) ?c3 ?c4 ?c5 _ rfl ?_)
      case c3 => unfold maxLen; omega
      case c4 => omega
      case c5 => simp; omega
      intro g cap w5 hown' hgrow hat hlt5
      have hgal := grown2 hgrow
      have HO5 := hid (show OwnCs w.heap.size m w5 (.slice (some ⟨g, 0, none⟩) (acc.length + 1) cap) (acc ++ [t']) from
        OwnRow.more (firm_cmd m) (v := .slice a0 acc.length c0) (H := w2.heap.size + 2) K2.out K3.out K4.out HTT.out rfl hown' hgal (by
          rcases hat with e | e
          · exact .inl e.symm
          · exact .inr (by rw [e]; simp [Value.ownBlock])) (by omega))
      have HB5 := hid (show Below w.heap.size w w5 from HB2.out.grown hgal HB2.out.size (fun k hk => HRB.out k hk))
      clear hgrow hat hgal hown'
      go_wp2
      go_roundw
      case rel =>
        have hlen : (acc ++ [t']).length = acc.length + 1 := by simp
        have R : ∃ (acc' : List Cmd) (a0 : Option Addr) (c0 : Nat), acc'.length ≤ l.length ∧ acc'.length ≤ 4 ∧ Value.int .i64 ((acc.length : Int) + 1) = .int .i64 acc'.length ∧ Value.slice (some ⟨g, 0, none⟩) (acc.length + 1) cap = .slice a0 acc'.length c0 ∧
            Hid (OwnCs w.heap.size m w5 (.slice a0 acc'.length c0) acc') ∧ Hid (∀ u ∈ acc', NC2 u) ∧ Hid (Below w.heap.size w w5) ∧ Hid (acc' = [] → a0 = none ∧ c0 = 0) :=
          ⟨acc ++ [t'], some ⟨g, 0, none⟩, cap, by omega, by omega, by rw [hlen]; rfl, by rw [hlen], by rw [hlen]; exact HO5, HN2, HB5, fun e => by simp at e⟩
        first | exact R | ((repeat apply Exists.intro); exact ⟨R, rfl⟩) | (refine ⟨trivial, ?_⟩; (repeat apply Exists.intro); exact ⟨R, rfl⟩)
      case measure => simp [intOf]; omega
    · have HL := hid (show CmdsM (newB' w.heap.size) m wr (.slice a0 acc.length c0) acc from HO.out.rowM (firm_cmd m) (by unfold maxLen; omega))
      have hstop : ¬ acc.length < l.length ∨ (acc.length < l.length ∧ acc.length = 4) := by omega
      rcases hstop with hst | ⟨hst, hst3⟩
      · have i1 : ¬ (acc.length : Int) < (l.length : Int) := by omega
        clear hlt hst
        go_wp2
        go_ret
        exact ⟨acc, a0, c0, rfl, HL.out, HN.out, hl3, HE.out, HB.out⟩
      · have i1 : (acc.length : Int) < (l.length : Int) := by omega
        have i2 : ¬ (acc.length : Int) < 4 := by omega
        clear hlt hst hst3
        go_wp2
        go_ret
        exact ⟨acc, a0, c0, rfl, HL.out, HN.out, hl3, HE.out, HB.out⟩
theorem cmds_two (m : Nat) : CmdsC2 2 (m + 2) := cmds_of2 2 (m + 2) (cmd_of2 2 m (by omega))
end Go.Proofs.YtiefkkmkhhannaaGreatDoor
