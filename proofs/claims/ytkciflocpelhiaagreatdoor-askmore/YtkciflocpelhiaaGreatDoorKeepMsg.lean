/-
  What the laws' maker of a message does: the walk.
-/
import Derived.Test.YtkciflocpelhiaaGreatDoorKeepWx
import Derived.Test.YtkciflocpelhiaaGreatDoorKeepWord
import Derived.Test.YtkciflocpelhiaaGreatDoorLetPar
import Derived.Test.YtkciflocpelhiaaGreatDoorCut
import Derived.Deep.RegionLaw
namespace Go.Proofs.YtkciflocpelhiaaGreatDoor
open Go.RowKit

def mkF (f : F) : F := (wordL f.1, valL f.2)
def msgK (fs : List F) (k : Nat) : List F := (fs.take k).map mkF
theorem msgK_len {fs : List F} {k : Nat} (hk : k ≤ fs.length) : (msgK fs k).length = k := by simp [msgK]; omega
theorem msgK_step {fs : List F} {k : Nat} {f : F} (h : fs[k]? = some f) : msgK fs (k + 1) = msgK fs k ++ [mkF f] := by
  unfold msgK; rw [take_some h, List.map_append]; rfl

theorem chain2 {B : Nat} {w0 w1 w2 w3 : World} {o : Obj} {row : Option Nat} (h1 : Below w0.heap.size w0 w1) (h2 : Below w1.heap.size w1 w2) (hg : (w2.alloc o).grownBy w3 row) (hB : B ≤ w0.heap.size) (hr : ∀ k, row = some k → B ≤ k) : Below B w0 w3 := by
  have s1 := h1.size
  have s2 := h2.size
  exact (((h1.mono hB).trans (h2.mono (by omega))).alloc (by omega) o).grown hg (by simp; omega) hr
theorem chainO {w0 w1 w2 : World} {o : Obj} {base : Nat} {e : TypeId} {size : Nat} {v : Value} {n : Nat} {xs : List Value} (h : w0.ownsRow base e size v n xs) (h1 : Below w0.heap.size w0 w1) (h2 : Below w1.heap.size w1 w2) : (w2.alloc o).ownsRow base e size v n xs :=
  World.ownsRow.alloc (own_below (own_below h h1) h2) o
theorem chainS {w0 w1 w2 : World} {o : Obj} {B : Nat} (hB : B ≤ w0.heap.size) (h1 : Below w0.heap.size w0 w1) (h2 : Below w1.heap.size w1 w2) : B ≤ (w2.alloc o).heap.size := by
  have s1 := h1.size
  have s2 := h2.size
  simp; omega

set_option maxHeartbeats 8000000 in
set_option maxRecDepth 100000 in
/-- With the row that it has made. -/
theorem message_full (a : Option Addr) (c : Nat) (fs : List F) (body : ByteArray) (w : World) (hF : FieldsAt w a fs) (hl : fs.length ≤ maxLen) (hb : ∀ f ∈ fs, f.1.length ≤ maxLen ∧ f.2.length ≤ maxLen) (hbody : body.size ≤ maxLen) :
    Calls Tryz.prog 9 #[.slice a fs.length c, .string body] w fun e w' => ∃ a' c', e = .returned (.agg #[.slice a' (msgK fs 6).length c', .string (cutB body 200)]) ∧ FieldsAt w' a' (msgK fs 6) ∧ OwnF w' (w.heap.size + 2) (.slice a' (msgK fs 6).length c') (msgK fs 6) ∧ Below w.heap.size w w' := by
  obtain ⟨i0, hi, hz0, hz1, hz2⟩ := info_parts infoField
  have hl' := hl
  unfold maxLen at hl'
  have HL : Hid _ := hl
  have HB : Hid _ := hb
  have HY : Hid _ := hbody
  clear hl hb hbody
  go_enter Tryz.func9, Tryz.ntmps9
  go_wp2
  go_loopw [6] (fun i wr => ∃ (k : Nat) (a0 : Option Addr) (c0 : Nat), k ≤ fs.length ∧ k ≤ 6 ∧ i = .int .i64 k ∧ wr.cell? ⟨w.heap.size + 1, 0, none⟩ = some (.slice a0 k c0) ∧ OwnF wr (w.heap.size + 2) (.slice a0 k c0) (msgK fs k) ∧
      wr.cell? ⟨w.heap.size + 1, 1, none⟩ = some (.string ⟨#[]⟩) ∧ wr.cell? ⟨w.heap.size, 0, none⟩ = some (.slice none 0 0) ∧ wr.cell? ⟨w.heap.size, 1, none⟩ = some (.string ⟨#[]⟩) ∧
      (∀ o, wr.frozen? ⟨w.heap.size + 1, o, none⟩ = false) ∧ (∀ o, wr.frozen? ⟨w.heap.size, o, none⟩ = false) ∧ Below w.heap.size w wr ∧ w.heap.size + 2 ≤ wr.heap.size) (fun i _ => 6 - (intOf i).toNat)
  case atStart => exact ⟨0, none, 0, Nat.zero_le _, Nat.zero_le _, rfl, by simp, OwnF.nil _ _, by simp, by simp, by simp, by intro o; simp, by intro o; simp, ((Below.refl _ _).alloc (Nat.le_refl _) _).alloc (by simp) _, by simp⟩
  case round =>
    obtain ⟨k, a0, c0, hk, hk6, rfl, m0, hO, m1, r0, r1, z1, z2, hBw, hsz⟩ := hrel
    by_cases hlt : k < fs.length ∧ k < 6
    · obtain ⟨hl1, hl2⟩ := hlt
      obtain ⟨f, hf⟩ : ∃ f, fs[k]? = some f := ⟨_, List.getElem?_eq_getElem hl1⟩
      obtain ⟨b, off, rfl, hbl, h1, h2⟩ := (hF.below hBw) k f hf
      have hbl0 : b < w.heap.size := by
        obtain ⟨b', off', e, hb', _⟩ := hF k f hf
        simp only [Option.some.injEq, Addr.mk.injEq, and_true] at e
        omega
      have hfb := HB.out f (List.mem_of_getElem? hf)
      have HS1 : Hid ((S f.1).size ≤ maxLen) := by unfold Hid; rw [size_S]; exact hfb.1
      have HS2 : Hid ((S f.2).size ≤ maxLen) := by unfold Hid; rw [size_S]; exact hfb.2
      have HW : Hid (wordL (S f.1).data.toList = wordL f.1) := by unfold Hid; rw [list_S]
      have HV : Hid (valL (S f.2).data.toList = valL f.2) := by unfold Hid; rw [list_S]
      have HM : Hid _ := msgK_step hf
      have HK : Hid ((msgK fs k).length = k) := msgK_len hk
      have hO' : World.ownsRow (wr.drew) (w.heap.size + 2) 53 2 (.slice a0 k c0) k (cellsF (msgK fs k)) := by
        have := hO; unfold OwnF at this; rw [HK.out] at this; exact this
      have hrow : ∀ j, (Value.slice a0 k c0).ownBlock = some j → w.heap.size + 2 ≤ j := fun j hj => (World.ownsRow.lt hO' j hj).1
      have i1 : (0 : Int) ≤ (k : Int) := by omega
      have i2 : (k : Int) < (fs.length : Int) := by omega
      have hszd : w.heap.size + 2 ≤ wr.drew.heap.size := hsz
      clear hf hfb hO
      go_wp2_with fail
      have hne : b ≠ w.heap.size + 1 := by omega
      have hne' : w.heap.size + 1 ≠ b := by omega
      go_region_law
        (first
          | (refine step_append_lies _ (by rfl) _ _ _ (by rfl) (w.heap.size + 2) 53 i0 _ 2 32 Tryz.underlying47 hi hz0 hz1 hz2 rfl (by omega) (.slice a0 k c0) k (cellsF (msgK fs k)) (by rfl) (by first | exact chainO hO' hbW hbV | exact chainO hO' hbV hbW)
              ⟨_, 0, none⟩ 1 1 [.string (S (wordL f.1)), .string (S (valL f.2))] (by rfl) (by rfl) (cell_pair_new _ _ _ _) (by simp [Value.oneCell']) (by omega) (by unfold maxLen; omega) (by omega) (by first | exact chainS hszd hbW hbV | exact chainS hszd hbV hbW) _ rfl ?_
             intro g cap w3 hown3 hgrow hat hlt3
             obtain ⟨hB3⟩ : Nonempty (PLift (Below (w.heap.size + 2) wr.drew w3)) := by first | exact ⟨⟨chain2 hbW hbV hgrow hszd hrow⟩⟩ | exact ⟨⟨chain2 hbV hbW hgrow hszd hrow⟩⟩
             have z3 : w3.frozen? ⟨w.heap.size + 1, 0, none⟩ = false := (hB3.down.frozen (by simp)).trans (z1 0)
             have q3 : w3.cell? ⟨w.heap.size + 1, 0, none⟩ = some (.slice a0 k c0) := (hB3.down.cell (by simp)).trans m0
             clear hgrow)
          | (go_simp
             go_at_call 13
             refine (word_any _ _ HS1.out).mono ?_
             rintro e wW ⟨rfl, hbW⟩
             rw [HW.out]
             have mW : wW.cell? ⟨w.heap.size + 1, 0, none⟩ = some (.slice a0 k c0) := by first | exact cell_next mV hbW | exact cell_next (w := wr.drew) m0 hbW
             have szW : w.heap.size + 1 < wW.heap.size := World.block_lt_of_cell? wW _ mW
             have lW : wW.cell? ⟨b, off + k * 2 + 1, none⟩ = some (.string (S f.2)) := by first | exact cell_next lV' hbW | exact cell_next (w := wr.drew) h2 hbW)
          | (go_simp
             go_at_call 18
             refine (value_any _ _ HS2.out).mono ?_
             rintro e wV ⟨rfl, hbV⟩
             rw [HV.out]
             have mV : wV.cell? ⟨w.heap.size + 1, 0, none⟩ = some (.slice a0 k c0) := by first | exact cell_next mW hbV | exact cell_next (w := wr.drew) m0 hbV
             have szV : w.heap.size + 1 < wV.heap.size := World.block_lt_of_cell? wV _ mV
             have lV' : wV.cell? ⟨b, off + k * 2 + 1, none⟩ = some (.string (S f.2)) := by first | exact cell_next lW hbV | exact cell_next (w := wr.drew) h2 hbV
             have lV : wV.cell? ⟨b, off + k * 2, none⟩ = some (.string (S f.1)) := by first | exact cell_next (w := wr.drew) h1 hbV | exact cell_next (cell_next (w := wr.drew) h1 hbW) hbV))
      all_goals
        have hB4 : Below (w.heap.size + 2) wr w3 := (Below.refl (w.heap.size + 2) wr).drew.trans hB3.down
        have y1 : w3.cell? ⟨w.heap.size + 1, 1, none⟩ = some (.string ⟨#[]⟩) := (hB4.cell (by simp)).trans m1
        have y2 : w3.cell? ⟨w.heap.size, 0, none⟩ = some (.slice none 0 0) := (hB4.cell (by simp)).trans r0
        have y3 : w3.cell? ⟨w.heap.size, 1, none⟩ = some (.string ⟨#[]⟩) := (hB4.cell (by simp)).trans r1
        have hsz3 : w.heap.size + 2 ≤ w3.heap.size := Nat.le_trans hsz hB4.size
        have hO3 : OwnF (w3.setCell ⟨w.heap.size + 1, 0, none⟩ (.slice (some ⟨g, 0, none⟩) (k + 1) cap)) (w.heap.size + 2) (.slice (some ⟨g, 0, none⟩) (k + 1) cap) (msgK fs (k + 1)) := by
          refine OwnF.far ?_ (by simp) _
          unfold OwnF
          rw [HM.out, cellsF_append, cellsF_one, List.length_append, HK.out]
          exact hown3
        have HO : Hid _ := hO3
        have HC0 : Hid ((w3.setCell ⟨w.heap.size + 1, 0, none⟩ (.slice (some ⟨g, 0, none⟩) (k + 1) cap)).cell? ⟨w.heap.size + 1, 0, none⟩ = some (.slice (some ⟨g, 0, none⟩) (k + 1) cap)) := World.cell?_setCell_same' w3 _ _ (by rw [q3]; rfl)
        have t1 : (w3.setCell ⟨w.heap.size + 1, 0, none⟩ (.slice (some ⟨g, 0, none⟩) (k + 1) cap)).cell? ⟨w.heap.size + 1, 1, none⟩ = some (.string ⟨#[]⟩) := (World.cell?_setCell_other w3 _ _ _ (by simp)).trans y1
        have t2 : (w3.setCell ⟨w.heap.size + 1, 0, none⟩ (.slice (some ⟨g, 0, none⟩) (k + 1) cap)).cell? ⟨w.heap.size, 0, none⟩ = some (.slice none 0 0) := (cell_set_far (by simp)).trans y2
        have t3 : (w3.setCell ⟨w.heap.size + 1, 0, none⟩ (.slice (some ⟨g, 0, none⟩) (k + 1) cap)).cell? ⟨w.heap.size, 1, none⟩ = some (.string ⟨#[]⟩) := (cell_set_far (by simp)).trans y3
        have t4 : ∀ o, (w3.setCell ⟨w.heap.size + 1, 0, none⟩ (.slice (some ⟨g, 0, none⟩) (k + 1) cap)).frozen? ⟨w.heap.size + 1, o, none⟩ = false := fun o => by
          have := (hB4.frozen (p := ⟨w.heap.size + 1, o, none⟩) (by simp)).trans (z1 o); simpa using this
        have t5 : ∀ o, (w3.setCell ⟨w.heap.size + 1, 0, none⟩ (.slice (some ⟨g, 0, none⟩) (k + 1) cap)).frozen? ⟨w.heap.size, o, none⟩ = false := fun o => by
          have := (hB4.frozen (p := ⟨w.heap.size, o, none⟩) (by simp)).trans (z2 o); simpa using this
        have t6 : Below w.heap.size w (w3.setCell ⟨w.heap.size + 1, 0, none⟩ (.slice (some ⟨g, 0, none⟩) (k + 1) cap)) := (hBw.trans (hB4.mono (by omega))).setCell (by simp) _
        have HH : Hid _ := And.intro t1 (And.intro t2 (And.intro t3 (And.intro t4 (And.intro t5 t6))))
        clear hO3 hown3 t1 t2 t3 t4 t5 t6 z1 z2
        go_wp2
        go_roundw
        case rel => exact ⟨k + 1, some ⟨g, 0, none⟩, cap, by omega, by omega, by go_num, HC0.out, HO.out, HH.out.1, HH.out.2.1, HH.out.2.2.1, HH.out.2.2.2.1, HH.out.2.2.2.2.1, HH.out.2.2.2.2.2, by simpa using hsz3⟩
        case measure => simp [intOf]; omega
    · have HT : Hid (msgK fs k = msgK fs 6) := by
        unfold Hid msgK
        by_cases h6 : k = 6
        · rw [h6]
        · rw [List.take_of_length_le (by omega), List.take_of_length_le (by omega)]
      have HK : Hid ((msgK fs k).length = k) := msgK_len hk
      have hO2 : OwnF wr (w.heap.size + 2) (.slice a0 (msgK fs k).length c0) (msgK fs k) := by rw [HK.out]; exact hO
      by_cases h8 : k < fs.length
      case' pos => have hk8' : ¬ k < 6 := fun h => hlt ⟨h8, h⟩
      all_goals
        clear hlt
        go_wp2_with fail
        refine (cut_any body 200 _ HY.out (by omega)).mono ?_
        rintro e u ⟨rfl, hu⟩
        have hu' := hu.symm
        subst hu'
        have f1 := z1 1
        have f2 := z2 0
        have f3 := z2 1
        have HR : Hid (OwnF (((wr.setCell ⟨w.heap.size + 1, 1, none⟩ (.string (cutB body 200))).setCell ⟨w.heap.size, 0, none⟩ (.slice a0 k c0)).setCell ⟨w.heap.size, 1, none⟩ (.string (cutB body 200))) (w.heap.size + 2) (.slice a0 (msgK fs k).length c0) (msgK fs k)) := ((hO2.far (by simp) _).far (by simp) _).far (by simp) _
        clear hO hO2
        go_wp2
        refine bodyPost_ret (v := .agg #[.slice a0 k c0, .string (cutB body 200)]) (by simp [results, Tryz.results9, go_sem, r0, r1]) rfl ⟨a0, c0, ?_, ?_, ?_, ((hBw.setCell (by simp) _).setCell (by simp) _).setCell (by simp) _⟩
        · rw [← HT.out, HK.out]
        · rw [← HT.out]; exact OwnF.fields HR.out
        · rw [← HT.out]; exact HR.out

theorem message_any (a : Option Addr) (c : Nat) (fs : List F) (body : ByteArray) (w : World) (hF : FieldsAt w a fs) (hl : fs.length ≤ maxLen) (hb : ∀ f ∈ fs, f.1.length ≤ maxLen ∧ f.2.length ≤ maxLen) (hbody : body.size ≤ maxLen) :
    Calls Tryz.prog 9 #[.slice a fs.length c, .string body] w fun e w' => ∃ a' c', e = .returned (.agg #[.slice a' (msgK fs 6).length c', .string (cutB body 200)]) ∧ FieldsAt w' a' (msgK fs 6) ∧ Below w.heap.size w w' :=
  (message_full a c fs body w hF hl hb hbody).mono fun _ _ ⟨a', c', h1, h2, _, h3⟩ => ⟨a', c', h1, h2, h3⟩
end Go.Proofs.YtkciflocpelhiaaGreatDoor
