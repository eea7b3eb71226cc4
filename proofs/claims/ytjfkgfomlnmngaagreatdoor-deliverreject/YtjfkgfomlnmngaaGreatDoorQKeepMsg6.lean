/-
  What the laws' maker of a message does: the walk.
  What letter.isValue and letter.shownSize do: the walks.
  What letter.Check does: the walk.
  What a strings.Builder does that the call has made itself: writing a text, and handing it over: the walks.
  What letter.Show does: the walk.
  How an argument that holds fields is read: a slice of pairs of texts; a message; and how great it can be where its bulk is bounded.
  How an argument that holds raw lines is read; what the message that is made of them is.
  How an argument that is a letter in raw bytes is read.
  Plain facts on boxes of mails: which states may be, which entries have their form, what an entry does. No program is named here.
  Plain facts on tokens: what a script is cut into, what tokens are joined to. No program is named here.
  Plain facts on scripts: what commands and tests are, which may be, how they are shown and read. No program is named here.
  Worlds of which all but one block of what was there is as it was. No program is named here.
  Tests and commands in memory: rows within rows. No function of the program is named here.
  Plain facts on scripts: how tokens are read. No program is named here.
-/
import Derived.Test.YtjfkgfomlnmngaaGreatDoorKeepWord
import Derived.Test.YtjfkgfomlnmngaaGreatDoorQScrCard5
import Derived.Test.YtjfkgfomlnmngaaGreatDoorCut
import Derived.Deep.RegionLaw
import Derived.Lib.OthersKept
import Derived.Deep.SlicePairs
import Derived.Lib.SmallJoins
import Derived.ProofKit
import Derived.OpenShut
import Derived.Test.YtjfkgfomlnmngaaGreatDoorQPure2
import Derived.Test.YtjfkgfomlnmngaaGreatDoorQWhoPure4
import Derived.WalkKit
import Derived.Lib.ItoaNum
import Derived.Below
import Derived.Laws.AppendOwn
namespace Go.Proofs.YtjfkgfomlnmngaaGreatDoor
open Go.RowKit

def mkF (f : F) : F := (wordL f.1, valL f.2)
def msgK (fs : List F) (k : Nat) : List F := (fs.take k).map mkF
theorem msgK_len {fs : List F} {k : Nat} (hk : k ≤ fs.length) : (msgK fs k).length = k := by simp [msgK]; omega
theorem msgK_step {fs : List F} {k : Nat} {f : F} (h : fs[k]? = some f) : msgK fs (k + 1) = msgK fs k ++ [mkF f] := by
  unfold msgK; rw [take_some h, List.map_append]; rfl

theorem chain2 {B : Nat} {w0 w1 w2 w3 : World} {o : Obj} {row : Option Nat} (h1 : Below w0.heap.size w0 w1) (h2 : Below w1.heap.size w1 w2) (hg : (w2.alloc o).grownBy w3 row) (hB : B ≤ w0.heap.size) (hr : ∀ k, row = some k → B ≤ k) : Below B w0 w3 := by
  have s1 := h1.size
  have s2 := h2.size
  exact (((h1.mono hB).trans (h2.mono (by omega))).alloc (by omega) o).grown hg (by simp; omega) hr
theorem chainO {w0 w1 w2 : World} {o : Obj} {base : Nat} {e : TypeId} {size : Nat} {v : Value} {n : Nat} {xs : List Value} (h : w0.ownsRow base e size v n xs) (h1 : Below w0.heap.size w0 w1) (h2 : Below w1.heap.size w1 w2) : (w2.alloc o).ownsRow base e size v n xs :=
  World.ownsRow.alloc (own_below (own_below h h1) h2) o
theorem chainS {w0 w1 w2 : World} {o : Obj} {B : Nat} (hB : B ≤ w0.heap.size) (h1 : Below w0.heap.size w0 w1) (h2 : Below w1.heap.size w1 w2) : B ≤ (w2.alloc o).heap.size := by
  have s1 := h1.size
  have s2 := h2.size
  simp; omega

set_option maxHeartbeats 8000000 in
set_option maxRecDepth 100000 in
/-- With the row that it has made. -/
theorem message_full (a : Option Addr) (c : Nat) (fs : List F) (body : ByteArray) (w : World) (hF : FieldsAt w a fs) (hl : fs.length ≤ maxLen) (hb : ∀ f ∈ fs, f.1.length ≤ maxLen ∧ f.2.length ≤ maxLen) (hbody : body.size ≤ maxLen) :
    Calls Tryz.prog 19 #[.slice a fs.length c, .string body] w fun e w' => ∃ a' c', e = .returned (.agg #[.slice a' (msgK fs 6).length c', .string (cutB body 200)]) ∧ FieldsAt w' a' (msgK fs 6) ∧ OwnF w' (w.heap.size + 2) (.slice a' (msgK fs 6).length c') (msgK fs 6) ∧ Below w.heap.size w w' := by
  obtain ⟨i0, hi, hz0, hz1, hz2⟩ := info_parts infoField
  have hl' := hl
  unfold maxLen at hl'
  have HL : Hid _ := hl
  have HB : Hid _ := hb
  have HY : Hid _ := hbody
  clear hl hb hbody
  go_enter Tryz.func19, Tryz.ntmps19
  go_wp2
  go_loopw [6] (fun i wr => ∃ (k : Nat) (a0 : Option Addr) (c0 : Nat), k ≤ fs.length ∧ k ≤ 6 ∧ i = .int .i64 k ∧ wr.cell? ⟨w.heap.size + 1, 0, none⟩ = some (.slice a0 k c0) ∧ OwnF wr (w.heap.size + 2) (.slice a0 k c0) (msgK fs k) ∧
      wr.cell? ⟨w.heap.size + 1, 1, none⟩ = some (.string ⟨#[]⟩) ∧ wr.cell? ⟨w.heap.size, 0, none⟩ = some (.slice none 0 0) ∧ wr.cell? ⟨w.heap.size, 1, none⟩ = some (.string ⟨#[]⟩) ∧
      (∀ o, wr.frozen? ⟨w.heap.size + 1, o, none⟩ = false) ∧ (∀ o, wr.frozen? ⟨w.heap.size, o, none⟩ = false) ∧ Below w.heap.size w wr ∧ w.heap.size + 2 ≤ wr.heap.size) (fun i _ => 6 - (intOf i).toNat)
  case atStart => exact ⟨0, none, 0, Nat.zero_le _, Nat.zero_le _, rfl, by simp, OwnF.nil _ _, by simp, by simp, by simp, by intro o; simp, by intro o; simp, ((Below.refl _ _).alloc (Nat.le_refl _) _).alloc (by simp) _, by simp⟩
  case round =>
    obtain ⟨k, a0, c0, hk, hk6, rfl, m0, hO, m1, r0, r1, z1, z2, hBw, hsz⟩ := hrel
    by_cases hlt : k < fs.length ∧ k < 6
    · obtain ⟨hl1, hl2⟩ := hlt
      obtain ⟨f, hf⟩ : ∃ f, fs[k]? = some f := ⟨_, List.getElem?_eq_getElem hl1⟩
      obtain ⟨b, off, rfl, hbl, h1, h2⟩ := (hF.below hBw) k f hf
      have hbl0 : b < w.heap.size := by
        obtain ⟨b', off', e, hb', _⟩ := hF k f hf
        simp only [Option.some.injEq, Addr.mk.injEq, and_true] at e
        omega
      have hfb := HB.out f (List.mem_of_getElem? hf)
      have HS1 : Hid ((S f.1).size ≤ maxLen) := by unfold Hid; rw [size_S]; exact hfb.1
      have HS2 : Hid ((S f.2).size ≤ maxLen) := by unfold Hid; rw [size_S]; exact hfb.2
      have HW : Hid (wordL (S f.1).data.toList = wordL f.1) := by unfold Hid; rw [list_S]
      have HV : Hid (valL (S f.2).data.toList = valL f.2) := by unfold Hid; rw [list_S]
      have HM : Hid _ := msgK_step hf
      have HK : Hid ((msgK fs k).length = k) := msgK_len hk
      have hO' : World.ownsRow (wr.drew) (w.heap.size + 2) 75 2 (.slice a0 k c0) k (cellsF (msgK fs k)) := by
        have := hO; unfold OwnF at this; rw [HK.out] at this; exact this
      have hrow : ∀ j, (Value.slice a0 k c0).ownBlock = some j → w.heap.size + 2 ≤ j := fun j hj => (World.ownsRow.lt hO' j hj).1
      have i1 : (0 : Int) ≤ (k : Int) := by omega
      have i2 : (k : Int) < (fs.length : Int) := by omega
      have hszd : w.heap.size + 2 ≤ wr.drew.heap.size := hsz
      clear hf hfb hO
      go_wp2_with fail
      have hne : b ≠ w.heap.size + 1 := by omega
      have hne' : w.heap.size + 1 ≠ b := by omega
      go_region_law
        (first
          | (refine step_append_lies _ (by rfl) _ _ _ (by rfl) (w.heap.size + 2) 75 i0 _ 2 32 Tryz.underlying68 hi hz0 hz1 hz2 rfl (by omega) (.slice a0 k c0) k (cellsF (msgK fs k)) (by rfl) (by first | exact chainO hO' hbW hbV | exact chainO hO' hbV hbW)
              ⟨_, 0, none⟩ 1 1 [.string (S (wordL f.1)), .string (S (valL f.2))] (by rfl) (by rfl) (cell_pair_new _ _ _ _) (by simp [Value.oneCell']) (by omega) (by unfold maxLen; omega) (by omega) (by first | exact chainS hszd hbW hbV | exact chainS hszd hbV hbW) _ rfl ?_
             intro g cap w3 hown3 hgrow hat hlt3
             obtain ⟨hB3⟩ : Nonempty (PLift (Below (w.heap.size + 2) wr.drew w3)) := by first | exact ⟨⟨chain2 hbW hbV hgrow hszd hrow⟩⟩ | exact ⟨⟨chain2 hbV hbW hgrow hszd hrow⟩⟩
             have z3 : w3.frozen? ⟨w.heap.size + 1, 0, none⟩ = false := (hB3.down.frozen (by simp)).trans (z1 0)
             have q3 : w3.cell? ⟨w.heap.size + 1, 0, none⟩ = some (.slice a0 k c0) := (hB3.down.cell (by simp)).trans m0
             clear hgrow)
          | (go_simp
             go_at_call 12
             refine (word_any _ _ HS1.out).mono ?_
             rintro e wW ⟨rfl, hbW⟩
             rw [HW.out]
             have mW : wW.cell? ⟨w.heap.size + 1, 0, none⟩ = some (.slice a0 k c0) := by first | exact cell_next mV hbW | exact cell_next (w := wr.drew) m0 hbW
             have szW : w.heap.size + 1 < wW.heap.size := World.block_lt_of_cell? wW _ mW
             have lW : wW.cell? ⟨b, off + k * 2 + 1, none⟩ = some (.string (S f.2)) := by first | exact cell_next lV' hbW | exact cell_next (w := wr.drew) h2 hbW)
          | (go_simp
             go_at_call 34
             refine (value_any _ _ HS2.out).mono ?_
             rintro e wV ⟨rfl, hbV⟩
             rw [HV.out]
             have mV : wV.cell? ⟨w.heap.size + 1, 0, none⟩ = some (.slice a0 k c0) := by first | exact cell_next mW hbV | exact cell_next (w := wr.drew) m0 hbV
             have szV : w.heap.size + 1 < wV.heap.size := World.block_lt_of_cell? wV _ mV
             have lV' : wV.cell? ⟨b, off + k * 2 + 1, none⟩ = some (.string (S f.2)) := by first | exact cell_next lW hbV | exact cell_next (w := wr.drew) h2 hbV
             have lV : wV.cell? ⟨b, off + k * 2, none⟩ = some (.string (S f.1)) := by first | exact cell_next (w := wr.drew) h1 hbV | exact cell_next (cell_next (w := wr.drew) h1 hbW) hbV))
      all_goals
        have hB4 : Below (w.heap.size + 2) wr w3 := (Below.refl (w.heap.size + 2) wr).drew.trans hB3.down
        have y1 : w3.cell? ⟨w.heap.size + 1, 1, none⟩ = some (.string ⟨#[]⟩) := (hB4.cell (by simp)).trans m1
        have y2 : w3.cell? ⟨w.heap.size, 0, none⟩ = some (.slice none 0 0) := (hB4.cell (by simp)).trans r0
        have y3 : w3.cell? ⟨w.heap.size, 1, none⟩ = some (.string ⟨#[]⟩) := (hB4.cell (by simp)).trans r1
        have hsz3 : w.heap.size + 2 ≤ w3.heap.size := Nat.le_trans hsz hB4.size
        have hO3 : OwnF (w3.setCell ⟨w.heap.size + 1, 0, none⟩ (.slice (some ⟨g, 0, none⟩) (k + 1) cap)) (w.heap.size + 2) (.slice (some ⟨g, 0, none⟩) (k + 1) cap) (msgK fs (k + 1)) := by
          refine OwnF.far ?_ (by simp) _
          unfold OwnF
          rw [HM.out, cellsF_append, cellsF_one, List.length_append, HK.out]
          exact hown3
        have HO : Hid _ := hO3
        have HC0 : Hid ((w3.setCell ⟨w.heap.size + 1, 0, none⟩ (.slice (some ⟨g, 0, none⟩) (k + 1) cap)).cell? ⟨w.heap.size + 1, 0, none⟩ = some (.slice (some ⟨g, 0, none⟩) (k + 1) cap)) := World.cell?_setCell_same' w3 _ _ (by rw [q3]; rfl)
        have t1 : (w3.setCell ⟨w.heap.size + 1, 0, none⟩ (.slice (some ⟨g, 0, none⟩) (k + 1) cap)).cell? ⟨w.heap.size + 1, 1, none⟩ = some (.string ⟨#[]⟩) := (World.cell?_setCell_other w3 _ _ _ (by simp)).trans y1
        have t2 : (w3.setCell ⟨w.heap.size + 1, 0, none⟩ (.slice (some ⟨g, 0, none⟩) (k + 1) cap)).cell? ⟨w.heap.size, 0, none⟩ = some (.slice none 0 0) := (cell_set_far (by simp)).trans y2
        have t3 : (w3.setCell ⟨w.heap.size + 1, 0, none⟩ (.slice (some ⟨g, 0, none⟩) (k + 1) cap)).cell? ⟨w.heap.size, 1, none⟩ = some (.string ⟨#[]⟩) := (cell_set_far (by simp)).trans y3
        have t4 : ∀ o, (w3.setCell ⟨w.heap.size + 1, 0, none⟩ (.slice (some ⟨g, 0, none⟩) (k + 1) cap)).frozen? ⟨w.heap.size + 1, o, none⟩ = false := fun o => by
          have := (hB4.frozen (p := ⟨w.heap.size + 1, o, none⟩) (by simp)).trans (z1 o); simpa using this
        have t5 : ∀ o, (w3.setCell ⟨w.heap.size + 1, 0, none⟩ (.slice (some ⟨g, 0, none⟩) (k + 1) cap)).frozen? ⟨w.heap.size, o, none⟩ = false := fun o => by
          have := (hB4.frozen (p := ⟨w.heap.size, o, none⟩) (by simp)).trans (z2 o); simpa using this
        have t6 : Below w.heap.size w (w3.setCell ⟨w.heap.size + 1, 0, none⟩ (.slice (some ⟨g, 0, none⟩) (k + 1) cap)) := (hBw.trans (hB4.mono (by omega))).setCell (by simp) _
        have HH : Hid _ := And.intro t1 (And.intro t2 (And.intro t3 (And.intro t4 (And.intro t5 t6))))
        clear hO3 hown3 t1 t2 t3 t4 t5 t6 z1 z2
        go_wp2
        go_roundw
        case rel => exact ⟨k + 1, some ⟨g, 0, none⟩, cap, by omega, by omega, by go_num, HC0.out, HO.out, HH.out.1, HH.out.2.1, HH.out.2.2.1, HH.out.2.2.2.1, HH.out.2.2.2.2.1, HH.out.2.2.2.2.2, by simpa using hsz3⟩
        case measure => simp [intOf]; omega
    · have HT : Hid (msgK fs k = msgK fs 6) := by
        unfold Hid msgK
        by_cases h6 : k = 6
        · rw [h6]
        · rw [List.take_of_length_le (by omega), List.take_of_length_le (by omega)]
      have HK : Hid ((msgK fs k).length = k) := msgK_len hk
      have hO2 : OwnF wr (w.heap.size + 2) (.slice a0 (msgK fs k).length c0) (msgK fs k) := by rw [HK.out]; exact hO
      by_cases h8 : k < fs.length
      case' pos => have hk8' : ¬ k < 6 := fun h => hlt ⟨h8, h⟩
      all_goals
        clear hlt
        go_wp2_with fail
        refine (cut_any body 200 _ HY.out (by omega)).mono ?_
        rintro e u ⟨rfl, hu⟩
        have hu' := hu.symm
        subst hu'
        have f1 := z1 1
        have f2 := z2 0
        have f3 := z2 1
        have HR : Hid (OwnF (((wr.setCell ⟨w.heap.size + 1, 1, none⟩ (.string (cutB body 200))).setCell ⟨w.heap.size, 0, none⟩ (.slice a0 k c0)).setCell ⟨w.heap.size, 1, none⟩ (.string (cutB body 200))) (w.heap.size + 2) (.slice a0 (msgK fs k).length c0) (msgK fs k)) := ((hO2.far (by simp) _).far (by simp) _).far (by simp) _
        clear hO hO2
        go_wp2
        refine bodyPost_ret (v := .agg #[.slice a0 k c0, .string (cutB body 200)]) (by simp [results, Tryz.results19, go_sem, r0, r1]) rfl ⟨a0, c0, ?_, ?_, ?_, ((hBw.setCell (by simp) _).setCell (by simp) _).setCell (by simp) _⟩
        · rw [← HT.out, HK.out]
        · rw [← HT.out]; exact OwnF.fields HR.out
        · rw [← HT.out]; exact HR.out

end Go.Proofs.YtjfkgfomlnmngaaGreatDoor
namespace Go.Proofs.YtjfkgfomlnmngaaGreatDoor
open Go.RowKit

set_option maxHeartbeats 400000 in
theorem isValue_any (s : ByteArray) (w : World) (hs : s.size < 4294967281) (hm : maxLenCell w) :
    Calls Tryz.prog 54 #[.string s] w fun e w' => e = .returned (.bool (valueB s.data.toList)) ∧ Below w.heap.size w w' := by
  cases hE : hasEnd s.data.toList with
  | true =>
    have HV : Hid (valueB s.data.toList = false) := by simp [Hid, valueB, hE]
    have HE : Hid (Lib.contains s.data.toList [13, 10] = true) := hE
    clear hE
    go_enter Tryz.func54, Tryz.ntmps54
    go_wp2_with fail
    refine (contains_any s ⟨#[13, 10]⟩ _ hs hm).mono ?_
    rintro e u ⟨rfl, rfl⟩
    rw [HE.out]
    go_wp2
    go_ret
    exact ⟨ret_bool HV.out.symm, Below.refl _ _⟩
  | false =>
    have HV : Hid (valueB s.data.toList = (trimW s.data.toList == s.data.toList)) := by simp [Hid, valueB, hE]
    have HE : Hid (Lib.contains s.data.toList [13, 10] = false) := hE
    clear hE
    go_enter Tryz.func54, Tryz.ntmps54
    go_wp2_with fail
    refine (contains_any s ⟨#[13, 10]⟩ _ hs hm).mono ?_
    rintro e u ⟨rfl, rfl⟩
    rw [HE.out]
    go_wp2_with fail
    refine (trim_any s _ (by omega)).mono ?_
    rintro e u2 ⟨rfl, hb⟩
    go_wp2
    go_ret
    exact ⟨ret_bool (by rw [HV.out]; simp only [Lib.toList_data, trimW]), hb⟩

set_option maxHeartbeats 400000 in
theorem shownSize_any (a : Option Addr) (c : Nat) (fs : List F) (body : ByteArray) (w : World) (hF : FieldsAt w a fs) (hl : fs.length ≤ 1000000) (hbd : body.size + sumF fs ≤ 1000000000000) :
    Calls Tryz.prog 55 #[.agg #[.slice a fs.length c, .string body]] w fun e w' => e = .returned (.int .i64 ((2 + body.size + sumF fs : Nat) : Int)) ∧ Below w.heap.size w w' := by
  have hb0 : body.size ≤ 1000000000000 := by omega
  have HB : Hid _ := hbd
  clear hbd
  go_enter Tryz.func55, Tryz.ntmps55
  go_wp2
  go_loopw [3, 13] (fun n i wr => ∃ k : Nat, k ≤ fs.length ∧ i = .int .i64 k ∧ n = .int .i64 ((2 + body.size + sumF (fs.take k) : Nat) : Int) ∧ Below w.heap.size w wr) (fun _ i _ => fs.length - (intOf i).toNat)
  case atStart => exact ⟨0, Nat.zero_le _, rfl, by simp [sumF], (Below.refl _ _).alloc (Nat.le_refl _) _⟩
  case round =>
    obtain ⟨k, hk, rfl, rfl, hB⟩ := hrel
    by_cases hlt : k < fs.length
    · obtain ⟨f, hf⟩ : ∃ f, fs[k]? = some f := ⟨_, List.getElem?_eq_getElem hlt⟩
      obtain ⟨b, off, rfl, hb, h1, h2⟩ := (hF.below hB) k f hf
      have HS : Hid _ := sumF_take hf
      have h3 := sumF_le fs (k + 1)
      rw [HS.out] at h3
      have h4 : (S f.1).size + (S f.2).size + 4 = sizeF f := by simp [size_S, sizeF]
      have h5 : sumF (fs.take k) + ((S f.1).size + (S f.2).size + 4) ≤ 1000000000000 := by have := HB.out; omega
      have H4 : Hid _ := h4
      clear h3 h4
      go_wp2
      go_roundw
      case rel => exact ⟨k + 1, by omega, by go_num, by rw [HS.out, ← H4.out]; go_num, hB.alloc hB.size _⟩
      case measure => simp [intOf]; omega
    · have h5 : sumF (fs.take k) ≤ 1000000000000 := by have := HB.out; have := sumF_le fs k; omega
      have HT : Hid (fs.take k = fs) := List.take_of_length_le (by omega)
      go_wp2
      go_ret
      exact ⟨ret_int (by rw [HT.out]), hB⟩
end Go.Proofs.YtjfkgfomlnmngaaGreatDoor

namespace Go.Proofs.YtjfkgfomlnmngaaGreatDoor
open Go.RowKit

/-- What is far from every machine's bounds. -/
def Mild (fs : List F) (body : ByteArray) : Prop := fs.length ≤ 2000000 ∧ body.size ≤ 2000000 ∧ ∀ f ∈ fs, f.1.length ≤ 2000000 ∧ f.2.length ≤ 2000000
theorem sumF_bd {fs : List F} (h : ∀ f ∈ fs, f.1.length ≤ 2000000 ∧ f.2.length ≤ 2000000) : sumF fs ≤ fs.length * 4000004 := by
  induction fs with
  | nil => simp [sumF]
  | cons f fs ih =>
    have h1 := h f (by simp)
    have h2 := ih fun g hg => h g (by simp [hg])
    have e : sumF (f :: fs) = sizeF f + sumF fs := by simp [sumF]
    rw [e]
    simp only [sizeF, List.length_cons]
    omega
theorem all_take {fs : List F} {k : Nat} {f : F} (h : fs[k]? = some f) (ha : (fs.take k).all mayF = true) (hf : mayF f = true) : (fs.take (k + 1)).all mayF = true := by
  rw [take_some h, List.all_append, ha]; simp [hf]
theorem all_no {fs : List F} {k : Nat} {f : F} (h : fs[k]? = some f) (hf : mayF f = false) : fs.all mayF = false := by
  have hm : f ∈ fs := List.mem_of_getElem? h
  cases e : fs.all mayF with
  | false => rfl
  | true => rw [List.all_eq_true] at e; rw [e f hm] at hf; cases hf

set_option maxHeartbeats 1000000 in
theorem lcheck_any (a : Option Addr) (c : Nat) (fs : List F) (body : ByteArray) (w : World) (hF : FieldsAt w a fs) (hM : Mild fs body) (hm : maxLenCell w) :
    Calls Tryz.prog 35 #[.agg #[.slice a fs.length c, .string body]] w fun e w' => e = .returned (.int .i64 (faultM fs body.data.toList)) ∧ Below w.heap.size w w' := by
  obtain ⟨hM1, hM2, hM3⟩ := hM
  by_cases h30 : 30 < fs.length
  · have HR : Hid (faultM fs body.data.toList = 5) := by unfold Hid faultM; rw [if_pos h30]
    go_enter Tryz.func35, Tryz.ntmps35
    go_wp2
    go_ret
    exact ⟨ret_int HR.out.symm, (Below.refl _ _).alloc (Nat.le_refl _) _⟩
  · have HM3 : Hid _ := hM3
    clear hM3
    go_enter Tryz.func35, Tryz.ntmps35
    go_wp2
    go_loopw [12] (fun i wr => ∃ k : Nat, k ≤ fs.length ∧ i = .int .i64 k ∧ Hid ((fs.take k).all mayF = true) ∧ Below w.heap.size w wr ∧ wr.cell? ⟨w.heap.size, 0, none⟩ = some (.slice a fs.length c) ∧ wr.cell? ⟨w.heap.size, 1, none⟩ = some (.string body) ∧ w.heap.size < wr.heap.size) (fun i _ => fs.length - (intOf i).toNat)
    case atStart => exact ⟨0, Nat.zero_le _, rfl, by simp [Hid], (Below.refl _ _).alloc (Nat.le_refl _) _, by simp, by simp, by simp⟩
    case round =>
      obtain ⟨k, hk, rfl, HA, hB, hc0, hc1, hsz⟩ := hrel
      have hmr := maxLenCell_below hm hB
      by_cases hlt : k < fs.length
      · obtain ⟨f, hf⟩ : ∃ f, fs[k]? = some f := ⟨_, List.getElem?_eq_getElem hlt⟩
        have hbd := HM3.out f (List.mem_of_getElem? hf)
        obtain ⟨b, off, rfl, hb, h1, h2⟩ := (hF.below hB) k f hf
        have HN : Hid (nameB (S f.1).data.toList = nameB f.1) := by unfold Hid; rw [list_S]
        have HV : Hid (valueB (S f.2).data.toList = valueB f.2) := by unfold Hid; rw [list_S]
        have hs1 : (S f.1).size ≤ 2000000 := by rw [size_S]; exact hbd.1
        have hs2 : (S f.2).size ≤ 2000000 := by rw [size_S]; exact hbd.2
        have HF : Hid _ := hf
        clear hf hbd
        cases hn : nameB f.1 with
        | false =>
          have HE : Hid (faultM fs body.data.toList = 3) := by
            unfold Hid faultM; rw [if_neg h30, if_pos (all_no HF.out (by simp [mayF, hn]))]
          have HX : Hid _ := hn
          clear hn
          go_wp2_with fail
          refine (isName_any _ _ (by unfold maxLen; omega)).mono ?_
          rintro e u ⟨rfl, rfl⟩
          rw [HN.out, HX.out]
          go_wp2
          go_ret
          exact ⟨ret_int HE.out.symm, hB.alloc hB.size _⟩
        | true =>
          have HX : Hid _ := hn
          clear hn
          cases hv : valueB f.2 with
          | false =>
            have HE : Hid (faultM fs body.data.toList = 3) := by
              unfold Hid faultM; rw [if_neg h30, if_pos (all_no HF.out (by simp [mayF, hv]))]
            have HY : Hid _ := hv
            clear hv
            go_wp2_with fail
            refine (isName_any _ _ (by unfold maxLen; omega)).mono ?_
            rintro e u ⟨rfl, rfl⟩
            rw [HN.out, HX.out]
            go_wp2_with fail
            refine (isValue_any _ _ (by omega) (maxLenCell_below hmr ((Below.refl _ _).alloc (Nat.le_refl _) _))).mono ?_
            rintro e u ⟨rfl, hb2⟩
            rw [HV.out, HY.out]
            go_wp2
            go_ret
            exact ⟨ret_int HE.out.symm, bnext (hB.alloc hB.size _) hb2 (Nat.le_refl _)⟩
          | true =>
            have HA2 : Hid _ := all_take HF.out HA.out (by simp [mayF, HX.out, hv])
            have HY : Hid _ := hv
            clear hv
            go_wp2_with fail
            refine (isName_any _ _ (by unfold maxLen; omega)).mono ?_
            rintro e u ⟨rfl, rfl⟩
            rw [HN.out, HX.out]
            go_wp2_with fail
            refine (isValue_any _ _ (by omega) (maxLenCell_below hmr ((Below.refl _ _).alloc (Nat.le_refl _) _))).mono ?_
            rintro e u ⟨rfl, hb2⟩
            rw [HV.out, HY.out]
            go_wp2
            go_roundw
            case rel => exact ⟨k + 1, by omega, by go_num, HA2.out, bnext (hB.alloc hB.size _) hb2 (Nat.le_refl _), cell_next (cell_more hc0 _) hb2, cell_next (cell_more hc1 _) hb2, by have := hb2.size; simp at this; omega⟩
            case measure => simp [intOf]; omega
      · have HT : Hid (fs.take k = fs) := List.take_of_length_le (by omega)
        have hsum := sumF_bd HM3.out
        by_cases hbig : 2000 < 2 + body.data.toList.length + sumF fs
        · have HE : Hid (faultM fs body.data.toList = 1) := by
            have := HA.out; rw [HT.out] at this
            unfold Hid faultM; rw [if_neg h30, if_neg (by simp [this]), if_pos hbig]
          rw [size_list] at hbig
          go_wp2_with fail
          refine (shownSize_any a c fs body _ (hF.below hB) (by omega) (by omega)).mono ?_
          rintro e u ⟨rfl, hb2⟩
          go_wp2
          go_ret
          exact ⟨ret_int HE.out.symm, bnext hB hb2 (Nat.le_refl _)⟩
        · have HE : Hid (faultM fs body.data.toList = 0) := by
            have := HA.out; rw [HT.out] at this
            unfold Hid faultM; rw [if_neg h30, if_neg (by simp [this]), if_neg hbig]
          rw [size_list] at hbig
          go_wp2_with fail
          refine (shownSize_any a c fs body _ (hF.below hB) (by omega) (by omega)).mono ?_
          rintro e u ⟨rfl, hb2⟩
          go_wp2
          go_ret
          exact ⟨ret_int HE.out.symm, bnext hB hb2 (Nat.le_refl _)⟩
end Go.Proofs.YtjfkgfomlnmngaaGreatDoor

namespace Go.Proofs.YtjfkgfomlnmngaaGreatDoor
open Go.RowKit Go.Proofs Go.Shelf

set_option maxHeartbeats 1000000 in
set_option maxRecDepth 100000 in
theorem copyCheck_used (b : Nat) (w : World) (h0 : w.cell? ⟨b, 0, none⟩ = some (.pointer (some ⟨b, 0, none⟩))) :
    Calls Tryz.prog 56 #[.pointer (some ⟨b, 0, none⟩)] w fun e w' => e = .returned (.tuple #[]) ∧ w' = w := by
  obtain ⟨j, hj, _⟩ := Option.map_eq_some_iff.1 Tryz.Builder_Extra_169.sizeBuilder
  go_enter Tryz.func56, Tryz.ntmps56
  go_wp2
  rw [Lib.run_neq_ptr_same w _ Tryz.underlying100 hj]
  go_wp2
  go_end0
  exact ⟨rfl, rfl⟩

set_option maxHeartbeats 1000000 in
set_option maxRecDepth 100000 in
theorem copyCheck_fresh (b : Nat) (w : World) (h0 : w.cell? ⟨b, 0, none⟩ = some (.pointer none)) (hsh : w.shape? b = some (102, 2)) (hfz : w.frozen? ⟨b, 0, none⟩ = false) :
    Calls Tryz.prog 56 #[.pointer (some ⟨b, 0, none⟩)] w fun e w' => e = .returned (.tuple #[]) ∧ w' = w.setCell ⟨b, 0, none⟩ (.pointer (some ⟨b, 0, none⟩)) := by
  obtain ⟨j, hj, hjs⟩ := Option.map_eq_some_iff.1 Tryz.Builder_Extra_169.sizeBuilder
  go_enter Tryz.func56, Tryz.ntmps56
  go_wp2
  rw [Lib.run_to_unsafe w ⟨b, 0, none⟩ Tryz.underlying100 Tryz.underlying168 hj (by rw [hjs]; decide) hsh (Nat.zero_lt_succ 1)]
  simp only [Result.andThen]
  rw [Oper.upon_value]
  go_wp2
  rw [run_callFunc_extern Tryz.func94 (by kernel_rfl) (by kernel_rfl) (by kernel_rfl) (e := Extern.AbiNoEscape.same) (by kernel_rfl)]
  rw [Lib.run_noEscape]
  simp only [Result.andThen]
  rw [Oper.upon_value]
  go_wp2
  rw [Lib.run_from_unsafe w ⟨b, 0, none⟩ Tryz.underlying168 Tryz.underlying100 hj hsh Tryz.Builder_Extra_169.liesBuilder]
  simp only [Result.andThen]
  rw [Oper.upon_value]
  go_wp2
  go_end0
  exact ⟨rfl, rfl⟩

theorem copyCheck_any (B b : Nat) (bs : List Value) (w : World) (h : Lib.IsBuilderF 102 5 B b bs w) :
    Calls Tryz.prog 56 #[.pointer (some ⟨b, 0, none⟩)] w fun e w' => e = .returned (.tuple #[]) ∧ (Lib.BuilderAtF 102 5 B b (.pointer (some ⟨b, 0, none⟩)) bs w' ∧ Below B w w' ∧ Lib.OthersKept 5 (some b) w w') := by
  rcases h with h | h
  · refine (copyCheck_fresh b w h.cell0 h.shape h.frozen0).mono ?_
    rintro e w' ⟨rfl, rfl⟩
    exact ⟨rfl, h.used _, (Below.refl B w).setCell (p := ⟨b, 0, none⟩) h.1 _, (Lib.OthersKept.refl _ _ w).setCell ⟨b, 0, none⟩ rfl _⟩
  · refine (copyCheck_used b w h.cell0).mono ?_
    rintro e w' ⟨rfl, rfl⟩
    exact ⟨rfl, h, Below.refl B _, Lib.OthersKept.refl _ _ _⟩

set_option maxHeartbeats 2000000 in
set_option maxRecDepth 100000 in
theorem writeString_any (B b : Nat) (bs : List Value) (s : ByteArray) (w : World) (h : Lib.IsBuilderF 102 5 B b bs w) (hlen : bs.length + s.size ≤ 140737488355328) (hBw : B ≤ w.heap.size) :
    Calls Tryz.prog 36 #[.pointer (some ⟨b, 0, none⟩), .string s] w fun e w' => e = .returned (.tuple #[.int .i64 s.size, .nilIface]) ∧ (Lib.IsBuilderF 102 5 B b (bs ++ Lib.strCells s) w' ∧ Below B w w' ∧ Lib.OthersKept 5 (some b) w w') := by
  obtain ⟨i0, hi, hz0, hz1, hz2⟩ := info_parts Tryz.Builder_Extra_169.infoByte
  go_enter Tryz.func36, Tryz.ntmps36
  go_wp2_with fail
  refine (copyCheck_any B b bs _ h).mono ?_
  rintro e w1 ⟨rfl, h1, hb1, hk1⟩
  obtain ⟨hB, v, hbk, hown, hne⟩ := h1
  have c0 : w1.cell? ⟨b, 0, none⟩ = some (.pointer (some ⟨b, 0, none⟩)) := by rw [Lib.cell_of_heap hbk]; rfl
  have c1 : w1.cell? ⟨b, 1, none⟩ = some v := by rw [Lib.cell_of_heap hbk]; rfl
  go_wp2_with (at_builtin; refine Lib.wpList_append_own_stringF _ rfl _ _ 90 9 rfl B 5 i0 Tryz.underlying90 Tryz.underlying9 hi hz0 hz1 hz2 _ _ _ rfl hown s rfl ?c3 ?c4 ?c5 ?_)
  case c3 => unfold maxLen; omega
  case c4 => omega
  case c5 => have := hb1.size; omega
  intro v' w2 hown' hgrow _
  have hlt : b < w1.heap.size := by
    rcases Nat.lt_or_ge b w1.heap.size with h' | h'
    · exact h'
    · simp [Array.getElem?_eq_none h'] at hbk
  have hb2 : w2.heap[b]? = some (.cells #[.pointer (some ⟨b, 0, none⟩), v] 102 (0, 0)) := by
    rw [hgrow.block b hlt (fun e => hne e.symm)]
    exact hbk
  have d0 : w2.cell? ⟨b, 0, none⟩ = some (.pointer (some ⟨b, 0, none⟩)) := by rw [Lib.cell_of_heap hb2]; rfl
  have d1 : w2.cell? ⟨b, 1, none⟩ = some v := by rw [Lib.cell_of_heap hb2]; rfl
  have f1 : w2.frozen? ⟨b, 1, none⟩ = false := Lib.frozen_of_heap hb2 1
  obtain ⟨ao, n', cap, rfl⟩ : ∃ ao n' cap, v' = .slice ao n' cap := by
    rcases hown'.2 with ⟨hv, _⟩ | ⟨g, cap, cur, fz, hv, _⟩
    · exact ⟨_, _, _, hv⟩
    · exact ⟨_, _, _, hv⟩
  go_wp2
  go_ret2
  refine ⟨rfl, .inr ?_, ?_, (hk1.grown hgrow (Lib.ownsRowF_kind hown)).setCell ⟨b, 1, none⟩ rfl _⟩
  · exact Lib.BuilderAtF.put (T := 102) (e := 5) hB hb2 (bs' := bs ++ Lib.strCells s) (by simpa [Lib.strCells_length] using hown') Tryz.Builder_Extra_169.neB5
  · exact (hb1.grown hgrow (by have := hb1.size; omega) (fun k hk => (hown.lt k hk).1)).setCell (p := ⟨b, 1, none⟩) hB _
end Go.Proofs.YtjfkgfomlnmngaaGreatDoor

namespace Go.Proofs.YtjfkgfomlnmngaaGreatDoor
open Go.RowKit

theorem app_list (a b : ByteArray) : (a ++ b).data.toList = a.data.toList ++ b.data.toList := by
  simp [ByteArray.data_append]
theorem field_list (f : F) : ((S f.1 ++ ⟨#[58, 32]⟩ ++ S f.2 ++ ⟨#[13, 10]⟩ : ByteArray)).data.toList = textF f := by
  simp only [app_list, list_S, textF]

theorem fault_few {fs : List F} {body : List UInt8} (h : faultM fs body = 0) : fs.length ≤ 30 ∧ (∀ f ∈ fs, mayF f = true) ∧ 2 + body.length + sumF fs ≤ 2000 := by
  unfold faultM at h
  by_cases h1 : 30 < fs.length
  · rw [if_pos h1] at h; cases h
  · rw [if_neg h1] at h
    by_cases h2 : fs.all mayF = false
    · rw [if_pos h2] at h; cases h
    · rw [if_neg h2] at h
      by_cases h3 : 2000 < 2 + body.length + sumF fs
      · rw [if_pos h3] at h; cases h
      · exact ⟨by omega, by simpa using h2, by omega⟩

set_option maxHeartbeats 2000000 in
theorem show_ok (a : Option Addr) (c : Nat) (fs : List F) (body : ByteArray) (w : World) (hF : FieldsAt w a fs) (hM : Mild fs body) (hm : maxLenCell w) (hf : faultM fs body.data.toList = 0) :
    Calls Tryz.prog 22 #[.agg #[.slice a fs.length c, .string body]] w fun e w' => e = .returned (.tuple #[.string (S (textM fs body.data.toList)), .int .i64 0]) ∧ Below w.heap.size w w' := by
  have hB0 : ∀ o, Below w.heap.size w (w.alloc o) := fun o => (Below.refl _ _).alloc (Nat.le_refl _) o
  have HX : Hid _ := fault_few hf
  have hl := HX.out.1
  have HF : Hid _ := hf
  clear hf
  go_enter Tryz.func22, Tryz.ntmps22
  go_wp2_with fail
  refine (lcheck_any a c fs body _ (hF.below (hB0 _)) hM (maxLenCell_below hm (hB0 _))).mono ?_
  rintro e w1 ⟨rfl, hb1⟩
  have p0 : w1.cell? ⟨w.heap.size, 0, none⟩ = some (.slice a fs.length c) := cell_next (by simp) hb1
  have p1 : w1.cell? ⟨w.heap.size, 1, none⟩ = some (.string body) := cell_next (by simp) hb1
  have hB1 := bnext (hB0 _) hb1 (Nat.le_refl _)
  have hF1 := hF.below hB1
  have hz : w.heap.size < w1.heap.size := by have := hb1.size; simp at this; omega
  rw [HF.out]
  go_wp2
  go_loopw [16] (fun i wr => ∃ k : Nat, k ≤ fs.length ∧ i = .int .i64 k ∧ Lib.IsBuilderF 102 5 w1.heap.size w1.heap.size (Lib.byteCells (linesF (fs.take k))) wr ∧ Below w1.heap.size w1 wr) (fun i _ => fs.length - (intOf i).toNat)
  case atStart => exact ⟨0, Nat.zero_le _, rfl, by simpa [linesF, Lib.byteCells] using Lib.IsBuilderF.of (Lib.fresh_isBuilder 102 5 w1), (Below.refl _ _).alloc (Nat.le_refl _) _⟩
  case round =>
    obtain ⟨k, hk, rfl, hI, hB⟩ := hrel
    have hle : (linesF (fs.take k)).length ≤ 2000 := by
      rw [length_linesF]; have := sumF_le fs k; have := HX.out.2.2; omega
    by_cases hlt : k < fs.length
    · obtain ⟨f, hf⟩ : ∃ f, fs[k]? = some f := ⟨_, List.getElem?_eq_getElem hlt⟩
      obtain ⟨b, off, rfl, hb, h1, h2⟩ := (hF1.below hB) k f hf
      have hfb := hM.2.2 f (List.mem_of_getElem? hf)
      have HL : Hid (linesF (fs.take (k + 1)) = linesF (fs.take k) ++ textF f) := by unfold Hid; rw [take_some hf, linesF_snoc]
      have HZ : Hid ((S f.1 ++ ⟨#[58, 32]⟩ ++ S f.2 ++ ⟨#[13, 10]⟩ : ByteArray).size ≤ 5000000) := by
        unfold Hid; rw [← size_list, field_list, length_textF]; unfold sizeF; omega
      have hs1 : (S f.1).size ≤ 2000000 := by rw [size_S]; exact hfb.1
      have hs2 : (S f.2).size ≤ 2000000 := by rw [size_S]; exact hfb.2
      clear hf hfb
      go_wp2_with fail
      refine (writeString_any w1.heap.size w1.heap.size _ _ _ (hI.alloc _) ?hl ?hs).mono ?_
      case hl => have := HZ.out; rw [Lib.byteCells_length]; omega
      case hs => have := hB.size; simp; omega
      rintro e w2 ⟨rfl, hI2, hb2, _⟩
      go_wp2
      go_roundw
      case rel => first | exact ⟨k + 1, by omega, by go_num, by rw [HL.out, Lib.byteCells_append]; rwa [Lib.strCells_eq, field_list] at hI2, (hB.alloc hB.size _).trans hb2⟩ | ((repeat apply Exists.intro); exact ⟨⟨k + 1, by omega, by go_num, by rw [HL.out, Lib.byteCells_append]; rwa [Lib.strCells_eq, field_list] at hI2, (hB.alloc hB.size _).trans hb2⟩, rfl⟩) | (refine ⟨trivial, ?_⟩; (repeat apply Exists.intro); exact ⟨⟨k + 1, by omega, by go_num, by rw [HL.out, Lib.byteCells_append]; rwa [Lib.strCells_eq, field_list] at hI2, (hB.alloc hB.size _).trans hb2⟩, rfl⟩)
      case measure => simp [intOf]; omega
    · have HT : Hid (fs.take k = fs) := List.take_of_length_le (by omega)
      have q1 : wr.cell? ⟨w.heap.size, 1, none⟩ = some (.string body) := cell_next p1 hB
      have hbd := hM.2.1
      have HZ : Hid ((⟨#[13, 10]⟩ ++ body : ByteArray).size ≤ 5000000) := by
        unfold Hid; rw [← size_list, app_list, List.length_append, size_list body]; simp; omega
      go_wp2_with fail
      refine (writeString_any w1.heap.size w1.heap.size _ _ _ hI ?hl hB.size).mono ?_
      case hl => have := HZ.out; rw [Lib.byteCells_length]; omega
      rintro e w2 ⟨rfl, hI2, hb2, _⟩
      rw [Lib.strCells_eq, ← Lib.byteCells_append] at hI2
      go_wp2_with fail
      refine (Tryz.Builder_String_any_k w1.heap.size w1.heap.size _ _ hI2 (by have := hB.size; have := hb2.size; omega)).mono ?_
      rintro e w3 ⟨rfl, _, hb3, _⟩
      go_wp2
      go_ret2
      refine ⟨?_, bnext hB1 ((hB.trans hb2).trans hb3) (Nat.le_refl _)⟩
      have := HT.out
      simp [textM, S, this]
end Go.Proofs.YtjfkgfomlnmngaaGreatDoor
namespace Go.Proofs.YtjfkgfomlnmngaaGreatDoor
open Go.RowKit Go.Deep Go.Joins Go.ChangeShapes Go.WideShapes

def pairD {H : Type} (f : F) : DataW H := .agg [.lit (.string f.1), .lit (.string f.2)]

theorem open_pairs {H : Type} {enc : TypeId × Value → H} {P : Program} {w : World} {base : Nat} {spare : Nat → Bool} {held : Bool} {t e : TypeId} {f0 f1 : Field} {fuel : Nat} {v : Value} {x : DataW H × List MemPlace}
    (ht : P.underlying t = some (.slice e)) (he : P.underlying e = some (.struct #[f0, f1])) (ce : P.cellsOf e = 2) (o0 : f0.offset = 0) (o1 : f1.offset = 1) (c0 : P.cellsOf f0.type = 1) (c1 : P.cellsOf f1.type = 1)
    (s0 : P.underlying f0.type = some .string) (s1 : P.underlying f1.type = some .string)
    (h : DataW.trod enc P w base spare held fuel t [v] = some x) :
    ∃ a c, ∃ fs : List F, v = .slice a fs.length c ∧ FieldsAt w a fs ∧ fs.length ≤ maxLen ∧ (∀ f ∈ fs, f.1.length ≤ maxLen ∧ f.2.length ≤ maxLen) ∧ ((x.1 = .nil ∧ fs = []) ∨ ∃ sp, x.1 = .slice (fs.map pairD) sp) := by
  rcases open_slice_pairs ht he ce o0 o1 c0 c1 h with ⟨hcs, rfl⟩ | ⟨a, len, cap, m, n, V0, V1, D0, D1, P0, P1, hcs, hb, hl, hm, hmm, rfl, hx⟩
  · simp only [List.cons.injEq, and_true] at hcs
    exact ⟨none, 0, [], hcs, by intro i f hf; simp at hf, by simp, by simp, .inl ⟨rfl, rfl⟩⟩
  simp only [List.cons.injEq, and_true] at hcs
  subst hcs
  have hlm : len ≤ m := by rw [hmm]; split <;> omega
  have each : ∀ i, i < len → ∃ f : F, w.cell? (a.add (i * 2)) = some (.string (S f.1)) ∧ w.cell? (a.add (i * 2 + 1)) = some (.string (S f.2)) ∧ D0 i = .lit (.string f.1) ∧ D1 i = .lit (.string f.2) ∧ f.1.length ≤ maxLen ∧ f.2.length ≤ maxLen := by
    intro i hi
    obtain ⟨h1, h2, h3, h4⟩ := hx i (by omega)
    obtain ⟨y0, e0, g0, k0⟩ := DataW.trod_string s0 h3
    obtain ⟨y1, e1, g1, k1⟩ := DataW.trod_string s1 h4
    simp only [List.cons.injEq, and_true] at e0 e1
    simp only [Prod.mk.injEq] at g0 g1
    refine ⟨(y0.data.toList, y1.data.toList), ?_, ?_, g0.1, g1.1, by rw [size_list]; exact k0, by rw [size_list]; exact k1⟩
    · rw [h1, e0, S_list]
    · rw [h2, e1, S_list]
  obtain ⟨q, hq⟩ := choose_lt each
  refine ⟨some a, cap, (List.range len).map q, by simp, ?_, by simp; omega, ?_, .inr ⟨(List.range (m - len)).map fun j => .agg [D0 (len + j), D1 (len + j)], ?_⟩⟩
  · intro i f hf
    have hi : i < len := by
      rcases Nat.lt_or_ge i len with h | h
      · exact h
      · rw [List.getElem?_eq_none (by simpa using h)] at hf; cases hf
    rw [List.getElem?_map, List.getElem?_range hi] at hf
    simp only [Option.map_some, Option.some.injEq] at hf
    subst hf
    obtain ⟨h1, h2, _⟩ := hq i hi
    obtain ⟨b, off, spot⟩ := a
    have hspot : spot = none := by
      have := World.cell?_spot (hq 0 (by omega)).1
      simpa [Addr.add] using this
    subst hspot
    rw [Addr.add_lit] at h1 h2
    exact ⟨b, off, rfl, World.block_lt_of_cell? w _ h1, h1, by rw [Nat.add_assoc]; exact h2⟩
  · intro f hf
    obtain ⟨i, hi, rfl⟩ := List.mem_map.1 hf
    exact (hq i (List.mem_range.1 hi)).2.2.2.2
  · rw [List.map_map]
    show DataW.slice _ _ = DataW.slice _ _
    congr 1
    refine List.map_congr_left fun i hi => ?_
    obtain ⟨_, _, h1, h2, _⟩ := hq i (List.mem_range.1 hi)
    simp [pairD, h1, h2]

/- Bulk. -/
end Go.Proofs.YtjfkgfomlnmngaaGreatDoor

namespace Go.Proofs.YtjfkgfomlnmngaaGreatDoor
open Go.RowKit Go.Deep Go.Joins Go.ChangeShapes Go.WideShapes

set_option maxRecDepth 100000 in
theorem wordC_name (c : UInt8) : nameC (wordC c) = true := by
  have h := wordC_nat c
  have h2 : (wordC c).toNat = 97 + c.toNat % 26 := by omega
  have h3 : wordC c ≠ 58 := fun e => by rw [e] at h2; simp at h2; omega
  simp [nameC, h2, h3]; omega
set_option maxRecDepth 100000 in
theorem word_name (l : List UInt8) : nameB (wordL l) = true := by
  unfold wordL
  split
  · decide
  · rename_i h
    have : wordK l 8 ≠ [] := by
      unfold wordK
      intro e
      have := congrArg List.length e
      simp at this
      exact h this
    simp only [nameB, Bool.and_eq_true, Bool.not_eq_true', List.all_eq_true]
    refine ⟨by cases hw : wordK l 8 with | nil => exact absurd hw this | cons a t => rfl, fun x hx => ?_⟩
    obtain ⟨c, _, rfl⟩ := List.mem_map.1 hx
    exact wordC_name c
set_option maxRecDepth 100000 in
theorem valK_mem {l : List UInt8} {k : Nat} {x : UInt8} (h : x ∈ valK l k) : ∃ i c, i < k ∧ x = valC l.length i c := by
  induction k with
  | zero => cases h
  | succ k ih =>
    rcases List.mem_append.1 h with h | h
    · obtain ⟨i, c, hi, e⟩ := ih h; exact ⟨i, c, by omega, e⟩
    · simp only [List.mem_singleton] at h; exact ⟨k, _, by omega, h⟩
set_option maxRecDepth 100000 in
theorem valC_not13 (n i : Nat) (c : UInt8) : valC n i c ≠ 13 := by
  unfold valC
  split
  · decide
  · rename_i h; intro e; exact h (.inl e)
set_option maxRecDepth 100000 in
theorem valL_end (l : List UInt8) : hasEnd (valL l) = false := by
  refine hasEnd_plain fun h => ?_
  obtain ⟨i, c, _, e⟩ := valK_mem h
  exact valC_not13 _ _ _ e.symm
set_option maxRecDepth 100000 in
theorem valC_edge {n i : Nat} {c : UInt8} (h : i = 0 ∨ i + 1 = n ∨ i = 39) : blankB (valC n i c) = false := by
  unfold valC
  split
  · decide
  · rename_i hn
    simp only [not_or, not_and] at hn
    unfold blankB
    simp only [Bool.or_eq_false_iff, beq_eq_false_iff_ne]
    refine ⟨fun e => ?_, fun e => ?_⟩
    · have := hn.2.2 (.inl e); rcases h with h | h | h
      · exact this.1 h
      · exact this.2.1 h
      · exact this.2.2 h
    · have := hn.2.2 (.inr e); rcases h with h | h | h
      · exact this.1 h
      · exact this.2.1 h
      · exact this.2.2 h
set_option maxRecDepth 100000 in
theorem valK_head {l : List UInt8} {k : Nat} {x : UInt8} (h : (valK l k).head? = some x) : ∃ c, x = valC l.length 0 c := by
  induction k with
  | zero => cases h
  | succ k ih =>
    cases k with
    | zero => simp [valK] at h; exact ⟨_, h.symm⟩
    | succ k =>
      have e : (valK l (k + 1 + 1)).head? = (valK l (k + 1)).head? := by
        show (valK l (k + 1) ++ _).head? = _
        cases hv : valK l (k + 1) with
        | nil => have := valK_len l (k + 1); rw [hv] at this; simp at this
        | cons a t => rfl
      rw [e] at h
      exact ih h
set_option maxRecDepth 100000 in
theorem valL_trim (l : List UInt8) : trimW (valL l) = valL l := by
  have := trim_core (a := []) (m := valL l) (b := []) (by simp) (by simp) ?_ ?_
  · simpa using this
  · intro x hx
    obtain ⟨c, rfl⟩ := valK_head hx
    exact valC_edge (.inl rfl)
  · intro x hx
    unfold valL at hx
    cases hk : min l.length 40 with
    | zero => rw [hk] at hx; cases hx
    | succ k =>
      rw [hk] at hx
      have : x = valC l.length k (l[k]?.getD 0) := by simpa [valK] using hx.symm
      rw [this]
      exact valC_edge (by omega)
set_option maxRecDepth 100000 in
theorem mk_may (f : F) : mayF (mkF f) = true := by
  simp only [mayF, mkF, valueB, word_name, valL_end, valL_trim, Bool.not_false, Bool.true_and, beq_self_eq_true]
set_option maxRecDepth 100000 in
theorem msg_may (fs : List F) : ∀ f ∈ msgK fs 6, mayF f = true := by
  intro f hf
  obtain ⟨g, _, rfl⟩ := List.mem_map.1 hf
  exact mk_may g
set_option maxRecDepth 100000 in
theorem msg_size (fs : List F) : ∀ f ∈ msgK fs 6, f.1.length ≤ 8 ∧ f.2.length ≤ 40 := by
  intro f hf
  obtain ⟨g, _, rfl⟩ := List.mem_map.1 hf
  exact ⟨wordL_len _, valL_len _⟩
set_option maxRecDepth 100000 in
theorem msg_len (fs : List F) : (msgK fs 6).length ≤ 6 := by simp [msgK]; omega
end Go.Proofs.YtjfkgfomlnmngaaGreatDoor
namespace Go.Proofs.YtjfkgfomlnmngaaGreatDoor
open Go.RowKit Go.Deep Go.Joins Go.ChangeShapes Go.WideShapes

set_option maxRecDepth 100000 in
theorem open_post {H : Type} {enc : TypeId × Value → H} {w : World} {base b0 : Nat} {spare : Nat → Bool} {held : Bool} {v : Value} {d : DataW H} {p : List MemPlace}
    (hv : Value.okWide Tryz.prog w .any b0 27 v) (h : DataW.Trod enc Tryz.prog w base spare held 27 v d p) :
    ∃ (fl fd fg tl td tg : ByteArray) (a : Option Addr) (c : Nat) (fs : List F) (body : ByteArray), v = .agg #[.string fl, .string fd, .string fg, .string tl, .string td, .string tg, .slice a fs.length c, .string body] ∧ FieldsAt w a fs ∧ fs.length ≤ maxLen ∧ (∀ f ∈ fs, f.1.length ≤ maxLen ∧ f.2.length ≤ maxLen) ∧ body.size ≤ maxLen ∧ fl.size ≤ maxLen ∧ fd.size ≤ maxLen ∧ tl.size ≤ maxLen ∧ td.size ≤ maxLen := by
  obtain ⟨cs, rfl, hsz⟩ := okWide_struct Tryz.underlying27 hv
  have hC : Tryz.prog.cellsOf 27 = 8 := by kernel_rfl
  have cs' : Tryz.prog.cellsOf 9 = 1 := by kernel_rfl
  have ca : Tryz.prog.cellsOf 24 = 3 := by kernel_rfl
  have cl : Tryz.prog.cellsOf 25 = 1 := by kernel_rfl
  obtain ⟨fuel, hf⟩ := h
  obtain ⟨c0, c1, c2, c3, c4, c5, c6, c7, rfl⟩ : ∃ c0 c1 c2 c3 c4 c5 c6 c7, cs = #[c0, c1, c2, c3, c4, c5, c6, c7] := by
    obtain ⟨l⟩ := cs
    match l, (hsz.trans hC) with
    | [c0, c1, c2, c3, c4, c5, c6, c7], _ => exact ⟨c0, c1, c2, c3, c4, c5, c6, c7, rfl⟩
  obtain ⟨xs, n, _, hd, _, hxl, hx⟩ := DataW.trod_struct Tryz.underlying27 hf
  have hxl4 : xs.length = 4 := hxl
  obtain ⟨y0, y1, y2, y3, rfl⟩ : ∃ y0 y1 y2 y3, xs = [y0, y1, y2, y3] := by
    match xs, hxl4 with
    | [y0, y1, y2, y3], _ => exact ⟨y0, y1, y2, y3, rfl⟩
  have h0 : DataW.trod enc Tryz.prog w base spare held n 24 [c0, c1, c2] = some y0 := by simpa [Value.cells, ca] using hx 0 _ rfl
  have h1 : DataW.trod enc Tryz.prog w base spare held n 24 [c3, c4, c5] = some y1 := by simpa [Value.cells, ca] using hx 1 _ rfl
  have h2 : DataW.trod enc Tryz.prog w base spare held n 25 [c6] = some y2 := by simpa [Value.cells, cl] using hx 2 _ rfl
  have h3 : DataW.trod enc Tryz.prog w base spare held n 9 [c7] = some y3 := by simpa [Value.cells, cs'] using hx 3 _ rfl
  have per : ∀ (a b c : Value) (y : DataW H × List MemPlace), DataW.trod enc Tryz.prog w base spare held n 24 [a, b, c] = some y → ∃ l e g : ByteArray, a = .string l ∧ b = .string e ∧ c = .string g ∧ l.size ≤ maxLen ∧ e.size ≤ maxLen := by
    intro a b c y hy
    obtain ⟨zs, m, _, hz, _, hzl, hg⟩ := DataW.trod_struct Tryz.underlying24 hy
    have hzl3 : zs.length = 3 := hzl
    obtain ⟨z0, z1, z2, rfl⟩ : ∃ z0 z1 z2, zs = [z0, z1, z2] := by
      match zs, hzl3 with
      | [z0, z1, z2], _ => exact ⟨z0, z1, z2, rfl⟩
    have g0 : DataW.trod enc Tryz.prog w base spare held m 9 [a] = some z0 := by simpa [cs'] using hg 0 _ rfl
    have g1 : DataW.trod enc Tryz.prog w base spare held m 9 [b] = some z1 := by simpa [cs'] using hg 1 _ rfl
    have g2 : DataW.trod enc Tryz.prog w base spare held m 9 [c] = some z2 := by simpa [cs'] using hg 2 _ rfl
    obtain ⟨s, e0, _, k0⟩ := DataW.trod_string Tryz.underlying9 g0
    obtain ⟨s', e1, _, k1⟩ := DataW.trod_string Tryz.underlying9 g1
    obtain ⟨s2, e2, _, _⟩ := DataW.trod_string Tryz.underlying9 g2
    simp only [List.cons.injEq, and_true] at e0 e1 e2
    exact ⟨s, s', s2, e0, e1, e2, k0, k1⟩
  obtain ⟨fl, fd, fg, rfl, rfl, rfl, s1, s2⟩ := per _ _ _ _ h0
  obtain ⟨tl, td, tg, rfl, rfl, rfl, s3, s4⟩ := per _ _ _ _ h1
  obtain ⟨body, e3, _, k3⟩ := DataW.trod_string Tryz.underlying9 h3
  simp only [List.cons.injEq, and_true] at e3
  subst e3
  obtain ⟨a, c, fs, e, hF, g1, g2, _⟩ := open_pairs Tryz.underlying25 Tryz.underlying98 (by kernel_rfl) rfl rfl (by kernel_rfl) (by kernel_rfl) Tryz.underlying9 Tryz.underlying9 h2
  subst e
  exact ⟨fl, fd, fg, tl, td, tg, a, c, fs, body, rfl, hF, g1, g2, k3, s1, s2, s3, s4⟩
end Go.Proofs.YtjfkgfomlnmngaaGreatDoor
namespace Go.Proofs.YtjfkgfomlnmngaaGreatDoor
open Go.RowKit

structure Mail where
  uid : Int
  flags : Int
  text : List UInt8
structure Bx where
  name : List UInt8
  next : Int
  mails : List Mail
structure Ent where
  kind : Int
  box : List UInt8
  uid : Int
  flags : Int
  goal : List UInt8
  text : List UInt8
structure Stt where
  boxes : List Bx
  spool : List Ent

/- P9.2. -/
def sizeM : List Mail → Nat
  | [] => 0
  | m :: r => m.text.length + sizeM r
def sizeB : List Bx → Nat
  | [] => 0
  | b :: r => sizeM b.mails + sizeB r
theorem sizeM_app (l r : List Mail) : sizeM (l ++ r) = sizeM l + sizeM r := by
  induction l with
  | nil => simp [sizeM]
  | cons m l ih => simp only [List.cons_append, sizeM, ih]; omega
theorem sizeB_app (l r : List Bx) : sizeB (l ++ r) = sizeB l + sizeB r := by
  induction l with
  | nil => simp [sizeB]
  | cons m l ih => simp only [List.cons_append, sizeB, ih]; omega
theorem sizeB_set : ∀ (l : List Bx) (i : Nat) (b b' : Bx), l[i]? = some b → sizeB (l.set i b') + sizeM b.mails = sizeB l + sizeM b'.mails := by
  intro l
  induction l with
  | nil => intro i b b' h; simp at h
  | cons c l ih =>
    intro i b b' h
    cases i with
    | zero => simp only [List.getElem?_cons_zero, Option.some.injEq] at h; subst h; simp only [List.set_cons_zero, sizeB]; omega
    | succ i => simp only [List.getElem?_cons_succ] at h; have := ih i b b' h; simp only [List.set_cons_succ, sizeB]; omega
theorem sizeB_take_le (l : List Bx) (i : Nat) : sizeB (l.take i) ≤ sizeB l := by
  have h := sizeB_app (l.take i) (l.drop i)
  rw [List.take_append_drop] at h
  omega
theorem sizeM_take_le (l : List Mail) (i : Nat) : sizeM (l.take i) ≤ sizeM l := by
  have h := sizeM_app (l.take i) (l.drop i)
  rw [List.take_append_drop] at h
  omega
/- P9.3. -/
def goalM (s : List UInt8) : Int := if 100 < s.length then 3 else if (listM s).2 = 0 ∧ (listM s).1.length = 1 then 0 else 3
/-- An entry has nothing that its kind has not. -/
def bareP (x : Ent) : Prop :=
  ((x.kind = 1 ∨ x.kind = 4) → x.uid = 0 ∧ x.flags = 0 ∧ x.goal = [] ∧ x.text = []) ∧
  (x.kind = 2 → x.uid = 0 ∧ x.goal = []) ∧
  (x.kind = 3 → x.goal = [] ∧ x.text = []) ∧
  (x.kind = 5 → x.flags = 0 ∧ x.text = []) ∧
  (x.kind = 6 → x.box = [] ∧ x.uid = 0 ∧ x.flags = 0)
/-- An entry has its form. -/
structure Formed (x : Ent) : Prop where
  kind : 1 ≤ x.kind ∧ x.kind ≤ 6
  bare : bareP x
  flags : 0 ≤ x.flags ∧ x.flags ≤ 31
  uid : 0 ≤ x.uid ∧ x.uid ≤ 1048576
  text : x.text.length ≤ 2000
  goal : x.kind = 6 → goalM x.goal = 0
  name : x.kind ≠ 6 → nameP x.box = 0
  to : x.kind = 5 → nameP x.goal = 0

/- P9.1. -/
def risen : Int → Int → List Mail → Prop
  | _, _, [] => True
  | last, next, m :: r => last < m.uid ∧ m.uid < next ∧ 0 ≤ m.flags ∧ m.flags ≤ 31 ∧ m.text.length ≤ 2000 ∧ risen m.uid next r
structure BoxMay (b : Bx) : Prop where
  name : nameP b.name = 0
  next : 1 ≤ b.next ∧ b.next ≤ 1048577
  many : b.mails.length ≤ 30
  mails : risen 0 b.next b.mails
structure May (s : Stt) : Prop where
  boxes : s.boxes.length ≤ 5
  spool : s.spool.length ≤ 20
  each : ∀ b ∈ s.boxes, BoxMay b
  names : (s.boxes.map Bx.name).Nodup
  size : sizeB s.boxes ≤ 6000
  out : ∀ x ∈ s.spool, x.kind = 6 ∧ Formed x
theorem risen_less {a a' next : Int} (h : a' ≤ a) : ∀ (l : List Mail), risen a next l → risen a' next l := by
  intro l
  cases l with
  | nil => intro _; trivial
  | cons m l => intro ⟨h1, h2⟩; exact ⟨by omega, h2⟩
theorem risen_snoc {next : Int} {m : Mail} (h2 : m.uid = next) (h3 : 0 ≤ m.flags) (h4 : m.flags ≤ 31) (h5 : m.text.length ≤ 2000) : ∀ (l : List Mail) (last : Int), last < next → risen last next l → risen last (next + 1) (l ++ [m]) := by
  intro l
  induction l with
  | nil => intro last hl _; exact ⟨by omega, by omega, h3, h4, h5, trivial⟩
  | cons c l ih => intro last hl ⟨k1, k2, k3, k4, k5, k6⟩; exact ⟨k1, by omega, k3, k4, k5, ih _ (by omega) k6⟩
theorem risen_filter {next : Int} (p : Mail → Bool) : ∀ (l : List Mail) (last : Int), risen last next l → risen last next (l.filter p) := by
  intro l
  induction l with
  | nil => intro _ _; trivial
  | cons m l ih =>
    intro last ⟨h1, h2, h3, h4, h5, h6⟩
    cases hp : p m with
    | true => rw [List.filter_cons_of_pos hp]; exact ⟨h1, h2, h3, h4, h5, ih _ h6⟩
    | false => rw [List.filter_cons_of_neg (by rw [hp]; simp)]; exact ih _ (risen_less (by omega) _ h6)
theorem risen_flags {next f : Int} (h1 : 0 ≤ f) (h2 : f ≤ 31) : ∀ (l : List Mail) (last : Int) (j : Nat) (m : Mail), l[j]? = some m → risen last next l → risen last next (l.set j ⟨m.uid, f, m.text⟩) := by
  intro l
  induction l with
  | nil => intro _ j m h; simp at h
  | cons c l ih =>
    intro last j m h ⟨k1, k2, k3, k4, k5, k6⟩
    cases j with
    | zero => simp only [List.getElem?_cons_zero, Option.some.injEq] at h; subst h; exact ⟨k1, k2, h1, h2, k5, k6⟩
    | succ j => simp only [List.getElem?_cons_succ] at h; exact ⟨k1, k2, k3, k4, k5, ih _ j m h k6⟩
theorem risen_mem {next : Int} : ∀ {l : List Mail} {last : Int} {m : Mail}, risen last next l → m ∈ l → last < m.uid ∧ m.uid < next ∧ 0 ≤ m.flags ∧ m.flags ≤ 31 ∧ m.text.length ≤ 2000 := by
  intro l
  induction l with
  | nil => intro _ m _ h; cases h
  | cons c l ih =>
    intro last m ⟨k1, k2, k3, k4, k5, k6⟩ h
    cases h with
    | head => exact ⟨k1, k2, k3, k4, k5⟩
    | tail _ h => have := ih k6 h; exact ⟨by omega, this.2⟩

/- P9.4. -/
def isName (s : List UInt8) (b : Bx) : Bool := decide (b.name = s)
def isUid (u : Int) (m : Mail) : Bool := decide (m.uid = u)
def isDel (m : Mail) : Bool := decide (m.flags / 8 % 2 = 1)
def addM (s : Stt) (i : Nat) (f : Int) (t : List UInt8) : Except Int Stt :=
  match s.boxes[i]? with
  | none => .error 7
  | some b => if 30 ≤ b.mails.length ∨ 1048576 < b.next ∨ 6000 < sizeB s.boxes + t.length then .error 5 else .ok ⟨s.boxes.set i ⟨b.name, b.next + 1, b.mails ++ [⟨b.next, f, t⟩]⟩, s.spool⟩
def doM (s : Stt) (x : Ent) : Except Int Stt :=
  if x.kind = 1 then
    if (s.boxes.findIdx? (isName x.box)).isSome then .error 10
    else if 5 ≤ s.boxes.length then .error 5 else .ok ⟨s.boxes ++ [⟨x.box, 1, []⟩], s.spool⟩
  else if x.kind = 6 then
    if 20 ≤ s.spool.length then .error 5 else .ok ⟨s.boxes, s.spool ++ [x]⟩
  else match s.boxes.findIdx? (isName x.box) with
    | none => .error 7
    | some i =>
      if x.kind = 2 then addM s i x.flags x.text
      else match s.boxes[i]? with
        | none => .error 7
        | some b =>
          if x.kind = 4 then .ok ⟨s.boxes.set i ⟨b.name, b.next, b.mails.filter fun m => !isDel m⟩, s.spool⟩
          else match b.mails.findIdx? (isUid x.uid) with
            | none => .error 7
            | some j =>
              match b.mails[j]? with
              | none => .error 7
              | some m =>
                if x.kind = 5 then
                  match s.boxes.findIdx? (isName x.goal) with
                  | none => .error 7
                  | some k => addM s k m.flags m.text
                else .ok ⟨s.boxes.set i ⟨b.name, b.next, b.mails.set j ⟨m.uid, x.flags, m.text⟩⟩, s.spool⟩
theorem find_at {A : Type} {p : A → Bool} : ∀ {l : List A} {i : Nat}, l.findIdx? p = some i → ∃ x, l[i]? = some x ∧ p x = true := by
  intro l i h
  obtain ⟨hi, hp, _⟩ := List.findIdx?_eq_some_iff_getElem.1 h
  exact ⟨l[i], List.getElem?_eq_getElem hi, hp⟩
theorem find_none {A : Type} {p : A → Bool} {l : List A} (h : l.findIdx? p = none) : ∀ x ∈ l, p x = false := by
  intro x hx
  have := List.findIdx?_eq_none_iff.1 h x hx
  simpa using this
theorem map_set_same {A B : Type} (f : A → B) : ∀ (l : List A) (i : Nat) (x y : A), l[i]? = some x → f y = f x → (l.set i y).map f = l.map f := by
  intro l
  induction l with
  | nil => intro i x y h; simp at h
  | cons c l ih =>
    intro i x y h e
    cases i with
    | zero => simp only [List.getElem?_cons_zero, Option.some.injEq] at h; subst h; simp [e]
    | succ i => simp only [List.getElem?_cons_succ] at h; simp [ih i x y h e]
theorem mem_set_or {A : Type} {l : List A} {i : Nat} {x y : A} (h : y ∈ l.set i x) : y = x ∨ y ∈ l := by
  rcases List.mem_or_eq_of_mem_set h with h | h
  · exact .inr h
  · exact .inl h
theorem May.changed {s : Stt} {i : Nat} {b b' : Bx} (h : May s) (hb : s.boxes[i]? = some b) (hn : b'.name = b.name) (hm : BoxMay b') (hz : sizeB (s.boxes.set i b') ≤ 6000) : May ⟨s.boxes.set i b', s.spool⟩ := by
  refine ⟨by simpa using h.boxes, h.spool, ?_, ?_, hz, h.out⟩
  · intro c hc
    rcases mem_set_or hc with rfl | hc
    · exact hm
    · exact h.each c hc
  · show ((s.boxes.set i b').map Bx.name).Nodup
    rw [map_set_same Bx.name _ _ _ _ hb hn]
    exact h.names
theorem addM_may {s s' : Stt} {i : Nat} {f : Int} {t : List UInt8} (h : May s) (hf : 0 ≤ f ∧ f ≤ 31) (ht : t.length ≤ 2000) (ha : addM s i f t = .ok s') : May s' := by
  unfold addM at ha
  cases hb : s.boxes[i]? with
  | none => rw [hb] at ha; cases ha
  | some b =>
    rw [hb] at ha
    by_cases hfull : 30 ≤ b.mails.length ∨ 1048576 < b.next ∨ 6000 < sizeB s.boxes + t.length
    · simp only [if_pos hfull] at ha; cases ha
    · simp only [if_neg hfull] at ha
      cases ha
      have hB := h.each b (List.mem_of_getElem? hb)
      refine h.changed hb rfl ⟨hB.name, ⟨by have := hB.next; show 1 ≤ b.next + 1; omega, by show b.next + 1 ≤ 1048577; omega⟩, by simp; omega, ?_⟩ ?_
      · exact risen_snoc (next := b.next) (m := ⟨b.next, f, t⟩) rfl hf.1 hf.2 ht b.mails 0 (by have := hB.next; omega) hB.mails
      · have := sizeB_set s.boxes i b ⟨b.name, b.next + 1, b.mails ++ [⟨b.next, f, t⟩]⟩ hb
        simp only [sizeM_app, sizeM] at this
        omega
theorem sizeM_filter (p : Mail → Bool) (l : List Mail) : sizeM (l.filter p) ≤ sizeM l := by
  induction l with
  | nil => simp [sizeM]
  | cons m l ih =>
    cases hp : p m with
    | true => rw [List.filter_cons_of_pos hp]; simp only [sizeM]; omega
    | false => rw [List.filter_cons_of_neg (by rw [hp]; simp)]; simp only [sizeM]; omega
theorem sizeM_flags : ∀ (l : List Mail) (j : Nat) (m : Mail) (f : Int), l[j]? = some m → sizeM (l.set j ⟨m.uid, f, m.text⟩) = sizeM l := by
  intro l
  induction l with
  | nil => intro j m f h; simp at h
  | cons c l ih =>
    intro j m f h
    cases j with
    | zero => simp only [List.getElem?_cons_zero, Option.some.injEq] at h; subst h; rfl
    | succ j => simp only [List.getElem?_cons_succ] at h; simp only [List.set_cons_succ, sizeM, ih j m f h]
theorem doM_may {s s' : Stt} {x : Ent} (h : May s) (hx : Formed x) (hd : doM s x = .ok s') : May s' := by
  unfold doM at hd
  by_cases k1 : x.kind = 1
  · rw [if_pos k1] at hd
    cases hf : s.boxes.findIdx? (isName x.box) with
    | some i => rw [hf] at hd; cases hd
    | none =>
      rw [hf] at hd
      simp only [Option.isSome_none, Bool.false_eq_true, if_false] at hd
      by_cases h5 : 5 ≤ s.boxes.length
      · rw [if_pos h5] at hd; cases hd
      · rw [if_neg h5] at hd
        cases hd
        refine ⟨by simp; omega, h.spool, ?_, ?_, ?_, h.out⟩
        · intro c hc
          rcases List.mem_append.1 hc with hc | hc
          · exact h.each c hc
          · simp at hc; subst hc; exact ⟨hx.name (by omega), ⟨by show (1:Int) ≤ 1; omega, by show (1:Int) ≤ 1048577; omega⟩, by simp, trivial⟩
        · rw [List.map_append, List.nodup_append]
          refine ⟨h.names, by simp, ?_⟩
          intro a ha b hb
          simp at hb
          subst hb
          obtain ⟨c, hc, rfl⟩ := List.mem_map.1 ha
          have := find_none hf c hc
          simpa [isName] using this
        · show sizeB (s.boxes ++ [⟨x.box, 1, []⟩]) ≤ 6000
          rw [sizeB_app]; simp only [sizeB, sizeM]; have := h.size; omega
  · rw [if_neg k1] at hd
    by_cases k6 : x.kind = 6
    · rw [if_pos k6] at hd
      by_cases h20 : 20 ≤ s.spool.length
      · rw [if_pos h20] at hd; cases hd
      · rw [if_neg h20] at hd
        cases hd
        refine ⟨h.boxes, by simp; omega, h.each, h.names, h.size, ?_⟩
        intro y hy
        rcases List.mem_append.1 hy with hy | hy
        · exact h.out y hy
        · simp at hy; subst hy; exact ⟨k6, hx⟩
    · rw [if_neg k6] at hd
      cases hi : s.boxes.findIdx? (isName x.box) with
      | none => rw [hi] at hd; cases hd
      | some i =>
        rw [hi] at hd
        simp only at hd
        by_cases k2 : x.kind = 2
        · rw [if_pos k2] at hd
          exact addM_may h hx.flags hx.text hd
        · rw [if_neg k2] at hd
          cases hb : s.boxes[i]? with
          | none => rw [hb] at hd; cases hd
          | some b =>
            rw [hb] at hd
            simp only at hd
            have hB := h.each b (List.mem_of_getElem? hb)
            by_cases k4 : x.kind = 4
            · rw [if_pos k4] at hd
              cases hd
              refine h.changed hb rfl ⟨hB.name, hB.next, Nat.le_trans (List.length_filter_le _ _) hB.many, risen_filter _ _ _ hB.mails⟩ ?_
              have h1 := sizeB_set s.boxes i b ⟨b.name, b.next, b.mails.filter fun m => !isDel m⟩ hb
              have h2 := sizeM_filter (fun m => !isDel m) b.mails
              have h3 := h.size
              simp only at h1
              omega
            · rw [if_neg k4] at hd
              cases hj : b.mails.findIdx? (isUid x.uid) with
              | none => rw [hj] at hd; cases hd
              | some j =>
                rw [hj] at hd
                simp only at hd
                cases hm : b.mails[j]? with
                | none => rw [hm] at hd; cases hd
                | some m =>
                  rw [hm] at hd
                  simp only at hd
                  have hM := risen_mem hB.mails (List.mem_of_getElem? hm)
                  by_cases k5 : x.kind = 5
                  · rw [if_pos k5] at hd
                    cases hk : s.boxes.findIdx? (isName x.goal) with
                    | none => rw [hk] at hd; cases hd
                    | some k =>
                      rw [hk] at hd
                      exact addM_may h ⟨hM.2.2.1, hM.2.2.2.1⟩ hM.2.2.2.2 hd
                  · rw [if_neg k5] at hd
                    cases hd
                    refine h.changed hb rfl ⟨hB.name, hB.next, by simpa using hB.many, risen_flags hx.flags.1 hx.flags.2 _ _ _ _ hm hB.mails⟩ ?_
                    have h1 := sizeB_set s.boxes i b ⟨b.name, b.next, b.mails.set j ⟨m.uid, x.flags, m.text⟩⟩ hb
                    have h2 := sizeM_flags b.mails j m x.flags hm
                    have h3 := h.size
                    simp only at h1
                    omega
/- P9.5. -/
def allM : Stt → List Ent → Except Int Stt
  | s, [] => .ok s
  | s, x :: r => match doM s x with
    | .error e => .error e
    | .ok s' => allM s' r
theorem allM_may : ∀ {l : List Ent} {s s' : Stt}, May s → (∀ x ∈ l, Formed x) → allM s l = .ok s' → May s' := by
  intro l
  induction l with
  | nil => intro s s' h _ e; cases e; exact h
  | cons x l ih =>
    intro s s' h hx e
    unfold allM at e
    cases hd : doM s x with
    | error e' => rw [hd] at e; cases e
    | ok s1 => rw [hd] at e; exact ih (doM_may h (hx x (by simp)) hd) (fun y hy => hx y (by simp [hy])) e
end Go.Proofs.YtjfkgfomlnmngaaGreatDoor
namespace Go.Proofs.YtjfkgfomlnmngaaGreatDoor
open Go.RowKit

/- P4.1. -/
/- P4.2. -/
/- P4.3. -/
/- P4.4. -/
/- P4.5. -/
/- P4.6. -/
/- P4.7. -/
end Go.Proofs.YtjfkgfomlnmngaaGreatDoor

namespace Go.Proofs.YtjfkgfomlnmngaaGreatDoor
open Go.RowKit

/- Words. -/
/- P5.6. -/
/- P5.7. -/
end Go.Proofs.YtjfkgfomlnmngaaGreatDoor

namespace Go.Proofs.YtjfkgfomlnmngaaGreatDoor
open Go.RowKit

end Go.Proofs.YtjfkgfomlnmngaaGreatDoor

namespace Go.Proofs.YtjfkgfomlnmngaaGreatDoor
open Go.RowKit

end Go.Proofs.YtjfkgfomlnmngaaGreatDoor

namespace Go.Proofs.YtjfkgfomlnmngaaGreatDoor
open Go.RowKit

/- What is read is taken. -/
end Go.Proofs.YtjfkgfomlnmngaaGreatDoor
