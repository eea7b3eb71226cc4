/-
  What the laws' maker of a message does: the walk.
  What letter.isValue and letter.shownSize do: the walks.
  What letter.Check does: the walk.
  What a strings.Builder does that the call has made itself: writing a text, and handing it over: the walks.
  What letter.Show does: the walk.
  What the laws' makers of a word and of an address do: the walks.
  What the laws' maker of a letter does: the walk.
-/
import Derived.Test.YtaapmpchcfcniaaGreatDoorYQCodRp3
import Derived.Test.YtaapmpchcfcniaaGreatDoorYQCodRn2
import Derived.Test.YtaapmpchcfcniaaGreatDoorYLetPar
import Derived.Test.YtaapmpchcfcniaaGreatDoorYCut
import Derived.Deep.RegionLaw
import Derived.Lib.OthersKept
import Derived.Test.YtaapmpchcfcniaaGreatDoorYWhoChk
import Derived.Test.YtaapmpchcfcniaaGreatDoorYQJudCrs5
import Derived.Test.YtaapmpchcfcniaaGreatDoorYKeepWd
import Derived.WalkKit
import Derived.WalkSpells
import Derived.WalkLawsBesides
import Derived.Laws.IdiomStrings
import Derived.Deep.RegionHeld3
import Derived.Test.YtaapmpchcfcniaaGreatDoorYQCodPur6
import Derived.Test.YtaapmpchcfcniaaGreatDoorYKeepPick
import Derived.Deep.DeepCutAuto
import Derived.WalkArith
namespace Go.Proofs.YtaapmpchcfcniaaGreatDoor
open Go.RowKit
def mkF (f : F) : F := (zN f.1, valL f.2)
def msgK (fs : List F) (k : Nat) : List F := (fs.take k).map mkF
theorem je1 {fs : List F} {k : Nat} (hk : k ≤ fs.length) : (msgK fs k).length = k := by simp [msgK]; omega
theorem jhS {fs : List F} {k : Nat} {f : F} (h : fs[k]? = some f) : msgK fs (k + 1) = msgK fs k ++ [mkF f] := by
  unfold msgK; rw [qt h, List.map_append]; rfl
theorem jkw {B : Nat} {w0 w1 w2 w3 : World} {o : Obj} {row : Option Nat} (h1 : Below w0.heap.size w0 w1) (h2 : Below w1.heap.size w1 w2) (hg : (w2.alloc o).grownBy w3 row) (hB : B ≤ w0.heap.size) (hr : ∀ k, row = some k → B ≤ k) : Below B w0 w3 := by
  have s1 := h1.size; have s2 := h2.size; exact (((h1.mono hB).trans (h2.mono (by omega))).alloc (by omega) o).grown hg (by simp; omega) hr
theorem jkx {w0 w1 w2 : World} {o : Obj} {base : Nat} {e : TypeId} {size : Nat} {v : Value} {n : Nat} {xs : List Value} (h : w0.ownsRow base e size v n xs) (h1 : Below w0.heap.size w0 w1) (h2 : Below w1.heap.size w1 w2) : (w2.alloc o).ownsRow base e size v n xs :=
  World.ownsRow.alloc (jbP (jbP h h1) h2) o
theorem jky {w0 w1 w2 : World} {o : Obj} {B : Nat} (hB : B ≤ w0.heap.size) (h1 : Below w0.heap.size w0 w1) (h2 : Below w1.heap.size w1 w2) : B ≤ (w2.alloc o).heap.size := by
  have s1 := h1.size; have s2 := h2.size
  simp; omega
set_option maxHeartbeats 8000000 in
set_option maxRecDepth 100000 in
theorem jaZ (a : Option Addr) (c : Nat) (fs : List F) (body : ByteArray) (w : World) (hF : FieldsAt w a fs) (hl : fs.length ≤ maxLen) (hb : ∀ f ∈ fs, f.1.length ≤ maxLen ∧ f.2.length ≤ maxLen) (hbody : body.size ≤ maxLen) :
    Calls Tryz.prog 15 #[.slice a fs.length c, .string body] w fun e w' => ∃ a' c', e = .returned (.agg #[.slice a' (msgK fs 6).length c', .string (cutB body 200)]) ∧ FieldsAt w' a' (msgK fs 6) ∧ OwnF w' (w.heap.size + 2) (.slice a' (msgK fs 6).length c') (msgK fs 6) ∧ Below w.heap.size w w' := by
  obtain ⟨i0, hi, hz0, hz1, hz2⟩ := info_parts jdq; have hl' := hl; unfold maxLen at hl'; have HL : Hid _ := hl; have HB : Hid _ := hb; have HY : Hid _ := hbody; clear hl hb hbody; go_enter Tryz.func15, Tryz.ntmps15; go_wp2
  go_loopw [6] (fun i wr => ∃ (k : Nat) (a0 : Option Addr) (c0 : Nat), k ≤ fs.length ∧ k ≤ 6 ∧ i = .int .i64 k ∧ wr.cell? ⟨w.heap.size + 1, 0, none⟩ = some (.slice a0 k c0) ∧ OwnF wr (w.heap.size + 2) (.slice a0 k c0) (msgK fs k) ∧
      wr.cell? ⟨w.heap.size + 1, 1, none⟩ = some (.string ⟨#[]⟩) ∧ wr.cell? ⟨w.heap.size, 0, none⟩ = some (.slice none 0 0) ∧ wr.cell? ⟨w.heap.size, 1, none⟩ = some (.string ⟨#[]⟩) ∧
      (∀ o, wr.frozen? ⟨w.heap.size + 1, o, none⟩ = false) ∧ (∀ o, wr.frozen? ⟨w.heap.size, o, none⟩ = false) ∧ Below w.heap.size w wr ∧ w.heap.size + 2 ≤ wr.heap.size) (fun i _ => 6 - (intOf i).toNat)
  case atStart => exact ⟨0, none, 0, Nat.zero_le _, Nat.zero_le _, rfl, by simp, OwnF.nil _ _, by simp, by simp, by simp, by intro o; simp, by intro o; simp, ((Below.refl _ _).alloc (Nat.le_refl _) _).alloc (by simp) _, by simp⟩
  case round =>
    obtain ⟨k, a0, c0, hk, hk6, rfl, m0, hO, m1, r0, r1, z1, z2, hBw, hsz⟩ := hrel
    by_cases hlt : k < fs.length ∧ k < 6
    · obtain ⟨hl1, hl2⟩ := hlt; obtain ⟨f, hf⟩ : ∃ f, fs[k]? = some f := ⟨_, List.getElem?_eq_getElem hl1⟩; obtain ⟨b, off, rfl, hbl, h1, h2⟩ := (hF.below hBw) k f hf; have hbl0 : b < w.heap.size := by
        obtain ⟨b', off', e, hb', _⟩ := hF k f hf; simp only [Option.some.injEq, Addr.mk.injEq, and_true] at e; omega
      have hfb := HB.out f (List.mem_of_getElem? hf); have HS1 : Hid ((S f.1).size ≤ maxLen) := by unfold Hid; rw [jt]; exact hfb.1
      have HS2 : Hid ((S f.2).size ≤ maxLen) := by unfold Hid; rw [jt]; exact hfb.2
      have HW : Hid (zN (S f.1).data.toList = zN f.1) := by unfold Hid; rw [jp]
      have HV : Hid (valL (S f.2).data.toList = valL f.2) := by unfold Hid; rw [jp]
      have HM : Hid _ := jhS hf; have HK : Hid ((msgK fs k).length = k) := je1 hk; have hO' : World.ownsRow (wr.drew) (w.heap.size + 2) 69 2 (.slice a0 k c0) k (zg (msgK fs k)) := by
        have := hO; unfold OwnF at this; rw [HK.out] at this; exact this
      have hrow : ∀ j, (Value.slice a0 k c0).ownBlock = some j → w.heap.size + 2 ≤ j := fun j hj => (World.ownsRow.lt hO' j hj).1
      have i1 : (0 : Int) ≤ (k : Int) := by omega
      have i2 : (k : Int) < (fs.length : Int) := by omega
      have hszd : w.heap.size + 2 ≤ wr.drew.heap.size := hsz; clear hf hfb hO; go_wp2_with fail; have hne : b ≠ w.heap.size + 1 := by omega
      have hne' : w.heap.size + 1 ≠ b := by omega
      go_region_law
        (first
          | (refine step_append_lies _ (by rfl) _ _ _ (by rfl) (w.heap.size + 2) 69 i0 _ 2 32 Tryz.underlying63 hi hz0 hz1 hz2 rfl (by omega) (.slice a0 k c0) k (zg (msgK fs k)) (by rfl) (by first | exact jkx hO' hbW hbV | exact jkx hO' hbV hbW)
              ⟨_, 0, none⟩ 1 1 [.string (S (zN f.1)), .string (S (valL f.2))] (by rfl) (by rfl) (qT _ _ _ _) (by simp [Value.oneCell']) (by omega) (by unfold maxLen; omega) (by omega) (by first | exact jky hszd hbW hbV | exact jky hszd hbV hbW) _ rfl ?_
             intro g cap w3 hown3 hgrow hat hlt3; obtain ⟨hB3⟩ : Nonempty (PLift (Below (w.heap.size + 2) wr.drew w3)) := by first | exact ⟨⟨jkw hbW hbV hgrow hszd hrow⟩⟩ | exact ⟨⟨jkw hbV hbW hgrow hszd hrow⟩⟩
             have z3 : w3.frozen? ⟨w.heap.size + 1, 0, none⟩ = false := (hB3.down.frozen (by simp)).trans (z1 0); have q3 : w3.cell? ⟨w.heap.size + 1, 0, none⟩ = some (.slice a0 k c0) := (hB3.down.cell (by simp)).trans m0; clear hgrow)
          | (go_simp
             go_at_call 30
             refine (vS _ _ HS1.out).mono ?_; rintro e wW ⟨rfl, hbW⟩; rw [HW.out]; have mW : wW.cell? ⟨w.heap.size + 1, 0, none⟩ = some (.slice a0 k c0) := by first | exact jH mV hbW | exact jH (w := wr.drew) m0 hbW
             have szW : w.heap.size + 1 < wW.heap.size := World.block_lt_of_cell? wW _ mW; have lW : wW.cell? ⟨b, off + k * 2 + 1, none⟩ = some (.string (S f.2)) := by first | exact jH lV' hbW | exact jH (w := wr.drew) h2 hbW)
          | (go_simp
             go_at_call 33
             refine (jiO _ _ HS2.out).mono ?_; rintro e wV ⟨rfl, hbV⟩; rw [HV.out]; have mV : wV.cell? ⟨w.heap.size + 1, 0, none⟩ = some (.slice a0 k c0) := by first | exact jH mW hbV | exact jH (w := wr.drew) m0 hbV
             have szV : w.heap.size + 1 < wV.heap.size := World.block_lt_of_cell? wV _ mV; have lV' : wV.cell? ⟨b, off + k * 2 + 1, none⟩ = some (.string (S f.2)) := by first | exact jH lW hbV | exact jH (w := wr.drew) h2 hbV
             have lV : wV.cell? ⟨b, off + k * 2, none⟩ = some (.string (S f.1)) := by first | exact jH (w := wr.drew) h1 hbV | exact jH (jH (w := wr.drew) h1 hbW) hbV))
      all_goals
        have hB4 : Below (w.heap.size + 2) wr w3 := (Below.refl (w.heap.size + 2) wr).drew.trans hB3.down; have y1 : w3.cell? ⟨w.heap.size + 1, 1, none⟩ = some (.string ⟨#[]⟩) := (hB4.cell (by simp)).trans m1; have y2 : w3.cell? ⟨w.heap.size, 0, none⟩ = some (.slice none 0 0) := (hB4.cell (by simp)).trans r0; have y3 : w3.cell? ⟨w.heap.size, 1, none⟩ = some (.string ⟨#[]⟩) := (hB4.cell (by simp)).trans r1; have hsz3 : w.heap.size + 2 ≤ w3.heap.size := Nat.le_trans hsz hB4.size; have hO3 : OwnF (w3.setCell ⟨w.heap.size + 1, 0, none⟩ (.slice (some ⟨g, 0, none⟩) (k + 1) cap)) (w.heap.size + 2) (.slice (some ⟨g, 0, none⟩) (k + 1) cap) (msgK fs (k + 1)) := by
          refine OwnF.far ?_ (by simp) _; unfold OwnF; rw [HM.out, jag, jci, List.length_append, HK.out]; exact hown3
        have HO : Hid _ := hO3; have HC0 : Hid ((w3.setCell ⟨w.heap.size + 1, 0, none⟩ (.slice (some ⟨g, 0, none⟩) (k + 1) cap)).cell? ⟨w.heap.size + 1, 0, none⟩ = some (.slice (some ⟨g, 0, none⟩) (k + 1) cap)) := World.cell?_setCell_same' w3 _ _ (by rw [q3]; rfl); have t1 : (w3.setCell ⟨w.heap.size + 1, 0, none⟩ (.slice (some ⟨g, 0, none⟩) (k + 1) cap)).cell? ⟨w.heap.size + 1, 1, none⟩ = some (.string ⟨#[]⟩) := (World.cell?_setCell_other w3 _ _ _ (by simp)).trans y1; have t2 : (w3.setCell ⟨w.heap.size + 1, 0, none⟩ (.slice (some ⟨g, 0, none⟩) (k + 1) cap)).cell? ⟨w.heap.size, 0, none⟩ = some (.slice none 0 0) := (qy (by simp)).trans y2; have t3 : (w3.setCell ⟨w.heap.size + 1, 0, none⟩ (.slice (some ⟨g, 0, none⟩) (k + 1) cap)).cell? ⟨w.heap.size, 1, none⟩ = some (.string ⟨#[]⟩) := (qy (by simp)).trans y3; have t4 : ∀ o, (w3.setCell ⟨w.heap.size + 1, 0, none⟩ (.slice (some ⟨g, 0, none⟩) (k + 1) cap)).frozen? ⟨w.heap.size + 1, o, none⟩ = false := fun o => by
          have := (hB4.frozen (p := ⟨w.heap.size + 1, o, none⟩) (by simp)).trans (z1 o); simpa using this
        have t5 : ∀ o, (w3.setCell ⟨w.heap.size + 1, 0, none⟩ (.slice (some ⟨g, 0, none⟩) (k + 1) cap)).frozen? ⟨w.heap.size, o, none⟩ = false := fun o => by
          have := (hB4.frozen (p := ⟨w.heap.size, o, none⟩) (by simp)).trans (z2 o); simpa using this
        have t6 : Below w.heap.size w (w3.setCell ⟨w.heap.size + 1, 0, none⟩ (.slice (some ⟨g, 0, none⟩) (k + 1) cap)) := (hBw.trans (hB4.mono (by omega))).setCell (by simp) _; have HH : Hid _ := And.intro t1 (And.intro t2 (And.intro t3 (And.intro t4 (And.intro t5 t6)))); clear hO3 hown3 t1 t2 t3 t4 t5 t6 z1 z2; go_wp2
        go_roundw
        case rel => exact ⟨k + 1, some ⟨g, 0, none⟩, cap, by omega, by omega, by go_num, HC0.out, HO.out, HH.out.1, HH.out.2.1, HH.out.2.2.1, HH.out.2.2.2.1, HH.out.2.2.2.2.1, HH.out.2.2.2.2.2, by simpa using hsz3⟩
        case measure => simp [intOf]; omega
    · have HT : Hid (msgK fs k = msgK fs 6) := by
        unfold Hid msgK
        by_cases h6 : k = 6
        · rw [h6]
        · rw [List.take_of_length_le (by omega), List.take_of_length_le (by omega)]
      have HK : Hid ((msgK fs k).length = k) := je1 hk; have hO2 : OwnF wr (w.heap.size + 2) (.slice a0 (msgK fs k).length c0) (msgK fs k) := by rw [HK.out]; exact hO
      by_cases h8 : k < fs.length
      case' pos => have hk8' : ¬ k < 6 := fun h => hlt ⟨h8, h⟩
      all_goals
        clear hlt; go_wp2_with fail; refine (jeb body 200 _ HY.out (by omega)).mono ?_; rintro e u ⟨rfl, hu⟩; have hu' := hu.symm; subst hu'; have f1 := z1 1; have f2 := z2 0; have f3 := z2 1; have HR : Hid (OwnF (((wr.setCell ⟨w.heap.size + 1, 1, none⟩ (.string (cutB body 200))).setCell ⟨w.heap.size, 0, none⟩ (.slice a0 k c0)).setCell ⟨w.heap.size, 1, none⟩ (.string (cutB body 200))) (w.heap.size + 2) (.slice a0 (msgK fs k).length c0) (msgK fs k)) := ((hO2.far (by simp) _).far (by simp) _).far (by simp) _; clear hO hO2; go_wp2; refine bodyPost_ret (v := .agg #[.slice a0 k c0, .string (cutB body 200)]) (by simp [results, Tryz.results15, go_sem, r0, r1]) rfl ⟨a0, c0, ?_, ?_, ?_, ((hBw.setCell (by simp) _).setCell (by simp) _).setCell (by simp) _⟩
        · rw [← HT.out, HK.out]
        · rw [← HT.out]; exact OwnF.fields HR.out
        · rw [← HT.out]; exact HR.out
end Go.Proofs.YtaapmpchcfcniaaGreatDoor
namespace Go.Proofs.YtaapmpchcfcniaaGreatDoor
open Go.RowKit
set_option maxHeartbeats 400000 in
theorem jbL (s : ByteArray) (w : World) (hs : s.size < 4294967281) (hm : maxLenCell w) :
    Calls Tryz.prog 66 #[.string s] w fun e w' => e = .returned (.bool (qC s.data.toList)) ∧ Below w.heap.size w w' := by
  cases hE : jF s.data.toList with
  | true =>
    have HV : Hid (qC s.data.toList = false) := by simp [Hid, qC, hE]
    have HE : Hid (Lib.contains s.data.toList [13, 10] = true) := hE; clear hE; go_enter Tryz.func66, Tryz.ntmps66; go_wp2_with fail; refine (contains_any s ⟨#[13, 10]⟩ _ hs hm).mono ?_; rintro e u ⟨rfl, rfl⟩; rw [HE.out]; go_wp2; go_ret; exact ⟨jg HV.out.symm, Below.refl _ _⟩
  | false =>
    have HV : Hid (qC s.data.toList = (vm s.data.toList == s.data.toList)) := by simp [Hid, qC, hE]
    have HE : Hid (Lib.contains s.data.toList [13, 10] = false) := hE; clear hE; go_enter Tryz.func66, Tryz.ntmps66; go_wp2_with fail; refine (contains_any s ⟨#[13, 10]⟩ _ hs hm).mono ?_; rintro e u ⟨rfl, rfl⟩; rw [HE.out]; go_wp2_with fail; refine (trim_any s _ (by omega)).mono ?_; rintro e u2 ⟨rfl, hb⟩; go_wp2; go_ret; exact ⟨jg (by rw [HV.out]; simp only [Lib.toList_data, vm]), hb⟩
set_option maxHeartbeats 400000 in
theorem jay (a : Option Addr) (c : Nat) (fs : List F) (body : ByteArray) (w : World) (hF : FieldsAt w a fs) (hl : fs.length ≤ 1000000) (hbd : body.size + sumF fs ≤ 1000000000000) :
    Calls Tryz.prog 67 #[.agg #[.slice a fs.length c, .string body]] w fun e w' => e = .returned (.int .i64 ((2 + body.size + sumF fs : Nat) : Int)) ∧ Below w.heap.size w w' := by
  have hb0 : body.size ≤ 1000000000000 := by omega
  have HB : Hid _ := hbd; clear hbd; go_enter Tryz.func67, Tryz.ntmps67; go_wp2
  go_loopw [3, 13] (fun n i wr => ∃ k : Nat, k ≤ fs.length ∧ i = .int .i64 k ∧ n = .int .i64 ((2 + body.size + sumF (fs.take k) : Nat) : Int) ∧ Below w.heap.size w wr) (fun _ i _ => fs.length - (intOf i).toNat)
  case atStart => exact ⟨0, Nat.zero_le _, rfl, by simp [sumF], (Below.refl _ _).alloc (Nat.le_refl _) _⟩
  case round =>
    obtain ⟨k, hk, rfl, rfl, hB⟩ := hrel
    by_cases hlt : k < fs.length
    · obtain ⟨f, hf⟩ : ∃ f, fs[k]? = some f := ⟨_, List.getElem?_eq_getElem hlt⟩; obtain ⟨b, off, rfl, hb, h1, h2⟩ := (hF.below hB) k f hf; have HS : Hid _ := jiu hf; have h3 := jeC fs (k + 1); rw [HS.out] at h3; have h4 : (S f.1).size + (S f.2).size + 4 = ja9 f := by simp [jt, ja9]
      have h5 : sumF (fs.take k) + ((S f.1).size + (S f.2).size + 4) ≤ 1000000000000 := by have := HB.out; omega
      have H4 : Hid _ := h4; clear h3 h4; go_wp2
      go_roundw
      case rel => exact ⟨k + 1, by omega, by go_num, by rw [HS.out, ← H4.out]; go_num, hB.alloc hB.size _⟩
      case measure => simp [intOf]; omega
    · have h5 : sumF (fs.take k) ≤ 1000000000000 := by have := HB.out; have := jeC fs k; omega
      have HT : Hid (fs.take k = fs) := List.take_of_length_le (by omega); go_wp2; go_ret; exact ⟨ji (by rw [HT.out]), hB⟩
end Go.Proofs.YtaapmpchcfcniaaGreatDoor
namespace Go.Proofs.YtaapmpchcfcniaaGreatDoor
open Go.RowKit
def Mild (fs : List F) (body : ByteArray) : Prop := fs.length ≤ 2000000 ∧ body.size ≤ 2000000 ∧ ∀ f ∈ fs, f.1.length ≤ 2000000 ∧ f.2.length ≤ 2000000
theorem jlN {fs : List F} (h : ∀ f ∈ fs, f.1.length ≤ 2000000 ∧ f.2.length ≤ 2000000) : sumF fs ≤ fs.length * 4000004 := by
  induction fs with
  | nil => simp [sumF]
  | cons f fs ih =>
    have h1 := h f (by simp); have h2 := ih fun g hg => h g (by simp [hg])
    have e : sumF (f :: fs) = ja9 f + sumF fs := by simp [sumF]
    rw [e]; simp only [ja9, List.length_cons]; omega
theorem jiZ {fs : List F} {k : Nat} {f : F} (h : fs[k]? = some f) (ha : (fs.take k).all mayF = true) (hf : mayF f = true) : (fs.take (k + 1)).all mayF = true := by
  rw [qt h, List.all_append, ha]; simp [hf]
theorem jku {fs : List F} {k : Nat} {f : F} (h : fs[k]? = some f) (hf : mayF f = false) : fs.all mayF = false := by
  have hm : f ∈ fs := List.mem_of_getElem? h; cases e : fs.all mayF with
  | false => rfl
  | true => rw [List.all_eq_true] at e; rw [e f hm] at hf; cases hf
set_option maxHeartbeats 1000000 in
theorem jf8 (a : Option Addr) (c : Nat) (fs : List F) (body : ByteArray) (w : World) (hF : FieldsAt w a fs) (hM : Mild fs body) (hm : maxLenCell w) :
    Calls Tryz.prog 34 #[.agg #[.slice a fs.length c, .string body]] w fun e w' => e = .returned (.int .i64 (zV fs body.data.toList)) ∧ Below w.heap.size w w' := by
  obtain ⟨hM1, hM2, hM3⟩ := hM
  by_cases h30 : 30 < fs.length
  · have HR : Hid (zV fs body.data.toList = 5) := by unfold Hid zV; rw [if_pos h30]
    go_enter Tryz.func34, Tryz.ntmps34; go_wp2; go_ret; exact ⟨ji HR.out.symm, (Below.refl _ _).alloc (Nat.le_refl _) _⟩
  · have HM3 : Hid _ := hM3; clear hM3; go_enter Tryz.func34, Tryz.ntmps34; go_wp2
    go_loopw [12] (fun i wr => ∃ k : Nat, k ≤ fs.length ∧ i = .int .i64 k ∧ Hid ((fs.take k).all mayF = true) ∧ Below w.heap.size w wr ∧ wr.cell? ⟨w.heap.size, 0, none⟩ = some (.slice a fs.length c) ∧ wr.cell? ⟨w.heap.size, 1, none⟩ = some (.string body) ∧ w.heap.size < wr.heap.size) (fun i _ => fs.length - (intOf i).toNat)
    case atStart => exact ⟨0, Nat.zero_le _, rfl, by simp [Hid], (Below.refl _ _).alloc (Nat.le_refl _) _, by simp, by simp, by simp⟩
    case round =>
      obtain ⟨k, hk, rfl, HA, hB, hc0, hc1, hsz⟩ := hrel; have hmr := maxLenCell_below hm hB
      by_cases hlt : k < fs.length
      · obtain ⟨f, hf⟩ : ∃ f, fs[k]? = some f := ⟨_, List.getElem?_eq_getElem hlt⟩; have hbd := HM3.out f (List.mem_of_getElem? hf); obtain ⟨b, off, rfl, hb, h1, h2⟩ := (hF.below hB) k f hf; have HN : Hid (zK (S f.1).data.toList = zK f.1) := by unfold Hid; rw [jp]
        have HV : Hid (qC (S f.2).data.toList = qC f.2) := by unfold Hid; rw [jp]
        have hs1 : (S f.1).size ≤ 2000000 := by rw [jt]; exact hbd.1
        have hs2 : (S f.2).size ≤ 2000000 := by rw [jt]; exact hbd.2
        have HF : Hid _ := hf; clear hf hbd; cases hn : zK f.1 with
        | false =>
          have HE : Hid (zV fs body.data.toList = 3) := by
            unfold Hid zV; rw [if_neg h30, if_pos (jku HF.out (by simp [mayF, hn]))]
          have HX : Hid _ := hn; clear hn; go_wp2_with fail; refine (vN _ _ (by unfold maxLen; omega)).mono ?_; rintro e u ⟨rfl, rfl⟩; rw [HN.out, HX.out]; go_wp2; go_ret; exact ⟨ji HE.out.symm, hB.alloc hB.size _⟩
        | true =>
          have HX : Hid _ := hn; clear hn; cases hv : qC f.2 with
          | false =>
            have HE : Hid (zV fs body.data.toList = 3) := by
              unfold Hid zV; rw [if_neg h30, if_pos (jku HF.out (by simp [mayF, hv]))]
            have HY : Hid _ := hv; clear hv; go_wp2_with fail; refine (vN _ _ (by unfold maxLen; omega)).mono ?_; rintro e u ⟨rfl, rfl⟩; rw [HN.out, HX.out]; go_wp2_with fail; refine (jbL _ _ (by omega) (maxLenCell_below hmr ((Below.refl _ _).alloc (Nat.le_refl _) _))).mono ?_; rintro e u ⟨rfl, hb2⟩; rw [HV.out, HY.out]; go_wp2; go_ret; exact ⟨ji HE.out.symm, jfF (hB.alloc hB.size _) hb2 (Nat.le_refl _)⟩
          | true =>
            have HA2 : Hid _ := jiZ HF.out HA.out (by simp [mayF, HX.out, hv]); have HY : Hid _ := hv; clear hv; go_wp2_with fail; refine (vN _ _ (by unfold maxLen; omega)).mono ?_; rintro e u ⟨rfl, rfl⟩; rw [HN.out, HX.out]; go_wp2_with fail; refine (jbL _ _ (by omega) (maxLenCell_below hmr ((Below.refl _ _).alloc (Nat.le_refl _) _))).mono ?_; rintro e u ⟨rfl, hb2⟩; rw [HV.out, HY.out]; go_wp2
            go_roundw
            case rel => exact ⟨k + 1, by omega, by go_num, HA2.out, jfF (hB.alloc hB.size _) hb2 (Nat.le_refl _), jH (qm hc0 _) hb2, jH (qm hc1 _) hb2, by have := hb2.size; simp at this; omega⟩
            case measure => simp [intOf]; omega
      · have HT : Hid (fs.take k = fs) := List.take_of_length_le (by omega); have hsum := jlN HM3.out
        by_cases hbig : 2000 < 2 + body.data.toList.length + sumF fs
        · have HE : Hid (zV fs body.data.toList = 1) := by
            have := HA.out; rw [HT.out] at this; unfold Hid zV; rw [if_neg h30, if_neg (by simp [this]), if_pos hbig]
          rw [size_list] at hbig; go_wp2_with fail; refine (jay a c fs body _ (hF.below hB) (by omega) (by omega)).mono ?_; rintro e u ⟨rfl, hb2⟩; go_wp2; go_ret; exact ⟨ji HE.out.symm, jfF hB hb2 (Nat.le_refl _)⟩
        · have HE : Hid (zV fs body.data.toList = 0) := by
            have := HA.out; rw [HT.out] at this; unfold Hid zV; rw [if_neg h30, if_neg (by simp [this]), if_neg hbig]
          rw [size_list] at hbig; go_wp2_with fail; refine (jay a c fs body _ (hF.below hB) (by omega) (by omega)).mono ?_; rintro e u ⟨rfl, hb2⟩; go_wp2; go_ret; exact ⟨ji HE.out.symm, jfF hB hb2 (Nat.le_refl _)⟩
end Go.Proofs.YtaapmpchcfcniaaGreatDoor
namespace Go.Proofs.YtaapmpchcfcniaaGreatDoor
open Go.RowKit Go.Proofs Go.Shelf
set_option maxHeartbeats 1000000 in
set_option maxRecDepth 100000 in
theorem jb4 (b : Nat) (w : World) (h0 : w.cell? ⟨b, 0, none⟩ = some (.pointer (some ⟨b, 0, none⟩))) :
    Calls Tryz.prog 68 #[.pointer (some ⟨b, 0, none⟩)] w fun e w' => e = .returned (.tuple #[]) ∧ w' = w := by
  obtain ⟨j, hj, _⟩ := Option.map_eq_some_iff.1 Tryz.Builder_Extra_169.sizeBuilder; go_enter Tryz.func68, Tryz.ntmps68; go_wp2; rw [Lib.run_neq_ptr_same w _ Tryz.underlying94 hj]; go_wp2; go_end0; exact ⟨rfl, rfl⟩
set_option maxHeartbeats 1000000 in
set_option maxRecDepth 100000 in
theorem jbz (b : Nat) (w : World) (h0 : w.cell? ⟨b, 0, none⟩ = some (.pointer none)) (hsh : w.shape? b = some (97, 2)) (hfz : w.frozen? ⟨b, 0, none⟩ = false) :
    Calls Tryz.prog 68 #[.pointer (some ⟨b, 0, none⟩)] w fun e w' => e = .returned (.tuple #[]) ∧ w' = w.setCell ⟨b, 0, none⟩ (.pointer (some ⟨b, 0, none⟩)) := by
  obtain ⟨j, hj, hjs⟩ := Option.map_eq_some_iff.1 Tryz.Builder_Extra_169.sizeBuilder; go_enter Tryz.func68, Tryz.ntmps68; go_wp2; rw [Lib.run_to_unsafe w ⟨b, 0, none⟩ Tryz.underlying94 Tryz.underlying171 hj (by rw [hjs]; decide) hsh (Nat.zero_lt_succ 1)]; simp only [Result.andThen]; rw [Oper.upon_value]; go_wp2; rw [run_callFunc_extern Tryz.func103 (by kernel_rfl) (by kernel_rfl) (by kernel_rfl) (e := Extern.AbiNoEscape.same) (by kernel_rfl)]; rw [Lib.run_noEscape]; simp only [Result.andThen]; rw [Oper.upon_value]; go_wp2; rw [Lib.run_from_unsafe w ⟨b, 0, none⟩ Tryz.underlying171 Tryz.underlying94 hj hsh Tryz.Builder_Extra_169.liesBuilder]; simp only [Result.andThen]; rw [Oper.upon_value]; go_wp2; go_end0; exact ⟨rfl, rfl⟩
theorem jcN (B b : Nat) (bs : List Value) (w : World) (h : Lib.IsBuilderF 97 5 B b bs w) :
    Calls Tryz.prog 68 #[.pointer (some ⟨b, 0, none⟩)] w fun e w' => e = .returned (.tuple #[]) ∧ (Lib.BuilderAtF 97 5 B b (.pointer (some ⟨b, 0, none⟩)) bs w' ∧ Below B w w' ∧ Lib.OthersKept 5 (some b) w w') := by
  rcases h with h | h
  · refine (jbz b w h.cell0 h.shape h.frozen0).mono ?_; rintro e w' ⟨rfl, rfl⟩; exact ⟨rfl, h.used _, (Below.refl B w).setCell (p := ⟨b, 0, none⟩) h.1 _, (Lib.OthersKept.refl _ _ w).setCell ⟨b, 0, none⟩ rfl _⟩
  · refine (jb4 b w h.cell0).mono ?_; rintro e w' ⟨rfl, rfl⟩; exact ⟨rfl, h, Below.refl B _, Lib.OthersKept.refl _ _ _⟩
set_option maxHeartbeats 2000000 in
set_option maxRecDepth 100000 in
theorem vF (B b : Nat) (bs : List Value) (s : ByteArray) (w : World) (h : Lib.IsBuilderF 97 5 B b bs w) (hlen : bs.length + s.size ≤ 140737488355328) (hBw : B ≤ w.heap.size) :
    Calls Tryz.prog 35 #[.pointer (some ⟨b, 0, none⟩), .string s] w fun e w' => e = .returned (.tuple #[.int .i64 s.size, .nilIface]) ∧ (Lib.IsBuilderF 97 5 B b (bs ++ Lib.strCells s) w' ∧ Below B w w' ∧ Lib.OthersKept 5 (some b) w w') := by
  obtain ⟨i0, hi, hz0, hz1, hz2⟩ := info_parts Tryz.Builder_Extra_169.infoByte; go_enter Tryz.func35, Tryz.ntmps35; go_wp2_with fail; refine (jcN B b bs _ h).mono ?_; rintro e w1 ⟨rfl, h1, hb1, hk1⟩; obtain ⟨hB, v, hbk, hown, hne⟩ := h1; have c0 : w1.cell? ⟨b, 0, none⟩ = some (.pointer (some ⟨b, 0, none⟩)) := by rw [Lib.cell_of_heap hbk]; rfl
  have c1 : w1.cell? ⟨b, 1, none⟩ = some v := by rw [Lib.cell_of_heap hbk]; rfl
  go_wp2_with (at_builtin; refine Lib.wpList_append_own_stringF _ rfl _ _ 95 9 rfl B 5 i0 Tryz.underlying95 Tryz.underlying9 hi hz0 hz1 hz2 _ _ _ rfl hown s rfl ?c3 ?c4 ?c5 ?_)
  case c3 => unfold maxLen; omega
  case c4 => omega
  case c5 => have := hb1.size; omega
  intro v' w2 hown' hgrow _; have hlt : b < w1.heap.size := by
    rcases Nat.lt_or_ge b w1.heap.size with h' | h'
    · exact h'
    · simp [Array.getElem?_eq_none h'] at hbk
  have hb2 : w2.heap[b]? = some (.cells #[.pointer (some ⟨b, 0, none⟩), v] 97 (0, 0)) := by
    rw [hgrow.block b hlt (fun e => hne e.symm)]; exact hbk
  have d0 : w2.cell? ⟨b, 0, none⟩ = some (.pointer (some ⟨b, 0, none⟩)) := by rw [Lib.cell_of_heap hb2]; rfl
  have d1 : w2.cell? ⟨b, 1, none⟩ = some v := by rw [Lib.cell_of_heap hb2]; rfl
  have f1 : w2.frozen? ⟨b, 1, none⟩ = false := Lib.frozen_of_heap hb2 1; obtain ⟨ao, n', cap, rfl⟩ : ∃ ao n' cap, v' = .slice ao n' cap := by
    rcases hown'.2 with ⟨hv, _⟩ | ⟨g, cap, cur, fz, hv, _⟩
    · exact ⟨_, _, _, hv⟩
    · exact ⟨_, _, _, hv⟩
  go_wp2; go_ret2; refine ⟨rfl, .inr ?_, ?_, (hk1.grown hgrow (Lib.ownsRowF_kind hown)).setCell ⟨b, 1, none⟩ rfl _⟩
  · exact Lib.BuilderAtF.put (T := 97) (e := 5) hB hb2 (bs' := bs ++ Lib.strCells s) (by simpa [Lib.strCells_length] using hown') Tryz.Builder_Extra_169.neB5
  · exact (hb1.grown hgrow (by have := hb1.size; omega) (fun k hk => (hown.lt k hk).1)).setCell (p := ⟨b, 1, none⟩) hB _
end Go.Proofs.YtaapmpchcfcniaaGreatDoor
namespace Go.Proofs.YtaapmpchcfcniaaGreatDoor
open Go.RowKit
theorem jeK (a b : ByteArray) : (a ++ b).data.toList = a.data.toList ++ b.data.toList := by
  simp [ByteArray.data_append]
theorem vI (f : F) : ((S f.1 ++ ⟨#[58, 32]⟩ ++ S f.2 ++ ⟨#[13, 10]⟩ : ByteArray)).data.toList = jdW f := by
  simp only [jeK, jp, jdW]
theorem jhg {fs : List F} {body : List UInt8} (h : zV fs body = 0) : fs.length ≤ 30 ∧ (∀ f ∈ fs, mayF f = true) ∧ 2 + body.length + sumF fs ≤ 2000 := by
  unfold zV at h
  by_cases h1 : 30 < fs.length
  · rw [if_pos h1] at h; cases h
  · rw [if_neg h1] at h
    by_cases h2 : fs.all mayF = false
    · rw [if_pos h2] at h; cases h
    · rw [if_neg h2] at h
      by_cases h3 : 2000 < 2 + body.length + sumF fs
      · rw [if_pos h3] at h; cases h
      · exact ⟨by omega, by simpa using h2, by omega⟩
set_option maxHeartbeats 2000000 in
theorem jlL (a : Option Addr) (c : Nat) (fs : List F) (body : ByteArray) (w : World) (hF : FieldsAt w a fs) (hM : Mild fs body) (hm : maxLenCell w) (hf : zV fs body.data.toList = 0) :
    Calls Tryz.prog 17 #[.agg #[.slice a fs.length c, .string body]] w fun e w' => e = .returned (.tuple #[.string (S (vT fs body.data.toList)), .int .i64 0]) ∧ Below w.heap.size w w' := by
  have hB0 : ∀ o, Below w.heap.size w (w.alloc o) := fun o => (Below.refl _ _).alloc (Nat.le_refl _) o
  have HX : Hid _ := jhg hf; have hl := HX.out.1; have HF : Hid _ := hf; clear hf; go_enter Tryz.func17, Tryz.ntmps17; go_wp2_with fail; refine (jf8 a c fs body _ (hF.below (hB0 _)) hM (maxLenCell_below hm (hB0 _))).mono ?_; rintro e w1 ⟨rfl, hb1⟩; have p0 : w1.cell? ⟨w.heap.size, 0, none⟩ = some (.slice a fs.length c) := jH (by simp) hb1; have p1 : w1.cell? ⟨w.heap.size, 1, none⟩ = some (.string body) := jH (by simp) hb1; have hB1 := jfF (hB0 _) hb1 (Nat.le_refl _); have hF1 := hF.below hB1; have hz : w.heap.size < w1.heap.size := by have := hb1.size; simp at this; omega
  rw [HF.out]; go_wp2
  go_loopw [16] (fun i wr => ∃ k : Nat, k ≤ fs.length ∧ i = .int .i64 k ∧ Lib.IsBuilderF 97 5 w1.heap.size w1.heap.size (Lib.byteCells (qK (fs.take k))) wr ∧ Below w1.heap.size w1 wr) (fun i _ => fs.length - (intOf i).toNat)
  case atStart => exact ⟨0, Nat.zero_le _, rfl, by simpa [qK, Lib.byteCells] using Lib.IsBuilderF.of (Lib.fresh_isBuilder 97 5 w1), (Below.refl _ _).alloc (Nat.le_refl _) _⟩
  case round =>
    obtain ⟨k, hk, rfl, hI, hB⟩ := hrel; have hle : (qK (fs.take k)).length ≤ 2000 := by
      rw [jal]; have := jeC fs k; have := HX.out.2.2; omega
    by_cases hlt : k < fs.length
    · obtain ⟨f, hf⟩ : ∃ f, fs[k]? = some f := ⟨_, List.getElem?_eq_getElem hlt⟩; obtain ⟨b, off, rfl, hb, h1, h2⟩ := (hF1.below hB) k f hf; have hfb := hM.2.2 f (List.mem_of_getElem? hf); have HL : Hid (qK (fs.take (k + 1)) = qK (fs.take k) ++ jdW f) := by unfold Hid; rw [qt hf, jeo]
      have HZ : Hid ((S f.1 ++ ⟨#[58, 32]⟩ ++ S f.2 ++ ⟨#[13, 10]⟩ : ByteArray).size ≤ 5000000) := by
        unfold Hid; rw [← size_list, vI, jaX]; unfold ja9; omega
      have hs1 : (S f.1).size ≤ 2000000 := by rw [jt]; exact hfb.1
      have hs2 : (S f.2).size ≤ 2000000 := by rw [jt]; exact hfb.2
      clear hf hfb; go_wp2_with fail; refine (vF w1.heap.size w1.heap.size _ _ _ (hI.alloc _) ?hl ?hs).mono ?_
      case hl => have := HZ.out; rw [Lib.byteCells_length]; omega
      case hs => have := hB.size; simp; omega
      rintro e w2 ⟨rfl, hI2, hb2, _⟩; go_wp2
      go_roundw
      case rel => first | exact ⟨k + 1, by omega, by go_num, by rw [HL.out, Lib.byteCells_append]; rwa [Lib.strCells_eq, vI] at hI2, (hB.alloc hB.size _).trans hb2⟩ | ((repeat apply Exists.intro); exact ⟨⟨k + 1, by omega, by go_num, by rw [HL.out, Lib.byteCells_append]; rwa [Lib.strCells_eq, vI] at hI2, (hB.alloc hB.size _).trans hb2⟩, rfl⟩) | (refine ⟨trivial, ?_⟩; (repeat apply Exists.intro); exact ⟨⟨k + 1, by omega, by go_num, by rw [HL.out, Lib.byteCells_append]; rwa [Lib.strCells_eq, vI] at hI2, (hB.alloc hB.size _).trans hb2⟩, rfl⟩)
      case measure => simp [intOf]; omega
    · have HT : Hid (fs.take k = fs) := List.take_of_length_le (by omega); have q1 : wr.cell? ⟨w.heap.size, 1, none⟩ = some (.string body) := jH p1 hB; have hbd := hM.2.1; have HZ : Hid ((⟨#[13, 10]⟩ ++ body : ByteArray).size ≤ 5000000) := by
        unfold Hid; rw [← size_list, jeK, List.length_append, size_list body]; simp; omega
      go_wp2_with fail; refine (vF w1.heap.size w1.heap.size _ _ _ hI ?hl hB.size).mono ?_
      case hl => have := HZ.out; rw [Lib.byteCells_length]; omega
      rintro e w2 ⟨rfl, hI2, hb2, _⟩; rw [Lib.strCells_eq, ← Lib.byteCells_append] at hI2; go_wp2_with fail; refine (Tryz.Builder_String_any_k w1.heap.size w1.heap.size _ _ hI2 (by have := hB.size; have := hb2.size; omega)).mono ?_; rintro e w3 ⟨rfl, _, hb3, _⟩; go_wp2; go_ret2; refine ⟨?_, jfF hB1 ((hB.trans hb2).trans hb3) (Nat.le_refl _)⟩; have := HT.out
      simp [vT, S, this]
end Go.Proofs.YtaapmpchcfcniaaGreatDoor
namespace Go.Proofs.YtaapmpchcfcniaaGreatDoor
open Go.RowKit
theorem jcD (l : List UInt8) : wordy (zN l) := by
  refine ⟨?_, zn l, ?_⟩
  · unfold zN jba; split
    · simp
    · rename_i h; cases l with
      | nil => exact absurd rfl h
      | cons c t => simp
  · intro c hc; unfold zN at hc; split at hc
    · simp at hc; subst hc; decide
    · obtain ⟨x, _, rfl⟩ := List.mem_map.1 hc; have := jb0 x; omega
def jaC (l d : List UInt8) : Adr := (zN l, zN d ++ orgL)
theorem jaS (l d : List UInt8) : lawful (jaC l d) := ⟨jcD l, _, jcD d, rfl⟩
theorem jjM (l : List UInt8) : S l ++ ⟨#[46, 111, 114, 103]⟩ = S (l ++ orgL) := by
  rw [← qe (S l ++ ⟨#[46, 111, 114, 103]⟩)]
  simp [jp, orgL]
set_option maxHeartbeats 8000000 in
set_option maxRecDepth 100000 in
theorem jbm (l d g : ByteArray) (w : World) (hl : l.size ≤ maxLen) (hd : d.size ≤ maxLen) :
    Calls Tryz.prog 18 #[.agg #[.string l, .string d, .string g]] w fun e w' => e = .returned (.agg #[.string (S (jaC l.data.toList d.data.toList).1), .string (S (jaC l.data.toList d.data.toList).2)]) ∧ Below w.heap.size w w' := by
  have HL : Hid _ := hl; have HD : Hid _ := hd; clear hl hd; obtain ⟨x, hx⟩ : ∃ x, x = zN l.data.toList := ⟨_, rfl⟩; obtain ⟨y, hy⟩ : ∃ y, y = zN d.data.toList := ⟨_, rfl⟩; have sx : (S x).size ≤ 8 := by rw [jt, hx]; exact zn _
  have sy : (S y).size ≤ 8 := by rw [jt, hy]; exact zn _
  have HA : Hid (jaC l.data.toList d.data.toList = (x, y ++ orgL)) := by unfold Hid jaC; rw [hx, hy]
  have HO : Hid (S y ++ ⟨#[46, 111, 114, 103]⟩ = S (y ++ orgL)) := jjM y; have HX : Hid _ := hx; have HY : Hid _ := hy; clear hx hy; obtain ⟨W0, hW0⟩ : ∃ W0, W0 = (w.alloc (.cells #[.string l, .string d, .string g] 23)).alloc (.cells #[.string ⟨#[]⟩, .string ⟨#[]⟩] 29) := ⟨_, rfl⟩; have hB0 : Below w.heap.size w W0 := by rw [hW0]; exact ((Below.refl _ _).alloc (Nat.le_refl _) _).alloc (by simp) _
  have hz0 : w.heap.size + 2 = W0.heap.size := by rw [hW0]; simp
  have c0 : W0.cell? ⟨w.heap.size, 0, none⟩ = some (.string l) := by rw [hW0]; simp
  have c1 : W0.cell? ⟨w.heap.size, 1, none⟩ = some (.string d) := by rw [hW0]; simp
  have r0 : W0.cell? ⟨w.heap.size + 1, 0, none⟩ = some (.string ⟨#[]⟩) := by rw [hW0]; simp
  have r1 : W0.cell? ⟨w.heap.size + 1, 1, none⟩ = some (.string ⟨#[]⟩) := by rw [hW0]; simp
  have f0 : W0.frozen? ⟨w.heap.size + 1, 0, none⟩ = false := by rw [hW0]; simp
  have f1 : W0.frozen? ⟨w.heap.size + 1, 1, none⟩ = false := by rw [hW0]; simp
  have HW : Hid _ := hW0; clear hW0; go_enter Tryz.func18, Tryz.ntmps18; go_wp2; rw [← HW.out]; have cD0 : W0.drew.cell? ⟨w.heap.size, 0, none⟩ = some (.string l) := c0; have cD1 : W0.drew.cell? ⟨w.heap.size, 1, none⟩ = some (.string d) := c1; have hadd : ¬ 9223372036854775807 < (S y).size + 4 := by omega
  have hne : w.heap.size ≠ w.heap.size + 1 := by omega
  have hne' : w.heap.size + 1 ≠ w.heap.size := by omega
  go_region_held3 (fun w' => w'.cell? ⟨w.heap.size, 0, none⟩ = some (.string l) ∧ w'.cell? ⟨w.heap.size, 1, none⟩ = some (.string d)) (go_keep)
    (first
       | (go_at_call_of 30 (Value.string l)
          refine (vS l _ HL.out).mono ?_; rintro e w1 ⟨rfl, hb1⟩; rw [← HX.out]; have e0 : w1.cell? ⟨w.heap.size, 0, none⟩ = some (.string l) := jb (w := W0.drew) c0 hb1; have e1 : w1.cell? ⟨w.heap.size, 1, none⟩ = some (.string d) := jb (w := W0.drew) c1 hb1; have s1 : w.heap.size + 1 < w1.heap.size := by have := hb1.size; have h2 : W0.drew.heap.size = W0.heap.size := rfl; omega)
       | (go_at_call_of 30 (Value.string d)
          refine (vS d _ HD.out).mono ?_; rintro e w2 ⟨rfl, hb2⟩; rw [← HY.out]; have hz2 := hb2.size; have i0 : w2.cell? ⟨w.heap.size, 0, none⟩ = some (.string l) := jb e0 hb2; have i1 : w2.cell? ⟨w.heap.size, 1, none⟩ = some (.string d) := jb e1 hb2; have g0 : w2.cell? ⟨w.heap.size + 1, 0, none⟩ = some (.string ⟨#[]⟩) := jb (jb (w := W0.drew) r0 hb1) hb2; have g1 : w2.cell? ⟨w.heap.size + 1, 1, none⟩ = some (.string ⟨#[]⟩) := jb (jb (w := W0.drew) r1 hb1) hb2; have k0 : w2.frozen? ⟨w.heap.size + 1, 0, none⟩ = false := (hb2.frozen s1).trans ((hb1.frozen (by show w.heap.size + 1 < W0.heap.size; omega)).trans f0); have k1 : w2.frozen? ⟨w.heap.size + 1, 1, none⟩ = false := (hb2.frozen s1).trans ((hb1.frozen (by show w.heap.size + 1 < W0.heap.size; omega)).trans f1)))
  rw [HO.out]; have hB2 : Below w.heap.size w ((w2.setCell ⟨w.heap.size + 1, 0, none⟩ (.string (S x))).setCell ⟨w.heap.size + 1, 1, none⟩ (.string (S (y ++ orgL)))) :=
    ((jda (jda hB0.drew hb1 (Nat.le_refl _)) hb2 (Nat.le_refl _)).setCell (by simp) _).setCell (by simp) _
  have HB2 : Hid _ := hB2; clear hB2; go_wp2; refine bodyPost_ret (v := .agg #[.string (S x), .string (S (y ++ orgL))]) (by simp [results, Tryz.results18, go_sem, g0, g1]) rfl ⟨?_, HB2.out⟩; rw [HA.out]
end Go.Proofs.YtaapmpchcfcniaaGreatDoor
namespace Go.Proofs.YtaapmpchcfcniaaGreatDoor
open Go.RowKit Go.Proofs
def jm3 : List UInt8 := [83, 117, 98, 106, 101, 99, 116]
def toL : List UInt8 := [116, 111]
def annL : List UInt8 := [65, 110, 110, 32, 60, 97, 110, 110, 64, 120, 46, 121, 62, 44, 32, 98, 64, 99]
def qY (n : Nat) : List UInt8 := if n % 5 = 0 then jm3 else if n % 5 = 1 then toL else if n % 5 = 2 then [70, 114, 111, 109] else if n % 5 = 3 then [99, 99] else [88]
def ltrF (f : F) : F := (qY f.2.length, if f.2.length % 5 = 1 ∧ f.2.length % 2 = 1 then annL else f.2)
def qL (fs : List F) (k : Nat) : List F := (fs.take k).map ltrF ++ fs.drop k
theorem zH (fs : List F) (k : Nat) : (qL fs k).length = fs.length := by simp [qL]; omega
theorem jhF {fs : List F} {k : Nat} {f : F} (h : fs[k]? = some f) : (qL fs k)[k]? = some f := by
  have hk := (List.getElem?_eq_some_iff.1 h).1; unfold qL; rw [List.getElem?_append_right (by simp; omega)]
  simp [Nat.min_eq_left (Nat.le_of_lt hk), h]
theorem jaM {fs : List F} {k : Nat} {f : F} (h : fs[k]? = some f) : (qL fs k).set k (ltrF f) = qL fs (k + 1) := by
  obtain ⟨hk, e⟩ := List.getElem?_eq_some_iff.1 h; unfold qL; rw [List.set_append_right _ _ (by simp; omega), qt h, List.map_append]; simp only [List.length_map, List.length_take, Nat.min_eq_left (Nat.le_of_lt hk), Nat.sub_self]; rw [List.drop_eq_getElem_cons hk, List.set_cons_zero]
  simp
theorem jd8 {fs : List F} {i : Nat} {f : F} (h : fs[i]? = some f) (v : List UInt8) : (zg fs).set (i * 2) (.string (S v)) = zg (fs.set i (v, f.2)) := by
  induction fs generalizing i with
  | nil => simp at h
  | cons g fs ih =>
    cases i with
    | zero => simp at h; subst h; simp [zg]
    | succ i =>
      have := ih (i := i) (by simpa using h); have e1 : (i + 1) * 2 = (i * 2) + 2 := by omega
      rw [e1]
      simpa [zg] using this
theorem jmm {n : Nat} : ∀ h, ([Value.string { data := #[83, 117, 98, 106, 101, 99, 116] }, Value.string { data := #[116, 111] }, Value.string { data := #[70, 114, 111, 109] }, Value.string { data := #[99, 99] }, Value.string { data := #[88] }] : List Value)[n % 5]'h = .string (S (qY n)) := by
  unfold qY; have h : n % 5 < 5 := Nat.mod_lt _ (by omega); generalize n % 5 = q at *
  match q, h with
  | 0, _ | 1, _ | 2, _ | 3, _ | 4, _ => intro _; rfl
theorem jhy {w : World} {B C : Nat} {v : Value} {fs : List F} (h : OwnF w B v fs) (hC : C ≤ B) : OwnF w C v fs := by
  refine ⟨h.1, ?_⟩
  rcases h.2 with h' | ⟨g, cap, cur, h1, h2, r⟩
  · exact .inl h'
  · exact .inr ⟨g, cap, cur, h1, Nat.le_trans hC h2, r⟩
theorem jh4 {w : World} {B : Nat} {a : Option Addr} {n c : Nat} {fs : List F} (h : OwnF w B (.slice a n c) fs) : ∀ g o q, a = some ⟨g, o, q⟩ → B ≤ g ∧ g < w.heap.size := by
  intro g o q e; subst e; exact World.ownsRow.lt h g rfl
def jgO (w W0 : World) (M : List F) (bd : ByteArray) (p : Value) (wx : World) : Prop := ∃ (P : Nat) (a1 : Option Addr) (c1 : Nat), p = .pointer (some ⟨P, 0, none⟩) ∧ w.heap.size + 2 ≤ P ∧ wx.cell? ⟨P, 0, none⟩ = some (.slice a1 M.length c1) ∧ wx.cell? ⟨P, 1, none⟩ = some (.string bd) ∧ OwnF wx (w.heap.size + 2) (.slice a1 M.length c1) M ∧ (∀ g o q, a1 = some ⟨g, o, q⟩ → g ≠ P) ∧ Below (w.heap.size + 2) W0 wx
def LtrRow (w W0 : World) (P g k c1 n : Nat) (bd : ByteArray) (f : F) (L : List F) (N : List UInt8) (wx : World) : Prop :=
  wx.cell? ⟨P, 0, none⟩ = some (.slice (some ⟨g, 0, none⟩) n c1) ∧ wx.cell? ⟨P, 1, none⟩ = some (.string bd) ∧ wx.cell? ⟨g, k * 2, none⟩ = some (.string (S N)) ∧ wx.cell? ⟨g, k * 2 + 1, none⟩ = some (.string (S f.2)) ∧ wx.frozen? ⟨g, k * 2 + 1, none⟩ = false ∧ Hid (OwnF wx (w.heap.size + 2) (.slice (some ⟨g, 0, none⟩) n c1) (L.set k (N, f.2))) ∧ Hid (Below (w.heap.size + 2) W0 wx)
theorem LtrRow.drew {w W0 : World} {P g k c1 n : Nat} {bd : ByteArray} {f : F} {L : List F} {N : List UInt8} {wx : World} (h : LtrRow w W0 P g k c1 n bd f L N wx) : LtrRow w W0 P g k c1 n bd f L N wx.drew := by
  obtain ⟨h1, h2, h3, h4, h5, h6, h7⟩ := h; exact ⟨h1, h2, h3, h4, h5, h6, h7.out.drew⟩
def LtrR (w : World) (x y : Adr) (tx : List UInt8) (e : Ending) (w' : World) : Prop :=
  e = .returned (.tuple #[.agg #[.string (S x.1), .string (S x.2), .string (S y.1), .string (S y.2), .string (S tx)], .bool true]) ∧ Below w.heap.size w w'
set_option maxHeartbeats 2000000 in
set_option maxRecDepth 100000 in
theorem jf9 (fl fd fg tl td tg : ByteArray) (a : Option Addr) (c : Nat) (fs : List F) (body : ByteArray) (w : World) (hF : FieldsAt w a fs) (hl : fs.length ≤ maxLen) (hb : ∀ f ∈ fs, f.1.length ≤ maxLen ∧ f.2.length ≤ maxLen) (hbody : body.size ≤ maxLen) (h1 : fl.size ≤ maxLen) (h2 : fd.size ≤ maxLen) (h3 : tl.size ≤ maxLen) (h4 : td.size ≤ maxLen) (hm : maxLenCell w) (hlen : ∀ f ∈ msgK fs 6, f.2.length ≤ 40)
    (M : List F) (hM : M = (msgK fs 6).map ltrF) (bd : ByteArray) (hbd : bd = cutB (cutB body 100) 200) (hmild : Mild M bd) (hfault : zV M bd.data.toList = 0) (hsz : 2 ≤ (vT M bd.data.toList).length ∧ (vT M bd.data.toList).length ≤ 2000) :
    Calls Tryz.prog 5 #[.agg #[.string fl, .string fd, .string fg, .string tl, .string td, .string tg, .slice a fs.length c, .string body]] w (LtrR w (jaC fl.data.toList fd.data.toList) (jaC tl.data.toList td.data.toList) (vT M bd.data.toList)) := by
  have HF := hid hF; have HL := hid hl; have HB := hid hb; have HY := hid hbody; have H1 := hid h1; have H2 := hid h2; have H3 := hid h3; have H4 := hid h4; have HMC := hid hm; have HLN := hid hlen; have HMI := hid hmild; have HFT := hid hfault; have HSZ := hid hsz; have HME := hid hM; have HBE := hid hbd; have HC100 := hid (show (cutB body 100).size ≤ maxLen by rw [jbA]; unfold maxLen; omega); clear hF hl hb hbody h1 h2 h3 h4 hm hlen hmild hfault hsz hM hbd; obtain ⟨W0, hW0⟩ : ∃ W0, W0 = (w.alloc (.cells #[.string fl, .string fd, .string fg, .string tl, .string td, .string tg, .slice a fs.length c, .string body] 26)).alloc (.cells #[.string ⟨#[]⟩, .string ⟨#[]⟩, .string ⟨#[]⟩, .string ⟨#[]⟩, .string ⟨#[]⟩] 31) := ⟨_, rfl⟩; have HWE := hid hW0; have HB0 := hid (show Below w.heap.size w W0 by rw [hW0]; exact ((Below.refl _ _).alloc (Nat.le_refl _) _).alloc (by simp) _); have HZ0 := hid (show W0.heap.size = w.heap.size + 2 by rw [hW0]; simp); have hP : W0.heap[w.heap.size]? = some (.cells #[.string fl, .string fd, .string fg, .string tl, .string td, .string tg, .slice a fs.length c, .string body] 26) := by
    rw [hW0]; have := heap_alloc_new w (.cells #[.string fl, .string fd, .string fg, .string tl, .string td, .string tg, .slice a fs.length c, .string body] 26)
    show (Array.push _ _)[_]? = _
    rw [Array.getElem?_push_lt (by simp), ← Array.getElem?_eq_getElem (by simp)]; exact this
  have HP0 := hid hP; have HR0 := hid (show W0.heap[w.heap.size + 1]? = some (.cells #[.string ⟨#[]⟩, .string ⟨#[]⟩, .string ⟨#[]⟩, .string ⟨#[]⟩, .string ⟨#[]⟩] 31) by
    rw [hW0]; have := heap_alloc_new (w.alloc (.cells #[.string fl, .string fd, .string fg, .string tl, .string td, .string tg, .slice a fs.length c, .string body] 26)) (.cells #[.string ⟨#[]⟩, .string ⟨#[]⟩, .string ⟨#[]⟩, .string ⟨#[]⟩, .string ⟨#[]⟩] 31)
    simpa using this)
  have p6 : W0.cell? ⟨w.heap.size, 6, none⟩ = some (.slice a fs.length c) := by simp [World.cell?, hP]
  have p7 : W0.cell? ⟨w.heap.size, 7, none⟩ = some (.string body) := by simp [World.cell?, hP]
  clear hW0 hP; have HBX := hid (show Below w.heap.size w (W0.alloc (.cells #[.slice none 0 0, .string ⟨#[]⟩] 65)).drew from (HB0.out.alloc HB0.out.size _).drew); have p6a := qm p6 (.cells #[.slice none 0 0, .string ⟨#[]⟩] 65); have p7a := qm p7 (.cells #[.slice none 0 0, .string ⟨#[]⟩] 65); have HA0 := hid (show (W0.alloc (.cells #[.slice none 0 0, .string ⟨#[]⟩] 65)).drew.cell? ⟨W0.heap.size, 0, none⟩ = some (.slice none 0 0) by simp); have HA1 := hid (show (W0.alloc (.cells #[.slice none 0 0, .string ⟨#[]⟩] 65)).drew.cell? ⟨W0.heap.size, 1, none⟩ = some (.string ⟨#[]⟩) by simp); have HAF := hid (show ∀ j, (W0.alloc (.cells #[.slice none 0 0, .string ⟨#[]⟩] 65)).drew.frozen? ⟨W0.heap.size, j, none⟩ = false by intro j; simp); go_enter Tryz.func5, Tryz.ntmps5; go_wp2; rw [← HWE.out]
  go_cut [4] (fun p wx => jgO w W0 (msgK fs 6) bd p wx)
  case first =>
    go_region_law
      (first
        | (go_simp
           go_at_call 16
           refine (jeb body 100 _ HY.out (by omega)).mono ?_; rintro e u ⟨rfl, hu⟩; have hu' := hu.symm; subst hu')
        | (go_simp
           go_at_call 15
           refine (jaZ a c fs (cutB body 100) W0.drew (HF.out.below HB0.out.drew) HL.out HB.out HC100.out).mono ?_; rintro e w1 ⟨a1, c1, rfl, hF1, hO1, hb1⟩)
        | (go_simp
           go_at_call 15
           refine (jaZ a c fs (cutB body 100) (W0.alloc (.cells #[.slice none 0 0, .string ⟨#[]⟩] 65)).drew (HF.out.below HBX.out) HL.out HB.out HC100.out).mono ?_; rintro e w1 ⟨a1, c1, rfl, hF1, hO1, hb1⟩; have s0 := jH HA0.out hb1; have s1 := jH HA1.out hb1; have t0 := (hb1.frozen (p := ⟨W0.heap.size, 0, none⟩) (by simp)).trans (HAF.out 0); have t1 := (hb1.frozen (p := ⟨W0.heap.size, 1, none⟩) (by simp)).trans (HAF.out 1)))
    all_goals
      have HB1 := hid hb1; have HO1 := hid hO1; clear hb1 hO1 hF1
      first
        | (have HBA := hid (show Below (W0.heap.size + 1) (W0.alloc (.cells #[.slice none 0 0, .string ⟨#[]⟩] 65)).drew w1 from HB1.out.mono (by simp))
           have HOA := hid (show OwnF w1 (W0.heap.size + 1) _ _ from jhy HO1.out (by simp)); have HEnd := hid (show jgO w W0 (msgK fs 6) bd (.pointer (some ⟨W0.heap.size, 0, none⟩)) ((w1.setCell ⟨W0.heap.size, 0, none⟩ (.slice a1 (msgK fs 6).length c1)).setCell ⟨W0.heap.size, 1, none⟩ (.string (cutB (cutB body 100) 200))) from by
             have hz := HZ0.out; refine ⟨W0.heap.size, a1, c1, rfl, by omega, ?_, ?_, ?_, ?_, ?_⟩
             · exact (World.cell?_setCell_other _ _ _ _ (by simp)).trans (World.cell?_setCell_same' w1 _ _ (by rw [s0]; rfl))
             · rw [HBE.out]; exact World.cell?_setCell_same' _ _ _ (by rw [World.cell?_setCell_other _ _ _ _ (by simp), s1]; rfl)
             · exact jhy ((HOA.out.far (by simp) _).far (by simp) _) (by omega)
             · intro g o q e; have := (jh4 HOA.out g o q e).1; omega
             · exact (((((Below.refl (w.heap.size + 2) W0).alloc (by omega) _).drew).trans (HBA.out.mono (by omega))).setCell (by simp; omega) _).setCell (by simp; omega) _)
           go_wp2_with fail
           go_meet
           exact HEnd.out)
        | (have HEnd := hid (show jgO w W0 (msgK fs 6) bd (.pointer (some ⟨w1.heap.size, 0, none⟩)) (w1.alloc (.cells #[.slice a1 (msgK fs 6).length c1, .string (cutB (cutB body 100) 200)] 65)) from by
             have hz := HZ0.out; have hs := HB1.out.size; have hs' : W0.heap.size ≤ w1.heap.size := hs; refine ⟨w1.heap.size, a1, c1, rfl, by omega, by simp, by rw [HBE.out]; simp, jhy (World.ownsRow.alloc HO1.out _) (by simp; omega), ?_, ?_⟩
             · intro g o q e; have := (jh4 HO1.out g o q e).2; omega
             · exact ((((Below.refl (w.heap.size + 2) W0).drew).trans (HB1.out.mono (by simp; omega)))).alloc (by omega) _)
           go_wp2_with fail
           go_meet
           exact HEnd.out)
  case rest =>
    obtain ⟨P, a1, c1, rfl, hPl, q0, q1, hO, hne, hBW⟩ := hcut; have HO := hid hO; have HNE := hid hne; have HBW := hid hBW; obtain ⟨M0, hM0⟩ : ∃ M0, M0 = msgK fs 6 := ⟨_, rfl⟩; rw [← hM0] at HO q0 HME HLN; have hl6 : M0.length ≤ 6 := by rw [hM0]; simp [msgK]; omega
    clear hO hne hBW hM0 p6 p7 p6a p7a; go_wp2
    go_loopw [5] (fun i wr => ∃ k : Nat, k ≤ M0.length ∧ i = .int .i64 k ∧ wr.cell? ⟨P, 0, none⟩ = some (.slice a1 M0.length c1) ∧ wr.cell? ⟨P, 1, none⟩ = some (.string bd) ∧ Hid (OwnF wr (w.heap.size + 2) (.slice a1 M0.length c1) (qL M0 k)) ∧ Hid (Below (w.heap.size + 2) W0 wr)) (fun i _ => M0.length - (intOf i).toNat)
    case atStart => exact ⟨0, Nat.zero_le _, rfl, q0, q1, by simpa [qL] using HO, HBW⟩
    case round =>
      obtain ⟨k, hk, rfl, v0, v1, HOk, HBk⟩ := hrel
      by_cases hlt : k < M0.length
      · obtain ⟨f, hf⟩ : ∃ f, M0[k]? = some f := ⟨_, List.getElem?_eq_getElem hlt⟩; have hf40 := HLN.out f (List.mem_of_getElem? hf); have hg := jhF hf; have hO3 : OwnF wr (w.heap.size + 2) (.slice a1 (qL M0 k).length c1) (qL M0 k) := by rw [zH]; exact HOk.out
        obtain ⟨g, off, rfl, hgl, r1, r2⟩ := (OwnF.fields hO3) k f hg; obtain ⟨g', cap', e, hBg, _⟩ := hO3.form (by rintro e0; rw [e0] at hg; simp at hg); simp only [Value.slice.injEq, Option.some.injEq, Addr.mk.injEq, and_true] at e; obtain ⟨⟨rfl, rfl⟩, -, rfl⟩ := e; rw [Nat.zero_add] at r1 r2; have hgP : g ≠ P := HNE.out g 0 none rfl; have hPg : P ≠ g := fun e => hgP e.symm
        have hz2 := HBk.out.size; have HPK := hid (show jR ((S f.2).size : Int) 5 = f.2.length % 5 by rw [jt]; unfold jR; rw [if_neg (by omega)]; omega); have z0 := (World.ownsRow.frozenAt hO3 (k * 2)); have z1 := (World.ownsRow.frozenAt hO3 (k * 2 + 1)); have i1 : (k : Int) < (M0.length : Int) := by omega
        have i0 : (0 : Int) ≤ (k : Int) := by omega
        have HWF := hid (show (Lit.int .i64 ((S f.2).size : Int)).wf = true from WalkArith.wf_i64 (by rw [jt]; omega)); obtain ⟨N, hN⟩ : ∃ N, N = qY f.2.length := ⟨_, rfl⟩; have HN := hid hN; have HST := hid (show LtrRow w W0 P g k c1 M0.length bd f (qL M0 k) N ((wr.setCell ⟨g, k * 2, none⟩ (.string (S N))).alloc (.cells #[.string ⟨#[83, 117, 98, 106, 101, 99, 116]⟩, .string ⟨#[116, 111]⟩, .string ⟨#[70, 114, 111, 109]⟩, .string ⟨#[99, 99]⟩, .string ⟨#[88]⟩] 9)) from by
          have hPs : P < wr.heap.size := World.block_lt_of_cell? wr _ v0; have hsz : (wr.setCell ⟨g, k * 2, none⟩ (.string (S N))).heap.size = wr.heap.size := by simp
          have old : ∀ (b j : Nat), b < wr.heap.size → ((wr.setCell ⟨g, k * 2, none⟩ (.string (S N))).alloc (.cells #[.string ⟨#[83, 117, 98, 106, 101, 99, 116]⟩, .string ⟨#[116, 111]⟩, .string ⟨#[70, 114, 111, 109]⟩, .string ⟨#[99, 99]⟩, .string ⟨#[88]⟩] 9)).cell? ⟨b, j, none⟩ = (wr.setCell ⟨g, k * 2, none⟩ (.string (S N))).cell? ⟨b, j, none⟩ := fun b j hb =>
            ((Below.refl _ (wr.setCell ⟨g, k * 2, none⟩ (.string (S N)))).alloc (Nat.le_refl _) _).cell (p := ⟨b, j, none⟩) (by rw [hsz]; exact hb)
          have far : ∀ (b j : Nat), b < wr.heap.size → (b ≠ g ∨ j ≠ k * 2) → ((wr.setCell ⟨g, k * 2, none⟩ (.string (S N))).alloc (.cells #[.string ⟨#[83, 117, 98, 106, 101, 99, 116]⟩, .string ⟨#[116, 111]⟩, .string ⟨#[70, 114, 111, 109]⟩, .string ⟨#[99, 99]⟩, .string ⟨#[88]⟩] 9)).cell? ⟨b, j, none⟩ = wr.cell? ⟨b, j, none⟩ := fun b j hb hne => by
            rw [old b j hb, World.cell?_setCell_other _ _ _ _ (by intro e; cases e; omega)]
          refine ⟨(far P 0 hPs (.inl hPg)).trans v0, (far P 1 hPs (.inl hPg)).trans v1, ?_, (far g (k * 2 + 1) hgl (.inr (by omega))).trans r2, ?_, ?_, ?_⟩
          · rw [old g (k * 2) hgl]; exact World.cell?_setCell_same' _ _ _ (by rw [r1]; rfl)
          · have h := ((Below.refl _ (wr.setCell ⟨g, k * 2, none⟩ (.string (S N)))).alloc (Nat.le_refl _) (.cells #[.string ⟨#[83, 117, 98, 106, 101, 99, 116]⟩, .string ⟨#[116, 111]⟩, .string ⟨#[70, 114, 111, 109]⟩, .string ⟨#[99, 99]⟩, .string ⟨#[88]⟩] 9)).frozen (p := ⟨g, k * 2 + 1, none⟩) (by rw [hsz]; exact hgl); refine h.trans ?_
            simpa using z1
          · have := World.ownsRow.alloc (jc1 hO3 (k * 2) (.string (S N))) (.cells #[.string ⟨#[83, 117, 98, 106, 101, 99, 116]⟩, .string ⟨#[116, 111]⟩, .string ⟨#[70, 114, 111, 109]⟩, .string ⟨#[99, 99]⟩, .string ⟨#[88]⟩] 9); rw [jd8 hg] at this; unfold Hid OwnF; rw [zH] at this; rw [List.length_set, zH]; exact this
          · exact (HBk.out.setCell (by simp; omega) _).alloc (by rw [hsz]; have := HBk.out.size; have := HZ0.out; omega) _)
        have v0a := qm v0 (.cells #[.string ⟨#[83, 117, 98, 106, 101, 99, 116]⟩, .string ⟨#[116, 111]⟩, .string ⟨#[70, 114, 111, 109]⟩, .string ⟨#[99, 99]⟩, .string ⟨#[88]⟩] 9); have r1a := qm r1 (.cells #[.string ⟨#[83, 117, 98, 106, 101, 99, 116]⟩, .string ⟨#[116, 111]⟩, .string ⟨#[70, 114, 111, 109]⟩, .string ⟨#[99, 99]⟩, .string ⟨#[88]⟩] 9); have r2a := qm r2 (.cells #[.string ⟨#[83, 117, 98, 106, 101, 99, 116]⟩, .string ⟨#[116, 111]⟩, .string ⟨#[70, 114, 111, 109]⟩, .string ⟨#[99, 99]⟩, .string ⟨#[88]⟩] 9); have z0a : (wr.alloc (.cells #[.string ⟨#[83, 117, 98, 106, 101, 99, 116]⟩, .string ⟨#[116, 111]⟩, .string ⟨#[70, 114, 111, 109]⟩, .string ⟨#[99, 99]⟩, .string ⟨#[88]⟩] 9)).frozen? ⟨g, k * 2, none⟩ = false := (((Below.refl wr.heap.size wr).alloc (Nat.le_refl _) (.cells #[.string ⟨#[83, 117, 98, 106, 101, 99, 116]⟩, .string ⟨#[116, 111]⟩, .string ⟨#[70, 114, 111, 109]⟩, .string ⟨#[99, 99]⟩, .string ⟨#[88]⟩] 9)).frozen (p := ⟨g, k * 2, none⟩) hgl).trans z0; have hgw : g ≠ wr.heap.size := by omega
        have HK := hid hf; have HG := hid hg; clear hf hg hO3 hN; go_wp2
        go_cut [34] (fun x wx => LtrRow w W0 P g k c1 M0.length bd f (qL M0 k) N wx)
        case first =>
          have hq5 : f.2.length % 5 < 5 := Nat.mod_lt _ (by omega); have hat := jmm (n := f.2.length); rw [← HN.out] at hat; generalize f.2.length % 5 = q at *; have hq1 : (q : Int) < 5 := by omega
          have hq0 : (0 : Int) ≤ (q : Int) := by omega
          go_region_law
            (go_simp
             go_at_call 12
             refine (jm ((S f.2).size : Int) 5 _ HWF.out (by omega) (by omega)).mono ?_; rw [HPK.out]; rintro e u ⟨rfl, hu⟩; have hu' := hu.symm; subst hu')
          all_goals
            go_wp2_with fail
            go_meet
            first
              | exact HST.out
              | exact LtrRow.drew HST.out
        case rest =>
          obtain ⟨e0, e1, e2, e3, e4, HOn, HBn⟩ := hcut; clear v0a r1a r2a z0a z0 z1 r1 r2 v0 v1 HST; have hn0 : (0 : Int) ≤ ((S f.2).size : Int) := by omega
          by_cases h5 : f.2.length % 5 = 1
          · have hN : N = toL := by rw [HN.out]; unfold qY; simp [h5]
            have hT : ((S N).toList == [116, 111]) = true := by rw [hN, Lib.toList_data, jp]; rfl
            by_cases h2 : f.2.length % 2 = 1
            · have hp : (((S f.2).size : Int) % 2 == 1) = true := by rw [jt]; simp; omega
              have HE := hid (show OwnF (wc.setCell ⟨g, k * 2 + 1, none⟩ (.string ⟨#[65, 110, 110, 32, 60, 97, 110, 110, 64, 120, 46, 121, 62, 44, 32, 98, 64, 99]⟩)) (w.heap.size + 2) (.slice (some ⟨g, 0, none⟩) M0.length c1) (qL M0 (k + 1)) from by
                have hs : ((qL M0 k).set k (N, f.2))[k]? = some (N, f.2) := by
                  rw [List.getElem?_set_self (by rw [zH]; exact hlt)]
                have ho := HOn.out; unfold OwnF at ho; have hl : ((qL M0 k).set k (N, f.2)).length = M0.length := by rw [List.length_set, zH]
                rw [hl] at ho; have := jc1 ho (k * 2 + 1) (.string (S annL)); rw [jaD hs, List.set_set] at this; have e : (N, annL) = ltrF f := by unfold ltrF; rw [← HN.out, if_pos ⟨h5, h2⟩]
                simp only [e] at this; rw [jaM HK.out] at this; unfold OwnF; rw [zH]; exact this)
              have HF' := hid (show Below (w.heap.size + 2) W0 (wc.setCell ⟨g, k * 2 + 1, none⟩ (.string ⟨#[65, 110, 110, 32, 60, 97, 110, 110, 64, 120, 46, 121, 62, 44, 32, 98, 64, 99]⟩)) from HBn.out.setCell (show w.heap.size + 2 ≤ g by omega) _); have HC0 := hid (show (wc.setCell ⟨g, k * 2 + 1, none⟩ (.string ⟨#[65, 110, 110, 32, 60, 97, 110, 110, 64, 120, 46, 121, 62, 44, 32, 98, 64, 99]⟩)).cell? ⟨P, 0, none⟩ = some (.slice (some ⟨g, 0, none⟩) M0.length c1) from (World.cell?_setCell_other _ _ _ _ (fun e => hgP (congrArg Addr.block e))).trans e0); have HC1 := hid (show (wc.setCell ⟨g, k * 2 + 1, none⟩ (.string ⟨#[65, 110, 110, 32, 60, 97, 110, 110, 64, 120, 46, 121, 62, 44, 32, 98, 64, 99]⟩)).cell? ⟨P, 1, none⟩ = some (.string bd) from (World.cell?_setCell_other _ _ _ _ (fun e => hgP (congrArg Addr.block e))).trans e1); clear h5 h2 hN; go_wp2
              go_roundw
              case rel => exact ⟨k + 1, by omega, by go_num, HC0.out, HC1.out, HE, HF'⟩
              case measure => simp [intOf]; omega
            · have hp : (((S f.2).size : Int) % 2 == 1) = false := by rw [jt]; simp; omega
              have HE := hid (show OwnF wc (w.heap.size + 2) (.slice (some ⟨g, 0, none⟩) M0.length c1) (qL M0 (k + 1)) from by
                have ho := HOn.out; have e : (N, f.2) = ltrF f := by unfold ltrF; rw [← HN.out, if_neg (fun h => h2 h.2)]
                rw [e, jaM HK.out] at ho; exact ho)
              clear h5 h2 hN; go_wp2
              go_roundw
              case rel => exact ⟨k + 1, by omega, by go_num, e0, e1, HE, HBn⟩
              case measure => simp [intOf]; omega
          · have hT : ((S N).toList == [116, 111]) = false := by
              rw [Lib.toList_data, jp, HN.out]; have h : f.2.length % 5 < 5 := Nat.mod_lt _ (by omega); unfold qY; generalize f.2.length % 5 = q at *
              match q, h with
              | 0, _ => rfl
              | 1, _ => exact absurd rfl h5
              | 2, _ => rfl
              | 3, _ => rfl
              | 4, _ => rfl
            have HE := hid (show OwnF wc (w.heap.size + 2) (.slice (some ⟨g, 0, none⟩) M0.length c1) (qL M0 (k + 1)) from by
              have ho := HOn.out; have e : (N, f.2) = ltrF f := by unfold ltrF; rw [← HN.out, if_neg (fun h => h5 h.1)]
              rw [e, jaM HK.out] at ho; exact ho)
            clear h5; go_wp2
            go_roundw
            case rel => exact ⟨k + 1, by omega, by go_num, e0, e1, HE, HBn⟩
            case measure => simp [intOf]; omega
      · have HT := hid (show qL M0 k = M by
          rw [HME.out]; unfold qL; rw [List.take_of_length_le (by omega), List.drop_of_length_le (by omega)]; simp)
        have hlM : M.length = M0.length := by rw [HME.out]; simp
        have HFm := hid (show FieldsAt wr a1 M by
          have := HOk.out; rw [HT.out, ← hlM] at this; exact OwnF.fields this)
        have HBw := hid (show Below w.heap.size w wr from HB0.out.trans (HBk.out.mono (by omega))); have HSH := hid (show Calls Tryz.prog 17 #[.agg #[.slice a1 M0.length c1, .string bd]] wr fun e w' => e = .returned (.tuple #[.string (S (vT M bd.data.toList)), .int .i64 0]) ∧ Below wr.heap.size wr w' by
          have := jlL a1 c1 M bd wr HFm.out HMI.out (maxLenCell_below HMC.out HBw.out) HFT.out; rw [hlM] at this; exact this)
        have HPk := hid (show wr.heap[w.heap.size]? = some (.cells #[.string fl, .string fd, .string fg, .string tl, .string td, .string tg, .slice a fs.length c, .string body] 26) from (HBk.out.block w.heap.size (by omega)).trans HP0.out); have HRk := hid (show wr.heap[w.heap.size + 1]? = some (.cells #[.string ⟨#[]⟩, .string ⟨#[]⟩, .string ⟨#[]⟩, .string ⟨#[]⟩, .string ⟨#[]⟩] 31) from (HBk.out.block (w.heap.size + 1) (by omega)).trans HR0.out); clear hlM; go_wp2_with fail; refine HSH.out.mono ?_; rintro e w2 ⟨rfl, hb2⟩; obtain ⟨T, hT⟩ : ∃ T, T = vT M bd.data.toList := ⟨_, rfl⟩; rw [← hT] at HSZ ⊢; have hT2 : (2 : Int) ≤ ((S T).size : Int) := by rw [jt]; have := HSZ.out.1; omega
        have HTE := hid hT; clear hT HSH; have HB2 := hid (HBw.out.trans (hb2.mono HBw.out.size)); have hP2 := (hb2.block w.heap.size (Array.getElem?_eq_some_iff.1 HPk.out).1).trans HPk.out; have hR2 := (hb2.block (w.heap.size + 1) (Array.getElem?_eq_some_iff.1 HRk.out).1).trans HRk.out; have hz : w.heap.size + 1 < w2.heap.size := (Array.getElem?_eq_some_iff.1 hR2).1; have c0 : w2.drew.cell? ⟨w.heap.size, 0, none⟩ = some (.string fl) := by show w2.cell? _ = _; simp [World.cell?, hP2]
        have c1' : w2.drew.cell? ⟨w.heap.size, 1, none⟩ = some (.string fd) := by show w2.cell? _ = _; simp [World.cell?, hP2]
        have c2 : w2.drew.cell? ⟨w.heap.size, 2, none⟩ = some (.string fg) := by show w2.cell? _ = _; simp [World.cell?, hP2]
        have c3 : w2.drew.cell? ⟨w.heap.size, 3, none⟩ = some (.string tl) := by show w2.cell? _ = _; simp [World.cell?, hP2]
        have c4 : w2.drew.cell? ⟨w.heap.size, 4, none⟩ = some (.string td) := by show w2.cell? _ = _; simp [World.cell?, hP2]
        have c5 : w2.drew.cell? ⟨w.heap.size, 5, none⟩ = some (.string tg) := by show w2.cell? _ = _; simp [World.cell?, hP2]
        have HRB := hid hR2; obtain ⟨X, hX⟩ : ∃ X, X = jaC fl.data.toList fd.data.toList := ⟨_, rfl⟩; obtain ⟨Y, hY⟩ : ∃ Y, Y = jaC tl.data.toList td.data.toList := ⟨_, rfl⟩; have HX := hid hX; have HYY := hid hY; rw [← hX, ← hY]; clear hb2 hP2 hR2 hX hY hlt v0 v1 hk; have hne : w.heap.size ≠ w.heap.size + 1 := by omega
        have hne' : w.heap.size + 1 ≠ w.heap.size := by omega
        go_wp2
        go_region_held3 (fun w' => w'.cell? ⟨w.heap.size, 0, none⟩ = some (.string fl) ∧ w'.cell? ⟨w.heap.size, 1, none⟩ = some (.string fd) ∧ w'.cell? ⟨w.heap.size, 2, none⟩ = some (.string fg) ∧ w'.cell? ⟨w.heap.size, 3, none⟩ = some (.string tl) ∧ w'.cell? ⟨w.heap.size, 4, none⟩ = some (.string td) ∧ w'.cell? ⟨w.heap.size, 5, none⟩ = some (.string tg)) (go_keep)
          (first
             | (go_at_call_of 18 (Value.agg #[.string fl, .string fd, .string fg])
                refine (jbm fl fd fg _ H1.out H2.out).mono ?_; rintro e w3 ⟨rfl, hb3⟩; rw [← HX.out]; have d0 := jb (w := w2.drew) c0 hb3; have d1 := jb (w := w2.drew) c1' hb3; have d2 := jb (w := w2.drew) c2 hb3; have d3 := jb (w := w2.drew) c3 hb3; have d4 := jb (w := w2.drew) c4 hb3; have d5 := jb (w := w2.drew) c5 hb3)
             | (go_at_call_of 18 (Value.agg #[.string tl, .string td, .string tg])
                refine (jbm tl td tg _ H3.out H4.out).mono ?_; rintro e w4 ⟨rfl, hb4⟩; rw [← HYY.out]; have i0 := jb d0 hb4; have i1 := jb d1 hb4; have i2 := jb d2 hb4; have i3 := jb d3 hb4; have i4 := jb d4 hb4; have i5 := jb d5 hb4; have HB4 := hid (HB2.out.drew.trans ((hb3.trans (hb4.mono hb3.size)).mono HB2.out.size)); have hR4 := ((hb3.trans (hb4.mono hb3.size)).block (w.heap.size + 1) hz).trans HRB.out; obtain ⟨o0, o1, o2, o3, o4⟩ := bx5 hR4; obtain ⟨k0, k1, k2, k3, k4⟩ := bz5 hR4; clear hR4))
        have HE := hid (show Below w.heap.size w (((((w4.setCell ⟨w.heap.size + 1, 0, none⟩ (.string (S X.1))).setCell ⟨w.heap.size + 1, 1, none⟩ (.string (S X.2))).setCell ⟨w.heap.size + 1, 2, none⟩ (.string (S Y.1))).setCell ⟨w.heap.size + 1, 3, none⟩ (.string (S Y.2))).setCell ⟨w.heap.size + 1, 4, none⟩ (.string (S T))) from
          ((((HB4.out.setCell (by simp) _).setCell (by simp) _).setCell (by simp) _).setCell (by simp) _).setCell (by simp) _)
        go_wp2; refine bodyPost_ret (v := .tuple #[.agg #[.string (S X.1), .string (S X.2), .string (S Y.1), .string (S Y.2), .string (S T)], .bool true]) (by simp [results, Tryz.results5, go_sem, o0, o1, o2, o3, o4]) rfl ?_; exact ⟨by rw [← HX.out, ← HYY.out, ← HTE.out], HE.out⟩
end Go.Proofs.YtaapmpchcfcniaaGreatDoor
