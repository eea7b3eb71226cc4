/-
  What the laws' maker of a message does: the walk.
-/
import Derived.Test.YtgfbdgheencmaaaGreatDoorXKeepWord
import Derived.Test.YtgfbdgheencmaaaGreatDoorXCut
import Derived.Lib.OthersKept
import Derived.Deep.SlicePairs
import Derived.Lib.SmallJoins
set_option maxHeartbeats 8000000
set_option maxRecDepth 100000
namespace Go.Proofs.YtgfbdgheencmaaaGreatDoor
open Go.RowKit
def mkF (f : F) : F := (zU f.1, valL f.2)
def msgK (fs : List F) (k : Nat) : List F := (fs.take k).map mkF
theorem jgr {fs : List F} {k : Nat} (hk : k ≤ fs.length) : (msgK fs k).length = k := by simp [msgK]; omega
theorem jjF {fs : List F} {k : Nat} {f : F} (h : fs[k]? = some f) : msgK fs (k + 1) = msgK fs k ++ [mkF f] := by
 unfold msgK; rw [qh h, List.map_append]; rfl
theorem jmn {B : Nat} {w0 w1 w2 w3 : World} {o : Obj} {row : Option Nat} (h1 : Below w0.heap.size w0 w1) (h2 : Below w1.heap.size w1 w2) (hg : (w2.alloc o).grownBy w3 row) (hB : B ≤ w0.heap.size) (hr : ∀ k, row = some k → B ≤ k) : Below B w0 w3 := by
 have s1 := h1.size; have s2 := h2.size; exact (((h1.mono hB).trans (h2.mono (by omega))).alloc (by omega) o).grown hg (by simp; omega) hr
theorem jmo {w0 w1 w2 : World} {o : Obj} {base : Nat} {e : TypeId} {size : Nat} {v : Value} {n : Nat} {xs : List Value} (h : w0.ownsRow base e size v n xs) (h1 : Below w0.heap.size w0 w1) (h2 : Below w1.heap.size w1 w2) : (w2.alloc o).ownsRow base e size v n xs :=
 World.ownsRow.alloc (jck (jck h h1) h2) o
theorem jmp {w0 w1 w2 : World} {o : Obj} {B : Nat} (hB : B ≤ w0.heap.size) (h1 : Below w0.heap.size w0 w1) (h2 : Below w1.heap.size w1 w2) : B ≤ (w2.alloc o).heap.size := by
 have s1 := h1.size; have s2 := h2.size
 simp; omega
theorem jbo (a : Option Addr) (c : Nat) (fs : List F) (body : ByteArray) (w : World) (hF : FieldsAt w a fs) (hl : fs.length ≤ maxLen) (hb : ∀ f ∈ fs, f.1.length ≤ maxLen ∧ f.2.length ≤ maxLen) (hbody : body.size ≤ maxLen) :
 Calls Tryz.prog 13 #[.slice a fs.length c, .string body] w fun e w' => ∃ a' c', e = .returned (.agg #[.slice a' (msgK fs 6).length c', .string (cutB body 200)]) ∧ FieldsAt w' a' (msgK fs 6) ∧ OwnF w' (w.heap.size + 2) (.slice a' (msgK fs 6).length c') (msgK fs 6) ∧ Below w.heap.size w w' := by
 obtain ⟨i0, hi, hz0, hz1, hz2⟩ := info_parts jex; have hl' := hl; unfold maxLen at hl'; have HL : Hid _ := hl; have HB : Hid _ := hb; have HY : Hid _ := hbody; clear hl hb hbody; go_enter Tryz.func13, Tryz.ntmps13; go_wp2
 go_loopw [6] (fun i wr => ∃ (k : Nat) (a0 : Option Addr) (c0 : Nat), k ≤ fs.length ∧ k ≤ 6 ∧ i = .int .i64 k ∧ wr.cell? ⟨w.heap.size + 1, 0, none⟩ = some (.slice a0 k c0) ∧ OwnF wr (w.heap.size + 2) (.slice a0 k c0) (msgK fs k) ∧
  wr.cell? ⟨w.heap.size + 1, 1, none⟩ = some (.string ⟨#[]⟩) ∧ wr.cell? ⟨w.heap.size, 0, none⟩ = some (.slice none 0 0) ∧ wr.cell? ⟨w.heap.size, 1, none⟩ = some (.string ⟨#[]⟩) ∧
  (∀ o, wr.frozen? ⟨w.heap.size + 1, o, none⟩ = false) ∧ (∀ o, wr.frozen? ⟨w.heap.size, o, none⟩ = false) ∧ Below w.heap.size w wr ∧ w.heap.size + 2 ≤ wr.heap.size) (fun i _ => 6 - (intOf i).toNat)
 case atStart => exact ⟨0, none, 0, Nat.zero_le _, Nat.zero_le _, rfl, by simp, OwnF.nil _ _, by simp, by simp, by simp, by intro o; simp, by intro o; simp, (nb0 _ _).alloc (by simp) _, by simp⟩
 case round =>
  obtain ⟨k, a0, c0, hk, hk6, rfl, m0, hO, m1, r0, r1, z1, z2, hBw, hsz⟩ := hrel
  by_cases hlt : k < fs.length ∧ k < 6
  · obtain ⟨hl1, hl2⟩ := hlt; obtain ⟨f, hf⟩ : ∃ f, fs[k]? = some f := ⟨_, List.getElem?_eq_getElem hl1⟩; obtain ⟨b, off, rfl, hbl, h1, h2⟩ := (hF.below hBw) k f hf; have hbl0 : b < w.heap.size := by
        obtain ⟨b', off', e, hb', _⟩ := hF k f hf; simp only [Option.some.injEq, Addr.mk.injEq, and_true] at e; omega
    have hfb := HB.out f (List.mem_of_getElem? hf); have HS1 : Hid ((S f.1).size ≤ maxLen) := by unfold Hid; rw [ju]; exact hfb.1
    have HS2 : Hid ((S f.2).size ≤ maxLen) := by unfold Hid; rw [ju]; exact hfb.2
    have HW : Hid (zU (S f.1).data.toList = zU f.1) := by unfold Hid; rw [jt]
    have HV : Hid (valL (S f.2).data.toList = valL f.2) := by unfold Hid; rw [jt]
    have HM : Hid _ := jjF hf; have HK : Hid ((msgK fs k).length = k) := jgr hk; have hO' : World.ownsRow (wr.drew) (w.heap.size + 2) 67 2 (.slice a0 k c0) k (zo (msgK fs k)) := by
        have := hO; unfold OwnF at this; rw [HK.out] at this; exact this
    have hrow : ∀ j, (Value.slice a0 k c0).ownBlock = some j → w.heap.size + 2 ≤ j := fun j hj => (World.ownsRow.lt hO' j hj).1
    have i1 : (0 : Int) ≤ (k : Int) := by omega
    have i2 : (k : Int) < (fs.length : Int) := by omega
    have hszd : w.heap.size + 2 ≤ wr.drew.heap.size := hsz; clear hf hfb hO; go_wp2_with fail; have hne : b ≠ w.heap.size + 1 := by omega
    have hne' : w.heap.size + 1 ≠ b := by omega
    go_region_law
        (first
          | (refine step_append_lies _ (by rfl) _ _ _ (by rfl) (w.heap.size + 2) 67 i0 _ 2 32 Tryz.underlying59 hi hz0 hz1 hz2 rfl (by omega) (.slice a0 k c0) k (zo (msgK fs k)) (by rfl) (by first | exact jmo hO' hbW hbV | exact jmo hO' hbV hbW)
              ⟨_, 0, none⟩ 1 1 [.string (S (zU f.1)), .string (S (valL f.2))] (by rfl) (by rfl) (q9 _ _ _ _) (by simp [Value.oneCell']) (by omega) (by unfold maxLen; omega) (by omega) (by first | exact jmp hszd hbW hbV | exact jmp hszd hbV hbW) _ rfl ?_
             intro g cap w3 hown3 hgrow hat hlt3; obtain ⟨hB3⟩ : Nonempty (PLift (Below (w.heap.size + 2) wr.drew w3)) := by first | exact ⟨⟨jmn hbW hbV hgrow hszd hrow⟩⟩ | exact ⟨⟨jmn hbV hbW hgrow hszd hrow⟩⟩
             have z3 : w3.frozen? ⟨w.heap.size + 1, 0, none⟩ = false := (hB3.down.frozen (by simp)).trans (z1 0); have q3 : w3.cell? ⟨w.heap.size + 1, 0, none⟩ = some (.slice a0 k c0) := (hB3.down.cell (by simp)).trans m0; clear hgrow)
          | (go_simp
             go_at_call 28
             refine (jan _ _ HS1.out).mono ?_; rintro e wW ⟨rfl, hbW⟩; rw [HW.out]; have mW : wW.cell? ⟨w.heap.size + 1, 0, none⟩ = some (.slice a0 k c0) := by first | exact jN mV hbW | exact jN (w := wr.drew) m0 hbW
             have szW : w.heap.size + 1 < wW.heap.size := World.block_lt_of_cell? wW _ mW; have lW : wW.cell? ⟨b, off + k * 2 + 1, none⟩ = some (.string (S f.2)) := by first | exact jN lV' hbW | exact jN (w := wr.drew) h2 hbW)
          | (go_simp
             go_at_call 29
             refine (jky _ _ HS2.out).mono ?_; rintro e wV ⟨rfl, hbV⟩; rw [HV.out]; have mV : wV.cell? ⟨w.heap.size + 1, 0, none⟩ = some (.slice a0 k c0) := by first | exact jN mW hbV | exact jN (w := wr.drew) m0 hbV
             have szV : w.heap.size + 1 < wV.heap.size := World.block_lt_of_cell? wV _ mV; have lV' : wV.cell? ⟨b, off + k * 2 + 1, none⟩ = some (.string (S f.2)) := by first | exact jN lW hbV | exact jN (w := wr.drew) h2 hbV
             have lV : wV.cell? ⟨b, off + k * 2, none⟩ = some (.string (S f.1)) := by first | exact jN (w := wr.drew) h1 hbV | exact jN (jN (w := wr.drew) h1 hbW) hbV))
    all_goals
        have hB4 : Below (w.heap.size + 2) wr w3 := (Below.refl (w.heap.size + 2) wr).drew.trans hB3.down; have y1 : w3.cell? ⟨w.heap.size + 1, 1, none⟩ = some (.string ⟨#[]⟩) := (hB4.cell (by simp)).trans m1; have y2 : w3.cell? ⟨w.heap.size, 0, none⟩ = some (.slice none 0 0) := (hB4.cell (by simp)).trans r0; have y3 : w3.cell? ⟨w.heap.size, 1, none⟩ = some (.string ⟨#[]⟩) := (hB4.cell (by simp)).trans r1; have hsz3 : w.heap.size + 2 ≤ w3.heap.size := Nat.le_trans hsz hB4.size; have hO3 : OwnF (w3.setCell ⟨w.heap.size + 1, 0, none⟩ (.slice (some ⟨g, 0, none⟩) (k + 1) cap)) (w.heap.size + 2) (.slice (some ⟨g, 0, none⟩) (k + 1) cap) (msgK fs (k + 1)) := by
         refine OwnF.far ?_ (by simp) _; unfold OwnF; rw [HM.out, jaH, jcY, List.length_append, HK.out]; exact hown3
        have HO : Hid _ := hO3; have HC0 : Hid ((w3.setCell ⟨w.heap.size + 1, 0, none⟩ (.slice (some ⟨g, 0, none⟩) (k + 1) cap)).cell? ⟨w.heap.size + 1, 0, none⟩ = some (.slice (some ⟨g, 0, none⟩) (k + 1) cap)) := World.cell?_setCell_same' w3 _ _ (by rw [q3]; rfl); have t1 : (w3.setCell ⟨w.heap.size + 1, 0, none⟩ (.slice (some ⟨g, 0, none⟩) (k + 1) cap)).cell? ⟨w.heap.size + 1, 1, none⟩ = some (.string ⟨#[]⟩) := (World.cell?_setCell_other w3 _ _ _ (by simp)).trans y1; have t2 : (w3.setCell ⟨w.heap.size + 1, 0, none⟩ (.slice (some ⟨g, 0, none⟩) (k + 1) cap)).cell? ⟨w.heap.size, 0, none⟩ = some (.slice none 0 0) := (qD (by simp)).trans y2; have t3 : (w3.setCell ⟨w.heap.size + 1, 0, none⟩ (.slice (some ⟨g, 0, none⟩) (k + 1) cap)).cell? ⟨w.heap.size, 1, none⟩ = some (.string ⟨#[]⟩) := (qD (by simp)).trans y3; have t4 : ∀ o, (w3.setCell ⟨w.heap.size + 1, 0, none⟩ (.slice (some ⟨g, 0, none⟩) (k + 1) cap)).frozen? ⟨w.heap.size + 1, o, none⟩ = false := fun o => by
         have := (hB4.frozen (p := ⟨w.heap.size + 1, o, none⟩) (by simp)).trans (z1 o); simpa using this
        have t5 : ∀ o, (w3.setCell ⟨w.heap.size + 1, 0, none⟩ (.slice (some ⟨g, 0, none⟩) (k + 1) cap)).frozen? ⟨w.heap.size, o, none⟩ = false := fun o => by
         have := (hB4.frozen (p := ⟨w.heap.size, o, none⟩) (by simp)).trans (z2 o); simpa using this
        have t6 : Below w.heap.size w (w3.setCell ⟨w.heap.size + 1, 0, none⟩ (.slice (some ⟨g, 0, none⟩) (k + 1) cap)) := (hBw.trans (hB4.mono (by omega))).setCell (by simp) _; have HH : Hid _ := And.intro t1 (And.intro t2 (And.intro t3 (And.intro t4 (And.intro t5 t6)))); clear hO3 hown3 t1 t2 t3 t4 t5 t6 z1 z2; go_wp2
        go_roundw
        case rel => exact ⟨k + 1, some ⟨g, 0, none⟩, cap, by omega, by omega, by go_num, HC0.out, HO.out, HH.out.1, HH.out.2.1, HH.out.2.2.1, HH.out.2.2.2.1, HH.out.2.2.2.2.1, HH.out.2.2.2.2.2, by simpa using hsz3⟩
        case measure => simp [intOf]; omega
  · have HT : Hid (msgK fs k = msgK fs 6) := by
        unfold Hid msgK
        by_cases h6 : k = 6
        · rw [h6]
        · rw [List.take_of_length_le (by omega), List.take_of_length_le (by omega)]
    have HK : Hid ((msgK fs k).length = k) := jgr hk; have hO2 : OwnF wr (w.heap.size + 2) (.slice a0 (msgK fs k).length c0) (msgK fs k) := by rw [HK.out]; exact hO
    by_cases h8 : k < fs.length
    case' pos => have hk8' : ¬ k < 6 := fun h => hlt ⟨h8, h⟩
    all_goals
        clear hlt; go_wp2_with fail; refine (jb4 body 200 _ HY.out (by omega)).mono ?_; rintro e u ⟨rfl, hu⟩; have hu' := hu.symm; subst hu'; have f1 := z1 1; have f2 := z2 0; have f3 := z2 1; have HR : Hid (OwnF (((wr.setCell ⟨w.heap.size + 1, 1, none⟩ (.string (cutB body 200))).setCell ⟨w.heap.size, 0, none⟩ (.slice a0 k c0)).setCell ⟨w.heap.size, 1, none⟩ (.string (cutB body 200))) (w.heap.size + 2) (.slice a0 (msgK fs k).length c0) (msgK fs k)) := ((hO2.far (by simp) _).far (by simp) _).far (by simp) _; clear hO hO2; go_wp2; refine bodyPost_ret (v := .agg #[.slice a0 k c0, .string (cutB body 200)]) (by simp [results, Tryz.results13, go_sem, r0, r1]) rfl ⟨a0, c0, ?_, ?_, ?_, ((hBw.setCell (by simp) _).setCell (by simp) _).setCell (by simp) _⟩
        · rw [← HT.out, HK.out]
        · rw [← HT.out]; exact OwnF.fields HR.out
        · rw [← HT.out]; exact HR.out
theorem jcg (s : ByteArray) (w : World) (hs : s.size < 4294967281) (hm : maxLenCell w) :
 Calls Tryz.prog 58 #[.string s] w fun e w' => e = .returned (.bool (qI s.data.toList)) ∧ Below w.heap.size w w' := by
 cases hE : jL s.data.toList with
 | true =>
   have HV : Hid (qI s.data.toList = false) := by simp [Hid, qI, hE]
   have HE : Hid (Lib.contains s.data.toList [13, 10] = true) := hE; clear hE; go_enter Tryz.func58, Tryz.ntmps58; go_wp2_with fail; refine (contains_any s ⟨#[13, 10]⟩ _ hs hm).mono ?_; rintro e u ⟨rfl, rfl⟩; rw [HE.out]; go_wp2; go_ret; exact ⟨jg HV.out.symm, Below.refl _ _⟩
 | false =>
   have HV : Hid (qI s.data.toList = (vE s.data.toList == s.data.toList)) := by simp [Hid, qI, hE]
   have HE : Hid (Lib.contains s.data.toList [13, 10] = false) := hE; clear hE; go_enter Tryz.func58, Tryz.ntmps58; go_wp2_with fail; refine (contains_any s ⟨#[13, 10]⟩ _ hs hm).mono ?_; rintro e u ⟨rfl, rfl⟩; rw [HE.out]; go_wp2_with fail; refine (trim_any s _ (by omega)).mono ?_; rintro e u2 ⟨rfl, hb⟩; go_wp2; go_ret; exact ⟨jg (by rw [HV.out]; simp only [Lib.toList_data, vE]), hb⟩
theorem ja3 (a : Option Addr) (c : Nat) (fs : List F) (body : ByteArray) (w : World) (hF : FieldsAt w a fs) (hl : fs.length ≤ 1000000) (hbd : body.size + sumF fs ≤ 1000000000000) :
 Calls Tryz.prog 59 #[.agg #[.slice a fs.length c, .string body]] w fun e w' => e = .returned (.int .i64 ((2 + body.size + sumF fs : Nat) : Int)) ∧ Below w.heap.size w w' := by
 have hb0 : body.size ≤ 1000000000000 := by omega
 have HB : Hid _ := hbd; clear hbd; go_enter Tryz.func59, Tryz.ntmps59; go_wp2
 go_loopw [3, 13] (fun n i wr => ∃ k : Nat, k ≤ fs.length ∧ i = .int .i64 k ∧ n = .int .i64 ((2 + body.size + sumF (fs.take k) : Nat) : Int) ∧ Below w.heap.size w wr) (fun _ i _ => fs.length - (intOf i).toNat)
 case atStart => exact ⟨0, Nat.zero_le _, rfl, by simp [sumF], nb0 _ _⟩
 case round =>
  obtain ⟨k, hk, rfl, rfl, hB⟩ := hrel
  by_cases hlt : k < fs.length
  · obtain ⟨f, hf⟩ : ∃ f, fs[k]? = some f := ⟨_, List.getElem?_eq_getElem hlt⟩; obtain ⟨b, off, rfl, hb, h1, h2⟩ := (hF.below hB) k f hf; have HS : Hid _ := jkh hf; have h3 := jf1 fs (k + 1); rw [HS.out] at h3; have h4 : (S f.1).size + (S f.2).size + 4 = jbD f := by simp [ju, jbD]
    have h5 : sumF (fs.take k) + ((S f.1).size + (S f.2).size + 4) ≤ 1000000000000 := by have := HB.out; omega
    have H4 : Hid _ := h4; clear h3 h4; go_wp2
    go_roundw
    case rel => exact ⟨k + 1, by omega, by go_num, by rw [HS.out, ← H4.out]; go_num, hB.alloc hB.size _⟩
    case measure => simp [intOf]; omega
  · have h5 : sumF (fs.take k) ≤ 1000000000000 := by have := HB.out; have := jf1 fs k; omega
    have HT : Hid (fs.take k = fs) := List.take_of_length_le (by omega); go_wp2; go_ret; exact ⟨jh (by rw [HT.out]), hB⟩
def Mild (fs : List F) (body : ByteArray) : Prop := fs.length ≤ 2000000 ∧ body.size ≤ 2000000 ∧ ∀ f ∈ fs, f.1.length ≤ 2000000 ∧ f.2.length ≤ 2000000
theorem jnF {fs : List F} (h : ∀ f ∈ fs, f.1.length ≤ 2000000 ∧ f.2.length ≤ 2000000) : sumF fs ≤ fs.length * 4000004 := by
 induction fs with
 | nil => simp [sumF]
 | cons f fs ih =>
   have h1 := h f (by simp); have h2 := ih fun g hg => h g (by simp [hg])
   have e : sumF (f :: fs) = jbD f + sumF fs := by simp [sumF]
   rw [e]; simp only [jbD, List.length_cons]; omega
theorem jkK {fs : List F} {k : Nat} {f : F} (h : fs[k]? = some f) (ha : (fs.take k).all mayF = true) (hf : mayF f = true) : (fs.take (k + 1)).all mayF = true := by
 rw [qh h, List.all_append, ha]; simp [hf]
theorem jmm {fs : List F} {k : Nat} {f : F} (h : fs[k]? = some f) (hf : mayF f = false) : fs.all mayF = false := by
 have hm : f ∈ fs := List.mem_of_getElem? h; cases e : fs.all mayF with
 | false => rfl
 | true => rw [List.all_eq_true] at e; rw [e f hm] at hf; cases hf
theorem jhC (a : Option Addr) (c : Nat) (fs : List F) (body : ByteArray) (w : World) (hF : FieldsAt w a fs) (hM : Mild fs body) (hm : maxLenCell w) :
 Calls Tryz.prog 30 #[.agg #[.slice a fs.length c, .string body]] w fun e w' => e = .returned (.int .i64 (qe fs body.data.toList)) ∧ Below w.heap.size w w' := by
 obtain ⟨hM1, hM2, hM3⟩ := hM
 by_cases h30 : 30 < fs.length
 · have HR : Hid (qe fs body.data.toList = 5) := by unfold Hid qe; rw [if_pos h30]
   go_enter Tryz.func30, Tryz.ntmps30; go_wp2; go_ret; exact ⟨jh HR.out.symm, nb0 _ _⟩
 · have HM3 : Hid _ := hM3; clear hM3; go_enter Tryz.func30, Tryz.ntmps30; go_wp2
   go_loopw [12] (fun i wr => ∃ k : Nat, k ≤ fs.length ∧ i = .int .i64 k ∧ Hid ((fs.take k).all mayF = true) ∧ Below w.heap.size w wr ∧ wr.cell? ⟨w.heap.size, 0, none⟩ = some (.slice a fs.length c) ∧ wr.cell? ⟨w.heap.size, 1, none⟩ = some (.string body) ∧ w.heap.size < wr.heap.size) (fun i _ => fs.length - (intOf i).toNat)
   case atStart => exact ⟨0, Nat.zero_le _, rfl, by simp [Hid], nb0 _ _, by simp, by simp, by simp⟩
   case round =>
    obtain ⟨k, hk, rfl, HA, hB, hc0, hc1, hsz⟩ := hrel; have hmr := maxLenCell_below hm hB
    by_cases hlt : k < fs.length
    · obtain ⟨f, hf⟩ : ∃ f, fs[k]? = some f := ⟨_, List.getElem?_eq_getElem hlt⟩; have hbd := HM3.out f (List.mem_of_getElem? hf); obtain ⟨b, off, rfl, hb, h1, h2⟩ := (hF.below hB) k f hf; have HN : Hid (zT (S f.1).data.toList = zT f.1) := by unfold Hid; rw [jt]
      have HV : Hid (qI (S f.2).data.toList = qI f.2) := by unfold Hid; rw [jt]
      have hs1 : (S f.1).size ≤ 2000000 := by rw [ju]; exact hbd.1
      have hs2 : (S f.2).size ≤ 2000000 := by rw [ju]; exact hbd.2
      have HF : Hid _ := hf; clear hf hbd; cases hn : zT f.1 with
      | false =>
        have HE : Hid (qe fs body.data.toList = 3) := by
            unfold Hid qe; rw [if_neg h30, if_pos (jmm HF.out (by simp [mayF, hn]))]
        have HX : Hid _ := hn; clear hn; go_wp2_with fail; refine (jah _ _ (by unfold maxLen; omega)).mono ?_; rintro e u ⟨rfl, rfl⟩; rw [HN.out, HX.out]; go_wp2; go_ret; exact ⟨jh HE.out.symm, hB.alloc hB.size _⟩
      | true =>
        have HX : Hid _ := hn; clear hn; cases hv : qI f.2 with
        | false =>
          have HE : Hid (qe fs body.data.toList = 3) := by
           unfold Hid qe; rw [if_neg h30, if_pos (jmm HF.out (by simp [mayF, hv]))]
          have HY : Hid _ := hv; clear hv; go_wp2_with fail; refine (jah _ _ (by unfold maxLen; omega)).mono ?_; rintro e u ⟨rfl, rfl⟩; rw [HN.out, HX.out]; go_wp2_with fail; refine (jcg _ _ (by omega) (maxLenCell_below hmr (nb0 _ _))).mono ?_; rintro e u ⟨rfl, hb2⟩; rw [HV.out, HY.out]; go_wp2; go_ret; exact ⟨jh HE.out.symm, jg0 (hB.alloc hB.size _) hb2 (Nat.le_refl _)⟩
        | true =>
          have HA2 : Hid _ := jkK HF.out HA.out (by simp [mayF, HX.out, hv]); have HY : Hid _ := hv; clear hv; go_wp2_with fail; refine (jah _ _ (by unfold maxLen; omega)).mono ?_; rintro e u ⟨rfl, rfl⟩; rw [HN.out, HX.out]; go_wp2_with fail; refine (jcg _ _ (by omega) (maxLenCell_below hmr (nb0 _ _))).mono ?_; rintro e u ⟨rfl, hb2⟩; rw [HV.out, HY.out]; go_wp2
          go_roundw
          case rel => exact ⟨k + 1, by omega, by go_num, HA2.out, jg0 (hB.alloc hB.size _) hb2 (Nat.le_refl _), jN (qr hc0 _) hb2, jN (qr hc1 _) hb2, by have := hb2.size; simp at this; omega⟩
          case measure => simp [intOf]; omega
    · have HT : Hid (fs.take k = fs) := List.take_of_length_le (by omega); have hsum := jnF HM3.out
      by_cases hbig : 2000 < 2 + body.data.toList.length + sumF fs
      · have HE : Hid (qe fs body.data.toList = 1) := by
            have := HA.out; rw [HT.out] at this; unfold Hid qe; rw [if_neg h30, if_neg (by simp [this]), if_pos hbig]
        rw [size_list] at hbig; go_wp2_with fail; refine (ja3 a c fs body _ (hF.below hB) (by omega) (by omega)).mono ?_; rintro e u ⟨rfl, hb2⟩; go_wp2; go_ret; exact ⟨jh HE.out.symm, jg0 hB hb2 (Nat.le_refl _)⟩
      · have HE : Hid (qe fs body.data.toList = 0) := by
            have := HA.out; rw [HT.out] at this; unfold Hid qe; rw [if_neg h30, if_neg (by simp [this]), if_neg hbig]
        rw [size_list] at hbig; go_wp2_with fail; refine (ja3 a c fs body _ (hF.below hB) (by omega) (by omega)).mono ?_; rintro e u ⟨rfl, hb2⟩; go_wp2; go_ret; exact ⟨jh HE.out.symm, jg0 hB hb2 (Nat.le_refl _)⟩
open Go.Proofs Go.Shelf
theorem jcG (b : Nat) (w : World) (h0 : w.cell? ⟨b, 0, none⟩ = some (.pointer (some ⟨b, 0, none⟩))) :
 Calls Tryz.prog 60 #[.pointer (some ⟨b, 0, none⟩)] w fun e w' => e = .returned (.tuple #[]) ∧ w' = w := by
 obtain ⟨j, hj, _⟩ := Option.map_eq_some_iff.1 Tryz.Builder_Extra_169.sizeBuilder; go_enter Tryz.func60, Tryz.ntmps60; go_wp2; rw [Lib.run_neq_ptr_same w _ Tryz.underlying97 hj]; go_wp2; go_end0; exact ⟨rfl, rfl⟩
theorem jb3 (b : Nat) (w : World) (h0 : w.cell? ⟨b, 0, none⟩ = some (.pointer none)) (hsh : w.shape? b = some (100, 2)) (hfz : w.frozen? ⟨b, 0, none⟩ = false) :
 Calls Tryz.prog 60 #[.pointer (some ⟨b, 0, none⟩)] w fun e w' => e = .returned (.tuple #[]) ∧ w' = w.setCell ⟨b, 0, none⟩ (.pointer (some ⟨b, 0, none⟩)) := by
 obtain ⟨j, hj, hjs⟩ := Option.map_eq_some_iff.1 Tryz.Builder_Extra_169.sizeBuilder; go_enter Tryz.func60, Tryz.ntmps60; go_wp2; rw [Lib.run_to_unsafe w ⟨b, 0, none⟩ Tryz.underlying97 Tryz.underlying164 hj (by rw [hjs]; decide) hsh (Nat.zero_lt_succ 1)]; simp only [Result.andThen]; rw [Oper.upon_value]; go_wp2; rw [run_callFunc_extern Tryz.func87 (by kernel_rfl) (by kernel_rfl) (by kernel_rfl) (e := Extern.AbiNoEscape.same) (by kernel_rfl)]; rw [Lib.run_noEscape]; simp only [Result.andThen]; rw [Oper.upon_value]; go_wp2; rw [Lib.run_from_unsafe w ⟨b, 0, none⟩ Tryz.underlying164 Tryz.underlying97 hj hsh Tryz.Builder_Extra_169.liesBuilder]; simp only [Result.andThen]; rw [Oper.upon_value]; go_wp2; go_end0; exact ⟨rfl, rfl⟩
theorem jdA (B b : Nat) (bs : List Value) (w : World) (h : Lib.IsBuilderF 100 5 B b bs w) :
 Calls Tryz.prog 60 #[.pointer (some ⟨b, 0, none⟩)] w fun e w' => e = .returned (.tuple #[]) ∧ (Lib.BuilderAtF 100 5 B b (.pointer (some ⟨b, 0, none⟩)) bs w' ∧ Below B w w' ∧ Lib.OthersKept 5 (some b) w w') := by
 rcases h with h | h
 · refine (jb3 b w h.cell0 h.shape h.frozen0).mono ?_; rintro e w' ⟨rfl, rfl⟩; exact ⟨rfl, h.used _, (Below.refl B w).setCell (p := ⟨b, 0, none⟩) h.1 _, (Lib.OthersKept.refl _ _ w).setCell ⟨b, 0, none⟩ rfl _⟩
 · refine (jcG b w h.cell0).mono ?_; rintro e w' ⟨rfl, rfl⟩; exact ⟨rfl, h, Below.refl B _, Lib.OthersKept.refl _ _ _⟩
theorem vZ (B b : Nat) (bs : List Value) (s : ByteArray) (w : World) (h : Lib.IsBuilderF 100 5 B b bs w) (hlen : bs.length + s.size ≤ 140737488355328) (hBw : B ≤ w.heap.size) :
 Calls Tryz.prog 31 #[.pointer (some ⟨b, 0, none⟩), .string s] w fun e w' => e = .returned (.tuple #[.int .i64 s.size, .nilIface]) ∧ (Lib.IsBuilderF 100 5 B b (bs ++ Lib.strCells s) w' ∧ Below B w w' ∧ Lib.OthersKept 5 (some b) w w') := by
 obtain ⟨i0, hi, hz0, hz1, hz2⟩ := info_parts Tryz.Builder_Extra_169.infoByte; go_enter Tryz.func31, Tryz.ntmps31; go_wp2_with fail; refine (jdA B b bs _ h).mono ?_; rintro e w1 ⟨rfl, h1, hb1, hk1⟩; obtain ⟨hB, v, hbk, hown, hne⟩ := h1; have c0 : w1.cell? ⟨b, 0, none⟩ = some (.pointer (some ⟨b, 0, none⟩)) := by rw [Lib.cell_of_heap hbk]; rfl
 have c1 : w1.cell? ⟨b, 1, none⟩ = some v := by rw [Lib.cell_of_heap hbk]; rfl
 go_wp2_with (at_builtin; refine Lib.wpList_append_own_stringF _ rfl _ _ 98 9 rfl B 5 i0 Tryz.underlying98 Tryz.underlying9 hi hz0 hz1 hz2 _ _ _ rfl hown s rfl ?c3 ?c4 ?c5 ?_)
 case c3 => unfold maxLen; omega
 case c4 => omega
 case c5 => have := hb1.size; omega
 intro v' w2 hown' hgrow _; have hlt : b < w1.heap.size := by
  rcases Nat.lt_or_ge b w1.heap.size with h' | h'
  · exact h'
  · simp [Array.getElem?_eq_none h'] at hbk
 have hb2 : w2.heap[b]? = some (.cells #[.pointer (some ⟨b, 0, none⟩), v] 100 (0, 0)) := by
  rw [hgrow.block b hlt (fun e => hne e.symm)]; exact hbk
 have d0 : w2.cell? ⟨b, 0, none⟩ = some (.pointer (some ⟨b, 0, none⟩)) := by rw [Lib.cell_of_heap hb2]; rfl
 have d1 : w2.cell? ⟨b, 1, none⟩ = some v := by rw [Lib.cell_of_heap hb2]; rfl
 have f1 : w2.frozen? ⟨b, 1, none⟩ = false := Lib.frozen_of_heap hb2 1; obtain ⟨ao, n', cap, rfl⟩ : ∃ ao n' cap, v' = .slice ao n' cap := by
  rcases hown'.2 with ⟨hv, _⟩ | ⟨g, cap, cur, fz, hv, _⟩
  · exact ⟨_, _, _, hv⟩
  · exact ⟨_, _, _, hv⟩
 go_wp2; go_ret2; refine ⟨rfl, .inr ?_, ?_, (hk1.grown hgrow (Lib.ownsRowF_kind hown)).setCell ⟨b, 1, none⟩ rfl _⟩
 · exact Lib.BuilderAtF.put (T := 100) (e := 5) hB hb2 (bs' := bs ++ Lib.strCells s) (by simpa [Lib.strCells_length] using hown') Tryz.Builder_Extra_169.neB5
 · exact (hb1.grown hgrow (by have := hb1.size; omega) (fun k hk => (hown.lt k hk).1)).setCell (p := ⟨b, 1, none⟩) hB _
theorem jgb (a b : ByteArray) : (a ++ b).data.toList = a.data.toList ++ b.data.toList := by
 simp [ByteArray.data_append]
theorem jac (f : F) : ((S f.1 ++ ⟨#[58, 32]⟩ ++ S f.2 ++ ⟨#[13, 10]⟩ : ByteArray)).data.toList = je7 f := by
 simp only [jgb, jt, je7]
theorem jiQ {fs : List F} {body : List UInt8} (h : qe fs body = 0) : fs.length ≤ 30 ∧ (∀ f ∈ fs, mayF f = true) ∧ 2 + body.length + sumF fs ≤ 2000 := by
 unfold qe at h
 by_cases h1 : 30 < fs.length
 · rw [if_pos h1] at h; cases h
 · rw [if_neg h1] at h
   by_cases h2 : fs.all mayF = false
   · rw [if_pos h2] at h; cases h
   · rw [if_neg h2] at h
     by_cases h3 : 2000 < 2 + body.length + sumF fs
     · rw [if_pos h3] at h; cases h
     · exact ⟨by omega, by simpa using h2, by omega⟩
theorem jnC (a : Option Addr) (c : Nat) (fs : List F) (body : ByteArray) (w : World) (hF : FieldsAt w a fs) (hM : Mild fs body) (hm : maxLenCell w) (hf : qe fs body.data.toList = 0) :
 Calls Tryz.prog 16 #[.agg #[.slice a fs.length c, .string body]] w fun e w' => e = .returned (.tuple #[.string (S (jat fs body.data.toList)), .int .i64 0]) ∧ Below w.heap.size w w' := by
 have hB0 : ∀ o, Below w.heap.size w (w.alloc o) := fun o => (Below.refl _ _).alloc (Nat.le_refl _) o
 have HX : Hid _ := jiQ hf; have hl := HX.out.1; have HF : Hid _ := hf; clear hf; go_enter Tryz.func16, Tryz.ntmps16; go_wp2_with fail; refine (jhC a c fs body _ (hF.below (hB0 _)) hM (maxLenCell_below hm (hB0 _))).mono ?_; rintro e w1 ⟨rfl, hb1⟩; have p0 : w1.cell? ⟨w.heap.size, 0, none⟩ = some (.slice a fs.length c) := jN (by simp) hb1; have p1 : w1.cell? ⟨w.heap.size, 1, none⟩ = some (.string body) := jN (by simp) hb1; have hB1 := jg0 (hB0 _) hb1 (Nat.le_refl _); have hF1 := hF.below hB1; have hz : w.heap.size < w1.heap.size := by have := hb1.size; simp at this; omega
 rw [HF.out]; go_wp2
 go_loopw [16] (fun i wr => ∃ k : Nat, k ≤ fs.length ∧ i = .int .i64 k ∧ Lib.IsBuilderF 100 5 w1.heap.size w1.heap.size (Lib.byteCells (qQ (fs.take k))) wr ∧ Below w1.heap.size w1 wr) (fun i _ => fs.length - (intOf i).toNat)
 case atStart => exact ⟨0, Nat.zero_le _, rfl, by simpa [qQ, Lib.byteCells] using Lib.IsBuilderF.of (Lib.fresh_isBuilder 100 5 w1), nb0 _ _⟩
 case round =>
  obtain ⟨k, hk, rfl, hI, hB⟩ := hrel; have hle : (qQ (fs.take k)).length ≤ 2000 := by
   rw [jaP]; have := jf1 fs k; have := HX.out.2.2; omega
  by_cases hlt : k < fs.length
  · obtain ⟨f, hf⟩ : ∃ f, fs[k]? = some f := ⟨_, List.getElem?_eq_getElem hlt⟩; obtain ⟨b, off, rfl, hb, h1, h2⟩ := (hF1.below hB) k f hf; have hfb := hM.2.2 f (List.mem_of_getElem? hf); have HL : Hid (qQ (fs.take (k + 1)) = qQ (fs.take k) ++ je7 f) := by unfold Hid; rw [qh hf, jfN]
    have HZ : Hid ((S f.1 ++ ⟨#[58, 32]⟩ ++ S f.2 ++ ⟨#[13, 10]⟩ : ByteArray).size ≤ 5000000) := by
        unfold Hid; rw [← size_list, jac, jbm]; unfold jbD; omega
    have hs1 : (S f.1).size ≤ 2000000 := by rw [ju]; exact hfb.1
    have hs2 : (S f.2).size ≤ 2000000 := by rw [ju]; exact hfb.2
    clear hf hfb; go_wp2_with fail; refine (vZ w1.heap.size w1.heap.size _ _ _ (hI.alloc _) ?hl ?hs).mono ?_
    case hl => have := HZ.out; rw [Lib.byteCells_length]; omega
    case hs => have := hB.size; simp; omega
    rintro e w2 ⟨rfl, hI2, hb2, _⟩; go_wp2
    go_roundw
    case rel => first | exact ⟨k + 1, by omega, by go_num, by rw [HL.out, Lib.byteCells_append]; rwa [Lib.strCells_eq, jac] at hI2, (hB.alloc hB.size _).trans hb2⟩ | ((repeat apply Exists.intro); exact ⟨⟨k + 1, by omega, by go_num, by rw [HL.out, Lib.byteCells_append]; rwa [Lib.strCells_eq, jac] at hI2, (hB.alloc hB.size _).trans hb2⟩, rfl⟩) | (refine ⟨trivial, ?_⟩; (repeat apply Exists.intro); exact ⟨⟨k + 1, by omega, by go_num, by rw [HL.out, Lib.byteCells_append]; rwa [Lib.strCells_eq, jac] at hI2, (hB.alloc hB.size _).trans hb2⟩, rfl⟩)
    case measure => simp [intOf]; omega
  · have HT : Hid (fs.take k = fs) := List.take_of_length_le (by omega); have q1 : wr.cell? ⟨w.heap.size, 1, none⟩ = some (.string body) := jN p1 hB; have hbd := hM.2.1; have HZ : Hid ((⟨#[13, 10]⟩ ++ body : ByteArray).size ≤ 5000000) := by
        unfold Hid; rw [← size_list, jgb, List.length_append, size_list body]; simp; omega
    go_wp2_with fail; refine (vZ w1.heap.size w1.heap.size _ _ _ hI ?hl hB.size).mono ?_
    case hl => have := HZ.out; rw [Lib.byteCells_length]; omega
    rintro e w2 ⟨rfl, hI2, hb2, _⟩; rw [Lib.strCells_eq, ← Lib.byteCells_append] at hI2; go_wp2_with fail; refine (Tryz.Builder_String_any_k w1.heap.size w1.heap.size _ _ hI2 (by have := hB.size; have := hb2.size; omega)).mono ?_; rintro e w3 ⟨rfl, _, hb3, _⟩; go_wp2; go_ret2; refine ⟨?_, jg0 hB1 ((hB.trans hb2).trans hb3) (Nat.le_refl _)⟩; have := HT.out
    simp [jat, S, this]
open Go.Deep Go.Joins Go.ChangeShapes Go.WideShapes
def jot {H : Type} (f : F) : DataW H := .agg [.lit (.string f.1), .lit (.string f.2)]
theorem jhQ {H : Type} {enc : TypeId × Value → H} {P : Program} {w : World} {base : Nat} {spare : Nat → Bool} {held : Bool} {t e : TypeId} {f0 f1 : Field} {fuel : Nat} {v : Value} {x : DataW H × List MemPlace}
 (ht : P.underlying t = some (.slice e)) (he : P.underlying e = some (.struct #[f0, f1])) (ce : P.cellsOf e = 2) (o0 : f0.offset = 0) (o1 : f1.offset = 1) (c0 : P.cellsOf f0.type = 1) (c1 : P.cellsOf f1.type = 1)
 (s0 : P.underlying f0.type = some .string) (s1 : P.underlying f1.type = some .string)
 (h : DataW.trod enc P w base spare held fuel t [v] = some x) :
 ∃ a c, ∃ fs : List F, v = .slice a fs.length c ∧ FieldsAt w a fs ∧ fs.length ≤ maxLen ∧ (∀ f ∈ fs, f.1.length ≤ maxLen ∧ f.2.length ≤ maxLen) ∧ ((x.1 = .nil ∧ fs = []) ∨ ∃ sp, x.1 = .slice (fs.map jot) sp) := by
 rcases open_slice_pairs ht he ce o0 o1 c0 c1 h with ⟨hcs, rfl⟩ | ⟨a, len, cap, m, n, V0, V1, D0, D1, P0, P1, hcs, hb, hl, hm, hmm, rfl, hx⟩
 · simp only [List.cons.injEq, and_true] at hcs; exact ⟨none, 0, [], hcs, by intro i f hf; simp at hf, by simp, by simp, .inl ⟨rfl, rfl⟩⟩
 simp only [List.cons.injEq, and_true] at hcs; subst hcs; have hlm : len ≤ m := by rw [hmm]; split <;> omega
 have each : ∀ i, i < len → ∃ f : F, w.cell? (a.add (i * 2)) = some (.string (S f.1)) ∧ w.cell? (a.add (i * 2 + 1)) = some (.string (S f.2)) ∧ D0 i = .lit (.string f.1) ∧ D1 i = .lit (.string f.2) ∧ f.1.length ≤ maxLen ∧ f.2.length ≤ maxLen := by
  intro i hi; obtain ⟨h1, h2, h3, h4⟩ := hx i (by omega); obtain ⟨y0, e0, g0, k0⟩ := DataW.trod_string s0 h3; obtain ⟨y1, e1, g1, k1⟩ := DataW.trod_string s1 h4; simp only [List.cons.injEq, and_true] at e0 e1; simp only [Prod.mk.injEq] at g0 g1; refine ⟨(y0.data.toList, y1.data.toList), ?_, ?_, g0.1, g1.1, by rw [size_list]; exact k0, by rw [size_list]; exact k1⟩
  · rw [h1, e0, zZ]
  · rw [h2, e1, zZ]
 obtain ⟨q, hq⟩ := choose_lt each; refine ⟨some a, cap, (List.range len).map q, by simp, ?_, by simp; omega, ?_, .inr ⟨(List.range (m - len)).map fun j => .agg [D0 (len + j), D1 (len + j)], ?_⟩⟩
 · intro i f hf; have hi : i < len := by
    rcases Nat.lt_or_ge i len with h | h
    · exact h
    · rw [List.getElem?_eq_none (by simpa using h)] at hf; cases hf
   rw [List.getElem?_map, List.getElem?_range hi] at hf; simp only [Option.map_some, Option.some.injEq] at hf; subst hf; obtain ⟨h1, h2, _⟩ := hq i hi; obtain ⟨b, off, spot⟩ := a; have hspot : spot = none := by
    have := World.cell?_spot (hq 0 (by omega)).1
    simpa [Addr.add] using this
   subst hspot; rw [Addr.add_lit] at h1 h2; exact ⟨b, off, rfl, World.block_lt_of_cell? w _ h1, h1, by rw [Nat.add_assoc]; exact h2⟩
 · intro f hf; obtain ⟨i, hi, rfl⟩ := List.mem_map.1 hf; exact (hq i (List.mem_range.1 hi)).2.2.2.2
 · rw [List.map_map]
   show DataW.slice _ _ = DataW.slice _ _
   congr 1
   refine List.map_congr_left fun i hi => ?_
   obtain ⟨_, _, h1, h2, _⟩ := hq i (List.mem_range.1 hi)
   simp [jot, h1, h2]
theorem jik (c : UInt8) : vp (jij c) = true := by
 have h := jcC c; have h2 : (jij c).toNat = 97 + c.toNat % 26 := by omega
 have h3 : jij c ≠ 58 := fun e => by rw [e] at h2; simp at h2; omega
 simp [vp, h2, h3]; omega
theorem jkz (l : List UInt8) : zT (zU l) = true := by
 unfold zU; split
 · decide
 · rename_i h; have : jbE l 8 ≠ [] := by
    unfold jbE; intro e; have := congrArg List.length e
    simp at this
    exact h this
   simp only [zT, Bool.and_eq_true, Bool.not_eq_true', List.all_eq_true]; refine ⟨by cases hw : jbE l 8 with | nil => exact absurd hw this | cons a t => rfl, fun x hx => ?_⟩; obtain ⟨c, _, rfl⟩ := List.mem_map.1 hx; exact jik c
theorem je9 {n i : Nat} {c : UInt8} (h : i = 0 ∨ i + 1 = n ∨ i = 39) : jD (valC n i c) = false := by
 unfold valC; split
 · decide
 · rename_i hn; simp only [not_or, not_and] at hn; unfold jD; simp only [Bool.or_eq_false_iff, beq_eq_false_iff_ne]; refine ⟨fun e => ?_, fun e => ?_⟩
   · have := hn.2.2 (.inl e); rcases h with h | h | h
     · exact this.1 h
     · exact this.2.1 h
     · exact this.2.2 h
   · have := hn.2.2 (.inr e); rcases h with h | h | h
     · exact this.1 h
     · exact this.2.1 h
     · exact this.2.2 h
theorem jkw {l : List UInt8} {k : Nat} {x : UInt8} (h : (valK l k).head? = some x) : ∃ c, x = valC l.length 0 c := by
 induction k with
 | zero => cases h
 | succ k ih =>
   cases k with
   | zero => simp [valK] at h; exact ⟨_, h.symm⟩
   | succ k =>
     have e : (valK l (k + 1 + 1)).head? = (valK l (k + 1)).head? := by
        show (valK l (k + 1) ++ _).head? = _
        cases hv : valK l (k + 1) with
        | nil => have := jgK l (k + 1); rw [hv] at this; simp at this
        | cons a t => rfl
     rw [e] at h; exact ih h
theorem jkx (l : List UInt8) : vE (valL l) = valL l := by
 have := qA (a := []) (m := valL l) (b := []) (by simp) (by simp) ?_ ?_
 · simpa using this
 · intro x hx; obtain ⟨c, rfl⟩ := jkw hx; exact je9 (.inl rfl)
 · intro x hx; unfold valL at hx; cases hk : min l.length 40 with
   | zero => rw [hk] at hx; cases hx
   | succ k =>
     rw [hk] at hx; have : x = valC l.length k (l[k]?.getD 0) := by simpa [valK] using hx.symm
     rw [this]; exact je9 (by omega)
theorem joq (f : F) : mayF (mkF f) = true := by
 simp only [mayF, mkF, qI, jkz, jmi, jkx, Bool.not_false, Bool.true_and, beq_self_eq_true]
theorem jnq (fs : List F) : ∀ f ∈ msgK fs 6, mayF f = true := by
 intro f hf; obtain ⟨g, _, rfl⟩ := List.mem_map.1 hf; exact joq g
theorem jgs (fs : List F) : ∀ f ∈ msgK fs 6, f.1.length ≤ 8 ∧ f.2.length ≤ 40 := by
 intro f hf; obtain ⟨g, _, rfl⟩ := List.mem_map.1 hf; exact ⟨zA _, jmj _⟩
theorem jnp (fs : List F) : (msgK fs 6).length ≤ 6 := by simp [msgK]; omega
theorem open_post {H : Type} {enc : TypeId × Value → H} {w : World} {base b0 : Nat} {spare : Nat → Bool} {held : Bool} {v : Value} {d : DataW H} {p : List MemPlace}
 (hv : Value.okWide Tryz.prog w .any b0 27 v) (h : DataW.Trod enc Tryz.prog w base spare held 27 v d p) :
 ∃ (fl fd fg tl td tg : ByteArray) (a : Option Addr) (c : Nat) (fs : List F) (body : ByteArray), v = .agg #[.string fl, .string fd, .string fg, .string tl, .string td, .string tg, .slice a fs.length c, .string body] ∧ FieldsAt w a fs ∧ fs.length ≤ maxLen ∧ (∀ f ∈ fs, f.1.length ≤ maxLen ∧ f.2.length ≤ maxLen) ∧ body.size ≤ maxLen ∧ fl.size ≤ maxLen ∧ fd.size ≤ maxLen ∧ tl.size ≤ maxLen ∧ td.size ≤ maxLen := by
 obtain ⟨cs, rfl, hsz⟩ := okWide_struct Tryz.underlying27 hv; have hC : Tryz.prog.cellsOf 27 = 8 := by kernel_rfl
 have cs' : Tryz.prog.cellsOf 9 = 1 := by kernel_rfl
 have ca : Tryz.prog.cellsOf 24 = 3 := by kernel_rfl
 have cl : Tryz.prog.cellsOf 25 = 1 := by kernel_rfl
 obtain ⟨fuel, hf⟩ := h; obtain ⟨c0, c1, c2, c3, c4, c5, c6, c7, rfl⟩ : ∃ c0 c1 c2 c3 c4 c5 c6 c7, cs = #[c0, c1, c2, c3, c4, c5, c6, c7] := by
  obtain ⟨l⟩ := cs
  match l, (hsz.trans hC) with
  | [c0, c1, c2, c3, c4, c5, c6, c7], _ => exact ⟨c0, c1, c2, c3, c4, c5, c6, c7, rfl⟩
 obtain ⟨xs, n, _, hd, _, hxl, hx⟩ := DataW.trod_struct Tryz.underlying27 hf; have hxl4 : xs.length = 4 := hxl; obtain ⟨y0, y1, y2, y3, rfl⟩ : ∃ y0 y1 y2 y3, xs = [y0, y1, y2, y3] := by
  match xs, hxl4 with
  | [y0, y1, y2, y3], _ => exact ⟨y0, y1, y2, y3, rfl⟩
 have h0 : DataW.trod enc Tryz.prog w base spare held n 24 [c0, c1, c2] = some y0 := by simpa [Value.cells, ca] using hx 0 _ rfl
 have h1 : DataW.trod enc Tryz.prog w base spare held n 24 [c3, c4, c5] = some y1 := by simpa [Value.cells, ca] using hx 1 _ rfl
 have h2 : DataW.trod enc Tryz.prog w base spare held n 25 [c6] = some y2 := by simpa [Value.cells, cl] using hx 2 _ rfl
 have h3 : DataW.trod enc Tryz.prog w base spare held n 9 [c7] = some y3 := by simpa [Value.cells, cs'] using hx 3 _ rfl
 have per : ∀ (a b c : Value) (y : DataW H × List MemPlace), DataW.trod enc Tryz.prog w base spare held n 24 [a, b, c] = some y → ∃ l e g : ByteArray, a = .string l ∧ b = .string e ∧ c = .string g ∧ l.size ≤ maxLen ∧ e.size ≤ maxLen := by
  intro a b c y hy; obtain ⟨zs, m, _, hz, _, hzl, hg⟩ := DataW.trod_struct Tryz.underlying24 hy; have hzl3 : zs.length = 3 := hzl; obtain ⟨z0, z1, z2, rfl⟩ : ∃ z0 z1 z2, zs = [z0, z1, z2] := by
   match zs, hzl3 with
   | [z0, z1, z2], _ => exact ⟨z0, z1, z2, rfl⟩
  have g0 : DataW.trod enc Tryz.prog w base spare held m 9 [a] = some z0 := by simpa [cs'] using hg 0 _ rfl
  have g1 : DataW.trod enc Tryz.prog w base spare held m 9 [b] = some z1 := by simpa [cs'] using hg 1 _ rfl
  have g2 : DataW.trod enc Tryz.prog w base spare held m 9 [c] = some z2 := by simpa [cs'] using hg 2 _ rfl
  obtain ⟨s, e0, _, k0⟩ := DataW.trod_string Tryz.underlying9 g0; obtain ⟨s', e1, _, k1⟩ := DataW.trod_string Tryz.underlying9 g1; obtain ⟨s2, e2, _, _⟩ := DataW.trod_string Tryz.underlying9 g2; simp only [List.cons.injEq, and_true] at e0 e1 e2; exact ⟨s, s', s2, e0, e1, e2, k0, k1⟩
 obtain ⟨fl, fd, fg, rfl, rfl, rfl, s1, s2⟩ := per _ _ _ _ h0; obtain ⟨tl, td, tg, rfl, rfl, rfl, s3, s4⟩ := per _ _ _ _ h1; obtain ⟨body, e3, _, k3⟩ := DataW.trod_string Tryz.underlying9 h3; simp only [List.cons.injEq, and_true] at e3; subst e3; obtain ⟨a, c, fs, e, hF, g1, g2, _⟩ := jhQ Tryz.underlying25 Tryz.underlying95 (by kernel_rfl) rfl rfl (by kernel_rfl) (by kernel_rfl) Tryz.underlying9 Tryz.underlying9 h2; subst e; exact ⟨fl, fd, fg, tl, td, tg, a, c, fs, body, rfl, hF, g1, g2, k3, s1, s2, s3, s4⟩
end Go.Proofs.YtgfbdgheencmaaaGreatDoor
