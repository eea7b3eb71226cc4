/-
  Two states that are the same are found so: the walk of the laws' sameState.
-/
import Derived.Test.YtgfbdgheencmaaaGreatDoorRows
import Derived.Test.YtgfbdgheencmaaaGreatDoorXQKeepMsg4
import Derived.WalkArith
import Derived.Test.YtgfbdgheencmaaaGreatDoorXQDelSo3
import Derived.Test.YtgfbdgheencmaaaGreatDoorXBoxSt
set_option maxHeartbeats 8000000
set_option maxRecDepth 100000
namespace Go.Proofs.YtgfbdgheencmaaaGreatDoor
open Go.RowKit Go.Proofs
theorem jdW (s : Stt) (vb vs vb' vs' : Value) (w : World) (Q Q' : Nat → Prop) (hS : SttM Q w vb vs s) (hS' : SttM Q' w vb' vs' s) :
 Calls Tryz.prog 10 #[.agg #[vb, vs], .agg #[vb', vs']] w fun e w' => e = .returned (.bool true) ∧ Below w.heap.size w w' := by
 have hm := RowM.small hS.1; have hm2 := RowM.small hS.2.1; unfold maxLen at hm hm2; obtain ⟨ab, cb, rfl⟩ := RowM.slice hS.1; obtain ⟨aq, cq, rfl⟩ := RowM.slice hS.2.1; obtain ⟨ab', cb', rfl⟩ := RowM.slice hS'.1; obtain ⟨aq', cq', rfl⟩ := RowM.slice hS'.2.1; obtain ⟨W1, hW1⟩ : ∃ W1, W1 = (w.alloc (.cells #[.slice ab s.boxes.length cb, .slice aq s.spool.length cq] 32)).alloc (.cells #[.slice ab' s.boxes.length cb', .slice aq' s.spool.length cq'] 32) := ⟨_, rfl⟩; have HWE := hid hW1; have hB1 : Below w.heap.size w W1 := by rw [hW1]; exact (nb0 _ _).alloc (by simp) _
 have HB1 := hid hB1; have x0 : W1.cell? ⟨w.heap.size, 0, none⟩ = some (.slice ab s.boxes.length cb) := by rw [hW1]; exact jz (by simp) _
 have x1 : W1.cell? ⟨w.heap.size, 1, none⟩ = some (.slice aq s.spool.length cq) := by rw [hW1]; exact jz (by simp) _
 have x2 : W1.cell? ⟨w.heap.size + 1, 0, none⟩ = some (.slice ab' s.boxes.length cb') := by rw [hW1]; simp
 have x3 : W1.cell? ⟨w.heap.size + 1, 1, none⟩ = some (.slice aq' s.spool.length cq') := by rw [hW1]; simp
 have HS := hid (hS.next hB1); have HS' := hid (hS'.next hB1); clear hS hS' hW1 hB1; go_enter Tryz.func10, Tryz.ntmps10; go_wp2; rw [← HWE.out]
 go_loopw [5] (fun v wr => ∃ i : Nat, i ≤ s.spool.length ∧ v = .int .i64 i ∧ Hid (Below W1.heap.size W1 wr)) (fun v _ => s.spool.length - (intOf v).toNat)
 case atStart => exact ⟨0, Nat.zero_le _, rfl, Below.refl _ _⟩
 case round =>
  obtain ⟨i, hi, rfl, HB⟩ := hrel; have y0 := jb x0 HB.out; have y1 := jb x1 HB.out; have y2 := jb x2 HB.out; have y3 := jb x3 HB.out
  by_cases hlt : i < s.spool.length
  · have i1 : (i : Int) < (s.spool.length : Int) := by omega
    have i0 : (0 : Int) ≤ (i : Int) := by omega
    obtain ⟨x, hx⟩ : ∃ x, s.spool[i]? = some x := ⟨_, List.getElem?_eq_getElem hlt⟩; obtain ⟨b, o, rfl, _, e0, e1, e2, e3, e4, e5⟩ := (HS.out.2.1.next HB.out).at hx; obtain ⟨b', o', rfl, _, d0, d1, d2, d3, d4, d5⟩ := (HS'.out.2.1.next HB.out).at hx; clear hx; go_wp2
    go_quiet (fail)
    have HB2 := hid (jaE HB.out nq); go_wp2
    go_roundw
    case rel => first | exact ⟨i + 1, by omega, by go_num, HB2⟩ | ((repeat apply Exists.intro); exact ⟨⟨i + 1, by omega, by go_num, HB2⟩, rfl⟩)
    case measure => simp [intOf]; omega
  · have i1 : ¬ (i : Int) < (s.spool.length : Int) := by omega
    obtain ⟨w0, rfl⟩ : ∃ W, W = wr := ⟨_, rfl⟩; go_wp2
    go_loopw [6] (fun v wr => ∃ i : Nat, i ≤ s.boxes.length ∧ v = .int .i64 i ∧ Hid (Below w0.heap.size w0 wr)) (fun v _ => s.boxes.length - (intOf v).toNat)
    case atStart => exact ⟨0, Nat.zero_le _, rfl, Below.refl _ _⟩
    case round =>
        obtain ⟨j, hj, rfl, HC⟩ := hrel; have u0 := jb y0 HC.out; have u2 := jb y2 HC.out
        by_cases hlj : j < s.boxes.length
        · have j1 : (j : Int) < (s.boxes.length : Int) := by omega
          have j0 : (0 : Int) ≤ (j : Int) := by omega
          obtain ⟨x, hx⟩ : ∃ x, s.boxes[j]? = some x := ⟨_, List.getElem?_eq_getElem hlj⟩; have hBC := HB.out.trans (HC.out.mono HB.out.size); obtain ⟨b, o, v, rfl, _, e0, e1, e2, hM⟩ := (HS.out.1.next hBC).at hx; obtain ⟨b', o', v', rfl, _, d0, d1, d2, hM'⟩ := (HS'.out.1.next hBC).at hx; obtain ⟨am, cm, rfl⟩ := RowM.slice hM; obtain ⟨am', cm', rfl⟩ := RowM.slice hM'; have hmm := RowM.small hM; unfold maxLen at hmm; obtain ⟨w1, rfl⟩ : ∃ W, W = wr := ⟨_, rfl⟩; obtain ⟨W2, hW2⟩ : ∃ W2, W2 = (w1.alloc (.cells #[.string (S x.name), .int .i64 x.next, .slice am x.mails.length cm] 54)).alloc (.cells #[.string (S x.name), .int .i64 x.next, .slice am' x.mails.length cm'] 54) := ⟨_, rfl⟩; have HWE2 := hid hW2; have hB2 : Below w1.heap.size w1 W2 := by rw [hW2]; exact (nb0 _ _).alloc (by simp) _
          have m2 : W2.cell? ⟨w1.heap.size, 2, none⟩ = some (.slice am x.mails.length cm) := by rw [hW2]; exact jz (by simp) _
          have m3 : W2.cell? ⟨w1.heap.size + 1, 2, none⟩ = some (.slice am' x.mails.length cm') := by rw [hW2]; simp
          have a2 := jz u2 (.cells #[.string (S x.name), .int .i64 x.next, .slice am x.mails.length cm] 54); have a3 := jz d0 (.cells #[.string (S x.name), .int .i64 x.next, .slice am x.mails.length cm] 54); have a4 := jz d1 (.cells #[.string (S x.name), .int .i64 x.next, .slice am x.mails.length cm] 54); have a5 := jz d2 (.cells #[.string (S x.name), .int .i64 x.next, .slice am x.mails.length cm] 54); have hn1 : w.heap.size + 1 ≠ w1.heap.size := Nat.ne_of_lt (World.block_lt_of_cell? _ _ u2); have hn2 : b' ≠ w1.heap.size := Nat.ne_of_lt (World.block_lt_of_cell? _ _ d0); have HM := hid (hM.next hB2); have HM' := hid (hM'.next hB2); have HB2 := hid hB2; clear hx hM hM' hW2 hB2 hBC; go_wp2; rw [← HWE2.out]
          go_loopw [9] (fun v wr => ∃ i : Nat, i ≤ x.mails.length ∧ v = .int .i64 i ∧ Hid (Below W2.heap.size W2 wr)) (fun v _ => x.mails.length - (intOf v).toNat)
          case atStart => exact ⟨0, Nat.zero_le _, rfl, Below.refl _ _⟩
          case round =>
            obtain ⟨k, hk, rfl, HD⟩ := hrel; have n2 := jb m2 HD.out; have n3 := jb m3 HD.out
            by_cases hlk : k < x.mails.length
            · have k1 : (k : Int) < (x.mails.length : Int) := by omega
              have k0 : (0 : Int) ≤ (k : Int) := by omega
              obtain ⟨m, hm'⟩ : ∃ m, x.mails[k]? = some m := ⟨_, List.getElem?_eq_getElem hlk⟩; obtain ⟨p, q, rfl, _, f0, f1, f2⟩ := (HM.out.next HD.out).at hm'; obtain ⟨p', q', rfl, _, g0, g1, g2⟩ := (HM'.out.next HD.out).at hm'; clear hm'; go_wp2
              go_quiet (fail)
              have HD2 := hid (jaE HD.out nq); go_wp2
              go_roundw
              case rel => first | exact ⟨k + 1, by omega, by go_num, HD2⟩ | ((repeat apply Exists.intro); exact ⟨⟨k + 1, by omega, by go_num, HD2⟩, rfl⟩)
              case measure => simp [intOf]; omega
            · have k1 : ¬ (k : Int) < (x.mails.length : Int) := by omega
              have HC2 := hid (show Below w0.heap.size w0 wr from HC.out.trans ((HB2.out.trans (HD.out.mono HB2.out.size)).mono HC.out.size)); go_wp2
              go_roundw
              case rel => first | exact ⟨j + 1, by omega, by go_num, HC2⟩ | ((repeat apply Exists.intro); exact ⟨⟨j + 1, by omega, by go_num, HC2⟩, rfl⟩)
              case measure => simp [intOf]; omega
        · have j1 : ¬ (j : Int) < (s.boxes.length : Int) := by omega
          have HE := hid (show Below w.heap.size w wr from (HB1.out.trans (HB.out.mono HB1.out.size)).trans (HC.out.mono (Nat.le_trans HB1.out.size HB.out.size))); go_wp2; go_ret; exact ⟨rfl, HE.out⟩
theorem jdm (l : List UInt8) : wordy (zU l) := by
 refine ⟨?_, zA l, ?_⟩
 · unfold zU jbE; split
   · simp
   · rename_i h; cases l with
     | nil => exact absurd rfl h
     | cons c t => simp
 · intro c hc; unfold zU at hc; split at hc
   · simp at hc; subst hc; decide
   · obtain ⟨x, _, rfl⟩ := List.mem_map.1 hc; have := jcC x; omega
def ja6 (l d : List UInt8) : Adr := (zU l, zU d ++ orgL)
theorem vG (l d : List UInt8) : lawful (ja6 l d) := ⟨jdm l, _, jdm d, rfl⟩
theorem jlN (l : List UInt8) : S l ++ ⟨#[46, 111, 114, 103]⟩ = S (l ++ orgL) := by
 rw [← zZ (S l ++ ⟨#[46, 111, 114, 103]⟩)]
 simp [jt, orgL]
theorem jbR (l d g : ByteArray) (w : World) (hl : l.size ≤ maxLen) (hd : d.size ≤ maxLen) :
 Calls Tryz.prog 17 #[.agg #[.string l, .string d, .string g]] w fun e w' => e = .returned (.agg #[.string (S (ja6 l.data.toList d.data.toList).1), .string (S (ja6 l.data.toList d.data.toList).2)]) ∧ Below w.heap.size w w' := by
 have HL : Hid _ := hl; have HD : Hid _ := hd; clear hl hd; obtain ⟨x, hx⟩ : ∃ x, x = zU l.data.toList := ⟨_, rfl⟩; obtain ⟨y, hy⟩ : ∃ y, y = zU d.data.toList := ⟨_, rfl⟩; have sx : (S x).size ≤ 8 := by rw [ju, hx]; exact zA _
 have sy : (S y).size ≤ 8 := by rw [ju, hy]; exact zA _
 have HA : Hid (ja6 l.data.toList d.data.toList = (x, y ++ orgL)) := by unfold Hid ja6; rw [hx, hy]
 have HO : Hid (S y ++ ⟨#[46, 111, 114, 103]⟩ = S (y ++ orgL)) := jlN y; have HX : Hid _ := hx; have HY : Hid _ := hy; clear hx hy; obtain ⟨W0, hW0⟩ : ∃ W0, W0 = (w.alloc (.cells #[.string l, .string d, .string g] 24)).alloc (.cells #[.string ⟨#[]⟩, .string ⟨#[]⟩] 35) := ⟨_, rfl⟩; have hB0 : Below w.heap.size w W0 := by rw [hW0]; exact (nb0 _ _).alloc (by simp) _
 have hz0 : w.heap.size + 2 = W0.heap.size := by rw [hW0]; simp
 have c0 : W0.cell? ⟨w.heap.size, 0, none⟩ = some (.string l) := by rw [hW0]; simp
 have c1 : W0.cell? ⟨w.heap.size, 1, none⟩ = some (.string d) := by rw [hW0]; simp
 have r0 : W0.cell? ⟨w.heap.size + 1, 0, none⟩ = some (.string ⟨#[]⟩) := by rw [hW0]; simp
 have r1 : W0.cell? ⟨w.heap.size + 1, 1, none⟩ = some (.string ⟨#[]⟩) := by rw [hW0]; simp
 have f0 : W0.frozen? ⟨w.heap.size + 1, 0, none⟩ = false := by rw [hW0]; simp
 have f1 : W0.frozen? ⟨w.heap.size + 1, 1, none⟩ = false := by rw [hW0]; simp
 have HW : Hid _ := hW0; clear hW0; go_enter Tryz.func17, Tryz.ntmps17; go_wp2; rw [← HW.out]; have cD0 : W0.drew.cell? ⟨w.heap.size, 0, none⟩ = some (.string l) := c0; have cD1 : W0.drew.cell? ⟨w.heap.size, 1, none⟩ = some (.string d) := c1; have hadd : ¬ 9223372036854775807 < (S y).size + 4 := by omega
 have hne : w.heap.size ≠ w.heap.size + 1 := by omega
 have hne' : w.heap.size + 1 ≠ w.heap.size := by omega
 go_region_held3 (fun w' => w'.cell? ⟨w.heap.size, 0, none⟩ = some (.string l) ∧ w'.cell? ⟨w.heap.size, 1, none⟩ = some (.string d)) (go_keep)
  (first
    | (go_at_call_of 28 (Value.string l)
       refine (jan l _ HL.out).mono ?_; rintro e w1 ⟨rfl, hb1⟩; rw [← HX.out]; have e0 : w1.cell? ⟨w.heap.size, 0, none⟩ = some (.string l) := jb (w := W0.drew) c0 hb1; have e1 : w1.cell? ⟨w.heap.size, 1, none⟩ = some (.string d) := jb (w := W0.drew) c1 hb1; have s1 : w.heap.size + 1 < w1.heap.size := by have := hb1.size; have h2 : W0.drew.heap.size = W0.heap.size := rfl; omega)
    | (go_at_call_of 28 (Value.string d)
       refine (jan d _ HD.out).mono ?_; rintro e w2 ⟨rfl, hb2⟩; rw [← HY.out]; have hz2 := hb2.size; have i0 : w2.cell? ⟨w.heap.size, 0, none⟩ = some (.string l) := jb e0 hb2; have i1 : w2.cell? ⟨w.heap.size, 1, none⟩ = some (.string d) := jb e1 hb2; have g0 : w2.cell? ⟨w.heap.size + 1, 0, none⟩ = some (.string ⟨#[]⟩) := jb (jb (w := W0.drew) r0 hb1) hb2; have g1 : w2.cell? ⟨w.heap.size + 1, 1, none⟩ = some (.string ⟨#[]⟩) := jb (jb (w := W0.drew) r1 hb1) hb2; have k0 : w2.frozen? ⟨w.heap.size + 1, 0, none⟩ = false := (hb2.frozen s1).trans ((hb1.frozen (by show w.heap.size + 1 < W0.heap.size; omega)).trans f0); have k1 : w2.frozen? ⟨w.heap.size + 1, 1, none⟩ = false := (hb2.frozen s1).trans ((hb1.frozen (by show w.heap.size + 1 < W0.heap.size; omega)).trans f1)))
 rw [HO.out]; have hB2 : Below w.heap.size w ((w2.setCell ⟨w.heap.size + 1, 0, none⟩ (.string (S x))).setCell ⟨w.heap.size + 1, 1, none⟩ (.string (S (y ++ orgL)))) :=
  ((jd7 (jd7 hB0.drew hb1 (Nat.le_refl _)) hb2 (Nat.le_refl _)).setCell (by simp) _).setCell (by simp) _
 have HB2 : Hid _ := hB2; clear hB2; go_wp2; refine bodyPost_ret (v := .agg #[.string (S x), .string (S (y ++ orgL))]) (by simp [results, Tryz.results17, go_sem, g0, g1]) rfl ⟨?_, HB2.out⟩; rw [HA.out]
def joX : List UInt8 := [83, 117, 98, 106, 101, 99, 116]
def toL : List UInt8 := [116, 111]
def annL : List UInt8 := [65, 110, 110, 32, 60, 97, 110, 110, 64, 120, 46, 121, 62, 44, 32, 98, 64, 99]
def vo (n : Nat) : List UInt8 := if n % 5 = 0 then joX else if n % 5 = 1 then toL else if n % 5 = 2 then [70, 114, 111, 109] else if n % 5 = 3 then [99, 99] else [88]
def ltrF (f : F) : F := (vo f.2.length, if f.2.length % 5 = 1 ∧ f.2.length % 2 = 1 then annL else f.2)
def qR (fs : List F) (k : Nat) : List F := (fs.take k).map ltrF ++ fs.drop k
theorem zN (fs : List F) (k : Nat) : (qR fs k).length = fs.length := by simp [qR]; omega
theorem jjt {fs : List F} {k : Nat} {f : F} (h : fs[k]? = some f) : (qR fs k)[k]? = some f := by
 have hk := (List.getElem?_eq_some_iff.1 h).1; unfold qR; rw [List.getElem?_append_right (by simp; omega)]
 simp [Nat.min_eq_left (Nat.le_of_lt hk), h]
theorem jbf {fs : List F} {k : Nat} {f : F} (h : fs[k]? = some f) : (qR fs k).set k (ltrF f) = qR fs (k + 1) := by
 obtain ⟨hk, e⟩ := List.getElem?_eq_some_iff.1 h; unfold qR; rw [List.set_append_right _ _ (by simp; omega), qh h, List.map_append]; simp only [List.length_map, List.length_take, Nat.min_eq_left (Nat.le_of_lt hk), Nat.sub_self]; rw [List.drop_eq_getElem_cons hk, List.set_cons_zero]
 simp
theorem jfo {fs : List F} {i : Nat} {f : F} (h : fs[i]? = some f) (v : List UInt8) : (zo fs).set (i * 2) (.string (S v)) = zo (fs.set i (v, f.2)) := by
 induction fs generalizing i with
 | nil => simp at h
 | cons g fs ih =>
   cases i with
   | zero => simp at h; subst h; simp [zo]
   | succ i =>
     have := ih (i := i) (by simpa using h); have e1 : (i + 1) * 2 = (i * 2) + 2 := by omega
     rw [e1]
     simpa [zo] using this
theorem jop {n : Nat} : ∀ h, ([Value.string { data := #[83, 117, 98, 106, 101, 99, 116] }, Value.string { data := #[116, 111] }, Value.string { data := #[70, 114, 111, 109] }, Value.string { data := #[99, 99] }, Value.string { data := #[88] }] : List Value)[n % 5]'h = .string (S (vo n)) := by
 unfold vo; have h : n % 5 < 5 := Nat.mod_lt _ (by omega); generalize n % 5 = q at *
 match q, h with
 | 0, _ | 1, _ | 2, _ | 3, _ | 4, _ => intro _; rfl
theorem jjn {w : World} {B C : Nat} {v : Value} {fs : List F} (h : OwnF w B v fs) (hC : C ≤ B) : OwnF w C v fs := by
 refine ⟨h.1, ?_⟩
 rcases h.2 with h' | ⟨g, cap, cur, h1, h2, r⟩
 · exact .inl h'
 · exact .inr ⟨g, cap, cur, h1, Nat.le_trans hC h2, r⟩
theorem jjN {w : World} {B : Nat} {a : Option Addr} {n c : Nat} {fs : List F} (h : OwnF w B (.slice a n c) fs) : ∀ g o q, a = some ⟨g, o, q⟩ → B ≤ g ∧ g < w.heap.size := by
 intro g o q e; subst e; exact World.ownsRow.lt h g rfl
def jil (w W0 : World) (M : List F) (bd : ByteArray) (p : Value) (wx : World) : Prop := ∃ (P : Nat) (a1 : Option Addr) (c1 : Nat), p = .pointer (some ⟨P, 0, none⟩) ∧ w.heap.size + 2 ≤ P ∧ wx.cell? ⟨P, 0, none⟩ = some (.slice a1 M.length c1) ∧ wx.cell? ⟨P, 1, none⟩ = some (.string bd) ∧ OwnF wx (w.heap.size + 2) (.slice a1 M.length c1) M ∧ (∀ g o q, a1 = some ⟨g, o, q⟩ → g ≠ P) ∧ Below (w.heap.size + 2) W0 wx
def LtrRow (w W0 : World) (P g k c1 n : Nat) (bd : ByteArray) (f : F) (L : List F) (N : List UInt8) (wx : World) : Prop :=
 wx.cell? ⟨P, 0, none⟩ = some (.slice (some ⟨g, 0, none⟩) n c1) ∧ wx.cell? ⟨P, 1, none⟩ = some (.string bd) ∧ wx.cell? ⟨g, k * 2, none⟩ = some (.string (S N)) ∧ wx.cell? ⟨g, k * 2 + 1, none⟩ = some (.string (S f.2)) ∧ wx.frozen? ⟨g, k * 2 + 1, none⟩ = false ∧ Hid (OwnF wx (w.heap.size + 2) (.slice (some ⟨g, 0, none⟩) n c1) (L.set k (N, f.2))) ∧ Hid (Below (w.heap.size + 2) W0 wx)
theorem LtrRow.drew {w W0 : World} {P g k c1 n : Nat} {bd : ByteArray} {f : F} {L : List F} {N : List UInt8} {wx : World} (h : LtrRow w W0 P g k c1 n bd f L N wx) : LtrRow w W0 P g k c1 n bd f L N wx.drew := by
 obtain ⟨h1, h2, h3, h4, h5, h6, h7⟩ := h; exact ⟨h1, h2, h3, h4, h5, h6, h7.out.drew⟩
def LtrR (w : World) (x y : Adr) (tx : List UInt8) (e : Ending) (w' : World) : Prop :=
 e = .returned (.tuple #[.agg #[.string (S x.1), .string (S x.2), .string (S y.1), .string (S y.2), .string (S tx)], .bool true]) ∧ Below w.heap.size w w'
theorem jhD (fl fd fg tl td tg : ByteArray) (a : Option Addr) (c : Nat) (fs : List F) (body : ByteArray) (w : World) (hF : FieldsAt w a fs) (hl : fs.length ≤ maxLen) (hb : ∀ f ∈ fs, f.1.length ≤ maxLen ∧ f.2.length ≤ maxLen) (hbody : body.size ≤ maxLen) (h1 : fl.size ≤ maxLen) (h2 : fd.size ≤ maxLen) (h3 : tl.size ≤ maxLen) (h4 : td.size ≤ maxLen) (hm : maxLenCell w) (hlen : ∀ f ∈ msgK fs 6, f.2.length ≤ 40)
 (M : List F) (hM : M = (msgK fs 6).map ltrF) (bd : ByteArray) (hbd : bd = cutB (cutB body 100) 200) (hmild : Mild M bd) (hfault : qe M bd.data.toList = 0) (hsz : 2 ≤ (jat M bd.data.toList).length ∧ (jat M bd.data.toList).length ≤ 2000) :
 Calls Tryz.prog 5 #[.agg #[.string fl, .string fd, .string fg, .string tl, .string td, .string tg, .slice a fs.length c, .string body]] w (LtrR w (ja6 fl.data.toList fd.data.toList) (ja6 tl.data.toList td.data.toList) (jat M bd.data.toList)) := by
 have HF := hid hF; have HL := hid hl; have HB := hid hb; have HY := hid hbody; have H1 := hid h1; have H2 := hid h2; have H3 := hid h3; have H4 := hid h4; have HMC := hid hm; have HLN := hid hlen; have HMI := hid hmild; have HFT := hid hfault; have HSZ := hid hsz; have HME := hid hM; have HBE := hid hbd; have HC100 := hid (show (cutB body 100).size ≤ maxLen by rw [jaI]; unfold maxLen; omega); clear hF hl hb hbody h1 h2 h3 h4 hm hlen hmild hfault hsz hM hbd; obtain ⟨W0, hW0⟩ : ∃ W0, W0 = (w.alloc (.cells #[.string fl, .string fd, .string fg, .string tl, .string td, .string tg, .slice a fs.length c, .string body] 27)).alloc (.cells #[.string ⟨#[]⟩, .string ⟨#[]⟩, .string ⟨#[]⟩, .string ⟨#[]⟩, .string ⟨#[]⟩] 37) := ⟨_, rfl⟩; have HWE := hid hW0; have HB0 := hid (show Below w.heap.size w W0 by rw [hW0]; exact (nb0 _ _).alloc (by simp) _); have HZ0 := hid (show W0.heap.size = w.heap.size + 2 by rw [hW0]; simp); have hP : W0.heap[w.heap.size]? = some (.cells #[.string fl, .string fd, .string fg, .string tl, .string td, .string tg, .slice a fs.length c, .string body] 27) := by
  rw [hW0]; have := heap_alloc_new w (.cells #[.string fl, .string fd, .string fg, .string tl, .string td, .string tg, .slice a fs.length c, .string body] 27)
  show (Array.push _ _)[_]? = _
  rw [Array.getElem?_push_lt (by simp), ← Array.getElem?_eq_getElem (by simp)]; exact this
 have HP0 := hid hP; have HR0 := hid (show W0.heap[w.heap.size + 1]? = some (.cells #[.string ⟨#[]⟩, .string ⟨#[]⟩, .string ⟨#[]⟩, .string ⟨#[]⟩, .string ⟨#[]⟩] 37) by
  rw [hW0]; have := heap_alloc_new (w.alloc (.cells #[.string fl, .string fd, .string fg, .string tl, .string td, .string tg, .slice a fs.length c, .string body] 27)) (.cells #[.string ⟨#[]⟩, .string ⟨#[]⟩, .string ⟨#[]⟩, .string ⟨#[]⟩, .string ⟨#[]⟩] 37)
  simpa using this)
 have p6 : W0.cell? ⟨w.heap.size, 6, none⟩ = some (.slice a fs.length c) := by simp [World.cell?, hP]
 have p7 : W0.cell? ⟨w.heap.size, 7, none⟩ = some (.string body) := by simp [World.cell?, hP]
 clear hW0 hP; have HBX := hid (show Below w.heap.size w (W0.alloc (.cells #[.slice none 0 0, .string ⟨#[]⟩] 61)).drew from (HB0.out.alloc HB0.out.size _).drew); have p6a := qr p6 (.cells #[.slice none 0 0, .string ⟨#[]⟩] 61); have p7a := qr p7 (.cells #[.slice none 0 0, .string ⟨#[]⟩] 61); have HA0 := hid (show (W0.alloc (.cells #[.slice none 0 0, .string ⟨#[]⟩] 61)).drew.cell? ⟨W0.heap.size, 0, none⟩ = some (.slice none 0 0) by simp); have HA1 := hid (show (W0.alloc (.cells #[.slice none 0 0, .string ⟨#[]⟩] 61)).drew.cell? ⟨W0.heap.size, 1, none⟩ = some (.string ⟨#[]⟩) by simp); have HAF := hid (show ∀ j, (W0.alloc (.cells #[.slice none 0 0, .string ⟨#[]⟩] 61)).drew.frozen? ⟨W0.heap.size, j, none⟩ = false by intro j; simp); go_enter Tryz.func5, Tryz.ntmps5; go_wp2; rw [← HWE.out]
 go_cut [4] (fun p wx => jil w W0 (msgK fs 6) bd p wx)
 case first =>
  go_region_law
   (first
        | (go_simp
           go_at_call 14
           refine (jb4 body 100 _ HY.out (by omega)).mono ?_; rintro e u ⟨rfl, hu⟩; have hu' := hu.symm; subst hu')
        | (go_simp
           go_at_call 13
           refine (jbo a c fs (cutB body 100) W0.drew (HF.out.below HB0.out.drew) HL.out HB.out HC100.out).mono ?_; rintro e w1 ⟨a1, c1, rfl, hF1, hO1, hb1⟩)
        | (go_simp
           go_at_call 13
           refine (jbo a c fs (cutB body 100) (W0.alloc (.cells #[.slice none 0 0, .string ⟨#[]⟩] 61)).drew (HF.out.below HBX.out) HL.out HB.out HC100.out).mono ?_; rintro e w1 ⟨a1, c1, rfl, hF1, hO1, hb1⟩; have s0 := jN HA0.out hb1; have s1 := jN HA1.out hb1; have t0 := (hb1.frozen (p := ⟨W0.heap.size, 0, none⟩) (by simp)).trans (HAF.out 0); have t1 := (hb1.frozen (p := ⟨W0.heap.size, 1, none⟩) (by simp)).trans (HAF.out 1)))
  all_goals
   have HB1 := hid hb1; have HO1 := hid hO1; clear hb1 hO1 hF1
   first
        | (have HBA := hid (show Below (W0.heap.size + 1) (W0.alloc (.cells #[.slice none 0 0, .string ⟨#[]⟩] 61)).drew w1 from HB1.out.mono (by simp))
           have HOA := hid (show OwnF w1 (W0.heap.size + 1) _ _ from jjn HO1.out (by simp)); have HEnd := hid (show jil w W0 (msgK fs 6) bd (.pointer (some ⟨W0.heap.size, 0, none⟩)) ((w1.setCell ⟨W0.heap.size, 0, none⟩ (.slice a1 (msgK fs 6).length c1)).setCell ⟨W0.heap.size, 1, none⟩ (.string (cutB (cutB body 100) 200))) from by
            have hz := HZ0.out; refine ⟨W0.heap.size, a1, c1, rfl, by omega, ?_, ?_, ?_, ?_, ?_⟩
            · exact (World.cell?_setCell_other _ _ _ _ (by simp)).trans (World.cell?_setCell_same' w1 _ _ (by rw [s0]; rfl))
            · rw [HBE.out]; exact World.cell?_setCell_same' _ _ _ (by rw [World.cell?_setCell_other _ _ _ _ (by simp), s1]; rfl)
            · exact jjn ((HOA.out.far (by simp) _).far (by simp) _) (by omega)
            · intro g o q e; have := (jjN HOA.out g o q e).1; omega
            · exact (((((Below.refl (w.heap.size + 2) W0).alloc (by omega) _).drew).trans (HBA.out.mono (by omega))).setCell (by simp; omega) _).setCell (by simp; omega) _)
           go_wp2_with fail
           go_meet
           exact HEnd.out)
        | (have HEnd := hid (show jil w W0 (msgK fs 6) bd (.pointer (some ⟨w1.heap.size, 0, none⟩)) (w1.alloc (.cells #[.slice a1 (msgK fs 6).length c1, .string (cutB (cutB body 100) 200)] 61)) from by
            have hz := HZ0.out; have hs := HB1.out.size; have hs' : W0.heap.size ≤ w1.heap.size := hs; refine ⟨w1.heap.size, a1, c1, rfl, by omega, by simp, by rw [HBE.out]; simp, jjn (World.ownsRow.alloc HO1.out _) (by simp; omega), ?_, ?_⟩
            · intro g o q e; have := (jjN HO1.out g o q e).2; omega
            · exact ((((Below.refl (w.heap.size + 2) W0).drew).trans (HB1.out.mono (by simp; omega)))).alloc (by omega) _)
           go_wp2_with fail
           go_meet
           exact HEnd.out)
 case rest =>
  obtain ⟨P, a1, c1, rfl, hPl, q0, q1, hO, hne, hBW⟩ := hcut; have HO := hid hO; have HNE := hid hne; have HBW := hid hBW; obtain ⟨M0, hM0⟩ : ∃ M0, M0 = msgK fs 6 := ⟨_, rfl⟩; rw [← hM0] at HO q0 HME HLN; have hl6 : M0.length ≤ 6 := by rw [hM0]; simp [msgK]; omega
  clear hO hne hBW hM0 p6 p7 p6a p7a; go_wp2
  go_loopw [5] (fun i wr => ∃ k : Nat, k ≤ M0.length ∧ i = .int .i64 k ∧ wr.cell? ⟨P, 0, none⟩ = some (.slice a1 M0.length c1) ∧ wr.cell? ⟨P, 1, none⟩ = some (.string bd) ∧ Hid (OwnF wr (w.heap.size + 2) (.slice a1 M0.length c1) (qR M0 k)) ∧ Hid (Below (w.heap.size + 2) W0 wr)) (fun i _ => M0.length - (intOf i).toNat)
  case atStart => exact ⟨0, Nat.zero_le _, rfl, q0, q1, by simpa [qR] using HO, HBW⟩
  case round =>
   obtain ⟨k, hk, rfl, v0, v1, HOk, HBk⟩ := hrel
   by_cases hlt : k < M0.length
   · obtain ⟨f, hf⟩ : ∃ f, M0[k]? = some f := ⟨_, List.getElem?_eq_getElem hlt⟩; have hf40 := HLN.out f (List.mem_of_getElem? hf); have hg := jjt hf; have hO3 : OwnF wr (w.heap.size + 2) (.slice a1 (qR M0 k).length c1) (qR M0 k) := by rw [zN]; exact HOk.out
     obtain ⟨g, off, rfl, hgl, r1, r2⟩ := (OwnF.fields hO3) k f hg; obtain ⟨g', cap', e, hBg, _⟩ := hO3.form (by rintro e0; rw [e0] at hg; simp at hg); simp only [Value.slice.injEq, Option.some.injEq, Addr.mk.injEq, and_true] at e; obtain ⟨⟨rfl, rfl⟩, -, rfl⟩ := e; rw [Nat.zero_add] at r1 r2; have hgP : g ≠ P := HNE.out g 0 none rfl; have hPg : P ≠ g := fun e => hgP e.symm
     have hz2 := HBk.out.size; have HPK := hid (show jp ((S f.2).size : Int) 5 = f.2.length % 5 by rw [ju]; unfold jp; rw [if_neg (by omega)]; omega); have z0 := (World.ownsRow.frozenAt hO3 (k * 2)); have z1 := (World.ownsRow.frozenAt hO3 (k * 2 + 1)); have i1 : (k : Int) < (M0.length : Int) := by omega
     have i0 : (0 : Int) ≤ (k : Int) := by omega
     have HWF := hid (show (Lit.int .i64 ((S f.2).size : Int)).wf = true from WalkArith.wf_i64 (by rw [ju]; omega)); obtain ⟨N, hN⟩ : ∃ N, N = vo f.2.length := ⟨_, rfl⟩; have HN := hid hN; have HST := hid (show LtrRow w W0 P g k c1 M0.length bd f (qR M0 k) N ((wr.setCell ⟨g, k * 2, none⟩ (.string (S N))).alloc (.cells #[.string ⟨#[83, 117, 98, 106, 101, 99, 116]⟩, .string ⟨#[116, 111]⟩, .string ⟨#[70, 114, 111, 109]⟩, .string ⟨#[99, 99]⟩, .string ⟨#[88]⟩] 9)) from by
      have hPs : P < wr.heap.size := World.block_lt_of_cell? wr _ v0; have hsz : (wr.setCell ⟨g, k * 2, none⟩ (.string (S N))).heap.size = wr.heap.size := by simp
      have old : ∀ (b j : Nat), b < wr.heap.size → ((wr.setCell ⟨g, k * 2, none⟩ (.string (S N))).alloc (.cells #[.string ⟨#[83, 117, 98, 106, 101, 99, 116]⟩, .string ⟨#[116, 111]⟩, .string ⟨#[70, 114, 111, 109]⟩, .string ⟨#[99, 99]⟩, .string ⟨#[88]⟩] 9)).cell? ⟨b, j, none⟩ = (wr.setCell ⟨g, k * 2, none⟩ (.string (S N))).cell? ⟨b, j, none⟩ := fun b j hb =>
           ((Below.refl _ (wr.setCell ⟨g, k * 2, none⟩ (.string (S N)))).alloc (Nat.le_refl _) _).cell (p := ⟨b, j, none⟩) (by rw [hsz]; exact hb)
      have far : ∀ (b j : Nat), b < wr.heap.size → (b ≠ g ∨ j ≠ k * 2) → ((wr.setCell ⟨g, k * 2, none⟩ (.string (S N))).alloc (.cells #[.string ⟨#[83, 117, 98, 106, 101, 99, 116]⟩, .string ⟨#[116, 111]⟩, .string ⟨#[70, 114, 111, 109]⟩, .string ⟨#[99, 99]⟩, .string ⟨#[88]⟩] 9)).cell? ⟨b, j, none⟩ = wr.cell? ⟨b, j, none⟩ := fun b j hb hne => by
           rw [old b j hb, World.cell?_setCell_other _ _ _ _ (by intro e; cases e; omega)]
      refine ⟨(far P 0 hPs (.inl hPg)).trans v0, (far P 1 hPs (.inl hPg)).trans v1, ?_, (far g (k * 2 + 1) hgl (.inr (by omega))).trans r2, ?_, ?_, ?_⟩
      · rw [old g (k * 2) hgl]; exact World.cell?_setCell_same' _ _ _ (by rw [r1]; rfl)
      · have h := ((Below.refl _ (wr.setCell ⟨g, k * 2, none⟩ (.string (S N)))).alloc (Nat.le_refl _) (.cells #[.string ⟨#[83, 117, 98, 106, 101, 99, 116]⟩, .string ⟨#[116, 111]⟩, .string ⟨#[70, 114, 111, 109]⟩, .string ⟨#[99, 99]⟩, .string ⟨#[88]⟩] 9)).frozen (p := ⟨g, k * 2 + 1, none⟩) (by rw [hsz]; exact hgl); refine h.trans ?_
        simpa using z1
      · have := World.ownsRow.alloc (jdR hO3 (k * 2) (.string (S N))) (.cells #[.string ⟨#[83, 117, 98, 106, 101, 99, 116]⟩, .string ⟨#[116, 111]⟩, .string ⟨#[70, 114, 111, 109]⟩, .string ⟨#[99, 99]⟩, .string ⟨#[88]⟩] 9); rw [jfo hg] at this; unfold Hid OwnF; rw [zN] at this; rw [List.length_set, zN]; exact this
      · exact (HBk.out.setCell (by simp; omega) _).alloc (by rw [hsz]; have := HBk.out.size; have := HZ0.out; omega) _)
     have v0a := qr v0 (.cells #[.string ⟨#[83, 117, 98, 106, 101, 99, 116]⟩, .string ⟨#[116, 111]⟩, .string ⟨#[70, 114, 111, 109]⟩, .string ⟨#[99, 99]⟩, .string ⟨#[88]⟩] 9); have r1a := qr r1 (.cells #[.string ⟨#[83, 117, 98, 106, 101, 99, 116]⟩, .string ⟨#[116, 111]⟩, .string ⟨#[70, 114, 111, 109]⟩, .string ⟨#[99, 99]⟩, .string ⟨#[88]⟩] 9); have r2a := qr r2 (.cells #[.string ⟨#[83, 117, 98, 106, 101, 99, 116]⟩, .string ⟨#[116, 111]⟩, .string ⟨#[70, 114, 111, 109]⟩, .string ⟨#[99, 99]⟩, .string ⟨#[88]⟩] 9); have z0a : (wr.alloc (.cells #[.string ⟨#[83, 117, 98, 106, 101, 99, 116]⟩, .string ⟨#[116, 111]⟩, .string ⟨#[70, 114, 111, 109]⟩, .string ⟨#[99, 99]⟩, .string ⟨#[88]⟩] 9)).frozen? ⟨g, k * 2, none⟩ = false := (((Below.refl wr.heap.size wr).alloc (Nat.le_refl _) (.cells #[.string ⟨#[83, 117, 98, 106, 101, 99, 116]⟩, .string ⟨#[116, 111]⟩, .string ⟨#[70, 114, 111, 109]⟩, .string ⟨#[99, 99]⟩, .string ⟨#[88]⟩] 9)).frozen (p := ⟨g, k * 2, none⟩) hgl).trans z0; have hgw : g ≠ wr.heap.size := by omega
     have HK := hid hf; have HG := hid hg; clear hf hg hO3 hN; go_wp2
     go_cut [34] (fun x wx => LtrRow w W0 P g k c1 M0.length bd f (qR M0 k) N wx)
     case first =>
      have hq5 : f.2.length % 5 < 5 := Nat.mod_lt _ (by omega); have hat := jop (n := f.2.length); rw [← HN.out] at hat; generalize f.2.length % 5 = q at *; have hq1 : (q : Int) < 5 := by omega
      have hq0 : (0 : Int) ≤ (q : Int) := by omega
      go_region_law
           (go_simp
            go_at_call 15
            refine (jf ((S f.2).size : Int) 5 _ HWF.out (by omega) (by omega)).mono ?_; rw [HPK.out]; rintro e u ⟨rfl, hu⟩; have hu' := hu.symm; subst hu')
      all_goals
           go_wp2_with fail
           go_meet
           first
            | exact HST.out
            | exact LtrRow.drew HST.out
     case rest =>
      obtain ⟨e0, e1, e2, e3, e4, HOn, HBn⟩ := hcut; clear v0a r1a r2a z0a z0 z1 r1 r2 v0 v1 HST; have hn0 : (0 : Int) ≤ ((S f.2).size : Int) := by omega
      by_cases h5 : f.2.length % 5 = 1
      · have hN : N = toL := by rw [HN.out]; unfold vo; simp [h5]
        have hT : ((S N).toList == [116, 111]) = true := by rw [hN, Lib.toList_data, jt]; rfl
        by_cases h2 : f.2.length % 2 = 1
        · have hp : (((S f.2).size : Int) % 2 == 1) = true := by rw [ju]; simp; omega
          have HE := hid (show OwnF (wc.setCell ⟨g, k * 2 + 1, none⟩ (.string ⟨#[65, 110, 110, 32, 60, 97, 110, 110, 64, 120, 46, 121, 62, 44, 32, 98, 64, 99]⟩)) (w.heap.size + 2) (.slice (some ⟨g, 0, none⟩) M0.length c1) (qR M0 (k + 1)) from by
             have hs : ((qR M0 k).set k (N, f.2))[k]? = some (N, f.2) := by
               rw [List.getElem?_set_self (by rw [zN]; exact hlt)]
             have ho := HOn.out; unfold OwnF at ho; have hl : ((qR M0 k).set k (N, f.2)).length = M0.length := by rw [List.length_set, zN]
             rw [hl] at ho; have := jdR ho (k * 2 + 1) (.string (S annL)); rw [ja7 hs, List.set_set] at this; have e : (N, annL) = ltrF f := by unfold ltrF; rw [← HN.out, if_pos ⟨h5, h2⟩]
             simp only [e] at this; rw [jbf HK.out] at this; unfold OwnF; rw [zN]; exact this)
          have HF' := hid (show Below (w.heap.size + 2) W0 (wc.setCell ⟨g, k * 2 + 1, none⟩ (.string ⟨#[65, 110, 110, 32, 60, 97, 110, 110, 64, 120, 46, 121, 62, 44, 32, 98, 64, 99]⟩)) from HBn.out.setCell (show w.heap.size + 2 ≤ g by omega) _); have HC0 := hid (show (wc.setCell ⟨g, k * 2 + 1, none⟩ (.string ⟨#[65, 110, 110, 32, 60, 97, 110, 110, 64, 120, 46, 121, 62, 44, 32, 98, 64, 99]⟩)).cell? ⟨P, 0, none⟩ = some (.slice (some ⟨g, 0, none⟩) M0.length c1) from (World.cell?_setCell_other _ _ _ _ (fun e => hgP (congrArg Addr.block e))).trans e0); have HC1 := hid (show (wc.setCell ⟨g, k * 2 + 1, none⟩ (.string ⟨#[65, 110, 110, 32, 60, 97, 110, 110, 64, 120, 46, 121, 62, 44, 32, 98, 64, 99]⟩)).cell? ⟨P, 1, none⟩ = some (.string bd) from (World.cell?_setCell_other _ _ _ _ (fun e => hgP (congrArg Addr.block e))).trans e1); clear h5 h2 hN; go_wp2
          go_roundw
          case rel => exact ⟨k + 1, by omega, by go_num, HC0.out, HC1.out, HE, HF'⟩
          case measure => simp [intOf]; omega
        · have hp : (((S f.2).size : Int) % 2 == 1) = false := by rw [ju]; simp; omega
          have HE := hid (show OwnF wc (w.heap.size + 2) (.slice (some ⟨g, 0, none⟩) M0.length c1) (qR M0 (k + 1)) from by
             have ho := HOn.out; have e : (N, f.2) = ltrF f := by unfold ltrF; rw [← HN.out, if_neg (fun h => h2 h.2)]
             rw [e, jbf HK.out] at ho; exact ho)
          clear h5 h2 hN; go_wp2
          go_roundw
          case rel => exact ⟨k + 1, by omega, by go_num, e0, e1, HE, HBn⟩
          case measure => simp [intOf]; omega
      · have hT : ((S N).toList == [116, 111]) = false := by
         rw [Lib.toList_data, jt, HN.out]; have h : f.2.length % 5 < 5 := Nat.mod_lt _ (by omega); unfold vo; generalize f.2.length % 5 = q at *
         match q, h with
         | 0, _ => rfl
         | 1, _ => exact absurd rfl h5
         | 2, _ => rfl
         | 3, _ => rfl
         | 4, _ => rfl
        have HE := hid (show OwnF wc (w.heap.size + 2) (.slice (some ⟨g, 0, none⟩) M0.length c1) (qR M0 (k + 1)) from by
         have ho := HOn.out; have e : (N, f.2) = ltrF f := by unfold ltrF; rw [← HN.out, if_neg (fun h => h5 h.1)]
         rw [e, jbf HK.out] at ho; exact ho)
        clear h5; go_wp2
        go_roundw
        case rel => exact ⟨k + 1, by omega, by go_num, e0, e1, HE, HBn⟩
        case measure => simp [intOf]; omega
   · have HT := hid (show qR M0 k = M by
      rw [HME.out]; unfold qR; rw [List.take_of_length_le (by omega), List.drop_of_length_le (by omega)]; simp)
     have hlM : M.length = M0.length := by rw [HME.out]; simp
     have HFm := hid (show FieldsAt wr a1 M by
      have := HOk.out; rw [HT.out, ← hlM] at this; exact OwnF.fields this)
     have HBw := hid (show Below w.heap.size w wr from HB0.out.trans (HBk.out.mono (by omega))); have HSH := hid (show Calls Tryz.prog 16 #[.agg #[.slice a1 M0.length c1, .string bd]] wr fun e w' => e = .returned (.tuple #[.string (S (jat M bd.data.toList)), .int .i64 0]) ∧ Below wr.heap.size wr w' by
      have := jnC a1 c1 M bd wr HFm.out HMI.out (maxLenCell_below HMC.out HBw.out) HFT.out; rw [hlM] at this; exact this)
     have HPk := hid (show wr.heap[w.heap.size]? = some (.cells #[.string fl, .string fd, .string fg, .string tl, .string td, .string tg, .slice a fs.length c, .string body] 27) from (HBk.out.block w.heap.size (by omega)).trans HP0.out); have HRk := hid (show wr.heap[w.heap.size + 1]? = some (.cells #[.string ⟨#[]⟩, .string ⟨#[]⟩, .string ⟨#[]⟩, .string ⟨#[]⟩, .string ⟨#[]⟩] 37) from (HBk.out.block (w.heap.size + 1) (by omega)).trans HR0.out); clear hlM; go_wp2_with fail; refine HSH.out.mono ?_; rintro e w2 ⟨rfl, hb2⟩; obtain ⟨T, hT⟩ : ∃ T, T = jat M bd.data.toList := ⟨_, rfl⟩; rw [← hT] at HSZ ⊢; have hT2 : (2 : Int) ≤ ((S T).size : Int) := by rw [ju]; have := HSZ.out.1; omega
     have HTE := hid hT; clear hT HSH; have HB2 := hid (HBw.out.trans (hb2.mono HBw.out.size)); have hP2 := (hb2.block w.heap.size (Array.getElem?_eq_some_iff.1 HPk.out).1).trans HPk.out; have hR2 := (hb2.block (w.heap.size + 1) (Array.getElem?_eq_some_iff.1 HRk.out).1).trans HRk.out; have hz : w.heap.size + 1 < w2.heap.size := (Array.getElem?_eq_some_iff.1 hR2).1; have c0 : w2.drew.cell? ⟨w.heap.size, 0, none⟩ = some (.string fl) := by show w2.cell? _ = _; simp [World.cell?, hP2]
     have c1' : w2.drew.cell? ⟨w.heap.size, 1, none⟩ = some (.string fd) := by show w2.cell? _ = _; simp [World.cell?, hP2]
     have c2 : w2.drew.cell? ⟨w.heap.size, 2, none⟩ = some (.string fg) := by show w2.cell? _ = _; simp [World.cell?, hP2]
     have c3 : w2.drew.cell? ⟨w.heap.size, 3, none⟩ = some (.string tl) := by show w2.cell? _ = _; simp [World.cell?, hP2]
     have c4 : w2.drew.cell? ⟨w.heap.size, 4, none⟩ = some (.string td) := by show w2.cell? _ = _; simp [World.cell?, hP2]
     have c5 : w2.drew.cell? ⟨w.heap.size, 5, none⟩ = some (.string tg) := by show w2.cell? _ = _; simp [World.cell?, hP2]
     have HRB := hid hR2; obtain ⟨X, hX⟩ : ∃ X, X = ja6 fl.data.toList fd.data.toList := ⟨_, rfl⟩; obtain ⟨Y, hY⟩ : ∃ Y, Y = ja6 tl.data.toList td.data.toList := ⟨_, rfl⟩; have HX := hid hX; have HYY := hid hY; rw [← hX, ← hY]; clear hb2 hP2 hR2 hX hY hlt v0 v1 hk; have hne : w.heap.size ≠ w.heap.size + 1 := by omega
     have hne' : w.heap.size + 1 ≠ w.heap.size := by omega
     go_wp2
     go_region_held3 (fun w' => w'.cell? ⟨w.heap.size, 0, none⟩ = some (.string fl) ∧ w'.cell? ⟨w.heap.size, 1, none⟩ = some (.string fd) ∧ w'.cell? ⟨w.heap.size, 2, none⟩ = some (.string fg) ∧ w'.cell? ⟨w.heap.size, 3, none⟩ = some (.string tl) ∧ w'.cell? ⟨w.heap.size, 4, none⟩ = some (.string td) ∧ w'.cell? ⟨w.heap.size, 5, none⟩ = some (.string tg)) (go_keep)
      (first
          | (go_at_call_of 17 (Value.agg #[.string fl, .string fd, .string fg])
             refine (jbR fl fd fg _ H1.out H2.out).mono ?_; rintro e w3 ⟨rfl, hb3⟩; rw [← HX.out]; have d0 := jb (w := w2.drew) c0 hb3; have d1 := jb (w := w2.drew) c1' hb3; have d2 := jb (w := w2.drew) c2 hb3; have d3 := jb (w := w2.drew) c3 hb3; have d4 := jb (w := w2.drew) c4 hb3; have d5 := jb (w := w2.drew) c5 hb3)
          | (go_at_call_of 17 (Value.agg #[.string tl, .string td, .string tg])
             refine (jbR tl td tg _ H3.out H4.out).mono ?_; rintro e w4 ⟨rfl, hb4⟩; rw [← HYY.out]; have i0 := jb d0 hb4; have i1 := jb d1 hb4; have i2 := jb d2 hb4; have i3 := jb d3 hb4; have i4 := jb d4 hb4; have i5 := jb d5 hb4; have HB4 := hid (HB2.out.drew.trans ((hb3.trans (hb4.mono hb3.size)).mono HB2.out.size)); have hR4 := ((hb3.trans (hb4.mono hb3.size)).block (w.heap.size + 1) hz).trans HRB.out; obtain ⟨o0, o1, o2, o3, o4⟩ := bx5 hR4; obtain ⟨k0, k1, k2, k3, k4⟩ := bz5 hR4; clear hR4))
     have HE := hid (show Below w.heap.size w (((((w4.setCell ⟨w.heap.size + 1, 0, none⟩ (.string (S X.1))).setCell ⟨w.heap.size + 1, 1, none⟩ (.string (S X.2))).setCell ⟨w.heap.size + 1, 2, none⟩ (.string (S Y.1))).setCell ⟨w.heap.size + 1, 3, none⟩ (.string (S Y.2))).setCell ⟨w.heap.size + 1, 4, none⟩ (.string (S T))) from
      ((((HB4.out.setCell (by simp) _).setCell (by simp) _).setCell (by simp) _).setCell (by simp) _).setCell (by simp) _)
     go_wp2; refine bodyPost_ret (v := .tuple #[.agg #[.string (S X.1), .string (S X.2), .string (S Y.1), .string (S Y.2), .string (S T)], .bool true]) (by simp [results, Tryz.results5, go_sem, o0, o1, o2, o3, o4]) rfl ?_; exact ⟨by rw [← HX.out, ← HYY.out, ← HTE.out], HE.out⟩
def ltrM (fs : List F) : List F := (msgK fs 6).map ltrF
def ltrB (body : ByteArray) : ByteArray := cutB (cutB body 100) 200
theorem jc7 (n : Nat) : zT (vo n) = true ∧ (vo n).length ≤ 8 := by
 unfold vo; have h : n % 5 < 5 := Nat.mod_lt _ (by omega); generalize n % 5 = q at *
 match q, h with
 | 0, _ | 1, _ | 2, _ | 3, _ | 4, _ => decide
theorem jnY : qI annL = true := by decide +kernel
theorem jlC {f : F} (h : mayF f = true) : mayF (ltrF f) = true := by
 unfold mayF ltrF at *; simp only [Bool.and_eq_true] at *; refine ⟨(jc7 _).1, ?_⟩; split
 · exact jnY
 · exact h.2
theorem jjv (fs : List F) : ∀ f ∈ ltrM fs, mayF f = true := by
 intro f hf; obtain ⟨g, hg, rfl⟩ := List.mem_map.1 hf; exact jlC (jnq fs g hg)
theorem jgp (fs : List F) : ∀ f ∈ ltrM fs, f.1.length ≤ 8 ∧ f.2.length ≤ 40 := by
 intro f hf; obtain ⟨g, hg, rfl⟩ := List.mem_map.1 hf; refine ⟨(jc7 _).2, ?_⟩; unfold ltrF; simp only; split
 · decide
 · exact (jgs fs g hg).2
theorem jdL (fs : List F) : (ltrM fs).length ≤ 6 := by
 have := jnp fs; unfold ltrM; rw [List.length_map]; exact this
theorem jjx (fs : List F) : sumF (ltrM fs) ≤ 312 := by
 have key : ∀ l : List F, (∀ f ∈ l, f.1.length ≤ 8 ∧ f.2.length ≤ 40) → sumF l ≤ l.length * 52 := by
  intro l
  induction l with
  | nil => intro _; simp [sumF]
  | cons f l ih =>
    intro h; have h1 := h f (by simp); have h2 := ih fun g hg => h g (by simp [hg])
    have e : sumF (f :: l) = jbD f + sumF l := by simp [sumF]
    rw [e]; simp only [jbD, List.length_cons]; omega
 have := key _ (jgp fs); have := jdL fs; omega
theorem jcj (body : ByteArray) : (ltrB body).size ≤ 100 := by unfold ltrB; rw [jaI, jaI]; omega
theorem jju (fs : List F) (body : ByteArray) : qe (ltrM fs) (ltrB body).data.toList = 0 := by
 have h1 := jdL fs; have h2 := jjx fs; have h3 := jcj body; rw [← size_list] at h3; unfold qe; rw [if_neg (by omega), if_neg (by simpa using jjv fs), if_neg (by omega)]
theorem jgq (fs : List F) (body : ByteArray) : 2 ≤ (jat (ltrM fs) (ltrB body).data.toList).length ∧ (jat (ltrM fs) (ltrB body).data.toList).length ≤ 500 := by
 have h2 := jjx fs; have h3 := jcj body; rw [← size_list] at h3; rw [jeD]; omega
theorem jjw (fs : List F) (body : ByteArray) : zE (jat (ltrM fs) (ltrB body).data.toList) = (ltrM fs, (ltrB body).data.toList, 0, 0) := by
 have h := jgq fs body; have h1 := jdL fs; unfold zE; rw [if_neg (by omega)]; exact jhT (jjv fs) (by omega)
def ltrO (fl fd tl td : ByteArray) (fs : List F) (body : ByteArray) : Opn :=
 ⟨(ja6 fl.data.toList fd.data.toList).1, (ja6 fl.data.toList fd.data.toList).2, (ja6 tl.data.toList td.data.toList).1, (ja6 tl.data.toList td.data.toList).2, jat (ltrM fs) (ltrB body).data.toList, ltrM fs, (ltrB body).data.toList⟩
theorem jhJ (fl fd tl td : ByteArray) (fs : List F) (body : ByteArray) : jau (ltrO fl fd tl td fs body) := by
 unfold jau jch ltrO; simp only; rw [if_neg (by rw [(vG _ _).check]; simp), if_neg (by rw [(vG _ _).check]; simp), jjw]
def LtrP (w : World) (o : Opn) (e : Ending) (w' : World) : Prop :=
 e = .returned (.tuple #[.agg #[.string (S o.fl), .string (S o.fd), .string (S o.tl), .string (S o.td), .string (S o.tx)], .bool true]) ∧ Below w.heap.size w w'
theorem jjo (fl fd fg tl td tg : ByteArray) (a : Option Addr) (c : Nat) (fs : List F) (body : ByteArray) (w : World) (hF : FieldsAt w a fs) (hl : fs.length ≤ maxLen) (hb : ∀ f ∈ fs, f.1.length ≤ maxLen ∧ f.2.length ≤ maxLen) (hbody : body.size ≤ maxLen) (h1 : fl.size ≤ maxLen) (h2 : fd.size ≤ maxLen) (h3 : tl.size ≤ maxLen) (h4 : td.size ≤ maxLen) (hm : maxLenCell w) :
 Calls Tryz.prog 5 #[.agg #[.string fl, .string fd, .string fg, .string tl, .string td, .string tg, .slice a fs.length c, .string body]] w (LtrP w (ltrO fl fd tl td fs body)) :=
 jhD fl fd fg tl td tg a c fs body w hF hl hb hbody h1 h2 h3 h4 hm (fun f hf => (jgs fs f hf).2) (ltrM fs) rfl (ltrB body) rfl
  ⟨by have := jdL fs; omega, by have := jcj body; omega, fun f hf => by have := jgp fs f hf; omega⟩ (jju fs body) (by have := jgq fs body; omega)
theorem jgg : ∀ (l : List UInt8) (b : Bool), dotS b l = true → ∀ c ∈ l, runB c = true := by
 intro l
 induction l with
 | nil => intro b _ c hc; cases hc
 | cons x l ih =>
   intro b h c hc; unfold dotS at h; split at h
   · rename_i e; rw [Bool.and_eq_true] at h
     rcases List.mem_cons.1 hc with k | k
     · rw [k, e]; decide
     · exact ih true h.2 c k
   · rw [Bool.and_eq_true] at h
     rcases List.mem_cons.1 hc with k | k
     · rw [k]; unfold runB; rw [h.1, Bool.or_true]
     · exact ih false h.2 c k
theorem jek {a : Adr} (h : jK a.1 a.2 = 0) : (∀ c ∈ a.1, runB c = true) ∧ (∀ c ∈ a.2, runB c = true) ∧ a.1 ≠ [] ∧ (jaD a).length ≤ 100 := by
 unfold jK at h; split at h
 · cases h
 · rename_i hd; split at h
   · cases h
   · rename_i hl; have hd' : za a.1 = true ∧ za a.2 = true := by simpa using hd
     refine ⟨jgg _ _ hd'.1, jgg _ _ hd'.2, fun e => ?_, ?_⟩
     · have := hd'.1; rw [e] at this; cases this
     · simp [jaD]; omega
theorem jj1 {c : UInt8} (h : runB c = true) : jD c = false := by
 cases hb : jD c with
 | false => rfl
 | true =>
   unfold jD at hb; simp only [Bool.or_eq_true, beq_iff_eq] at hb
   rcases hb with e | e <;> (rw [e] at h; revert h; decide)
theorem jjr {a : Adr} (h : jK a.1 a.2 = 0) : vl (jaD a) = some [a] := by
 obtain ⟨k1, k2, k3, _⟩ := jek h; have hw : jH (jaD a) = jaD a := by
  unfold jaD; cases e : a.1 with
  | nil => exact absurd e k3
  | cons c u => exact jfa (jj1 (k1 c (by rw [e]; simp)))
 have e1 : ze (jaD a) = 64 :: a.2 := by unfold jaD; exact jfb k1 (jdi (by decide))
 have e2 : wrun (jaD a) = a.1 := by unfold jaD; exact jgM k1 (jdi (by decide))
 have e3 : wrun a.2 = a.2 := by have := jgM k2 je1; rwa [List.append_nil] at this
 have e4 : ze a.2 = [] := by have := jfb k2 je1; rwa [List.append_nil] at this
 refine jeG ?_; unfold jJ zO; rw [hw, e1]; simp only [zG, if_true, Option.isSome_some]; rw [e2, e3, e4, if_pos h]; rfl
theorem jgB {a : Adr} (h : jK a.1 a.2 = 0) : qx 1 a.1 a.2 = (jaD a, 0) := by
 have hc : ¬ jK a.1 a.2 ≠ 0 := by simpa using h
 unfold qx; rw [if_neg hc]; rfl
theorem jgk {a : Adr} (h : jK a.1 a.2 = 0) : jbz (jaD a) = 0 := by
 have hl := (jek h).2.2.2; have hm : zg (jaD a) = ([a], 0) := by
  unfold zg; rw [if_neg (by omega), jjr h]; rfl
 unfold jbz; rw [if_neg (by omega), hm, if_pos ⟨rfl, rfl⟩]
theorem jlp {s : List UInt8} (h : qk s = 0) : jbz (jcL s) = 0 := by
 obtain ⟨x, hx⟩ := jgl h; have hm := jeF (s := s) (x := x) (by rw [hx]; simp); unfold jcL; rw [hx]
 show jbz (qx 1 x.1 x.2).1 = 0
 rw [jgB hm]; exact jgk hm
def jff (a : Atn) : Prop := (0 ≤ a.flags ∧ a.flags ≤ 31) ∧ (a.kind = 5 → zQ a.text = 0) ∧ (a.kind = 6 → jbz a.text = 0) ∧ (a.kind = 7 → a.text.length ≤ 2000)
def jcH (c : Crs) : Prop := jap c ∧ ∀ a ∈ c.acts, jff a
def wish (x : Cmd) : Prop := (x.kind = 5 → zQ (x.texts.getD 0 []) = 0) ∧ (x.kind = 6 → qk (x.texts.getD 0 []) = 0) ∧ (x.kind = 7 → (x.texts.getD 0 []).length ≤ 12)
theorem jnW {x : Cmd} (h : wish x) {f : Int} (hf : 0 ≤ f ∧ f ≤ 31) : jff (actP f x) := by
 obtain ⟨h5, h6, h7⟩ := h; unfold actP; refine ⟨?_, fun e => ?_, fun e => ?_, fun e => ?_⟩
 · simp only; split
   · exact hf
   · exact ⟨by omega, by omega⟩
 · simp only at e; simp only [e, true_or, if_true]; exact h5 e
 · simp only at e; simp only [e, if_true, show ¬ ((6 : Int) = 5 ∨ (6 : Int) = 7) by omega, if_false]; exact jlp (h6 e)
 · simp only at e; simp only [e, or_true, if_true]; have := h7 e; omega
theorem jnZ {c : Crs} (h : ∀ a ∈ c.acts, jff a) {a : Atn} (ha : jff a) : ∀ b ∈ (askP c a).1.acts, jff b := by
 unfold askP; split
 · exact h
 · split
   · exact h
   · split
     · exact h
     · intro b hb
       rcases List.mem_append.1 hb with k | k
       · exact h b k
       · rw [List.mem_singleton.1 k]; exact ha
theorem joK {c : Crs} (h : jcH c) {x : Cmd} (hx : wish x) : jcH (doP c x).1 := by
 refine ⟨jof h.1 x, ?_⟩; unfold doP; split
 · exact h.2
 · split
   · exact h.2
   · split
     · exact h.2
     · split
       · exact h.2
       · exact jnZ h.2 (jnW hx ⟨h.1.2.1, h.1.2.2⟩)
def goC : Nat → Cmd → Prop
 | 0, _ => True
 | n + 1, x => (x.kind ≠ 2 → wish x) ∧ (∀ y ∈ x.thn, goC n y) ∧ ∀ y ∈ x.els, goC n y
theorem jng {n : Nat} {f : List Cmd → Crs × Bool → Crs × Bool} {tl : Tst → Bool} (hf : ∀ l s, (∀ x ∈ l, goC n x) → jcH s.1 → jcH (f l s).1) : ∀ (l : List Cmd) (s : Crs × Bool), (∀ x ∈ l, goC (n + 1) x) → jcH s.1 → jcH (l.foldl (vu f tl) s).1 := by
 intro l
 induction l with
 | nil => intro s _ h; exact h
 | cons x l ih =>
   intro s hl h; have hx := hl x (by simp); rw [List.foldl_cons]; refine ih _ (fun y hy => hl y (by simp [hy])) ?_; unfold vu; split
   · exact h
   · split
     · rename_i hk; exact joK h (hx.1 hk)
     · split
       · exact hf _ _ hx.2.1 h
       · exact hf _ _ hx.2.2 h
theorem ji7 (o : Opn) : ∀ (n : Nat) (l : List Cmd) (s : Crs × Bool), (∀ x ∈ l, goC n x) → jcH s.1 → jcH (zL o n l s).1 := by
 intro n
 induction n with
 | zero => intro l s _ h; exact h
 | succ n ih => intro l s hl h; exact jng ih l s hl h
theorem jlx (o : Opn) (n : Nat) {l : List Cmd} (h : ∀ x ∈ l, goC n x) : jcH (vT o n l) := ji7 o n l _ h ⟨jgv, fun a ha => by cases ha⟩
theorem jog {c : Crs} (h : jcH c) : ∀ a ∈ endP c, jff a := by
 unfold endP; split
 · intro a ha; rw [List.mem_singleton.1 ha]; exact ⟨⟨by show (0 : Int) ≤ 0; omega, by show (0 : Int) ≤ 31; omega⟩, (fun e => by cases e), (fun e => by cases e), fun e => by cases e⟩
 · split
   · intro a ha; rw [List.mem_singleton.1 ha]; exact ⟨⟨h.1.2.1, h.1.2.2⟩, (fun e => by cases e), (fun e => by cases e), fun e => by cases e⟩
   · exact h.2
theorem joj : ∀ (n : Nat) (x : Cmd), jbw n x → FitC n x → goC n x := by
 intro n
 induction n with
 | zero => intro x _ _; trivial
 | succ n ih =>
   intro x hN hF; obtain ⟨k1, k2, k3, k4, k5, k6, k7⟩ := hN; obtain ⟨f1, f2, f3, f4⟩ := hF; unfold jer at f1; simp only [Bool.and_eq_true, decide_eq_true_eq] at f1; exact ⟨fun _ => ⟨k2, k4, f1.1.1.2.2⟩, fun y hy => ih y (k6 y hy) (f3 y hy), fun y hy => ih y (k7 y hy) (f4 y hy)⟩
theorem jok (n : Nat) : goC n reqC := by
 cases n with
 | zero => trivial
 | succ n => exact ⟨fun _ => ⟨(fun h => by cases h), (fun h => by cases h), fun h => by cases h⟩, (fun y hy => by cases hy), fun y hy => by cases hy⟩
theorem jol {r : List Cmd} (h : ∀ x ∈ r, ∀ n, jbw n x ∧ FitC n x) (n : Nat) : ∀ x ∈ reqC :: r, goC n x := by
 intro x hx
 rcases List.mem_cons.1 hx with e | e
 · rw [e]; exact jok n
 · exact joj n x (h x e n).1 (h x e n).2
def jb5 (s : Stt) (tx : List UInt8) (x : Ent) : Prop := (∃ nm f, x = appE nm f tx ∧ nm ∈ s.boxes.map Bx.name ∧ zQ nm = 0 ∧ 0 ≤ f ∧ f ≤ 31) ∨ ∃ tt t, x = outE tt t ∧ jbz tt = 0 ∧ t.length ≤ 2000
def apart (l : List Ent) : Prop := ∀ (i k : Nat) (x y : Ent), k < i → l[i]? = some x → l[k]? = some y → x.kind = 2 → y.kind = 2 → x.box ≠ y.box
theorem jis : apart [] := fun i k x y _ h => by simp at h
theorem jed {l : List Ent} (h : apart l) {x : Ent} (hx : x.kind = 2 → ∀ y ∈ l, y.kind = 2 → x.box ≠ y.box) : apart (l ++ [x]) := by
 intro i k a b hk ha hb h2 h2'
 by_cases hi : i < l.length
 · rw [List.getElem?_append_left hi] at ha; rw [List.getElem?_append_left (by omega)] at hb; exact h i k a b hk ha hb h2 h2'
 · have hi' : i < (l ++ [x]).length := (List.getElem?_eq_some_iff.1 ha).1; rw [List.length_append, List.length_singleton] at hi'; rw [List.getElem?_append_right (by omega), show i - l.length = 0 by omega] at ha; rw [List.getElem?_append_left (by omega)] at hb; cases ha; exact hx h2 b (List.mem_of_getElem? hb) h2'
theorem jiU {s : Stt} {tx : List UInt8} {out : List Ent} (ho : ∀ x ∈ out, jb5 s tx x) (ha : apart out) {nm : List UInt8} {f : Int} (hn : nm ∈ s.boxes.map Bx.name) (hp : zQ nm = 0) (hf : 0 ≤ f ∧ f ≤ 31) : (∀ x ∈ jcI tx out nm f, jb5 s tx x) ∧ apart (jcI tx out nm f) := by
 unfold jcI; split
 · exact ⟨ho, ha⟩
 · rename_i hi; refine ⟨fun x hx => ?_, jed ha fun _ y hy h2 e => ?_⟩
   · rcases List.mem_append.1 hx with k | k
     · exact ho x k
     · exact .inl ⟨nm, f, List.mem_singleton.1 k, hn, hp, hf⟩
   · unfold idxZ at hi; cases hq : out.findIdx? (jcO nm) with
     | some i => rw [hq] at hi; simp at hi
     | none =>
       have := vN hq y hy; have e' : y.box = nm := e.symm
       simp [jcO, h2, e'] at this
theorem jmB {s : Stt} {tx : List UInt8} {out : List Ent} (ho : ∀ x ∈ out, jb5 s tx x) (ha : apart out) {tt t : List UInt8} (hg : jbz tt = 0) (ht : t.length ≤ 2000) : (∀ x ∈ out ++ [outE tt t], jb5 s tx x) ∧ apart (out ++ [outE tt t]) := by
 refine ⟨fun x hx => ?_, jed ha fun h => by cases h⟩
 rcases List.mem_append.1 hx with k | k
 · exact ho x k
 · exact .inr ⟨tt, t, List.mem_singleton.1 k, hg, ht⟩
theorem jg2 {s : Stt} (h : vQ s) (nm : List UInt8) : boxFor s.boxes nm ∈ s.boxes.map Bx.name := by
 obtain ⟨i, b, hi, hb⟩ := jix h nm; obtain ⟨b', hb', hp⟩ := qJ hi; have e : b'.name = boxFor s.boxes nm := by simpa [isName] using hp
 exact List.mem_map.2 ⟨b', List.mem_of_getElem? hb', e⟩
theorem jny {s : Stt} {o : Opn} (hs : vQ s) (hf : jK o.fl o.fd = 0) (ht : o.tx.length ≤ 2000) : ∀ (l : List Atn) (out : List Ent), (∀ a ∈ l, jff a) → (∀ x ∈ out, jb5 s o.tx x) → apart out → (∀ x ∈ l.foldl (jaW s.boxes o) out, jb5 s o.tx x) ∧ apart (l.foldl (jaW s.boxes o) out) := by
 intro l
 induction l with
 | nil => intro out _ h1 h2; exact ⟨h1, h2⟩
 | cons a l ih =>
   intro out hl h1 h2; obtain ⟨hf31, h5, h6, h7⟩ := hl a (by simp); rw [List.foldl_cons]; have key : (∀ x ∈ jaW s.boxes o out a, jb5 s o.tx x) ∧ apart (jaW s.boxes o out a) := by
    unfold jaW; split
    · exact jiU h1 h2 hs jgn hf31
    · split
      · rename_i hk; exact jiU h1 h2 (jg2 hs _) (jfl _ (h5 hk)) hf31
      · split
        · rename_i hk; exact jmB h1 h2 (h6 hk) ht
        · split
          · rename_i hk; refine jmB h1 h2 ?_ (h7 hk); rw [jgB (a := (o.fl, o.fd)) hf]; exact jgk (a := (o.fl, o.fd)) hf
          · exact ⟨h1, h2⟩
   exact ih _ (fun b hb => hl b (by simp [hb])) key.1 key.2
theorem jhi {s : Stt} {tx : List UInt8} (ht : tx.length ≤ 2000) {x : Ent} (h : jb5 s tx x) : Formed x := by
 rcases h with ⟨nm, f, rfl, _, hp, hf⟩ | ⟨tt, t, rfl, hg, hl⟩
 · exact jgY hp hf ht
 · exact jhR hg hl
theorem jeq {s : Stt} {nm : List UInt8} (h : nm ∈ s.boxes.map Bx.name) : ∃ i b, s.boxes.findIdx? (isName nm) = some i ∧ s.boxes[i]? = some b := by
 cases hf : s.boxes.findIdx? (isName nm) with
 | none =>
   obtain ⟨b, hb, e⟩ := List.mem_map.1 h; have := vN hf b hb
   simp [isName, e] at this
 | some i => obtain ⟨b, hb, _⟩ := qJ hf; exact ⟨i, b, rfl, hb⟩
theorem jm3 {s : Stt} {s0 : Stt} {tx : List UInt8} (hn : ∀ n ∈ s0.boxes.map Bx.name, n ∈ s.boxes.map Bx.name) {x : Ent} (h : jb5 s0 tx x) {z : Int} (hd : doM s x = .error z) : z = 5 := by
 rcases h with ⟨nm, f, rfl, hm, _⟩ | ⟨tt, t, rfl, _⟩
 · obtain ⟨i, b, hi, hb⟩ := jeq (hn nm hm); rw [jmr (i := i) rfl hi] at hd; unfold addM at hd; rw [hb] at hd; simp only at hd; split at hd
   · cases hd; rfl
   · cases hd
 · rw [jms rfl] at hd; split at hd
   · cases hd; rfl
   · cases hd
theorem jkJ {s0 : Stt} {tx : List UInt8} : ∀ (l : List Ent) (s : Stt), (∀ n ∈ s0.boxes.map Bx.name, n ∈ s.boxes.map Bx.name) → (∀ x ∈ l, jb5 s0 tx x) → ∀ z, allM s l = .error z → z = 5 := by
 intro l
 induction l with
 | nil => intro s _ _ z h; cases h
 | cons x l ih =>
   intro s hn hl z h; unfold allM at h; cases hd : doM s x with
   | error e => rw [hd] at h; cases h; exact jm3 hn (hl x (by simp)) hd
   | ok s' =>
     rw [hd] at h; obtain ⟨t, e⟩ := jen hd; exact ih s' (fun n hm => by rw [e]; exact List.mem_append_left _ (hn n hm)) (fun y hy => hl y (by simp [hy])) z h
structure Whole (s : Stt) (o : Opn) (es : List Ent) : Prop where
 ent : ∀ x ∈ es, jb5 s o.tx x
 apart : apart es
 len : es.length ≤ 6
 formed : ∀ x ∈ es, Formed x
 err : ∀ z, allM s es = .error z → z = 5
theorem whole {s : Stt} {o : Opn} (hs : vQ s) (hf : jK o.fl o.fd = 0) (ht : o.tx.length ≤ 2000) (n : Nat) {r : List Cmd} (h : ∀ x ∈ r, ∀ n, jbw n x ∧ FitC n x) : Whole s o (plan s.boxes o (endP (vT o n (reqC :: r)))) := by
 have hg := jlx o n (jol h n); obtain ⟨h1, h2⟩ := jny hs hf ht (endP (vT o n (reqC :: r))) [] (jog hg) (fun x hx => by cases hx) jis; exact ⟨h1, h2, Nat.le_trans (jdT _ _ _) (jiL (jdF o n _)), fun x hx => jhi ht (h1 x hx), jkJ _ s (fun n h => h) h1⟩
end Go.Proofs.YtgfbdgheencmaaaGreatDoor
