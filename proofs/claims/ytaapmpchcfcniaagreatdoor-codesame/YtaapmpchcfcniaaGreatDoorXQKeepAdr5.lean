/-
  What the laws' makers of a word and of an address do: the walks.
-/
import Derived.Test.YtaapmpchcfcniaaGreatDoorXQMkScrX6
import Derived.WalkArith
set_option maxHeartbeats 8000000
set_option maxRecDepth 100000
namespace Go.Proofs.YtaapmpchcfcniaaGreatDoor
open Go.RowKit
theorem jc2 (l : List UInt8) : wordy (zW l) := by
 refine ⟨?_, zy l, ?_⟩
 · unfold zW jbv; split
   · simp
   · rename_i h; cases l with
     | nil => exact absurd rfl h
     | cons c t => simp
 · intro c hc; unfold zW at hc; split at hc
   · simp at hc; subst hc; decide
   · obtain ⟨x, _, rfl⟩ := List.mem_map.1 hc; have := jcl x; omega
def jaY (l d : List UInt8) : Adr := (zW l, zW d ++ orgL)
theorem jbf (l d : List UInt8) : lawful (jaY l d) := ⟨jc2 l, _, jc2 d, rfl⟩
theorem jkG (l : List UInt8) : S l ++ ⟨#[46, 111, 114, 103]⟩ = S (l ++ orgL) := by
 rw [← qp (S l ++ ⟨#[46, 111, 114, 103]⟩)]
 simp [jv, orgL]
theorem jbF (l d g : ByteArray) (w : World) (hl : l.size ≤ maxLen) (hd : d.size ≤ maxLen) :
 Calls Tryz.prog 18 #[.agg #[.string l, .string d, .string g]] w fun e w' => e = .returned (.agg #[.string (S (jaY l.data.toList d.data.toList).1), .string (S (jaY l.data.toList d.data.toList).2)]) ∧ Below w.heap.size w w' := by
 have HL : Hid _ := hl; have HD : Hid _ := hd; clear hl hd; obtain ⟨x, hx⟩ : ∃ x, x = zW l.data.toList := ⟨_, rfl⟩; obtain ⟨y, hy⟩ : ∃ y, y = zW d.data.toList := ⟨_, rfl⟩; have sx : (S x).size ≤ 8 := by rw [jy, hx]; exact zy _
 have sy : (S y).size ≤ 8 := by rw [jy, hy]; exact zy _
 have HA : Hid (jaY l.data.toList d.data.toList = (x, y ++ orgL)) := by unfold Hid jaY; rw [hx, hy]
 have HO : Hid (S y ++ ⟨#[46, 111, 114, 103]⟩ = S (y ++ orgL)) := jkG y; have HX : Hid _ := hx; have HY : Hid _ := hy; clear hx hy; obtain ⟨W0, hW0⟩ : ∃ W0, W0 = (w.alloc (.cells #[.string l, .string d, .string g] 23)).alloc (.cells #[.string ⟨#[]⟩, .string ⟨#[]⟩] 29) := ⟨_, rfl⟩; have hB0 : Below w.heap.size w W0 := by rw [hW0]; exact (nb0 _ _).alloc (by simp) _
 have hz0 : w.heap.size + 2 = W0.heap.size := by rw [hW0]; simp
 have c0 : W0.cell? ⟨w.heap.size, 0, none⟩ = some (.string l) := by rw [hW0]; simp
 have c1 : W0.cell? ⟨w.heap.size, 1, none⟩ = some (.string d) := by rw [hW0]; simp
 have r0 : W0.cell? ⟨w.heap.size + 1, 0, none⟩ = some (.string ⟨#[]⟩) := by rw [hW0]; simp
 have r1 : W0.cell? ⟨w.heap.size + 1, 1, none⟩ = some (.string ⟨#[]⟩) := by rw [hW0]; simp
 have f0 : W0.frozen? ⟨w.heap.size + 1, 0, none⟩ = false := by rw [hW0]; simp
 have f1 : W0.frozen? ⟨w.heap.size + 1, 1, none⟩ = false := by rw [hW0]; simp
 have HW : Hid _ := hW0; clear hW0; go_enter Tryz.func18, Tryz.ntmps18; go_wp2; rw [← HW.out]; have cD0 : W0.drew.cell? ⟨w.heap.size, 0, none⟩ = some (.string l) := c0; have cD1 : W0.drew.cell? ⟨w.heap.size, 1, none⟩ = some (.string d) := c1; have hadd : ¬ 9223372036854775807 < (S y).size + 4 := by omega
 have hne : w.heap.size ≠ w.heap.size + 1 := by omega
 have hne' : w.heap.size + 1 ≠ w.heap.size := by omega
 go_region_held3 (fun w' => w'.cell? ⟨w.heap.size, 0, none⟩ = some (.string l) ∧ w'.cell? ⟨w.heap.size, 1, none⟩ = some (.string d)) (go_keep)
  (first
    | (go_at_call_of 30 (Value.string l)
       refine (jaj l _ HL.out).mono ?_; rintro e w1 ⟨rfl, hb1⟩; rw [← HX.out]; have e0 : w1.cell? ⟨w.heap.size, 0, none⟩ = some (.string l) := jb (w := W0.drew) c0 hb1; have e1 : w1.cell? ⟨w.heap.size, 1, none⟩ = some (.string d) := jb (w := W0.drew) c1 hb1; have s1 : w.heap.size + 1 < w1.heap.size := by have := hb1.size; have h2 : W0.drew.heap.size = W0.heap.size := rfl; omega)
    | (go_at_call_of 30 (Value.string d)
       refine (jaj d _ HD.out).mono ?_; rintro e w2 ⟨rfl, hb2⟩; rw [← HY.out]; have hz2 := hb2.size; have i0 : w2.cell? ⟨w.heap.size, 0, none⟩ = some (.string l) := jb e0 hb2; have i1 : w2.cell? ⟨w.heap.size, 1, none⟩ = some (.string d) := jb e1 hb2; have g0 : w2.cell? ⟨w.heap.size + 1, 0, none⟩ = some (.string ⟨#[]⟩) := jb (jb (w := W0.drew) r0 hb1) hb2; have g1 : w2.cell? ⟨w.heap.size + 1, 1, none⟩ = some (.string ⟨#[]⟩) := jb (jb (w := W0.drew) r1 hb1) hb2; have k0 : w2.frozen? ⟨w.heap.size + 1, 0, none⟩ = false := (hb2.frozen s1).trans ((hb1.frozen (by show w.heap.size + 1 < W0.heap.size; omega)).trans f0); have k1 : w2.frozen? ⟨w.heap.size + 1, 1, none⟩ = false := (hb2.frozen s1).trans ((hb1.frozen (by show w.heap.size + 1 < W0.heap.size; omega)).trans f1)))
 rw [HO.out]; have hB2 : Below w.heap.size w ((w2.setCell ⟨w.heap.size + 1, 0, none⟩ (.string (S x))).setCell ⟨w.heap.size + 1, 1, none⟩ (.string (S (y ++ orgL)))) :=
  ((jdH (jdH hB0.drew hb1 (Nat.le_refl _)) hb2 (Nat.le_refl _)).setCell (by simp) _).setCell (by simp) _
 have HB2 : Hid _ := hB2; clear hB2; go_wp2; refine bodyPost_ret (v := .agg #[.string (S x), .string (S (y ++ orgL))]) (by simp [results, Tryz.results18, go_sem, g0, g1]) rfl ⟨?_, HB2.out⟩; rw [HA.out]
open Go.Proofs
def jn3 : List UInt8 := [83, 117, 98, 106, 101, 99, 116]
def toL : List UInt8 := [116, 111]
def annL : List UInt8 := [65, 110, 110, 32, 60, 97, 110, 110, 64, 120, 46, 121, 62, 44, 32, 98, 64, 99]
def vp (n : Nat) : List UInt8 := if n % 5 = 0 then jn3 else if n % 5 = 1 then toL else if n % 5 = 2 then [70, 114, 111, 109] else if n % 5 = 3 then [99, 99] else [88]
def ltrF (f : F) : F := (vp f.2.length, if f.2.length % 5 = 1 ∧ f.2.length % 2 = 1 then annL else f.2)
def qX (fs : List F) (k : Nat) : List F := (fs.take k).map ltrF ++ fs.drop k
theorem zQ (fs : List F) (k : Nat) : (qX fs k).length = fs.length := by simp [qX]; omega
theorem jiu {fs : List F} {k : Nat} {f : F} (h : fs[k]? = some f) : (qX fs k)[k]? = some f := by
 have hk := (List.getElem?_eq_some_iff.1 h).1; unfold qX; rw [List.getElem?_append_right (by simp; omega)]
 simp [Nat.min_eq_left (Nat.le_of_lt hk), h]
theorem jba {fs : List F} {k : Nat} {f : F} (h : fs[k]? = some f) : (qX fs k).set k (ltrF f) = qX fs (k + 1) := by
 obtain ⟨hk, e⟩ := List.getElem?_eq_some_iff.1 h; unfold qX; rw [List.set_append_right _ _ (by simp; omega), qk h, List.map_append]; simp only [List.length_map, List.length_take, Nat.min_eq_left (Nat.le_of_lt hk), Nat.sub_self]; rw [List.drop_eq_getElem_cons hk, List.set_cons_zero]
 simp
theorem jeO {fs : List F} {i : Nat} {f : F} (h : fs[i]? = some f) (v : List UInt8) : (zq fs).set (i * 2) (.string (S v)) = zq (fs.set i (v, f.2)) := by
 induction fs generalizing i with
 | nil => simp at h
 | cons g fs ih =>
   cases i with
   | zero => simp at h; subst h; simp [zq]
   | succ i =>
     have := ih (i := i) (by simpa using h); have e1 : (i + 1) * 2 = (i * 2) + 2 := by omega
     rw [e1]
     simpa [zq] using this
theorem jnn {n : Nat} : ∀ h, ([Value.string { data := #[83, 117, 98, 106, 101, 99, 116] }, Value.string { data := #[116, 111] }, Value.string { data := #[70, 114, 111, 109] }, Value.string { data := #[99, 99] }, Value.string { data := #[88] }] : List Value)[n % 5]'h = .string (S (vp n)) := by
 unfold vp; have h : n % 5 < 5 := Nat.mod_lt _ (by omega); generalize n % 5 = q at *
 match q, h with
 | 0, _ | 1, _ | 2, _ | 3, _ | 4, _ => intro _; rfl
theorem jin {w : World} {B C : Nat} {v : Value} {fs : List F} (h : OwnF w B v fs) (hC : C ≤ B) : OwnF w C v fs := by
 refine ⟨h.1, ?_⟩
 rcases h.2 with h' | ⟨g, cap, cur, h1, h2, r⟩
 · exact .inl h'
 · exact .inr ⟨g, cap, cur, h1, Nat.le_trans hC h2, r⟩
theorem jiT {w : World} {B : Nat} {a : Option Addr} {n c : Nat} {fs : List F} (h : OwnF w B (.slice a n c) fs) : ∀ g o q, a = some ⟨g, o, q⟩ → B ≤ g ∧ g < w.heap.size := by
 intro g o q e; subst e; exact World.ownsRow.lt h g rfl
def jht (w W0 : World) (M : List F) (bd : ByteArray) (p : Value) (wx : World) : Prop := ∃ (P : Nat) (a1 : Option Addr) (c1 : Nat), p = .pointer (some ⟨P, 0, none⟩) ∧ w.heap.size + 2 ≤ P ∧ wx.cell? ⟨P, 0, none⟩ = some (.slice a1 M.length c1) ∧ wx.cell? ⟨P, 1, none⟩ = some (.string bd) ∧ OwnF wx (w.heap.size + 2) (.slice a1 M.length c1) M ∧ (∀ g o q, a1 = some ⟨g, o, q⟩ → g ≠ P) ∧ Below (w.heap.size + 2) W0 wx
def LtrRow (w W0 : World) (P g k c1 n : Nat) (bd : ByteArray) (f : F) (L : List F) (N : List UInt8) (wx : World) : Prop :=
 wx.cell? ⟨P, 0, none⟩ = some (.slice (some ⟨g, 0, none⟩) n c1) ∧ wx.cell? ⟨P, 1, none⟩ = some (.string bd) ∧ wx.cell? ⟨g, k * 2, none⟩ = some (.string (S N)) ∧ wx.cell? ⟨g, k * 2 + 1, none⟩ = some (.string (S f.2)) ∧ wx.frozen? ⟨g, k * 2 + 1, none⟩ = false ∧ Hid (OwnF wx (w.heap.size + 2) (.slice (some ⟨g, 0, none⟩) n c1) (L.set k (N, f.2))) ∧ Hid (Below (w.heap.size + 2) W0 wx)
theorem LtrRow.drew {w W0 : World} {P g k c1 n : Nat} {bd : ByteArray} {f : F} {L : List F} {N : List UInt8} {wx : World} (h : LtrRow w W0 P g k c1 n bd f L N wx) : LtrRow w W0 P g k c1 n bd f L N wx.drew := by
 obtain ⟨h1, h2, h3, h4, h5, h6, h7⟩ := h; exact ⟨h1, h2, h3, h4, h5, h6, h7.out.drew⟩
def LtrR (w : World) (x y : Adr) (tx : List UInt8) (e : Ending) (w' : World) : Prop :=
 e = .returned (.tuple #[.agg #[.string (S x.1), .string (S x.2), .string (S y.1), .string (S y.2), .string (S tx)], .bool true]) ∧ Below w.heap.size w w'
theorem jgR (fl fd fg tl td tg : ByteArray) (a : Option Addr) (c : Nat) (fs : List F) (body : ByteArray) (w : World) (hF : FieldsAt w a fs) (hl : fs.length ≤ maxLen) (hb : ∀ f ∈ fs, f.1.length ≤ maxLen ∧ f.2.length ≤ maxLen) (hbody : body.size ≤ maxLen) (h1 : fl.size ≤ maxLen) (h2 : fd.size ≤ maxLen) (h3 : tl.size ≤ maxLen) (h4 : td.size ≤ maxLen) (hm : maxLenCell w) (hlen : ∀ f ∈ msgK fs 6, f.2.length ≤ 40)
 (M : List F) (hM : M = (msgK fs 6).map ltrF) (bd : ByteArray) (hbd : bd = cutB (cutB body 100) 200) (hmild : Mild M bd) (hfault : qf M bd.data.toList = 0) (hsz : 2 ≤ (jam M bd.data.toList).length ∧ (jam M bd.data.toList).length ≤ 2000) :
 Calls Tryz.prog 5 #[.agg #[.string fl, .string fd, .string fg, .string tl, .string td, .string tg, .slice a fs.length c, .string body]] w (LtrR w (jaY fl.data.toList fd.data.toList) (jaY tl.data.toList td.data.toList) (jam M bd.data.toList)) := by
 have HF := hid hF; have HL := hid hl; have HB := hid hb; have HY := hid hbody; have H1 := hid h1; have H2 := hid h2; have H3 := hid h3; have H4 := hid h4; have HMC := hid hm; have HLN := hid hlen; have HMI := hid hmild; have HFT := hid hfault; have HSZ := hid hsz; have HME := hid hM; have HBE := hid hbd; have HC100 := hid (show (cutB body 100).size ≤ maxLen by rw [jbT]; unfold maxLen; omega); clear hF hl hb hbody h1 h2 h3 h4 hm hlen hmild hfault hsz hM hbd; obtain ⟨W0, hW0⟩ : ∃ W0, W0 = (w.alloc (.cells #[.string fl, .string fd, .string fg, .string tl, .string td, .string tg, .slice a fs.length c, .string body] 26)).alloc (.cells #[.string ⟨#[]⟩, .string ⟨#[]⟩, .string ⟨#[]⟩, .string ⟨#[]⟩, .string ⟨#[]⟩] 31) := ⟨_, rfl⟩; have HWE := hid hW0; have HB0 := hid (show Below w.heap.size w W0 by rw [hW0]; exact (nb0 _ _).alloc (by simp) _); have HZ0 := hid (show W0.heap.size = w.heap.size + 2 by rw [hW0]; simp); have hP : W0.heap[w.heap.size]? = some (.cells #[.string fl, .string fd, .string fg, .string tl, .string td, .string tg, .slice a fs.length c, .string body] 26) := by
  rw [hW0]; have := heap_alloc_new w (.cells #[.string fl, .string fd, .string fg, .string tl, .string td, .string tg, .slice a fs.length c, .string body] 26)
  show (Array.push _ _)[_]? = _
  rw [Array.getElem?_push_lt (by simp), ← Array.getElem?_eq_getElem (by simp)]; exact this
 have HP0 := hid hP; have HR0 := hid (show W0.heap[w.heap.size + 1]? = some (.cells #[.string ⟨#[]⟩, .string ⟨#[]⟩, .string ⟨#[]⟩, .string ⟨#[]⟩, .string ⟨#[]⟩] 31) by
  rw [hW0]; have := heap_alloc_new (w.alloc (.cells #[.string fl, .string fd, .string fg, .string tl, .string td, .string tg, .slice a fs.length c, .string body] 26)) (.cells #[.string ⟨#[]⟩, .string ⟨#[]⟩, .string ⟨#[]⟩, .string ⟨#[]⟩, .string ⟨#[]⟩] 31)
  simpa using this)
 have p6 : W0.cell? ⟨w.heap.size, 6, none⟩ = some (.slice a fs.length c) := by simp [World.cell?, hP]
 have p7 : W0.cell? ⟨w.heap.size, 7, none⟩ = some (.string body) := by simp [World.cell?, hP]
 clear hW0 hP; have HBX := hid (show Below w.heap.size w (W0.alloc (.cells #[.slice none 0 0, .string ⟨#[]⟩] 65)).drew from (HB0.out.alloc HB0.out.size _).drew); have p6a := qw p6 (.cells #[.slice none 0 0, .string ⟨#[]⟩] 65); have p7a := qw p7 (.cells #[.slice none 0 0, .string ⟨#[]⟩] 65); have HA0 := hid (show (W0.alloc (.cells #[.slice none 0 0, .string ⟨#[]⟩] 65)).drew.cell? ⟨W0.heap.size, 0, none⟩ = some (.slice none 0 0) by simp); have HA1 := hid (show (W0.alloc (.cells #[.slice none 0 0, .string ⟨#[]⟩] 65)).drew.cell? ⟨W0.heap.size, 1, none⟩ = some (.string ⟨#[]⟩) by simp); have HAF := hid (show ∀ j, (W0.alloc (.cells #[.slice none 0 0, .string ⟨#[]⟩] 65)).drew.frozen? ⟨W0.heap.size, j, none⟩ = false by intro j; simp); go_enter Tryz.func5, Tryz.ntmps5; go_wp2; rw [← HWE.out]
 go_cut [4] (fun p wx => jht w W0 (msgK fs 6) bd p wx)
 case first =>
  go_region_law
   (first
        | (go_simp
           go_at_call 16
           refine (jeW body 100 _ HY.out (by omega)).mono ?_; rintro e u ⟨rfl, hu⟩; have hu' := hu.symm; subst hu')
        | (go_simp
           go_at_call 15
           refine (jbl a c fs (cutB body 100) W0.drew (HF.out.below HB0.out.drew) HL.out HB.out HC100.out).mono ?_; rintro e w1 ⟨a1, c1, rfl, hF1, hO1, hb1⟩)
        | (go_simp
           go_at_call 15
           refine (jbl a c fs (cutB body 100) (W0.alloc (.cells #[.slice none 0 0, .string ⟨#[]⟩] 65)).drew (HF.out.below HBX.out) HL.out HB.out HC100.out).mono ?_; rintro e w1 ⟨a1, c1, rfl, hF1, hO1, hb1⟩; have s0 := jK HA0.out hb1; have s1 := jK HA1.out hb1; have t0 := (hb1.frozen (p := ⟨W0.heap.size, 0, none⟩) (by simp)).trans (HAF.out 0); have t1 := (hb1.frozen (p := ⟨W0.heap.size, 1, none⟩) (by simp)).trans (HAF.out 1)))
  all_goals
   have HB1 := hid hb1; have HO1 := hid hO1; clear hb1 hO1 hF1
   first
        | (have HBA := hid (show Below (W0.heap.size + 1) (W0.alloc (.cells #[.slice none 0 0, .string ⟨#[]⟩] 65)).drew w1 from HB1.out.mono (by simp))
           have HOA := hid (show OwnF w1 (W0.heap.size + 1) _ _ from jin HO1.out (by simp)); have HEnd := hid (show jht w W0 (msgK fs 6) bd (.pointer (some ⟨W0.heap.size, 0, none⟩)) ((w1.setCell ⟨W0.heap.size, 0, none⟩ (.slice a1 (msgK fs 6).length c1)).setCell ⟨W0.heap.size, 1, none⟩ (.string (cutB (cutB body 100) 200))) from by
            have hz := HZ0.out; refine ⟨W0.heap.size, a1, c1, rfl, by omega, ?_, ?_, ?_, ?_, ?_⟩
            · exact (World.cell?_setCell_other _ _ _ _ (by simp)).trans (World.cell?_setCell_same' w1 _ _ (by rw [s0]; rfl))
            · rw [HBE.out]; exact World.cell?_setCell_same' _ _ _ (by rw [World.cell?_setCell_other _ _ _ _ (by simp), s1]; rfl)
            · exact jin ((HOA.out.far (by simp) _).far (by simp) _) (by omega)
            · intro g o q e; have := (jiT HOA.out g o q e).1; omega
            · exact (((((Below.refl (w.heap.size + 2) W0).alloc (by omega) _).drew).trans (HBA.out.mono (by omega))).setCell (by simp; omega) _).setCell (by simp; omega) _)
           go_wp2_with fail
           go_meet
           exact HEnd.out)
        | (have HEnd := hid (show jht w W0 (msgK fs 6) bd (.pointer (some ⟨w1.heap.size, 0, none⟩)) (w1.alloc (.cells #[.slice a1 (msgK fs 6).length c1, .string (cutB (cutB body 100) 200)] 65)) from by
            have hz := HZ0.out; have hs := HB1.out.size; have hs' : W0.heap.size ≤ w1.heap.size := hs; refine ⟨w1.heap.size, a1, c1, rfl, by omega, by simp, by rw [HBE.out]; simp, jin (World.ownsRow.alloc HO1.out _) (by simp; omega), ?_, ?_⟩
            · intro g o q e; have := (jiT HO1.out g o q e).2; omega
            · exact ((((Below.refl (w.heap.size + 2) W0).drew).trans (HB1.out.mono (by simp; omega)))).alloc (by omega) _)
           go_wp2_with fail
           go_meet
           exact HEnd.out)
 case rest =>
  obtain ⟨P, a1, c1, rfl, hPl, q0, q1, hO, hne, hBW⟩ := hcut; have HO := hid hO; have HNE := hid hne; have HBW := hid hBW; obtain ⟨M0, hM0⟩ : ∃ M0, M0 = msgK fs 6 := ⟨_, rfl⟩; rw [← hM0] at HO q0 HME HLN; have hl6 : M0.length ≤ 6 := by rw [hM0]; simp [msgK]; omega
  clear hO hne hBW hM0 p6 p7 p6a p7a; go_wp2
  go_loopw [5] (fun i wr => ∃ k : Nat, k ≤ M0.length ∧ i = .int .i64 k ∧ wr.cell? ⟨P, 0, none⟩ = some (.slice a1 M0.length c1) ∧ wr.cell? ⟨P, 1, none⟩ = some (.string bd) ∧ Hid (OwnF wr (w.heap.size + 2) (.slice a1 M0.length c1) (qX M0 k)) ∧ Hid (Below (w.heap.size + 2) W0 wr)) (fun i _ => M0.length - (intOf i).toNat)
  case atStart => exact ⟨0, Nat.zero_le _, rfl, q0, q1, by simpa [qX] using HO, HBW⟩
  case round =>
   obtain ⟨k, hk, rfl, v0, v1, HOk, HBk⟩ := hrel
   by_cases hlt : k < M0.length
   · obtain ⟨f, hf⟩ : ∃ f, M0[k]? = some f := ⟨_, List.getElem?_eq_getElem hlt⟩; have hf40 := HLN.out f (List.mem_of_getElem? hf); have hg := jiu hf; have hO3 : OwnF wr (w.heap.size + 2) (.slice a1 (qX M0 k).length c1) (qX M0 k) := by rw [zQ]; exact HOk.out
     obtain ⟨g, off, rfl, hgl, r1, r2⟩ := (OwnF.fields hO3) k f hg; obtain ⟨g', cap', e, hBg, _⟩ := hO3.form (by rintro e0; rw [e0] at hg; simp at hg); simp only [Value.slice.injEq, Option.some.injEq, Addr.mk.injEq, and_true] at e; obtain ⟨⟨rfl, rfl⟩, -, rfl⟩ := e; rw [Nat.zero_add] at r1 r2; have hgP : g ≠ P := HNE.out g 0 none rfl; have hPg : P ≠ g := fun e => hgP e.symm
     have hz2 := HBk.out.size; have HPK := hid (show jB ((S f.2).size : Int) 5 = f.2.length % 5 by rw [jy]; unfold jB; rw [if_neg (by omega)]; omega); have z0 := (World.ownsRow.frozenAt hO3 (k * 2)); have z1 := (World.ownsRow.frozenAt hO3 (k * 2 + 1)); have i1 : (k : Int) < (M0.length : Int) := by omega
     have i0 : (0 : Int) ≤ (k : Int) := by omega
     have HWF := hid (show (Lit.int .i64 ((S f.2).size : Int)).wf = true from WalkArith.wf_i64 (by rw [jy]; omega)); obtain ⟨N, hN⟩ : ∃ N, N = vp f.2.length := ⟨_, rfl⟩; have HN := hid hN; have HST := hid (show LtrRow w W0 P g k c1 M0.length bd f (qX M0 k) N ((wr.setCell ⟨g, k * 2, none⟩ (.string (S N))).alloc (.cells #[.string ⟨#[83, 117, 98, 106, 101, 99, 116]⟩, .string ⟨#[116, 111]⟩, .string ⟨#[70, 114, 111, 109]⟩, .string ⟨#[99, 99]⟩, .string ⟨#[88]⟩] 9)) from by
      have hPs : P < wr.heap.size := World.block_lt_of_cell? wr _ v0; have hsz : (wr.setCell ⟨g, k * 2, none⟩ (.string (S N))).heap.size = wr.heap.size := by simp
      have old : ∀ (b j : Nat), b < wr.heap.size → ((wr.setCell ⟨g, k * 2, none⟩ (.string (S N))).alloc (.cells #[.string ⟨#[83, 117, 98, 106, 101, 99, 116]⟩, .string ⟨#[116, 111]⟩, .string ⟨#[70, 114, 111, 109]⟩, .string ⟨#[99, 99]⟩, .string ⟨#[88]⟩] 9)).cell? ⟨b, j, none⟩ = (wr.setCell ⟨g, k * 2, none⟩ (.string (S N))).cell? ⟨b, j, none⟩ := fun b j hb =>
           ((Below.refl _ (wr.setCell ⟨g, k * 2, none⟩ (.string (S N)))).alloc (Nat.le_refl _) _).cell (p := ⟨b, j, none⟩) (by rw [hsz]; exact hb)
      have far : ∀ (b j : Nat), b < wr.heap.size → (b ≠ g ∨ j ≠ k * 2) → ((wr.setCell ⟨g, k * 2, none⟩ (.string (S N))).alloc (.cells #[.string ⟨#[83, 117, 98, 106, 101, 99, 116]⟩, .string ⟨#[116, 111]⟩, .string ⟨#[70, 114, 111, 109]⟩, .string ⟨#[99, 99]⟩, .string ⟨#[88]⟩] 9)).cell? ⟨b, j, none⟩ = wr.cell? ⟨b, j, none⟩ := fun b j hb hne => by
           rw [old b j hb, World.cell?_setCell_other _ _ _ _ (by intro e; cases e; omega)]
      refine ⟨(far P 0 hPs (.inl hPg)).trans v0, (far P 1 hPs (.inl hPg)).trans v1, ?_, (far g (k * 2 + 1) hgl (.inr (by omega))).trans r2, ?_, ?_, ?_⟩
      · rw [old g (k * 2) hgl]; exact World.cell?_setCell_same' _ _ _ (by rw [r1]; rfl)
      · have h := ((Below.refl _ (wr.setCell ⟨g, k * 2, none⟩ (.string (S N)))).alloc (Nat.le_refl _) (.cells #[.string ⟨#[83, 117, 98, 106, 101, 99, 116]⟩, .string ⟨#[116, 111]⟩, .string ⟨#[70, 114, 111, 109]⟩, .string ⟨#[99, 99]⟩, .string ⟨#[88]⟩] 9)).frozen (p := ⟨g, k * 2 + 1, none⟩) (by rw [hsz]; exact hgl); refine h.trans ?_
        simpa using z1
      · have := World.ownsRow.alloc (jdv hO3 (k * 2) (.string (S N))) (.cells #[.string ⟨#[83, 117, 98, 106, 101, 99, 116]⟩, .string ⟨#[116, 111]⟩, .string ⟨#[70, 114, 111, 109]⟩, .string ⟨#[99, 99]⟩, .string ⟨#[88]⟩] 9); rw [jeO hg] at this; unfold Hid OwnF; rw [zQ] at this; rw [List.length_set, zQ]; exact this
      · exact (HBk.out.setCell (by simp; omega) _).alloc (by rw [hsz]; have := HBk.out.size; have := HZ0.out; omega) _)
     have v0a := qw v0 (.cells #[.string ⟨#[83, 117, 98, 106, 101, 99, 116]⟩, .string ⟨#[116, 111]⟩, .string ⟨#[70, 114, 111, 109]⟩, .string ⟨#[99, 99]⟩, .string ⟨#[88]⟩] 9); have r1a := qw r1 (.cells #[.string ⟨#[83, 117, 98, 106, 101, 99, 116]⟩, .string ⟨#[116, 111]⟩, .string ⟨#[70, 114, 111, 109]⟩, .string ⟨#[99, 99]⟩, .string ⟨#[88]⟩] 9); have r2a := qw r2 (.cells #[.string ⟨#[83, 117, 98, 106, 101, 99, 116]⟩, .string ⟨#[116, 111]⟩, .string ⟨#[70, 114, 111, 109]⟩, .string ⟨#[99, 99]⟩, .string ⟨#[88]⟩] 9); have z0a : (wr.alloc (.cells #[.string ⟨#[83, 117, 98, 106, 101, 99, 116]⟩, .string ⟨#[116, 111]⟩, .string ⟨#[70, 114, 111, 109]⟩, .string ⟨#[99, 99]⟩, .string ⟨#[88]⟩] 9)).frozen? ⟨g, k * 2, none⟩ = false := (((Below.refl wr.heap.size wr).alloc (Nat.le_refl _) (.cells #[.string ⟨#[83, 117, 98, 106, 101, 99, 116]⟩, .string ⟨#[116, 111]⟩, .string ⟨#[70, 114, 111, 109]⟩, .string ⟨#[99, 99]⟩, .string ⟨#[88]⟩] 9)).frozen (p := ⟨g, k * 2, none⟩) hgl).trans z0; have hgw : g ≠ wr.heap.size := by omega
     have HK := hid hf; have HG := hid hg; clear hf hg hO3 hN; go_wp2
     go_cut [34] (fun x wx => LtrRow w W0 P g k c1 M0.length bd f (qX M0 k) N wx)
     case first =>
      have hq5 : f.2.length % 5 < 5 := Nat.mod_lt _ (by omega); have hat := jnn (n := f.2.length); rw [← HN.out] at hat; generalize f.2.length % 5 = q at *; have hq1 : (q : Int) < 5 := by omega
      have hq0 : (0 : Int) ≤ (q : Int) := by omega
      go_region_law
           (go_simp
            go_at_call 12
            refine (jg ((S f.2).size : Int) 5 _ HWF.out (by omega) (by omega)).mono ?_; rw [HPK.out]; rintro e u ⟨rfl, hu⟩; have hu' := hu.symm; subst hu')
      all_goals
           go_wp2_with fail
           go_meet
           first
            | exact HST.out
            | exact LtrRow.drew HST.out
     case rest =>
      obtain ⟨e0, e1, e2, e3, e4, HOn, HBn⟩ := hcut; clear v0a r1a r2a z0a z0 z1 r1 r2 v0 v1 HST; have hn0 : (0 : Int) ≤ ((S f.2).size : Int) := by omega
      by_cases h5 : f.2.length % 5 = 1
      · have hN : N = toL := by rw [HN.out]; unfold vp; simp [h5]
        have hT : ((S N).toList == [116, 111]) = true := by rw [hN, Lib.toList_data, jv]; rfl
        by_cases h2 : f.2.length % 2 = 1
        · have hp : (((S f.2).size : Int) % 2 == 1) = true := by rw [jy]; simp; omega
          have HE := hid (show OwnF (wc.setCell ⟨g, k * 2 + 1, none⟩ (.string ⟨#[65, 110, 110, 32, 60, 97, 110, 110, 64, 120, 46, 121, 62, 44, 32, 98, 64, 99]⟩)) (w.heap.size + 2) (.slice (some ⟨g, 0, none⟩) M0.length c1) (qX M0 (k + 1)) from by
             have hs : ((qX M0 k).set k (N, f.2))[k]? = some (N, f.2) := by
               rw [List.getElem?_set_self (by rw [zQ]; exact hlt)]
             have ho := HOn.out; unfold OwnF at ho; have hl : ((qX M0 k).set k (N, f.2)).length = M0.length := by rw [List.length_set, zQ]
             rw [hl] at ho; have := jdv ho (k * 2 + 1) (.string (S annL)); rw [jaZ hs, List.set_set] at this; have e : (N, annL) = ltrF f := by unfold ltrF; rw [← HN.out, if_pos ⟨h5, h2⟩]
             simp only [e] at this; rw [jba HK.out] at this; unfold OwnF; rw [zQ]; exact this)
          have HF' := hid (show Below (w.heap.size + 2) W0 (wc.setCell ⟨g, k * 2 + 1, none⟩ (.string ⟨#[65, 110, 110, 32, 60, 97, 110, 110, 64, 120, 46, 121, 62, 44, 32, 98, 64, 99]⟩)) from HBn.out.setCell (show w.heap.size + 2 ≤ g by omega) _); have HC0 := hid (show (wc.setCell ⟨g, k * 2 + 1, none⟩ (.string ⟨#[65, 110, 110, 32, 60, 97, 110, 110, 64, 120, 46, 121, 62, 44, 32, 98, 64, 99]⟩)).cell? ⟨P, 0, none⟩ = some (.slice (some ⟨g, 0, none⟩) M0.length c1) from (World.cell?_setCell_other _ _ _ _ (fun e => hgP (congrArg Addr.block e))).trans e0); have HC1 := hid (show (wc.setCell ⟨g, k * 2 + 1, none⟩ (.string ⟨#[65, 110, 110, 32, 60, 97, 110, 110, 64, 120, 46, 121, 62, 44, 32, 98, 64, 99]⟩)).cell? ⟨P, 1, none⟩ = some (.string bd) from (World.cell?_setCell_other _ _ _ _ (fun e => hgP (congrArg Addr.block e))).trans e1); clear h5 h2 hN; go_wp2
          go_roundw
          case rel => exact ⟨k + 1, by omega, by go_num, HC0.out, HC1.out, HE, HF'⟩
          case measure => simp [intOf]; omega
        · have hp : (((S f.2).size : Int) % 2 == 1) = false := by rw [jy]; simp; omega
          have HE := hid (show OwnF wc (w.heap.size + 2) (.slice (some ⟨g, 0, none⟩) M0.length c1) (qX M0 (k + 1)) from by
             have ho := HOn.out; have e : (N, f.2) = ltrF f := by unfold ltrF; rw [← HN.out, if_neg (fun h => h2 h.2)]
             rw [e, jba HK.out] at ho; exact ho)
          clear h5 h2 hN; go_wp2
          go_roundw
          case rel => exact ⟨k + 1, by omega, by go_num, e0, e1, HE, HBn⟩
          case measure => simp [intOf]; omega
      · have hT : ((S N).toList == [116, 111]) = false := by
         rw [Lib.toList_data, jv, HN.out]; have h : f.2.length % 5 < 5 := Nat.mod_lt _ (by omega); unfold vp; generalize f.2.length % 5 = q at *
         match q, h with
         | 0, _ => rfl
         | 1, _ => exact absurd rfl h5
         | 2, _ => rfl
         | 3, _ => rfl
         | 4, _ => rfl
        have HE := hid (show OwnF wc (w.heap.size + 2) (.slice (some ⟨g, 0, none⟩) M0.length c1) (qX M0 (k + 1)) from by
         have ho := HOn.out; have e : (N, f.2) = ltrF f := by unfold ltrF; rw [← HN.out, if_neg (fun h => h5 h.1)]
         rw [e, jba HK.out] at ho; exact ho)
        clear h5; go_wp2
        go_roundw
        case rel => exact ⟨k + 1, by omega, by go_num, e0, e1, HE, HBn⟩
        case measure => simp [intOf]; omega
   · have HT := hid (show qX M0 k = M by
      rw [HME.out]; unfold qX; rw [List.take_of_length_le (by omega), List.drop_of_length_le (by omega)]; simp)
     have hlM : M.length = M0.length := by rw [HME.out]; simp
     have HFm := hid (show FieldsAt wr a1 M by
      have := HOk.out; rw [HT.out, ← hlM] at this; exact OwnF.fields this)
     have HBw := hid (show Below w.heap.size w wr from HB0.out.trans (HBk.out.mono (by omega))); have HSH := hid (show Calls Tryz.prog 17 #[.agg #[.slice a1 M0.length c1, .string bd]] wr fun e w' => e = .returned (.tuple #[.string (S (jam M bd.data.toList)), .int .i64 0]) ∧ Below wr.heap.size wr w' by
      have := jmP a1 c1 M bd wr HFm.out HMI.out (maxLenCell_below HMC.out HBw.out) HFT.out; rw [hlM] at this; exact this)
     have HPk := hid (show wr.heap[w.heap.size]? = some (.cells #[.string fl, .string fd, .string fg, .string tl, .string td, .string tg, .slice a fs.length c, .string body] 26) from (HBk.out.block w.heap.size (by omega)).trans HP0.out); have HRk := hid (show wr.heap[w.heap.size + 1]? = some (.cells #[.string ⟨#[]⟩, .string ⟨#[]⟩, .string ⟨#[]⟩, .string ⟨#[]⟩, .string ⟨#[]⟩] 31) from (HBk.out.block (w.heap.size + 1) (by omega)).trans HR0.out); clear hlM; go_wp2_with fail; refine HSH.out.mono ?_; rintro e w2 ⟨rfl, hb2⟩; obtain ⟨T, hT⟩ : ∃ T, T = jam M bd.data.toList := ⟨_, rfl⟩; rw [← hT] at HSZ ⊢; have hT2 : (2 : Int) ≤ ((S T).size : Int) := by rw [jy]; have := HSZ.out.1; omega
     have HTE := hid hT; clear hT HSH; have HB2 := hid (HBw.out.trans (hb2.mono HBw.out.size)); have hP2 := (hb2.block w.heap.size (Array.getElem?_eq_some_iff.1 HPk.out).1).trans HPk.out; have hR2 := (hb2.block (w.heap.size + 1) (Array.getElem?_eq_some_iff.1 HRk.out).1).trans HRk.out; have hz : w.heap.size + 1 < w2.heap.size := (Array.getElem?_eq_some_iff.1 hR2).1; have c0 : w2.drew.cell? ⟨w.heap.size, 0, none⟩ = some (.string fl) := by show w2.cell? _ = _; simp [World.cell?, hP2]
     have c1' : w2.drew.cell? ⟨w.heap.size, 1, none⟩ = some (.string fd) := by show w2.cell? _ = _; simp [World.cell?, hP2]
     have c2 : w2.drew.cell? ⟨w.heap.size, 2, none⟩ = some (.string fg) := by show w2.cell? _ = _; simp [World.cell?, hP2]
     have c3 : w2.drew.cell? ⟨w.heap.size, 3, none⟩ = some (.string tl) := by show w2.cell? _ = _; simp [World.cell?, hP2]
     have c4 : w2.drew.cell? ⟨w.heap.size, 4, none⟩ = some (.string td) := by show w2.cell? _ = _; simp [World.cell?, hP2]
     have c5 : w2.drew.cell? ⟨w.heap.size, 5, none⟩ = some (.string tg) := by show w2.cell? _ = _; simp [World.cell?, hP2]
     have HRB := hid hR2; obtain ⟨X, hX⟩ : ∃ X, X = jaY fl.data.toList fd.data.toList := ⟨_, rfl⟩; obtain ⟨Y, hY⟩ : ∃ Y, Y = jaY tl.data.toList td.data.toList := ⟨_, rfl⟩; have HX := hid hX; have HYY := hid hY; rw [← hX, ← hY]; clear hb2 hP2 hR2 hX hY hlt v0 v1 hk; have hne : w.heap.size ≠ w.heap.size + 1 := by omega
     have hne' : w.heap.size + 1 ≠ w.heap.size := by omega
     go_wp2
     go_region_held3 (fun w' => w'.cell? ⟨w.heap.size, 0, none⟩ = some (.string fl) ∧ w'.cell? ⟨w.heap.size, 1, none⟩ = some (.string fd) ∧ w'.cell? ⟨w.heap.size, 2, none⟩ = some (.string fg) ∧ w'.cell? ⟨w.heap.size, 3, none⟩ = some (.string tl) ∧ w'.cell? ⟨w.heap.size, 4, none⟩ = some (.string td) ∧ w'.cell? ⟨w.heap.size, 5, none⟩ = some (.string tg)) (go_keep)
      (first
          | (go_at_call_of 18 (Value.agg #[.string fl, .string fd, .string fg])
             refine (jbF fl fd fg _ H1.out H2.out).mono ?_; rintro e w3 ⟨rfl, hb3⟩; rw [← HX.out]; have d0 := jb (w := w2.drew) c0 hb3; have d1 := jb (w := w2.drew) c1' hb3; have d2 := jb (w := w2.drew) c2 hb3; have d3 := jb (w := w2.drew) c3 hb3; have d4 := jb (w := w2.drew) c4 hb3; have d5 := jb (w := w2.drew) c5 hb3)
          | (go_at_call_of 18 (Value.agg #[.string tl, .string td, .string tg])
             refine (jbF tl td tg _ H3.out H4.out).mono ?_; rintro e w4 ⟨rfl, hb4⟩; rw [← HYY.out]; have i0 := jb d0 hb4; have i1 := jb d1 hb4; have i2 := jb d2 hb4; have i3 := jb d3 hb4; have i4 := jb d4 hb4; have i5 := jb d5 hb4; have HB4 := hid (HB2.out.drew.trans ((hb3.trans (hb4.mono hb3.size)).mono HB2.out.size)); have hR4 := ((hb3.trans (hb4.mono hb3.size)).block (w.heap.size + 1) hz).trans HRB.out; obtain ⟨o0, o1, o2, o3, o4⟩ := bx5 hR4; obtain ⟨k0, k1, k2, k3, k4⟩ := bz5 hR4; clear hR4))
     have HE := hid (show Below w.heap.size w (((((w4.setCell ⟨w.heap.size + 1, 0, none⟩ (.string (S X.1))).setCell ⟨w.heap.size + 1, 1, none⟩ (.string (S X.2))).setCell ⟨w.heap.size + 1, 2, none⟩ (.string (S Y.1))).setCell ⟨w.heap.size + 1, 3, none⟩ (.string (S Y.2))).setCell ⟨w.heap.size + 1, 4, none⟩ (.string (S T))) from
      ((((HB4.out.setCell (by simp) _).setCell (by simp) _).setCell (by simp) _).setCell (by simp) _).setCell (by simp) _)
     go_wp2; refine bodyPost_ret (v := .tuple #[.agg #[.string (S X.1), .string (S X.2), .string (S Y.1), .string (S Y.2), .string (S T)], .bool true]) (by simp [results, Tryz.results5, go_sem, o0, o1, o2, o3, o4]) rfl ?_; exact ⟨by rw [← HX.out, ← HYY.out, ← HTE.out], HE.out⟩
open Go.Deep Go.Joins Go.ChangeShapes Go.WideShapes
def jnx {H : Type} (f : F) : DataW H := .agg [.lit (.string f.1), .lit (.string f.2)]
theorem jg4 {H : Type} {enc : TypeId × Value → H} {P : Program} {w : World} {base : Nat} {spare : Nat → Bool} {held : Bool} {t e : TypeId} {f0 f1 : Field} {fuel : Nat} {v : Value} {x : DataW H × List MemPlace}
 (ht : P.underlying t = some (.slice e)) (he : P.underlying e = some (.struct #[f0, f1])) (ce : P.cellsOf e = 2) (o0 : f0.offset = 0) (o1 : f1.offset = 1) (c0 : P.cellsOf f0.type = 1) (c1 : P.cellsOf f1.type = 1)
 (s0 : P.underlying f0.type = some .string) (s1 : P.underlying f1.type = some .string)
 (h : DataW.trod enc P w base spare held fuel t [v] = some x) :
 ∃ a c, ∃ fs : List F, v = .slice a fs.length c ∧ FieldsAt w a fs ∧ fs.length ≤ maxLen ∧ (∀ f ∈ fs, f.1.length ≤ maxLen ∧ f.2.length ≤ maxLen) ∧ ((x.1 = .nil ∧ fs = []) ∨ ∃ sp, x.1 = .slice (fs.map jnx) sp) := by
 rcases open_slice_pairs ht he ce o0 o1 c0 c1 h with ⟨hcs, rfl⟩ | ⟨a, len, cap, m, n, V0, V1, D0, D1, P0, P1, hcs, hb, hl, hm, hmm, rfl, hx⟩
 · simp only [List.cons.injEq, and_true] at hcs; exact ⟨none, 0, [], hcs, by intro i f hf; simp at hf, by simp, by simp, .inl ⟨rfl, rfl⟩⟩
 simp only [List.cons.injEq, and_true] at hcs; subst hcs; have hlm : len ≤ m := by rw [hmm]; split <;> omega
 have each : ∀ i, i < len → ∃ f : F, w.cell? (a.add (i * 2)) = some (.string (S f.1)) ∧ w.cell? (a.add (i * 2 + 1)) = some (.string (S f.2)) ∧ D0 i = .lit (.string f.1) ∧ D1 i = .lit (.string f.2) ∧ f.1.length ≤ maxLen ∧ f.2.length ≤ maxLen := by
  intro i hi; obtain ⟨h1, h2, h3, h4⟩ := hx i (by omega); obtain ⟨y0, e0, g0, k0⟩ := DataW.trod_string s0 h3; obtain ⟨y1, e1, g1, k1⟩ := DataW.trod_string s1 h4; simp only [List.cons.injEq, and_true] at e0 e1; simp only [Prod.mk.injEq] at g0 g1; refine ⟨(y0.data.toList, y1.data.toList), ?_, ?_, g0.1, g1.1, by rw [size_list]; exact k0, by rw [size_list]; exact k1⟩
  · rw [h1, e0, qp]
  · rw [h2, e1, qp]
 obtain ⟨q, hq⟩ := choose_lt each; refine ⟨some a, cap, (List.range len).map q, by simp, ?_, by simp; omega, ?_, .inr ⟨(List.range (m - len)).map fun j => .agg [D0 (len + j), D1 (len + j)], ?_⟩⟩
 · intro i f hf; have hi : i < len := by
    rcases Nat.lt_or_ge i len with h | h
    · exact h
    · rw [List.getElem?_eq_none (by simpa using h)] at hf; cases hf
   rw [List.getElem?_map, List.getElem?_range hi] at hf; simp only [Option.map_some, Option.some.injEq] at hf; subst hf; obtain ⟨h1, h2, _⟩ := hq i hi; obtain ⟨b, off, spot⟩ := a; have hspot : spot = none := by
    have := World.cell?_spot (hq 0 (by omega)).1
    simpa [Addr.add] using this
   subst hspot; rw [Addr.add_lit] at h1 h2; exact ⟨b, off, rfl, World.block_lt_of_cell? w _ h1, h1, by rw [Nat.add_assoc]; exact h2⟩
 · intro f hf; obtain ⟨i, hi, rfl⟩ := List.mem_map.1 hf; exact (hq i (List.mem_range.1 hi)).2.2.2.2
 · rw [List.map_map]
   show DataW.slice _ _ = DataW.slice _ _
   congr 1
   refine List.map_congr_left fun i hi => ?_
   obtain ⟨_, _, h1, h2, _⟩ := hq i (List.mem_range.1 hi)
   simp [jnx, h1, h2]
theorem jhr (c : UInt8) : vq (jhq c) = true := by
 have h := jcl c; have h2 : (jhq c).toNat = 97 + c.toNat % 26 := by omega
 have h3 : jhq c ≠ 58 := fun e => by rw [e] at h2; simp at h2; omega
 simp [vq, h2, h3]; omega
theorem jjG (l : List UInt8) : zU (zW l) = true := by
 unfold zW; split
 · decide
 · rename_i h; have : jbv l 8 ≠ [] := by
    unfold jbv; intro e; have := congrArg List.length e
    simp at this
    exact h this
   simp only [zU, Bool.and_eq_true, Bool.not_eq_true', List.all_eq_true]; refine ⟨by cases hw : jbv l 8 with | nil => exact absurd hw this | cons a t => rfl, fun x hx => ?_⟩; obtain ⟨c, _, rfl⟩ := List.mem_map.1 hx; exact jhr c
theorem jeF {n i : Nat} {c : UInt8} (h : i = 0 ∨ i + 1 = n ∨ i = 39) : jE (valC n i c) = false := by
 unfold valC; split
 · decide
 · rename_i hn; simp only [not_or, not_and] at hn; unfold jE; simp only [Bool.or_eq_false_iff, beq_eq_false_iff_ne]; refine ⟨fun e => ?_, fun e => ?_⟩
   · have := hn.2.2 (.inl e); rcases h with h | h | h
     · exact this.1 h
     · exact this.2.1 h
     · exact this.2.2 h
   · have := hn.2.2 (.inr e); rcases h with h | h | h
     · exact this.1 h
     · exact this.2.1 h
     · exact this.2.2 h
theorem jjD {l : List UInt8} {k : Nat} {x : UInt8} (h : (valK l k).head? = some x) : ∃ c, x = valC l.length 0 c := by
 induction k with
 | zero => cases h
 | succ k ih =>
   cases k with
   | zero => simp [valK] at h; exact ⟨_, h.symm⟩
   | succ k =>
     have e : (valK l (k + 1 + 1)).head? = (valK l (k + 1)).head? := by
        show (valK l (k + 1) ++ _).head? = _
        cases hv : valK l (k + 1) with
        | nil => have := jf6 l (k + 1); rw [hv] at this; simp at this
        | cons a t => rfl
     rw [e] at h; exact ih h
theorem jjE (l : List UInt8) : vH (valL l) = valL l := by
 have := qF (a := []) (m := valL l) (b := []) (by simp) (by simp) ?_ ?_
 · simpa using this
 · intro x hx; obtain ⟨c, rfl⟩ := jjD hx; exact jeF (.inl rfl)
 · intro x hx; unfold valL at hx; cases hk : min l.length 40 with
   | zero => rw [hk] at hx; cases hx
   | succ k =>
     rw [hk] at hx; have : x = valC l.length k (l[k]?.getD 0) := by simpa [valK] using hx.symm
     rw [this]; exact jeF (by omega)
theorem jno (f : F) : mayF (mkF f) = true := by
 simp only [mayF, mkF, qQ, jjG, jlk, jjE, Bool.not_false, Bool.true_and, beq_self_eq_true]
theorem jmu (fs : List F) : ∀ f ∈ msgK fs 6, mayF f = true := by
 intro f hf; obtain ⟨g, _, rfl⟩ := List.mem_map.1 hf; exact jno g
theorem jfK (fs : List F) : ∀ f ∈ msgK fs 6, f.1.length ≤ 8 ∧ f.2.length ≤ 40 := by
 intro f hf; obtain ⟨g, _, rfl⟩ := List.mem_map.1 hf; exact ⟨zy _, jll _⟩
theorem jmt (fs : List F) : (msgK fs 6).length ≤ 6 := by simp [msgK]; omega
def ltrM (fs : List F) : List F := (msgK fs 6).map ltrF
def ltrB (body : ByteArray) : ByteArray := cutB (cutB body 100) 200
theorem jcO (n : Nat) : zU (vp n) = true ∧ (vp n).length ≤ 8 := by
 unfold vp; have h : n % 5 < 5 := Nat.mod_lt _ (by omega); generalize n % 5 = q at *
 match q, h with
 | 0, _ | 1, _ | 2, _ | 3, _ | 4, _ => decide
theorem jnb : qQ annL = true := by decide +kernel
theorem jky {f : F} (h : mayF f = true) : mayF (ltrF f) = true := by
 unfold mayF ltrF at *; simp only [Bool.and_eq_true] at *; refine ⟨(jcO _).1, ?_⟩; split
 · exact jnb
 · exact h.2
theorem jiw (fs : List F) : ∀ f ∈ ltrM fs, mayF f = true := by
 intro f hf; obtain ⟨g, hg, rfl⟩ := List.mem_map.1 hf; exact jky (jmu fs g hg)
theorem jfH (fs : List F) : ∀ f ∈ ltrM fs, f.1.length ≤ 8 ∧ f.2.length ≤ 40 := by
 intro f hf; obtain ⟨g, hg, rfl⟩ := List.mem_map.1 hf; refine ⟨(jcO _).2, ?_⟩; unfold ltrF; simp only; split
 · decide
 · exact (jfK fs g hg).2
theorem jdp (fs : List F) : (ltrM fs).length ≤ 6 := by
 have := jmt fs; unfold ltrM; rw [List.length_map]; exact this
theorem jiy (fs : List F) : sumF (ltrM fs) ≤ 312 := by
 have key : ∀ l : List F, (∀ f ∈ l, f.1.length ≤ 8 ∧ f.2.length ≤ 40) → sumF l ≤ l.length * 52 := by
  intro l
  induction l with
  | nil => intro _; simp [sumF]
  | cons f l ih =>
    intro h; have h1 := h f (by simp); have h2 := ih fun g hg => h g (by simp [hg])
    have e : sumF (f :: l) = jbu f + sumF l := by simp [sumF]
    rw [e]; simp only [jbu, List.length_cons]; omega
 have := key _ (jfH fs); have := jdp fs; omega
theorem jb6 (body : ByteArray) : (ltrB body).size ≤ 100 := by unfold ltrB; rw [jbT, jbT]; omega
theorem jiv (fs : List F) (body : ByteArray) : qf (ltrM fs) (ltrB body).data.toList = 0 := by
 have h1 := jdp fs; have h2 := jiy fs; have h3 := jb6 body; rw [← size_list] at h3; unfold qf; rw [if_neg (by omega), if_neg (by simpa using jiw fs), if_neg (by omega)]
theorem jfI (fs : List F) (body : ByteArray) : 2 ≤ (jam (ltrM fs) (ltrB body).data.toList).length ∧ (jam (ltrM fs) (ltrB body).data.toList).length ≤ 500 := by
 have h2 := jiy fs; have h3 := jb6 body; rw [← size_list] at h3; rw [jd7]; omega
theorem jix (fs : List F) (body : ByteArray) : zD (jam (ltrM fs) (ltrB body).data.toList) = (ltrM fs, (ltrB body).data.toList, 0, 0) := by
 have h := jfI fs body; have h1 := jdp fs; unfold zD; rw [if_neg (by omega)]; exact jg6 (jiw fs) (by omega)
def ltrO (fl fd tl td : ByteArray) (fs : List F) (body : ByteArray) : Opn :=
 ⟨(jaY fl.data.toList fd.data.toList).1, (jaY fl.data.toList fd.data.toList).2, (jaY tl.data.toList td.data.toList).1, (jaY tl.data.toList td.data.toList).2, jam (ltrM fs) (ltrB body).data.toList, ltrM fs, (ltrB body).data.toList⟩
theorem jgX (fl fd tl td : ByteArray) (fs : List F) (body : ByteArray) : vy (ltrO fl fd tl td fs body) := by
 unfold vy jbi ltrO; simp only; rw [if_neg (by rw [(jbf _ _).check]; simp), if_neg (by rw [(jbf _ _).check]; simp), jix]
def LtrP (w : World) (o : Opn) (e : Ending) (w' : World) : Prop :=
 e = .returned (.tuple #[.agg #[.string (S o.fl), .string (S o.fd), .string (S o.tl), .string (S o.td), .string (S o.tx)], .bool true]) ∧ Below w.heap.size w w'
theorem jio (fl fd fg tl td tg : ByteArray) (a : Option Addr) (c : Nat) (fs : List F) (body : ByteArray) (w : World) (hF : FieldsAt w a fs) (hl : fs.length ≤ maxLen) (hb : ∀ f ∈ fs, f.1.length ≤ maxLen ∧ f.2.length ≤ maxLen) (hbody : body.size ≤ maxLen) (h1 : fl.size ≤ maxLen) (h2 : fd.size ≤ maxLen) (h3 : tl.size ≤ maxLen) (h4 : td.size ≤ maxLen) (hm : maxLenCell w) :
 Calls Tryz.prog 5 #[.agg #[.string fl, .string fd, .string fg, .string tl, .string td, .string tg, .slice a fs.length c, .string body]] w (LtrP w (ltrO fl fd tl td fs body)) :=
 jgR fl fd fg tl td tg a c fs body w hF hl hb hbody h1 h2 h3 h4 hm (fun f hf => (jfK fs f hf).2) (ltrM fs) rfl (ltrB body) rfl
  ⟨by have := jdp fs; omega, by have := jb6 body; omega, fun f hf => by have := jfH fs f hf; omega⟩ (jiv fs body) (by have := jfI fs body; omega)
end Go.Proofs.YtaapmpchcfcniaaGreatDoor
