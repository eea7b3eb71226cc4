/-
  What the laws' maker of a letter does: the walk.
-/
import Derived.Test.YtkciflocpelhiaaGreatDoorBx
import Derived.Test.YtkciflocpelhiaaGreatDoorKeepMsg
import Derived.Test.YtkciflocpelhiaaGreatDoorLetShow
import Derived.Test.YtkciflocpelhiaaGreatDoorKeepAdr
import Derived.Test.YtkciflocpelhiaaGreatDoorKeepPick
import Derived.Deep.RegionLaw
import Derived.Deep.RegionHeld3
import Derived.Deep.DeepCutAuto
import Derived.WalkArith
namespace Go.Proofs.YtkciflocpelhiaaGreatDoor
open Go.RowKit Go.Proofs

def subjL : List UInt8 := [83, 117, 98, 106, 101, 99, 116]
def toL : List UInt8 := [116, 111]
def annL : List UInt8 := [65, 110, 110, 32, 60, 97, 110, 110, 64, 120, 46, 121, 62, 44, 32, 98, 64, 99]
def ltrName (n : Nat) : List UInt8 := if n % 5 = 0 then subjL else if n % 5 = 1 then toL else if n % 5 = 2 then [70, 114, 111, 109] else if n % 5 = 3 then [99, 99] else [88]
def ltrF (f : F) : F := (ltrName f.2.length, if f.2.length % 5 = 1 ∧ f.2.length % 2 = 1 then annL else f.2)
def ltrTo (fs : List F) (k : Nat) : List F := (fs.take k).map ltrF ++ fs.drop k
theorem ltrTo_length (fs : List F) (k : Nat) : (ltrTo fs k).length = fs.length := by simp [ltrTo]; omega
theorem ltrTo_get {fs : List F} {k : Nat} {f : F} (h : fs[k]? = some f) : (ltrTo fs k)[k]? = some f := by
  have hk := (List.getElem?_eq_some_iff.1 h).1
  unfold ltrTo
  rw [List.getElem?_append_right (by simp; omega)]
  simp [Nat.min_eq_left (Nat.le_of_lt hk), h]
theorem ltrTo_step {fs : List F} {k : Nat} {f : F} (h : fs[k]? = some f) : (ltrTo fs k).set k (ltrF f) = ltrTo fs (k + 1) := by
  obtain ⟨hk, e⟩ := List.getElem?_eq_some_iff.1 h
  unfold ltrTo
  rw [List.set_append_right _ _ (by simp; omega), take_some h, List.map_append]
  simp only [List.length_map, List.length_take, Nat.min_eq_left (Nat.le_of_lt hk), Nat.sub_self]
  rw [List.drop_eq_getElem_cons hk, List.set_cons_zero]
  simp
theorem cellsF_set0 {fs : List F} {i : Nat} {f : F} (h : fs[i]? = some f) (v : List UInt8) : (cellsF fs).set (i * 2) (.string (S v)) = cellsF (fs.set i (v, f.2)) := by
  induction fs generalizing i with
  | nil => simp at h
  | cons g fs ih =>
    cases i with
    | zero => simp at h; subst h; simp [cellsF]
    | succ i =>
      have := ih (i := i) (by simpa using h)
      have e1 : (i + 1) * 2 = (i * 2) + 2 := by omega
      rw [e1]
      simpa [cellsF] using this
theorem ltr_at {n : Nat} : ∀ h, ([Value.string { data := #[83, 117, 98, 106, 101, 99, 116] }, Value.string { data := #[116, 111] }, Value.string { data := #[70, 114, 111, 109] }, Value.string { data := #[99, 99] }, Value.string { data := #[88] }] : List Value)[n % 5]'h = .string (S (ltrName n)) := by
  unfold ltrName
  have h : n % 5 < 5 := Nat.mod_lt _ (by omega)
  generalize n % 5 = q at *
  match q, h with
  | 0, _ | 1, _ | 2, _ | 3, _ | 4, _ => intro _; rfl
theorem kl_low {w : World} {B C : Nat} {v : Value} {fs : List F} (h : OwnF w B v fs) (hC : C ≤ B) : OwnF w C v fs := by
  refine ⟨h.1, ?_⟩
  rcases h.2 with h' | ⟨g, cap, cur, h1, h2, r⟩
  · exact .inl h'
  · exact .inr ⟨g, cap, cur, h1, Nat.le_trans hC h2, r⟩
theorem own_not {w : World} {B : Nat} {a : Option Addr} {n c : Nat} {fs : List F} (h : OwnF w B (.slice a n c) fs) : ∀ g o q, a = some ⟨g, o, q⟩ → B ≤ g ∧ g < w.heap.size := by
  intro g o q e
  subst e
  exact World.ownsRow.lt h g rfl
/-- The message of a letter, in a box, while its fields are written. -/
def LtrBox (w W0 : World) (M : List F) (bd : ByteArray) (p : Value) (wx : World) : Prop := ∃ (P : Nat) (a1 : Option Addr) (c1 : Nat), p = .pointer (some ⟨P, 0, none⟩) ∧ w.heap.size + 2 ≤ P ∧ wx.cell? ⟨P, 0, none⟩ = some (.slice a1 M.length c1) ∧ wx.cell? ⟨P, 1, none⟩ = some (.string bd) ∧ OwnF wx (w.heap.size + 2) (.slice a1 M.length c1) M ∧ (∀ g o q, a1 = some ⟨g, o, q⟩ → g ≠ P) ∧ Below (w.heap.size + 2) W0 wx
/-- While one field is written: its name stands there already. -/
def LtrRow (w W0 : World) (P g k c1 n : Nat) (bd : ByteArray) (f : F) (L : List F) (N : List UInt8) (wx : World) : Prop :=
  wx.cell? ⟨P, 0, none⟩ = some (.slice (some ⟨g, 0, none⟩) n c1) ∧ wx.cell? ⟨P, 1, none⟩ = some (.string bd) ∧ wx.cell? ⟨g, k * 2, none⟩ = some (.string (S N)) ∧ wx.cell? ⟨g, k * 2 + 1, none⟩ = some (.string (S f.2)) ∧ wx.frozen? ⟨g, k * 2 + 1, none⟩ = false ∧ Hid (OwnF wx (w.heap.size + 2) (.slice (some ⟨g, 0, none⟩) n c1) (L.set k (N, f.2))) ∧ Hid (Below (w.heap.size + 2) W0 wx)
theorem LtrRow.drew {w W0 : World} {P g k c1 n : Nat} {bd : ByteArray} {f : F} {L : List F} {N : List UInt8} {wx : World} (h : LtrRow w W0 P g k c1 n bd f L N wx) : LtrRow w W0 P g k c1 n bd f L N wx.drew := by
  obtain ⟨h1, h2, h3, h4, h5, h6, h7⟩ := h
  exact ⟨h1, h2, h3, h4, h5, h6, h7.out.drew⟩
/-- What a maker of a letter hands back. -/
def LtrR (w : World) (x y : Adr) (tx : List UInt8) (e : Ending) (w' : World) : Prop :=
  e = .returned (.tuple #[.agg #[.string (S x.1), .string (S x.2), .string (S y.1), .string (S y.2), .string (S tx)], .bool true]) ∧ Below w.heap.size w w'

set_option maxHeartbeats 2000000 in
set_option maxRecDepth 100000 in
theorem letter_any (fl fd fg tl td tg : ByteArray) (a : Option Addr) (c : Nat) (fs : List F) (body : ByteArray) (w : World) (hF : FieldsAt w a fs) (hl : fs.length ≤ maxLen) (hb : ∀ f ∈ fs, f.1.length ≤ maxLen ∧ f.2.length ≤ maxLen) (hbody : body.size ≤ maxLen) (h1 : fl.size ≤ maxLen) (h2 : fd.size ≤ maxLen) (h3 : tl.size ≤ maxLen) (h4 : td.size ≤ maxLen) (hm : maxLenCell w) (hlen : ∀ f ∈ msgK fs 6, f.2.length ≤ 40)
    (M : List F) (hM : M = (msgK fs 6).map ltrF) (bd : ByteArray) (hbd : bd = cutB (cutB body 100) 200) (hmild : Mild M bd) (hfault : faultM M bd.data.toList = 0) (hsz : 2 ≤ (textM M bd.data.toList).length ∧ (textM M bd.data.toList).length ≤ 2000) :
    Calls Tryz.prog 4 #[.agg #[.string fl, .string fd, .string fg, .string tl, .string td, .string tg, .slice a fs.length c, .string body]] w (LtrR w (adrOf fl.data.toList fd.data.toList) (adrOf tl.data.toList td.data.toList) (textM M bd.data.toList)) := by
  have HF := hid hF
  have HL := hid hl
  have HB := hid hb
  have HY := hid hbody
  have H1 := hid h1
  have H2 := hid h2
  have H3 := hid h3
  have H4 := hid h4
  have HMC := hid hm
  have HLN := hid hlen
  have HMI := hid hmild
  have HFT := hid hfault
  have HSZ := hid hsz
  have HME := hid hM
  have HBE := hid hbd
  have HC100 := hid (show (cutB body 100).size ≤ maxLen by rw [cutB_size]; unfold maxLen; omega)
  clear hF hl hb hbody h1 h2 h3 h4 hm hlen hmild hfault hsz hM hbd
  obtain ⟨W0, hW0⟩ : ∃ W0, W0 = (w.alloc (.cells #[.string fl, .string fd, .string fg, .string tl, .string td, .string tg, .slice a fs.length c, .string body] 26)).alloc (.cells #[.string ⟨#[]⟩, .string ⟨#[]⟩, .string ⟨#[]⟩, .string ⟨#[]⟩, .string ⟨#[]⟩] 33) := ⟨_, rfl⟩
  have HWE := hid hW0
  have HB0 := hid (show Below w.heap.size w W0 by rw [hW0]; exact ((Below.refl _ _).alloc (Nat.le_refl _) _).alloc (by simp) _)
  have HZ0 := hid (show W0.heap.size = w.heap.size + 2 by rw [hW0]; simp)
  have hP : W0.heap[w.heap.size]? = some (.cells #[.string fl, .string fd, .string fg, .string tl, .string td, .string tg, .slice a fs.length c, .string body] 26) := by
    rw [hW0]
    have := heap_alloc_new w (.cells #[.string fl, .string fd, .string fg, .string tl, .string td, .string tg, .slice a fs.length c, .string body] 26)
    show (Array.push _ _)[_]? = _
    rw [Array.getElem?_push_lt (by simp), ← Array.getElem?_eq_getElem (by simp)]
    exact this
  have HP0 := hid hP
  have HR0 := hid (show W0.heap[w.heap.size + 1]? = some (.cells #[.string ⟨#[]⟩, .string ⟨#[]⟩, .string ⟨#[]⟩, .string ⟨#[]⟩, .string ⟨#[]⟩] 33) by
    rw [hW0]
    have := heap_alloc_new (w.alloc (.cells #[.string fl, .string fd, .string fg, .string tl, .string td, .string tg, .slice a fs.length c, .string body] 26)) (.cells #[.string ⟨#[]⟩, .string ⟨#[]⟩, .string ⟨#[]⟩, .string ⟨#[]⟩, .string ⟨#[]⟩] 33)
    simpa using this)
  have p6 : W0.cell? ⟨w.heap.size, 6, none⟩ = some (.slice a fs.length c) := by simp [World.cell?, hP]
  have p7 : W0.cell? ⟨w.heap.size, 7, none⟩ = some (.string body) := by simp [World.cell?, hP]
  clear hW0 hP
  have HBX := hid (show Below w.heap.size w (W0.alloc (.cells #[.slice none 0 0, .string ⟨#[]⟩] 49)).drew from (HB0.out.alloc HB0.out.size _).drew)
  have p6a := cell_more p6 (.cells #[.slice none 0 0, .string ⟨#[]⟩] 49)
  have p7a := cell_more p7 (.cells #[.slice none 0 0, .string ⟨#[]⟩] 49)
  have HA0 := hid (show (W0.alloc (.cells #[.slice none 0 0, .string ⟨#[]⟩] 49)).drew.cell? ⟨W0.heap.size, 0, none⟩ = some (.slice none 0 0) by simp)
  have HA1 := hid (show (W0.alloc (.cells #[.slice none 0 0, .string ⟨#[]⟩] 49)).drew.cell? ⟨W0.heap.size, 1, none⟩ = some (.string ⟨#[]⟩) by simp)
  have HAF := hid (show ∀ j, (W0.alloc (.cells #[.slice none 0 0, .string ⟨#[]⟩] 49)).drew.frozen? ⟨W0.heap.size, j, none⟩ = false by intro j; simp)
  go_enter Tryz.func4, Tryz.ntmps4
  go_wp2
  rw [← HWE.out]
  go_cut [4] (fun p wx => LtrBox w W0 (msgK fs 6) bd p wx)
  case first =>
    go_region_law
      (first
        | (go_simp
           go_at_call 10
           refine (cut_any body 100 _ HY.out (by omega)).mono ?_
           rintro e u ⟨rfl, hu⟩
           have hu' := hu.symm
           subst hu')
        | (go_simp
           go_at_call 9
           refine (message_full a c fs (cutB body 100) W0.drew (HF.out.below HB0.out.drew) HL.out HB.out HC100.out).mono ?_
           rintro e w1 ⟨a1, c1, rfl, hF1, hO1, hb1⟩)
        | (go_simp
           go_at_call 9
           refine (message_full a c fs (cutB body 100) (W0.alloc (.cells #[.slice none 0 0, .string ⟨#[]⟩] 49)).drew (HF.out.below HBX.out) HL.out HB.out HC100.out).mono ?_
           rintro e w1 ⟨a1, c1, rfl, hF1, hO1, hb1⟩
           have s0 := cell_next HA0.out hb1
           have s1 := cell_next HA1.out hb1
           have t0 := (hb1.frozen (p := ⟨W0.heap.size, 0, none⟩) (by simp)).trans (HAF.out 0)
           have t1 := (hb1.frozen (p := ⟨W0.heap.size, 1, none⟩) (by simp)).trans (HAF.out 1)))
    all_goals
      have HB1 := hid hb1
      have HO1 := hid hO1
      clear hb1 hO1 hF1
      first
        | (have HBA := hid (show Below (W0.heap.size + 1) (W0.alloc (.cells #[.slice none 0 0, .string ⟨#[]⟩] 49)).drew w1 from HB1.out.mono (by simp))
           have HOA := hid (show OwnF w1 (W0.heap.size + 1) _ _ from kl_low HO1.out (by simp))
           have HEnd := hid (show LtrBox w W0 (msgK fs 6) bd (.pointer (some ⟨W0.heap.size, 0, none⟩)) ((w1.setCell ⟨W0.heap.size, 0, none⟩ (.slice a1 (msgK fs 6).length c1)).setCell ⟨W0.heap.size, 1, none⟩ (.string (cutB (cutB body 100) 200))) from by
             have hz := HZ0.out
             refine ⟨W0.heap.size, a1, c1, rfl, by omega, ?_, ?_, ?_, ?_, ?_⟩
             · exact (World.cell?_setCell_other _ _ _ _ (by simp)).trans (World.cell?_setCell_same' w1 _ _ (by rw [s0]; rfl))
             · rw [HBE.out]
               exact World.cell?_setCell_same' _ _ _ (by rw [World.cell?_setCell_other _ _ _ _ (by simp), s1]; rfl)
             · exact kl_low ((HOA.out.far (by simp) _).far (by simp) _) (by omega)
             · intro g o q e
               have := (own_not HOA.out g o q e).1
               omega
             · exact (((((Below.refl (w.heap.size + 2) W0).alloc (by omega) _).drew).trans (HBA.out.mono (by omega))).setCell (by simp; omega) _).setCell (by simp; omega) _)
           go_wp2_with fail
           go_meet
           exact HEnd.out)
        | (have HEnd := hid (show LtrBox w W0 (msgK fs 6) bd (.pointer (some ⟨w1.heap.size, 0, none⟩)) (w1.alloc (.cells #[.slice a1 (msgK fs 6).length c1, .string (cutB (cutB body 100) 200)] 49)) from by
             have hz := HZ0.out
             have hs := HB1.out.size
             have hs' : W0.heap.size ≤ w1.heap.size := hs
             refine ⟨w1.heap.size, a1, c1, rfl, by omega, by simp, by rw [HBE.out]; simp, kl_low (World.ownsRow.alloc HO1.out _) (by simp; omega), ?_, ?_⟩
             · intro g o q e
               have := (own_not HO1.out g o q e).2
               omega
             · exact ((((Below.refl (w.heap.size + 2) W0).drew).trans (HB1.out.mono (by simp; omega)))).alloc (by omega) _)
           go_wp2_with fail
           go_meet
           exact HEnd.out)
  case rest =>
    obtain ⟨P, a1, c1, rfl, hPl, q0, q1, hO, hne, hBW⟩ := hcut
    have HO := hid hO
    have HNE := hid hne
    have HBW := hid hBW
    obtain ⟨M0, hM0⟩ : ∃ M0, M0 = msgK fs 6 := ⟨_, rfl⟩
    rw [← hM0] at HO q0 HME HLN
    have hl6 : M0.length ≤ 6 := by rw [hM0]; simp [msgK]; omega
    clear hO hne hBW hM0 p6 p7 p6a p7a
    go_wp2
    go_loopw [5] (fun i wr => ∃ k : Nat, k ≤ M0.length ∧ i = .int .i64 k ∧ wr.cell? ⟨P, 0, none⟩ = some (.slice a1 M0.length c1) ∧ wr.cell? ⟨P, 1, none⟩ = some (.string bd) ∧ Hid (OwnF wr (w.heap.size + 2) (.slice a1 M0.length c1) (ltrTo M0 k)) ∧ Hid (Below (w.heap.size + 2) W0 wr)) (fun i _ => M0.length - (intOf i).toNat)
    case atStart => exact ⟨0, Nat.zero_le _, rfl, q0, q1, by simpa [ltrTo] using HO, HBW⟩
    case round =>
      obtain ⟨k, hk, rfl, v0, v1, HOk, HBk⟩ := hrel
      by_cases hlt : k < M0.length
      · obtain ⟨f, hf⟩ : ∃ f, M0[k]? = some f := ⟨_, List.getElem?_eq_getElem hlt⟩
        have hf40 := HLN.out f (List.mem_of_getElem? hf)
        have hg := ltrTo_get hf
        have hO3 : OwnF wr (w.heap.size + 2) (.slice a1 (ltrTo M0 k).length c1) (ltrTo M0 k) := by rw [ltrTo_length]; exact HOk.out
        obtain ⟨g, off, rfl, hgl, r1, r2⟩ := (OwnF.fields hO3) k f hg
        obtain ⟨g', cap', e, hBg, _⟩ := hO3.form (by rintro e0; rw [e0] at hg; simp at hg)
        simp only [Value.slice.injEq, Option.some.injEq, Addr.mk.injEq, and_true] at e
        obtain ⟨⟨rfl, rfl⟩, -, rfl⟩ := e
        rw [Nat.zero_add] at r1 r2
        have hgP : g ≠ P := HNE.out g 0 none rfl
        have hPg : P ≠ g := fun e => hgP e.symm
        have hz2 := HBk.out.size
        have HPK := hid (show pickN ((S f.2).size : Int) 5 = f.2.length % 5 by rw [size_S]; unfold pickN; rw [if_neg (by omega)]; omega)
        have z0 := (World.ownsRow.frozenAt hO3 (k * 2))
        have z1 := (World.ownsRow.frozenAt hO3 (k * 2 + 1))
        have i1 : (k : Int) < (M0.length : Int) := by omega
        have i0 : (0 : Int) ≤ (k : Int) := by omega
        have HWF := hid (show (Lit.int .i64 ((S f.2).size : Int)).wf = true from WalkArith.wf_i64 (by rw [size_S]; omega))
        obtain ⟨N, hN⟩ : ∃ N, N = ltrName f.2.length := ⟨_, rfl⟩
        have HN := hid hN
        have HST := hid (show LtrRow w W0 P g k c1 M0.length bd f (ltrTo M0 k) N ((wr.setCell ⟨g, k * 2, none⟩ (.string (S N))).alloc (.cells #[.string ⟨#[83, 117, 98, 106, 101, 99, 116]⟩, .string ⟨#[116, 111]⟩, .string ⟨#[70, 114, 111, 109]⟩, .string ⟨#[99, 99]⟩, .string ⟨#[88]⟩] 9)) from by
          have hPs : P < wr.heap.size := World.block_lt_of_cell? wr _ v0
          have hsz : (wr.setCell ⟨g, k * 2, none⟩ (.string (S N))).heap.size = wr.heap.size := by simp
          have old : ∀ (b j : Nat), b < wr.heap.size → ((wr.setCell ⟨g, k * 2, none⟩ (.string (S N))).alloc (.cells #[.string ⟨#[83, 117, 98, 106, 101, 99, 116]⟩, .string ⟨#[116, 111]⟩, .string ⟨#[70, 114, 111, 109]⟩, .string ⟨#[99, 99]⟩, .string ⟨#[88]⟩] 9)).cell? ⟨b, j, none⟩ = (wr.setCell ⟨g, k * 2, none⟩ (.string (S N))).cell? ⟨b, j, none⟩ := fun b j hb =>
            ((Below.refl _ (wr.setCell ⟨g, k * 2, none⟩ (.string (S N)))).alloc (Nat.le_refl _) _).cell (p := ⟨b, j, none⟩) (by rw [hsz]; exact hb)
          have far : ∀ (b j : Nat), b < wr.heap.size → (b ≠ g ∨ j ≠ k * 2) → ((wr.setCell ⟨g, k * 2, none⟩ (.string (S N))).alloc (.cells #[.string ⟨#[83, 117, 98, 106, 101, 99, 116]⟩, .string ⟨#[116, 111]⟩, .string ⟨#[70, 114, 111, 109]⟩, .string ⟨#[99, 99]⟩, .string ⟨#[88]⟩] 9)).cell? ⟨b, j, none⟩ = wr.cell? ⟨b, j, none⟩ := fun b j hb hne => by
            rw [old b j hb, World.cell?_setCell_other _ _ _ _ (by intro e; cases e; omega)]
          refine ⟨(far P 0 hPs (.inl hPg)).trans v0, (far P 1 hPs (.inl hPg)).trans v1, ?_, (far g (k * 2 + 1) hgl (.inr (by omega))).trans r2, ?_, ?_, ?_⟩
          · rw [old g (k * 2) hgl]
            exact World.cell?_setCell_same' _ _ _ (by rw [r1]; rfl)
          · have h := ((Below.refl _ (wr.setCell ⟨g, k * 2, none⟩ (.string (S N)))).alloc (Nat.le_refl _) (.cells #[.string ⟨#[83, 117, 98, 106, 101, 99, 116]⟩, .string ⟨#[116, 111]⟩, .string ⟨#[70, 114, 111, 109]⟩, .string ⟨#[99, 99]⟩, .string ⟨#[88]⟩] 9)).frozen (p := ⟨g, k * 2 + 1, none⟩) (by rw [hsz]; exact hgl)
            refine h.trans ?_
            simpa using z1
          · have := World.ownsRow.alloc (own_set hO3 (k * 2) (.string (S N))) (.cells #[.string ⟨#[83, 117, 98, 106, 101, 99, 116]⟩, .string ⟨#[116, 111]⟩, .string ⟨#[70, 114, 111, 109]⟩, .string ⟨#[99, 99]⟩, .string ⟨#[88]⟩] 9)
            rw [cellsF_set0 hg] at this
            unfold Hid OwnF
            rw [ltrTo_length] at this
            rw [List.length_set, ltrTo_length]
            exact this
          · exact (HBk.out.setCell (by simp; omega) _).alloc (by rw [hsz]; have := HBk.out.size; have := HZ0.out; omega) _)
        have v0a := cell_more v0 (.cells #[.string ⟨#[83, 117, 98, 106, 101, 99, 116]⟩, .string ⟨#[116, 111]⟩, .string ⟨#[70, 114, 111, 109]⟩, .string ⟨#[99, 99]⟩, .string ⟨#[88]⟩] 9)
        have r1a := cell_more r1 (.cells #[.string ⟨#[83, 117, 98, 106, 101, 99, 116]⟩, .string ⟨#[116, 111]⟩, .string ⟨#[70, 114, 111, 109]⟩, .string ⟨#[99, 99]⟩, .string ⟨#[88]⟩] 9)
        have r2a := cell_more r2 (.cells #[.string ⟨#[83, 117, 98, 106, 101, 99, 116]⟩, .string ⟨#[116, 111]⟩, .string ⟨#[70, 114, 111, 109]⟩, .string ⟨#[99, 99]⟩, .string ⟨#[88]⟩] 9)
        have z0a : (wr.alloc (.cells #[.string ⟨#[83, 117, 98, 106, 101, 99, 116]⟩, .string ⟨#[116, 111]⟩, .string ⟨#[70, 114, 111, 109]⟩, .string ⟨#[99, 99]⟩, .string ⟨#[88]⟩] 9)).frozen? ⟨g, k * 2, none⟩ = false := (((Below.refl wr.heap.size wr).alloc (Nat.le_refl _) (.cells #[.string ⟨#[83, 117, 98, 106, 101, 99, 116]⟩, .string ⟨#[116, 111]⟩, .string ⟨#[70, 114, 111, 109]⟩, .string ⟨#[99, 99]⟩, .string ⟨#[88]⟩] 9)).frozen (p := ⟨g, k * 2, none⟩) hgl).trans z0
        have hgw : g ≠ wr.heap.size := by omega
        have HK := hid hf
        have HG := hid hg
        clear hf hg hO3 hN
        go_wp2
        go_cut [34] (fun x wx => LtrRow w W0 P g k c1 M0.length bd f (ltrTo M0 k) N wx)
        case first =>
          have hq5 : f.2.length % 5 < 5 := Nat.mod_lt _ (by omega)
          have hat := ltr_at (n := f.2.length)
          rw [← HN.out] at hat
          generalize f.2.length % 5 = q at *
          have hq1 : (q : Int) < 5 := by omega
          have hq0 : (0 : Int) ≤ (q : Int) := by omega
          go_region_law
            (go_simp
             go_at_call 5
             refine (picked_any ((S f.2).size : Int) 5 _ HWF.out (by omega) (by omega)).mono ?_
             rw [HPK.out]
             rintro e u ⟨rfl, hu⟩
             have hu' := hu.symm
             subst hu')
          all_goals
            go_wp2_with fail
            go_meet
            first
              | exact HST.out
              | exact LtrRow.drew HST.out
        case rest =>
          obtain ⟨e0, e1, e2, e3, e4, HOn, HBn⟩ := hcut
          clear v0a r1a r2a z0a z0 z1 r1 r2 v0 v1 HST
          have hn0 : (0 : Int) ≤ ((S f.2).size : Int) := by omega
          by_cases h5 : f.2.length % 5 = 1
          · have hN : N = toL := by rw [HN.out]; unfold ltrName; simp [h5]
            have hT : ((S N).toList == [116, 111]) = true := by rw [hN, Lib.toList_data, list_S]; rfl
            by_cases h2 : f.2.length % 2 = 1
            · have hp : (((S f.2).size : Int) % 2 == 1) = true := by rw [size_S]; simp; omega
              have HE := hid (show OwnF (wc.setCell ⟨g, k * 2 + 1, none⟩ (.string ⟨#[65, 110, 110, 32, 60, 97, 110, 110, 64, 120, 46, 121, 62, 44, 32, 98, 64, 99]⟩)) (w.heap.size + 2) (.slice (some ⟨g, 0, none⟩) M0.length c1) (ltrTo M0 (k + 1)) from by
                have hs : ((ltrTo M0 k).set k (N, f.2))[k]? = some (N, f.2) := by
                  rw [List.getElem?_set_self (by rw [ltrTo_length]; exact hlt)]
                have ho := HOn.out
                unfold OwnF at ho
                have hl : ((ltrTo M0 k).set k (N, f.2)).length = M0.length := by rw [List.length_set, ltrTo_length]
                rw [hl] at ho
                have := own_set ho (k * 2 + 1) (.string (S annL))
                rw [cellsF_set hs, List.set_set] at this
                have e : (N, annL) = ltrF f := by unfold ltrF; rw [← HN.out, if_pos ⟨h5, h2⟩]
                simp only [e] at this
                rw [ltrTo_step HK.out] at this
                unfold OwnF
                rw [ltrTo_length]
                exact this)
              have HF' := hid (show Below (w.heap.size + 2) W0 (wc.setCell ⟨g, k * 2 + 1, none⟩ (.string ⟨#[65, 110, 110, 32, 60, 97, 110, 110, 64, 120, 46, 121, 62, 44, 32, 98, 64, 99]⟩)) from HBn.out.setCell (show w.heap.size + 2 ≤ g by omega) _)
              have HC0 := hid (show (wc.setCell ⟨g, k * 2 + 1, none⟩ (.string ⟨#[65, 110, 110, 32, 60, 97, 110, 110, 64, 120, 46, 121, 62, 44, 32, 98, 64, 99]⟩)).cell? ⟨P, 0, none⟩ = some (.slice (some ⟨g, 0, none⟩) M0.length c1) from (World.cell?_setCell_other _ _ _ _ (fun e => hgP (congrArg Addr.block e))).trans e0)
              have HC1 := hid (show (wc.setCell ⟨g, k * 2 + 1, none⟩ (.string ⟨#[65, 110, 110, 32, 60, 97, 110, 110, 64, 120, 46, 121, 62, 44, 32, 98, 64, 99]⟩)).cell? ⟨P, 1, none⟩ = some (.string bd) from (World.cell?_setCell_other _ _ _ _ (fun e => hgP (congrArg Addr.block e))).trans e1)
              clear h5 h2 hN
              go_wp2
              go_roundw
              case rel => exact ⟨k + 1, by omega, by go_num, HC0.out, HC1.out, HE, HF'⟩
              case measure => simp [intOf]; omega
            · have hp : (((S f.2).size : Int) % 2 == 1) = false := by rw [size_S]; simp; omega
              have HE := hid (show OwnF wc (w.heap.size + 2) (.slice (some ⟨g, 0, none⟩) M0.length c1) (ltrTo M0 (k + 1)) from by
                have ho := HOn.out
                have e : (N, f.2) = ltrF f := by unfold ltrF; rw [← HN.out, if_neg (fun h => h2 h.2)]
                rw [e, ltrTo_step HK.out] at ho
                exact ho)
              clear h5 h2 hN
              go_wp2
              go_roundw
              case rel => exact ⟨k + 1, by omega, by go_num, e0, e1, HE, HBn⟩
              case measure => simp [intOf]; omega
          · have hT : ((S N).toList == [116, 111]) = false := by
              rw [Lib.toList_data, list_S, HN.out]
              have h : f.2.length % 5 < 5 := Nat.mod_lt _ (by omega)
              unfold ltrName
              generalize f.2.length % 5 = q at *
              match q, h with
              | 0, _ => rfl
              | 1, _ => exact absurd rfl h5
              | 2, _ => rfl
              | 3, _ => rfl
              | 4, _ => rfl
            have HE := hid (show OwnF wc (w.heap.size + 2) (.slice (some ⟨g, 0, none⟩) M0.length c1) (ltrTo M0 (k + 1)) from by
              have ho := HOn.out
              have e : (N, f.2) = ltrF f := by unfold ltrF; rw [← HN.out, if_neg (fun h => h5 h.1)]
              rw [e, ltrTo_step HK.out] at ho
              exact ho)
            clear h5
            go_wp2
            go_roundw
            case rel => exact ⟨k + 1, by omega, by go_num, e0, e1, HE, HBn⟩
            case measure => simp [intOf]; omega
      · have HT := hid (show ltrTo M0 k = M by
          rw [HME.out]
          unfold ltrTo
          rw [List.take_of_length_le (by omega), List.drop_of_length_le (by omega)]; simp)
        have hlM : M.length = M0.length := by rw [HME.out]; simp
        have HFm := hid (show FieldsAt wr a1 M by
          have := HOk.out
          rw [HT.out, ← hlM] at this
          exact OwnF.fields this)
        have HBw := hid (show Below w.heap.size w wr from HB0.out.trans (HBk.out.mono (by omega)))
        have HSH := hid (show Calls Tryz.prog 11 #[.agg #[.slice a1 M0.length c1, .string bd]] wr fun e w' => e = .returned (.tuple #[.string (S (textM M bd.data.toList)), .int .i64 0]) ∧ Below wr.heap.size wr w' by
          have := show_ok a1 c1 M bd wr HFm.out HMI.out (maxLenCell_below HMC.out HBw.out) HFT.out
          rw [hlM] at this
          exact this)
        have HPk := hid (show wr.heap[w.heap.size]? = some (.cells #[.string fl, .string fd, .string fg, .string tl, .string td, .string tg, .slice a fs.length c, .string body] 26) from (HBk.out.block w.heap.size (by omega)).trans HP0.out)
        have HRk := hid (show wr.heap[w.heap.size + 1]? = some (.cells #[.string ⟨#[]⟩, .string ⟨#[]⟩, .string ⟨#[]⟩, .string ⟨#[]⟩, .string ⟨#[]⟩] 33) from (HBk.out.block (w.heap.size + 1) (by omega)).trans HR0.out)
        clear hlM
        go_wp2_with fail
        refine HSH.out.mono ?_
        rintro e w2 ⟨rfl, hb2⟩
        obtain ⟨T, hT⟩ : ∃ T, T = textM M bd.data.toList := ⟨_, rfl⟩
        rw [← hT] at HSZ ⊢
        have hT2 : (2 : Int) ≤ ((S T).size : Int) := by rw [size_S]; have := HSZ.out.1; omega
        have HTE := hid hT
        clear hT HSH
        have HB2 := hid (HBw.out.trans (hb2.mono HBw.out.size))
        have hP2 := (hb2.block w.heap.size (Array.getElem?_eq_some_iff.1 HPk.out).1).trans HPk.out
        have hR2 := (hb2.block (w.heap.size + 1) (Array.getElem?_eq_some_iff.1 HRk.out).1).trans HRk.out
        have hz : w.heap.size + 1 < w2.heap.size := (Array.getElem?_eq_some_iff.1 hR2).1
        have c0 : w2.drew.cell? ⟨w.heap.size, 0, none⟩ = some (.string fl) := by show w2.cell? _ = _; simp [World.cell?, hP2]
        have c1' : w2.drew.cell? ⟨w.heap.size, 1, none⟩ = some (.string fd) := by show w2.cell? _ = _; simp [World.cell?, hP2]
        have c2 : w2.drew.cell? ⟨w.heap.size, 2, none⟩ = some (.string fg) := by show w2.cell? _ = _; simp [World.cell?, hP2]
        have c3 : w2.drew.cell? ⟨w.heap.size, 3, none⟩ = some (.string tl) := by show w2.cell? _ = _; simp [World.cell?, hP2]
        have c4 : w2.drew.cell? ⟨w.heap.size, 4, none⟩ = some (.string td) := by show w2.cell? _ = _; simp [World.cell?, hP2]
        have c5 : w2.drew.cell? ⟨w.heap.size, 5, none⟩ = some (.string tg) := by show w2.cell? _ = _; simp [World.cell?, hP2]
        have HRB := hid hR2
        obtain ⟨X, hX⟩ : ∃ X, X = adrOf fl.data.toList fd.data.toList := ⟨_, rfl⟩
        obtain ⟨Y, hY⟩ : ∃ Y, Y = adrOf tl.data.toList td.data.toList := ⟨_, rfl⟩
        have HX := hid hX
        have HYY := hid hY
        rw [← hX, ← hY]
        clear hb2 hP2 hR2 hX hY hlt v0 v1 hk
        have hne : w.heap.size ≠ w.heap.size + 1 := by omega
        have hne' : w.heap.size + 1 ≠ w.heap.size := by omega
        go_wp2
        go_region_held3 (fun w' => w'.cell? ⟨w.heap.size, 0, none⟩ = some (.string fl) ∧ w'.cell? ⟨w.heap.size, 1, none⟩ = some (.string fd) ∧ w'.cell? ⟨w.heap.size, 2, none⟩ = some (.string fg) ∧ w'.cell? ⟨w.heap.size, 3, none⟩ = some (.string tl) ∧ w'.cell? ⟨w.heap.size, 4, none⟩ = some (.string td) ∧ w'.cell? ⟨w.heap.size, 5, none⟩ = some (.string tg)) (go_keep)
          (first
             | (go_at_call_of 12 (Value.agg #[.string fl, .string fd, .string fg])
                refine (address_any fl fd fg _ H1.out H2.out).mono ?_
                rintro e w3 ⟨rfl, hb3⟩
                rw [← HX.out]
                have d0 := wcell_next (w := w2.drew) c0 hb3
                have d1 := wcell_next (w := w2.drew) c1' hb3
                have d2 := wcell_next (w := w2.drew) c2 hb3
                have d3 := wcell_next (w := w2.drew) c3 hb3
                have d4 := wcell_next (w := w2.drew) c4 hb3
                have d5 := wcell_next (w := w2.drew) c5 hb3)
             | (go_at_call_of 12 (Value.agg #[.string tl, .string td, .string tg])
                refine (address_any tl td tg _ H3.out H4.out).mono ?_
                rintro e w4 ⟨rfl, hb4⟩
                rw [← HYY.out]
                have i0 := wcell_next d0 hb4
                have i1 := wcell_next d1 hb4
                have i2 := wcell_next d2 hb4
                have i3 := wcell_next d3 hb4
                have i4 := wcell_next d4 hb4
                have i5 := wcell_next d5 hb4
                have HB4 := hid (HB2.out.drew.trans ((hb3.trans (hb4.mono hb3.size)).mono HB2.out.size))
                have hR4 := ((hb3.trans (hb4.mono hb3.size)).block (w.heap.size + 1) hz).trans HRB.out
                obtain ⟨o0, o1, o2, o3, o4⟩ := bx5 hR4
                obtain ⟨k0, k1, k2, k3, k4⟩ := bz5 hR4
                clear hR4))
        have HE := hid (show Below w.heap.size w (((((w4.setCell ⟨w.heap.size + 1, 0, none⟩ (.string (S X.1))).setCell ⟨w.heap.size + 1, 1, none⟩ (.string (S X.2))).setCell ⟨w.heap.size + 1, 2, none⟩ (.string (S Y.1))).setCell ⟨w.heap.size + 1, 3, none⟩ (.string (S Y.2))).setCell ⟨w.heap.size + 1, 4, none⟩ (.string (S T))) from
          ((((HB4.out.setCell (by simp) _).setCell (by simp) _).setCell (by simp) _).setCell (by simp) _).setCell (by simp) _)
        go_wp2
        refine bodyPost_ret (v := .tuple #[.agg #[.string (S X.1), .string (S X.2), .string (S Y.1), .string (S Y.2), .string (S T)], .bool true]) (by simp [results, Tryz.results4, go_sem, o0, o1, o2, o3, o4]) rfl ?_
        exact ⟨by rw [← HX.out, ← HYY.out, ← HTE.out], HE.out⟩
end Go.Proofs.YtkciflocpelhiaaGreatDoor
