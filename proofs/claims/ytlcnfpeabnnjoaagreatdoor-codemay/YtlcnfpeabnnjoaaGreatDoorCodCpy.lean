/-
  What the writer of ops takes over is copied: the walks.
-/
import Derived.Test.YtlcnfpeabnnjoaaGreatDoorCodSnd
namespace Go.Proofs.YtlcnfpeabnnjoaaGreatDoor
open Go.RowKit Go.Proofs

theorem infoStg : (Tryz.prog.info? 9).map (fun i => (i.zero, i.size, i.bytes)) = some (some (.string ByteArray.empty), 1, 16) := by kernel_rfl
theorem nilS_eq : ∀ (p : Addr) (n c : Nat) (w : World), (binOp BinOp.eql 37 (.slice (some p) n c) (.slice none 0 0)).run Tryz.prog w = .ok (.bool false) w := by intro p n c w; kernel_rfl
theorem nilS_eq0 : ∀ (n c : Nat) (w : World), (binOp BinOp.eql 37 (.slice none n c) (.slice none 0 0)).run Tryz.prog w = .ok (.bool true) w := by intro n c w; kernel_rfl
abbrev OwnXs (B : Nat) : World → Value → List (List UInt8) → Prop := OwnRow B 1 9 (fun _ _ x cs => TxtM x cs)
theorem firm_txt : Firm (fun (_ : Nat → Prop) (_ : World) (x : List UInt8) cs => TxtM x cs) := fun _ _ _ _ _ _ _ _ h => h
theorem txts_none {Q : Nat → Prop} {w : World} {c : Nat} {l : List (List UInt8)} (h : TxtsM Q w (.slice none l.length c) l) : l = [] := by
  cases l with
  | nil => rfl
  | cons x r =>
    obtain ⟨_, _, he, _⟩ := gm_txt h (i := 0) rfl
    cases he
set_option maxHeartbeats 1000000 in
set_option maxRecDepth 100000 in
theorem cloneS_any (l : List (List UInt8)) (a : Option Addr) (c : Nat) (w : World) (h : TxtsM anyB w (.slice a l.length c) l) (hl : l.length ≤ 1000) :
    Calls Tryz.prog 109 #[.slice a l.length c] w fun e w' => ∃ a' c', e = .returned (.slice a' l.length c') ∧ TxtsM (newB w.heap.size) w' (.slice a' l.length c') l ∧ Below w.heap.size w w' := by
  have heq := nilS_eq
  have heq0 := nilS_eq0
  cases a with
  | none =>
    obtain rfl := txts_none h
    go_enter Tryz.func109, Tryz.ntmps109
    go_wp2
    go_ret
    exact ⟨_, _, rfl, rowM_nil _ _ _ _ _ _, Below.refl _ _⟩
  | some p =>
    obtain ⟨W1, hW1⟩ : ∃ W1, W1 = w.alloc (.cells #[] 9) := ⟨_, rfl⟩
    have HWE := hid hW1
    have HB1 := hid (show Below w.heap.size w W1 by rw [hW1]; exact (Below.refl _ _).alloc (Nat.le_refl _) _)
    have hs1 : W1.heap.size = w.heap.size + 1 := by rw [hW1]; simp
    have HO1 := hid (show W1.ownsRow w.heap.size 9 1 (.slice (some ⟨w.heap.size, 0, none⟩) 0 0) 0 [] from ⟨rfl, .inr ⟨w.heap.size, 0, #[], rfl, Nat.le_refl _, by rw [hW1]; exact heap_alloc_new w _, Nat.le_refl _, by unfold maxLen; omega, rfl, rfl⟩⟩)
    have HR1 := hid (TxtsM.next h HB1.out)
    clear h hW1
    by_cases h0 : l = []
    · subst h0
      go_enter Tryz.func109, Tryz.ntmps109
      go_wp2
      rw [← HWE.out]
      go_ret
      exact ⟨_, _, rfl, rowM_nil _ _ _ _ _ _, HB1.out⟩
    · have hpos : 0 < l.length := List.length_pos_iff.2 h0
      obtain ⟨b, o, rfl⟩ : ∃ b o, p = ⟨b, o, none⟩ := by
        cases l with
        | nil => exact absurd rfl h0
        | cons x r =>
          obtain ⟨b, o, he, _⟩ := gm_txt HR1.out (i := 0) rfl
          exact ⟨b, o, Option.some.inj he⟩
      obtain ⟨i0, hi, hz0, hz1, hz2⟩ := info_parts infoStg
      obtain ⟨css, n1, n2, n3, n4⟩ := row_cells HR1.out l.length (Nat.le_refl _)
      have HN3 := hid n3
      have HN4 := hid (show ∀ (j : Nat) u, css.flatten[j]? = some u → W1.cell? ((⟨b, o, none⟩ : Addr).add j) = some u from fun j u hj => by rw [Addr.add_lit]; exact n4 j u hj)
      have hfl : css.flatten.length = l.length * 1 := by rw [flat_cells n2, n1]
      have HONE := hid (show ∀ u ∈ css.flatten, u.oneCell' = true from fun u hu => by
        obtain ⟨cs, hcs, hu2⟩ := List.mem_flatten.1 hu
        obtain ⟨q, hq, hqe⟩ := List.getElem_of_mem hcs
        have hq2 : css[q]? = some cs := by rw [List.getElem?_eq_getElem hq, hqe]
        have hP : cs = _ := n3 q _ cs (List.getElem?_eq_getElem (by omega)) hq2
        rw [hP] at hu2
        simp at hu2
        rw [hu2]; rfl)
      clear n3 n4 h0
      go_enter Tryz.func109, Tryz.ntmps109
      go_wp2_with (at_builtin; refine wpList_append_lies _ rfl _ _ 37 rfl w.heap.size 9 i0 _ 1 16 Tryz.underlying37 hi hz0 hz1 hz2 rfl (by decide) (.slice (some ⟨w.heap.size, 0, none⟩) 0 0) 0 [] rfl ?k1 ⟨b, o, none⟩ l.length c css.flatten rfl hfl ?k2 HONE.out hpos ?k3 ?k4 ?k5 _ rfl ?_)
      case k1 => rw [← HWE.out]; exact HO1.out
      case k2 => rw [← HWE.out]; exact HN4.out
      case k3 => unfold maxLen; omega
      case k4 => omega
      case k5 => rw [← HWE.out]; omega
      rw [← HWE.out]
      intro g cap w3 hown3 hgrow hat hlt3
      have HO3 := hid (show TxtsM (newB w.heap.size) w3 (.slice (some ⟨g, 0, none⟩) l.length cap) l from OwnRow.rowM firm_txt ⟨css, by simpa using hown3, n1, n2, HN3.out⟩ (by unfold maxLen; omega))
      have HB3 := hid (show Below w.heap.size w w3 from HB1.out.grown hgrow (by omega) (fun j hj => by have h1 : w.heap.size = j := Option.some.inj hj; omega))
      clear hown3 hgrow hat
      go_wp2
      go_ret
      exact ⟨_, _, rfl, HO3.out, HB3.out⟩
/-- What copyOf hands back. -/
def CpyP (t : Tst) (w : World) (e : Ending) (w' : World) : Prop := ∃ a1 c1 a2 c2, e = .returned (.agg #[.int .i64 t.kind, .int .i64 t.mat, .int .i64 t.part, .slice a1 t.names.length c1, .slice a2 t.keys.length c2, .bool t.over, .int .i64 t.limit, .slice none 0 0]) ∧ TxtsM (newB w.heap.size) w' (.slice a1 t.names.length c1) t.names ∧ TxtsM (newB w.heap.size) w' (.slice a2 t.keys.length c2) t.keys ∧ Below w.heap.size w w'
theorem CpyP.mk {t : Tst} {w wc : World} {a1 a2 : Option Addr} {c1 c2 : Nat} (hN : TxtsM (fun p => w.heap.size + 2 ≤ p) wc (.slice a1 t.names.length c1) t.names) (hK : TxtsM (fun p => w.heap.size + 2 ≤ p) wc (.slice a2 t.keys.length c2) t.keys) (hB : Below w.heap.size w wc) :
    CpyP t w (.returned (.agg #[.int .i64 t.kind, .int .i64 t.mat, .int .i64 t.part, .slice a1 t.names.length c1, .slice a2 t.keys.length c2, .bool t.over, .int .i64 t.limit, .slice none 0 0])) (setAll wc (w.heap.size + 1) 0 [.int .i64 t.kind, .int .i64 t.mat, .int .i64 t.part, .slice a1 t.names.length c1, .slice a2 t.keys.length c2, .bool t.over, .int .i64 t.limit, .slice none 0 0]) := by
  have hk : Keeps (fun p => w.heap.size + 2 ≤ p) wc (setAll wc (w.heap.size + 1) 0 [.int .i64 t.kind, .int .i64 t.mat, .int .i64 t.part, .slice a1 t.names.length c1, .slice a2 t.keys.length c2, .bool t.over, .int .i64 t.limit, .slice none 0 0]) := setAll_keeps (b := w.heap.size + 1) (fun k (hk : w.heap.size + 2 ≤ k) => by omega) [.int .i64 t.kind, .int .i64 t.mat, .int .i64 t.part, .slice a1 t.names.length c1, .slice a2 t.keys.length c2, .bool t.over, .int .i64 t.limit, .slice none 0 0] 0 wc wc (Keeps.refl _ _)
  exact ⟨a1, c1, a2, c2, rfl, TxtsM.imp hN (fun p (hp : w.heap.size + 2 ≤ p) => show w.heap.size ≤ p by omega) hk, TxtsM.imp hK (fun p (hp : w.heap.size + 2 ≤ p) => show w.heap.size ≤ p by omega) hk, setAll_below (by omega) _ 0 _ w hB⟩
/-- What lies there when a test is copied. -/
def CpyQ (t : Tst) (w wx : World) : Prop := ∃ a1 c1 a2 c2, wx.heap[w.heap.size]? = some (.cells #[.int .i64 t.kind, .int .i64 t.mat, .int .i64 t.part, .slice a1 t.names.length c1, .slice a2 t.keys.length c2, .bool t.over, .int .i64 t.limit, .slice none 0 0] 40) ∧ wx.heap[w.heap.size + 1]? = some (.cells #[.int .i64 0, .int .i64 0, .int .i64 0, .slice none 0 0, .slice none 0 0, .bool false, .int .i64 0, .slice none 0 0] 40) ∧ TxtsM (fun p => w.heap.size + 2 ≤ p) wx (.slice a1 t.names.length c1) t.names ∧ TxtsM (fun p => w.heap.size + 2 ≤ p) wx (.slice a2 t.keys.length c2) t.keys ∧ Below w.heap.size w wx
theorem CpyQ.mk {t : Tst} {w w3 : World} {an ak at' a1 a2 : Option Addr} {cn ck ct c1 c2 : Nat} (h0 : w3.heap[w.heap.size]? = some (.cells #[.int .i64 t.kind, .int .i64 t.mat, .int .i64 t.part, .slice an t.names.length cn, .slice ak t.keys.length ck, .bool t.over, .int .i64 t.limit, .slice at' t.tests.length ct] 40)) (h1 : w3.heap[w.heap.size + 1]? = some (.cells #[.int .i64 0, .int .i64 0, .int .i64 0, .slice none 0 0, .slice none 0 0, .bool false, .int .i64 0, .slice none 0 0] 40)) (hN : TxtsM (fun p => w.heap.size + 2 ≤ p) w3 (.slice a1 t.names.length c1) t.names) (hK : TxtsM (fun p => w.heap.size + 2 ≤ p) w3 (.slice a2 t.keys.length c2) t.keys) (hB : Below w.heap.size w w3) :
    CpyQ t w (((w3.setCell ⟨w.heap.size, 3, none⟩ (.slice a1 t.names.length c1)).setCell ⟨w.heap.size, 4, none⟩ (.slice a2 t.keys.length c2)).setCell ⟨w.heap.size, 7, none⟩ (.slice none 0 0)) := by
  have hk : Keeps (fun p => w.heap.size + 2 ≤ p) w3 (((w3.setCell ⟨w.heap.size, 3, none⟩ (.slice a1 t.names.length c1)).setCell ⟨w.heap.size, 4, none⟩ (.slice a2 t.keys.length c2)).setCell ⟨w.heap.size, 7, none⟩ (.slice none 0 0)) :=
    ((Keeps.set _ _ (fun p (hp : w.heap.size + 2 ≤ p) => by simp; omega)).trans (Keeps.set _ _ (fun p (hp : w.heap.size + 2 ≤ p) => by simp; omega))).trans (Keeps.set _ _ (fun p (hp : w.heap.size + 2 ≤ p) => by simp; omega))
  refine ⟨a1, c1, a2, c2, ?_, ?_, TxtsM.imp hN (fun _ h => h) hk, TxtsM.imp hK (fun _ h => h) hk, ((hB.setCell (Nat.le_refl _) _).setCell (Nat.le_refl _) _).setCell (Nat.le_refl _) _⟩
  · have := gm_set (gm_set (gm_set h0 3 (.slice a1 t.names.length c1)) 4 (.slice a2 t.keys.length c2)) 7 (.slice none 0 0)
    simpa using this
  · rw [Below.heap_setCell _ _ _ _ (by simp), Below.heap_setCell _ _ _ _ (by simp), Below.heap_setCell _ _ _ _ (by simp)]; exact h1
set_option maxHeartbeats 1000000 in
set_option maxRecDepth 100000 in
theorem copyOf_any (t : Tst) (an ak at' : Option Addr) (cn ck ct : Nat) (w : World) (hN : TxtsM anyB w (.slice an t.names.length cn) t.names) (hK : TxtsM anyB w (.slice ak t.keys.length ck) t.keys) (h1 : t.names.length ≤ 1000) (h2 : t.keys.length ≤ 1000) :
    Calls Tryz.prog 166 #[.agg #[.int .i64 t.kind, .int .i64 t.mat, .int .i64 t.part, .slice an t.names.length cn, .slice ak t.keys.length ck, .bool t.over, .int .i64 t.limit, .slice at' t.tests.length ct]] w (CpyP t w) := by
  obtain ⟨W1, hW1⟩ : ∃ W1, W1 = (w.alloc (.cells #[.int .i64 t.kind, .int .i64 t.mat, .int .i64 t.part, .slice an t.names.length cn, .slice ak t.keys.length ck, .bool t.over, .int .i64 t.limit, .slice at' t.tests.length ct] 40)).alloc (.cells #[.int .i64 0, .int .i64 0, .int .i64 0, .slice none 0 0, .slice none 0 0, .bool false, .int .i64 0, .slice none 0 0] 40) := ⟨_, rfl⟩
  have HWE := hid hW1
  have hal : Below w.heap.size w W1 := by rw [hW1]; exact ((Below.refl _ _).alloc (Nat.le_refl _) _).alloc (by simp) _
  have HB1 := hid hal
  have HBX := hid (show W1.heap[w.heap.size]? = some (.cells #[.int .i64 t.kind, .int .i64 t.mat, .int .i64 t.part, .slice an t.names.length cn, .slice ak t.keys.length ck, .bool t.over, .int .i64 t.limit, .slice at' t.tests.length ct] 40) by rw [hW1]; exact heap_old _ (heap_at _ rfl))
  have HBR := hid (show W1.heap[w.heap.size + 1]? = some (.cells #[.int .i64 0, .int .i64 0, .int .i64 0, .slice none 0 0, .slice none 0 0, .bool false, .int .i64 0, .slice none 0 0] 40) by rw [hW1]; exact heap_at _ (by simp))
  have hs1 : W1.heap.size = w.heap.size + 2 := by rw [hW1]; simp
  have HN1 := hid (TxtsM.next hN hal)
  have HK1 := hid (TxtsM.next hK hal)
  have HCN := hid (cloneS_any t.names an cn W1.drew HN1.out h1)
  obtain ⟨x0, x1, x2, x3, x4, x5, x6, x7, f0, f1, f2, f3, f4, f5, f6, f7⟩ := box8 HBX.out
  clear hW1 hal hN hK
  go_enter Tryz.func166, Tryz.ntmps166
  go_upto_region 1 with fail
  rw [← HWE.out]
  go_cut [] (CpyQ t w)
  case first =>
    go_region_law
      (first
        | (go_simp
           go_at_call 109
           with_reducible refine HCK.out.mono ?_
           rintro e w3 ⟨a2, c2, rfl, hT3, hb3⟩
           have HT3 := hid (show TxtsM (fun p => w.heap.size + 2 ≤ p) w3 (.slice a2 t.keys.length c2) t.keys from TxtsM.imp hT3 (fun p hp => Nat.le_trans hs2 hp) (Keeps.refl _ _))
           have HT2b := hid (TxtsM.next HT2.out hb3)
           have HB3 := hid (HB2.out.trans (hb3.mono HB2.out.size))
           have HX3 := hid (gm_low hb3 HX2.out)
           have HR3 := hid (gm_low hb3 HR2.out)
           clear x0 x1 x2 x3 x4 x5 x6 x7 f0 f1 f2 f3 f4 f5 f6 f7 hT3 hb3
           obtain ⟨x0, x1, x2, x3, x4, x5, x6, x7, f0, f1, f2, f3, f4, f5, f6, f7⟩ := box8 HX3.out)
        | (go_simp
           go_at_call 109
           with_reducible refine HCN.out.mono ?_
           rintro e w2 ⟨a1, c1, rfl, hT2, hb2⟩
           have hs2 : w.heap.size + 2 ≤ w2.heap.size := by have := hb2.size; simp at this; omega
           have HT2 := hid (show TxtsM (fun p => w.heap.size + 2 ≤ p) w2 (.slice a1 t.names.length c1) t.names from TxtsM.imp hT2 (fun p (hp : W1.drew.heap.size ≤ p) => by simp at hp; omega) (Keeps.refl _ _))
           have HB2 := hid (show Below w.heap.size w w2 from HB1.out.drew.trans (hb2.mono HB1.out.drew.size))
           have HX2 := hid (gm_low hb2 (show W1.drew.heap[w.heap.size]? = _ from HBX.out))
           have HR2 := hid (gm_low hb2 (show W1.drew.heap[w.heap.size + 1]? = _ from HBR.out))
           have HCK := hid (cloneS_any t.keys ak ck w2 (TxtsM.next HK1.out (show Below W1.heap.size W1 w2 from (Below.refl _ _).drew.trans hb2)) h2)
           clear x0 x1 x2 x3 x4 x5 x6 x7 f0 f1 f2 f3 f4 f5 f6 f7 hT2 hb2
           obtain ⟨x0, x1, x2, x3, x4, x5, x6, x7, f0, f1, f2, f3, f4, f5, f6, f7⟩ := box8 HX2.out))
    all_goals
      have HE := hid (CpyQ.mk HX3.out HR3.out HT2b.out HT3.out HB3.out)
      go_wp2_with fail
      go_meet
      exact HE.out
  case rest =>
    obtain ⟨a1, c1, a2, c2, hX, hR, hN, hK, hB⟩ := hcut
    obtain ⟨x0, x1, x2, x3, x4, x5, x6, x7, f0, f1, f2, f3, f4, f5, f6, f7⟩ := box8 hX
    obtain ⟨y0, y1, y2, y3, y4, y5, y6, y7, g0, g1, g2, g3, g4, g5, g6, g7⟩ := box8 hR
    have HN := hid hN
    have HK := hid hK
    have HB := hid hB
    clear hX hR hN hK hB
    have HE := hid (CpyP.mk HN.out HK.out HB.out)
    go_wp2
    refine bodyPost_ret (v := .agg #[.int .i64 t.kind, .int .i64 t.mat, .int .i64 t.part, .slice a1 t.names.length c1, .slice a2 t.keys.length c2, .bool t.over, .int .i64 t.limit, .slice none 0 0]) (by simp [results, Tryz.results166, go_sem, *]) rfl ?_
    exact HE.out
end Go.Proofs.YtlcnfpeabnnjoaaGreatDoor
