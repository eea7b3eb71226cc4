/-
  The sorter of a letter does an action: walked.
  A letter is delivered by a script: the walk of Deliver.
  One entry is done on a state: the walk of Apply.
  The state that entries make: the walk of the laws' State.
  Two states that are the same are found so: the walk of the laws' sameState.
  What the laws' makers of a word and of an address do: the walks.
-/
import Derived.Test.YtjfkgfomlnmngaaGreatDoorQJudChk5
import Derived.Test.YtjfkgfomlnmngaaGreatDoorQBoxAl5
import Derived.Deep.QuietTactic
import Derived.BigQuiet
import Derived.Test.YtjfkgfomlnmngaaGreatDoorQJudIdx3
import Derived.Test.YtjfkgfomlnmngaaGreatDoorQWhoPure4
import Derived.Test.YtjfkgfomlnmngaaGreatDoorQScrCard5
import Derived.WalkKit
import Derived.WalkSpells
import Derived.WalkLawsBesides
import Derived.Laws.IdiomStrings
import Derived.Deep.RegionHeld3
namespace Go.Proofs.YtjfkgfomlnmngaaGreatDoor
open Go.RowKit Go.Proofs

set_option maxHeartbeats 1000000 in
set_option maxRecDepth 100000 in
theorem srtFile_any (B p : Nat) (vb : Value) (o : Opn) (es : List Ent) (nm : List UInt8) (f : Int) (w : World) (h : SrtB B p vb o w es) (hl : es.length ≤ 99) :
    Calls Tryz.prog 41 #[.pointer (some ⟨p, 0, none⟩), .string (S nm), .int .i64 f] w (SrtR B p vb o w (fileP o.tx es nm f)) := by
  obtain ⟨hBp, hpl⟩ := h.lt
  obtain ⟨W1, hW1⟩ : ∃ W1, W1 = w.alloc (.cells #[.string (S nm)] 9) := ⟨_, rfl⟩
  have HWE := hid hW1
  have hB1 : Below w.heap.size w W1 := by rw [hW1]; exact (Below.refl _ _).alloc (Nat.le_refl _) _
  have HB1 := hid hB1
  have n0 : W1.cell? ⟨w.heap.size, 0, none⟩ = some (.string (S nm)) := by rw [hW1]; simp
  have HH := hid (srtHas_any B p vb o es w.heap.size nm W1 (h.next hB1) (by omega) n0)
  have HF := hid (show fileP o.tx es nm f = if 0 ≤ idxZ (isApp nm) es then es else es ++ [appE nm f o.tx] from rfl)
  generalize fileP o.tx es nm f = r at *
  obtain ⟨ve, hp, hO, hn, _⟩ := h
  obtain ⟨av, cv, rfl⟩ := bown_slice hO
  obtain ⟨i0, hi, hz0, hz1, hz2⟩ := info_parts infoEn
  have HP := hid hp
  have HO := hid hO
  have HN := hid hn
  have hpn : some p ≠ (Value.slice av es.length cv).ownBlock := fun e => hn e.symm
  clear hp hO hn hW1 hB1
  go_enter Tryz.func41, Tryz.ntmps41
  go_upto_region 1 with fail
  rw [← HWE.out]
  go_wp2_with fail
  refine HH.out.mono ?_
  rintro e w2 ⟨rfl, hb2⟩
  simp only
  have HB2 := hid (show Below w.heap.size w w2 from HB1.out.trans (hb2.mono HB1.out.size))
  have n2 := wcell_next n0 hb2
  clear hb2
  by_cases hd : 0 ≤ idxZ (isApp nm) es
  · rw [if_pos hd] at HF
    have HE := hid (show SrtR B p vb o w r (.returned (.tuple #[])) w2 by
      rw [HF.out]
      exact ⟨⟨_, rfl⟩, SrtB.next ⟨_, HP.out, HO.out, HN.out, hBp⟩ HB2.out, HB2.out.mono (Nat.le_trans hBp (Nat.le_of_lt hpl)), SrtF.of_below HB2.out⟩)
    go_wp2
    go_end0
    exact ⟨⟨_, rfl⟩, HE.out.2⟩
  · rw [if_neg hd] at HF
    obtain ⟨c0, c1, c2, c3, c4, c5, c6, f6⟩ := box7 (low_obj HB2.out HP.out)
    have HOM := hid (show w2.ownsRow B 45 6 (.slice av es.length cv) es.length (es.map entC).flatten from owns_keep HO.out fun g hg => HB2.out.block g (World.ownsRow.lt HO.out g hg).2)
    have hsz2 := HB2.out.size
    have c6a : ∀ x : Obj, (w2.alloc x).cell? ⟨p, 6, none⟩ = some (.slice av es.length cv) := fun x => wcell_more c6 x
    have c4a : ∀ x : Obj, (w2.alloc x).cell? ⟨p, 4, none⟩ = some (.string (S o.tx)) := fun x => wcell_more c4 x
    have n2a : ∀ x : Obj, (w2.alloc x).cell? ⟨w.heap.size, 0, none⟩ = some (.string (S nm)) := fun x => wcell_more n2 x
    go_wp2
    go_region_law
      (first
        | (refine step_append_lies _ (by rfl) _ _ _ (by rfl) B 45 i0 _ 6 72 Tryz.underlying29 hi hz0 hz1 hz2 rfl (by omega) (.slice av es.length cv) es.length ((es.map entC).flatten) (by rfl) (by first | exact World.ownsRow.alloc (show World.ownsRow w2.drew _ _ _ _ _ _ from HOM.out) _ | exact (World.ownsRow.alloc HOM.out _).drew)
             ⟨w2.heap.size, 0, none⟩ 1 1 (entC (appE nm f o.tx)) (by rfl) (by rfl) (by first | exact hex_new w2.drew _ _ _ _ _ _ _ | exact hex_new w2 _ _ _ _ _ _ _) (by simp [entC, Value.oneCell']) (by omega) (by unfold maxLen; omega) (by omega) (by simp; omega) _ rfl ?_
           intro gm cap w5 hown5 hgrow hat hlt5
           have z1 := hgrow.cell (a := ⟨p, 6, none⟩) (wcell_more (w := w2.drew) c6 _) hpn
           have zf1 : w5.frozen? ⟨p, 6, none⟩ = false := (World.frozen?_of_block (hgrow.block p (by simp; omega) hpn)).trans (low_frozen (w := w2.drew) f6 c6 ((Below.refl _ _).alloc (Nat.le_refl _) _))
           have HWA := hid (show Below w.heap.size w (w2.drew.alloc (.cells #[.int .i64 2, .string (S nm), .int .i64 0, .int .i64 f, .string ByteArray.empty, .string (S o.tx)] 45)) from HB2.out.drew.alloc HB2.out.size _)
           have HEN := hid (srt_end HP.out HO.out HN.out hBp HWA.out hgrow hown5 hat)
           clear hown5 hgrow hat)
        | fail)
    all_goals
      have HFF := hid (show SrtR B p vb o w r (.returned (.tuple #[])) (w5.setCell ⟨p, 6, none⟩ (.slice (some ⟨gm, 0, none⟩) (es.length + 1) cap)) by rw [HF.out]; exact ⟨⟨_, rfl⟩, HEN.out⟩)
      go_wp2
      go_end0
      exact ⟨⟨_, rfl⟩, HFF.out.2⟩

set_option maxHeartbeats 1000000 in
set_option maxRecDepth 100000 in
theorem srtDo_any (B p : Nat) (ab : Option Addr) (cb : Nat) (o : Opn) (bs : List Bx) (es : List Ent) (a : Atn) (w : World) (h : SrtB B p (.slice ab bs.length cb) o w es) (hl : es.length ≤ 90) (hB : BoxsM (fun k => k < B) w (.slice ab bs.length cb) bs) (h1 : o.fl.length ≤ 2000) (h2 : o.fd.length ≤ 2000) :
    Calls Tryz.prog 26 #[.pointer (some ⟨p, 0, none⟩), .agg #[.int .i64 a.kind, .string (S a.text), .int .i64 a.flags]] w (SrtR B p (.slice ab bs.length cb) o w (planP bs o es a)) := by
  obtain ⟨hBp, hpl⟩ := h.lt
  obtain ⟨W1, hW1⟩ : ∃ W1, W1 = w.alloc (.cells #[.int .i64 a.kind, .string (S a.text), .int .i64 a.flags] 85) := ⟨_, rfl⟩
  have HWE := hid hW1
  have hB1 : Below w.heap.size w W1 := by rw [hW1]; exact (Below.refl _ _).alloc (Nat.le_refl _) _
  have HB1 := hid hB1
  have HBB := hid (hB1.mono (show B ≤ w.heap.size by omega))
  obtain ⟨a0, a1, a2⟩ : W1.cell? ⟨w.heap.size, 0, none⟩ = some (.int .i64 a.kind) ∧ W1.cell? ⟨w.heap.size, 1, none⟩ = some (.string (S a.text)) ∧ W1.cell? ⟨w.heap.size, 2, none⟩ = some (.int .i64 a.flags) := by rw [hW1]; refine ⟨?_, ?_, ?_⟩ <;> simp
  have hX1 : W1.heap[w.heap.size]? = some (.cells #[.int .i64 a.kind, .string (S a.text), .int .i64 a.flags] 85) := by rw [hW1]; exact tl_at _ rfl
  have HX1 := hid hX1
  have HNP := hid (show w.heap.size ≠ p by omega)
  have HNV := hid (show ∀ ve, W1.cell? ⟨p, 6, none⟩ = some ve → ve.ownBlock ≠ some w.heap.size by
    obtain ⟨vx, q1, q2, _, _⟩ := h
    intro ve hve e
    have h6 := wcell_next (box7 q1).2.2.2.2.2.2.1 hB1
    rw [h6] at hve
    cases hve
    have := (World.ownsRow.lt q2 _ e).2
    omega)
  have HSF := hid (show ∀ u, SrtF p W1 u → SrtF p w u from fun u hu k hk hkp hv => (hu k (by have := hB1.size; omega) hkp fun vx hvx => by
    refine hv vx ?_
    rw [← hvx]
    exact (World.cell?_of_block (hB1.block p hpl)).symm).trans (hB1.block k hk))
  have HS1 := hid (h.next hB1)
  have HBx := hid (hB.next hB1)
  obtain ⟨ve, hp1, _, _, _⟩ := HS1.out
  have HPX := hid hp1
  obtain ⟨c0, c1, c2, c3, c4, c5, c6, f6⟩ := box7 hp1
  have HGO := hid (show ∀ u, Below W1.heap.size W1 u → ∀ x, SrtF p u x → x.heap[w.heap.size]? = some (.cells #[.int .i64 a.kind, .string (S a.text), .int .i64 a.flags] 85) ∧ SrtF p w x from fun u hu x hx => by
    have c6' := wcell_next c6 hu
    refine ⟨(hx _ (Array.getElem?_eq_some_iff.1 (tl_low hu HX1.out)).1 HNP.out fun vx hvx => ?_).trans (tl_low hu HX1.out), HSF.out _ fun k hk hkp hv => (hx k (by have := hu.size; omega) hkp fun vx hvx => ?_).trans (hu.block k hk)⟩
    · rw [c6'] at hvx; cases hvx; exact HNV.out _ c6
    · rw [c6'] at hvx; cases hvx; exact hv _ c6)
  obtain ⟨r, hr⟩ : ∃ r, r = planP bs o es a := ⟨_, rfl⟩
  have HR := hid hr
  rw [← hr]
  unfold planP at HR
  clear h hB hB1 hW1 hp1 hr hX1
  by_cases k3 : a.kind = 3
  · have kb : (a.kind == 3) = true := by simpa using k3
    rw [if_pos k3] at HR
    have HC := hid (show Calls Tryz.prog 41 #[.pointer (some ⟨p, 0, none⟩), .string ⟨#[73, 78, 66, 79, 88]⟩, .int .i64 a.flags] W1 (SrtR B p (.slice ab bs.length cb) o W1 r) by rw [HR.out]; exact srtFile_any B p _ o es inbL a.flags W1 HS1.out (by omega))
    have HK := hid k3
    clear k3
    go_enter Tryz.func26, Tryz.ntmps26
    go_upto_region 1 with fail
    rw [← HWE.out]
    go_wp2_with fail
    refine HC.out.mono ?_
    rintro e w2 ⟨⟨v, rfl⟩, hS2, hb2, hf2⟩
    have HE := hid (show SrtR B p (.slice ab bs.length cb) o w r (.returned v) w2 from ⟨⟨_, rfl⟩, hS2, HBB.out.trans hb2, HSF.out _ hf2⟩)
    clear hS2 hb2 hf2
    go_wp2
    go_end0
    exact ⟨⟨_, rfl⟩, HE.out.2⟩
  · rw [if_neg k3] at HR
    have kb3 : (a.kind == 3) = false := by simpa using k3
    have HK3 := hid k3
    clear k3
    by_cases k5 : a.kind = 5
    · have kb : (a.kind == 5) = true := by simpa using k5
      rw [if_pos k5] at HR
      have HC := hid (boxFor_any p ab cb ve o bs a.text W1.drew _ HPX.out HBx.out)
      have HD := hid (fun u (hu : Below W1.heap.size W1 u) => show Calls Tryz.prog 41 #[.pointer (some ⟨p, 0, none⟩), .string (S (boxFor bs a.text)), .int .i64 a.flags] u (SrtR B p (.slice ab bs.length cb) o u r) by rw [HR.out]; exact srtFile_any B p _ o es _ a.flags u (HS1.out.next hu) (by omega))
      have HK := hid k5
      generalize boxFor bs a.text = nm at *
      clear k5
      go_enter Tryz.func26, Tryz.ntmps26
      go_upto_region 1 with fail
      rw [← HWE.out]
      go_wp2_with fail
      go_region_held3 (fun w' => w'.cell? ⟨w.heap.size, 1, none⟩ = some (.string (S a.text)) ∧ w'.cell? ⟨w.heap.size, 2, none⟩ = some (.int .i64 a.flags)) (first | go_keep | fail)
        (first
          | (go_at_call 42
             with_reducible refine HC.out.mono ?_
             rintro e w2 ⟨rfl, hb2⟩
             have HB2 := hid (show Below W1.heap.size W1 w2 from ((Below.refl W1.heap.size W1).drew).trans hb2)
             have HD2 := hid (HD.out w2 HB2.out)
             have HG2 := hid (HGO.out w2 HB2.out)
             have m1 := wcell_next a1 HB2.out
             have m2 := wcell_next a2 HB2.out
             clear hb2)
          | (go_at_call 41
             with_reducible refine HD2.out.mono ?_
             rintro e w3 ⟨⟨v, rfl⟩, hS3, hb3, hf3⟩
             have hx3 := HG2.out w3 hf3
             have m1 := tl_cell (j := 1) hx3.1 rfl
             have m2 := tl_cell (j := 2) hx3.1 rfl
             have HE := hid (show SrtR B p (.slice ab bs.length cb) o w r (.returned v) w3 from ⟨⟨_, rfl⟩, hS3, (HBB.out.trans (HB2.out.mono (by have := HB1.out.size; omega))).trans hb3, hx3.2⟩)
             clear hS3 hb3 hf3 hx3)
          | fail)
      all_goals
        go_wp2
        go_end0
        exact ⟨⟨_, rfl⟩, HE.out.2⟩
    · rw [if_neg k5] at HR
      have kb5 : (a.kind == 5) = false := by simpa using k5
      have HK5 := hid k5
      clear k5
      by_cases k6 : a.kind = 6
      · have kb : (a.kind == 6) = true := by simpa using k6
        rw [if_pos k6] at HR
        have HC := hid (show Calls Tryz.prog 43 #[.pointer (some ⟨p, 0, none⟩), .string (S a.text), .string (S o.tx)] W1.drew (SrtR B p (.slice ab bs.length cb) o W1.drew r) by rw [HR.out]; exact srtSpool_any B p _ o es a.text o.tx W1.drew HS1.out (by omega))
        have HK := hid k6
        clear k6
        go_enter Tryz.func26, Tryz.ntmps26
        go_upto_region 1 with fail
        rw [← HWE.out]
        go_wp2_with fail
        go_region_held3 (fun w' => w'.cell? ⟨w.heap.size, 1, none⟩ = some (.string (S a.text)) ∧ w'.cell? ⟨p, 4, none⟩ = some (.string (S o.tx))) (first | go_keep | fail)
          (first
            | (go_at_call 43
               with_reducible refine HC.out.mono ?_
               rintro e w3 ⟨⟨v, rfl⟩, hS3, hb3, hf3⟩
               have hx3 := HGO.out W1 (Below.refl _ _) w3 hf3
               have m1 := tl_cell (j := 1) hx3.1 rfl
               obtain ⟨_, hq3, _⟩ := id hS3
               have m4 := (box7 hq3).2.2.2.2.1
               have HE := hid (show SrtR B p (.slice ab bs.length cb) o w r (.returned v) w3 from ⟨⟨_, rfl⟩, hS3, HBB.out.trans (((Below.refl B W1).drew).trans hb3), hx3.2⟩)
               clear hS3 hb3 hf3 hx3 hq3)
            | fail)
        all_goals
          go_wp2
          go_end0
          exact ⟨⟨_, rfl⟩, HE.out.2⟩
      · rw [if_neg k6] at HR
        have kb6 : (a.kind == 6) = false := by simpa using k6
        have HK6 := hid k6
        clear k6
        by_cases k7 : a.kind = 7
        · have kb : (a.kind == 7) = true := by simpa using k7
          rw [if_pos k7] at HR
          have HC := hid (srtSender_any p _ ve o W1.drew HPX.out h1 h2)
          have HD := hid (fun u (hu : Below W1.heap.size W1 u) => show Calls Tryz.prog 43 #[.pointer (some ⟨p, 0, none⟩), .string (S (partM 1 o.fl o.fd).1), .string (S a.text)] u (SrtR B p (.slice ab bs.length cb) o u r) by rw [HR.out]; exact srtSpool_any B p _ o es _ a.text u (HS1.out.next hu) (by omega))
          have HK := hid k7
          generalize (partM 1 o.fl o.fd).1 = nm at *
          clear k7
          go_enter Tryz.func26, Tryz.ntmps26
          go_upto_region 1 with fail
          rw [← HWE.out]
          go_wp2_with fail
          go_region_held3 (fun w' => w'.cell? ⟨w.heap.size, 1, none⟩ = some (.string (S a.text))) (first | go_keep | fail)
            (first
              | (go_at_call 44
                 with_reducible refine HC.out.mono ?_
                 rintro e w2 ⟨rfl, hb2⟩
                 have HB2 := hid (show Below W1.heap.size W1 w2 from ((Below.refl W1.heap.size W1).drew).trans hb2)
                 have HD2 := hid (HD.out w2 HB2.out)
                 have HG2 := hid (HGO.out w2 HB2.out)
                 have m1 := wcell_next a1 HB2.out
                 clear hb2)
              | (go_at_call 43
                 with_reducible refine HD2.out.mono ?_
                 rintro e w3 ⟨⟨v, rfl⟩, hS3, hb3, hf3⟩
                 have hx3 := HG2.out w3 hf3
                 have m1 := tl_cell (j := 1) hx3.1 rfl
                 have HE := hid (show SrtR B p (.slice ab bs.length cb) o w r (.returned v) w3 from ⟨⟨_, rfl⟩, hS3, (HBB.out.trans (HB2.out.mono (by have := HB1.out.size; omega))).trans hb3, hx3.2⟩)
                 clear hS3 hb3 hf3 hx3)
              | fail)
          all_goals
            go_wp2
            go_end0
            exact ⟨⟨_, rfl⟩, HE.out.2⟩
        · rw [if_neg k7] at HR
          have kb7 : (a.kind == 7) = false := by simpa using k7
          have HK7 := hid k7
          clear k7
          have HE := hid (show SrtB B p (.slice ab bs.length cb) o W1 r by rw [HR.out]; exact HS1.out)
          go_enter Tryz.func26, Tryz.ntmps26
          go_upto_region 1 with fail
          rw [← HWE.out]
          go_wp2_with fail
          go_end0
          exact ⟨⟨_, rfl⟩, HE.out, HBB.out, SrtF.of_below HB1.out⟩
end Go.Proofs.YtjfkgfomlnmngaaGreatDoor
namespace Go.Proofs.YtjfkgfomlnmngaaGreatDoor
open Go.RowKit Go.Proofs

set_option maxHeartbeats 1000000 in
set_option maxRecDepth 100000 in
theorem actionsOf_ok (n : Nat) (l : List Cmd) (a : Option Addr) (k : Nat) (o : Opn) (w : World) (hw : Tabs w) (hm : maxLenCell w) (hj : Opened o) (hk : l.length ≤ k) (hn : l = [] → a = none ∧ k = 0) (hs : ∀ x ∈ l, ShortC (n + 1) x) (hC : CmdsM anyB (n + 1) w (.slice a l.length k) l) (hr : ruleM (n + 1) l = 0) (hg : ∀ x ∈ l, goodC (n + 1) x) :
    Calls Tryz.prog 25 #[.agg #[.string (S o.fl), .string (S o.fd), .string (S o.tl), .string (S o.td), .string (S o.tx)], .slice a l.length k] w (EndR w (endP (judgeP o (n + 1) l))) := by
  obtain ⟨W1, hW1⟩ : ∃ W1, W1 = w.alloc (.cells #[.string (S o.fl), .string (S o.fd), .string (S o.tl), .string (S o.td), .string (S o.tx)] 36) := ⟨_, rfl⟩
  have HWE := hid hW1
  have hB1 : Below w.heap.size w W1 := by rw [hW1]; exact (Below.refl _ _).alloc (Nat.le_refl _) _
  have HB1 := hid hB1
  have hX1 : W1.heap[w.heap.size]? = some (.cells #[.string (S o.fl), .string (S o.fd), .string (S o.tl), .string (S o.td), .string (S o.tx)] 36) := by rw [hW1]; exact tl_at _ rfl
  have l0 := tl_cell (j := 0) hX1 rfl
  have l1 := tl_cell (j := 1) hX1 rfl
  have l2 := tl_cell (j := 2) hX1 rfl
  have l3 := tl_cell (j := 3) hX1 rfl
  have l4 := tl_cell (j := 4) hX1 rfl
  have HJ := hid (Judge_ok n l a k o W1 (hw.next hB1) (maxLenCell_below hm hB1) hj hk hn hs (CmdsM.next hC hB1) hr hg)
  have HOK := hid (judge_ok o (n + 1) l)
  generalize judgeP o (n + 1) l = c at *
  clear hw hm hj hk hn hs hC hr hg hW1 hB1 hX1
  go_enter Tryz.func25, Tryz.ntmps25
  go_upto_region 1 with fail
  rw [← HWE.out]
  go_wp2_with fail
  refine HJ.out.mono ?_
  rintro e w2 ⟨ac, kc, rfl, hA2, hn2, hb2⟩
  simp only
  obtain ⟨W3, hW3⟩ : ∃ W3, W3 = w2.alloc (.cells #[.slice ac c.acts.length kc, .int .i64 c.flags, .bool c.asked, .int .i64 c.fault] 110) := ⟨_, rfl⟩
  have HWE3 := hid hW3
  have hB3 : Below w2.heap.size w2 W3 := by rw [hW3]; exact (Below.refl _ _).alloc (Nat.le_refl _) _
  have HB3 := hid (show Below w.heap.size w W3 from (HB1.out.trans (hb2.mono HB1.out.size)).trans (hB3.mono (Nat.le_trans HB1.out.size hb2.size)))
  have hX3 : W3.heap[w2.heap.size]? = some (.cells #[.slice ac c.acts.length kc, .int .i64 c.flags, .bool c.asked, .int .i64 c.fault] 110) := by rw [hW3]; exact tl_at _ rfl
  have m0 := tl_cell (j := 0) hX3 rfl
  have m1 := tl_cell (j := 1) hX3 rfl
  have m2 := tl_cell (j := 2) hX3 rfl
  have m3 := tl_cell (j := 3) hX3 rfl
  have HE := hid (End_ok c ac kc W3 (AtnsM.next hA2 hB3) hn2 HOK.out)
  clear hA2 hn2 hb2 hW3 hB3 hX3
  go_upto_region 2 with fail
  rw [← HWE3.out]
  go_wp2_with fail
  refine HE.out.mono ?_
  rintro e w4 ⟨ax, kx, rfl, hA4, hb4⟩
  simp only
  have HF := hid (show EndR w (endP c) (.returned (.tuple #[.slice ax (endP c).length kx, .int .i64 0])) w4 from ⟨ax, kx, rfl, hA4, HB3.out.trans (hb4.mono HB3.out.size)⟩)
  generalize endP c = q at *
  clear hA4 hb4
  go_wp2
  go_ret2
  exact HF.out
theorem end_len {c : Crs} (h : crsOk c) : (endP c).length ≤ 6 := by
  unfold endP
  split
  · simp
  · split
    · simp
    · exact h.1
theorem allM_err : ∀ {l : List Ent} {s : Stt} {z : Int}, allM s l = .error z → z ≠ 0 := by
  intro l
  induction l with
  | nil => intro s z h; cases h
  | cons x l ih =>
    intro s z h
    have h1 := allM_app [x] l s
    rw [allM_one, List.singleton_append, h] at h1
    cases hd : doM s x with
    | error e => rw [hd] at h1; cases h1; exact doM_err hd
    | ok s' => rw [hd] at h1; exact ih h1.symm

set_option maxHeartbeats 1000000 in
set_option maxRecDepth 100000 in
theorem deliver_ok (n : Nat) (l : List Cmd) (a : Option Addr) (k : Nat) (o : Opn) (s : Stt) (vb vs : Value) (w : World) (hw : Tabs w) (hm : maxLenCell w) (hj : Opened o) (hk : l.length ≤ k) (hn : l = [] → a = none ∧ k = 0) (hs : ∀ x ∈ l, ShortC (n + 1) x) (hC : CmdsM anyB (n + 1) w (.slice a l.length k) l) (hr : ruleM (n + 1) l = 0) (hg : ∀ x ∈ l, goodC (n + 1) x) (Q : Nat → Prop) (hS : SttM Q w vb vs s) (hM : May s) (es : List Ent) (hes : es = plan s.boxes o (endP (judgeP o (n + 1) l))) (hF : ∀ x ∈ es, Formed x) :
    Calls Tryz.prog 9 #[.agg #[vb, vs], .agg #[.string (S o.fl), .string (S o.fd), .string (S o.tl), .string (S o.td), .string (S o.tx)], .slice a l.length k] w (DlvP w s es) := by
  obtain ⟨ab, cb, rfl⟩ := RowM.slice hS.1
  obtain ⟨aq, cq, rfl⟩ := RowM.slice hS.2.1
  obtain ⟨W1, hW1⟩ : ∃ W1, W1 = ((w.alloc (.cells #[.slice ab s.boxes.length cb, .slice aq s.spool.length cq] 31)).alloc (.cells #[.string (S o.fl), .string (S o.fd), .string (S o.tl), .string (S o.td), .string (S o.tx)] 36)).alloc (.cells #[.slice none 0 0, .slice none 0 0] 31) := ⟨_, rfl⟩
  have HWE := hid hW1
  have hB1 : Below w.heap.size w W1 := by rw [hW1]; exact (((Below.refl _ _).alloc (Nat.le_refl _) _).alloc (by simp) _).alloc (by simp; omega) _
  have HB1 := hid hB1
  have hs1 : W1.heap.size = w.heap.size + 3 := by rw [hW1]; simp
  have HX1 := hid (show W1.heap[w.heap.size]? = some (.cells #[.slice ab s.boxes.length cb, .slice aq s.spool.length cq] 31) by rw [hW1]; exact tl_old _ (tl_old _ (tl_at _ rfl)))
  have HL1 := hid (show W1.heap[w.heap.size + 1]? = some (.cells #[.string (S o.fl), .string (S o.fd), .string (S o.tl), .string (S o.td), .string (S o.tx)] 36) by rw [hW1]; exact tl_old _ (tl_at _ (by simp)))
  have HZ1 := hid (show W1.heap[w.heap.size + 2]? = some (.cells #[.slice none 0 0, .slice none 0 0] 31) by rw [hW1]; exact tl_at _ (by simp))
  have x0 := tl_cell (j := 0) HX1.out rfl
  have x1 := tl_cell (j := 1) HX1.out rfl
  have HS1 := hid (hS.next hB1)
  have HCK := hid (check_ok s _ _ W1 Q HS1.out hM)
  have HAC := hid (fun u (hu : Below w.heap.size w u) => actionsOf_ok n l a k o u (hw.next hu) (maxLenCell_below hm hu) hj hk hn hs (CmdsM.next hC hu) hr hg)
  have HOP := hid (opened_ok hj).1
  have HOK := hid (end_len (judge_ok o (n + 1) l))
  have HM := hid hM
  have HES := hid hes
  have HFM := hid hF
  generalize endP (judgeP o (n + 1) l) = aL at *
  clear hw hm hj hk hn hs hC hr hg hW1 hB1 hS hM hes hF
  go_enter Tryz.func9, Tryz.ntmps9
  go_upto_region 1 with fail
  rw [← HWE.out]
  go_wp2_with fail
  refine HCK.out.mono ?_
  rintro e w2 ⟨rfl, hb2⟩
  simp only
  have HB2 := hid (show Below w.heap.size w w2 from HB1.out.trans (hb2.mono HB1.out.size))
  have HX2 := hid (tl_low hb2 HX1.out)
  have HL2 := hid (tl_low hb2 HL1.out)
  have HZ2 := hid (tl_low hb2 HZ1.out)
  have l0 := tl_cell (j := 0) HL2.out rfl
  have l1 := tl_cell (j := 1) HL2.out rfl
  have l2 := tl_cell (j := 2) HL2.out rfl
  have l3 := tl_cell (j := 3) HL2.out rfl
  have l4 := tl_cell (j := 4) HL2.out rfl
  have HS2 := hid (HS1.out.next hb2)
  have HA2 := hid (HAC.out w2 HB2.out)
  clear hb2 HCK HAC HWE x0 x1 HX1 HL1 HZ1 HS1
  go_wp2_with fail
  refine HA2.out.mono ?_
  rintro e w3 ⟨ac, kc, rfl, hA3, hb3⟩
  simp only
  have HB3 := hid (show Below w.heap.size w w3 from HB2.out.trans (hb3.mono HB2.out.size))
  have HX3 := hid (tl_low hb3 HX2.out)
  have HL3 := hid (tl_low hb3 HL2.out)
  have HZ3 := hid (tl_low hb3 HZ2.out)
  have hal3 : Below w3.heap.size w3 (w3.alloc (.cells #[.string (S o.fl), .string (S o.fd), .string (S o.tl), .string (S o.td), .string (S o.tx), .slice ab s.boxes.length cb, .slice none 0 0] 83)) := (Below.refl _ _).alloc (Nat.le_refl _) _
  obtain ⟨W4, hW4⟩ : ∃ W4, W4 = w3.alloc (.cells #[.string (S o.fl), .string (S o.fd), .string (S o.tl), .string (S o.td), .string (S o.tx), .slice ab s.boxes.length cb, .slice none 0 0] 83) := ⟨_, rfl⟩
  have HWE4 := hid hW4
  rw [← hW4] at hal3
  have HS4 := hid ((HS2.out.next hb3).lows.next hal3)
  have HA4 := hid (show AtnsM (fun k => k < w3.heap.size) W4 (.slice ac aL.length kc) aL from AtnsM.next (RowM.lows hA3 fun _ _ h => h) hal3)
  have HB4 := hid (show Below w.heap.size w W4 from HB3.out.trans (hal3.mono HB3.out.size))
  have HX4 := hid (tl_low hal3 HX3.out)
  have HZ4 := hid (tl_low hal3 HZ3.out)
  have HSB := hid (show SrtB w3.heap.size w3.heap.size (.slice ab s.boxes.length cb) o W4 [] from ⟨_, by rw [hW4]; exact tl_at _ rfl, World.ownsRow_nil _ _ _ _, by simp [Value.ownBlock], Nat.le_refl _⟩)
  obtain ⟨B, hBe⟩ : ∃ B, B = w3.heap.size := ⟨_, rfl⟩
  have hlB : w.heap.size + 2 < B := by rw [hBe]; exact (Array.getElem?_eq_some_iff.1 HZ3.out).1
  have l0 := tl_cell (j := 0) HL3.out rfl
  have l1 := tl_cell (j := 1) HL3.out rfl
  have l2 := tl_cell (j := 2) HL3.out rfl
  have l3 := tl_cell (j := 3) HL3.out rfl
  have l4 := tl_cell (j := 4) HL3.out rfl
  have x0 := tl_cell (j := 0) HX3.out rfl
  have HBE := hid hBe
  rw [← hBe] at HSB HS4 HA4
  have ho6 : aL.length ≤ 6 := HOK.out
  clear hA3 hb3 hal3 hW4 HA2 HX2 HL2 HZ2 HX3 HL3 HZ3 HS2 hBe
  go_upto_region 8 with fail
  rw [← HWE4.out]
  go_wp2_with fail
  rw [← HBE.out]
  clear HWE4 HBE l0 l1 l2 l3 l4 x0
  go_loopw [38] (fun v wr => ∃ i : Nat, i ≤ aL.length ∧ v = .int .i64 i ∧ Hid (SrtB B B (.slice ab s.boxes.length cb) o wr (plan s.boxes o (aL.take i))) ∧ Hid (Below B W4 wr)) (fun v _ => aL.length - (intOf v).toNat)
  case atStart => exact ⟨0, Nat.zero_le _, rfl, HSB, Below.refl _ _⟩
  case round =>
    obtain ⟨i, hi, rfl, HT, HBW⟩ := hrel
    by_cases hlt : i < aL.length
    · have i1 : (i : Int) < (aL.length : Int) := by omega
      have i0 : (0 : Int) ≤ (i : Int) := by omega
      obtain ⟨x, hx⟩ : ∃ x, aL[i]? = some x := ⟨_, List.getElem?_eq_getElem hlt⟩
      have hAr : AtnsM (fun k => k < B) wr (.slice ac aL.length kc) aL := RowM.imp HA4.out (fun _ h => h) (Keeps.of_below' HBW.out fun _ h => h) fun _ _ h => h
      obtain ⟨b, q, rfl, e0, e1, e2⟩ := atn_at hAr hx
      obtain ⟨W5, hW5⟩ : ∃ W5, W5 = wr.alloc (.cells #[.int .i64 x.kind, .string (S x.text), .int .i64 x.flags] 85) := ⟨_, rfl⟩
      have HWE5 := hid hW5
      have hB5 : Below wr.heap.size wr W5 := by rw [hW5]; exact (Below.refl _ _).alloc (Nat.le_refl _) _
      have hX5 : W5.heap[wr.heap.size]? = some (.cells #[.int .i64 x.kind, .string (S x.text), .int .i64 x.flags] 85) := by rw [hW5]; exact tl_at _ rfl
      have y0 := tl_cell (j := 0) hX5 rfl
      have y1 := tl_cell (j := 1) hX5 rfl
      have y2 := tl_cell (j := 2) hX5 rfl
      have hBr : B ≤ wr.heap.size := Nat.le_of_lt HT.out.lt.2
      have HB5 := hid (show Below B W4 W5 from HBW.out.trans (hB5.mono hBr))
      have hln := plan_len s.boxes o (aL.take i)
      have HD := hid (srtDo_any B B ab cb o s.boxes (plan s.boxes o (aL.take i)) x W5 (HT.out.next hB5) (by simp at hln; omega) (BoxsM.imp HS4.out.1 (fun _ h => h) (Keeps.of_below' HB5.out fun _ h => h)) HOP.out.1.1 HOP.out.1.2.1)
      rw [← plan_step hx] at HD
      clear hx hAr hW5 hB5 hX5 hln
      go_upto_region 11 with fail
      rw [← HWE5.out]
      go_wp2_with fail
      refine HD.out.mono ?_
      rintro e w6 ⟨⟨v, rfl⟩, hT6, hb6, _⟩
      have HT6 := hid hT6
      have HB6 := hid (HB5.out.trans hb6)
      clear hT6 hb6
      go_wp2
      go_roundw
      case rel => first | exact ⟨i + 1, by omega, by go_num, HT6, HB6⟩ | ((repeat apply Exists.intro); exact ⟨⟨i + 1, by omega, by go_num, HT6, HB6⟩, rfl⟩)
      case measure => simp [intOf]; omega
    · have i1 : ¬ (i : Int) < (aL.length : Int) := by omega
      rw [List.take_of_length_le (by omega), ← HES.out] at HT
      have hBr : B ≤ wr.heap.size := Nat.le_of_lt HT.out.lt.2
      have hBX : wr.heap[w.heap.size]? = some (.cells #[.slice ab s.boxes.length cb, .slice aq s.spool.length cq] 31) := (HBW.out.block _ (by omega)).trans HX4.out
      have HZR := hid (show wr.heap[w.heap.size + 2]? = some (.cells #[.slice none 0 0, .slice none 0 0] 31) from (HBW.out.block _ (by omega)).trans HZ4.out)
      have x0 := tl_cell (j := 0) hBX rfl
      have x1 := tl_cell (j := 1) hBX rfl
      have hle : es.length ≤ 6 := by have := plan_len s.boxes o aL; rw [← HES.out] at this; omega
      obtain ⟨ve, hq, hO, _, _⟩ := HT.out
      obtain ⟨av, cv, rfl⟩ := bown_slice hO
      have hvm := own_ents hO (by omega)
      have HEV := hid hvm
      have HQR := hid hq
      have c6 := (box7 hq).2.2.2.2.2.2.1
      have HAL := hid (all_any s _ _ es av cv wr (fun _ => True) (SttM.imp HS4.out (fun _ _ => trivial) (Keeps.of_below' HBW.out fun _ h => h)) HM.out (EntsM.imp hvm (fun _ _ => trivial) (Keeps.refl _ _)) (by omega) HFM.out)
      have HBR := hid (show Below w.heap.size w wr from HB4.out.trans (HBW.out.mono (by omega)))
      have HBB := hid hBr
      clear hBX hvm hq hO
      go_wp2_with fail
      refine HAL.out.mono ?_
      intro e w7 hA
      have hb7 := hA.1
      have HB7 := hid (show Below w.heap.size w w7 from HBR.out.trans (hb7.mono HBR.out.size))
      have hs7 := hb7.size
      obtain ⟨P, hP⟩ : ∃ P, P = w7.heap.size := ⟨_, rfl⟩
      cases hall : allM s es with
      | error z =>
        rw [hall] at hA
        obtain ⟨_, rfl⟩ := hA
        have hzn := allM_err hall
        have hz' : ¬ z = 0 := hzn
        have hz'' : (z == 0) = false := by simp [hzn]
        obtain ⟨W8, hW8⟩ : ∃ W8, W8 = w7.alloc (.cells #[.slice none 0 0, .slice none 0 0] 31) := ⟨_, rfl⟩
        have HWE8 := hid hW8
        have hB8 : Below w7.heap.size w7 W8 := by rw [hW8]; exact (Below.refl _ _).alloc (Nat.le_refl _) _
        have hZ8 := tl_low hB8 (tl_low hb7 HZR.out)
        obtain ⟨u0, u1, h0, h1⟩ := box2f hZ8
        obtain ⟨v0, v1, j0, j1⟩ := box2f (set2_block (u0 := .slice none 0 0) (u1 := .slice none 0 0) hZ8)
        have HE := hid (show DlvP w s es (.returned (.tuple #[.slice none 0 0, .agg #[.slice none 0 0, .slice none 0 0], .int .i64 z])) ((W8.setCell ⟨w.heap.size + 2, 0, none⟩ (.slice none 0 0)).setCell ⟨w.heap.size + 2, 1, none⟩ (.slice none 0 0)) by
          unfold DlvP
          rw [hall]
          exact ⟨((HB7.out.trans (hB8.mono HB7.out.size)).setCell (by simp) _).setCell (by simp) _, rfl⟩)
        clear hall hzn hW8 hB8 hZ8 hb7
        simp only
        go_upto_region 14 with fail
        rw [← HWE8.out]
        go_wp2
        refine bodyPost_ret (v := .tuple #[.slice none 0 0, .agg #[.slice none 0 0, .slice none 0 0], .int .i64 z]) (by simp [results, Tryz.results9, go_sem, *]) rfl ?_
        exact HE.out
      | ok s' =>
        rw [hall] at hA
        obtain ⟨_, vb', vs', vm, rfl, hO7⟩ := hA
        obtain ⟨a1, d1, rfl⟩ := bown_slice hO7.boxes
        obtain ⟨a2, d2, rfl⟩ := bown_slice hO7.spool
        obtain ⟨W8, hW8⟩ : ∃ W8, W8 = w7.alloc (.cells #[.slice a1 s'.boxes.length d1, .slice a2 s'.spool.length d2] 31) := ⟨_, rfl⟩
        have HWE8 := hid hW8
        have hB8 : Below w7.heap.size w7 W8 := by rw [hW8]; exact (Below.refl _ _).alloc (Nat.le_refl _) _
        have hT8 : W8.heap[P]? = some (.cells #[.slice a1 s'.boxes.length d1, .slice a2 s'.spool.length d2] 31) := by rw [hW8, hP]; exact tl_at _ rfl
        have hZ8 := tl_low hB8 (tl_low hb7 HZR.out)
        have hQ8 := tl_low hB8 (tl_low hb7 HQR.out)
        have t0 : W8.cell? ⟨P, 0, none⟩ = some (.slice a1 s'.boxes.length d1) := tl_cell (j := 0) hT8 rfl
        have t1 : W8.cell? ⟨P, 1, none⟩ = some (.slice a2 s'.spool.length d2) := tl_cell (j := 1) hT8 rfl
        have c6 := (box7 hQ8).2.2.2.2.2.2.1
        obtain ⟨u0, u1, h0, h1⟩ := box2f hZ8
        obtain ⟨v0, v1, j0, j1⟩ := box2f (set2_block (u0 := .slice a1 s'.boxes.length d1) (u1 := .slice a2 s'.spool.length d2) hZ8)
        have n1 : P ≠ w.heap.size + 2 := by omega
        have n2 : B ≠ w.heap.size + 2 := by omega
        have HE := hid (show DlvP w s es (.returned (.tuple #[.slice av es.length cv, .agg #[.slice a1 s'.boxes.length d1, .slice a2 s'.spool.length d2], .int .i64 0])) ((W8.setCell ⟨w.heap.size + 2, 0, none⟩ (.slice a1 s'.boxes.length d1)).setCell ⟨w.heap.size + 2, 1, none⟩ (.slice a2 s'.spool.length d2)) by
          unfold DlvP
          rw [hall]
          refine ⟨((HB7.out.trans (hB8.mono HB7.out.size)).setCell (by simp) _).setCell (by simp) _, av, cv, wr.heap.size, _, _, vm, rfl, ?_, HBR.out.size, ?_⟩
          · exact EntsM.imp ((HEV.out.next hb7).next hB8) (fun _ h => ⟨by have := h.1; omega, h.2⟩) ((Keeps.set _ (p := ⟨w.heap.size + 2, 0, none⟩) _ fun b hb => by have := hb.1; show b ≠ w.heap.size + 2; omega).trans (Keeps.set _ (p := ⟨w.heap.size + 2, 1, none⟩) _ fun b hb => by have := hb.1; show b ≠ w.heap.size + 2; omega))
          · refine (hO7.next hB8).keep fun q hq => ?_
            have hq' : q ≠ w.heap.size + 2 := by have := (hO7.lt hq).1; have := HBB.out; omega
            exact (set_other hq').trans (set_other hq'))
        have HKP := hid (show ((W8.setCell ⟨w.heap.size + 1 + 1, 0, none⟩ (.slice a1 s'.boxes.length d1)).setCell ⟨w.heap.size + 1 + 1, 1, none⟩ (.slice a2 s'.spool.length d2)).drew.cell? ⟨B, 6, none⟩ = some (.slice av es.length cv) ∧ ((W8.setCell ⟨w.heap.size + 1 + 1, 0, none⟩ (.slice a1 s'.boxes.length d1)).setCell ⟨w.heap.size + 1 + 1, 1, none⟩ (.slice a2 s'.spool.length d2)).drew.cell? ⟨P, 0, none⟩ = some (.slice a1 s'.boxes.length d1) ∧ ((W8.setCell ⟨w.heap.size + 1 + 1, 0, none⟩ (.slice a1 s'.boxes.length d1)).setCell ⟨w.heap.size + 1 + 1, 1, none⟩ (.slice a2 s'.spool.length d2)).drew.cell? ⟨P, 1, none⟩ = some (.slice a2 s'.spool.length d2) from
          ⟨(World.cell?_of_block (w := W8) ((set_other n2).trans (set_other n2))).trans c6, (World.cell?_of_block (w := W8) ((set_other n1).trans (set_other n1))).trans t0, (World.cell?_of_block (w := W8) ((set_other n1).trans (set_other n1))).trans t1⟩)
        have HPE := hid hP
        clear hall hW8 hB8 hZ8 hb7 hT8 hQ8 hO7 hP
        simp only
        go_upto_region 14 with fail
        rw [← HWE8.out, ← HPE.out]
        clear HWE8 HPE
        go_wp2
        go_region_held3 (fun w' => w'.cell? ⟨B, 6, none⟩ = some (.slice av es.length cv) ∧ w'.cell? ⟨P, 0, none⟩ = some (.slice a1 s'.boxes.length d1) ∧ w'.cell? ⟨P, 1, none⟩ = some (.slice a2 s'.spool.length d2)) (first | exact HKP.out | go_keep) (fail)
        all_goals
          go_wp2
          refine bodyPost_ret (v := .tuple #[.slice av es.length cv, .agg #[.slice a1 s'.boxes.length d1, .slice a2 s'.spool.length d2], .int .i64 0]) (by simp [results, Tryz.results9, go_sem, *]) rfl ?_
          first | exact HE.out | exact HE.out.drew
end Go.Proofs.YtjfkgfomlnmngaaGreatDoor
namespace Go.Proofs.YtjfkgfomlnmngaaGreatDoor
open Go.RowKit Go.Proofs

theorem ent_row (w : World) (x : Ent) (p : Nat) (h : w.heap[p]? = some (.cells #[.int .i64 x.kind, .string (S x.box), .int .i64 x.uid, .int .i64 x.flags, .string (S x.goal), .string (S x.text)] 45)) : EntsM (fun _ => True) w (.slice (some ⟨p, 0, none⟩) 1 1) [x] := by
  refine ⟨some ⟨p, 0, none⟩, 1, rfl, by simp [maxLen], fun i y hy => ?_⟩
  cases i with
  | succ i => simp at hy
  | zero =>
    simp at hy
    subst hy
    refine ⟨p, 0, entC x, rfl, (Array.getElem?_eq_some_iff.1 h).1, trivial, rfl, fun j u hj => ?_, rfl⟩
    simp only [Nat.zero_mul, Nat.zero_add, World.cell?, h]
    simpa [entC] using hj
set_option maxHeartbeats 1000000 in
set_option maxRecDepth 100000 in
theorem apply_any (s : Stt) (vb vs : Value) (x : Ent) (w : World) (Q : Nat → Prop) (hS : SttM Q w vb vs s) (hM : May s) (hF : Formed x) :
    Calls Tryz.prog 10 #[.agg #[vb, vs], .agg #[.int .i64 x.kind, .string (S x.box), .int .i64 x.uid, .int .i64 x.flags, .string (S x.goal), .string (S x.text)]] w (AllP w (doM s x)) := by
  obtain ⟨ab, cb, rfl⟩ := RowM.slice hS.1
  obtain ⟨aq, cq, rfl⟩ := RowM.slice hS.2.1
  obtain ⟨r, hr⟩ : ∃ r, r = doM s x := ⟨_, rfl⟩
  rw [← hr]
  have hr' := hr
  rw [← allM_one] at hr'
  obtain ⟨W0, hW0⟩ : ∃ W0, W0 = (((w.alloc (.cells #[.slice ab s.boxes.length cb, .slice aq s.spool.length cq] 31)).alloc (.cells #[.int .i64 x.kind, .string (S x.box), .int .i64 x.uid, .int .i64 x.flags, .string (S x.goal), .string (S x.text)] 45)).alloc (.cells #[.slice none 0 0, .slice none 0 0] 31)).alloc (.cells #[.int .i64 x.kind, .string (S x.box), .int .i64 x.uid, .int .i64 x.flags, .string (S x.goal), .string (S x.text)] 45) := ⟨_, rfl⟩
  have HWE := hid hW0
  have hB0 : Below w.heap.size w W0 := by rw [hW0]; exact ((((Below.refl _ _).alloc (Nat.le_refl _) _).alloc (by simp) _).alloc (by simp; omega) _).alloc (by simp; omega) _
  have HB0 := hid hB0
  have HZ0 := hid (show W0.heap.size = w.heap.size + 4 by rw [hW0]; simp)
  have hR : W0.heap[w.heap.size + 2]? = some (.cells #[.slice none 0 0, .slice none 0 0] 31) := by
    rw [hW0, heap_alloc_old _ _ (by simp)]
    have := heap_alloc_new ((w.alloc (.cells #[.slice ab s.boxes.length cb, .slice aq s.spool.length cq] 31)).alloc (.cells #[.int .i64 x.kind, .string (S x.box), .int .i64 x.uid, .int .i64 x.flags, .string (S x.goal), .string (S x.text)] 45)) (.cells #[.slice none 0 0, .slice none 0 0] 31)
    simpa using this
  have hE : W0.heap[w.heap.size + 3]? = some (.cells #[.int .i64 x.kind, .string (S x.box), .int .i64 x.uid, .int .i64 x.flags, .string (S x.goal), .string (S x.text)] 45) := by
    rw [hW0]
    have := heap_alloc_new (((w.alloc (.cells #[.slice ab s.boxes.length cb, .slice aq s.spool.length cq] 31)).alloc (.cells #[.int .i64 x.kind, .string (S x.box), .int .i64 x.uid, .int .i64 x.flags, .string (S x.goal), .string (S x.text)] 45)).alloc (.cells #[.slice none 0 0, .slice none 0 0] 31)) (.cells #[.int .i64 x.kind, .string (S x.box), .int .i64 x.uid, .int .i64 x.flags, .string (S x.goal), .string (S x.text)] 45)
    simpa using this
  have HR := hid hR
  have HC := hid (all_any s _ _ [x] (some ⟨w.heap.size + 3, 0, none⟩) 1 W0 (fun _ => True) ((hS.next hB0).imp (fun _ _ => trivial) (Keeps.refl _ _)) hM (ent_row W0 x _ hE) (by simp) (fun y hy => by simp at hy; subst hy; exact hF))
  rw [← hr'] at HC
  clear hS hM hF hW0 hB0 hR hE hr hr'
  go_enter Tryz.func10, Tryz.ntmps10
  go_wp2_with fail
  rw [← HWE.out]
  refine HC.out.mono ?_
  intro e w1 hA
  have hb := hA.1
  have hR1 := low_obj hb HR.out
  obtain ⟨u0, u1, h0, h1⟩ := box2f hR1
  cases r with
  | error z =>
    obtain ⟨_, rfl⟩ := hA
    obtain ⟨v0, v1, j0, j1⟩ := box2f (set2_block (u0 := .slice none 0 0) (u1 := .slice none 0 0) hR1)
    have HE := hid (show AllP w (.error z) (.returned (.tuple #[.agg #[.slice none 0 0, .slice none 0 0], .int .i64 z])) ((w1.setCell ⟨w.heap.size + 2, 0, none⟩ (.slice none 0 0)).setCell ⟨w.heap.size + 2, 1, none⟩ (.slice none 0 0)) from ⟨((HB0.out.trans (hb.mono HB0.out.size)).setCell (Nat.le_add_right _ _) _).setCell (Nat.le_add_right _ _) _, rfl⟩)
    clear hb hR1
    simp only
    go_wp2
    refine bodyPost_ret (v := .tuple #[.agg #[.slice none 0 0, .slice none 0 0], .int .i64 z]) (by simp [results, Tryz.results10, go_sem, *]) rfl ?_
    exact HE.out
  | ok s' =>
    obtain ⟨_, vb, vs, vm, rfl, hO⟩ := hA
    obtain ⟨a5, c5, rfl⟩ := bown_slice hO.boxes
    obtain ⟨a6, c6, rfl⟩ := bown_slice hO.spool
    obtain ⟨v0, v1, j0, j1⟩ := box2f (set2_block (u0 := .slice a5 s'.boxes.length c5) (u1 := .slice a6 s'.spool.length c6) hR1)
    have HE := hid (show AllP w (.ok s') (.returned (.tuple #[.agg #[.slice a5 s'.boxes.length c5, .slice a6 s'.spool.length c6], .int .i64 0])) ((w1.setCell ⟨w.heap.size + 2, 0, none⟩ (.slice a5 s'.boxes.length c5)).setCell ⟨w.heap.size + 2, 1, none⟩ (.slice a6 s'.spool.length c6)) by
      refine ⟨((HB0.out.trans (hb.mono HB0.out.size)).setCell (Nat.le_add_right _ _) _).setCell (Nat.le_add_right _ _) _, _, _, vm, rfl, (hO.base HB0.out.size).keep fun q hq => ?_⟩
      have hq' : q ≠ w.heap.size + 2 := by have := (hO.lt hq).1; have := HZ0.out; omega
      exact (set_other hq').trans (set_other hq'))
    clear hb hR1 hO
    simp only
    go_wp2
    refine bodyPost_ret (v := .tuple #[.agg #[.slice a5 s'.boxes.length c5, .slice a6 s'.spool.length c6], .int .i64 0]) (by simp [results, Tryz.results10, go_sem, *]) rfl ?_
    exact HE.out
end Go.Proofs.YtjfkgfomlnmngaaGreatDoor
namespace Go.Proofs.YtjfkgfomlnmngaaGreatDoor
open Go.RowKit Go.Proofs

set_option maxHeartbeats 1000000 in
set_option maxRecDepth 100000 in
theorem state_any (l : List Chr) (a : Option Addr) (c : Nat) (w : World) (Q : Nat → Prop) (hL : ChsM Q w (.slice a l.length c) l) (hW : ∀ x ∈ l, chrW x) :
    Calls Tryz.prog 7 #[.slice a l.length c] w (StR w (stateP l)) := by
  have hm := RowM.small hL
  unfold maxLen at hm
  have HL := hid hL
  have HCW := hid hW
  obtain ⟨W0, hW0⟩ : ∃ W0, W0 = ((w.alloc (.cells #[.slice none 0 0, .slice none 0 0] 31)).alloc (.cells #[.string ⟨#[73, 78, 66, 79, 88]⟩, .int .i64 1, .slice none 0 0] 64)).alloc (.cells #[.slice (some ⟨w.heap.size + 1, 0, none⟩) 1 1, .slice none 0 0] 31) := ⟨_, rfl⟩
  have HWE := hid hW0
  have hB0 : Below w.heap.size w W0 := by rw [hW0]; exact (((Below.refl _ _).alloc (Nat.le_refl _) _).alloc (by simp) _).alloc (by simp; omega) _
  have hi0 : StI (w.heap.size + 2) w.heap.size w W0 initS := by
    refine ⟨some ⟨w.heap.size + 1, 0, none⟩, 1, 1, none, 0, 0, ?_, ?_, init_mem W0 (w.heap.size + 1) _ _ ?_ (by omega), hB0⟩
    · rw [hW0]; have := heap_alloc_new ((w.alloc (.cells #[.slice none 0 0, .slice none 0 0] 31)).alloc (.cells #[.string ⟨#[73, 78, 66, 79, 88]⟩, .int .i64 1, .slice none 0 0] 64)) (.cells #[.slice (some ⟨w.heap.size + 1, 0, none⟩) 1 1, .slice none 0 0] 31); simpa using this
    · rw [hW0, heap_alloc_old _ _ (by simp; omega), heap_alloc_old _ _ (by simp), heap_alloc_new]
    · rw [hW0, heap_alloc_old _ _ (by simp)]; have := heap_alloc_new (w.alloc (.cells #[.slice none 0 0, .slice none 0 0] 31)) (.cells #[.string ⟨#[73, 78, 66, 79, 88]⟩, .int .i64 1, .slice none 0 0] 64); simpa using this
  have HI0 := hid hi0
  clear hL hW hW0 hB0 hi0
  go_enter Tryz.func7, Tryz.ntmps7
  go_wp2
  rw [← HWE.out]
  go_loopw [4] (fun v wr => ∃ k : Nat, k ≤ l.length ∧ k ≤ 40 ∧ v = .int .i64 k ∧ Hid (StI (w.heap.size + 2) w.heap.size w wr ((l.take k).foldl bstepP initS))) (fun v _ => l.length - (intOf v).toNat)
  case atStart => exact ⟨0, Nat.zero_le _, by omega, rfl, HI0⟩
  case round =>
    obtain ⟨k, hk, hk4, rfl, HI⟩ := hrel
    by_cases hlt : k < l.length ∧ k < 40
    · obtain ⟨hl1, hl2⟩ := hlt
      have k1 : (k : Int) < (l.length : Int) := by omega
      have k2 : (k : Int) < 40 := by omega
      have k0 : (0 : Int) ≤ (k : Int) := by omega
      obtain ⟨x, hx⟩ : ∃ x, l[k]? = some x := ⟨_, List.getElem?_eq_getElem hl1⟩
      have HFS := hid (foldl_step hx initS)
      have HMk := hid (foldl_may (l.take k) initS initS_may)
      have HXW := hid (HCW.out x (List.mem_of_getElem? hx))
      generalize (l.take k).foldl bstepP initS = sk at *
      obtain ⟨ab, nb, cb, as', ns, cs, h1, h2, h3, h4⟩ := HI.out
      obtain ⟨b, o, rfl, e0, e1, e2, e3, e4, e5⟩ := (HL.out.next h4).at hx
      obtain ⟨z0, z1, _, _⟩ := box2f h1
      have hwq : w.heap.size + 2 < wr.heap.size := (Array.getElem?_eq_some_iff.1 h1).1
      have hne0 : w.heap.size + 2 ≠ wr.heap.size := by omega
      have hneb : b ≠ wr.heap.size := Nat.ne_of_lt (World.block_lt_of_cell? _ _ e0)
      have HEN := hid (fun u => entry_any x u HXW.out)
      have HAP := hid (fun u (hu : Below wr.heap.size wr u) => apply_any sk (.slice ab nb cb) (.slice as' ns cs) (entP x) u _ (h3.next hu) HMk.out (entP_formed x))
      have HAPc := hid (fun u (hu : Below wr.heap.size wr u) (_ : u.heap[wr.heap.size]? = some (.cells #[.slice none 0 0, .slice none 0 0] 31)) => HAP.out u hu)
      have HBA := hid (show Below wr.heap.size wr (wr.alloc (.cells #[.slice none 0 0, .slice none 0 0] 31)).drew from ((Below.refl wr.heap.size wr).alloc (Nat.le_refl _) _).drew)
      have HNA := hid (show (wr.alloc (.cells #[.slice none 0 0, .slice none 0 0] 31)).drew.heap[wr.heap.size]? = some (.cells #[.slice none 0 0, .slice none 0 0] 31) from heap_alloc_new wr _)
      clear hx h1 h2 h3 h4
      go_wp2
      go_cut [5, 6] (fun p v wx => NxP wr (doM sk (entP x)) p v wx)
      case first =>
        go_region_held3 (fun w' => w'.cell? ⟨w.heap.size + 2, 0, none⟩ = some (.slice ab nb cb) ∧ w'.cell? ⟨w.heap.size + 2, 1, none⟩ = some (.slice as' ns cs) ∧ w'.cell? ⟨b, o + k * 6, none⟩ = some (.int .i64 x.kind) ∧ w'.cell? ⟨b, o + k * 6 + 1, none⟩ = some (.int .i64 x.box) ∧ w'.cell? ⟨b, o + k * 6 + 2, none⟩ = some (.int .i64 x.uid) ∧ w'.cell? ⟨b, o + k * 6 + 3, none⟩ = some (.int .i64 x.flags) ∧ w'.cell? ⟨b, o + k * 6 + 4, none⟩ = some (.int .i64 x.goal) ∧ w'.cell? ⟨b, o + k * 6 + 5, none⟩ = some (.string x.text))
          (first | (go_keep; done) | exact ⟨far2 hne2 r0, far2 hne2 r1, far2 hnb2 r2, far2 hnb2 r3, far2 hnb2 r4, far2 hnb2 r5, far2 hnb2 r6, far2 hnb2 r7⟩ | exact ⟨far2 hne0 r0, far2 hne0 r1, far2 hneb r2, far2 hneb r3, far2 hneb r4, far2 hneb r5, far2 hneb r6, far2 hneb r7⟩ | fail)
          (first
            | (go_at_call 10
               with_reducible refine (HAPc.out _ HBb.out HPc.out).mono ?_
               intro e w3 hA
               have hb := hA.1
               obtain ⟨a1, n1, c1, a2, n2, c2, z, rfl, hR⟩ := hA.form
               have HAR := hid hR
               have HBf := hid (HBb.out.trans (hb.mono HBb.out.size))
               have HPe := hid (low_obj hb HPc.out)
               obtain ⟨t0, t1, f0, f1⟩ := box2f HPe.out
               have r0 := wcell_next q0 hb
               have r1 := wcell_next q1 hb
               have r2 := wcell_next q2 hb
               have r3 := wcell_next q3 hb
               have r4 := wcell_next q4 hb
               have r5 := wcell_next q5 hb
               have r6 := wcell_next q6 hb
               have r7 := wcell_next q7 hb
               clear hA hb hR)
            | (go_at_call 10
               with_reducible refine (HAP.out w2 HBb.out).mono ?_
               intro e w3 hA
               have hb := hA.1
               obtain ⟨a1, n1, c1, a2, n2, c2, z, rfl, hR⟩ := hA.form
               have HAR := hid hR
               have HBf := hid (HBb.out.trans (hb.mono HBb.out.size))
               have r0 := wcell_next q0 hb
               have r1 := wcell_next q1 hb
               have r2 := wcell_next q2 hb
               have r3 := wcell_next q3 hb
               have r4 := wcell_next q4 hb
               have r5 := wcell_next q5 hb
               have r6 := wcell_next q6 hb
               have r7 := wcell_next q7 hb
               clear hA hb hR)
            | (go_at_call 10
               with_reducible refine (HAP.out (w2.alloc (.cells #[.slice none 0 0, .slice none 0 0] 31)) (HBb.out.alloc HBb.out.size _)).mono ?_
               intro e w3 hA
               have hb := hA.1
               obtain ⟨a1, n1, c1, a2, n2, c2, z, rfl, hR⟩ := hA.form
               have HAR := hid hR
               have hba : Below w2.heap.size w2 (w2.alloc (.cells #[.slice none 0 0, .slice none 0 0] 31)) := (Below.refl _ _).alloc (Nat.le_refl _) _
               have hbb : Below w2.heap.size w2 w3 := hba.trans (hb.mono hba.size)
               have HBf := hid (HBb.out.trans (hbb.mono HBb.out.size))
               have HPe := hid (low_obj hb (heap_alloc_new w2 (.cells #[.slice none 0 0, .slice none 0 0] 31)))
               obtain ⟨t0, t1, f0, f1⟩ := box2f HPe.out
               have r0 := wcell_next q0 hbb
               have r1 := wcell_next q1 hbb
               have r2 := wcell_next q2 hbb
               have r3 := wcell_next q3 hbb
               have r4 := wcell_next q4 hbb
               have r5 := wcell_next q5 hbb
               have r6 := wcell_next q6 hbb
               have r7 := wcell_next q7 hbb
               clear hA hb hR hba hbb)
            | (go_at_call 18
               with_reducible refine (HEN.out wr.drew).mono ?_
               rintro e w2 ⟨rfl, hb⟩
               have hb2 : Below wr.heap.size wr w2 := (Below.refl _ _).drew.trans hb
               have HBb := hid hb2
               have q0 := wcell_next z0 hb2
               have q1 := wcell_next z1 hb2
               have q2 := wcell_next e0 hb2
               have q3 := wcell_next e1 hb2
               have q4 := wcell_next e2 hb2
               have q5 := wcell_next e3 hb2
               have q6 := wcell_next e4 hb2
               have q7 := wcell_next e5 hb2
               have hne2 := ne_lt (World.block_lt_of_cell? _ _ q0)
               have hnb2 := ne_lt (World.block_lt_of_cell? _ _ q2)
               clear hb hb2)
            | (go_at_call 18
               with_reducible refine (HEN.out ((wr.alloc (.cells #[.slice none 0 0, .slice none 0 0] 31)).drew)).mono ?_
               rintro e w2 ⟨rfl, hb⟩
               have hb2 : Below wr.heap.size wr w2 := HBA.out.trans (hb.mono HBA.out.size)
               have HBb := hid hb2
               have HPc := hid (low_obj hb HNA.out)
               have q0 := wcell_next z0 hb2
               have q1 := wcell_next z1 hb2
               have q2 := wcell_next e0 hb2
               have q3 := wcell_next e1 hb2
               have q4 := wcell_next e2 hb2
               have q5 := wcell_next e3 hb2
               have q6 := wcell_next e4 hb2
               have q7 := wcell_next e5 hb2
               have hne2 := ne_lt (World.block_lt_of_cell? _ _ q0)
               have hnb2 := ne_lt (World.block_lt_of_cell? _ _ q2)
               clear hb hb2)
            | fail)
        all_goals
          go_wp2_with fail
          go_meet
          have hs2 := HBb.out.size
          first
            | exact nx_end (p := w3.heap.size) (heap_alloc_new w3 _) (fun k hk _ => heap_alloc_old w3 _ hk) (HBf.out.alloc HBf.out.size _) HAR.out hs2 HBf.out.size (fun vm s' hO hg => by have := (hO.lt hg).2; omega)
            | exact nx_end (p := w2.heap.size) (set2_block HPe.out) (fun k hk hne => (set_other hne).trans (set_other hne)) ((HBf.out.setCell hs2 _).setCell hs2 _) HAR.out (by simp; omega) hs2 (fun vm s' hO hg => by have := (hO.lt hg).1; simp at this; omega)
            | exact nx_end (p := wr.heap.size) (set2_block HPe.out) (fun k hk hne => (set_other hne).trans (set_other hne)) ((HBf.out.setCell (Nat.le_refl _) _).setCell (Nat.le_refl _) _) HAR.out hs2 (Nat.le_refl _) (fun vm s' hO hg => by have h1 := (hO.lt hg).1; have h2 := (Array.getElem?_eq_some_iff.1 HPc.out).1; omega)
            | fail
      case rest =>
        obtain ⟨pn, a1, n1, c1, a2, n2, c2, z, rfl, rfl, hp, hpn, hb, hr⟩ := hcut
        obtain ⟨y0, y1, _, _⟩ := box2f hp
        cases hd : doM sk (entP x) with
        | error er =>
          rw [hd] at hr
          have hz : z = er := hr
          subst hz
          have hzn : ¬ z = 0 := doM_err hd
          have hz' : (z == 0) = false := by simp [hzn]
          have HN := hid (show StI (w.heap.size + 2) w.heap.size w wc ((l.take (k + 1)).foldl bstepP initS) by rw [HFS.out]; unfold bstepP; rw [hd]; exact HI.out.same hb)
          clear hb hp hd hr
          go_wp2
          go_roundw
          case rel => first | exact ⟨k + 1, by omega, by omega, by go_num, HN⟩ | ((repeat apply Exists.intro); exact ⟨⟨k + 1, by omega, by omega, by go_num, HN⟩, rfl⟩)
          case measure => simp [intOf]; omega
        | ok s' =>
          rw [hd] at hr
          obtain ⟨hz, vm, hO⟩ := hr
          subst hz
          have HN := hid (show StI (w.heap.size + 2) w.heap.size w ((wc.setCell ⟨w.heap.size + 2, 0, none⟩ (.slice a1 n1 c1)).setCell ⟨w.heap.size + 2, 1, none⟩ (.slice a2 n2 c2)) ((l.take (k + 1)).foldl bstepP initS) by
            rw [HFS.out]; unfold bstepP; rw [hd]
            exact HI.out.step (doM_may HMk.out (entP_formed x) hd) hb hO (by omega) (by omega) hpn)
          obtain ⟨ab, nb, cb, as', ns, cs, h1, _⟩ := HI.out
          obtain ⟨d0, d1, df0, df1⟩ := box2f (low_obj hb h1)
          clear hb hp hd hO h1
          go_wp2
          go_roundw
          case rel => first | exact ⟨k + 1, by omega, by omega, by go_num, HN⟩ | ((repeat apply Exists.intro); exact ⟨⟨k + 1, by omega, by omega, by go_num, HN⟩, rfl⟩)
          case measure => simp [intOf]; omega
    · have hE : (l.take k).foldl bstepP initS = stateP l := by
        unfold stateP
        by_cases h4 : k = 40
        · rw [h4]
        · have hkl : k = l.length := by omega
          rw [List.take_of_length_le (by omega), List.take_of_length_le (by omega)]
      have HE := hid hE
      obtain ⟨ab, nb, cb, as', ns, cs, h1, h2, h3, h4⟩ := HI.out
      obtain ⟨z0, z1, _, _⟩ := box2f h1
      obtain ⟨u0, u1, g0, g1⟩ := box2f h2
      obtain ⟨v0, v1, j0, j1⟩ := box2f (set2_block (u0 := .slice ab nb cb) (u1 := .slice as' ns cs) h2)
      have HF := hid (show StR w (stateP l) (.returned (.agg #[.slice ab nb cb, .slice as' ns cs])) ((wr.setCell ⟨w.heap.size, 0, none⟩ (.slice ab nb cb)).setCell ⟨w.heap.size, 1, none⟩ (.slice as' ns cs)) from
        ⟨_, _, _, _, _, _, rfl, by rw [← HE.out]; exact h3.imp (fun _ _ => trivial) ((Keeps.set wr (p := ⟨w.heap.size, 0, none⟩) _ fun b hb => hb.2).trans (Keeps.set _ (p := ⟨w.heap.size, 1, none⟩) _ fun b hb => hb.2)), (h4.setCell (Nat.le_refl _) _).setCell (Nat.le_refl _) _⟩)
      clear h1 h2 h3 h4 hE
      by_cases hkl : k < l.length
      · have k1 : (k : Int) < (l.length : Int) := by omega
        have k2 : ¬ (k : Int) < 40 := by omega
        go_wp2
        refine bodyPost_ret (v := .agg #[.slice ab nb cb, .slice as' ns cs]) (by simp [results, Tryz.results7, go_sem, *]) rfl ?_
        exact HF.out
      · have k1 : ¬ (k : Int) < (l.length : Int) := by omega
        go_wp2
        refine bodyPost_ret (v := .agg #[.slice ab nb cb, .slice as' ns cs]) (by simp [results, Tryz.results7, go_sem, *]) rfl ?_
        exact HF.out
end Go.Proofs.YtjfkgfomlnmngaaGreatDoor
namespace Go.Proofs.YtjfkgfomlnmngaaGreatDoor
open Go.RowKit Go.Proofs

set_option maxHeartbeats 1000000 in
set_option maxRecDepth 100000 in
theorem sameState_any (s : Stt) (vb vs vb' vs' : Value) (w : World) (Q Q' : Nat → Prop) (hS : SttM Q w vb vs s) (hS' : SttM Q' w vb' vs' s) :
    Calls Tryz.prog 11 #[.agg #[vb, vs], .agg #[vb', vs']] w fun e w' => e = .returned (.bool true) ∧ Below w.heap.size w w' := by
  have hm := RowM.small hS.1
  have hm2 := RowM.small hS.2.1
  unfold maxLen at hm hm2
  obtain ⟨ab, cb, rfl⟩ := RowM.slice hS.1
  obtain ⟨aq, cq, rfl⟩ := RowM.slice hS.2.1
  obtain ⟨ab', cb', rfl⟩ := RowM.slice hS'.1
  obtain ⟨aq', cq', rfl⟩ := RowM.slice hS'.2.1
  obtain ⟨W1, hW1⟩ : ∃ W1, W1 = (w.alloc (.cells #[.slice ab s.boxes.length cb, .slice aq s.spool.length cq] 31)).alloc (.cells #[.slice ab' s.boxes.length cb', .slice aq' s.spool.length cq'] 31) := ⟨_, rfl⟩
  have HWE := hid hW1
  have hB1 : Below w.heap.size w W1 := by rw [hW1]; exact ((Below.refl _ _).alloc (Nat.le_refl _) _).alloc (by simp) _
  have HB1 := hid hB1
  have x0 : W1.cell? ⟨w.heap.size, 0, none⟩ = some (.slice ab s.boxes.length cb) := by rw [hW1]; exact wcell_more (by simp) _
  have x1 : W1.cell? ⟨w.heap.size, 1, none⟩ = some (.slice aq s.spool.length cq) := by rw [hW1]; exact wcell_more (by simp) _
  have x2 : W1.cell? ⟨w.heap.size + 1, 0, none⟩ = some (.slice ab' s.boxes.length cb') := by rw [hW1]; simp
  have x3 : W1.cell? ⟨w.heap.size + 1, 1, none⟩ = some (.slice aq' s.spool.length cq') := by rw [hW1]; simp
  have HS := hid (hS.next hB1)
  have HS' := hid (hS'.next hB1)
  clear hS hS' hW1 hB1
  go_enter Tryz.func11, Tryz.ntmps11
  go_wp2
  rw [← HWE.out]
  go_loopw [5] (fun v wr => ∃ i : Nat, i ≤ s.spool.length ∧ v = .int .i64 i ∧ Hid (Below W1.heap.size W1 wr)) (fun v _ => s.spool.length - (intOf v).toNat)
  case atStart => exact ⟨0, Nat.zero_le _, rfl, Below.refl _ _⟩
  case round =>
    obtain ⟨i, hi, rfl, HB⟩ := hrel
    have y0 := wcell_next x0 HB.out
    have y1 := wcell_next x1 HB.out
    have y2 := wcell_next x2 HB.out
    have y3 := wcell_next x3 HB.out
    by_cases hlt : i < s.spool.length
    · have i1 : (i : Int) < (s.spool.length : Int) := by omega
      have i0 : (0 : Int) ≤ (i : Int) := by omega
      obtain ⟨x, hx⟩ : ∃ x, s.spool[i]? = some x := ⟨_, List.getElem?_eq_getElem hlt⟩
      obtain ⟨b, o, rfl, _, e0, e1, e2, e3, e4, e5⟩ := (HS.out.2.1.next HB.out).at hx
      obtain ⟨b', o', rfl, _, d0, d1, d2, d3, d4, d5⟩ := (HS'.out.2.1.next HB.out).at hx
      clear hx
      go_wp2
      go_quiet (fail)
      have HB2 := hid (wdrew HB.out nq)
      go_wp2
      go_roundw
      case rel => first | exact ⟨i + 1, by omega, by go_num, HB2⟩ | ((repeat apply Exists.intro); exact ⟨⟨i + 1, by omega, by go_num, HB2⟩, rfl⟩)
      case measure => simp [intOf]; omega
    · have i1 : ¬ (i : Int) < (s.spool.length : Int) := by omega
      obtain ⟨w0, rfl⟩ : ∃ W, W = wr := ⟨_, rfl⟩
      go_wp2
      go_loopw [6] (fun v wr => ∃ i : Nat, i ≤ s.boxes.length ∧ v = .int .i64 i ∧ Hid (Below w0.heap.size w0 wr)) (fun v _ => s.boxes.length - (intOf v).toNat)
      case atStart => exact ⟨0, Nat.zero_le _, rfl, Below.refl _ _⟩
      case round =>
        obtain ⟨j, hj, rfl, HC⟩ := hrel
        have u0 := wcell_next y0 HC.out
        have u2 := wcell_next y2 HC.out
        by_cases hlj : j < s.boxes.length
        · have j1 : (j : Int) < (s.boxes.length : Int) := by omega
          have j0 : (0 : Int) ≤ (j : Int) := by omega
          obtain ⟨x, hx⟩ : ∃ x, s.boxes[j]? = some x := ⟨_, List.getElem?_eq_getElem hlj⟩
          have hBC := HB.out.trans (HC.out.mono HB.out.size)
          obtain ⟨b, o, v, rfl, _, e0, e1, e2, hM⟩ := (HS.out.1.next hBC).at hx
          obtain ⟨b', o', v', rfl, _, d0, d1, d2, hM'⟩ := (HS'.out.1.next hBC).at hx
          obtain ⟨am, cm, rfl⟩ := RowM.slice hM
          obtain ⟨am', cm', rfl⟩ := RowM.slice hM'
          have hmm := RowM.small hM
          unfold maxLen at hmm
          obtain ⟨w1, rfl⟩ : ∃ W, W = wr := ⟨_, rfl⟩
          obtain ⟨W2, hW2⟩ : ∃ W2, W2 = (w1.alloc (.cells #[.string (S x.name), .int .i64 x.next, .slice am x.mails.length cm] 64)).alloc (.cells #[.string (S x.name), .int .i64 x.next, .slice am' x.mails.length cm'] 64) := ⟨_, rfl⟩
          have HWE2 := hid hW2
          have hB2 : Below w1.heap.size w1 W2 := by rw [hW2]; exact ((Below.refl _ _).alloc (Nat.le_refl _) _).alloc (by simp) _
          have m2 : W2.cell? ⟨w1.heap.size, 2, none⟩ = some (.slice am x.mails.length cm) := by rw [hW2]; exact wcell_more (by simp) _
          have m3 : W2.cell? ⟨w1.heap.size + 1, 2, none⟩ = some (.slice am' x.mails.length cm') := by rw [hW2]; simp
          have a2 := wcell_more u2 (.cells #[.string (S x.name), .int .i64 x.next, .slice am x.mails.length cm] 64)
          have a3 := wcell_more d0 (.cells #[.string (S x.name), .int .i64 x.next, .slice am x.mails.length cm] 64)
          have a4 := wcell_more d1 (.cells #[.string (S x.name), .int .i64 x.next, .slice am x.mails.length cm] 64)
          have a5 := wcell_more d2 (.cells #[.string (S x.name), .int .i64 x.next, .slice am x.mails.length cm] 64)
          have hn1 : w.heap.size + 1 ≠ w1.heap.size := Nat.ne_of_lt (World.block_lt_of_cell? _ _ u2)
          have hn2 : b' ≠ w1.heap.size := Nat.ne_of_lt (World.block_lt_of_cell? _ _ d0)
          have HM := hid (hM.next hB2)
          have HM' := hid (hM'.next hB2)
          have HB2 := hid hB2
          clear hx hM hM' hW2 hB2 hBC
          go_wp2
          rw [← HWE2.out]
          go_loopw [9] (fun v wr => ∃ i : Nat, i ≤ x.mails.length ∧ v = .int .i64 i ∧ Hid (Below W2.heap.size W2 wr)) (fun v _ => x.mails.length - (intOf v).toNat)
          case atStart => exact ⟨0, Nat.zero_le _, rfl, Below.refl _ _⟩
          case round =>
            obtain ⟨k, hk, rfl, HD⟩ := hrel
            have n2 := wcell_next m2 HD.out
            have n3 := wcell_next m3 HD.out
            by_cases hlk : k < x.mails.length
            · have k1 : (k : Int) < (x.mails.length : Int) := by omega
              have k0 : (0 : Int) ≤ (k : Int) := by omega
              obtain ⟨m, hm'⟩ : ∃ m, x.mails[k]? = some m := ⟨_, List.getElem?_eq_getElem hlk⟩
              obtain ⟨p, q, rfl, _, f0, f1, f2⟩ := (HM.out.next HD.out).at hm'
              obtain ⟨p', q', rfl, _, g0, g1, g2⟩ := (HM'.out.next HD.out).at hm'
              clear hm'
              go_wp2
              go_quiet (fail)
              have HD2 := hid (wdrew HD.out nq)
              go_wp2
              go_roundw
              case rel => first | exact ⟨k + 1, by omega, by go_num, HD2⟩ | ((repeat apply Exists.intro); exact ⟨⟨k + 1, by omega, by go_num, HD2⟩, rfl⟩)
              case measure => simp [intOf]; omega
            · have k1 : ¬ (k : Int) < (x.mails.length : Int) := by omega
              have HC2 := hid (show Below w0.heap.size w0 wr from HC.out.trans ((HB2.out.trans (HD.out.mono HB2.out.size)).mono HC.out.size))
              go_wp2
              go_roundw
              case rel => first | exact ⟨j + 1, by omega, by go_num, HC2⟩ | ((repeat apply Exists.intro); exact ⟨⟨j + 1, by omega, by go_num, HC2⟩, rfl⟩)
              case measure => simp [intOf]; omega
        · have j1 : ¬ (j : Int) < (s.boxes.length : Int) := by omega
          have HE := hid (show Below w.heap.size w wr from (HB1.out.trans (HB.out.mono HB1.out.size)).trans (HC.out.mono (Nat.le_trans HB1.out.size HB.out.size)))
          go_wp2
          go_ret
          exact ⟨rfl, HE.out⟩
end Go.Proofs.YtjfkgfomlnmngaaGreatDoor
namespace Go.Proofs.YtjfkgfomlnmngaaGreatDoor
open Go.RowKit

theorem word_wordy (l : List UInt8) : wordy (wordL l) := by
  refine ⟨?_, wordL_len l, ?_⟩
  · unfold wordL wordK
    split
    · simp
    · rename_i h
      cases l with
      | nil => exact absurd rfl h
      | cons c t => simp
  · intro c hc
    unfold wordL at hc
    split at hc
    · simp at hc; subst hc; decide
    · obtain ⟨x, _, rfl⟩ := List.mem_map.1 hc
      have := wordC_nat x
      omega
/-- The address that a law makes of raw texts. -/
def adrOf (l d : List UInt8) : Adr := (wordL l, wordL d ++ orgL)
theorem adrOf_lawful (l d : List UInt8) : lawful (adrOf l d) := ⟨word_wordy l, _, word_wordy d, rfl⟩
theorem org_text (l : List UInt8) : S l ++ ⟨#[46, 111, 114, 103]⟩ = S (l ++ orgL) := by
  rw [← S_list (S l ++ ⟨#[46, 111, 114, 103]⟩)]
  simp [list_S, orgL]

set_option maxHeartbeats 8000000 in
set_option maxRecDepth 100000 in
theorem address_any (l d g : ByteArray) (w : World) (hl : l.size ≤ maxLen) (hd : d.size ≤ maxLen) :
    Calls Tryz.prog 23 #[.agg #[.string l, .string d, .string g]] w fun e w' => e = .returned (.agg #[.string (S (adrOf l.data.toList d.data.toList).1), .string (S (adrOf l.data.toList d.data.toList).2)]) ∧ Below w.heap.size w w' := by
  have HL : Hid _ := hl
  have HD : Hid _ := hd
  clear hl hd
  obtain ⟨x, hx⟩ : ∃ x, x = wordL l.data.toList := ⟨_, rfl⟩
  obtain ⟨y, hy⟩ : ∃ y, y = wordL d.data.toList := ⟨_, rfl⟩
  have sx : (S x).size ≤ 8 := by rw [size_S, hx]; exact wordL_len _
  have sy : (S y).size ≤ 8 := by rw [size_S, hy]; exact wordL_len _
  have HA : Hid (adrOf l.data.toList d.data.toList = (x, y ++ orgL)) := by unfold Hid adrOf; rw [hx, hy]
  have HO : Hid (S y ++ ⟨#[46, 111, 114, 103]⟩ = S (y ++ orgL)) := org_text y
  have HX : Hid _ := hx
  have HY : Hid _ := hy
  clear hx hy
  obtain ⟨W0, hW0⟩ : ∃ W0, W0 = (w.alloc (.cells #[.string l, .string d, .string g] 24)).alloc (.cells #[.string ⟨#[]⟩, .string ⟨#[]⟩] 34) := ⟨_, rfl⟩
  have hB0 : Below w.heap.size w W0 := by rw [hW0]; exact ((Below.refl _ _).alloc (Nat.le_refl _) _).alloc (by simp) _
  have hz0 : w.heap.size + 2 = W0.heap.size := by rw [hW0]; simp
  have c0 : W0.cell? ⟨w.heap.size, 0, none⟩ = some (.string l) := by rw [hW0]; simp
  have c1 : W0.cell? ⟨w.heap.size, 1, none⟩ = some (.string d) := by rw [hW0]; simp
  have r0 : W0.cell? ⟨w.heap.size + 1, 0, none⟩ = some (.string ⟨#[]⟩) := by rw [hW0]; simp
  have r1 : W0.cell? ⟨w.heap.size + 1, 1, none⟩ = some (.string ⟨#[]⟩) := by rw [hW0]; simp
  have f0 : W0.frozen? ⟨w.heap.size + 1, 0, none⟩ = false := by rw [hW0]; simp
  have f1 : W0.frozen? ⟨w.heap.size + 1, 1, none⟩ = false := by rw [hW0]; simp
  have HW : Hid _ := hW0
  clear hW0
  go_enter Tryz.func23, Tryz.ntmps23
  go_wp2
  rw [← HW.out]
  have cD0 : W0.drew.cell? ⟨w.heap.size, 0, none⟩ = some (.string l) := c0
  have cD1 : W0.drew.cell? ⟨w.heap.size, 1, none⟩ = some (.string d) := c1
  have hadd : ¬ 9223372036854775807 < (S y).size + 4 := by omega
  have hne : w.heap.size ≠ w.heap.size + 1 := by omega
  have hne' : w.heap.size + 1 ≠ w.heap.size := by omega
  go_region_held3 (fun w' => w'.cell? ⟨w.heap.size, 0, none⟩ = some (.string l) ∧ w'.cell? ⟨w.heap.size, 1, none⟩ = some (.string d)) (go_keep)
    (first
       | (go_at_call_of 12 (Value.string l)
          refine (word_any l _ HL.out).mono ?_
          rintro e w1 ⟨rfl, hb1⟩
          rw [← HX.out]
          have e0 : w1.cell? ⟨w.heap.size, 0, none⟩ = some (.string l) := wcell_next (w := W0.drew) c0 hb1
          have e1 : w1.cell? ⟨w.heap.size, 1, none⟩ = some (.string d) := wcell_next (w := W0.drew) c1 hb1
          have s1 : w.heap.size + 1 < w1.heap.size := by have := hb1.size; have h2 : W0.drew.heap.size = W0.heap.size := rfl; omega)
       | (go_at_call_of 12 (Value.string d)
          refine (word_any d _ HD.out).mono ?_
          rintro e w2 ⟨rfl, hb2⟩
          rw [← HY.out]
          have hz2 := hb2.size
          have i0 : w2.cell? ⟨w.heap.size, 0, none⟩ = some (.string l) := wcell_next e0 hb2
          have i1 : w2.cell? ⟨w.heap.size, 1, none⟩ = some (.string d) := wcell_next e1 hb2
          have g0 : w2.cell? ⟨w.heap.size + 1, 0, none⟩ = some (.string ⟨#[]⟩) := wcell_next (wcell_next (w := W0.drew) r0 hb1) hb2
          have g1 : w2.cell? ⟨w.heap.size + 1, 1, none⟩ = some (.string ⟨#[]⟩) := wcell_next (wcell_next (w := W0.drew) r1 hb1) hb2
          have k0 : w2.frozen? ⟨w.heap.size + 1, 0, none⟩ = false := (hb2.frozen s1).trans ((hb1.frozen (by show w.heap.size + 1 < W0.heap.size; omega)).trans f0)
          have k1 : w2.frozen? ⟨w.heap.size + 1, 1, none⟩ = false := (hb2.frozen s1).trans ((hb1.frozen (by show w.heap.size + 1 < W0.heap.size; omega)).trans f1)))
  rw [HO.out]
  have hB2 : Below w.heap.size w ((w2.setCell ⟨w.heap.size + 1, 0, none⟩ (.string (S x))).setCell ⟨w.heap.size + 1, 1, none⟩ (.string (S (y ++ orgL)))) :=
    ((wnext (wnext hB0.drew hb1 (Nat.le_refl _)) hb2 (Nat.le_refl _)).setCell (by simp) _).setCell (by simp) _
  have HB2 : Hid _ := hB2
  clear hB2
  go_wp2
  refine bodyPost_ret (v := .agg #[.string (S x), .string (S (y ++ orgL))]) (by simp [results, Tryz.results23, go_sem, g0, g1]) rfl ⟨?_, HB2.out⟩
  rw [HA.out]
end Go.Proofs.YtjfkgfomlnmngaaGreatDoor
