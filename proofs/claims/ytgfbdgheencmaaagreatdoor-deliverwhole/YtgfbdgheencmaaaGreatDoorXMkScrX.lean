/-
  What the laws' maker of scripts does: the walk.
-/
import Derived.Test.YtgfbdgheencmaaaGreatDoorXQMkCs5
namespace Go.Proofs.YtgfbdgheencmaaaGreatDoor
open Go.RowKit Go.Proofs
def lenS : Value → Nat
 | .slice _ n _ => n
 | _ => 0
theorem jej (n : Nat) : jZ n [reqC] = 0 := by
 rw [jiz fun x hx => by simp at hx; rw [hx]; exact jiR _]; cases n <;> rfl
def jmI (M : Nat) (w : World) (e : Ending) (w' : World) : Prop := ∃ (r : List Cmd) (a' : Option Addr) (c' : Nat), e = .returned (.slice a' (r.length + 1) c') ∧ CmdsM (newB' w.heap.size) M w' (.slice a' (reqC :: r).length c') (reqC :: r) ∧ (∀ x ∈ r, NC x) ∧ jZ M (reqC :: r) = 0 ∧ (r.length + 1 ≤ c' ∧ r.length ≤ 4) ∧ Below w.heap.size w w'
theorem jlV {A : Type} {B k : Nat} {ty : TypeId} {P : (Nat → Prop) → World → A → List Value → Prop} {w3 : World} {v' : Value} {x : A} {l : List A} {c0 : List Value} {css : List (List Value)}
 (hown : w3.ownsRow B ty k v' (1 + l.length) (c0 ++ css.flatten)) (h0 : c0.length = k) (h2 : css.length = l.length) (h3 : ∀ cs ∈ css, cs.length = k) (hx : P (newB' B) w3 x c0) (hl : ∀ (i : Nat) (y : A) (cs : List Value), l[i]? = some y → css[i]? = some cs → P (newB' B) w3 y cs) (hm : l.length + 1 ≤ maxLen) :
 RowM (newB' B) k (P (newB' B) w3) w3 v' (x :: l) := by
 have hown' : w3.ownsRow B ty k v' (x :: l).length (c0 :: css).flatten := by
  rw [List.length_cons, List.flatten_cons, Nat.add_comm]; exact hown
 have hall : ∀ cs ∈ c0 :: css, cs.length = k := fun cs hc => by
  rcases List.mem_cons.1 hc with e | e
  · rw [e]; exact h0
  · exact h3 cs e
 rcases hown'.2 with ⟨rfl, hn⟩ | ⟨g, cap, cur, rfl, hb, hg, hcap, hcm, hcs, htk⟩
 · simp at hn
 · refine ⟨some ⟨g, 0, none⟩, cap, rfl, by simpa using hm, fun i y hy => ?_⟩; have hi : i < (x :: l).length := (List.getElem?_eq_some_iff.1 hy).1; obtain ⟨cs, hcs'⟩ : ∃ cs, (c0 :: css)[i]? = some cs := ⟨_, List.getElem?_eq_getElem (by simp at hi ⊢; omega)⟩; refine ⟨g, 0, cs, rfl, (Array.getElem?_eq_some_iff.1 hg).1, hb, hall cs (List.mem_of_getElem? hcs'), fun j u hj => ?_, ?_⟩
   · have hjk : j < k := by rw [← hall cs (List.mem_of_getElem? hcs')]; exact (List.getElem?_eq_some_iff.1 hj).1
     have := World.ownsRow.cells hown' (g := g) rfl (i * k + j) u (by rw [jc2 hall hcs' hjk]; exact hj); rw [Addr.add_lit] at this
     simpa [Nat.add_assoc] using this
   · cases i with
     | zero => simp at hy hcs'; subst hy; subst hcs'; exact hx
     | succ i => exact hl i y cs (by simpa using hy) (by simpa using hcs')
set_option maxHeartbeats 8000000 in
set_option maxRecDepth 100000 in
theorem jdg (M : Nat) (hM : 2 ≤ M) (hC : jfd 0 M) (n : Nat) (l : List Stk) (a : Option Addr) (c : Nat) (w : World) (hw : WordsAt w) (h : SticksM n w (.slice a l.length c) l) :
 Calls Tryz.prog 7 #[.slice a l.length c] w (jmI M w) := by
 have HR := hid h; have HC := hid hC; have HW := hid hw; obtain ⟨i0, hi, hz0, hz1, hz2⟩ := info_parts jjg; clear h hC hw; go_enter Tryz.func7, Tryz.ntmps7; go_wp2_with fail; refine (jeU w).mono ?_; rintro e w1 ⟨v, rfl, ⟨cs0, rfl, hC0⟩, hb1⟩; obtain ⟨RC, hRC⟩ : ∃ RC, RC = reqC := ⟨_, rfl⟩; rw [← hRC] at hC0; have HRC := hid hRC; clear hRC; obtain ⟨ax, cx, an, cn, ak, ck, at', ct, aa, ca, ae, ce, rfl⟩ : ∃ ax cx an cn ak ck at' ct aa ca ae ce, cs0 = [.int .i64 RC.kind, .slice ax RC.texts.length cx, .int .i64 RC.test.kind, .int .i64 RC.test.mat, .int .i64 RC.test.part, .slice an RC.test.names.length cn, .slice ak RC.test.keys.length ck, .bool RC.test.over, .int .i64 RC.test.limit, .slice at' RC.test.tests.length ct, .slice aa RC.thn.length ca, .slice ae RC.els.length ce] := by
  obtain ⟨ax, cx, an, cn, ak, ck, at', ct, aa, ca, ae, ce, m0, _, h, _⟩ := qE hC0; exact ⟨ax, cx, an, cn, ak, ck, at', ct, aa, ca, ae, ce, h⟩
 have HC0 := hid (show CmdM (newB' w.heap.size) M w1 RC [.int .i64 RC.kind, .slice ax RC.texts.length cx, .int .i64 RC.test.kind, .int .i64 RC.test.mat, .int .i64 RC.test.part, .slice an RC.test.names.length cn, .slice ak RC.test.keys.length ck, .bool RC.test.over, .int .i64 RC.test.limit, .slice at' RC.test.tests.length ct, .slice aa RC.thn.length ca, .slice ae RC.els.length ce] from CmdM.more _ _ _ _ hM hC0); have HB1 := hid hb1; clear hC0 hb1; obtain ⟨W1, hW1⟩ : ∃ W1, W1 = w1.alloc (.cells #[.int .i64 RC.kind, .slice ax RC.texts.length cx, .int .i64 RC.test.kind, .int .i64 RC.test.mat, .int .i64 RC.test.part, .slice an RC.test.names.length cn, .slice ak RC.test.keys.length ck, .bool RC.test.over, .int .i64 RC.test.limit, .slice at' RC.test.tests.length ct, .slice aa RC.thn.length ca, .slice ae RC.els.length ce] 84) := ⟨_, rfl⟩; have HWE := hid hW1; have hal : Below w1.heap.size w1 W1 := by rw [hW1]; exact nb0 _ _
 have HBW := hid (HB1.out.trans (hal.mono HB1.out.size)); have HSZ := hid (show W1.heap.size = w1.heap.size + 1 by rw [hW1]; simp); have HBX := hid (show W1.heap[w1.heap.size]? = some (.cells #[.int .i64 RC.kind, .slice ax RC.texts.length cx, .int .i64 RC.test.kind, .int .i64 RC.test.mat, .int .i64 RC.test.part, .slice an RC.test.names.length cn, .slice ak RC.test.keys.length ck, .bool RC.test.over, .int .i64 RC.test.limit, .slice at' RC.test.tests.length ct, .slice aa RC.thn.length ca, .slice ae RC.els.length ce] 84) by rw [hW1]; exact heap_alloc_new w1 _); have HCW := hid (show CmdM (fun b => newB' w.heap.size b ∧ b < w1.heap.size) M W1 RC [.int .i64 RC.kind, .slice ax RC.texts.length cx, .int .i64 RC.test.kind, .int .i64 RC.test.mat, .int .i64 RC.test.part, .slice an RC.test.names.length cn, .slice ak RC.test.keys.length ck, .bool RC.test.over, .int .i64 RC.test.limit, .slice at' RC.test.tests.length ct, .slice aa RC.thn.length ca, .slice ae RC.els.length ce] from CmdM.imp (fun _ h => h) ⟨hal.size, fun b hb _ => hal.block b hb⟩ _ _ _ (CmdM.both _ _ _ HC0.out)); clear hW1 hal; go_wp2_with fail; rw [← HWE.out]; have hcall : Calls Tryz.prog 22 #[.slice a l.length c, .int .i64 0] W1 _ := HC.out n l a c W1 (SticksM.next HR.out HBW.out); refine hcall.mono ?_; clear hcall; rintro e w2 ⟨L, a2, c2, rfl, hL, hNL, hL4, hLe, hb2⟩; have HNL := hid hNL; have HB2 := hid (HBW.out.trans (hb2.mono HBW.out.size)); have hs2 := hb2.size; have hs1 := HB1.out.size; have HBX2 := hid (jj hb2 HBX.out (by have := HSZ.out; omega)); have HC2 := hid (show CmdM (fun b => newB' w.heap.size b ∧ b < w1.heap.size) M w2 RC [.int .i64 RC.kind, .slice ax RC.texts.length cx, .int .i64 RC.test.kind, .int .i64 RC.test.mat, .int .i64 RC.test.part, .slice an RC.test.names.length cn, .slice ak RC.test.keys.length ck, .bool RC.test.over, .int .i64 RC.test.limit, .slice at' RC.test.tests.length ct, .slice aa RC.thn.length ca, .slice ae RC.els.length ce] from CmdM.next HCW.out hb2); have HL := hid hL; clear hNL hb2 hL
 by_cases hne : L = []
 · obtain ⟨rfl, rfl⟩ := hLe hne; have HB3 := HB2; obtain ⟨w3, hw3⟩ : ∃ w3, w3 = w2 := ⟨_, rfl⟩; subst hw3; obtain ⟨A, hA⟩ : ∃ A : Option Addr, A = some ⟨w1.heap.size, 0, none⟩ := ⟨_, rfl⟩; obtain ⟨C, hCC⟩ : ∃ C : Nat, C = 1 := ⟨_, rfl⟩; have HCap := hid (show L.length + 1 ≤ C by rw [hne, hCC]; simp); have HFull := hid (show CmdsM (newB' w.heap.size) M w3 (.slice A (reqC :: L).length C) (reqC :: L) by
    rw [hne, hA, hCC, ← HRC.out]; exact zp (t := 84) (fr := (0, 0)) (cs := [.int .i64 RC.kind, .slice ax RC.texts.length cx, .int .i64 RC.test.kind, .int .i64 RC.test.mat, .int .i64 RC.test.part, .slice an RC.test.names.length cn, .slice ak RC.test.keys.length ck, .bool RC.test.over, .int .i64 RC.test.limit, .slice at' RC.test.tests.length ct, .slice aa RC.thn.length ca, .slice ae RC.els.length ce]) HBX2.out rfl (show w.heap.size ≤ w1.heap.size by omega) (CmdM.imp (fun _ h => h.1) (Keeps.refl _ _) _ _ _ HC2.out))
   have hl0 : L.length = 0 := by rw [hne]; rfl
   have HLE := hid (show (Value.slice (some ⟨w1.heap.size, 0, none⟩) 1 1) = .slice A (L.length + 1) C by rw [hA, hCC, hl0]); clear hne hLe; rw [hl0]; go_wp2; rw [HLE.out]; clear hl0 hA hCC
   go_loopw [3] (fun v wr => ∃ k : Nat, k ≤ L.length ∧ v = .slice A (k + 1) C ∧ Hid (Below w.heap.size w wr) ∧ Hid (Below w3.heap.size w3 wr)) (fun v _ => lenS v)
   case atStart => exact ⟨L.length, Nat.le_refl _, rfl, HB3, Below.refl _ _⟩
   case round =>
    obtain ⟨k, hk, rfl, HBr, HBr3⟩ := hrel; have HQ := hid (show CmdsM (newB' w.heap.size) M wr (.slice A (reqC :: L.take k).length C) (reqC :: L.take k) by
        have := RowM.takeR (CmdsM.next HFull.out HBr3.out) (k + 1) C (by simp; omega); rw [List.take_succ_cons] at this; rw [show (reqC :: L.take k).length = k + 1 by simp [List.length_take]; omega]; exact this)
    have hlk : (reqC :: L.take k).length = k + 1 := by simp [List.length_take]; omega
    have HNk := hid (show ∀ x ∈ L.take k, NC x from fun x hx => HNL.out x (List.mem_of_mem_take hx)); have HWr := hid (HW.out.next HBr.out)
    by_cases h0 : k = 0
    · subst h0; have HZ := hid (show jZ M (reqC :: L.take 0) = 0 by rw [List.take_zero]; exact jej M); go_wp2; go_ret; exact ⟨L.take 0, A, C, rfl, HQ.out, HNk.out, HZ.out, ⟨by have := HCap.out; rw [List.length_take]; omega, by rw [List.length_take]; omega⟩, HBr.out⟩
    · have k1 : (1 : Int) < ((k + 1 : Nat) : Int) := by omega
      have HCH := hid (show Calls Tryz.prog 23 #[.slice A (k + 1) C] wr fun e w' => e = .returned (.int .i64 (jZ M (reqC :: L.take k))) ∧ Below wr.heap.size wr w' by
       have := jak M (reqC :: L.take k) A C wr HWr.out HQ.out.any; rw [hlk] at this; exact this)
      go_wp2_with fail; refine HCH.out.mono ?_; rintro e w5 ⟨rfl, hb5⟩; have HB5 := hid (HBr.out.trans (hb5.mono HBr.out.size)); have HB53 := hid (HBr3.out.trans (hb5.mono HBr3.out.size)); have HQ5 := hid (CmdsM.next HQ.out hb5); clear hb5; obtain ⟨z, hz⟩ : ∃ z, z = jZ M (reqC :: L.take k) := ⟨_, rfl⟩; rw [← hz]; have HZ := hid hz; clear hz
      by_cases hz0 : z = 0
      · have HZ0 := hid (show jZ M (reqC :: L.take k) = 0 by rw [← HZ.out, hz0]); subst hz0; go_wp2; go_ret; exact ⟨L.take k, A, C, by rw [show (L.take k).length = k by rw [List.length_take]; omega]; rfl, HQ5.out, HNk.out, HZ0.out, ⟨by have := HCap.out; rw [List.length_take]; omega, by rw [List.length_take]; omega⟩, HB5.out⟩
      · have hzb : (z == 0) = false := by simpa using hz0
        obtain ⟨j, rfl⟩ : ∃ j, k = j + 1 := ⟨k - 1, by omega⟩; have hCk : ((j + 1 : Nat) : Int) ≤ (C : Int) := by have := HCap.out; omega
        have j0 : (0 : Int) ≤ ((j + 1 : Nat) : Int) := by omega
        have hw1 : IntKind.i64.wrap (((j + 1 + 1 : Nat) : Int) - 1) = ((j + 1 : Nat) : Int) := by rw [IntKind.wrap_i64]; omega
        have hw2 : wrap64 (((j + 1 + 1 : Nat) : Int) - 1) = ((j + 1 : Nat) : Int) := by unfold wrap64; omega
        go_wp2
        go_roundw
        case rel => first | exact ⟨j, by omega, rfl, HB5, HB53⟩ | ((repeat apply Exists.intro); exact ⟨⟨j, by omega, rfl, HB5, HB53⟩, rfl⟩) | (refine ⟨trivial, ?_⟩; (repeat apply Exists.intro); exact ⟨⟨j, by omega, rfl, HB5, HB53⟩, rfl⟩)
        case measure => simp [lenS]
 · obtain ⟨b2, o2, ha2⟩ : ∃ b2 o2, a2 = some ⟨b2, o2, none⟩ := by
    obtain ⟨a', c', hv, _, hrow⟩ := HL.out; simp only [Value.slice.injEq, true_and] at hv; obtain ⟨y, hy⟩ : ∃ y, L[0]? = some y := by
        cases L with
        | nil => exact absurd rfl hne
        | cons y r => exact ⟨y, rfl⟩
    obtain ⟨b, o, _, ha, _⟩ := hrow 0 y hy; exact ⟨b, o, by rw [hv.1, ha]⟩
   subst ha2; have hpos : 0 < L.length := by
    cases L with
    | nil => exact absurd rfl hne
    | cons y r => simp
   obtain ⟨css, n1, n2, n3, n4⟩ := jeW HL.out L.length (Nat.le_refl _); have HN1 := hid n1; have HN2 := hid n2; have HN3 := hid n3; have hfl : css.flatten.length = L.length * 12 := by rw [jbb n2, n1]
   have HONE := hid (show ∀ u ∈ css.flatten, u.oneCell' = true from fun u hu => by
    obtain ⟨cs, hcs, hu2⟩ := List.mem_flatten.1 hu; obtain ⟨q, hq, hqe⟩ := List.getElem_of_mem hcs; have hq2 : css[q]? = some cs := by rw [List.getElem?_eq_getElem hq, hqe]
    exact jiD (n3 q _ cs (List.getElem?_eq_getElem (by omega)) hq2) u hu2)
   have HNW := hid (show ∀ (j : Nat) u, css.flatten[j]? = some u → w2.cell? ((⟨b2, o2, none⟩ : Addr).add j) = some u from fun j u hj => by rw [Addr.add_lit]; exact n4 j u hj); have HO1 := hid (show World.ownsRow w2 w.heap.size 84 12 (.slice (some ⟨w1.heap.size, 0, none⟩) 1 1) 1 [.int .i64 RC.kind, .slice ax RC.texts.length cx, .int .i64 RC.test.kind, .int .i64 RC.test.mat, .int .i64 RC.test.part, .slice an RC.test.names.length cn, .slice ak RC.test.keys.length ck, .bool RC.test.over, .int .i64 RC.test.limit, .slice at' RC.test.tests.length ct, .slice aa RC.thn.length ca, .slice ae RC.els.length ce] from ⟨by rfl, .inr ⟨_, 1, _, rfl, hs1, HBX2.out, by omega, by unfold maxLen; omega, by rfl, by rfl⟩⟩); have hsW := HSZ.out; clear n1 n2 n3 n4 hne hLe
   go_wp2_with (at_builtin; refine wpList_append_lies _ rfl _ _ 43 rfl w.heap.size 84 i0 _ 12 192 Tryz.underlying43 hi hz0 hz1 hz2 rfl (by decide) (.slice (some ⟨w1.heap.size, 0, none⟩) 1 1) 1 [.int .i64 RC.kind, .slice ax RC.texts.length cx, .int .i64 RC.test.kind, .int .i64 RC.test.mat, .int .i64 RC.test.part, .slice an RC.test.names.length cn, .slice ak RC.test.keys.length ck, .bool RC.test.over, .int .i64 RC.test.limit, .slice at' RC.test.tests.length ct, .slice aa RC.thn.length ca, .slice ae RC.els.length ce] rfl HO1.out ⟨b2, o2, none⟩ L.length c2 css.flatten rfl hfl HNW.out HONE.out hpos ?c3 ?c4 ?c5 _ rfl ?_)
   case c3 => unfold maxLen; omega
   case c4 => omega
   case c5 => omega
   intro g cap w3 hown3 hgrow hat hlt3; have hgs := hgrow.size; have hgb : ∀ k, k < w2.heap.size → k ≠ w1.heap.size → w3.heap[k]? = w2.heap[k]? := fun k hk hne => hgrow.block k hk (fun e => hne (Option.some.inj e))
   have HB3 := hid (show Below w.heap.size w w3 from HB2.out.grown hgrow HB2.out.size (fun j hj => by have := Option.some.inj hj; subst this; exact hs1)); have HFull := hid (show CmdsM (newB' w.heap.size) M w3 (.slice (some ⟨g, 0, none⟩) (reqC :: L).length cap) (reqC :: L) by
    rw [← HRC.out, List.length_cons, Nat.add_comm]; refine jlV (P := fun Q w (t : Cmd) cs => CmdM Q M w t cs) (c0 := [.int .i64 RC.kind, .slice ax RC.texts.length cx, .int .i64 RC.test.kind, .int .i64 RC.test.mat, .int .i64 RC.test.part, .slice an RC.test.names.length cn, .slice ak RC.test.keys.length ck, .bool RC.test.over, .int .i64 RC.test.limit, .slice at' RC.test.tests.length ct, .slice aa RC.thn.length ca, .slice ae RC.els.length ce]) (css := css) hown3 rfl HN1.out HN2.out ?_ ?_ (by unfold maxLen; omega)
    · exact CmdM.imp (fun k hk => hk.1) ⟨hgs, fun k hk hq => hgb k hk (by have := hq.2; omega)⟩ _ _ _ HC2.out
    · exact fun q y cs hy hcs => CmdM.imp (fun k (hk : newB' W1.heap.size k) => show w.heap.size ≤ k by have : W1.heap.size ≤ k := hk; omega) ⟨hgs, fun k hk (hq : W1.heap.size ≤ k) => hgb k hk (by omega)⟩ _ _ _ (HN3.out q y cs hy hcs))
   have HCap := hid (show L.length + 1 ≤ cap by
    rcases hown3.2 with ⟨h, _⟩ | ⟨_, _, _, h, _, _, h2, _⟩
    · cases h
    · simp only [Value.slice.injEq] at h; omega)
   obtain ⟨A, hA⟩ : ∃ A : Option Addr, A = some ⟨g, 0, none⟩ := ⟨_, rfl⟩; obtain ⟨C, hCC⟩ : ∃ C : Nat, C = cap := ⟨_, rfl⟩; rw [← hA, ← hCC] at HFull; rw [← hCC] at HCap; have HLE := hid (show (Value.slice (some ⟨g, 0, none⟩) (1 + L.length) cap) = .slice A (L.length + 1) C by rw [hA, hCC, Nat.add_comm]); clear hown3 hgrow hat hgb hA hCC hfl; go_wp2; rw [HLE.out]
   go_loopw [3] (fun v wr => ∃ k : Nat, k ≤ L.length ∧ v = .slice A (k + 1) C ∧ Hid (Below w.heap.size w wr) ∧ Hid (Below w3.heap.size w3 wr)) (fun v _ => lenS v)
   case atStart => exact ⟨L.length, Nat.le_refl _, rfl, HB3, Below.refl _ _⟩
   case round =>
    obtain ⟨k, hk, rfl, HBr, HBr3⟩ := hrel; have HQ := hid (show CmdsM (newB' w.heap.size) M wr (.slice A (reqC :: L.take k).length C) (reqC :: L.take k) by
        have := RowM.takeR (CmdsM.next HFull.out HBr3.out) (k + 1) C (by simp; omega); rw [List.take_succ_cons] at this; rw [show (reqC :: L.take k).length = k + 1 by simp [List.length_take]; omega]; exact this)
    have hlk : (reqC :: L.take k).length = k + 1 := by simp [List.length_take]; omega
    have HNk := hid (show ∀ x ∈ L.take k, NC x from fun x hx => HNL.out x (List.mem_of_mem_take hx)); have HWr := hid (HW.out.next HBr.out)
    by_cases h0 : k = 0
    · subst h0; have HZ := hid (show jZ M (reqC :: L.take 0) = 0 by rw [List.take_zero]; exact jej M); go_wp2; go_ret; exact ⟨L.take 0, A, C, rfl, HQ.out, HNk.out, HZ.out, ⟨by have := HCap.out; rw [List.length_take]; omega, by rw [List.length_take]; omega⟩, HBr.out⟩
    · have k1 : (1 : Int) < ((k + 1 : Nat) : Int) := by omega
      have HCH := hid (show Calls Tryz.prog 23 #[.slice A (k + 1) C] wr fun e w' => e = .returned (.int .i64 (jZ M (reqC :: L.take k))) ∧ Below wr.heap.size wr w' by
       have := jak M (reqC :: L.take k) A C wr HWr.out HQ.out.any; rw [hlk] at this; exact this)
      go_wp2_with fail; refine HCH.out.mono ?_; rintro e w5 ⟨rfl, hb5⟩; have HB5 := hid (HBr.out.trans (hb5.mono HBr.out.size)); have HB53 := hid (HBr3.out.trans (hb5.mono HBr3.out.size)); have HQ5 := hid (CmdsM.next HQ.out hb5); clear hb5; obtain ⟨z, hz⟩ : ∃ z, z = jZ M (reqC :: L.take k) := ⟨_, rfl⟩; rw [← hz]; have HZ := hid hz; clear hz
      by_cases hz0 : z = 0
      · have HZ0 := hid (show jZ M (reqC :: L.take k) = 0 by rw [← HZ.out, hz0]); subst hz0; go_wp2; go_ret; exact ⟨L.take k, A, C, by rw [show (L.take k).length = k by rw [List.length_take]; omega]; rfl, HQ5.out, HNk.out, HZ0.out, ⟨by have := HCap.out; rw [List.length_take]; omega, by rw [List.length_take]; omega⟩, HB5.out⟩
      · have hzb : (z == 0) = false := by simpa using hz0
        obtain ⟨j, rfl⟩ : ∃ j, k = j + 1 := ⟨k - 1, by omega⟩; have hCk : ((j + 1 : Nat) : Int) ≤ (C : Int) := by have := HCap.out; omega
        have j0 : (0 : Int) ≤ ((j + 1 : Nat) : Int) := by omega
        have hw1 : IntKind.i64.wrap (((j + 1 + 1 : Nat) : Int) - 1) = ((j + 1 : Nat) : Int) := by rw [IntKind.wrap_i64]; omega
        have hw2 : wrap64 (((j + 1 + 1 : Nat) : Int) - 1) = ((j + 1 : Nat) : Int) := by unfold wrap64; omega
        go_wp2
        go_roundw
        case rel => first | exact ⟨j, by omega, rfl, HB5, HB53⟩ | ((repeat apply Exists.intro); exact ⟨⟨j, by omega, rfl, HB5, HB53⟩, rfl⟩) | (refine ⟨trivial, ?_⟩; (repeat apply Exists.intro); exact ⟨⟨j, by omega, rfl, HB5, HB53⟩, rfl⟩)
        case measure => simp [lenS]
end Go.Proofs.YtgfbdgheencmaaaGreatDoor
