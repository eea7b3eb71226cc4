/-
  What the laws' maker of scripts does: the walk.
-/
import Derived.Test.YtaapmpchcfcniaaGreatDoorXQMkCs5
import Derived.Lib.OthersKept
set_option maxHeartbeats 8000000
set_option maxRecDepth 100000
namespace Go.Proofs.YtaapmpchcfcniaaGreatDoor
open Go.RowKit Go.Proofs
def lenS : Value → Nat
 | .slice _ n _ => n
 | _ => 0
theorem jdN (n : Nat) : jW n [reqC] = 0 := by
 rw [jaC fun x hx => by simp at hx; rw [hx]; exact jbV _]; cases n <;> rfl
def jlM (M : Nat) (w : World) (e : Ending) (w' : World) : Prop := ∃ (r : List Cmd) (a' : Option Addr) (c' : Nat), e = .returned (.slice a' (r.length + 1) c') ∧ CmdsM (newB' w.heap.size) M w' (.slice a' (reqC :: r).length c') (reqC :: r) ∧ (∀ x ∈ r, NC x) ∧ jW M (reqC :: r) = 0 ∧ (r.length + 1 ≤ c' ∧ r.length ≤ 4) ∧ Below w.heap.size w w'
theorem jkQ {A : Type} {B k : Nat} {ty : TypeId} {P : (Nat → Prop) → World → A → List Value → Prop} {w3 : World} {v' : Value} {x : A} {l : List A} {c0 : List Value} {css : List (List Value)}
 (hown : w3.ownsRow B ty k v' (1 + l.length) (c0 ++ css.flatten)) (h0 : c0.length = k) (h2 : css.length = l.length) (h3 : ∀ cs ∈ css, cs.length = k) (hx : P (newB' B) w3 x c0) (hl : ∀ (i : Nat) (y : A) (cs : List Value), l[i]? = some y → css[i]? = some cs → P (newB' B) w3 y cs) (hm : l.length + 1 ≤ maxLen) :
 RowM (newB' B) k (P (newB' B) w3) w3 v' (x :: l) := by
 have hown' : w3.ownsRow B ty k v' (x :: l).length (c0 :: css).flatten := by
  rw [List.length_cons, List.flatten_cons, Nat.add_comm]; exact hown
 have hall : ∀ cs ∈ c0 :: css, cs.length = k := fun cs hc => by
  rcases List.mem_cons.1 hc with e | e
  · rw [e]; exact h0
  · exact h3 cs e
 rcases hown'.2 with ⟨rfl, hn⟩ | ⟨g, cap, cur, rfl, hb, hg, hcap, hcm, hcs, htk⟩
 · simp at hn
 · refine ⟨some ⟨g, 0, none⟩, cap, rfl, by simpa using hm, fun i y hy => ?_⟩; have hi : i < (x :: l).length := (List.getElem?_eq_some_iff.1 hy).1; obtain ⟨cs, hcs'⟩ : ∃ cs, (c0 :: css)[i]? = some cs := ⟨_, List.getElem?_eq_getElem (by simp at hi ⊢; omega)⟩; refine ⟨g, 0, cs, rfl, (Array.getElem?_eq_some_iff.1 hg).1, hb, hall cs (List.mem_of_getElem? hcs'), fun j u hj => ?_, ?_⟩
   · have hjk : j < k := by rw [← hall cs (List.mem_of_getElem? hcs')]; exact (List.getElem?_eq_some_iff.1 hj).1
     have := World.ownsRow.cells hown' (g := g) rfl (i * k + j) u (by rw [ja6 hall hcs' hjk]; exact hj); rw [Addr.add_lit] at this
     simpa [Nat.add_assoc] using this
   · cases i with
     | zero => simp at hy hcs'; subst hy; subst hcs'; exact hx
     | succ i => exact hl i y cs (by simpa using hy) (by simpa using hcs')
theorem jhe (M : Nat) (hM : 2 ≤ M) (hC : jeH 0 M) (n : Nat) (l : List Stk) (a : Option Addr) (c : Nat) (w : World) (hw : WordsAt w) (h : SticksM n w (.slice a l.length c) l) :
 Calls Tryz.prog 6 #[.slice a l.length c] w (jlM M w) := by
 have HR := hid h; have HC := hid hC; have HW := hid hw; obtain ⟨i0, hi, hz0, hz1, hz2⟩ := info_parts jii; clear h hC hw; go_enter Tryz.func6, Tryz.ntmps6; go_wp2_with fail; refine (jeo w).mono ?_; rintro e w1 ⟨v, rfl, ⟨cs0, rfl, hC0⟩, hb1⟩; obtain ⟨RC, hRC⟩ : ∃ RC, RC = reqC := ⟨_, rfl⟩; rw [← hRC] at hC0; have HRC := hid hRC; clear hRC; obtain ⟨ax, cx, an, cn, ak, ck, at', ct, aa, ca, ae, ce, rfl⟩ : ∃ ax cx an cn ak ck at' ct aa ca ae ce, cs0 = [.int .i64 RC.kind, .slice ax RC.texts.length cx, .int .i64 RC.test.kind, .int .i64 RC.test.mat, .int .i64 RC.test.part, .slice an RC.test.names.length cn, .slice ak RC.test.keys.length ck, .bool RC.test.over, .int .i64 RC.test.limit, .slice at' RC.test.tests.length ct, .slice aa RC.thn.length ca, .slice ae RC.els.length ce] := by
  obtain ⟨ax, cx, an, cn, ak, ck, at', ct, aa, ca, ae, ce, m0, _, h, _⟩ := zm hC0; exact ⟨ax, cx, an, cn, ak, ck, at', ct, aa, ca, ae, ce, h⟩
 have HC0 := hid (show CmdM (newB' w.heap.size) M w1 RC [.int .i64 RC.kind, .slice ax RC.texts.length cx, .int .i64 RC.test.kind, .int .i64 RC.test.mat, .int .i64 RC.test.part, .slice an RC.test.names.length cn, .slice ak RC.test.keys.length ck, .bool RC.test.over, .int .i64 RC.test.limit, .slice at' RC.test.tests.length ct, .slice aa RC.thn.length ca, .slice ae RC.els.length ce] from CmdM.more _ _ _ _ hM hC0); have HB1 := hid hb1; clear hC0 hb1; obtain ⟨W1, hW1⟩ : ∃ W1, W1 = w1.alloc (.cells #[.int .i64 RC.kind, .slice ax RC.texts.length cx, .int .i64 RC.test.kind, .int .i64 RC.test.mat, .int .i64 RC.test.part, .slice an RC.test.names.length cn, .slice ak RC.test.keys.length ck, .bool RC.test.over, .int .i64 RC.test.limit, .slice at' RC.test.tests.length ct, .slice aa RC.thn.length ca, .slice ae RC.els.length ce] 58) := ⟨_, rfl⟩; have HWE := hid hW1; have hal : Below w1.heap.size w1 W1 := by rw [hW1]; exact nb0 _ _
 have HBW := hid (HB1.out.trans (hal.mono HB1.out.size)); have HSZ := hid (show W1.heap.size = w1.heap.size + 1 by rw [hW1]; simp); have HBX := hid (show W1.heap[w1.heap.size]? = some (.cells #[.int .i64 RC.kind, .slice ax RC.texts.length cx, .int .i64 RC.test.kind, .int .i64 RC.test.mat, .int .i64 RC.test.part, .slice an RC.test.names.length cn, .slice ak RC.test.keys.length ck, .bool RC.test.over, .int .i64 RC.test.limit, .slice at' RC.test.tests.length ct, .slice aa RC.thn.length ca, .slice ae RC.els.length ce] 58) by rw [hW1]; exact heap_alloc_new w1 _); have HCW := hid (show CmdM (fun b => newB' w.heap.size b ∧ b < w1.heap.size) M W1 RC [.int .i64 RC.kind, .slice ax RC.texts.length cx, .int .i64 RC.test.kind, .int .i64 RC.test.mat, .int .i64 RC.test.part, .slice an RC.test.names.length cn, .slice ak RC.test.keys.length ck, .bool RC.test.over, .int .i64 RC.test.limit, .slice at' RC.test.tests.length ct, .slice aa RC.thn.length ca, .slice ae RC.els.length ce] from CmdM.imp (fun _ h => h) ⟨hal.size, fun b hb _ => hal.block b hb⟩ _ _ _ (CmdM.both _ _ _ HC0.out)); clear hW1 hal; go_wp2_with fail; rw [← HWE.out]; have hcall : Calls Tryz.prog 19 #[.slice a l.length c, .int .i64 0] W1 _ := HC.out n l a c W1 (SticksM.next HR.out HBW.out); refine hcall.mono ?_; clear hcall; rintro e w2 ⟨L, a2, c2, rfl, hL, hNL, hL4, hLe, hb2⟩; have HNL := hid hNL; have HB2 := hid (HBW.out.trans (hb2.mono HBW.out.size)); have hs2 := hb2.size; have hs1 := HB1.out.size; have HBX2 := hid (jl hb2 HBX.out (by have := HSZ.out; omega)); have HC2 := hid (show CmdM (fun b => newB' w.heap.size b ∧ b < w1.heap.size) M w2 RC [.int .i64 RC.kind, .slice ax RC.texts.length cx, .int .i64 RC.test.kind, .int .i64 RC.test.mat, .int .i64 RC.test.part, .slice an RC.test.names.length cn, .slice ak RC.test.keys.length ck, .bool RC.test.over, .int .i64 RC.test.limit, .slice at' RC.test.tests.length ct, .slice aa RC.thn.length ca, .slice ae RC.els.length ce] from CmdM.next HCW.out hb2); have HL := hid hL; clear hNL hb2 hL
 by_cases hne : L = []
 · obtain ⟨rfl, rfl⟩ := hLe hne; have HB3 := HB2; obtain ⟨w3, hw3⟩ : ∃ w3, w3 = w2 := ⟨_, rfl⟩; subst hw3; obtain ⟨A, hA⟩ : ∃ A : Option Addr, A = some ⟨w1.heap.size, 0, none⟩ := ⟨_, rfl⟩; obtain ⟨C, hCC⟩ : ∃ C : Nat, C = 1 := ⟨_, rfl⟩; have HCap := hid (show L.length + 1 ≤ C by rw [hne, hCC]; simp); have HFull := hid (show CmdsM (newB' w.heap.size) M w3 (.slice A (reqC :: L).length C) (reqC :: L) by
    rw [hne, hA, hCC, ← HRC.out]; exact zr (t := 58) (fr := (0, 0)) (cs := [.int .i64 RC.kind, .slice ax RC.texts.length cx, .int .i64 RC.test.kind, .int .i64 RC.test.mat, .int .i64 RC.test.part, .slice an RC.test.names.length cn, .slice ak RC.test.keys.length ck, .bool RC.test.over, .int .i64 RC.test.limit, .slice at' RC.test.tests.length ct, .slice aa RC.thn.length ca, .slice ae RC.els.length ce]) HBX2.out rfl (show w.heap.size ≤ w1.heap.size by omega) (CmdM.imp (fun _ h => h.1) (Keeps.refl _ _) _ _ _ HC2.out))
   have hl0 : L.length = 0 := by rw [hne]; rfl
   have HLE := hid (show (Value.slice (some ⟨w1.heap.size, 0, none⟩) 1 1) = .slice A (L.length + 1) C by rw [hA, hCC, hl0]); clear hne hLe; rw [hl0]; go_wp2; rw [HLE.out]; clear hl0 hA hCC
   go_loopw [3] (fun v wr => ∃ k : Nat, k ≤ L.length ∧ v = .slice A (k + 1) C ∧ Hid (Below w.heap.size w wr) ∧ Hid (Below w3.heap.size w3 wr)) (fun v _ => lenS v)
   case atStart => exact ⟨L.length, Nat.le_refl _, rfl, HB3, Below.refl _ _⟩
   case round =>
    obtain ⟨k, hk, rfl, HBr, HBr3⟩ := hrel; have HQ := hid (show CmdsM (newB' w.heap.size) M wr (.slice A (reqC :: L.take k).length C) (reqC :: L.take k) by
        have := RowM.takeR (CmdsM.next HFull.out HBr3.out) (k + 1) C (by simp; omega); rw [List.take_succ_cons] at this; rw [show (reqC :: L.take k).length = k + 1 by simp [List.length_take]; omega]; exact this)
    have hlk : (reqC :: L.take k).length = k + 1 := by simp [List.length_take]; omega
    have HNk := hid (show ∀ x ∈ L.take k, NC x from fun x hx => HNL.out x (List.mem_of_mem_take hx)); have HWr := hid (HW.out.next HBr.out)
    by_cases h0 : k = 0
    · subst h0; have HZ := hid (show jW M (reqC :: L.take 0) = 0 by rw [List.take_zero]; exact jdN M); go_wp2; go_ret; exact ⟨L.take 0, A, C, rfl, HQ.out, HNk.out, HZ.out, ⟨by have := HCap.out; rw [List.length_take]; omega, by rw [List.length_take]; omega⟩, HBr.out⟩
    · have k1 : (1 : Int) < ((k + 1 : Nat) : Int) := by omega
      have HCH := hid (show Calls Tryz.prog 20 #[.slice A (k + 1) C] wr fun e w' => e = .returned (.int .i64 (jW M (reqC :: L.take k))) ∧ Below wr.heap.size wr w' by
       have := jag M (reqC :: L.take k) A C wr HWr.out HQ.out.any; rw [hlk] at this; exact this)
      go_wp2_with fail; refine HCH.out.mono ?_; rintro e w5 ⟨rfl, hb5⟩; have HB5 := hid (HBr.out.trans (hb5.mono HBr.out.size)); have HB53 := hid (HBr3.out.trans (hb5.mono HBr3.out.size)); have HQ5 := hid (CmdsM.next HQ.out hb5); clear hb5; obtain ⟨z, hz⟩ : ∃ z, z = jW M (reqC :: L.take k) := ⟨_, rfl⟩; rw [← hz]; have HZ := hid hz; clear hz
      by_cases hz0 : z = 0
      · have HZ0 := hid (show jW M (reqC :: L.take k) = 0 by rw [← HZ.out, hz0]); subst hz0; go_wp2; go_ret; exact ⟨L.take k, A, C, by rw [show (L.take k).length = k by rw [List.length_take]; omega]; rfl, HQ5.out, HNk.out, HZ0.out, ⟨by have := HCap.out; rw [List.length_take]; omega, by rw [List.length_take]; omega⟩, HB5.out⟩
      · have hzb : (z == 0) = false := by simpa using hz0
        obtain ⟨j, rfl⟩ : ∃ j, k = j + 1 := ⟨k - 1, by omega⟩; have hCk : ((j + 1 : Nat) : Int) ≤ (C : Int) := by have := HCap.out; omega
        have j0 : (0 : Int) ≤ ((j + 1 : Nat) : Int) := by omega
        have hw1 : IntKind.i64.wrap (((j + 1 + 1 : Nat) : Int) - 1) = ((j + 1 : Nat) : Int) := by rw [IntKind.wrap_i64]; omega
        have hw2 : wrap64 (((j + 1 + 1 : Nat) : Int) - 1) = ((j + 1 : Nat) : Int) := by unfold wrap64; omega
        go_wp2
        go_roundw
        case rel => first | exact ⟨j, by omega, rfl, HB5, HB53⟩ | ((repeat apply Exists.intro); exact ⟨⟨j, by omega, rfl, HB5, HB53⟩, rfl⟩) | (refine ⟨trivial, ?_⟩; (repeat apply Exists.intro); exact ⟨⟨j, by omega, rfl, HB5, HB53⟩, rfl⟩)
        case measure => simp [lenS]
 · obtain ⟨b2, o2, ha2⟩ : ∃ b2 o2, a2 = some ⟨b2, o2, none⟩ := by
    obtain ⟨a', c', hv, _, hrow⟩ := HL.out; simp only [Value.slice.injEq, true_and] at hv; obtain ⟨y, hy⟩ : ∃ y, L[0]? = some y := by
        cases L with
        | nil => exact absurd rfl hne
        | cons y r => exact ⟨y, rfl⟩
    obtain ⟨b, o, _, ha, _⟩ := hrow 0 y hy; exact ⟨b, o, by rw [hv.1, ha]⟩
   subst ha2; have hpos : 0 < L.length := by
    cases L with
    | nil => exact absurd rfl hne
    | cons y r => simp
   obtain ⟨css, n1, n2, n3, n4⟩ := jcc HL.out L.length (Nat.le_refl _); have HN1 := hid n1; have HN2 := hid n2; have HN3 := hid n3; have hfl : css.flatten.length = L.length * 12 := by rw [jaa n2, n1]
   have HONE := hid (show ∀ u ∈ css.flatten, u.oneCell' = true from fun u hu => by
    obtain ⟨cs, hcs, hu2⟩ := List.mem_flatten.1 hu; obtain ⟨q, hq, hqe⟩ := List.getElem_of_mem hcs; have hq2 : css[q]? = some cs := by rw [List.getElem?_eq_getElem hq, hqe]
    exact jeS (n3 q _ cs (List.getElem?_eq_getElem (by omega)) hq2) u hu2)
   have HNW := hid (show ∀ (j : Nat) u, css.flatten[j]? = some u → w2.cell? ((⟨b2, o2, none⟩ : Addr).add j) = some u from fun j u hj => by rw [Addr.add_lit]; exact n4 j u hj); have HO1 := hid (show World.ownsRow w2 w.heap.size 58 12 (.slice (some ⟨w1.heap.size, 0, none⟩) 1 1) 1 [.int .i64 RC.kind, .slice ax RC.texts.length cx, .int .i64 RC.test.kind, .int .i64 RC.test.mat, .int .i64 RC.test.part, .slice an RC.test.names.length cn, .slice ak RC.test.keys.length ck, .bool RC.test.over, .int .i64 RC.test.limit, .slice at' RC.test.tests.length ct, .slice aa RC.thn.length ca, .slice ae RC.els.length ce] from ⟨by rfl, .inr ⟨_, 1, _, rfl, hs1, HBX2.out, by omega, by unfold maxLen; omega, by rfl, by rfl⟩⟩); have hsW := HSZ.out; clear n1 n2 n3 n4 hne hLe
   go_wp2_with (at_builtin; refine wpList_append_lies _ rfl _ _ 34 rfl w.heap.size 58 i0 _ 12 192 Tryz.underlying34 hi hz0 hz1 hz2 rfl (by decide) (.slice (some ⟨w1.heap.size, 0, none⟩) 1 1) 1 [.int .i64 RC.kind, .slice ax RC.texts.length cx, .int .i64 RC.test.kind, .int .i64 RC.test.mat, .int .i64 RC.test.part, .slice an RC.test.names.length cn, .slice ak RC.test.keys.length ck, .bool RC.test.over, .int .i64 RC.test.limit, .slice at' RC.test.tests.length ct, .slice aa RC.thn.length ca, .slice ae RC.els.length ce] rfl HO1.out ⟨b2, o2, none⟩ L.length c2 css.flatten rfl hfl HNW.out HONE.out hpos ?c3 ?c4 ?c5 _ rfl ?_)
   case c3 => unfold maxLen; omega
   case c4 => omega
   case c5 => omega
   intro g cap w3 hown3 hgrow hat hlt3; have hgs := hgrow.size; have hgb : ∀ k, k < w2.heap.size → k ≠ w1.heap.size → w3.heap[k]? = w2.heap[k]? := fun k hk hne => hgrow.block k hk (fun e => hne (Option.some.inj e))
   have HB3 := hid (show Below w.heap.size w w3 from HB2.out.grown hgrow HB2.out.size (fun j hj => by have := Option.some.inj hj; subst this; exact hs1)); have HFull := hid (show CmdsM (newB' w.heap.size) M w3 (.slice (some ⟨g, 0, none⟩) (reqC :: L).length cap) (reqC :: L) by
    rw [← HRC.out, List.length_cons, Nat.add_comm]; refine jkQ (P := fun Q w (t : Cmd) cs => CmdM Q M w t cs) (c0 := [.int .i64 RC.kind, .slice ax RC.texts.length cx, .int .i64 RC.test.kind, .int .i64 RC.test.mat, .int .i64 RC.test.part, .slice an RC.test.names.length cn, .slice ak RC.test.keys.length ck, .bool RC.test.over, .int .i64 RC.test.limit, .slice at' RC.test.tests.length ct, .slice aa RC.thn.length ca, .slice ae RC.els.length ce]) (css := css) hown3 rfl HN1.out HN2.out ?_ ?_ (by unfold maxLen; omega)
    · exact CmdM.imp (fun k hk => hk.1) ⟨hgs, fun k hk hq => hgb k hk (by have := hq.2; omega)⟩ _ _ _ HC2.out
    · exact fun q y cs hy hcs => CmdM.imp (fun k (hk : newB' W1.heap.size k) => show w.heap.size ≤ k by have : W1.heap.size ≤ k := hk; omega) ⟨hgs, fun k hk (hq : W1.heap.size ≤ k) => hgb k hk (by omega)⟩ _ _ _ (HN3.out q y cs hy hcs))
   have HCap := hid (show L.length + 1 ≤ cap by
    rcases hown3.2 with ⟨h, _⟩ | ⟨_, _, _, h, _, _, h2, _⟩
    · cases h
    · simp only [Value.slice.injEq] at h; omega)
   obtain ⟨A, hA⟩ : ∃ A : Option Addr, A = some ⟨g, 0, none⟩ := ⟨_, rfl⟩; obtain ⟨C, hCC⟩ : ∃ C : Nat, C = cap := ⟨_, rfl⟩; rw [← hA, ← hCC] at HFull; rw [← hCC] at HCap; have HLE := hid (show (Value.slice (some ⟨g, 0, none⟩) (1 + L.length) cap) = .slice A (L.length + 1) C by rw [hA, hCC, Nat.add_comm]); clear hown3 hgrow hat hgb hA hCC hfl; go_wp2; rw [HLE.out]
   go_loopw [3] (fun v wr => ∃ k : Nat, k ≤ L.length ∧ v = .slice A (k + 1) C ∧ Hid (Below w.heap.size w wr) ∧ Hid (Below w3.heap.size w3 wr)) (fun v _ => lenS v)
   case atStart => exact ⟨L.length, Nat.le_refl _, rfl, HB3, Below.refl _ _⟩
   case round =>
    obtain ⟨k, hk, rfl, HBr, HBr3⟩ := hrel; have HQ := hid (show CmdsM (newB' w.heap.size) M wr (.slice A (reqC :: L.take k).length C) (reqC :: L.take k) by
        have := RowM.takeR (CmdsM.next HFull.out HBr3.out) (k + 1) C (by simp; omega); rw [List.take_succ_cons] at this; rw [show (reqC :: L.take k).length = k + 1 by simp [List.length_take]; omega]; exact this)
    have hlk : (reqC :: L.take k).length = k + 1 := by simp [List.length_take]; omega
    have HNk := hid (show ∀ x ∈ L.take k, NC x from fun x hx => HNL.out x (List.mem_of_mem_take hx)); have HWr := hid (HW.out.next HBr.out)
    by_cases h0 : k = 0
    · subst h0; have HZ := hid (show jW M (reqC :: L.take 0) = 0 by rw [List.take_zero]; exact jdN M); go_wp2; go_ret; exact ⟨L.take 0, A, C, rfl, HQ.out, HNk.out, HZ.out, ⟨by have := HCap.out; rw [List.length_take]; omega, by rw [List.length_take]; omega⟩, HBr.out⟩
    · have k1 : (1 : Int) < ((k + 1 : Nat) : Int) := by omega
      have HCH := hid (show Calls Tryz.prog 20 #[.slice A (k + 1) C] wr fun e w' => e = .returned (.int .i64 (jW M (reqC :: L.take k))) ∧ Below wr.heap.size wr w' by
       have := jag M (reqC :: L.take k) A C wr HWr.out HQ.out.any; rw [hlk] at this; exact this)
      go_wp2_with fail; refine HCH.out.mono ?_; rintro e w5 ⟨rfl, hb5⟩; have HB5 := hid (HBr.out.trans (hb5.mono HBr.out.size)); have HB53 := hid (HBr3.out.trans (hb5.mono HBr3.out.size)); have HQ5 := hid (CmdsM.next HQ.out hb5); clear hb5; obtain ⟨z, hz⟩ : ∃ z, z = jW M (reqC :: L.take k) := ⟨_, rfl⟩; rw [← hz]; have HZ := hid hz; clear hz
      by_cases hz0 : z = 0
      · have HZ0 := hid (show jW M (reqC :: L.take k) = 0 by rw [← HZ.out, hz0]); subst hz0; go_wp2; go_ret; exact ⟨L.take k, A, C, by rw [show (L.take k).length = k by rw [List.length_take]; omega]; rfl, HQ5.out, HNk.out, HZ0.out, ⟨by have := HCap.out; rw [List.length_take]; omega, by rw [List.length_take]; omega⟩, HB5.out⟩
      · have hzb : (z == 0) = false := by simpa using hz0
        obtain ⟨j, rfl⟩ : ∃ j, k = j + 1 := ⟨k - 1, by omega⟩; have hCk : ((j + 1 : Nat) : Int) ≤ (C : Int) := by have := HCap.out; omega
        have j0 : (0 : Int) ≤ ((j + 1 : Nat) : Int) := by omega
        have hw1 : IntKind.i64.wrap (((j + 1 + 1 : Nat) : Int) - 1) = ((j + 1 : Nat) : Int) := by rw [IntKind.wrap_i64]; omega
        have hw2 : wrap64 (((j + 1 + 1 : Nat) : Int) - 1) = ((j + 1 : Nat) : Int) := by unfold wrap64; omega
        go_wp2
        go_roundw
        case rel => first | exact ⟨j, by omega, rfl, HB5, HB53⟩ | ((repeat apply Exists.intro); exact ⟨⟨j, by omega, rfl, HB5, HB53⟩, rfl⟩) | (refine ⟨trivial, ?_⟩; (repeat apply Exists.intro); exact ⟨⟨j, by omega, rfl, HB5, HB53⟩, rfl⟩)
        case measure => simp [lenS]
theorem jer (a a' : Option Addr) (c c' : Nat) (l : List Atn) (w : World) (h1 : AtnsM anyB w (.slice a l.length c) l) (h2 : AtnsM anyB w (.slice a' l.length c') l) (hl : l.length ≤ 1000) :
 Calls Tryz.prog 28 #[.slice a l.length c, .slice a' l.length c'] w fun e w' => e = .returned (.bool true) ∧ Below w.heap.size w w' := by
 have H1 := hid h1; have H2 := hid h2; clear h1 h2; go_enter Tryz.func28, Tryz.ntmps28; go_wp2
 go_loopw [5] (fun i wr => ∃ (k n : Nat), k ≤ l.length ∧ i = .int .i64 k ∧ wr = w.drewN n) (fun i _ => l.length - (intOf i).toNat)
 case atStart => exact ⟨0, 0, Nat.zero_le _, rfl, rfl⟩
 case round =>
  obtain ⟨k, n, hk, rfl, rfl⟩ := hrel
  by_cases hlt : k < l.length
  · have i1 : (k : Int) < (l.length : Int) := by omega
    have i3 : (0 : Int) ≤ (k : Int) := by omega
    obtain ⟨t, ht⟩ : ∃ t, l[k]? = some t := ⟨_, List.getElem?_eq_getElem hlt⟩; obtain ⟨b, o, rfl, d0, d1, d2⟩ := jfw H1.out ht; obtain ⟨b', o', rfl, e0, e1, e2⟩ := jfw H2.out ht; clear ht; go_wp2
    go_quiet (fail)
    go_wp2
    go_roundw
    case rel => exact ⟨k + 1, n + nq, by omega, by go_num, by first | rfl | rw [World.drewN_drewN]⟩
    case measure => simp [intOf]; omega
  · have i1 : ¬ (k : Int) < (l.length : Int) := by omega
    go_wp2; go_ret; exact ⟨rfl, jck (Below.refl _ _) n⟩
theorem jcy (a a' : Option Addr) (k k' : Nat) (c : Crs) (w : World) (h1 : AtnsM anyB w (.slice a c.acts.length k) c.acts) (h2 : AtnsM anyB w (.slice a' c.acts.length k') c.acts) (hl : c.acts.length ≤ 6) :
 Calls Tryz.prog 10 #[.agg #[.slice a c.acts.length k, .int .i64 c.flags, .bool c.asked, .int .i64 c.fault], .agg #[.slice a' c.acts.length k', .int .i64 c.flags, .bool c.asked, .int .i64 c.fault]] w fun e w' => e = .returned (.bool true) ∧ Below w.heap.size w w' := by
 obtain ⟨W0, hW0⟩ : ∃ W0, W0 = (w.alloc (.cells #[.slice a c.acts.length k, .int .i64 c.flags, .bool c.asked, .int .i64 c.fault] 42)).alloc (.cells #[.slice a' c.acts.length k', .int .i64 c.flags, .bool c.asked, .int .i64 c.fault] 42) := ⟨_, rfl⟩; have HWE := hid hW0; have HB0 := hid (show Below w.heap.size w W0 by rw [hW0]; exact (nb0 _ _).alloc (by simp) _); have HC := hid (jer a a' k k' c.acts W0 (AtnsM.next h1 HB0.out) (AtnsM.next h2 HB0.out) (by omega)); clear hW0 h1 h2; go_enter Tryz.func10, Tryz.ntmps10; go_wp2_with fail; rw [← HWE.out]; refine HC.out.mono ?_; rintro e w1 ⟨rfl, hb1⟩; have HB1 := hid (HB0.out.trans (hb1.mono HB0.out.size)); go_wp2; go_ret; exact ⟨rfl, HB1.out⟩
def valC (n i : Nat) (c : UInt8) : UInt8 := if c = 13 ∨ c = 10 ∨ ((c = 32 ∨ c = 9) ∧ (i = 0 ∨ i + 1 = n ∨ i = 39)) then 121 else c
def valK (l : List UInt8) : Nat → List UInt8
 | 0 => []
 | k + 1 => valK l k ++ [valC l.length k (l[k]?.getD 0)]
def valL (l : List UInt8) : List UInt8 := valK l (min l.length 40)
theorem jf6 (l : List UInt8) (k : Nat) : (valK l k).length = k := by
 induction k with
 | zero => rfl
 | succ k ih => simp [valK, ih]
theorem jll (l : List UInt8) : (valL l).length ≤ 40 := by unfold valL; rw [jf6]; omega
theorem jjU (c : UInt8) (n : Nat) (hn : n < 256) : ((c.toNat : Int) == (n : Int)) = decide (c = UInt8.ofNat n) := by
 rw [Bool.eq_iff_iff, beq_iff_eq, decide_eq_true_iff]
 constructor
 · intro h; exact UInt8.toNat_inj.1 (by rw [UInt8.toNat_ofNat_of_lt' (by simpa using hn)]; omega)
 · rintro rfl; rw [UInt8.toNat_ofNat_of_lt' (by simpa using hn)]
theorem jhn (c : UInt8) (n k : Nat) :
 (((c.toNat : Int) == 13) = true ∧ Hid (valC n k c = 121)) ∨
 (((c.toNat : Int) == 13) = false ∧ ((c.toNat : Int) == 10) = true ∧ Hid (valC n k c = 121)) ∨
 (((c.toNat : Int) == 13) = false ∧ ((c.toNat : Int) == 10) = false ∧ ((c.toNat : Int) == 32) = false ∧ ((c.toNat : Int) == 9) = false ∧ Hid (valC n k c = c)) ∨
 (((c.toNat : Int) == 13) = false ∧ ((c.toNat : Int) == 10) = false ∧ (((c.toNat : Int) == 32) = true ∨ (((c.toNat : Int) == 32) = false ∧ ((c.toNat : Int) == 9) = true)) ∧
   ((((k : Int) == 0) = true ∧ Hid (valC n k c = 121)) ∨ (((k : Int) == 0) = false ∧ ((k : Int) == (n : Int) - 1) = true ∧ Hid (valC n k c = 121)) ∨
    (((k : Int) == 0) = false ∧ ((k : Int) == (n : Int) - 1) = false ∧ ((k : Int) == 39) = true ∧ Hid (valC n k c = 121)) ∨
    (((k : Int) == 0) = false ∧ ((k : Int) == (n : Int) - 1) = false ∧ ((k : Int) == 39) = false ∧ Hid (valC n k c = c)))) := by
 have b13 := jjU c 13 (by omega); have b10 := jjU c 10 (by omega); have b32 := jjU c 32 (by omega); have b9 := jjU c 9 (by omega); simp only [Int.cast_ofNat_Int] at b13 b10 b32 b9; rw [b13, b10, b32, b9]; have e0 : ((k : Int) == 0) = decide (k = 0) := by rw [Bool.eq_iff_iff]; simp
 have e1 : ((k : Int) == (n : Int) - 1) = decide (k + 1 = n) := by rw [Bool.eq_iff_iff]; simp; omega
 have e2 : ((k : Int) == 39) = decide (k = 39) := by rw [Bool.eq_iff_iff]; simp; omega
 rw [e0, e1, e2]; unfold Hid valC; have f13 : (UInt8.ofNat 13) = 13 := rfl; have f10 : (UInt8.ofNat 10) = 10 := rfl; have f32 : (UInt8.ofNat 32) = 32 := rfl; have f9 : (UInt8.ofNat 9) = 9 := rfl; rw [f13, f10, f32, f9]
 by_cases g1 : c = 13
 · left; simp [g1]
 · by_cases g2 : c = 10
   · right; left; simp [g2]
   · by_cases g3 : c = 32
     · right; right; right
       by_cases g5 : k = 0
       · simp [g3, g5]
       · by_cases g6 : k + 1 = n
         · simp [g3, g5, g6]
         · by_cases g7 : k = 39
           · simp [g3, g7]; omega
           · simp [g3, g5, g6, g7]
     · by_cases g4 : c = 9
       · right; right; right
         by_cases g5 : k = 0
         · simp [g4, g5]
         · by_cases g6 : k + 1 = n
           · simp [g4, g5, g6]
           · by_cases g7 : k = 39
             · simp [g4, g7]; omega
             · simp [g4, g5, g6, g7]
       · right; right; left; simp [g1, g2, g3, g4]
theorem jf7 (s : ByteArray) (k : Nat) (hk : k < s.size) (x : Int) (hx : ((valC s.size k s[k]).toNat : Int) = x) : vz (valK s.data.toList (k + 1)) = vz (valK s.data.toList k) ++ [.int .u8 x] := by
 have e : valK s.data.toList (k + 1) = valK s.data.toList k ++ [valC s.size k s[k]] := by
  show _ ++ [valC _ k (s.data.toList[k]?.getD 0)] = _
  rw [qN s k hk, size_list]; rfl
 rw [e]; exact jbN _ _ _ hx
theorem jjF (s : ByteArray) (w : World) (hs : s.size ≤ maxLen) :
 Calls Tryz.prog 33 #[.string s] w fun e w' => e = .returned (.string (S (valL s.data.toList))) ∧ Below w.heap.size w w' := by
 unfold maxLen at hs; obtain ⟨i0, hi, hz0, hz1, hz2⟩ := info_parts jly; go_enter Tryz.func33, Tryz.ntmps33; go_wp2
 go_loopw [3, 4] (fun v i wr => ∃ k : Nat, k ≤ s.size ∧ k ≤ 40 ∧ i = .int .i64 k ∧ wr.ownsRow w.heap.size 5 1 v k (vz (valK s.data.toList k)) ∧ Below w.heap.size w wr) (fun _ i _ => 40 - (intOf i).toNat)
 case atStart => exact ⟨0, Nat.zero_le _, Nat.zero_le _, rfl, World.ownsRow_nil _ _ _ _, Below.refl _ _⟩
 case round =>
  obtain ⟨k, hk, hk8, rfl, hown, hB⟩ := hrel
  by_cases hlt : k < s.size ∧ k < 40
  · obtain ⟨hl1, hl2⟩ := hlt; have hcs := jhn s[k] s.size k
    rcases hcs with ⟨h1, HV⟩ | ⟨h1, h2, HV⟩ | ⟨h1, h2, h3, h4, HV⟩ | ⟨h1, h2, h3 | ⟨h3, h3'⟩, ⟨h4, HV⟩ | ⟨h4, h5, HV⟩ | ⟨h4, h5, h6, HV⟩ | ⟨h4, h5, h6, HV⟩⟩
    all_goals
        first
         | (have HS : Hid _ := jf7 s k hl1 121 (by rw [HV.out]; rfl)
            go_wp2_with (at_builtin; refine wpList_append_own _ rfl _ _ 95 rfl w.heap.size 5 i0 (.int .u8 0) 1 1 Tryz.underlying95 hi hz0 hz1 hz2 rfl (by decide) _ _ _ rfl (hown.alloc _) ⟨wr.heap.size, 0, none⟩ 1 1 [.int .u8 121] rfl rfl (zo _ _ _) ?c2 ?c3 ?c4 ?c5 ?_)
            case c2 => intro u hu; simp at hu; subst hu; rfl
            case c3 => unfold maxLen; omega
            case c4 => omega
            case c5 => have := hB.size; simp; omega
            intro v' w2 hown' hgrow _; have hsz := hB.size; have hB2 : Below w.heap.size w w2 := (hB.alloc hsz _).grown hgrow (by simp; omega) (fun j hj => (hown.lt j hj).1); rw [← HS.out] at hown'; clear hgrow hown; go_wp2
            go_roundw
            case rel => first | exact ⟨k + 1, by omega, by omega, by go_num, hown', hB2⟩ | ((repeat apply Exists.intro); exact ⟨⟨k + 1, by omega, by omega, by go_num, hown', hB2⟩, rfl⟩) | (refine ⟨trivial, ?_⟩; (repeat apply Exists.intro); exact ⟨⟨k + 1, by omega, by omega, by go_num, hown', hB2⟩, rfl⟩)
            case measure => simp [intOf]; omega)
         | (have HS : Hid _ := jf7 s k hl1 (s[k].toNat : Int) (by rw [HV.out])
            go_wp2_with (at_builtin; refine wpList_append_own _ rfl _ _ 95 rfl w.heap.size 5 i0 (.int .u8 0) 1 1 Tryz.underlying95 hi hz0 hz1 hz2 rfl (by decide) _ _ _ rfl (hown.alloc _) ⟨wr.heap.size, 0, none⟩ 1 1 [.int .u8 (s[k].toNat : Int)] rfl rfl (zo _ _ _) ?c2 ?c3 ?c4 ?c5 ?_)
            case c2 => intro u hu; simp at hu; subst hu; rfl
            case c3 => unfold maxLen; omega
            case c4 => omega
            case c5 => have := hB.size; simp; omega
            intro v' w2 hown' hgrow _; have hsz := hB.size; have hB2 : Below w.heap.size w w2 := (hB.alloc hsz _).grown hgrow (by simp; omega) (fun j hj => (hown.lt j hj).1); rw [← HS.out] at hown'; clear hgrow hown; go_wp2
            go_roundw
            case rel => first | exact ⟨k + 1, by omega, by omega, by go_num, hown', hB2⟩ | ((repeat apply Exists.intro); exact ⟨⟨k + 1, by omega, by omega, by go_num, hown', hB2⟩, rfl⟩) | (refine ⟨trivial, ?_⟩; (repeat apply Exists.intro); exact ⟨⟨k + 1, by omega, by omega, by go_num, hown', hB2⟩, rfl⟩)
            case measure => simp [intOf]; omega)
  · have HT : Hid (valL s.data.toList = valK s.data.toList k) := by
        unfold Hid valL; rw [size_list]; congr 1; omega
    have hrun := jbM hown; obtain ⟨a0, c0, rfl⟩ := jds hown
    by_cases h8 : k < s.size
    · have hk8' : ¬ k < 40 := fun h => hlt ⟨h8, h⟩
      go_wp2; go_ret; exact ⟨by rw [HT.out]; rfl, hB⟩
    · go_wp2; go_ret; exact ⟨by rw [HT.out]; rfl, hB⟩
theorem jlj {l : List UInt8} {k : Nat} {x : UInt8} (h : x ∈ valK l k) : ∃ i c, i < k ∧ x = valC l.length i c := by
 induction k with
 | zero => cases h
 | succ k ih =>
   rcases List.mem_append.1 h with h | h
   · obtain ⟨i, c, hi, e⟩ := ih h; exact ⟨i, c, by omega, e⟩
   · simp only [List.mem_singleton] at h; exact ⟨k, _, by omega, h⟩
theorem jho (n i : Nat) (c : UInt8) : valC n i c ≠ 13 := by
 unfold valC; split
 · decide
 · rename_i h; intro e; exact h (.inl e)
theorem jlk (l : List UInt8) : jJ (valL l) = false := by
 refine jdZ fun h => ?_
 obtain ⟨i, c, _, e⟩ := jlj h; exact jho _ _ _ e.symm
def mkF (f : F) : F := (zW f.1, valL f.2)
def msgK (fs : List F) (k : Nat) : List F := (fs.take k).map mkF
theorem jfJ {fs : List F} {k : Nat} (hk : k ≤ fs.length) : (msgK fs k).length = k := by simp [msgK]; omega
theorem jiI {fs : List F} {k : Nat} {f : F} (h : fs[k]? = some f) : msgK fs (k + 1) = msgK fs k ++ [mkF f] := by
 unfold msgK; rw [qk h, List.map_append]; rfl
theorem jlp {B : Nat} {w0 w1 w2 w3 : World} {o : Obj} {row : Option Nat} (h1 : Below w0.heap.size w0 w1) (h2 : Below w1.heap.size w1 w2) (hg : (w2.alloc o).grownBy w3 row) (hB : B ≤ w0.heap.size) (hr : ∀ k, row = some k → B ≤ k) : Below B w0 w3 := by
 have s1 := h1.size; have s2 := h2.size; exact (((h1.mono hB).trans (h2.mono (by omega))).alloc (by omega) o).grown hg (by simp; omega) hr
theorem jlq {w0 w1 w2 : World} {o : Obj} {base : Nat} {e : TypeId} {size : Nat} {v : Value} {n : Nat} {xs : List Value} (h : w0.ownsRow base e size v n xs) (h1 : Below w0.heap.size w0 w1) (h2 : Below w1.heap.size w1 w2) : (w2.alloc o).ownsRow base e size v n xs :=
 World.ownsRow.alloc (jb7 (jb7 h h1) h2) o
theorem jlr {w0 w1 w2 : World} {o : Obj} {B : Nat} (hB : B ≤ w0.heap.size) (h1 : Below w0.heap.size w0 w1) (h2 : Below w1.heap.size w1 w2) : B ≤ (w2.alloc o).heap.size := by
 have s1 := h1.size; have s2 := h2.size
 simp; omega
theorem jbl (a : Option Addr) (c : Nat) (fs : List F) (body : ByteArray) (w : World) (hF : FieldsAt w a fs) (hl : fs.length ≤ maxLen) (hb : ∀ f ∈ fs, f.1.length ≤ maxLen ∧ f.2.length ≤ maxLen) (hbody : body.size ≤ maxLen) :
 Calls Tryz.prog 15 #[.slice a fs.length c, .string body] w fun e w' => ∃ a' c', e = .returned (.agg #[.slice a' (msgK fs 6).length c', .string (cutB body 200)]) ∧ FieldsAt w' a' (msgK fs 6) ∧ OwnF w' (w.heap.size + 2) (.slice a' (msgK fs 6).length c') (msgK fs 6) ∧ Below w.heap.size w w' := by
 obtain ⟨i0, hi, hz0, hz1, hz2⟩ := info_parts jd1; have hl' := hl; unfold maxLen at hl'; have HL : Hid _ := hl; have HB : Hid _ := hb; have HY : Hid _ := hbody; clear hl hb hbody; go_enter Tryz.func15, Tryz.ntmps15; go_wp2
 go_loopw [6] (fun i wr => ∃ (k : Nat) (a0 : Option Addr) (c0 : Nat), k ≤ fs.length ∧ k ≤ 6 ∧ i = .int .i64 k ∧ wr.cell? ⟨w.heap.size + 1, 0, none⟩ = some (.slice a0 k c0) ∧ OwnF wr (w.heap.size + 2) (.slice a0 k c0) (msgK fs k) ∧
  wr.cell? ⟨w.heap.size + 1, 1, none⟩ = some (.string ⟨#[]⟩) ∧ wr.cell? ⟨w.heap.size, 0, none⟩ = some (.slice none 0 0) ∧ wr.cell? ⟨w.heap.size, 1, none⟩ = some (.string ⟨#[]⟩) ∧
  (∀ o, wr.frozen? ⟨w.heap.size + 1, o, none⟩ = false) ∧ (∀ o, wr.frozen? ⟨w.heap.size, o, none⟩ = false) ∧ Below w.heap.size w wr ∧ w.heap.size + 2 ≤ wr.heap.size) (fun i _ => 6 - (intOf i).toNat)
 case atStart => exact ⟨0, none, 0, Nat.zero_le _, Nat.zero_le _, rfl, by simp, OwnF.nil _ _, by simp, by simp, by simp, by intro o; simp, by intro o; simp, (nb0 _ _).alloc (by simp) _, by simp⟩
 case round =>
  obtain ⟨k, a0, c0, hk, hk6, rfl, m0, hO, m1, r0, r1, z1, z2, hBw, hsz⟩ := hrel
  by_cases hlt : k < fs.length ∧ k < 6
  · obtain ⟨hl1, hl2⟩ := hlt; obtain ⟨f, hf⟩ : ∃ f, fs[k]? = some f := ⟨_, List.getElem?_eq_getElem hl1⟩; obtain ⟨b, off, rfl, hbl, h1, h2⟩ := (hF.below hBw) k f hf; have hbl0 : b < w.heap.size := by
        obtain ⟨b', off', e, hb', _⟩ := hF k f hf; simp only [Option.some.injEq, Addr.mk.injEq, and_true] at e; omega
    have hfb := HB.out f (List.mem_of_getElem? hf); have HS1 : Hid ((S f.1).size ≤ maxLen) := by unfold Hid; rw [jy]; exact hfb.1
    have HS2 : Hid ((S f.2).size ≤ maxLen) := by unfold Hid; rw [jy]; exact hfb.2
    have HW : Hid (zW (S f.1).data.toList = zW f.1) := by unfold Hid; rw [jv]
    have HV : Hid (valL (S f.2).data.toList = valL f.2) := by unfold Hid; rw [jv]
    have HM : Hid _ := jiI hf; have HK : Hid ((msgK fs k).length = k) := jfJ hk; have hO' : World.ownsRow (wr.drew) (w.heap.size + 2) 69 2 (.slice a0 k c0) k (zq (msgK fs k)) := by
        have := hO; unfold OwnF at this; rw [HK.out] at this; exact this
    have hrow : ∀ j, (Value.slice a0 k c0).ownBlock = some j → w.heap.size + 2 ≤ j := fun j hj => (World.ownsRow.lt hO' j hj).1
    have i1 : (0 : Int) ≤ (k : Int) := by omega
    have i2 : (k : Int) < (fs.length : Int) := by omega
    have hszd : w.heap.size + 2 ≤ wr.drew.heap.size := hsz; clear hf hfb hO; go_wp2_with fail; have hne : b ≠ w.heap.size + 1 := by omega
    have hne' : w.heap.size + 1 ≠ b := by omega
    go_region_law
        (first
          | (refine step_append_lies _ (by rfl) _ _ _ (by rfl) (w.heap.size + 2) 69 i0 _ 2 32 Tryz.underlying63 hi hz0 hz1 hz2 rfl (by omega) (.slice a0 k c0) k (zq (msgK fs k)) (by rfl) (by first | exact jlq hO' hbW hbV | exact jlq hO' hbV hbW)
              ⟨_, 0, none⟩ 1 1 [.string (S (zW f.1)), .string (S (valL f.2))] (by rfl) (by rfl) (vh _ _ _ _) (by simp [Value.oneCell']) (by omega) (by unfold maxLen; omega) (by omega) (by first | exact jlr hszd hbW hbV | exact jlr hszd hbV hbW) _ rfl ?_
             intro g cap w3 hown3 hgrow hat hlt3; obtain ⟨hB3⟩ : Nonempty (PLift (Below (w.heap.size + 2) wr.drew w3)) := by first | exact ⟨⟨jlp hbW hbV hgrow hszd hrow⟩⟩ | exact ⟨⟨jlp hbV hbW hgrow hszd hrow⟩⟩
             have z3 : w3.frozen? ⟨w.heap.size + 1, 0, none⟩ = false := (hB3.down.frozen (by simp)).trans (z1 0); have q3 : w3.cell? ⟨w.heap.size + 1, 0, none⟩ = some (.slice a0 k c0) := (hB3.down.cell (by simp)).trans m0; clear hgrow)
          | (go_simp
             go_at_call 30
             refine (jaj _ _ HS1.out).mono ?_; rintro e wW ⟨rfl, hbW⟩; rw [HW.out]; have mW : wW.cell? ⟨w.heap.size + 1, 0, none⟩ = some (.slice a0 k c0) := by first | exact jK mV hbW | exact jK (w := wr.drew) m0 hbW
             have szW : w.heap.size + 1 < wW.heap.size := World.block_lt_of_cell? wW _ mW; have lW : wW.cell? ⟨b, off + k * 2 + 1, none⟩ = some (.string (S f.2)) := by first | exact jK lV' hbW | exact jK (w := wr.drew) h2 hbW)
          | (go_simp
             go_at_call 33
             refine (jjF _ _ HS2.out).mono ?_; rintro e wV ⟨rfl, hbV⟩; rw [HV.out]; have mV : wV.cell? ⟨w.heap.size + 1, 0, none⟩ = some (.slice a0 k c0) := by first | exact jK mW hbV | exact jK (w := wr.drew) m0 hbV
             have szV : w.heap.size + 1 < wV.heap.size := World.block_lt_of_cell? wV _ mV; have lV' : wV.cell? ⟨b, off + k * 2 + 1, none⟩ = some (.string (S f.2)) := by first | exact jK lW hbV | exact jK (w := wr.drew) h2 hbV
             have lV : wV.cell? ⟨b, off + k * 2, none⟩ = some (.string (S f.1)) := by first | exact jK (w := wr.drew) h1 hbV | exact jK (jK (w := wr.drew) h1 hbW) hbV))
    all_goals
        have hB4 : Below (w.heap.size + 2) wr w3 := (Below.refl (w.heap.size + 2) wr).drew.trans hB3.down; have y1 : w3.cell? ⟨w.heap.size + 1, 1, none⟩ = some (.string ⟨#[]⟩) := (hB4.cell (by simp)).trans m1; have y2 : w3.cell? ⟨w.heap.size, 0, none⟩ = some (.slice none 0 0) := (hB4.cell (by simp)).trans r0; have y3 : w3.cell? ⟨w.heap.size, 1, none⟩ = some (.string ⟨#[]⟩) := (hB4.cell (by simp)).trans r1; have hsz3 : w.heap.size + 2 ≤ w3.heap.size := Nat.le_trans hsz hB4.size; have hO3 : OwnF (w3.setCell ⟨w.heap.size + 1, 0, none⟩ (.slice (some ⟨g, 0, none⟩) (k + 1) cap)) (w.heap.size + 2) (.slice (some ⟨g, 0, none⟩) (k + 1) cap) (msgK fs (k + 1)) := by
         refine OwnF.far ?_ (by simp) _; unfold OwnF; rw [HM.out, jaB, jcE, List.length_append, HK.out]; exact hown3
        have HO : Hid _ := hO3; have HC0 : Hid ((w3.setCell ⟨w.heap.size + 1, 0, none⟩ (.slice (some ⟨g, 0, none⟩) (k + 1) cap)).cell? ⟨w.heap.size + 1, 0, none⟩ = some (.slice (some ⟨g, 0, none⟩) (k + 1) cap)) := World.cell?_setCell_same' w3 _ _ (by rw [q3]; rfl); have t1 : (w3.setCell ⟨w.heap.size + 1, 0, none⟩ (.slice (some ⟨g, 0, none⟩) (k + 1) cap)).cell? ⟨w.heap.size + 1, 1, none⟩ = some (.string ⟨#[]⟩) := (World.cell?_setCell_other w3 _ _ _ (by simp)).trans y1; have t2 : (w3.setCell ⟨w.heap.size + 1, 0, none⟩ (.slice (some ⟨g, 0, none⟩) (k + 1) cap)).cell? ⟨w.heap.size, 0, none⟩ = some (.slice none 0 0) := (qK (by simp)).trans y2; have t3 : (w3.setCell ⟨w.heap.size + 1, 0, none⟩ (.slice (some ⟨g, 0, none⟩) (k + 1) cap)).cell? ⟨w.heap.size, 1, none⟩ = some (.string ⟨#[]⟩) := (qK (by simp)).trans y3; have t4 : ∀ o, (w3.setCell ⟨w.heap.size + 1, 0, none⟩ (.slice (some ⟨g, 0, none⟩) (k + 1) cap)).frozen? ⟨w.heap.size + 1, o, none⟩ = false := fun o => by
         have := (hB4.frozen (p := ⟨w.heap.size + 1, o, none⟩) (by simp)).trans (z1 o); simpa using this
        have t5 : ∀ o, (w3.setCell ⟨w.heap.size + 1, 0, none⟩ (.slice (some ⟨g, 0, none⟩) (k + 1) cap)).frozen? ⟨w.heap.size, o, none⟩ = false := fun o => by
         have := (hB4.frozen (p := ⟨w.heap.size, o, none⟩) (by simp)).trans (z2 o); simpa using this
        have t6 : Below w.heap.size w (w3.setCell ⟨w.heap.size + 1, 0, none⟩ (.slice (some ⟨g, 0, none⟩) (k + 1) cap)) := (hBw.trans (hB4.mono (by omega))).setCell (by simp) _; have HH : Hid _ := And.intro t1 (And.intro t2 (And.intro t3 (And.intro t4 (And.intro t5 t6)))); clear hO3 hown3 t1 t2 t3 t4 t5 t6 z1 z2; go_wp2
        go_roundw
        case rel => exact ⟨k + 1, some ⟨g, 0, none⟩, cap, by omega, by omega, by go_num, HC0.out, HO.out, HH.out.1, HH.out.2.1, HH.out.2.2.1, HH.out.2.2.2.1, HH.out.2.2.2.2.1, HH.out.2.2.2.2.2, by simpa using hsz3⟩
        case measure => simp [intOf]; omega
  · have HT : Hid (msgK fs k = msgK fs 6) := by
        unfold Hid msgK
        by_cases h6 : k = 6
        · rw [h6]
        · rw [List.take_of_length_le (by omega), List.take_of_length_le (by omega)]
    have HK : Hid ((msgK fs k).length = k) := jfJ hk; have hO2 : OwnF wr (w.heap.size + 2) (.slice a0 (msgK fs k).length c0) (msgK fs k) := by rw [HK.out]; exact hO
    by_cases h8 : k < fs.length
    case' pos => have hk8' : ¬ k < 6 := fun h => hlt ⟨h8, h⟩
    all_goals
        clear hlt; go_wp2_with fail; refine (jeW body 200 _ HY.out (by omega)).mono ?_; rintro e u ⟨rfl, hu⟩; have hu' := hu.symm; subst hu'; have f1 := z1 1; have f2 := z2 0; have f3 := z2 1; have HR : Hid (OwnF (((wr.setCell ⟨w.heap.size + 1, 1, none⟩ (.string (cutB body 200))).setCell ⟨w.heap.size, 0, none⟩ (.slice a0 k c0)).setCell ⟨w.heap.size, 1, none⟩ (.string (cutB body 200))) (w.heap.size + 2) (.slice a0 (msgK fs k).length c0) (msgK fs k)) := ((hO2.far (by simp) _).far (by simp) _).far (by simp) _; clear hO hO2; go_wp2; refine bodyPost_ret (v := .agg #[.slice a0 k c0, .string (cutB body 200)]) (by simp [results, Tryz.results15, go_sem, r0, r1]) rfl ⟨a0, c0, ?_, ?_, ?_, ((hBw.setCell (by simp) _).setCell (by simp) _).setCell (by simp) _⟩
        · rw [← HT.out, HK.out]
        · rw [← HT.out]; exact OwnF.fields HR.out
        · rw [← HT.out]; exact HR.out
theorem jb3 (s : ByteArray) (w : World) (hs : s.size < 4294967281) (hm : maxLenCell w) :
 Calls Tryz.prog 66 #[.string s] w fun e w' => e = .returned (.bool (qQ s.data.toList)) ∧ Below w.heap.size w w' := by
 cases hE : jJ s.data.toList with
 | true =>
   have HV : Hid (qQ s.data.toList = false) := by simp [Hid, qQ, hE]
   have HE : Hid (Lib.contains s.data.toList [13, 10] = true) := hE; clear hE; go_enter Tryz.func66, Tryz.ntmps66; go_wp2_with fail; refine (contains_any s ⟨#[13, 10]⟩ _ hs hm).mono ?_; rintro e u ⟨rfl, rfl⟩; rw [HE.out]; go_wp2; go_ret; exact ⟨ji HV.out.symm, Below.refl _ _⟩
 | false =>
   have HV : Hid (qQ s.data.toList = (vH s.data.toList == s.data.toList)) := by simp [Hid, qQ, hE]
   have HE : Hid (Lib.contains s.data.toList [13, 10] = false) := hE; clear hE; go_enter Tryz.func66, Tryz.ntmps66; go_wp2_with fail; refine (contains_any s ⟨#[13, 10]⟩ _ hs hm).mono ?_; rintro e u ⟨rfl, rfl⟩; rw [HE.out]; go_wp2_with fail; refine (trim_any s _ (by omega)).mono ?_; rintro e u2 ⟨rfl, hb⟩; go_wp2; go_ret; exact ⟨ji (by rw [HV.out]; simp only [Lib.toList_data, vH]), hb⟩
theorem jaV (a : Option Addr) (c : Nat) (fs : List F) (body : ByteArray) (w : World) (hF : FieldsAt w a fs) (hl : fs.length ≤ 1000000) (hbd : body.size + sumF fs ≤ 1000000000000) :
 Calls Tryz.prog 67 #[.agg #[.slice a fs.length c, .string body]] w fun e w' => e = .returned (.int .i64 ((2 + body.size + sumF fs : Nat) : Int)) ∧ Below w.heap.size w w' := by
 have hb0 : body.size ≤ 1000000000000 := by omega
 have HB : Hid _ := hbd; clear hbd; go_enter Tryz.func67, Tryz.ntmps67; go_wp2
 go_loopw [3, 13] (fun n i wr => ∃ k : Nat, k ≤ fs.length ∧ i = .int .i64 k ∧ n = .int .i64 ((2 + body.size + sumF (fs.take k) : Nat) : Int) ∧ Below w.heap.size w wr) (fun _ i _ => fs.length - (intOf i).toNat)
 case atStart => exact ⟨0, Nat.zero_le _, rfl, by simp [sumF], nb0 _ _⟩
 case round =>
  obtain ⟨k, hk, rfl, rfl, hB⟩ := hrel
  by_cases hlt : k < fs.length
  · obtain ⟨f, hf⟩ : ∃ f, fs[k]? = some f := ⟨_, List.getElem?_eq_getElem hlt⟩; obtain ⟨b, off, rfl, hb, h1, h2⟩ := (hF.below hB) k f hf; have HS : Hid _ := jjl hf; have h3 := jfm fs (k + 1); rw [HS.out] at h3; have h4 : (S f.1).size + (S f.2).size + 4 = jbu f := by simp [jy, jbu]
    have h5 : sumF (fs.take k) + ((S f.1).size + (S f.2).size + 4) ≤ 1000000000000 := by have := HB.out; omega
    have H4 : Hid _ := h4; clear h3 h4; go_wp2
    go_roundw
    case rel => exact ⟨k + 1, by omega, by go_num, by rw [HS.out, ← H4.out]; go_num, hB.alloc hB.size _⟩
    case measure => simp [intOf]; omega
  · have h5 : sumF (fs.take k) ≤ 1000000000000 := by have := HB.out; have := jfm fs k; omega
    have HT : Hid (fs.take k = fs) := List.take_of_length_le (by omega); go_wp2; go_ret; exact ⟨jk (by rw [HT.out]), hB⟩
def Mild (fs : List F) (body : ByteArray) : Prop := fs.length ≤ 2000000 ∧ body.size ≤ 2000000 ∧ ∀ f ∈ fs, f.1.length ≤ 2000000 ∧ f.2.length ≤ 2000000
theorem jmS {fs : List F} (h : ∀ f ∈ fs, f.1.length ≤ 2000000 ∧ f.2.length ≤ 2000000) : sumF fs ≤ fs.length * 4000004 := by
 induction fs with
 | nil => simp [sumF]
 | cons f fs ih =>
   have h1 := h f (by simp); have h2 := ih fun g hg => h g (by simp [hg])
   have e : sumF (f :: fs) = jbu f + sumF fs := by simp [sumF]
   rw [e]; simp only [jbu, List.length_cons]; omega
theorem jjP {fs : List F} {k : Nat} {f : F} (h : fs[k]? = some f) (ha : (fs.take k).all mayF = true) (hf : mayF f = true) : (fs.take (k + 1)).all mayF = true := by
 rw [qk h, List.all_append, ha]; simp [hf]
theorem jlo {fs : List F} {k : Nat} {f : F} (h : fs[k]? = some f) (hf : mayF f = false) : fs.all mayF = false := by
 have hm : f ∈ fs := List.mem_of_getElem? h; cases e : fs.all mayF with
 | false => rfl
 | true => rw [List.all_eq_true] at e; rw [e f hm] at hf; cases hf
theorem jgQ (a : Option Addr) (c : Nat) (fs : List F) (body : ByteArray) (w : World) (hF : FieldsAt w a fs) (hM : Mild fs body) (hm : maxLenCell w) :
 Calls Tryz.prog 34 #[.agg #[.slice a fs.length c, .string body]] w fun e w' => e = .returned (.int .i64 (qf fs body.data.toList)) ∧ Below w.heap.size w w' := by
 obtain ⟨hM1, hM2, hM3⟩ := hM
 by_cases h30 : 30 < fs.length
 · have HR : Hid (qf fs body.data.toList = 5) := by unfold Hid qf; rw [if_pos h30]
   go_enter Tryz.func34, Tryz.ntmps34; go_wp2; go_ret; exact ⟨jk HR.out.symm, nb0 _ _⟩
 · have HM3 : Hid _ := hM3; clear hM3; go_enter Tryz.func34, Tryz.ntmps34; go_wp2
   go_loopw [12] (fun i wr => ∃ k : Nat, k ≤ fs.length ∧ i = .int .i64 k ∧ Hid ((fs.take k).all mayF = true) ∧ Below w.heap.size w wr ∧ wr.cell? ⟨w.heap.size, 0, none⟩ = some (.slice a fs.length c) ∧ wr.cell? ⟨w.heap.size, 1, none⟩ = some (.string body) ∧ w.heap.size < wr.heap.size) (fun i _ => fs.length - (intOf i).toNat)
   case atStart => exact ⟨0, Nat.zero_le _, rfl, by simp [Hid], nb0 _ _, by simp, by simp, by simp⟩
   case round =>
    obtain ⟨k, hk, rfl, HA, hB, hc0, hc1, hsz⟩ := hrel; have hmr := maxLenCell_below hm hB
    by_cases hlt : k < fs.length
    · obtain ⟨f, hf⟩ : ∃ f, fs[k]? = some f := ⟨_, List.getElem?_eq_getElem hlt⟩; have hbd := HM3.out f (List.mem_of_getElem? hf); obtain ⟨b, off, rfl, hb, h1, h2⟩ := (hF.below hB) k f hf; have HN : Hid (zU (S f.1).data.toList = zU f.1) := by unfold Hid; rw [jv]
      have HV : Hid (qQ (S f.2).data.toList = qQ f.2) := by unfold Hid; rw [jv]
      have hs1 : (S f.1).size ≤ 2000000 := by rw [jy]; exact hbd.1
      have hs2 : (S f.2).size ≤ 2000000 := by rw [jy]; exact hbd.2
      have HF : Hid _ := hf; clear hf hbd; cases hn : zU f.1 with
      | false =>
        have HE : Hid (qf fs body.data.toList = 3) := by
            unfold Hid qf; rw [if_neg h30, if_pos (jlo HF.out (by simp [mayF, hn]))]
        have HX : Hid _ := hn; clear hn; go_wp2_with fail; refine (jad _ _ (by unfold maxLen; omega)).mono ?_; rintro e u ⟨rfl, rfl⟩; rw [HN.out, HX.out]; go_wp2; go_ret; exact ⟨jk HE.out.symm, hB.alloc hB.size _⟩
      | true =>
        have HX : Hid _ := hn; clear hn; cases hv : qQ f.2 with
        | false =>
          have HE : Hid (qf fs body.data.toList = 3) := by
           unfold Hid qf; rw [if_neg h30, if_pos (jlo HF.out (by simp [mayF, hv]))]
          have HY : Hid _ := hv; clear hv; go_wp2_with fail; refine (jad _ _ (by unfold maxLen; omega)).mono ?_; rintro e u ⟨rfl, rfl⟩; rw [HN.out, HX.out]; go_wp2_with fail; refine (jb3 _ _ (by omega) (maxLenCell_below hmr (nb0 _ _))).mono ?_; rintro e u ⟨rfl, hb2⟩; rw [HV.out, HY.out]; go_wp2; go_ret; exact ⟨jk HE.out.symm, jgm (hB.alloc hB.size _) hb2 (Nat.le_refl _)⟩
        | true =>
          have HA2 : Hid _ := jjP HF.out HA.out (by simp [mayF, HX.out, hv]); have HY : Hid _ := hv; clear hv; go_wp2_with fail; refine (jad _ _ (by unfold maxLen; omega)).mono ?_; rintro e u ⟨rfl, rfl⟩; rw [HN.out, HX.out]; go_wp2_with fail; refine (jb3 _ _ (by omega) (maxLenCell_below hmr (nb0 _ _))).mono ?_; rintro e u ⟨rfl, hb2⟩; rw [HV.out, HY.out]; go_wp2
          go_roundw
          case rel => exact ⟨k + 1, by omega, by go_num, HA2.out, jgm (hB.alloc hB.size _) hb2 (Nat.le_refl _), jK (qw hc0 _) hb2, jK (qw hc1 _) hb2, by have := hb2.size; simp at this; omega⟩
          case measure => simp [intOf]; omega
    · have HT : Hid (fs.take k = fs) := List.take_of_length_le (by omega); have hsum := jmS HM3.out
      by_cases hbig : 2000 < 2 + body.data.toList.length + sumF fs
      · have HE : Hid (qf fs body.data.toList = 1) := by
            have := HA.out; rw [HT.out] at this; unfold Hid qf; rw [if_neg h30, if_neg (by simp [this]), if_pos hbig]
        rw [size_list] at hbig; go_wp2_with fail; refine (jaV a c fs body _ (hF.below hB) (by omega) (by omega)).mono ?_; rintro e u ⟨rfl, hb2⟩; go_wp2; go_ret; exact ⟨jk HE.out.symm, jgm hB hb2 (Nat.le_refl _)⟩
      · have HE : Hid (qf fs body.data.toList = 0) := by
            have := HA.out; rw [HT.out] at this; unfold Hid qf; rw [if_neg h30, if_neg (by simp [this]), if_neg hbig]
        rw [size_list] at hbig; go_wp2_with fail; refine (jaV a c fs body _ (hF.below hB) (by omega) (by omega)).mono ?_; rintro e u ⟨rfl, hb2⟩; go_wp2; go_ret; exact ⟨jk HE.out.symm, jgm hB hb2 (Nat.le_refl _)⟩
open Go.Shelf
theorem jcp (b : Nat) (w : World) (h0 : w.cell? ⟨b, 0, none⟩ = some (.pointer (some ⟨b, 0, none⟩))) :
 Calls Tryz.prog 68 #[.pointer (some ⟨b, 0, none⟩)] w fun e w' => e = .returned (.tuple #[]) ∧ w' = w := by
 obtain ⟨j, hj, _⟩ := Option.map_eq_some_iff.1 Tryz.Builder_Extra_169.sizeBuilder; go_enter Tryz.func68, Tryz.ntmps68; go_wp2; rw [Lib.run_neq_ptr_same w _ Tryz.underlying94 hj]; go_wp2; go_end0; exact ⟨rfl, rfl⟩
theorem jbS (b : Nat) (w : World) (h0 : w.cell? ⟨b, 0, none⟩ = some (.pointer none)) (hsh : w.shape? b = some (97, 2)) (hfz : w.frozen? ⟨b, 0, none⟩ = false) :
 Calls Tryz.prog 68 #[.pointer (some ⟨b, 0, none⟩)] w fun e w' => e = .returned (.tuple #[]) ∧ w' = w.setCell ⟨b, 0, none⟩ (.pointer (some ⟨b, 0, none⟩)) := by
 obtain ⟨j, hj, hjs⟩ := Option.map_eq_some_iff.1 Tryz.Builder_Extra_169.sizeBuilder; go_enter Tryz.func68, Tryz.ntmps68; go_wp2; rw [Lib.run_to_unsafe w ⟨b, 0, none⟩ Tryz.underlying94 Tryz.underlying171 hj (by rw [hjs]; decide) hsh (Nat.zero_lt_succ 1)]; simp only [Result.andThen]; rw [Oper.upon_value]; go_wp2; rw [run_callFunc_extern Tryz.func103 (by kernel_rfl) (by kernel_rfl) (by kernel_rfl) (e := Extern.AbiNoEscape.same) (by kernel_rfl)]; rw [Lib.run_noEscape]; simp only [Result.andThen]; rw [Oper.upon_value]; go_wp2; rw [Lib.run_from_unsafe w ⟨b, 0, none⟩ Tryz.underlying171 Tryz.underlying94 hj hsh Tryz.Builder_Extra_169.liesBuilder]; simp only [Result.andThen]; rw [Oper.upon_value]; go_wp2; go_end0; exact ⟨rfl, rfl⟩
theorem jde (B b : Nat) (bs : List Value) (w : World) (h : Lib.IsBuilderF 97 5 B b bs w) :
 Calls Tryz.prog 68 #[.pointer (some ⟨b, 0, none⟩)] w fun e w' => e = .returned (.tuple #[]) ∧ (Lib.BuilderAtF 97 5 B b (.pointer (some ⟨b, 0, none⟩)) bs w' ∧ Below B w w' ∧ Lib.OthersKept 5 (some b) w w') := by
 rcases h with h | h
 · refine (jbS b w h.cell0 h.shape h.frozen0).mono ?_; rintro e w' ⟨rfl, rfl⟩; exact ⟨rfl, h.used _, (Below.refl B w).setCell (p := ⟨b, 0, none⟩) h.1 _, (Lib.OthersKept.refl _ _ w).setCell ⟨b, 0, none⟩ rfl _⟩
 · refine (jcp b w h.cell0).mono ?_; rintro e w' ⟨rfl, rfl⟩; exact ⟨rfl, h, Below.refl B _, Lib.OthersKept.refl _ _ _⟩
theorem vV (B b : Nat) (bs : List Value) (s : ByteArray) (w : World) (h : Lib.IsBuilderF 97 5 B b bs w) (hlen : bs.length + s.size ≤ 140737488355328) (hBw : B ≤ w.heap.size) :
 Calls Tryz.prog 35 #[.pointer (some ⟨b, 0, none⟩), .string s] w fun e w' => e = .returned (.tuple #[.int .i64 s.size, .nilIface]) ∧ (Lib.IsBuilderF 97 5 B b (bs ++ Lib.strCells s) w' ∧ Below B w w' ∧ Lib.OthersKept 5 (some b) w w') := by
 obtain ⟨i0, hi, hz0, hz1, hz2⟩ := info_parts Tryz.Builder_Extra_169.infoByte; go_enter Tryz.func35, Tryz.ntmps35; go_wp2_with fail; refine (jde B b bs _ h).mono ?_; rintro e w1 ⟨rfl, h1, hb1, hk1⟩; obtain ⟨hB, v, hbk, hown, hne⟩ := h1; have c0 : w1.cell? ⟨b, 0, none⟩ = some (.pointer (some ⟨b, 0, none⟩)) := by rw [Lib.cell_of_heap hbk]; rfl
 have c1 : w1.cell? ⟨b, 1, none⟩ = some v := by rw [Lib.cell_of_heap hbk]; rfl
 go_wp2_with (at_builtin; refine Lib.wpList_append_own_stringF _ rfl _ _ 95 9 rfl B 5 i0 Tryz.underlying95 Tryz.underlying9 hi hz0 hz1 hz2 _ _ _ rfl hown s rfl ?c3 ?c4 ?c5 ?_)
 case c3 => unfold maxLen; omega
 case c4 => omega
 case c5 => have := hb1.size; omega
 intro v' w2 hown' hgrow _; have hlt : b < w1.heap.size := by
  rcases Nat.lt_or_ge b w1.heap.size with h' | h'
  · exact h'
  · simp [Array.getElem?_eq_none h'] at hbk
 have hb2 : w2.heap[b]? = some (.cells #[.pointer (some ⟨b, 0, none⟩), v] 97 (0, 0)) := by
  rw [hgrow.block b hlt (fun e => hne e.symm)]; exact hbk
 have d0 : w2.cell? ⟨b, 0, none⟩ = some (.pointer (some ⟨b, 0, none⟩)) := by rw [Lib.cell_of_heap hb2]; rfl
 have d1 : w2.cell? ⟨b, 1, none⟩ = some v := by rw [Lib.cell_of_heap hb2]; rfl
 have f1 : w2.frozen? ⟨b, 1, none⟩ = false := Lib.frozen_of_heap hb2 1; obtain ⟨ao, n', cap, rfl⟩ : ∃ ao n' cap, v' = .slice ao n' cap := by
  rcases hown'.2 with ⟨hv, _⟩ | ⟨g, cap, cur, fz, hv, _⟩
  · exact ⟨_, _, _, hv⟩
  · exact ⟨_, _, _, hv⟩
 go_wp2; go_ret2; refine ⟨rfl, .inr ?_, ?_, (hk1.grown hgrow (Lib.ownsRowF_kind hown)).setCell ⟨b, 1, none⟩ rfl _⟩
 · exact Lib.BuilderAtF.put (T := 97) (e := 5) hB hb2 (bs' := bs ++ Lib.strCells s) (by simpa [Lib.strCells_length] using hown') Tryz.Builder_Extra_169.neB5
 · exact (hb1.grown hgrow (by have := hb1.size; omega) (fun k hk => (hown.lt k hk).1)).setCell (p := ⟨b, 1, none⟩) hB _
theorem jfv (a b : ByteArray) : (a ++ b).data.toList = a.data.toList ++ b.data.toList := by
 simp [ByteArray.data_append]
theorem vY (f : F) : ((S f.1 ++ ⟨#[58, 32]⟩ ++ S f.2 ++ ⟨#[13, 10]⟩ : ByteArray)).data.toList = jeB f := by
 simp only [jfv, jv, jeB]
theorem jhY {fs : List F} {body : List UInt8} (h : qf fs body = 0) : fs.length ≤ 30 ∧ (∀ f ∈ fs, mayF f = true) ∧ 2 + body.length + sumF fs ≤ 2000 := by
 unfold qf at h
 by_cases h1 : 30 < fs.length
 · rw [if_pos h1] at h; cases h
 · rw [if_neg h1] at h
   by_cases h2 : fs.all mayF = false
   · rw [if_pos h2] at h; cases h
   · rw [if_neg h2] at h
     by_cases h3 : 2000 < 2 + body.length + sumF fs
     · rw [if_pos h3] at h; cases h
     · exact ⟨by omega, by simpa using h2, by omega⟩
theorem jmP (a : Option Addr) (c : Nat) (fs : List F) (body : ByteArray) (w : World) (hF : FieldsAt w a fs) (hM : Mild fs body) (hm : maxLenCell w) (hf : qf fs body.data.toList = 0) :
 Calls Tryz.prog 17 #[.agg #[.slice a fs.length c, .string body]] w fun e w' => e = .returned (.tuple #[.string (S (jam fs body.data.toList)), .int .i64 0]) ∧ Below w.heap.size w w' := by
 have hB0 : ∀ o, Below w.heap.size w (w.alloc o) := fun o => (Below.refl _ _).alloc (Nat.le_refl _) o
 have HX : Hid _ := jhY hf; have hl := HX.out.1; have HF : Hid _ := hf; clear hf; go_enter Tryz.func17, Tryz.ntmps17; go_wp2_with fail; refine (jgQ a c fs body _ (hF.below (hB0 _)) hM (maxLenCell_below hm (hB0 _))).mono ?_; rintro e w1 ⟨rfl, hb1⟩; have p0 : w1.cell? ⟨w.heap.size, 0, none⟩ = some (.slice a fs.length c) := jK (by simp) hb1; have p1 : w1.cell? ⟨w.heap.size, 1, none⟩ = some (.string body) := jK (by simp) hb1; have hB1 := jgm (hB0 _) hb1 (Nat.le_refl _); have hF1 := hF.below hB1; have hz : w.heap.size < w1.heap.size := by have := hb1.size; simp at this; omega
 rw [HF.out]; go_wp2
 go_loopw [16] (fun i wr => ∃ k : Nat, k ≤ fs.length ∧ i = .int .i64 k ∧ Lib.IsBuilderF 97 5 w1.heap.size w1.heap.size (Lib.byteCells (qW (fs.take k))) wr ∧ Below w1.heap.size w1 wr) (fun i _ => fs.length - (intOf i).toNat)
 case atStart => exact ⟨0, Nat.zero_le _, rfl, by simpa [qW, Lib.byteCells] using Lib.IsBuilderF.of (Lib.fresh_isBuilder 97 5 w1), nb0 _ _⟩
 case round =>
  obtain ⟨k, hk, rfl, hI, hB⟩ := hrel; have hle : (qW (fs.take k)).length ≤ 2000 := by
   rw [jaJ]; have := jfm fs k; have := HX.out.2.2; omega
  by_cases hlt : k < fs.length
  · obtain ⟨f, hf⟩ : ∃ f, fs[k]? = some f := ⟨_, List.getElem?_eq_getElem hlt⟩; obtain ⟨b, off, rfl, hb, h1, h2⟩ := (hF1.below hB) k f hf; have hfb := hM.2.2 f (List.mem_of_getElem? hf); have HL : Hid (qW (fs.take (k + 1)) = qW (fs.take k) ++ jeB f) := by unfold Hid; rw [qk hf, je9]
    have HZ : Hid ((S f.1 ++ ⟨#[58, 32]⟩ ++ S f.2 ++ ⟨#[13, 10]⟩ : ByteArray).size ≤ 5000000) := by
        unfold Hid; rw [← size_list, vY, jbj]; unfold jbu; omega
    have hs1 : (S f.1).size ≤ 2000000 := by rw [jy]; exact hfb.1
    have hs2 : (S f.2).size ≤ 2000000 := by rw [jy]; exact hfb.2
    clear hf hfb; go_wp2_with fail; refine (vV w1.heap.size w1.heap.size _ _ _ (hI.alloc _) ?hl ?hs).mono ?_
    case hl => have := HZ.out; rw [Lib.byteCells_length]; omega
    case hs => have := hB.size; simp; omega
    rintro e w2 ⟨rfl, hI2, hb2, _⟩; go_wp2
    go_roundw
    case rel => first | exact ⟨k + 1, by omega, by go_num, by rw [HL.out, Lib.byteCells_append]; rwa [Lib.strCells_eq, vY] at hI2, (hB.alloc hB.size _).trans hb2⟩ | ((repeat apply Exists.intro); exact ⟨⟨k + 1, by omega, by go_num, by rw [HL.out, Lib.byteCells_append]; rwa [Lib.strCells_eq, vY] at hI2, (hB.alloc hB.size _).trans hb2⟩, rfl⟩) | (refine ⟨trivial, ?_⟩; (repeat apply Exists.intro); exact ⟨⟨k + 1, by omega, by go_num, by rw [HL.out, Lib.byteCells_append]; rwa [Lib.strCells_eq, vY] at hI2, (hB.alloc hB.size _).trans hb2⟩, rfl⟩)
    case measure => simp [intOf]; omega
  · have HT : Hid (fs.take k = fs) := List.take_of_length_le (by omega); have q1 : wr.cell? ⟨w.heap.size, 1, none⟩ = some (.string body) := jK p1 hB; have hbd := hM.2.1; have HZ : Hid ((⟨#[13, 10]⟩ ++ body : ByteArray).size ≤ 5000000) := by
        unfold Hid; rw [← size_list, jfv, List.length_append, size_list body]; simp; omega
    go_wp2_with fail; refine (vV w1.heap.size w1.heap.size _ _ _ hI ?hl hB.size).mono ?_
    case hl => have := HZ.out; rw [Lib.byteCells_length]; omega
    rintro e w2 ⟨rfl, hI2, hb2, _⟩; rw [Lib.strCells_eq, ← Lib.byteCells_append] at hI2; go_wp2_with fail; refine (Tryz.Builder_String_any_k w1.heap.size w1.heap.size _ _ hI2 (by have := hB.size; have := hb2.size; omega)).mono ?_; rintro e w3 ⟨rfl, _, hb3, _⟩; go_wp2; go_ret2; refine ⟨?_, jgm hB1 ((hB.trans hb2).trans hb3) (Nat.le_refl _)⟩; have := HT.out
    simp [jam, S, this]
end Go.Proofs.YtaapmpchcfcniaaGreatDoor
