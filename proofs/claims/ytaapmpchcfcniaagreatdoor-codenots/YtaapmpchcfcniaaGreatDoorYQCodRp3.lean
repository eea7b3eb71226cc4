/-
  Ops that code.Run does for a letter that may be: plain facts.
  What judge.Ask does: the walk, and what it asks for.
  What the keep's word does: the walk.
-/
import Derived.Test.YtaapmpchcfcniaaGreatDoorYQJudChk5
import Derived.Test.YtaapmpchcfcniaaGreatDoorYQCodFit7
import Derived.Test.YtaapmpchcfcniaaGreatDoorYQWhoPart3
import Derived.Test.YtaapmpchcfcniaaGreatDoorYQMkTest6
import Derived.Test.YtaapmpchcfcniaaGreatDoorYKeepWd
namespace Go.Proofs.YtaapmpchcfcniaaGreatDoor
open Go.RowKit Go.Proofs
def RT (t : Tst) : Prop := jiX t ∧ NT t ∧ t.tests = []
def RC (c : Cmd) : Prop := jgN c ∧ jiW (qG c) ∧ vo 2 (qG c)
theorem jln {x : Cmd} (hN : jaA 1 x) (hF : qJ x = true) (hk : x.kind ≠ 2) : jiW x := by
  obtain ⟨k1, k2, k3, k4, k5, k6, k7⟩ := hN; unfold qJ at hF; simp only [Bool.and_eq_true, decide_eq_true_eq] at hF; obtain ⟨⟨⟨⟨⟨g2, g10⟩, gf⟩, _⟩, _⟩, _⟩ := hF; refine ⟨by omega, fun h5 => ?_, fun h6 => k4 h6⟩; intro e; unfold qg at gf; split at gf
  · cases gf
  · split at gf
    · rename_i h; omega
    · rw [e] at gf
      simp at gf
theorem jmH {c : Cmd} (hA : ∀ n, jaA n c) (hf : qJ c = true) (h2 : c.kind ≠ 2) : RC c := by
  obtain ⟨n1, n2, n3, n4, _, _, _⟩ := hA 2; refine ⟨jl8 hA hf h2, jln (x := qG c) ⟨n1, n2, n3, n4, trivial, (fun x hx => by cases hx), fun x hx => by cases hx⟩ (jeM hf) h2, ?_⟩; exact ⟨(jc5 hA 1).1, (fun x hx => by cases hx), fun x hx => by cases hx⟩
theorem jmI : RC reqC := ⟨jjV, ⟨.inl rfl, (fun h => by rcases h with h | h | h <;> cases h), fun h => by cases h⟩, (fun h => by cases h), (fun x hx => by cases hx), fun x hx => by cases hx⟩
theorem jlI {t : Tst} (h : NT t) (k3 : t.kind ≠ 3) (k4 : t.kind ≠ 4) (k5 : t.kind ≠ 5) : RT t := by
  have hF1 := (h 1).2.1; unfold fitH at hF1; simp only [Bool.and_eq_true, decide_eq_true_eq] at hF1; obtain ⟨⟨⟨⟨⟨a1, a2⟩, a3⟩, a4⟩, a5⟩, _⟩ := hF1; exact ⟨jmN (h 1).1 (h 1).2 k3 k4 k5, h, jkH a3 k3 k4 k5⟩
theorem jmF : ∀ (n : Nat) (t : Tst), NT t → allT RT n t := by
  intro n
  induction n with
  | zero => intro t _; trivial
  | succ n ih => exact fun t h => ⟨fun k3 k4 k5 => jlI h k3 k4 k5, fun x hx => ih x fun m => ⟨(h (m + 1)).1.2.2.2 x hx, (h (m + 1)).2.2 x hx⟩⟩
theorem jmE : ∀ (n : Nat) (c : Cmd), NC c → allC RT RC n c := by
  intro n
  induction n with
  | zero => intro t _; trivial
  | succ n ih =>
    intro c h; refine ⟨fun k2 => jmH (fun n => (h n).1) (h 2).2.1 k2, fun k2 => ⟨jmF n c.test fun m => ⟨(h (m + 1)).1.2.2.2.2.1, (h (m + 1)).2.2.1 k2⟩, fun x hx => ih x fun m => ?_, fun x hx => ih x fun m => ?_⟩⟩
    · exact ⟨(h (m + 1)).1.2.2.2.2.2.1 x hx, (h (m + 1)).2.2.2.1 x hx⟩
    · exact ⟨(h (m + 1)).1.2.2.2.2.2.2 x hx, (h (m + 1)).2.2.2.2 x hx⟩
theorem jj4 {r : List Cmd} (hN : ∀ x ∈ r, NC x) (n : Nat) : AllGood RT RC 0 (vv (n + 1) (reqC :: r)).length (vv (n + 1) (reqC :: r)) :=
  jg4 (n + 1) (reqC :: r) fun c hc => by
    rcases List.mem_cons.1 hc with rfl | hc
    · exact ⟨fun _ => jmI, fun h => by cases h⟩
    · exact jmE (n + 1) c (hN c hc)
theorem AllGood.fine {a N : Nat} {l : List Opr} (h : AllGood RT RC a N l) : AllGood jiX jgN a N l := fun i x hx => by
  rcases h i x hx with h | h | ⟨t, ht, e⟩ | ⟨c, hc, e⟩
  · exact .inl h
  · exact .inr (.inl h)
  · exact .inr (.inr (.inl ⟨t, ht.1, e⟩))
  · exact .inr (.inr (.inr ⟨c, hc.1, e⟩))
theorem jja {c : Crs} (x : Cmd) (h0 : c.fault = 0) (h : (doP c x).2 = false) : (doP c x).1.fault = 0 := by
  revert h
  unfold doP; split
  · intro _; exact h0
  · split
    · intro h; cases h
    · split
      · intro _; exact h0
      · split
        · intro _; exact h0
        · unfold askP; split
          · intro h; cases h
          · split
            · intro _; exact h0
            · split
              · intro h; cases h
              · intro _; exact h0
structure RnOk (L : List Opr) (s : Rn) : Prop where
  crs : ji8 s.c
  le : s.pc ≤ L.length
  done : s.done ≤ s.pc
  fault : s.pc < L.length → s.c.fault = 0
theorem jmK (L : List Opr) : RnOk L ⟨newC, 0, 0, false⟩ := ⟨jmp, Nat.zero_le _, Nat.le_refl _, fun _ => rfl⟩
theorem RnOk.next {o : Opn} {L : List Opr} {s : Rn} {x : Opr} (h : RnOk L s) (hG : AllGood RT RC 0 L.length L) (hx : L[s.pc]? = some x) : RnOk L (ze o L.length s x) ∧ s.pc < (ze o L.length s x).pc := by
  have hlt := (List.getElem?_eq_some_iff.1 hx).1; have hg := hG s.pc x hx; have hf := h.fault hlt; have hd := h.done; rw [Nat.zero_add] at hg
  rcases hg with ⟨j, tt, hj, rfl, h3, h4⟩ | rfl | ⟨t, _, rfl⟩ | ⟨c, _, rfl⟩
  · rcases hj with rfl | rfl | rfl
    · cases hb : s.told
      · rw [show ze o L.length s (zk 3 tt) = ⟨s.c, s.pc + 1, s.done + 1, false⟩ by simp [ze, zk, hb]]; exact ⟨⟨h.crs, by show s.pc + 1 ≤ _; omega, by show s.done + 1 ≤ s.pc + 1; omega, fun _ => hf⟩, by show s.pc < s.pc + 1; omega⟩
      · rw [show ze o L.length s (zk 3 tt) = ⟨s.c, tt, s.done + 1, true⟩ by simp [ze, zk, hb]]; exact ⟨⟨h.crs, h4, by show s.done + 1 ≤ tt; omega, fun _ => hf⟩, h3⟩
    · cases hb : s.told
      · rw [show ze o L.length s (zk 4 tt) = ⟨s.c, tt, s.done + 1, false⟩ by simp [ze, zk, hb]]; exact ⟨⟨h.crs, h4, by show s.done + 1 ≤ tt; omega, fun _ => hf⟩, h3⟩
      · rw [show ze o L.length s (zk 4 tt) = ⟨s.c, s.pc + 1, s.done + 1, true⟩ by simp [ze, zk, hb]]; exact ⟨⟨h.crs, by show s.pc + 1 ≤ _; omega, by show s.done + 1 ≤ s.pc + 1; omega, fun _ => hf⟩, by show s.pc < s.pc + 1; omega⟩
    · rw [show ze o L.length s (zk 5 tt) = ⟨s.c, tt, s.done + 1, s.told⟩ by simp [ze, zk]]; exact ⟨⟨h.crs, h4, by show s.done + 1 ≤ tt; omega, fun _ => hf⟩, h3⟩
  · rw [show ze o L.length s jaa = ⟨s.c, s.pc + 1, s.done + 1, !s.told⟩ by simp [ze, jaa]]; exact ⟨⟨h.crs, by show s.pc + 1 ≤ _; omega, by show s.done + 1 ≤ s.pc + 1; omega, fun _ => hf⟩, by show s.pc < s.pc + 1; omega⟩
  · rw [show ze o L.length s (askO t) = ⟨s.c, s.pc + 1, s.done + 1, ju o 1 (qH t)⟩ by simp [ze, askO]]; exact ⟨⟨h.crs, by show s.pc + 1 ≤ _; omega, by show s.done + 1 ≤ s.pc + 1; omega, fun _ => hf⟩, by show s.pc < s.pc + 1; omega⟩
  · rw [show ze o L.length s (doO c) = ⟨(doP s.c (qG c)).1, if (doP s.c (qG c)).2 = true then L.length else s.pc + 1, s.done + 1, s.told⟩ from rfl]; cases hr : (doP s.c (qG c)).2
    · simp only [Bool.false_eq_true, if_false]; exact ⟨⟨jme h.crs _, by show s.pc + 1 ≤ _; omega, by show s.done + 1 ≤ s.pc + 1; omega, fun _ => jja _ hf hr⟩, by show s.pc < s.pc + 1; omega⟩
    · simp only [if_true]; exact ⟨⟨jme h.crs _, Nat.le_refl _, by show s.done + 1 ≤ L.length; omega, fun h => absurd h (Nat.lt_irrefl _)⟩, hlt⟩
end Go.Proofs.YtaapmpchcfcniaaGreatDoor
namespace Go.Proofs.YtaapmpchcfcniaaGreatDoor
open Go.RowKit Go.Proofs
def envC : Cmd := ⟨1, [envW], zd, [], []⟩
def ifC (t : Tst) : Cmd := ⟨2, [], t, [], []⟩
set_option maxHeartbeats 1000000 in
set_option maxRecDepth 100000 in
theorem jl3 (M : Nat) (t : Tst) (o : Opn) (an ak at' : Option Addr) (cn ck ct : Nat) (w : World) (hw : Tabs w) (hm : maxLenCell w) (hj : vU o) (hT : TstM anyB (M + 1) w t [.int .i64 t.kind, .int .i64 t.mat, .int .i64 t.part, .slice an t.names.length cn, .slice ak t.keys.length ck, .bool t.over, .int .i64 t.limit, .slice at' t.tests.length ct]) (hr : vl (M + 2) [envC, ifC t] = 0) (hg : jjv (M + 1) t) :
    Calls Tryz.prog 14 #[.agg #[.int .i64 t.kind, .int .i64 t.mat, .int .i64 t.part, .slice an t.names.length cn, .slice ak t.keys.length ck, .bool t.over, .int .i64 t.limit, .slice at' t.tests.length ct], .agg #[.string (S o.fl), .string (S o.fd), .string (S o.tl), .string (S o.td), .string (S o.tx)]] w fun e w' => e = .returned (.tuple #[.bool (ju o (M + 1) t), .int .i64 0]) ∧ Below w.heap.size w w' := by
  have HM := hid hm; have HW := hid hw; have HJ := hid hj; have HT := hid hT; have HG := hid hg; have HRR := hid hr; obtain ⟨v, hv⟩ : ∃ v, v = ju o (M + 1) t := ⟨_, rfl⟩; rw [← hv]; have HV := hid hv; obtain ⟨W0, hW0⟩ : ∃ W0, W0 = (w.alloc (.cells #[.int .i64 t.kind, .int .i64 t.mat, .int .i64 t.part, .slice an t.names.length cn, .slice ak t.keys.length ck, .bool t.over, .int .i64 t.limit, .slice at' t.tests.length ct] 54)).alloc (.cells #[.string (S o.fl), .string (S o.fd), .string (S o.tl), .string (S o.td), .string (S o.tx)] 31) := ⟨_, rfl⟩; have HWE := hid hW0; have HB0 := hid (show Below w.heap.size w W0 by rw [hW0]; exact ((Below.refl _ _).alloc (Nat.le_refl _) _).alloc (by simp) _); have HTB := hid (show W0.heap[w.heap.size]? = some (.cells #[.int .i64 t.kind, .int .i64 t.mat, .int .i64 t.part, .slice an t.names.length cn, .slice ak t.keys.length ck, .bool t.over, .int .i64 t.limit, .slice at' t.tests.length ct] 54) by rw [hW0]; exact qf _ (jV _ rfl)); have HLB := hid (show W0.heap[w.heap.size + 1]? = some (.cells #[.string (S o.fl), .string (S o.fd), .string (S o.tl), .string (S o.td), .string (S o.tx)] 31) by rw [hW0]; exact jV _ (by simp)); have hTB := HTB.out; have HAL := hid (show Below W0.heap.size W0 (W0.alloc (.cells #[.string ⟨#[101, 110, 118, 101, 108, 111, 112, 101]⟩] 9)) from (Below.refl _ _).alloc (Nat.le_refl _) _); have hTA := jx HAL.out hTB; have g0 := je (j := 0) hTB rfl; have g1 := je (j := 1) hTB rfl; have g2 := je (j := 2) hTB rfl; have g3 := je (j := 3) hTB rfl; have g4 := je (j := 4) hTB rfl; have g5 := je (j := 5) hTB rfl; have g6 := je (j := 6) hTB rfl; have g7 := je (j := 7) hTB rfl; have ga0 := je (j := 0) hTA rfl; have ga1 := je (j := 1) hTA rfl; have ga2 := je (j := 2) hTA rfl; have ga3 := je (j := 3) hTA rfl; have ga4 := je (j := 4) hTA rfl; have ga5 := je (j := 5) hTA rfl; have ga6 := je (j := 6) hTA rfl; have ga7 := je (j := 7) hTA rfl; clear hw hm hj hT hr hg hv hTB hTA hW0; go_enter Tryz.func14, Tryz.ntmps14; go_wp2; rw [← HWE.out]
  go_region_law
    (go_simp
     go_at_call 31
     refine (jau _ _ _ _).mono ?_; rintro e u ⟨rfl, hb2⟩; have HB2 := hid (show Below W0.heap.size W0 u from HAL.out.drew.trans (hb2.mono (by simp))); have hX := jx HB2.out HTB.out; have gu0 := je (j := 0) hX rfl; have gu1 := je (j := 1) hX rfl; have gu2 := je (j := 2) hX rfl; have gu3 := je (j := 3) hX rfl; have gu4 := je (j := 4) hX rfl; have gu5 := je (j := 5) hX rfl; have gu6 := je (j := 6) hX rfl; have gu7 := je (j := 7) hX rfl; have HS2 := hid (show u.heap[W0.heap.size]? = some (.cells #[.string ⟨#[101, 110, 118, 101, 108, 111, 112, 101]⟩] 9) from (hb2.block W0.heap.size (by simp)).trans (heap_alloc_new W0.drew _)); clear hX hb2)
  all_goals
    obtain ⟨W3, hW3⟩ : ∃ W3, W3 = u.alloc (.cells #[.int .i64 1, .slice (some ⟨W0.heap.size, 0, none⟩) 1 1, .int .i64 0, .int .i64 0, .int .i64 0, .slice none 0 0, .slice none 0 0, .bool false, .int .i64 0, .slice none 0 0, .slice none 0 0, .slice none 0 0, .int .i64 2, .slice none 0 0, .int .i64 t.kind, .int .i64 t.mat, .int .i64 t.part, .slice an t.names.length cn, .slice ak t.keys.length ck, .bool t.over, .int .i64 t.limit, .slice at' t.tests.length ct, .slice none 0 0, .slice none 0 0] 58) := ⟨_, rfl⟩; have HWE3 := hid hW3; have hal3 : Below u.heap.size u W3 := by rw [hW3]; exact (Below.refl _ _).alloc (Nat.le_refl _) _
    have HBu := hid (HB0.out.trans (HB2.out.mono HB0.out.size)); have HB3 := hid (HBu.out.trans (hal3.mono HBu.out.size)); have HRW := hid (show CmdsM anyB (M + 2) W3 (.slice (some ⟨u.heap.size, 0, none⟩) [envC, ifC t].length 2) [envC, ifC t] by
      refine jjP (t := 58) (fr := (0, 0)) (cs := [.int .i64 1, .slice (some ⟨W0.heap.size, 0, none⟩) 1 1, .int .i64 0, .int .i64 0, .int .i64 0, .slice none 0 0, .slice none 0 0, .bool false, .int .i64 0, .slice none 0 0, .slice none 0 0, .slice none 0 0]) (ds := [.int .i64 2, .slice none 0 0, .int .i64 t.kind, .int .i64 t.mat, .int .i64 t.part, .slice an t.names.length cn, .slice ak t.keys.length ck, .bool t.over, .int .i64 t.limit, .slice at' t.tests.length ct, .slice none 0 0, .slice none 0 0]) (by rw [hW3]; exact jV _ rfl) rfl rfl trivial ?_ ?_
      · exact ⟨_, _, _, _, _, _, rfl, zE (t := 9) (fr := (0, 0)) (cs := [.string ⟨#[101, 110, 118, 101, 108, 111, 112, 101]⟩]) (jx hal3 HS2.out) rfl trivial rfl, zS _ _ _, jj _ _ _ _ _ _, jj _ _ _ _ _ _⟩
      · exact ⟨_, _, _, _, _, _, rfl, jj _ _ _ _ _ _, TstM.imp (fun _ h => h) (Keeps.of_below HB3.out) _ _ _ HT.out, jj _ _ _ _ _ _, jj _ _ _ _ _ _⟩)
    have HCH := hid (show Calls Tryz.prog 21 #[.slice (some ⟨u.heap.size, 0, none⟩) 2 2] W3 fun e w' => e = .returned (.int .i64 0) ∧ Below W3.heap.size W3 w' by
      have := vb (M + 1) [envC, ifC t] u.heap.size 0 2 W3 (HW.out.next HB3.out) (by simp) (fun y hy => by
        simp at hy
        rcases hy with e | e
        · rw [e]; exact ⟨(fun h => by cases h), (fun x hx => by cases hx), fun x hx => by cases hx⟩
        · rw [e]; exact ⟨(fun h => by cases h), (fun x hx => by cases hx), fun x hx => by cases hx⟩) HRW.out
      rw [show vl (M + 1 + 1) [envC, ifC t] = 0 from HRR.out] at this; exact this)
    have HT3 := hid (jx hal3 (jx HB2.out HTB.out)); have HL3 := hid (jx hal3 (jx HB2.out HLB.out)); clear hW3 hal3 g0 g1 g2 g3 g4 g5 g6 g7 ga0 ga1 ga2 ga3 ga4 ga5 ga6 ga7 gu0 gu1 gu2 gu3 gu4 gu5 gu6 gu7; go_wp2_with fail; rw [← HWE3.out]; refine HCH.out.mono ?_; rintro e w4 ⟨rfl, hb4⟩; simp only; have HB4 := hid (HB3.out.trans (hb4.mono HB3.out.size)); have HT4 := hid (jx hb4 HT3.out); have hL4 := jx hb4 HL3.out; have l0 := je (j := 0) hL4 rfl; have l1 := je (j := 1) hL4 rfl; have l2 := je (j := 2) hL4 rfl; have l3 := je (j := 3) hL4 rfl; have l4 := je (j := 4) hL4 rfl; have HOP := hid (jlz o w4 HJ.out (maxLenCell_below HM.out HB4.out)); clear hb4 hL4 HWE3 HCH HRW HT3 HL3; go_wp2_with fail; refine HOP.out.mono ?_; rintro e w5 ⟨fa, fc, rfl, hF, hb5⟩; simp only; have hal5 : Below w5.heap.size w5 (w5.alloc (.cells #[.string (S o.fl), .string (S o.fd), .string (S o.tl), .string (S o.td), .string (S o.tx), .slice fa o.fs.length fc, .string (S o.body)] 82)) := (Below.refl _ _).alloc (Nat.le_refl _) _; have HB5 := hid (HB4.out.trans ((hb5.trans (hal5.mono hb5.size)).mono HB4.out.size)); have hT5 := jx hal5 (jx hb5 HT4.out); have t0 := je (j := 0) hT5 rfl; have t1 := je (j := 1) hT5 rfl; have t2 := je (j := 2) hT5 rfl; have t3 := je (j := 3) hT5 rfl; have t4 := je (j := 4) hT5 rfl; have t5 := je (j := 5) hT5 rfl; have t6 := je (j := 6) hT5 rfl; have t7 := je (j := 7) hT5 rfl; have HTE := hid (show Calls Tryz.prog 32 #[.agg #[.string (S o.fl), .string (S o.fd), .string (S o.tl), .string (S o.td), .string (S o.tx), .slice fa o.fs.length fc, .string (S o.body)], .agg #[.int .i64 t.kind, .int .i64 t.mat, .int .i64 t.part, .slice an t.names.length cn, .slice ak t.keys.length ck, .bool t.over, .int .i64 t.limit, .slice at' t.tests.length ct]] (w5.alloc (.cells #[.string (S o.fl), .string (S o.fd), .string (S o.tl), .string (S o.td), .string (S o.tx), .slice fa o.fs.length fc, .string (S o.body)] 82)) fun e w' => e = .returned (.bool v) ∧ Below (w5.alloc (.cells #[.string (S o.fl), .string (S o.fd), .string (S o.tl), .string (S o.td), .string (S o.tx), .slice fa o.fs.length fc, .string (S o.body)] 82)).heap.size (w5.alloc (.cells #[.string (S o.fl), .string (S o.fd), .string (S o.tl), .string (S o.td), .string (S o.tx), .slice fa o.fs.length fc, .string (S o.body)] 82)) w' by
      rw [HV.out]; exact jiB o fa fc (jbO HJ.out).1 (M + 1) t an ak at' cn ck ct _ (hF.below hal5) (maxLenCell_below HM.out HB5.out) HG.out (TstM.next HT.out HB5.out))
    clear hF hb5 hal5 hT5 HOP; go_wp2_with fail; refine HTE.out.mono ?_; rintro e w6 ⟨rfl, hb6⟩; simp only; have HB6 := hid (HB5.out.trans (hb6.mono HB5.out.size)); clear hb6; go_wp2; go_ret2; exact ⟨rfl, HB6.out⟩
end Go.Proofs.YtaapmpchcfcniaaGreatDoor
namespace Go.Proofs.YtaapmpchcfcniaaGreatDoor
open Go.RowKit Go.Proofs
theorem jhf (n : Nat) : jl n 0 envC = 0 := by cases n <;> rfl
theorem jjj {n : Nat} {t : Tst} (h : jo n 1 t = 0) : jl (n + 1) 0 (ifC t) = 0 := by
  rw [zo]; have h1 : oneP (jC 0 (ifC t).kind) 0 (qg (ifC t)) = 0 := rfl; rw [h1, if_neg (by simp), if_neg (by show ¬ (2 : Int) ≠ 2; simp), if_neg (by show ¬ jo n 1 t ≠ 0; rw [h]; simp)]; rfl
theorem jml (n : Nat) (t : Tst) : (cmdT (n + 1) (ifC t)).length = (jD n t).length + 3 := by
  unfold cmdT j4 ifC
  simp [jP]
theorem jj0 {n : Nat} {t : Tst} (hN : jcG n t) (hf : jo n 1 t = 0) (hl : (jD n t).length ≤ 390) : vl (n + 1) [envC, ifC t] = 0 := by
  have hc : za (n + 1) [envC, ifC t] = 0 := by
    rw [vu fun y hy => by
      simp at hy
      rcases hy with e | e
      · rw [e]; exact jhf _
      · rw [e]; exact jjj hf]
    rw [if_neg]; have h3 : (jK (n + 1) [envC, ifC t]).length = (cmdT (n + 1) envC).length + (cmdT (n + 1) (ifC t)).length := by simp [jK]
    have h4 : (cmdT (n + 1) envC).length = 3 := rfl; have h5 := jml n t; omega
  have ha : j7 [envC, ifC t] = 1 := rfl; have hr : jc3 [envC, ifC t] = [envW] := rfl; unfold vl; rw [if_neg (by rw [hc]; simp), hr, if_neg (by decide), ha]; refine j9 fun x hx => ?_
  simp at hx
  rw [hx]; unfold cmdA; have e1 : hasP [envW] (jcb (ifC t).kind) = true := rfl; rw [e1]; have e2 : tstA [envW] n (ifC t).test = 0 := jfl (by decide) n t hN; simp only [ifC] at e2 ⊢
  simp [e2, jn]
theorem jlf : ∀ (n d : Nat) (t : Tst), jo n d t = 0 → jjv n t := by
  intro n
  induction n with
  | zero => intro d t _; trivial
  | succ n ih =>
    intro d t h; unfold jo at h
    by_cases h1 : oneP (jC 1 t.kind) d (zW t) = 0
    · rw [if_pos h1] at h; have hf : zW t = true := by
        unfold oneP at h1
        by_cases h2 : jC 1 t.kind = false
        · rw [if_pos h2] at h1; cases h1
        · rw [if_neg h2] at h1
          by_cases h3 : 6 < d
          · rw [if_pos h3] at h1; cases h1
          · rw [if_neg h3] at h1; cases hq : zW t with
            | true => rfl
            | false => rw [hq] at h1; simp at h1
      refine ⟨fun hk => ?_, fun x hx => ih (d + 1) x ?_⟩
      · unfold zW at hf; rw [if_pos hk] at hf; simp only [Bool.and_eq_true, decide_eq_true_eq] at hf; intro e; rw [e] at hf
        simp at hf
      · clear hf h1; generalize t.tests = l at h hx
        induction l with
        | nil => cases hx
        | cons y l ihl =>
          unfold jn at h
          by_cases hy : jo n (d + 1) y = 0
          · rw [if_pos hy] at h
            rcases List.mem_cons.1 hx with e | e
            · rw [e]; exact hy
            · exact ihl h e
          · rw [if_neg hy] at h; exact absurd h hy
    · rw [if_neg h1] at h; exact absurd h h1
end Go.Proofs.YtaapmpchcfcniaaGreatDoor
namespace Go.Proofs.YtaapmpchcfcniaaGreatDoor
open Go.RowKit
set_option maxHeartbeats 1000000 in
set_option maxRecDepth 100000 in
theorem vS (s : ByteArray) (w : World) (hs : s.size ≤ maxLen) :
    Calls Tryz.prog 30 #[.string s] w fun e w' => e = .returned (.string (S (zN s.data.toList))) ∧ Below w.heap.size w w' := by
  unfold maxLen at hs; obtain ⟨i0, hi, hz0, hz1, hz2⟩ := info_parts jkE; go_enter Tryz.func30, Tryz.ntmps30; go_wp2
  go_loopw [3, 4] (fun v i wr => ∃ k : Nat, k ≤ s.size ∧ k ≤ 8 ∧ i = .int .i64 k ∧ wr.ownsRow w.heap.size 5 1 v k (vc (jba s.data.toList k)) ∧ Below w.heap.size w wr) (fun _ i _ => 8 - (intOf i).toNat)
  case atStart => exact ⟨0, Nat.zero_le _, Nat.zero_le _, rfl, World.ownsRow_nil _ _ _ _, Below.refl _ _⟩
  case round =>
    obtain ⟨k, hk, hk8, rfl, hown, hB⟩ := hrel
    by_cases hlt : k < s.size ∧ k < 8
    · obtain ⟨hl1, hl2⟩ := hlt; have hu := s[k].toNat_lt; have hu0 : (0 : Int) ≤ (s[k].toNat : Int) := by omega
      have hu1 : (s[k].toNat : Int) ≤ 255 := by omega
      have HS : Hid _ := jiQ s k hl1
      go_wp2_with (at_builtin; refine wpList_append_own _ rfl _ _ 95 rfl w.heap.size 5 i0 (.int .u8 0) 1 1 Tryz.underlying95 hi hz0 hz1 hz2 rfl (by decide) _ _ _ rfl (hown.alloc _) ⟨wr.heap.size, 0, none⟩ 1 1 [.int .u8 (97 + (s[k].toNat : Int) % 26)] rfl rfl (zc _ _ _) ?c2 ?c3 ?c4 ?c5 ?_)
      case c2 => intro u hu; simp at hu; subst hu; rfl
      case c3 => unfold maxLen; omega
      case c4 => omega
      case c5 => have := hB.size; simp; omega
      intro v' w2 hown' hgrow _; have hsz := hB.size; have hB2 : Below w.heap.size w w2 := (hB.alloc hsz _).grown hgrow (by simp; omega) (fun j hj => (hown.lt j hj).1); rw [← HS.out] at hown'; clear hgrow hown; go_wp2
      go_roundw
      case rel => first | exact ⟨k + 1, by omega, by omega, by go_num, hown', hB2⟩ | ((repeat apply Exists.intro); exact ⟨⟨k + 1, by omega, by omega, by go_num, hown', hB2⟩, rfl⟩) | (refine ⟨trivial, ?_⟩; (repeat apply Exists.intro); exact ⟨⟨k + 1, by omega, by omega, by go_num, hown', hB2⟩, rfl⟩)
      case measure => simp [intOf]; omega
    · by_cases h0 : s.size = 0
      · have hk0 : k = 0 := by omega
        subst hk0; have HW : Hid (zN s.data.toList = [120]) := by
          have : s.data.toList = [] := List.length_eq_zero_iff.1 (by rw [size_list]; exact h0); unfold Hid zN; rw [if_pos this]
        obtain ⟨a0, c0, rfl⟩ := jcZ hown; go_wp2; go_ret; exact ⟨by rw [HW.out]; rfl, hB⟩
      · have HT : Hid (zN s.data.toList = jba s.data.toList k) := by
          have hne : s.data.toList ≠ [] := fun e => by have := size_list s; rw [e] at this; simp at this; omega
          unfold Hid zN; rw [if_neg hne]
          by_cases h8 : k = 8
          · rw [h8]
          · unfold jba; rw [List.take_of_length_le (by rw [size_list]; omega), List.take_of_length_le (by rw [size_list]; omega)]
        have hkp : (k : Int) ≠ 0 := by omega
        have hkb : ((k : Int) == 0) = false := by simpa using hkp
        have hrun := jbt hown; obtain ⟨a0, c0, rfl⟩ := jcZ hown
        by_cases h8 : k < s.size
        · have hk8' : ¬ k < 8 := fun h => hlt ⟨h8, h⟩
          go_wp2; go_ret; exact ⟨by rw [HT.out]; rfl, hB⟩
        · go_wp2; go_ret; exact ⟨by rw [HT.out]; rfl, hB⟩
end Go.Proofs.YtaapmpchcfcniaaGreatDoor
