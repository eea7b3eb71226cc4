/-
  What a room's ledger does at a sync: the walks.
-/
import Derived.Test.YtmgdnhjemhhleaaGreatDoorOQPoFo8
import Derived.Deep.MidRow
set_option maxHeartbeats 4000000
set_option maxRecDepth 100000
namespace Go.Proofs.YtmgdnhjemhhleaaGreatDoor
open Go.RowKit Go.Proofs
def jfE (R : Rom) : Rom := ⟨R.up, R.tape, R.tsyn, R.syn + R.waits, 0, R.states, R.states, R.c0, R.c1, R.c2, R.orders, R.due⟩
def jms (R : Rom) (x y : Int) : Rom := ⟨R.up, R.tape, R.tsyn, x, y, R.safe, R.states, R.c0, R.c1, R.c2, R.orders, R.due⟩
def jmN (R : Rom) (t : List UInt8) (s : Int) : Rom := ⟨R.up, t, s, R.syn, R.waits, R.safe, R.states, R.c0, R.c1, R.c2, R.orders, R.due⟩
def jag (R : Rom) : Rom := jfE (jmN R R.tape R.tape.length)
def RmS (K : List (List UInt8)) (Cs : List (List Cmd)) (B b : Nat) (G : List Nat) (R : Rom) (w wx : World) : Prop := RoomM K Cs B b G R wx ∧ Stp b G w G wx
theorem RmS.num {K : List (List UInt8)} {Cs : List (List Cmd)} {B b : Nat} {G : List Nat} {R : Rom} {w : World} (h : RoomM K Cs B b G R w) (x y : Int) : RmS K Cs B b G (jms R x y) w ((w.setCell ⟨b, 3, none⟩ (.int .i64 x)).setCell ⟨b, 4, none⟩ (.int .i64 y)).drew := by
 obtain ⟨X, hG, hB, hX, hM, hQ⟩ := h; have hs := (((Stp.refl b G w).box 3 (.int .i64 x)).box 4 (.int .i64 y)); have hs' : Stp b G w G ((w.setCell ⟨b, 3, none⟩ (.int .i64 x)).setCell ⟨b, 4, none⟩ (.int .i64 y)).drew := hs.trans (.of (Below.refl _ _).drew); have q := hQ.stp hs'; exact ⟨⟨X, hG, hB, (((hX.put 3 (.int .i64 x)).put 4 (.int .i64 y)).next (Below.refl _ _).drew).ty rfl, ((hM.box 3 (.int .i64 x)).box 4 (.int .i64 y)).next (Below.refl _ _).drew, q.k0, q.k1, q.k2, q.lo, q.sc, q.sf, q.sv, q.os, q.td⟩, hs'⟩
theorem RmS.num' {K : List (List UInt8)} {Cs : List (List Cmd)} {B b : Nat} {G : List Nat} {R : Rom} {w : World} (h : RoomM K Cs B b G R w) (x y : Int) : RmS K Cs B b G (jms R x y) w ((w.setCell ⟨b, 4, none⟩ (.int .i64 y)).setCell ⟨b, 3, none⟩ (.int .i64 x)).drew := by
 obtain ⟨X, hG, hB, hX, hM, hQ⟩ := h; have hs := (((Stp.refl b G w).box 4 (.int .i64 y)).box 3 (.int .i64 x)); have hs' : Stp b G w G ((w.setCell ⟨b, 4, none⟩ (.int .i64 y)).setCell ⟨b, 3, none⟩ (.int .i64 x)).drew := hs.trans (.of (Below.refl _ _).drew); have q := hQ.stp hs'; exact ⟨⟨X, hG, hB, (((hX.put 4 (.int .i64 y)).put 3 (.int .i64 x)).next (Below.refl _ _).drew).ty rfl, ((hM.box 4 (.int .i64 y)).box 3 (.int .i64 x)).next (Below.refl _ _).drew, q.k0, q.k1, q.k2, q.lo, q.sc, q.sf, q.sv, q.os, q.td⟩, hs'⟩
theorem RoomM.ledger {K : List (List UInt8)} {Cs : List (List Cmd)} {B b : Nat} {G : List Nat} {R : Rom} {w : World} (h : RoomM K Cs B b G R w) : ∃ at_ ct vf g cs vs, w.cell? ⟨b, 1, none⟩ = some (.slice at_ R.tape.length ct) ∧ w.cell? ⟨b, 2, none⟩ = some (.int .i64 R.tsyn) ∧ w.cell? ⟨b, 3, none⟩ = some (.int .i64 R.syn) ∧ w.cell? ⟨b, 4, none⟩ = some (.int .i64 R.waits) ∧ w.cell? ⟨b, 5, none⟩ = some vf ∧ w.cell? ⟨b, 6, none⟩ = some vs ∧
 BysM (AvN B b G) w (.slice at_ R.tape.length ct) R.tape ∧ (0 < R.states.length → vs = .slice (some ⟨g, 0, none⟩) R.states.length cs ∧ g ≠ b) := by
 obtain ⟨X, hG, hB, hX, hM, hQ⟩ := h; obtain ⟨at_, ct, e, _, _⟩ := hQ.td.slice; have hown := hM.own (sttR X.st X.sv) (by simp [jZ]); have hst : ∃ g cs, 0 < R.states.length → X.st = .slice (some ⟨g, 0, none⟩) R.states.length cs ∧ g ≠ b := by
  rcases hown.2 with ⟨_, h0⟩ | ⟨g, cap, cur, hv, _⟩
  · exact ⟨0, 0, fun h => by have h0 : X.sv.length = 0 := h0; rw [hQ.sv.1] at h0; omega⟩
  · have hv : X.st = .slice (some ⟨g, 0, none⟩) X.sv.length cap := hv; exact ⟨g, cap, fun _ => ⟨by rw [hv, hQ.sv.1], fun e => hM.far (List.mem_filterMap.2 ⟨sttR X.st X.sv, by simp [jZ], by show X.st.ownBlock = _; rw [hv, ← e]; rfl⟩)⟩⟩
 obtain ⟨g, cs, hst⟩ := hst; exact ⟨at_, ct, X.sf, g, cs, X.st, hX.cell (by rw [← e]; rfl), hX.cell rfl, hX.cell rfl, hX.cell rfl, hX.cell rfl, hX.cell rfl, by rw [← e]; exact hQ.td, hst⟩
theorem RoomM.safe {K : List (List UInt8)} {Cs : List (List Cmd)} {B b : Nat} {G : List Nat} {R : Rom} {w : World} (h : RoomM K Cs B b G R w) (hn : R.states.length ≤ 1000) : ∃ news, news.length = R.states.length * 2 ∧ (∀ u ∈ news, u.oneCell' = true) ∧ (∀ g cs, w.cell? ⟨b, 6, none⟩ = some (.slice (some ⟨g, 0, none⟩) R.states.length cs) → ∀ (j : Nat) u, news[j]? = some u → w.cell? ((⟨g, 0, none⟩ : Addr).add j) = some u) ∧
 ∀ (w' : World) (v : Value), Below w.heap.size w w' → w'.ownsRow w.heap.size 49 2 v R.states.length news → RmS K Cs B b G ⟨R.up, R.tape, R.tsyn, R.syn, R.waits, R.states, R.states, R.c0, R.c1, R.c2, R.orders, R.due⟩ w (w'.setCell ⟨b, 5, none⟩ v) := by
 have hr := h; obtain ⟨X, hG, hB, hX, hM, hQ⟩ := h; have hown := hM.own (sttR X.st X.sv) (by simp [jZ]); have hl : ((X.sv.map fun x => [x.1, x.2]).flatten).length = R.states.length * 2 := by
  rw [← hQ.sv.1]; generalize X.sv = l
  induction l with
  | nil => rfl
  | cons x t ih => simp only [List.map_cons, List.flatten_cons, List.length_append, ih, List.length_cons, List.length_nil]; omega
 refine ⟨(X.sv.map fun x => [x.1, x.2]).flatten, hl, fun u hu => ?_, fun g cs hc j u hj => ?_, fun w' v hb ho => ?_⟩
 · obtain ⟨y, hy, hu⟩ := List.mem_flatten.1 hu; obtain ⟨x, hx, rfl⟩ := List.mem_map.1 hy; obtain ⟨i, hi⟩ := List.getElem?_of_mem hx; obtain ⟨h1, h2, _⟩ := hQ.sv.2 i _ x (List.getElem?_eq_getElem (by have := (List.getElem?_eq_some_iff.1 hi).1; have := hQ.sv.1; omega)) hi; obtain ⟨_, _, e1⟩ := RowM.slice h1; obtain ⟨_, _, e2⟩ := RowM.slice h2; simp only [List.mem_cons, List.not_mem_nil, or_false] at hu
   rcases hu with rfl | rfl
   · rw [e1]; rfl
   · rw [e2]; rfl
 · have e : X.st = .slice (some ⟨g, 0, none⟩) R.states.length cs := Option.some.inj ((hX.cell (j := 6) rfl).symm.trans hc); have hown : w.ownsRow B 49 2 X.st X.sv.length ((X.sv.map fun x => [x.1, x.2]).flatten) := hown; rw [e, hQ.sv.1] at hown; have hjl : j < ((X.sv.map fun x => [x.1, x.2]).flatten).length := (List.getElem?_eq_some_iff.1 hj).1; rw [Addr.add_lit, Nat.zero_add, World.ownsRow.cellAt hown j (by rw [hl] at hjl; exact hjl)]; exact hj
 · have hs : Stp b G w G (w'.setCell ⟨b, 5, none⟩ v) := (Stp.of hb).box 5 v; have q := hQ.stp hs; have ho5 : (w'.setCell ⟨b, 5, none⟩ v).ownsRow w.heap.size 49 2 v R.states.length ((X.sv.map fun x => [x.1, x.2]).flatten) := jI ho fun g hg => Below.heap_setCell _ _ _ _ (fun e => by have e' : g = b := e; have := (World.ownsRow.lt ho g hg).1; have := hM.lt; omega)
   exact ⟨⟨{ X with sf := v }, hG, hB, ((hX.next hb).put 5 v).ty rfl, (hM.next hb).box 5 v, q.k0, q.k1, q.k2, q.lo, q.sc, jdC (css := X.sv.map fun x => [x.1, x.2]) ho5 rfl (show R.states.length ≤ maxLen by unfold maxLen; omega) (by rw [List.length_map]; exact hQ.sv.1) (fun cs hcs => by
        obtain ⟨x, _, rfl⟩ := List.mem_map.1 hcs; rfl) (fun i s cs hi hcs => by
        rw [List.getElem?_map] at hcs; cases hx : X.sv[i]? with
        | none => rw [hx] at hcs; cases hcs
        | some x =>
          rw [hx] at hcs; cases hcs; exact ⟨_, _, rfl, q.sv.2 i s x hi hx⟩) (fun g hg => by
        have := (World.ownsRow.lt ho5 g hg).1; exact ⟨by have := hM.lt; omega, jbK hr this⟩), q.sv, q.os, q.td⟩, hs⟩
theorem jfA (K : List (List UInt8)) (Cs : List (List Cmd)) (B b : Nat) (G : List Nat) (R : Rom) (w : World) (hR : RoomM K Cs B b G R w) (hsy : 0 ≤ R.syn ∧ R.syn ≤ 1000000) (hwa : 0 ≤ R.waits ∧ R.waits ≤ 1000000) (hn : 0 < R.states.length ∧ R.states.length ≤ 1000) :
 Calls Tryz.prog 33 #[.pointer (some ⟨b, 1, none⟩)] w (RmQ K Cs B b G w (jfE R) (.tuple #[])) := by
 obtain ⟨at_, ct, vf, g, cs, vs, _, _, c3, c4, _, _, _, _⟩ := hR.ledger; have hwr : IntKind.i64.wrap (R.syn + R.waits) = R.syn + R.waits := by rw [IntKind.wrap_i64]; omega
 have z3 := hR.frz 3; have z4 := hR.frz 4; have HE1 := hid (RmS.num hR (R.syn + R.waits) 0); have HE2 := hid (RmS.num' hR (R.syn + R.waits) 0); have HNN := hid hn; clear hR hn; go_enter Tryz.func33, Tryz.ntmps33; go_upto_region 0 with fail
 go_cut [] (fun wx => RmS K Cs B b G (jms R (R.syn + R.waits) 0) w wx)
 case first =>
  go_region_law (fail)
  all_goals first
   | (have HE := HE1; go_wp2_with fail; go_meet; exact HE.out)
   | (have HE := HE2; go_wp2_with fail; go_meet; exact HE.out)
   | fail
 case rest =>
  obtain ⟨hx, hB⟩ := hcut; obtain ⟨W1, rfl⟩ : ∃ W, W = wc := ⟨_, rfl⟩; obtain ⟨_, _, vf1, g1, cs1, vs1, _, _, _, _, d5, d6, _, hst⟩ := hx.ledger; obtain ⟨rfl, hgb⟩ := hst HNN.out.1; obtain ⟨news, n1, n2, n3, n4⟩ := hx.safe HNN.out.2; have HC := hid (n3 g1 cs1 d6); have HN4 := hid n4; have HB := hid hB; have hlt := hx.lt.1; have hz := fun (w2 : World) (h : Below W1.heap.size W1 w2) => (hx.next h).frz 5
  have HZ := hid hz; have H5 := hid (fun (w2 : World) (h : Below W1.heap.size W1 w2) => ja d5 h); have HCL := hid (jh0 ⟨g1, 0, none⟩ R.states.length cs1 news W1 n1 HNN.out.2 HC.out n2); clear hx hB hst n1 n2 n3 n4 hz c3 c4 z3 z4 HE1 HE2; have d6' : W1.cell? ⟨b, 6, none⟩ = some (.slice (some ⟨g1, 0, none⟩) R.states.length cs1) := d6; clear d6; go_wp2_with fail; refine HCL.out.mono ?_; rintro e w2 ⟨v', rfl, ho, hb2⟩; obtain ⟨a', c', rfl⟩ := jbB ho; obtain ⟨k1, k2⟩ := HN4.out w2 _ hb2 ho; have e5 := H5.out w2 hb2; have zf := HZ.out w2 hb2; have HF := hid (show RmQ K Cs B b G w (jfE R) (.tuple #[]) (.returned (.tuple #[])) (w2.setCell ⟨b, 5, none⟩ (.slice a' R.states.length c')) from ⟨rfl, G, k1, HB.out.trans k2⟩); clear ho hb2 k1 k2; go_wp2; go_end0; exact HF.out
theorem jiP (K : List (List UInt8)) (Cs : List (List Cmd)) (B b : Nat) (G : List Nat) (R : Rom) (w : World) (hR : RoomM K Cs B b G R w) (hm : mayN R.tape.length R.tsyn = true) (hsy : 0 ≤ R.syn ∧ R.syn ≤ 1000000) (hwa : 0 ≤ R.waits ∧ R.waits ≤ 1000000) (hn : 0 < R.states.length ∧ R.states.length ≤ 1000) :
 Calls Tryz.prog 44 #[.pointer (some ⟨b, 1, none⟩)] w (RmQ K Cs B b G w (jag R) (.tuple #[])) := by
 obtain ⟨at_, ct, vf, g, cs, vs, c1, c2, _, _, _, _, hT, _⟩ := hR.ledger; have HS := hid (jk1 at_ ct R.tape R.tsyn _ w hT); rw [if_pos hm] at HS; have HN := hid (show ∀ (w2 : World) (a : Option Addr) (c : Nat), Below w.heap.size w w2 → w2.ownsRow w.heap.size 5 1 (.slice a R.tape.length c) R.tape.length (byC R.tape) → w2.cell? ⟨b, 1, none⟩ = some (.slice at_ R.tape.length ct) ∧ w2.cell? ⟨b, 2, none⟩ = some (.int .i64 R.tsyn) ∧ w2.frozen? ⟨b, 1, none⟩ = false ∧ w2.frozen? ⟨b, 2, none⟩ = false ∧
  RmS K Cs B b G (jmN R R.tape R.tape.length) w ((w2.setCell ⟨b, 1, none⟩ (.slice a R.tape.length c)).setCell ⟨b, 2, none⟩ (.int .i64 R.tape.length)) from fun w2 a c hb ho => by
  have hr := hR; have f1 := (hR.next hb).frz 1; have f2 := (hR.next hb).frz 2; obtain ⟨X, hG, hB, hX, hM, hQ⟩ := hR; have hs : Stp b G w G ((w2.setCell ⟨b, 1, none⟩ (.slice a R.tape.length c)).setCell ⟨b, 2, none⟩ (.int .i64 R.tape.length)) := ((Stp.of hb).box 1 _).box 2 _; have q := hQ.stp hs; have ho5 : ((w2.setCell ⟨b, 1, none⟩ (.slice a R.tape.length c)).setCell ⟨b, 2, none⟩ (.int .i64 R.tape.length)).ownsRow w.heap.size 5 1 (.slice a R.tape.length c) R.tape.length (byC R.tape) := jI ho fun g hg => by
   have hn : g ≠ b := fun e => by have := (World.ownsRow.lt ho g hg).1; have := hM.lt; omega
   exact (Below.heap_setCell _ _ _ _ hn).trans (Below.heap_setCell _ _ _ _ hn)
  have hml : R.tape.length ≤ maxLen := by obtain ⟨_, _, _, _, h⟩ := hQ.td.slice; exact h
  exact ⟨ja c1 hb, ja c2 hb, f1, f2, ⟨{ X with td := .slice a R.tape.length c }, hG, hB, (((hX.next hb).put 1 _).put 2 _).ty rfl, ((hM.next hb).box 1 _).box 2 _, q.k0, q.k1, q.k2, q.lo, q.sc, q.sf, q.sv, q.os, jni ho5 rfl hml fun g hg => by
        have := (World.ownsRow.lt ho5 g hg).1; exact ⟨by have := hM.lt; omega, jbK hr this⟩⟩, hs⟩)
 have HST := hid (fun (w3 : World) (h : RoomM K Cs B b G (jmN R R.tape R.tape.length) w3) => jfA K Cs B b G _ w3 h hsy hwa hn); clear hR hT hn; go_enter Tryz.func44, Tryz.ntmps44; go_wp2_with fail; refine HS.out.mono ?_; rintro e w2 ⟨a, c, rfl, ho, hb⟩; obtain ⟨e1, e2, z1, z2, k1, k2⟩ := HN.out w2 a c hb ho; have HK1 := hid k1; have HK2 := hid k2; clear ho hb k1 k2; go_wp2_with fail; refine (HST.out _ HK1.out).mono ?_; rintro e w3 ⟨rfl, h⟩; have HF := hid (show RmQ K Cs B b G w (jag R) (.tuple #[]) (.returned (.tuple #[])) w3 from RmQ.trans HK2.out ⟨rfl, h⟩); clear h; go_wp2; go_end0; exact HF.out
def relR (R : Rom) : Nat → Rom
 | 0 => R
 | k + 1 => (relR R k).put k (jdF ((relR R k).con k))
theorem RoomM.undue {K : List (List UInt8)} {Cs : List (List Cmd)} {B b : Nat} {G : List Nat} {R : Rom} {w : World} (h : RoomM K Cs B b G R w) (hd : R.due = []) : (∃ a c, w.cell? ⟨b, 37, none⟩ = some (.slice a 0 c)) ∧ ∃ G', RoomM K Cs B b G' R (w.setCell ⟨b, 37, none⟩ (.slice none 0 0)) ∧ Stp b G w G' (w.setCell ⟨b, 37, none⟩ (.slice none 0 0)) := by
 obtain ⟨X, hG, hB, hX, hM, hQ⟩ := h; have hrow : ∀ v, jZ R { X with du := v } = [intR 3 X.c0.l R.c0.told, intR 3 X.c1.l R.c1.told, intR 3 X.c2.l R.c2.told] ++ intR 3 v R.due :: ([sttR X.st X.sv, ordR X.od X.os] ++ (List.range 3).map fun u => intR 40 (X.os.getD u (.slice none 0 0)) (R.orders.getD u [])) := fun v => rfl
 have hown := hM.own (intR 3 X.du R.due) (by simp [jZ]); obtain ⟨a, c, e, _⟩ := qM hown; have e : X.du = .slice a 0 c := by have e : X.du = .slice a R.due.length c := e; rw [e, hd]; rfl
 refine ⟨⟨a, c, hX.cell (by rw [← e]; rfl)⟩, mB (jZ R { X with du := .slice none 0 0 }), ?_⟩; have hM' := hM; rw [show jZ R X = _ from hrow X.du] at hM'; obtain ⟨k1, k2⟩ := hM'.grow (w' := w) (H := w.heap.size) (r' := intR 3 (.slice none 0 0) R.due) ⟨rfl, rfl, rfl, Nat.le_refl _, fun _ _ _ => rfl⟩ (by rw [hd]; exact World.ownsRow_nil _ _ _ _) (Nat.le_refl _) (fun g hg => by cases hg); rw [← hrow] at k1; have hs := (show Stp b G w (mB (jZ R { X with du := .slice none 0 0 })) w from by rw [hG]; exact k2).box 37 (.slice none 0 0); have q := hQ.stp hs; exact ⟨⟨{ X with du := .slice none 0 0 }, rfl, hB, (hX.put 37 _).ty rfl, k1.box 37 _, q.k0, q.k1, q.k2, q.lo, q.sc, q.sf, q.sv, q.os, q.td⟩, hs⟩
theorem jjj (K : List (List UInt8)) (Cs : List (List Cmd)) (B b : Nat) (G : List Nat) (R : Rom) (w : World) (hR : RoomM K Cs B b G R w) (hm : mayN R.tape.length R.tsyn = true) (hsy : 0 ≤ R.syn ∧ R.syn ≤ 1000000) (hwa : 0 ≤ R.waits ∧ R.waits ≤ 1000000) (hn : 0 < R.states.length ∧ R.states.length ≤ 1000) (hdu : R.due = [])
 (ht : ∀ k, k < 3 → ((relR (jag R) k).con k).told.length + ((relR (jag R) k).con k).due.length ≤ 1000000000) (st : Nat → Rom) (h0 : st 0 = relR (jag R) 3)
 (hW : ∀ (k : Nat) (G' : List Nat) (w' : World), k < 3 → Below B w w' → RoomM K Cs B b G' (st k) w' → Calls Tryz.prog 26 #[.pointer (some ⟨b, 0, none⟩), .pointer (some ⟨b, 7 + k * 9, none⟩)] w' (RmQ K Cs B b G' w' (st (k + 1)) (.tuple #[]))) :
 Calls Tryz.prog 27 #[.pointer (some ⟨b, 0, none⟩)] w (RmQ K Cs B b G w (st 3) (.tuple #[])) := by
 have HLS := hid (jiP K Cs B b G R w hR hm hsy hwa hn); have HR := hid hR; have HW := hid hW; have HT := hid ht; have H0 := hid h0; have HDU := hid (show (jag R).due = [] from hdu); clear hR hm hsy hwa hn hW ht h0 hdu; go_enter Tryz.func27, Tryz.ntmps27; go_wp2_with fail; refine HLS.out.mono ?_; rintro e w1 ⟨rfl, G1, hR1, hs1⟩; obtain ⟨⟨ad, cd, hcd⟩, G2, hR2, hs2⟩ := hR1.undue HDU.out; have hz37 := hR1.frz 37; obtain ⟨W2, hW2⟩ : ∃ W2, W2 = w1.setCell ⟨b, 37, none⟩ (.slice none 0 0) := ⟨_, rfl⟩; rw [← hW2] at hR2 hs2; have HR2 := hid hR2; have HS2 := hid (hs1.trans hs2); have HWE := hid hW2; clear hR1 hs1 hR2 hs2 hW2; go_wp2
 go_loopw [15] (fun i wr => i = .int .i64 0 ∧ wr = w1) (fun _ _ => 0)
 case atStart => exact ⟨rfl, rfl⟩
 case round =>
  obtain ⟨rfl, rfl⟩ := hrel; go_wp2; rw [← HWE.out]
  go_loopw [26] (fun i wr => ∃ (k : Nat) (G' : List Nat), k ≤ 3 ∧ i = .int .i64 k ∧ Hid (RoomM K Cs B b G' (relR (jag R) k) wr) ∧ Hid (Stp b G w G' wr)) (fun i _ => 3 - (intOf i).toNat)
  case atStart => exact ⟨0, G2, by omega, rfl, HR2, HS2⟩
  case round =>
   obtain ⟨k, G', hk, rfl, HRk, HSk⟩ := hrel
   by_cases hlt : k < 3
   · have k1 : (k : Int) < 3 := by omega
     have k0 : (0 : Int) ≤ (k : Int) := by omega
     have HRL := hid (jfy K Cs B b G' (relR (jag R) k) wr HRk.out k (7 + k * 9) hlt rfl (HT.out k hlt)); go_wp2_with fail; refine HRL.out.mono ?_; rintro e w3 ⟨rfl, G3, hR3, hs3⟩; have HR3 := hid (show RoomM K Cs B b G3 (relR (jag R) (k + 1)) w3 from hR3); have HS3 := hid (HSk.out.trans hs3); clear hR3 hs3; go_wp2
     go_roundw
     case rel => first | exact ⟨k + 1, G3, by omega, by go_num, HR3, HS3⟩ | ((repeat apply Exists.intro); exact ⟨⟨k + 1, G3, by omega, by go_num, HR3, HS3⟩, rfl⟩)
     case measure => simp [intOf]; omega
   · have k1 : ¬ (k : Int) < 3 := by omega
     obtain rfl : k = 3 := by omega
     obtain ⟨V3, hV3⟩ : ∃ V3, V3 = wr := ⟨_, rfl⟩; subst hV3; have HV := hid (show RoomM K Cs B b G' (st 0) V3 from by rw [H0.out]; exact HRk.out); go_wp2
     go_loopw [36] (fun i wr => ∃ (k : Nat) (G' : List Nat), k ≤ 3 ∧ i = .int .i64 k ∧ Hid (RoomM K Cs B b G' (st k) wr) ∧ Hid (Stp b G w G' wr)) (fun i _ => 3 - (intOf i).toNat)
     case atStart => exact ⟨0, G', by omega, rfl, HV, HSk⟩
     case round =>
      obtain ⟨k, G', hk, rfl, HRk, HSk⟩ := hrel
      by_cases hlt : k < 3
      · have k1 : (k : Int) < 3 := by omega
        have k0 : (0 : Int) ≤ (k : Int) := by omega
        have HRL := hid (HW.out k G' wr hlt (HR.out.low HSk.out) HRk.out); go_wp2_with fail; refine HRL.out.mono ?_; rintro e w3 ⟨rfl, G3, hR3, hs3⟩; have HR3 := hid hR3; have HS3 := hid (HSk.out.trans hs3); clear hR3 hs3; go_wp2
        go_roundw
        case rel => first | exact ⟨k + 1, G3, by omega, by go_num, HR3, HS3⟩ | ((repeat apply Exists.intro); exact ⟨⟨k + 1, G3, by omega, by go_num, HR3, HS3⟩, rfl⟩)
        case measure => simp [intOf]; omega
      · have k1 : ¬ (k : Int) < 3 := by omega
        obtain rfl : k = 3 := by omega
        go_wp2; go_end0; exact ⟨rfl, G', HRk.out, HSk.out⟩
def jcC : Acu := ⟨2, 0, 0, 0, [], jmr⟩
theorem jl8 (K : List (List UInt8)) (Cs : List (List Cmd)) (B b : Nat) (G : List Nat) (R : Rom) (w : World) (hR : RoomM K Cs B b G R w) (hup : R.up = true) (R2 : Rom)
 (hS : ∀ w', Below w.heap.size w w' → Calls Tryz.prog 27 #[.pointer (some ⟨b, 0, none⟩)] w' (RmQ K Cs B b G w' R2 (.tuple #[]))) :
 Calls Tryz.prog 15 #[.pointer (some ⟨b, 0, none⟩), .agg (acuC jcC).toArray] w (RmQ K Cs B b G w R2 (.tuple #[])) := by
 obtain ⟨W1, hW1⟩ : ∃ W1, W1 = w.alloc (.cells (acuC jcC).toArray 34) := ⟨_, rfl⟩; have hB1 : Below w.heap.size w W1 := by rw [hW1]; exact nb0 _ _
 have hx : W1.heap[w.heap.size]? = some (.cells (acuC jcC).toArray 34) := by rw [hW1]; exact heap_alloc_new w _
 have p0 : W1.cell? ⟨w.heap.size, 0, none⟩ = some (.int .i64 2) := by simp [World.cell?, hx, acuC, jcC]
 have c0 := (hR.next hB1).up; rw [hup] at c0; have HS := hid (fun (w' : World) (h : Below W1.heap.size W1 w') => hS w' (hB1.trans (h.mono hB1.size))); have HB1 := hid hB1; have HWE := hid hW1; unfold acuC jcC jmr at HWE ⊢; clear hR hup hx hB1 hW1 hS; go_enter Tryz.func15, Tryz.ntmps15; go_wp2; rw [← HWE.out]; have hg3 : decide ((2 : Int) = 5) = false := by decide
 go_quiet (fail)
 have HBQ := hid (qR W1 nq); go_wp2_with fail; refine (HS.out _ HBQ.out).mono ?_; rintro e w4 ⟨rfl, G4, hR4, hs4⟩; have HF := hid (show RmQ K Cs B b G w R2 (.tuple #[]) (.returned (.tuple #[])) w4 from ⟨rfl, G4, hR4, ((Stp.of HB1.out).trans (Stp.of HBQ.out)).trans hs4⟩); clear hR4 hs4; go_wp2; go_end0; exact HF.out
structure OutM (N : Nat) (w : World) (R : Rom) (vc vo vs : Value) : Prop where
 co : RowM (N ≤ ·) 1 (fun l cs => ∃ v, cs = [v] ∧ IntsM (N ≤ ·) w v l) w vc [R.c0.told, R.c1.told, R.c2.told]
 od : RowM (N ≤ ·) 1 (fun l cs => ∃ v, cs = [v] ∧ IntsM (N ≤ ·) w v l) w vo R.orders
 sf : RowM (N ≤ ·) 2 (SttV (N ≤ ·) w) w vs R.safe
def OutP (N : Nat) (w : World) (R : Rom) (e : Ending) (w' : World) : Prop := ∃ ac cc ao co as_ cs, e = .returned (.agg #[.bool R.up, .slice ac 3 cc, .slice ao R.orders.length co, .slice as_ R.safe.length cs, .int .i64 R.waits]) ∧ OutM N w' R (.slice ac 3 cc) (.slice ao R.orders.length co) (.slice as_ R.safe.length cs) ∧ Below w.heap.size w w'
def OuB (w : World) (v0 v1 v2 v3 v4 p : Value) (wx : World) : Prop := p = .pointer (some ⟨w.heap.size, 0, none⟩) ∧ wx.heap[w.heap.size]? = some (.cells #[v0, v1, v2, v3, v4] 28) ∧ Below w.heap.size w wx
theorem OuB.new {w : World} (v0 v1 v2 v3 v4 : Value) : OuB w v0 v1 v2 v3 v4 (.pointer (some ⟨w.heap.size, 0, none⟩)) (w.alloc (.cells #[v0, v1, v2, v3, v4] 28)).drew :=
 ⟨rfl, heap_alloc_new w _, (nb0 _ _).drew⟩
theorem jhy {w : World} {b : Nat} {R : Rom} {X : Vals} (h : RmB w b (vr R X)) : w.rangeAt b 7 (conC R.c0 X.c0 ++ conC R.c1 X.c1 ++ conC R.c2 X.c2) := by
 intro j v hj; have hl : j < 27 := by
  have := (List.getElem?_eq_some_iff.1 hj).1
  simpa [conC] using this
 refine h.cell ?_; rw [← hj]; unfold vr; rw [List.append_assoc, List.append_assoc, List.append_assoc, List.getElem?_append_right (by simp), show (7 + j - _ : Nat) = j by simp, ← List.append_assoc, ← List.append_assoc]; exact List.getElem?_append_left (by simpa [conC] using hl)
theorem jmd (x0 x1 x2 x3 x4 x5 x6 x7 x8 x9 x10 x11 x12 x13 x14 x15 x16 x17 x18 x19 x20 x21 x22 x23 x24 x25 x26 : Value) : (∀ u, (Instr.index 82 (.agg #[x0, x1, x2, x3, x4, x5, x6, x7, x8, x9, x10, x11, x12, x13, x14, x15, x16, x17, x18, x19, x20, x21, x22, x23, x24, x25, x26]) (.int .i64 0)).run Tryz.prog u = .ok (.agg #[x0, x1, x2, x3, x4, x5, x6, x7, x8]) u) ∧
 (∀ u, (Instr.index 82 (.agg #[x0, x1, x2, x3, x4, x5, x6, x7, x8, x9, x10, x11, x12, x13, x14, x15, x16, x17, x18, x19, x20, x21, x22, x23, x24, x25, x26]) (.int .i64 1)).run Tryz.prog u = .ok (.agg #[x9, x10, x11, x12, x13, x14, x15, x16, x17]) u) ∧
 (∀ u, (Instr.index 82 (.agg #[x0, x1, x2, x3, x4, x5, x6, x7, x8, x9, x10, x11, x12, x13, x14, x15, x16, x17, x18, x19, x20, x21, x22, x23, x24, x25, x26]) (.int .i64 2)).run Tryz.prog u = .ok (.agg #[x18, x19, x20, x21, x22, x23, x24, x25, x26]) u) := by
 refine ⟨fun u => ?_, fun u => ?_, fun u => ?_⟩ <;> simp [Instr.index, run_underlying Tryz.underlying82, asIntOf, go_sem]
theorem put5 {w : World} {b : Nat} {t : TypeId} (v0 v1 v2 v3 v4 : Value) {u0 u1 u2 u3 u4 : Value} (h : w.heap[b]? = some (.cells #[u0, u1, u2, u3, u4] t)) : (((((w.setCell ⟨b, 0, none⟩ v0).setCell ⟨b, 1, none⟩ v1).setCell ⟨b, 2, none⟩ v2).setCell ⟨b, 3, none⟩ v3).setCell ⟨b, 4, none⟩ v4).heap[b]? = some (.cells #[v0, v1, v2, v3, v4] t) := by
 have h := heap_setCell_same _ b 0 _ t v0 h; have h := heap_setCell_same _ b 1 _ t v1 h; have h := heap_setCell_same _ b 2 _ t v2 h; have h := heap_setCell_same _ b 3 _ t v3 h; have h := heap_setCell_same _ b 4 _ t v4 h
 simpa using h
theorem jbz {w : World} {B : Nat} {t : TypeId} {v : Value} {l : List Int} (h : w.ownsRow B t 1 v l.length (l.map fun k => .int .i64 k)) : IntsM (B ≤ ·) w v l := by
 refine jam h ?_ fun g hg => (World.ownsRow.lt h g hg).1
 rcases h.2 with ⟨_, h0⟩ | ⟨g, cap, cur, _, _, _, h1, h2, _⟩
 · omega
 · omega
theorem jji {N : Nat} {w : World} {v : Value} {vs : List Value} {ls : List (List Int)} (h : RowM (N ≤ ·) 1 (fun x cs => cs = [x]) w v vs) (hl : vs.length = ls.length) (hx : ∀ (i : Nat) x l, vs[i]? = some x → ls[i]? = some l → IntsM (N ≤ ·) w x l) : RowM (N ≤ ·) 1 (fun l cs => ∃ v, cs = [v] ∧ IntsM (N ≤ ·) w v l) w v ls := by
 obtain ⟨a, c, hv, hm, hr⟩ := h; refine ⟨a, c, by rw [← hl]; exact hv, by rw [← hl]; exact hm, fun i l hi => ?_⟩; have hi' : i < vs.length := by rw [hl]; exact (List.getElem?_eq_some_iff.1 hi).1
 obtain ⟨b, o, cs, h1, h2, h3, h4, h5, h6⟩ := hr i vs[i] (List.getElem?_eq_getElem hi'); exact ⟨b, o, cs, h1, h2, h3, h4, h5, _, h6, hx i _ l (List.getElem?_eq_getElem hi') hi⟩
theorem jnh {K : List (List UInt8)} {Cs : List (List Cmd)} {B b : Nat} {G : List Nat} {R : Rom} {X : Vals} {w w' : World} {vc vo vs : Value} (hM : MOk w B b (jZ R X)) (hQ : RoM (AvN B b G) w K Cs R X) (hb : Below w.heap.size w w') (hc : RowM (B ≤ ·) 1 (fun x cs => cs = [x]) w' vc [X.c0.l, X.c1.l, X.c2.l]) (hv : X.od = vo) (hs : X.sf = vs) : OutM B w' R vc vo vs := by
 have hM' := hM.next hb; have hi : ∀ r ∈ jZ R X, w'.ownsRow B r.e r.k r.v r.n r.xs := hM'.own; have t0 : IntsM (B ≤ ·) w' X.c0.l R.c0.told := jbz (hi (intR 3 X.c0.l R.c0.told) (by simp [jZ])); have t1 : IntsM (B ≤ ·) w' X.c1.l R.c1.told := jbz (hi (intR 3 X.c1.l R.c1.told) (by simp [jZ])); have t2 : IntsM (B ≤ ·) w' X.c2.l R.c2.told := jbz (hi (intR 3 X.c2.l R.c2.told) (by simp [jZ])); have ho : ∀ u, u < 3 → IntsM (B ≤ ·) w' (X.os.getD u (.slice none 0 0)) (R.orders.getD u []) := fun u hu => jbz (hi (intR 40 (X.os.getD u (.slice none 0 0)) (R.orders.getD u [])) (by
  unfold jZ; exact List.mem_append_right _ (List.mem_map.2 ⟨u, List.mem_range.2 hu, rfl⟩)))
 refine ⟨jji hc rfl fun i x l h1 h2 => ?_, ?_, ?_⟩
 · match i, h1, h2 with
   | 0, h1, h2 => cases h1; cases h2; exact t0
   | 1, h1, h2 => cases h1; cases h2; exact t1
   | 2, h1, h2 => cases h1; cases h2; exact t2
   | n + 3, h1, h2 => simp at h1
 · have hod := hi (ordR X.od X.os) (by simp [jZ]); rw [← hv]; refine jji (jam (f := fun x => x) (by simpa [ordR] using hod) (by rw [hQ.os.1]; unfold maxLen; decide) fun g hg => (World.ownsRow.lt hod g hg).1) (by rw [hQ.os.1, hQ.os.2]) fun i x l h1 h2 => ?_
   have h3 : i < 3 := by rw [← hQ.os.1]; exact (List.getElem?_eq_some_iff.1 h1).1
   have := ho i h3; rw [List.getD_eq_getElem?_getD, List.getD_eq_getElem?_getD, h1, h2] at this; exact this
 · rw [← hs]; exact RowM.imp hQ.sf (fun _ h => h.1) (Keeps.of_below hb) fun s cs h => by
    obtain ⟨vb, vs, e, h⟩ := h; exact ⟨vb, vs, e, h.imp (fun _ h => h.1) (Keeps.of_below hb)⟩
theorem jm1 : (Tryz.prog.info? 82).map (·.size) = some 27 := by kernel_rfl
theorem jm2 : (Tryz.prog.info? 36).map (fun i => (i.zero, i.size, i.bytes)) = some (some (.slice none 0 0), 1, 24) := by kernel_rfl
theorem jfv (K : List (List UInt8)) (Cs : List (List Cmd)) (B b : Nat) (G : List Nat) (R : Rom) (w : World) (hR : RoomM K Cs B b G R w) :
 Calls Tryz.prog 16 #[.pointer (some ⟨b, 0, none⟩)] w (OutP B w R) := by
 obtain ⟨X, hG, hB, hX, hM, hQ⟩ := hR; obtain ⟨asf, csf, hsf⟩ := RowM.slice hQ.sf; have hod := hM.own (ordR X.od X.os) (by simp [jZ]); obtain ⟨aod, cod, hodv, _⟩ := qM hod; simp only [ordR] at hodv; rw [hQ.os.1] at hodv; obtain ⟨i0, hi0, hz0, hz1, hz2⟩ := info_parts jm2; have hs : ∀ i, i < 3 → ∃ a c a' c' a'' c'', (X.con i).l = .slice a (R.con i).told.length c ∧ (X.con i).t = .slice a' (R.con i).ses.to.length c' ∧ (X.con i).d = .slice a'' (R.con i).due.length c'' := fun i hi => by
  obtain ⟨A, Z, hA, _⟩ := vK R X hi; obtain ⟨a, c, h, _⟩ := qM (hM.own (intR 3 (X.con i).l (R.con i).told) (by rw [hA]; simp)); obtain ⟨a', c', h'⟩ := RowM.slice (hQ.con hi).gl; obtain ⟨a'', c'', h''⟩ := qg (hQ.con hi).du; exact ⟨a, c, a', c', a'', c'', h, h', h''⟩
 obtain ⟨al0, cl0, at0, ct0, ad0, cd0, el0, et0, ed0⟩ := hs 0 (by omega); obtain ⟨al1, cl1, at1, ct1, ad1, cd1, el1, et1, ed1⟩ := hs 1 (by omega); obtain ⟨al2, cl2, at2, ct2, ad2, cd2, el2, et2, ed2⟩ := hs 2 (by omega); simp only [Vals.con, Rom.con] at el0 et0 ed0 el1 et1 ed1 el2 et2 ed2; obtain ⟨W1, hW1⟩ : ∃ W1, W1 = w.alloc (.cells #[.bool false, .slice none 0 0, .slice none 0 0, .slice none 0 0, .int .i64 0] 28) := ⟨_, rfl⟩; have hB1 : Below w.heap.size w W1 := by rw [hW1]; exact nb0 _ _
 have hX1 := hX.next hB1; have x0 : W1.cell? ⟨b, 0, none⟩ = some (.bool R.up) := hX1.cell rfl; have x4 : W1.cell? ⟨b, 4, none⟩ = some (.int .i64 R.waits) := hX1.cell rfl; have x5 : W1.cell? ⟨b, 5, none⟩ = some (.slice asf R.safe.length csf) := hX1.cell (by rw [← hsf]; rfl); have x36 : W1.cell? ⟨b, 36, none⟩ = some (.slice aod 3 cod) := hX1.cell (by rw [← hodv]; rfl); have HC := hid (show ∀ u, Below W1.heap.size W1 u → u.cell? ⟨b, 0, none⟩ = some (.bool R.up) ∧ u.cell? ⟨b, 4, none⟩ = some (.int .i64 R.waits) ∧ u.cell? ⟨b, 5, none⟩ = some (.slice asf R.safe.length csf) ∧ u.cell? ⟨b, 36, none⟩ = some (.slice aod 3 cod) from
  fun u hu => ⟨ja x0 hu, ja x4 hu, ja x5 hu, ja x36 hu⟩)
 have HX := hid hX; have HWE := hid hW1; have HB1 := hid hB1; have HQ := hid hQ; have HM := hid hM; clear hG hX hM hQ hX1 hW1 hB1 hod; go_enter Tryz.func16, Tryz.ntmps16; go_upto_region 1 with fail
 rw [← HWE.out]
 go_cut [3] (fun p wx => OuB W1 (.bool R.up) (.slice none 0 0) (.slice aod 3 cod) (.slice asf R.safe.length csf) (.int .i64 R.waits) p wx)
 case first =>
  go_region_held3 (fun u => u.cell? ⟨b, 0, none⟩ = some (.bool R.up) ∧ u.cell? ⟨b, 4, none⟩ = some (.int .i64 R.waits) ∧ u.cell? ⟨b, 5, none⟩ = some (.slice asf R.safe.length csf) ∧ u.cell? ⟨b, 36, none⟩ = some (.slice aod 3 cod))
   (first | (refine HC.out _ ?_; (repeat (first | with_reducible exact Below.refl _ _ | with_reducible refine Below.drew ?_ | with_reducible refine Below.alloc ?_ (by first | exact Nat.le_refl _ | simp) _ | with_reducible refine Below.setCell ?_ (by first | exact Nat.le_refl _ | simp) _))) | fail)
   (fail)
  all_goals (go_wp2_with fail; go_meet; exact OuB.new _ _ _ _ _)
 case rest =>
  obtain ⟨hp, hP, hbP⟩ := hcut; subst hp; obtain ⟨W2, rfl⟩ : ∃ W, W = wc := ⟨_, rfl⟩; have HP := hid hP; have HBP := hid hbP; have hRg := jhy (HX.out.next (HB1.out.trans (hbP.mono HB1.out.size))); unfold conC at hRg; simp only [List.cons_append, List.nil_append, el0, et0, ed0, el1, et1, ed1, el2, et2, ed2] at hRg; have HRg := hid hRg; have HEL := hid (And.intro el0 (And.intro el1 el2)); clear hRg hP hbP x0 x4 x5 x36 HC el0 et0 ed0 el1 et1 ed1 el2 et2 ed2 hs; go_upto_region 2 with fail
  refine wp_region_lit ?_; refine wpList_plain rfl (fun K hK => ?_)
  go_simp
  refine hK _ _ ?_; clear hK K; refine wpList_plain rfl (fun K hK => ?_)
  go_simp
  refine hK _ _ ?_; clear hK K; refine wpList_plain rfl (fun K hK => ?_)
  go_simp
  refine hK _ _ ?_; clear hK K; refine wpList_load_mid rfl 82 _ rfl b 7 rfl _ _ HRg.out Tryz.underlying82 rfl jm1 ?_; simp only [Act.put, List.setIfInBounds_toArray, List.set_cons_zero, List.set_cons_succ]; go_wp2
  go_loopw [29] (fun i wr => ∃ (k : Nat) (a9 : Option Addr) (c9 : Nat), ((k = 0 ∧ i = .int .i64 0) ∨ (k = 1 ∧ i = .int .i64 1) ∨ (k = 2 ∧ i = .int .i64 2) ∨ (k = 3 ∧ i = .int .i64 3)) ∧ Hid (wr.heap[W1.heap.size]? = some (.cells #[.bool R.up, .slice a9 k c9, .slice aod 3 cod, .slice asf R.safe.length csf, .int .i64 R.waits] 28)) ∧ Hid (wr.ownsRow W2.heap.size 36 1 (.slice a9 k c9) k ([Value.slice al0 R.c0.told.length cl0, .slice al1 R.c1.told.length cl1, .slice al2 R.c2.told.length cl2].take k)) ∧ Hid (Below W1.heap.size W1 wr) ∧ W2.heap.size ≤ wr.heap.size) (fun i _ => 3 - (intOf i).toNat)
  case atStart => exact ⟨0, none, 0, .inl ⟨rfl, rfl⟩, HP, hid (World.ownsRow_nil _ _ _ _), HBP, Nat.le_refl _⟩
  case round =>
   obtain ⟨k, a9, c9, hk, HPk, HOk, HBk, hwz⟩ := hrel; have hPk := HPk.out; obtain ⟨p0, p1, p2, p3, p4⟩ := bx5 hPk; clear hPk; obtain ⟨ix0, ix1, ix2⟩ := jmd (.int .i64 R.c0.ses.step) (.string (S R.c0.ses.frm.1)) (.string (S R.c0.ses.frm.2)) (.slice at0 R.c0.ses.to.length ct0) (.string (S R.c0.ses.text)) (.bool R.c0.ses.large) (.string (S R.c0.held)) (.slice ad0 R.c0.due.length cd0) (.slice al0 R.c0.told.length cl0) (.int .i64 R.c1.ses.step) (.string (S R.c1.ses.frm.1)) (.string (S R.c1.ses.frm.2)) (.slice at1 R.c1.ses.to.length ct1) (.string (S R.c1.ses.text)) (.bool R.c1.ses.large) (.string (S R.c1.held)) (.slice ad1 R.c1.due.length cd1) (.slice al1 R.c1.told.length cl1) (.int .i64 R.c2.ses.step) (.string (S R.c2.ses.frm.1)) (.string (S R.c2.ses.frm.2)) (.slice at2 R.c2.ses.to.length ct2) (.string (S R.c2.ses.text)) (.bool R.c2.ses.large) (.string (S R.c2.held)) (.slice ad2 R.c2.due.length cd2) (.slice al2 R.c2.told.length cl2); have hPW : W1.heap.size < W2.heap.size := (Array.getElem?_eq_some_iff.1 HP.out).1; have hPr : W1.heap.size < wr.heap.size := (Array.getElem?_eq_some_iff.1 HPk.out).1; obtain ⟨rfl, rfl⟩ | ⟨rfl, rfl⟩ | ⟨rfl, rfl⟩ | ⟨rfl, rfl⟩ := hk
   · obtain ⟨W3, hW3⟩ : ∃ W3, W3 = wr.alloc (.cells #[.int .i64 R.c0.ses.step, .string (S R.c0.ses.frm.1), .string (S R.c0.ses.frm.2), .slice at0 R.c0.ses.to.length ct0, .string (S R.c0.ses.text), .bool R.c0.ses.large, .string (S R.c0.held), .slice ad0 R.c0.due.length cd0, .slice al0 R.c0.told.length cl0] 81) := ⟨_, rfl⟩; have hb3 : Below wr.heap.size wr W3 := by rw [hW3]; exact nb0 _ _
     have hx3 : W3.heap[wr.heap.size]? = some (.cells #[.int .i64 R.c0.ses.step, .string (S R.c0.ses.frm.1), .string (S R.c0.ses.frm.2), .slice at0 R.c0.ses.to.length ct0, .string (S R.c0.ses.text), .bool R.c0.ses.large, .string (S R.c0.held), .slice ad0 R.c0.due.length cd0, .slice al0 R.c0.told.length cl0] 81) := by rw [hW3]; exact heap_alloc_new wr _
     have x8 : W3.cell? ⟨wr.heap.size, 8, none⟩ = some (Value.slice al0 R.c0.told.length cl0) := by simp [World.cell?, hx3]
     have p1 := ja p1 hb3; have HWE3 := hid hW3; have HB3 := hid hb3; have HO3 := hid (j2 HOk.out hb3); have hl3 := hb3.size; have HP3 := hid ((hb3.block W1.heap.size hPr).trans HPk.out); clear hW3 hb3 hx3; go_upto_region 5 with fail
     rw [← HWE3.out]; clear ix0 ix1 ix2
     go_wp2_with (first
      | (at_builtin; refine wpList_append_lies _ rfl _ _ 24 rfl W2.heap.size 36 i0 _ 1 24 Tryz.underlying24 hi0 hz0 hz1 hz2 rfl (by decide) (.slice a9 0 c9) 0 ([Value.slice al0 R.c0.told.length cl0, Value.slice al1 R.c1.told.length cl1, Value.slice al2 R.c2.told.length cl2].take 0) rfl (World.ownsRow.alloc HO3.out _) ⟨W3.heap.size, 0, none⟩ 1 1 [Value.slice al0 R.c0.told.length cl0] rfl rfl (qk W3 [Value.slice al0 R.c0.told.length cl0] _) (by simp [Value.oneCell']) (by decide) (by unfold maxLen; decide) (by decide) ?c4 _ rfl ?_)
      | fail)
     case c4 => simp; omega
     intro gm cap w4 hown hgrow hat hlt4; have hne : some W1.heap.size ≠ (Value.slice a9 0 c9).ownBlock := fun e => by have := (World.ownsRow.lt HOk.out _ e.symm).1; omega
     have hP4 : w4.heap[W1.heap.size]? = some (.cells #[.bool R.up, .slice a9 0 c9, .slice aod 3 cod, .slice asf R.safe.length csf, .int .i64 R.waits] 28) := (hgrow.block W1.heap.size (by simp; omega) hne).trans ((((Below.refl _ W3).alloc (Nat.le_refl _) _).block W1.heap.size (by omega)).trans HP3.out); have y1 : w4.cell? ⟨W1.heap.size, 1, none⟩ = some (.slice a9 0 c9) := by simp [World.cell?, hP4]
     have yf : w4.frozen? ⟨W1.heap.size, 1, none⟩ = false := by simp [World.frozen?, hP4]
     have hgm : W2.heap.size ≤ gm := by
      rcases hat with e | e
      · exact (World.ownsRow.lt HOk.out gm e).1
      · have e' : gm = W3.heap.size + 1 := by simpa using e
        omega
     obtain ⟨W5, hW5⟩ : ∃ W5, W5 = w4.setCell ⟨W1.heap.size, 1, none⟩ (.slice (some ⟨gm, 0, none⟩) (0 + 1) cap) := ⟨_, rfl⟩; have HB4 := hid (show Below W1.heap.size W1 W5 by
      rw [hW5]; exact ((((HBk.out.trans (HB3.out.mono HBk.out.size)).alloc (show W1.heap.size ≤ W3.heap.size by omega) _).grown hgrow (Nat.le_trans (show W1.heap.size ≤ W3.heap.size by omega) (by simp)) (fun j hj => by have := (World.ownsRow.lt HOk.out j hj).1; omega))).setCell (Nat.le_refl _) _)
     have HP5 := hid (show W5.heap[W1.heap.size]? = some (.cells #[.bool R.up, .slice (some ⟨gm, 0, none⟩) (0 + 1) cap, .slice aod 3 cod, .slice asf R.safe.length csf, .int .i64 R.waits] 28) by
      rw [hW5]; have h := heap_setCell_same w4 W1.heap.size 1 _ _ (.slice (some ⟨gm, 0, none⟩) (0 + 1) cap) hP4
      simpa using h)
     have HO5 := hid (show W5.ownsRow W2.heap.size 36 1 (.slice (some ⟨gm, 0, none⟩) (0 + 1) cap) (0 + 1) ([Value.slice al0 R.c0.told.length cl0, Value.slice al1 R.c1.told.length cl1, Value.slice al2 R.c2.told.length cl2].take (0 + 1)) by
      rw [hW5]; exact jI hown fun g hg => Below.heap_setCell _ _ _ _ (show g ≠ W1.heap.size from fun e => by have : gm = g := Option.some.inj hg; omega))
     have hwz5 : W2.heap.size ≤ W5.heap.size := by
      rw [hW5]; have h := hgrow.size
      simp [World.setCell] at h ⊢
      omega
     have HW5 := hid hW5; clear hown hgrow hat hlt4 hne hP4 hW5; go_wp2; rw [← HW5.out]
     go_roundw
     case rel => exact ⟨0 + 1, _, cap, .inr (.inl ⟨rfl, rfl⟩), HP5, HO5, HB4, hwz5⟩
     case measure => simp [intOf]
   · obtain ⟨W3, hW3⟩ : ∃ W3, W3 = wr.alloc (.cells #[.int .i64 R.c1.ses.step, .string (S R.c1.ses.frm.1), .string (S R.c1.ses.frm.2), .slice at1 R.c1.ses.to.length ct1, .string (S R.c1.ses.text), .bool R.c1.ses.large, .string (S R.c1.held), .slice ad1 R.c1.due.length cd1, .slice al1 R.c1.told.length cl1] 81) := ⟨_, rfl⟩; have hb3 : Below wr.heap.size wr W3 := by rw [hW3]; exact nb0 _ _
     have hx3 : W3.heap[wr.heap.size]? = some (.cells #[.int .i64 R.c1.ses.step, .string (S R.c1.ses.frm.1), .string (S R.c1.ses.frm.2), .slice at1 R.c1.ses.to.length ct1, .string (S R.c1.ses.text), .bool R.c1.ses.large, .string (S R.c1.held), .slice ad1 R.c1.due.length cd1, .slice al1 R.c1.told.length cl1] 81) := by rw [hW3]; exact heap_alloc_new wr _
     have x8 : W3.cell? ⟨wr.heap.size, 8, none⟩ = some (Value.slice al1 R.c1.told.length cl1) := by simp [World.cell?, hx3]
     have p1 := ja p1 hb3; have HWE3 := hid hW3; have HB3 := hid hb3; have HO3 := hid (j2 HOk.out hb3); have hl3 := hb3.size; have HP3 := hid ((hb3.block W1.heap.size hPr).trans HPk.out); clear hW3 hb3 hx3; go_upto_region 5 with fail
     rw [← HWE3.out]; clear ix0 ix1 ix2
     go_wp2_with (first
      | (at_builtin; refine wpList_append_lies _ rfl _ _ 24 rfl W2.heap.size 36 i0 _ 1 24 Tryz.underlying24 hi0 hz0 hz1 hz2 rfl (by decide) (.slice a9 1 c9) 1 ([Value.slice al0 R.c0.told.length cl0, Value.slice al1 R.c1.told.length cl1, Value.slice al2 R.c2.told.length cl2].take 1) rfl (World.ownsRow.alloc HO3.out _) ⟨W3.heap.size, 0, none⟩ 1 1 [Value.slice al1 R.c1.told.length cl1] rfl rfl (qk W3 [Value.slice al1 R.c1.told.length cl1] _) (by simp [Value.oneCell']) (by decide) (by unfold maxLen; decide) (by decide) ?c4 _ rfl ?_)
      | fail)
     case c4 => simp; omega
     intro gm cap w4 hown hgrow hat hlt4; have hne : some W1.heap.size ≠ (Value.slice a9 1 c9).ownBlock := fun e => by have := (World.ownsRow.lt HOk.out _ e.symm).1; omega
     have hP4 : w4.heap[W1.heap.size]? = some (.cells #[.bool R.up, .slice a9 1 c9, .slice aod 3 cod, .slice asf R.safe.length csf, .int .i64 R.waits] 28) := (hgrow.block W1.heap.size (by simp; omega) hne).trans ((((Below.refl _ W3).alloc (Nat.le_refl _) _).block W1.heap.size (by omega)).trans HP3.out); have y1 : w4.cell? ⟨W1.heap.size, 1, none⟩ = some (.slice a9 1 c9) := by simp [World.cell?, hP4]
     have yf : w4.frozen? ⟨W1.heap.size, 1, none⟩ = false := by simp [World.frozen?, hP4]
     have hgm : W2.heap.size ≤ gm := by
      rcases hat with e | e
      · exact (World.ownsRow.lt HOk.out gm e).1
      · have e' : gm = W3.heap.size + 1 := by simpa using e
        omega
     obtain ⟨W5, hW5⟩ : ∃ W5, W5 = w4.setCell ⟨W1.heap.size, 1, none⟩ (.slice (some ⟨gm, 0, none⟩) (1 + 1) cap) := ⟨_, rfl⟩; have HB4 := hid (show Below W1.heap.size W1 W5 by
      rw [hW5]; exact ((((HBk.out.trans (HB3.out.mono HBk.out.size)).alloc (show W1.heap.size ≤ W3.heap.size by omega) _).grown hgrow (Nat.le_trans (show W1.heap.size ≤ W3.heap.size by omega) (by simp)) (fun j hj => by have := (World.ownsRow.lt HOk.out j hj).1; omega))).setCell (Nat.le_refl _) _)
     have HP5 := hid (show W5.heap[W1.heap.size]? = some (.cells #[.bool R.up, .slice (some ⟨gm, 0, none⟩) (1 + 1) cap, .slice aod 3 cod, .slice asf R.safe.length csf, .int .i64 R.waits] 28) by
      rw [hW5]; have h := heap_setCell_same w4 W1.heap.size 1 _ _ (.slice (some ⟨gm, 0, none⟩) (1 + 1) cap) hP4
      simpa using h)
     have HO5 := hid (show W5.ownsRow W2.heap.size 36 1 (.slice (some ⟨gm, 0, none⟩) (1 + 1) cap) (1 + 1) ([Value.slice al0 R.c0.told.length cl0, Value.slice al1 R.c1.told.length cl1, Value.slice al2 R.c2.told.length cl2].take (1 + 1)) by
      rw [hW5]; exact jI hown fun g hg => Below.heap_setCell _ _ _ _ (show g ≠ W1.heap.size from fun e => by have : gm = g := Option.some.inj hg; omega))
     have hwz5 : W2.heap.size ≤ W5.heap.size := by
      rw [hW5]; have h := hgrow.size
      simp [World.setCell] at h ⊢
      omega
     have HW5 := hid hW5; clear hown hgrow hat hlt4 hne hP4 hW5; go_wp2; rw [← HW5.out]
     go_roundw
     case rel => exact ⟨1 + 1, _, cap, .inr (.inr (.inl ⟨rfl, rfl⟩)), HP5, HO5, HB4, hwz5⟩
     case measure => simp [intOf]
   · obtain ⟨W3, hW3⟩ : ∃ W3, W3 = wr.alloc (.cells #[.int .i64 R.c2.ses.step, .string (S R.c2.ses.frm.1), .string (S R.c2.ses.frm.2), .slice at2 R.c2.ses.to.length ct2, .string (S R.c2.ses.text), .bool R.c2.ses.large, .string (S R.c2.held), .slice ad2 R.c2.due.length cd2, .slice al2 R.c2.told.length cl2] 81) := ⟨_, rfl⟩; have hb3 : Below wr.heap.size wr W3 := by rw [hW3]; exact nb0 _ _
     have hx3 : W3.heap[wr.heap.size]? = some (.cells #[.int .i64 R.c2.ses.step, .string (S R.c2.ses.frm.1), .string (S R.c2.ses.frm.2), .slice at2 R.c2.ses.to.length ct2, .string (S R.c2.ses.text), .bool R.c2.ses.large, .string (S R.c2.held), .slice ad2 R.c2.due.length cd2, .slice al2 R.c2.told.length cl2] 81) := by rw [hW3]; exact heap_alloc_new wr _
     have x8 : W3.cell? ⟨wr.heap.size, 8, none⟩ = some (Value.slice al2 R.c2.told.length cl2) := by simp [World.cell?, hx3]
     have p1 := ja p1 hb3; have HWE3 := hid hW3; have HB3 := hid hb3; have HO3 := hid (j2 HOk.out hb3); have hl3 := hb3.size; have HP3 := hid ((hb3.block W1.heap.size hPr).trans HPk.out); clear hW3 hb3 hx3; go_upto_region 5 with fail
     rw [← HWE3.out]; clear ix0 ix1 ix2
     go_wp2_with (first
      | (at_builtin; refine wpList_append_lies _ rfl _ _ 24 rfl W2.heap.size 36 i0 _ 1 24 Tryz.underlying24 hi0 hz0 hz1 hz2 rfl (by decide) (.slice a9 2 c9) 2 ([Value.slice al0 R.c0.told.length cl0, Value.slice al1 R.c1.told.length cl1, Value.slice al2 R.c2.told.length cl2].take 2) rfl (World.ownsRow.alloc HO3.out _) ⟨W3.heap.size, 0, none⟩ 1 1 [Value.slice al2 R.c2.told.length cl2] rfl rfl (qk W3 [Value.slice al2 R.c2.told.length cl2] _) (by simp [Value.oneCell']) (by decide) (by unfold maxLen; decide) (by decide) ?c4 _ rfl ?_)
      | fail)
     case c4 => simp; omega
     intro gm cap w4 hown hgrow hat hlt4; have hne : some W1.heap.size ≠ (Value.slice a9 2 c9).ownBlock := fun e => by have := (World.ownsRow.lt HOk.out _ e.symm).1; omega
     have hP4 : w4.heap[W1.heap.size]? = some (.cells #[.bool R.up, .slice a9 2 c9, .slice aod 3 cod, .slice asf R.safe.length csf, .int .i64 R.waits] 28) := (hgrow.block W1.heap.size (by simp; omega) hne).trans ((((Below.refl _ W3).alloc (Nat.le_refl _) _).block W1.heap.size (by omega)).trans HP3.out); have y1 : w4.cell? ⟨W1.heap.size, 1, none⟩ = some (.slice a9 2 c9) := by simp [World.cell?, hP4]
     have yf : w4.frozen? ⟨W1.heap.size, 1, none⟩ = false := by simp [World.frozen?, hP4]
     have hgm : W2.heap.size ≤ gm := by
      rcases hat with e | e
      · exact (World.ownsRow.lt HOk.out gm e).1
      · have e' : gm = W3.heap.size + 1 := by simpa using e
        omega
     obtain ⟨W5, hW5⟩ : ∃ W5, W5 = w4.setCell ⟨W1.heap.size, 1, none⟩ (.slice (some ⟨gm, 0, none⟩) (2 + 1) cap) := ⟨_, rfl⟩; have HB4 := hid (show Below W1.heap.size W1 W5 by
      rw [hW5]; exact ((((HBk.out.trans (HB3.out.mono HBk.out.size)).alloc (show W1.heap.size ≤ W3.heap.size by omega) _).grown hgrow (Nat.le_trans (show W1.heap.size ≤ W3.heap.size by omega) (by simp)) (fun j hj => by have := (World.ownsRow.lt HOk.out j hj).1; omega))).setCell (Nat.le_refl _) _)
     have HP5 := hid (show W5.heap[W1.heap.size]? = some (.cells #[.bool R.up, .slice (some ⟨gm, 0, none⟩) (2 + 1) cap, .slice aod 3 cod, .slice asf R.safe.length csf, .int .i64 R.waits] 28) by
      rw [hW5]; have h := heap_setCell_same w4 W1.heap.size 1 _ _ (.slice (some ⟨gm, 0, none⟩) (2 + 1) cap) hP4
      simpa using h)
     have HO5 := hid (show W5.ownsRow W2.heap.size 36 1 (.slice (some ⟨gm, 0, none⟩) (2 + 1) cap) (2 + 1) ([Value.slice al0 R.c0.told.length cl0, Value.slice al1 R.c1.told.length cl1, Value.slice al2 R.c2.told.length cl2].take (2 + 1)) by
      rw [hW5]; exact jI hown fun g hg => Below.heap_setCell _ _ _ _ (show g ≠ W1.heap.size from fun e => by have : gm = g := Option.some.inj hg; omega))
     have hwz5 : W2.heap.size ≤ W5.heap.size := by
      rw [hW5]; have h := hgrow.size
      simp [World.setCell] at h ⊢
      omega
     have HW5 := hid hW5; clear hown hgrow hat hlt4 hne hP4 hW5; go_wp2; rw [← HW5.out]
     go_roundw
     case rel => exact ⟨2 + 1, _, cap, .inr (.inr (.inr ⟨rfl, rfl⟩)), HP5, HO5, HB4, hwz5⟩
     case measure => simp [intOf]
   · have hr : wr.heap[w.heap.size]? = some (.cells #[.bool false, .slice none 0 0, .slice none 0 0, .slice none 0 0, .int .i64 0] 28) := by
      have h := HBk.out.block w.heap.size (by rw [HWE.out]; simp); rw [h, HWE.out]; exact heap_alloc_new w _
     obtain ⟨r0, r1, r2, r3, r4⟩ := bx5 hr; have zf : ∀ o, wr.frozen? ⟨w.heap.size, o, none⟩ = false := fun o => by simp [World.frozen?, hr]
     have HR := hid hr; clear hr; have HBK := hid (show w.heap.size < W1.heap.size by rw [HWE.out]; simp); have HEND := hid (show ∀ w', Below w.heap.size w w' → (∀ g, w.heap.size < g → w'.heap[g]? = wr.heap[g]?) → OutM B w' R (.slice a9 3 c9) (.slice aod R.orders.length cod) (.slice asf R.safe.length csf) from fun w' hb hg => jnh HM.out HQ.out hb (by
      obtain ⟨e0, e1, e2⟩ := HEL.out; rw [e0, e1, e2]; exact jam (f := fun x => x) (jI HOk.out fun g h => hg g (by have := (World.ownsRow.lt HOk.out g h).1; have := HBK.out; omega)) (show 3 ≤ maxLen by unfold maxLen; decide) fun g h => (by have := (World.ownsRow.lt HOk.out g h).1; have := HBK.out; have := HM.out.lt; omega)) (by rw [HQ.out.os.2]; exact hodv) hsf)
     go_wp2; have m := put5 (w := wr) (b := w.heap.size) (.bool R.up) (.slice a9 3 c9) (.slice aod 3 cod) (.slice asf R.safe.length csf) (.int .i64 R.waits) HR.out; obtain ⟨W6, hW6⟩ : ∃ W6, W6 = (((((wr.setCell ⟨w.heap.size, 0, none⟩ (.bool R.up)).setCell ⟨w.heap.size, 1, none⟩ (.slice a9 3 c9)).setCell ⟨w.heap.size, 2, none⟩ (.slice aod 3 cod)).setCell ⟨w.heap.size, 3, none⟩ (.slice asf R.safe.length csf)).setCell ⟨w.heap.size, 4, none⟩ (.int .i64 R.waits)) := ⟨_, rfl⟩; rw [← hW6] at m ⊢; obtain ⟨m0, m1, m2, m3, m4⟩ := bx5 m; refine bodyPost_ret (v := .agg #[.bool R.up, .slice a9 3 c9, .slice aod 3 cod, .slice asf R.safe.length csf, .int .i64 R.waits]) (by simp only [results, Tryz.results16]; simp [go_sem, m0, m1, m2, m3, m4]) rfl ?_; have ho3 := HQ.out.os.2; have hB6 : Below w.heap.size w W6 := by
      rw [hW6]; exact (((((HB1.out.trans (HBk.out.mono HB1.out.size)).setCell (Nat.le_refl _) _).setCell (Nat.le_refl _) _).setCell (Nat.le_refl _) _).setCell (Nat.le_refl _) _).setCell (Nat.le_refl _) _
     refine ⟨a9, c9, aod, cod, asf, csf, by rw [ho3], HEND.out W6 hB6 fun g hg => ?_, hB6⟩; rw [hW6]; have hn : g ≠ w.heap.size := by omega
     exact (Below.heap_setCell _ _ _ _ hn).trans ((Below.heap_setCell _ _ _ _ hn).trans ((Below.heap_setCell _ _ _ _ hn).trans ((Below.heap_setCell _ _ _ _ hn).trans (Below.heap_setCell _ _ _ _ hn))))
def inbS : Stt := ⟨[⟨[73, 78, 66, 79, 88], 1, []⟩], []⟩
def con0 : Con := ⟨atS 0, [], [], []⟩
def rom0 : Rom := ⟨true, [], 0, 0, 0, [inbS, inbS, inbS], [inbS, inbS, inbS], con0, con0, con0, [[], [], []], []⟩
theorem jhJ {w : World} {g g' : Nat} {c c' : Array Value} {t t' : TypeId} {f f' : Nat × Nat} (h : w.heap[g]? = some (.cells c t f)) (h' : w.heap[g']? = some (.cells c' t' f')) (hne : t ≠ t') : g ≠ g' := fun e => by
 subst e; rw [h] at h'; cases h'; exact hne rfl
theorem qy {w : World} {B n k g : Nat} {e : TypeId} {v : Value} {xs : List Value} (h : w.ownsRow B e k v n xs) (hg : v.ownBlock = some g) : ∃ cur, w.heap[g]? = some (.cells cur e (0, 0)) := by
 rcases h.2 with ⟨rfl, _⟩ | ⟨g', cap, cur, rfl, _, h', _⟩
 · cases hg
 · cases hg; exact ⟨cur, h'⟩
theorem jkU {A : Type} {Q : Nat → Prop} {P : A → List Value → Prop} {w : World} {v : Value} {vs : List Value} {ls : List A} (h : RowM Q 1 (fun x cs => cs = [x]) w v vs) (hl : vs.length = ls.length) (hx : ∀ (i : Nat) x l, vs[i]? = some x → ls[i]? = some l → P l [x]) : RowM Q 1 P w v ls := by
 obtain ⟨a, c, hv, hm, hr⟩ := h; refine ⟨a, c, by rw [← hl]; exact hv, by rw [← hl]; exact hm, fun i l hi => ?_⟩; have hi' : i < vs.length := by rw [hl]; exact (List.getElem?_eq_some_iff.1 hi).1
 obtain ⟨b, o, cs, h1, h2, h3, h4, h5, h6⟩ := hr i vs[i] (List.getElem?_eq_getElem hi'); exact ⟨b, o, cs, h1, h2, h3, h4, h5, by rw [h6]; exact hx i _ l (List.getElem?_eq_getElem hi') hi⟩
theorem jiy {w : World} {Q : Nat → Prop} {b : Nat} (h : w.heap[b]? = some (.cells #[.string ⟨#[73, 78, 66, 79, 88]⟩, .int .i64 1, .slice none 0 0] 67)) (hQ : Q b) : SttM Q w (.slice (some ⟨b, 0, none⟩) 1 1) (.slice none 0 0) inbS := by
 refine ⟨⟨some ⟨b, 0, none⟩, 1, rfl, by unfold maxLen; decide, fun i x hx => ?_⟩, jg _ _ _ _ _ _, fun a n c e => by cases e; exact Nat.le_refl _⟩
 match i, hx with
 | 0, hx =>
   cases hx; refine ⟨b, 0, boxC ⟨[73, 78, 66, 79, 88], 1, []⟩ (.slice none 0 0), rfl, (Array.getElem?_eq_some_iff.1 h).1, hQ, rfl, fun j u hj => ?_, _, rfl, jg _ _ _ _ _ _⟩; have hl : j < 3 := (List.getElem?_eq_some_iff.1 hj).1; simp only [World.cell?, h]
   match j, hl, hj with
   | 0, _, hj => cases hj; rfl
   | 1, _, hj => cases hj; rfl
   | 2, _, hj => cases hj; rfl
 | n + 1, hx => simp [inbS] at hx
theorem jef (bs : List Nat) : inbC bs = (bs.map fun b => [Value.slice (some ⟨b, 0, none⟩) 1 1, .slice none 0 0]).flatten := by
 simp [inbC, List.flatMap_def]
theorem RoomM.of_open {W W1 w' : World} {b : Nat} {v5 v6 v36 : Value} {L : List (List UInt8)} {Cs : List (List Cmd)} (h1 : RmB W1 b (jeA v5 v6 (.slice none 0 0) (.slice none 0 0) v36)) (hb : W.heap.size ≤ b) (hL : LdN W1 W.heap.size v5 v6) (hO : OwO W1 W.heap.size v36) (hI : RoI W1 W.heap.size b v5 v6 v36 L Cs w') (hW : W.heap.size ≤ W1.heap.size) (hLl : L.length ≤ 10) (hCl : Cs.length ≤ 10) :
 ∃ G, RoomM L Cs W.heap.size b G rom0 w' := by
 obtain ⟨bs, hbl, hin, h5, h6, hap⟩ := hL; obtain ⟨v34, v35, X, hX, hM, hS, hT⟩ := hI; have keep : ∀ k o, W1.heap[k]? = some o → k ≠ b → w'.heap[k]? = some o := fun k o hk hn => (hT.block k (Array.getElem?_eq_some_iff.1 hk).1 ⟨hn, by simp⟩).trans hk
 have far5 : ∀ g, v5.ownBlock = some g → g ≠ b := fun g hg => by obtain ⟨c, h⟩ := qy h5 hg; exact jhJ h h1.1 (by decide)
 have far6 : ∀ g, v6.ownBlock = some g → g ≠ b := fun g hg => by obtain ⟨c, h⟩ := qy h6 hg; exact jhJ h h1.1 (by decide)
 have farO : ∀ g, v36.ownBlock = some g → g ≠ b := fun g hg => by obtain ⟨c, h⟩ := qy hO hg; exact jhJ h h1.1 (by decide)
 have k5 : w'.ownsRow W.heap.size 49 2 v5 3 (inbC bs) := jI h5 fun g hg => by obtain ⟨c, h⟩ := qy h5 hg; rw [keep g _ h (far5 g hg), h]
 have k6 : w'.ownsRow W.heap.size 49 2 v6 3 (inbC bs) := jI h6 fun g hg => by obtain ⟨c, h⟩ := qy h6 hg; rw [keep g _ h (far6 g hg), h]
 have kO : w'.ownsRow W.heap.size 137 1 v36 3 [.slice none 0 0, .slice none 0 0, .slice none 0 0] := jI hO fun g hg => by obtain ⟨c, h⟩ := qy hO hg; rw [keep g _ h (farO g hg), h]
 have hbx : ∀ q ∈ bs, q ≠ b ∧ w'.heap[q]? = some (.cells #[.string ⟨#[73, 78, 66, 79, 88]⟩, .int .i64 1, .slice none 0 0] 67) := fun q hq => by
  have hn : q ≠ b := jhJ (hin q hq).2 h1.1 (by decide); exact ⟨hn, keep q _ (hin q hq).2 hn⟩
 obtain ⟨V, hV⟩ : ∃ V : Vals, V = ⟨.slice none 0 0, v5, v6, v34, v35, v36, .slice none 0 0, ⟨.slice none 0 0, .slice none 0 0, .slice none 0 0⟩, ⟨.slice none 0 0, .slice none 0 0, .slice none 0 0⟩, ⟨.slice none 0 0, .slice none 0 0, .slice none 0 0⟩, [.slice none 0 0, .slice none 0 0, .slice none 0 0], bs.map fun b => (.slice (some ⟨b, 0, none⟩) 1 1, .slice none 0 0)⟩ := ⟨_, rfl⟩; have hG : mB (jZ rom0 V) = v6.ownBlock.toList ++ v36.ownBlock.toList := by
  subst hV; simp only [jZ, jb3, ja2, rom0, con0, intR, sttR, ordR]
  simp [mB, Value.ownBlock, List.range, List.range.loop]
 have inG : ∀ g, g ∈ mB (jZ rom0 V) → v6.ownBlock = some g ∨ v36.ownBlock = some g := fun g hg => by rw [hG] at hg; simpa using hg
 have ty6 : ∀ g, g ∈ mB (jZ rom0 V) → ∃ c t, w'.heap[g]? = some (.cells c t (0, 0)) ∧ (t = 49 ∨ t = 137) ∧ g < W1.heap.size := fun g hg => by
  rcases inG g hg with h | h
  · obtain ⟨c, hc⟩ := qy k6 h; exact ⟨c, _, hc, .inl rfl, (World.ownsRow.lt h6 g h).2⟩
  · obtain ⟨c, hc⟩ := qy kO h; exact ⟨c, _, hc, .inr rfl, (World.ownsRow.lt hO g h).2⟩
 have avT : ∀ {g : Nat} {c : Array Value} {t : TypeId} {f : Nat × Nat}, w'.heap[g]? = some (.cells c t f) → g ≠ b → t ≠ 49 → t ≠ 137 → Av b (mB (jZ rom0 V)) g := fun {g c t f} hg hn h1 h2 => ⟨hn, fun e => by
  obtain ⟨c', t', h', ht, _⟩ := ty6 g e; rw [hg] at h'; cases h'
  rcases ht with h | h
  · exact h1 h
  · exact h2 h⟩
 have avN : ∀ k, AvN W1.heap.size b (mB [locR v34 L, scrR v35 X]) k → AvN W.heap.size b (mB (jZ rom0 V)) k := fun k hk => ⟨Nat.le_trans hW hk.1, hk.2.1, fun e => by
  obtain ⟨_, _, _, _, h⟩ := ty6 k e; have := hk.1; omega⟩
 refine ⟨mB (jZ rom0 V), V, rfl, hb, ?_, ⟨?_, ?_, ?_, hM.lt⟩, ?_⟩
 · subst hV; exact hX
 · subst hV; intro r hr; simp only [jZ, rom0, con0, List.range, List.range.loop, List.map_cons, List.map_nil, List.cons_append, List.nil_append, List.mem_cons, List.not_mem_nil, or_false] at hr
   rcases hr with rfl | rfl | rfl | rfl | rfl | rfl | rfl | rfl | rfl
   · exact World.ownsRow_nil _ _ _ _
   · exact World.ownsRow_nil _ _ _ _
   · exact World.ownsRow_nil _ _ _ _
   · exact World.ownsRow_nil _ _ _ _
   · have := k6; rw [jef] at this
     simpa [sttR, hbl, Function.comp_def] using this
   · exact kO
   · exact World.ownsRow_nil _ _ _ _
   · exact World.ownsRow_nil _ _ _ _
   · exact World.ownsRow_nil _ _ _ _
 · rw [hG]; refine List.nodup_append.2 ⟨by cases v6.ownBlock <;> simp, by cases v36.ownBlock <;> simp, fun g h g' h' e => ?_⟩; subst e; obtain ⟨c, hc⟩ := qy k6 (by simpa using h); obtain ⟨c', hc'⟩ := qy kO (by simpa using h'); exact jhJ hc hc' (by decide) rfl
 · intro e
   rcases inG b e with h | h
   · exact far6 b h rfl
   · exact farO b h rfl
 · have hc0 : ConM (AvN W.heap.size b (mB (jZ rom0 V))) w' con0 ⟨.slice none 0 0, .slice none 0 0, .slice none 0 0⟩ := ⟨jg _ _ _ _ _ _, fun a n c e => by cases e; exact Nat.le_refl _, jg _ _ _ _ _ _⟩; have hlo : TxtsM (AvN W.heap.size b (mB (jZ rom0 V))) w' v34 L := jam (f := fun l => .string (S l)) (hM.own (locR v34 L) (by simp)) (by unfold maxLen; omega) fun g hg => by
    obtain ⟨c, h⟩ := qy (hM.own (locR v34 L) (by simp)) hg; exact ⟨(World.ownsRow.lt (hM.own (locR v34 L) (by simp)) g hg).1, avT h (fun e => hM.far (List.mem_filterMap.2 ⟨locR v34 L, by simp, by rw [← e]; exact hg⟩)) (show (9 : TypeId) ≠ 49 by decide) (show (9 : TypeId) ≠ 137 by decide)⟩
   have hsx : RowM (AvN W.heap.size b (mB (jZ rom0 V))) 1 (fun x cs => cs = [x]) w' v35 X := jam (f := fun x => x) (by simpa [scrR] using hM.own (scrR v35 X) (by simp)) (by rw [hS.1]; unfold maxLen; omega) fun g hg => by
    obtain ⟨c, h⟩ := qy (hM.own (scrR v35 X) (by simp)) hg; exact ⟨(World.ownsRow.lt (hM.own (scrR v35 X) (by simp)) g hg).1, avT h (fun e => hM.far (List.mem_filterMap.2 ⟨scrR v35 X, by simp, by rw [← e]; exact hg⟩)) (show (101 : TypeId) ≠ 49 by decide) (show (101 : TypeId) ≠ 137 by decide)⟩
   have hsc : RowM (AvN W.heap.size b (mB (jZ rom0 V))) 1 (ScrV (AvN W.heap.size b (mB (jZ rom0 V))) w') w' v35 Cs := jkU hsx hS.1 fun i x C h1 h2 => by
    obtain ⟨C', a, c, e1, e2, e3, e4⟩ := hS.2 i x h1; rw [h2] at e1; cases e1; subst e2; exact ⟨a, c, rfl, e3, RowM.imp e4 avN (Keeps.refl _ _) fun _ _ hx => CmdM.imp avN (Keeps.refl _ _) _ _ _ hx⟩
   have hb1 : ∀ (i : Nat) q, bs[i]? = some q → SttM (AvN W.heap.size b (mB (jZ rom0 V))) w' (.slice (some ⟨q, 0, none⟩) 1 1) (.slice none 0 0) inbS := fun i q hq => by
    have h := hbx q (List.mem_of_getElem? hq); exact jiy h.2 ⟨(hin q (List.mem_of_getElem? hq)).1, avT h.2 h.1 (by decide) (by decide)⟩
   have h3 : ∀ (i : Nat) s, [inbS, inbS, inbS][i]? = some s → s = inbS := fun i s h => by
    have := List.mem_of_getElem? h
    simpa using this
   have hsf : RowM (AvN W.heap.size b (mB (jZ rom0 V))) 2 (SttV (AvN W.heap.size b (mB (jZ rom0 V))) w') w' v5 [inbS, inbS, inbS] := jdC (css := bs.map fun b => [Value.slice (some ⟨b, 0, none⟩) 1 1, .slice none 0 0]) (by rw [← jef]; exact k5) rfl (by unfold maxLen; decide) (by simp [hbl]) (fun cs hcs => by
        obtain ⟨q, _, rfl⟩ := List.mem_map.1 hcs; rfl) (fun i s cs hs hcs => by
        rw [List.getElem?_map] at hcs; cases hq : bs[i]? with
        | none => rw [hq] at hcs; cases hcs
        | some q =>
          rw [hq] at hcs; cases hcs; rw [h3 i s hs]; exact ⟨_, _, rfl, hb1 i q hq⟩) fun g hg => ⟨(World.ownsRow.lt k5 g hg).1, far5 g hg, fun e => by
        rcases inG g e with h | h
        · exact hap g hg h
        · obtain ⟨c, hc⟩ := qy k5 hg; obtain ⟨c', hc'⟩ := qy kO h; exact jhJ hc hc' (by decide) rfl⟩
   subst hV; exact ⟨hc0, hc0, hc0, hlo, hsc, hsf, ⟨by simp [hbl, rom0], fun i s x hs hx => by
    rw [List.getElem?_map] at hx; cases hq : bs[i]? with
    | none => rw [hq] at hx; cases hx
    | some q =>
      rw [hq] at hx; cases hx; rw [h3 i s hs]; exact hb1 i q hq⟩, ⟨rfl, rfl⟩, BysM.nil _ _ _ _⟩
end Go.Proofs.YtmgdnhjemhhleaaGreatDoor
