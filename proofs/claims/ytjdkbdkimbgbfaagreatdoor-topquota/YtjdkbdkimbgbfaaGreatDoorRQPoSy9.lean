/-
  What a room does at a sync where nobody's order waits: the walks.
-/
import Derived.Test.YtjdkbdkimbgbfaaGreatDoorRQDelNo11
import Derived.Deep.MidRow
import Derived.Deep.SlicePairs
import Derived.Lib.SmallJoins
set_option maxHeartbeats 4000000
set_option maxRecDepth 100000
namespace Go.Proofs.YtjdkbdkimbgbfaaGreatDoor
open Go.RowKit Go.Proofs
variable {Cs : List (List Cmd)} {K : List (List UInt8)} {l : List Int} {G : List Nat} {B N b : Nat} {Q : Nat -> Prop} {R : Rom} {t : TypeId} {v vc vo vs : Value} {w w' : World}
def relR (R : Rom) : Nat -> Rom
 | 0 => R
 | k + 1 => (relR R k).put k (zT ((relR R k).con k))
theorem RoomM.undue (h : RoomM K Cs B b G R w) (hd : R.due = []) : (∃ a c, w.cell? ⟨b, 37, none⟩ = some (.slice a 0 c)) /\ ∃ G', RoomM K Cs B b G' R (w.setCell ⟨b, 37, none⟩ (.slice none 0 0)) /\ Stp b G w G' (w.setCell ⟨b, 37, none⟩ (.slice none 0 0)) := by
 obtain ⟨X, hG, hB, hX, hM, hQ⟩ := h; have hrow : ∀ v, j2 R { X with du := v } = [intR 3 X.c0.l R.c0.told, intR 3 X.c1.l R.c1.told, intR 3 X.c2.l R.c2.told] ++ intR 3 v R.due :: ([sttR X.st X.sv, ordR X.od X.os] ++ (List.range 3).map fun u => intR 51 (X.os.getD u (.slice none 0 0)) (R.orders.getD u [])) := fun v => rfl
 have hown := hM.own (intR 3 X.du R.due) (by simp [j2]); obtain ⟨a, c, e, _⟩ := vy hown; have e : X.du = .slice a 0 c := by have e : X.du = .slice a R.due.length c := e; rw [e, hd]; rfl
 refine ⟨⟨a, c, hX.cell (by rw [<- e]; rfl)⟩, mB (j2 R { X with du := .slice none 0 0 }), ?_⟩; have kZ := hM; rw [show j2 R X = _ from hrow X.du] at kZ; obtain ⟨k1, k2⟩ := kZ.grow (w' := w) (H := w.heap.size) (r' := intR 3 (.slice none 0 0) R.due) ⟨rfl, rfl, rfl, ai _, fun _ _ _ => rfl⟩ (by rw [hd]; exact aR _ _ _ _) (ai _) (fun g hg => by cases hg); rw [<- hrow] at k1; have hs := (show Stp b G w (mB (j2 R { X with du := .slice none 0 0 })) w from by rw [hG]; exact k2).box 37 (.slice none 0 0); have q := hQ.stp hs; exact ⟨⟨{ X with du := .slice none 0 0 }, rfl, hB, (hX.put 37 _).ty rfl, k1.box 37 _, q.k0, q.k1, q.k2, q.lo, q.sc, q.sf, q.sv, q.os, q.td⟩, hs⟩
theorem jlR (K : List (List UInt8)) (Cs : List (List Cmd)) (B b : Nat) (G : List Nat) (R : Rom) (w : World) (hR : RoomM K Cs B b G R w) (hm : mayN R.tape.length R.tsyn = true) (ll : 0 <= R.syn /\ R.syn <= 1000000) (mC : 0 <= R.waits /\ R.waits <= 1000000) (hn : 0 < R.states.length /\ R.states.length <= 1000) (sn : R.due = [])
 (ht : ∀ k, k < 3 -> ((relR (zq R) k).con k).told.length + ((relR (zq R) k).con k).due.length <= 1000000000) (st : Nat -> Rom) (h0 : st 0 = relR (zq R) 3)
 (hW : ∀ (k : Nat) (G' : List Nat) (w' : World), k < 3 -> Below B w w' -> RoomM K Cs B b G' (st k) w' -> Calls Tryz.prog 24 #[.pointer (some ⟨b, 0, none⟩), .pointer (some ⟨b, 7 + k * 9, none⟩)] w' (RmQ K Cs B b G' w' (st (k + 1)) (.tuple #[]))) :
 Calls Tryz.prog 25 #[.pointer (some ⟨b, 0, none⟩)] w (RmQ K Cs B b G w (st 3) (.tuple #[])) := by
 have AZ := hid (jk3 K Cs B b G R w hR hm ll mC hn); have HR := hid hR; have HW := hid hW; have HT := hid ht; have H0 := hid h0; have Ay := hid (show (zq R).due = [] from sn); clear hR hm ll mC hn hW ht h0 sn; go_enter Tryz.func25, Tryz.ntmps25; go_wp2_with fail; refine AZ.out.mono ?_; rintro e w1 ⟨rfl, G1, cz, hs1⟩; obtain ⟨⟨ad, cd, Dd⟩, G2, cA, hs2⟩ := cz.undue Ay.out; have CT := cz.frz 37; obtain ⟨W2, hW2⟩ : ∃ W2, W2 = w1.setCell ⟨b, 37, none⟩ (.slice none 0 0) := ⟨_, rfl⟩; rw [<- hW2] at cA hs2; have cD := hid cA; have cJ := hid (hs1.trans hs2); have b9 := hid hW2; clear cz hs1 cA hs2 hW2; go_wp2
 go_loopw [15] (fun i wr => i = .int .i64 0 /\ wr = w1) (fun _ _ => 0)
 case atStart => exact ⟨rfl, rfl⟩
 case round =>
  obtain ⟨rfl, rfl⟩ := hrel; go_wp2; rw [<- b9.out]
  go_loopw [26] (fun i wr => ∃ (k : Nat) (G' : List Nat), k <= 3 /\ i = .int .i64 k /\ Hid (RoomM K Cs B b G' (relR (zq R) k) wr) /\ Hid (Stp b G w G' wr)) (fun i _ => 3 - (intOf i).toNat)
  case atStart => exact ⟨0, G2, by omega, rfl, cD, cJ⟩
  case round =>
   obtain ⟨k, G', hk, rfl, lw, nX⟩ := hrel
   by_cases hlt : k < 3
   . have k1 : (k : Int) < 3 := by omega
     have k0 : (0 : Int) <= (k : Int) := by omega
     have kU := hid (jg1 K Cs B b G' (relR (zq R) k) wr lw.out k (7 + k * 9) hlt rfl (HT.out k hlt)); go_wp2_with fail; refine kU.out.mono ?_; rintro e w3 ⟨rfl, G3, cB, hs3⟩; have cT := hid (show RoomM K Cs B b G3 (relR (zq R) (k + 1)) w3 from cB); have dv := hid (nX.out.trans hs3); clear cB hs3; go_wp2
     go_roundw
     case rel => first | exact ⟨k + 1, G3, by omega, by go_num, cT, dv⟩ | ((repeat apply Exists.intro); exact ⟨⟨k + 1, G3, by omega, by go_num, cT, dv⟩, rfl⟩)
     case measure => simp [intOf]; omega
   . have k1 : ¬ (k : Int) < 3 := by omega
     obtain rfl : k = 3 := by omega
     obtain ⟨V3, BZ⟩ : ∃ V3, V3 = wr := ⟨_, rfl⟩; subst BZ; have HV := hid (show RoomM K Cs B b G' (st 0) V3 from by rw [H0.out]; exact lw.out); go_wp2
     go_loopw [36] (fun i wr => ∃ (k : Nat) (G' : List Nat), k <= 3 /\ i = .int .i64 k /\ Hid (RoomM K Cs B b G' (st k) wr) /\ Hid (Stp b G w G' wr)) (fun i _ => 3 - (intOf i).toNat)
     case atStart => exact ⟨0, G', by omega, rfl, HV, nX⟩
     case round =>
      obtain ⟨k, G', hk, rfl, lw, nX⟩ := hrel
      by_cases hlt : k < 3
      . have k1 : (k : Int) < 3 := by omega
        have k0 : (0 : Int) <= (k : Int) := by omega
        have kU := hid (HW.out k G' wr hlt (HR.out.low nX.out) lw.out); go_wp2_with fail; refine kU.out.mono ?_; rintro e w3 ⟨rfl, G3, cB, hs3⟩; have cT := hid cB; have dv := hid (nX.out.trans hs3); clear cB hs3; go_wp2
        go_roundw
        case rel => first | exact ⟨k + 1, G3, by omega, by go_num, cT, dv⟩ | ((repeat apply Exists.intro); exact ⟨⟨k + 1, G3, by omega, by go_num, cT, dv⟩, rfl⟩)
        case measure => simp [intOf]; omega
      . have k1 : ¬ (k : Int) < 3 := by omega
        obtain rfl : k = 3 := by omega
        go_wp2; go_end0; exact ⟨rfl, G', lw.out, nX.out⟩
def jb2 : Acu := ⟨2, 0, 0, 0, [], jpV⟩
theorem jpq (K : List (List UInt8)) (Cs : List (List Cmd)) (B b : Nat) (G : List Nat) (R : Rom) (w : World) (hR : RoomM K Cs B b G R w) (eV : R.up = true) (R2 : Rom)
 (hS : ∀ w', Below w.heap.size w w' -> Calls Tryz.prog 25 #[.pointer (some ⟨b, 0, none⟩)] w' (RmQ K Cs B b G w' R2 (.tuple #[]))) :
 Calls Tryz.prog 16 #[.pointer (some ⟨b, 0, none⟩), .agg (acuC jb2).toArray] w (RmQ K Cs B b G w R2 (.tuple #[])) := by
 obtain ⟨W1, hW1⟩ : ∃ W1, W1 = w.alloc (.cells (acuC jb2).toArray 34) := ⟨_, rfl⟩; have b8 : Below w.heap.size w W1 := by rw [hW1]; exact nb0 _ _
 have hx : W1.heap[w.heap.size]? = some (.cells (acuC jb2).toArray 34) := by rw [hW1]; exact az w _
 have p0 : W1.cell? ⟨w.heap.size, 0, none⟩ = some (.int .i64 2) := by simp [World.cell?, hx, acuC, jb2]
 have c0 := (hR.next b8).up; rw [eV] at c0; have HS := hid (fun (w' : World) (h : Below W1.heap.size W1 w') => hS w' (b8.trans (h.mono b8.size))); have bX := hid b8; have b9 := hid hW1; unfold acuC jb2 jpV at b9 ⊢; clear hR eV hx b8 hW1 hS; go_enter Tryz.func16, Tryz.ntmps16; go_wp2; rw [<- b9.out]; have hg3 : decide ((2 : Int) = 5) = false := by decide
 go_quiet (fail)
 have mL := hid (vD W1 nq); go_wp2_with fail; refine (HS.out _ mL.out).mono ?_; rintro e w4 ⟨rfl, G4, cK, eT⟩; have HF := hid (show RmQ K Cs B b G w R2 (.tuple #[]) (.returned (.tuple #[])) w4 from ⟨rfl, G4, cK, ((Stp.of bX.out).trans (Stp.of mL.out)).trans eT⟩); clear cK eT; go_wp2; go_end0; exact HF.out
structure OutM (N : Nat) (w : World) (R : Rom) (vc vo vs : Value) : Prop where
 co : RowM (N <= ·) 1 (fun l cs => ∃ v, cs = [v] /\ IntsM (N <= ·) w v l) w vc [R.c0.told, R.c1.told, R.c2.told]
 od : RowM (N <= ·) 1 (fun l cs => ∃ v, cs = [v] /\ IntsM (N <= ·) w v l) w vo R.orders
 sf : RowM (N <= ·) 2 (SttV (N <= ·) w) w vs R.safe
def OutP (N : Nat) (w : World) (R : Rom) (e : Ending) (w' : World) : Prop := ∃ ac cc ao co as_ cs, e = .returned (.agg #[.bool R.up, .slice ac 3 cc, .slice ao R.orders.length co, .slice as_ R.safe.length cs, .int .i64 R.waits]) /\ OutM N w' R (.slice ac 3 cc) (.slice ao R.orders.length co) (.slice as_ R.safe.length cs) /\ Below w.heap.size w w'
def OuB (w : World) (v0 v1 v2 v3 v4 p : Value) (wx : World) : Prop := p = .pointer (some ⟨w.heap.size, 0, none⟩) /\ wx.heap[w.heap.size]? = some (.cells #[v0, v1, v2, v3, v4] 28) /\ Below w.heap.size w wx
theorem OuB.new (v0 v1 v2 v3 v4 : Value) : OuB w v0 v1 v2 v3 v4 (.pointer (some ⟨w.heap.size, 0, none⟩)) (w.alloc (.cells #[v0, v1, v2, v3, v4] 28)).drew :=
 ⟨rfl, az w _, (nb0 _ _).drew⟩
theorem jju {X : Vals} (h : RmB w b (vW R X)) : w.rangeAt b 7 (conC R.c0 X.c0 ++ conC R.c1 X.c1 ++ conC R.c2 X.c2) := by
 intro j v hj; have hl : j < 27 := by
  have := (au.1 hj).1
  simpa [conC] using this
 refine h.cell ?_; rw [<- hj]; unfold vW; rw [aH, aH, aH, bd (by simp), show (7 + j - _ : Nat) = j by simp, <- aH, <- aH]; exact bf (by simpa [conC] using hl)
theorem jpA (x0 x1 x2 x3 x4 x5 x6 x7 x8 x9 x10 x11 x12 x13 x14 x15 x16 x17 x18 x19 x20 x21 x22 x23 x24 x25 x26 : Value) : (∀ u, (Instr.index 79 (.agg #[x0, x1, x2, x3, x4, x5, x6, x7, x8, x9, x10, x11, x12, x13, x14, x15, x16, x17, x18, x19, x20, x21, x22, x23, x24, x25, x26]) (.int .i64 0)).run Tryz.prog u = .ok (.agg #[x0, x1, x2, x3, x4, x5, x6, x7, x8]) u) /\
 (∀ u, (Instr.index 79 (.agg #[x0, x1, x2, x3, x4, x5, x6, x7, x8, x9, x10, x11, x12, x13, x14, x15, x16, x17, x18, x19, x20, x21, x22, x23, x24, x25, x26]) (.int .i64 1)).run Tryz.prog u = .ok (.agg #[x9, x10, x11, x12, x13, x14, x15, x16, x17]) u) /\
 (∀ u, (Instr.index 79 (.agg #[x0, x1, x2, x3, x4, x5, x6, x7, x8, x9, x10, x11, x12, x13, x14, x15, x16, x17, x18, x19, x20, x21, x22, x23, x24, x25, x26]) (.int .i64 2)).run Tryz.prog u = .ok (.agg #[x18, x19, x20, x21, x22, x23, x24, x25, x26]) u) := by
 refine ⟨fun u => ?_, fun u => ?_, fun u => ?_⟩ <;> simp [Instr.index, run_underlying Tryz.underlying79, asIntOf, go_sem]
theorem put5 (v0 v1 v2 v3 v4 : Value) {u0 u1 u2 u3 u4 : Value} (h : w.heap[b]? = some (.cells #[u0, u1, u2, u3, u4] t)) : (((((w.setCell ⟨b, 0, none⟩ v0).setCell ⟨b, 1, none⟩ v1).setCell ⟨b, 2, none⟩ v2).setCell ⟨b, 3, none⟩ v3).setCell ⟨b, 4, none⟩ v4).heap[b]? = some (.cells #[v0, v1, v2, v3, v4] t) := by
 have h := aM _ b 0 _ t v0 h; have h := aM _ b 1 _ t v1 h; have h := aM _ b 2 _ t v2 h; have h := aM _ b 3 _ t v3 h; have h := aM _ b 4 _ t v4 h
 simpa using h
theorem jcp (h : w.ownsRow B t 1 v l.length (l.map fun k => .int .i64 k)) : IntsM (B <= ·) w v l := by
 refine jan h ?_ fun g hg => (aA h g hg).1
 rcases h.2 with ⟨_, h0⟩ | ⟨g, cap, cur, _, _, _, h1, h2, _⟩
 . omega
 . omega
theorem jlQ {vs : List Value} {ls : List (List Int)} (h : RowM (N <= ·) 1 (fun x cs => cs = [x]) w v vs) (hl : vs.length = ls.length) (hx : ∀ (i : Nat) x l, vs[i]? = some x -> ls[i]? = some l -> IntsM (N <= ·) w x l) : RowM (N <= ·) 1 (fun l cs => ∃ v, cs = [v] /\ IntsM (N <= ·) w v l) w v ls := by
 obtain ⟨a, c, hv, hm, hr⟩ := h; refine ⟨a, c, by rw [<- hl]; exact hv, by rw [<- hl]; exact hm, fun i l hi => ?_⟩; have hi' : i < vs.length := by rw [hl]; exact (au.1 hi).1
 obtain ⟨b, o, cs, h1, h2, h3, h4, h5, h6⟩ := hr i vs[i] (aw hi'); exact ⟨b, o, cs, h1, h2, h3, h4, h5, _, h6, hx i _ l (aw hi') hi⟩
theorem jqX {X : Vals} (hM : MOk w B b (j2 R X)) (hQ : RoM (AvN B b G) w K Cs R X) (hb : Below w.heap.size w w') (hc : RowM (B <= ·) 1 (fun x cs => cs = [x]) w' vc [X.c0.l, X.c1.l, X.c2.l]) (hv : X.od = vo) (hs : X.sf = vs) : OutM B w' R vc vo vs := by
 have kZ := hM.next hb; have hi : ∀ r ∈ j2 R X, w'.ownsRow B r.e r.k r.v r.n r.xs := kZ.own; have t0 : IntsM (B <= ·) w' X.c0.l R.c0.told := jcp (hi (intR 3 X.c0.l R.c0.told) (by simp [j2])); have t1 : IntsM (B <= ·) w' X.c1.l R.c1.told := jcp (hi (intR 3 X.c1.l R.c1.told) (by simp [j2])); have t2 : IntsM (B <= ·) w' X.c2.l R.c2.told := jcp (hi (intR 3 X.c2.l R.c2.told) (by simp [j2])); have ho : ∀ u, u < 3 -> IntsM (B <= ·) w' (X.os.getD u (.slice none 0 0)) (R.orders.getD u []) := fun u hu => jcp (hi (intR 51 (X.os.getD u (.slice none 0 0)) (R.orders.getD u [])) (by
  unfold j2; exact List.mem_append_right _ (bE.2 ⟨u, List.mem_range.2 hu, rfl⟩)))
 refine ⟨jlQ hc rfl fun i x l h1 h2 => ?_, ?_, ?_⟩
 . match i, h1, h2 with
   | 0, h1, h2 => cases h1; cases h2; exact t0
   | 1, h1, h2 => cases h1; cases h2; exact t1
   | 2, h1, h2 => cases h1; cases h2; exact t2
   | n + 3, h1, h2 => simp at h1
 . have pV := hi (ordR X.od X.os) (by simp [j2]); rw [<- hv]; refine jlQ (jan (f := fun x => x) (by simpa [ordR] using pV) (by rw [hQ.os.1]; unfold maxLen; decide) fun g hg => (aA pV g hg).1) (by rw [hQ.os.1, hQ.os.2]) fun i x l h1 h2 => ?_
   have h3 : i < 3 := by rw [<- hQ.os.1]; exact (au.1 h1).1
   have := ho i h3; rw [bU, bU, h1, h2] at this; exact this
 . rw [<- hs]; exact RowM.imp hQ.sf (fun _ h => h.1) (Keeps.of_below hb) fun s cs h => by
    obtain ⟨vb, vs, e, h⟩ := h; exact ⟨vb, vs, e, h.imp (fun _ h => h.1) (Keeps.of_below hb)⟩
theorem jqB : (Tryz.prog.info? 79).map (·.size) = some 27 := by kernel_rfl
theorem jqE : (Tryz.prog.info? 37).map (fun i => (i.zero, i.size, i.bytes)) = some (some (.slice none 0 0), 1, 24) := by kernel_rfl
theorem jgW (K : List (List UInt8)) (Cs : List (List Cmd)) (B b : Nat) (G : List Nat) (R : Rom) (w : World) (hR : RoomM K Cs B b G R w) :
 Calls Tryz.prog 17 #[.pointer (some ⟨b, 0, none⟩)] w (OutP B w R) := by
 obtain ⟨X, hG, hB, hX, hM, hQ⟩ := hR; obtain ⟨asf, csf, lR⟩ := RowM.slice hQ.sf; have pV := hM.own (ordR X.od X.os) (by simp [j2]); obtain ⟨aod, cod, lP, _⟩ := vy pV; simp only [ordR] at lP; rw [hQ.os.1] at lP; obtain ⟨i0, dE, hz0, hz1, hz2⟩ := info_parts jqE; have hs : ∀ i, i < 3 -> ∃ a c a' c' a'' c'', (X.con i).l = .slice a (R.con i).told.length c /\ (X.con i).t = .slice a' (R.con i).ses.to.length c' /\ (X.con i).d = .slice a'' (R.con i).due.length c'' := fun i hi => by
  obtain ⟨A, Z, hA, _⟩ := jau R X hi; obtain ⟨a, c, h, _⟩ := vy (hM.own (intR 3 (X.con i).l (R.con i).told) (by rw [hA]; simp)); obtain ⟨a', c', h'⟩ := RowM.slice (hQ.con hi).gl; obtain ⟨a'', c'', xA⟩ := qx (hQ.con hi).du; exact ⟨a, c, a', c', a'', c'', h, h', xA⟩
 obtain ⟨al0, cl0, at0, ct0, ad0, cd0, el0, et0, ed0⟩ := hs 0 (by omega); obtain ⟨al1, cl1, at1, ct1, ad1, cd1, el1, et1, ed1⟩ := hs 1 (by omega); obtain ⟨al2, cl2, at2, ct2, ad2, cd2, el2, et2, ed2⟩ := hs 2 (by omega); simp only [Vals.con, Rom.con] at el0 et0 ed0 el1 et1 ed1 el2 et2 ed2; obtain ⟨W1, hW1⟩ : ∃ W1, W1 = w.alloc (.cells #[.bool false, .slice none 0 0, .slice none 0 0, .slice none 0 0, .int .i64 0] 28) := ⟨_, rfl⟩; have b8 : Below w.heap.size w W1 := by rw [hW1]; exact nb0 _ _
 have cI := hX.next b8; have x0 : W1.cell? ⟨b, 0, none⟩ = some (.bool R.up) := cI.cell rfl; have x4 : W1.cell? ⟨b, 4, none⟩ = some (.int .i64 R.waits) := cI.cell rfl; have x5 : W1.cell? ⟨b, 5, none⟩ = some (.slice asf R.safe.length csf) := cI.cell (by rw [<- lR]; rfl); have x36 : W1.cell? ⟨b, 36, none⟩ = some (.slice aod 3 cod) := cI.cell (by rw [<- lP]; rfl); have HC := hid (show ∀ u, Below W1.heap.size W1 u -> u.cell? ⟨b, 0, none⟩ = some (.bool R.up) /\ u.cell? ⟨b, 4, none⟩ = some (.int .i64 R.waits) /\ u.cell? ⟨b, 5, none⟩ = some (.slice asf R.safe.length csf) /\ u.cell? ⟨b, 36, none⟩ = some (.slice aod 3 cod) from
  fun u hu => ⟨ja x0 hu, ja x4 hu, ja x5 hu, ja x36 hu⟩)
 have HX := hid hX; have b9 := hid hW1; have bX := hid b8; have HQ := hid hQ; have HM := hid hM; clear hG hX hM hQ cI hW1 b8 pV; go_enter Tryz.func17, Tryz.ntmps17; go_upto_region 1 with fail
 rw [<- b9.out]
 go_cut [3] (fun p wx => OuB W1 (.bool R.up) (.slice none 0 0) (.slice aod 3 cod) (.slice asf R.safe.length csf) (.int .i64 R.waits) p wx)
 case first =>
  go_region_held3 (fun u => u.cell? ⟨b, 0, none⟩ = some (.bool R.up) /\ u.cell? ⟨b, 4, none⟩ = some (.int .i64 R.waits) /\ u.cell? ⟨b, 5, none⟩ = some (.slice asf R.safe.length csf) /\ u.cell? ⟨b, 36, none⟩ = some (.slice aod 3 cod))
   (first | (refine HC.out _ ?_; (repeat (first | with_reducible exact ay _ _ | with_reducible refine Below.drew ?_ | with_reducible refine Below.alloc ?_ (by first | exact ai _ | simp) _ | with_reducible refine Below.setCell ?_ (by first | exact ai _ | simp) _))) | fail)
   (fail)
  all_goals (go_wp2_with fail; go_meet; exact OuB.new _ _ _ _ _)
 case rest =>
  obtain ⟨hp, hP, uL⟩ := hcut; subst hp; obtain ⟨W2, rfl⟩ : ∃ W, W = wc := ⟨_, rfl⟩; have HP := hid hP; have Ao := hid uL; have sb := jju (HX.out.next (bX.out.trans (uL.mono bX.out.size))); unfold conC at sb; simp only [bL, bM, el0, et0, ed0, el1, et1, ed1, el2, et2, ed2] at sb; have Bn := hid sb; have AC := hid (And.intro el0 (And.intro el1 el2)); clear sb hP uL x0 x4 x5 x36 HC el0 et0 ed0 el1 et1 ed1 el2 et2 ed2 hs; go_upto_region 2 with fail
  refine wp_region_lit ?_; refine wpList_plain rfl (fun K hK => ?_)
  go_simp
  refine hK _ _ ?_; clear hK K; refine wpList_plain rfl (fun K hK => ?_)
  go_simp
  refine hK _ _ ?_; clear hK K; refine wpList_plain rfl (fun K hK => ?_)
  go_simp
  refine hK _ _ ?_; clear hK K; refine wpList_load_mid rfl 79 _ rfl b 7 rfl _ _ Bn.out Tryz.underlying79 rfl jqB ?_; simp only [Act.put, af, ah, ag]; go_wp2
  go_loopw [29] (fun i wr => ∃ (k : Nat) (a9 : Option Addr) (c9 : Nat), ((k = 0 /\ i = .int .i64 0) ∨ (k = 1 /\ i = .int .i64 1) ∨ (k = 2 /\ i = .int .i64 2) ∨ (k = 3 /\ i = .int .i64 3)) /\ Hid (wr.heap[W1.heap.size]? = some (.cells #[.bool R.up, .slice a9 k c9, .slice aod 3 cod, .slice asf R.safe.length csf, .int .i64 R.waits] 28)) /\ Hid (wr.ownsRow W2.heap.size 37 1 (.slice a9 k c9) k ([Value.slice al0 R.c0.told.length cl0, .slice al1 R.c1.told.length cl1, .slice al2 R.c2.told.length cl2].take k)) /\ Hid (Below W1.heap.size W1 wr) /\ W2.heap.size <= wr.heap.size) (fun i _ => 3 - (intOf i).toNat)
  case atStart => exact ⟨0, none, 0, .inl ⟨rfl, rfl⟩, HP, hid (aR _ _ _ _), Ao, ai _⟩
  case round =>
   obtain ⟨k, a9, c9, hk, o9, gc, fQ, rh⟩ := hrel; have yb := o9.out; obtain ⟨p0, p1, p2, p3, p4⟩ := bx5 yb; clear yb; obtain ⟨ix0, ix1, ix2⟩ := jpA (.int .i64 R.c0.ses.step) (.string (S R.c0.ses.frm.1)) (.string (S R.c0.ses.frm.2)) (.slice at0 R.c0.ses.to.length ct0) (.string (S R.c0.ses.text)) (.bool R.c0.ses.large) (.string (S R.c0.held)) (.slice ad0 R.c0.due.length cd0) (.slice al0 R.c0.told.length cl0) (.int .i64 R.c1.ses.step) (.string (S R.c1.ses.frm.1)) (.string (S R.c1.ses.frm.2)) (.slice at1 R.c1.ses.to.length ct1) (.string (S R.c1.ses.text)) (.bool R.c1.ses.large) (.string (S R.c1.held)) (.slice ad1 R.c1.due.length cd1) (.slice al1 R.c1.told.length cl1) (.int .i64 R.c2.ses.step) (.string (S R.c2.ses.frm.1)) (.string (S R.c2.ses.frm.2)) (.slice at2 R.c2.ses.to.length ct2) (.string (S R.c2.ses.text)) (.bool R.c2.ses.large) (.string (S R.c2.held)) (.slice ad2 R.c2.due.length cd2) (.slice al2 R.c2.told.length cl2); have C6 : W1.heap.size < W2.heap.size := (aj.1 HP.out).1; have nk : W1.heap.size < wr.heap.size := (aj.1 o9.out).1; obtain ⟨rfl, rfl⟩ | ⟨rfl, rfl⟩ | ⟨rfl, rfl⟩ | ⟨rfl, rfl⟩ := hk
   . obtain ⟨W3, hW3⟩ : ∃ W3, W3 = wr.alloc (.cells #[.int .i64 R.c0.ses.step, .string (S R.c0.ses.frm.1), .string (S R.c0.ses.frm.2), .slice at0 R.c0.ses.to.length ct0, .string (S R.c0.ses.text), .bool R.c0.ses.large, .string (S R.c0.held), .slice ad0 R.c0.due.length cd0, .slice al0 R.c0.told.length cl0] 78) := ⟨_, rfl⟩; have hb3 : Below wr.heap.size wr W3 := by rw [hW3]; exact nb0 _ _
     have hx3 : W3.heap[wr.heap.size]? = some (.cells #[.int .i64 R.c0.ses.step, .string (S R.c0.ses.frm.1), .string (S R.c0.ses.frm.2), .slice at0 R.c0.ses.to.length ct0, .string (S R.c0.ses.text), .bool R.c0.ses.large, .string (S R.c0.held), .slice ad0 R.c0.due.length cd0, .slice al0 R.c0.told.length cl0] 78) := by rw [hW3]; exact az wr _
     have x8 : W3.cell? ⟨wr.heap.size, 8, none⟩ = some (Value.slice al0 R.c0.told.length cl0) := by simp [World.cell?, hx3]
     have p1 := ja p1 hb3; have cM := hid hW3; have bZ := hid hb3; have db := hid (jX gc.out hb3); have lJ := hb3.size; have kS := hid ((hb3.block W1.heap.size nk).trans o9.out); clear hW3 hb3 hx3; go_upto_region 5 with fail
     rw [<- cM.out]; clear ix0 ix1 ix2
     go_wp2_with (first
      | (at_builtin; refine wpList_append_lies _ rfl _ _ 24 rfl W2.heap.size 37 i0 _ 1 24 Tryz.underlying24 dE hz0 hz1 hz2 rfl (by decide) (.slice a9 0 c9) 0 ([Value.slice al0 R.c0.told.length cl0, Value.slice al1 R.c1.told.length cl1, Value.slice al2 R.c2.told.length cl2].take 0) rfl (aO db.out _) ⟨W3.heap.size, 0, none⟩ 1 1 [Value.slice al0 R.c0.told.length cl0] rfl rfl (qk W3 [Value.slice al0 R.c0.told.length cl0] _) (by simp [Value.oneCell']) (by decide) (by unfold maxLen; decide) (by decide) ?c4 _ rfl ?_)
      | fail)
     case c4 => simp; omega
     intro gm cap w4 hown hgrow hat ei; have hne : some W1.heap.size ≠ (Value.slice a9 0 c9).ownBlock := fun e => by have := (aA gc.out _ e.symm).1; omega
     have gH : w4.heap[W1.heap.size]? = some (.cells #[.bool R.up, .slice a9 0 c9, .slice aod 3 cod, .slice asf R.safe.length csf, .int .i64 R.waits] 28) := (hgrow.block W1.heap.size (by simp; omega) hne).trans ((((ay _ W3).alloc (ai _) _).block W1.heap.size (by omega)).trans kS.out); have y1 : w4.cell? ⟨W1.heap.size, 1, none⟩ = some (.slice a9 0 c9) := by simp [World.cell?, gH]
     have yf : w4.frozen? ⟨W1.heap.size, 1, none⟩ = false := by simp [World.frozen?, gH]
     have nw : W2.heap.size <= gm := by
      rcases hat with e | e
      . exact (aA gc.out gm e).1
      . have e' : gm = W3.heap.size + 1 := by simpa using e
        omega
     obtain ⟨W5, cQ⟩ : ∃ W5, W5 = w4.setCell ⟨W1.heap.size, 1, none⟩ (.slice (some ⟨gm, 0, none⟩) (0 + 1) cap) := ⟨_, rfl⟩; have ch := hid (show Below W1.heap.size W1 W5 by
      rw [cQ]; exact ((((fQ.out.trans (bZ.out.mono fQ.out.size)).alloc (show W1.heap.size <= W3.heap.size by omega) _).grown hgrow (aN (show W1.heap.size <= W3.heap.size by omega) (by simp)) (fun j hj => by have := (aA gc.out j hj).1; omega))).setCell (ai _) _)
     have fS := hid (show W5.heap[W1.heap.size]? = some (.cells #[.bool R.up, .slice (some ⟨gm, 0, none⟩) (0 + 1) cap, .slice aod 3 cod, .slice asf R.safe.length csf, .int .i64 R.waits] 28) by
      rw [cQ]; have h := aM w4 W1.heap.size 1 _ _ (.slice (some ⟨gm, 0, none⟩) (0 + 1) cap) gH
      simpa using h)
     have eO := hid (show W5.ownsRow W2.heap.size 37 1 (.slice (some ⟨gm, 0, none⟩) (0 + 1) cap) (0 + 1) ([Value.slice al0 R.c0.told.length cl0, Value.slice al1 R.c1.told.length cl1, Value.slice al2 R.c2.told.length cl2].take (0 + 1)) by
      rw [cQ]; exact jf hown fun g hg => aC _ _ _ _ (show g ≠ W1.heap.size from fun e => by have : gm = g := bk hg; omega))
     have kF : W2.heap.size <= W5.heap.size := by
      rw [cQ]; have h := hgrow.size
      simp [World.setCell] at h ⊢
      omega
     have iY := hid cQ; clear hown hgrow hat ei hne gH cQ; go_wp2; rw [<- iY.out]
     go_roundw
     case rel => exact ⟨0 + 1, _, cap, .inr (.inl ⟨rfl, rfl⟩), fS, eO, ch, kF⟩
     case measure => simp [intOf]
   . obtain ⟨W3, hW3⟩ : ∃ W3, W3 = wr.alloc (.cells #[.int .i64 R.c1.ses.step, .string (S R.c1.ses.frm.1), .string (S R.c1.ses.frm.2), .slice at1 R.c1.ses.to.length ct1, .string (S R.c1.ses.text), .bool R.c1.ses.large, .string (S R.c1.held), .slice ad1 R.c1.due.length cd1, .slice al1 R.c1.told.length cl1] 78) := ⟨_, rfl⟩; have hb3 : Below wr.heap.size wr W3 := by rw [hW3]; exact nb0 _ _
     have hx3 : W3.heap[wr.heap.size]? = some (.cells #[.int .i64 R.c1.ses.step, .string (S R.c1.ses.frm.1), .string (S R.c1.ses.frm.2), .slice at1 R.c1.ses.to.length ct1, .string (S R.c1.ses.text), .bool R.c1.ses.large, .string (S R.c1.held), .slice ad1 R.c1.due.length cd1, .slice al1 R.c1.told.length cl1] 78) := by rw [hW3]; exact az wr _
     have x8 : W3.cell? ⟨wr.heap.size, 8, none⟩ = some (Value.slice al1 R.c1.told.length cl1) := by simp [World.cell?, hx3]
     have p1 := ja p1 hb3; have cM := hid hW3; have bZ := hid hb3; have db := hid (jX gc.out hb3); have lJ := hb3.size; have kS := hid ((hb3.block W1.heap.size nk).trans o9.out); clear hW3 hb3 hx3; go_upto_region 5 with fail
     rw [<- cM.out]; clear ix0 ix1 ix2
     go_wp2_with (first
      | (at_builtin; refine wpList_append_lies _ rfl _ _ 24 rfl W2.heap.size 37 i0 _ 1 24 Tryz.underlying24 dE hz0 hz1 hz2 rfl (by decide) (.slice a9 1 c9) 1 ([Value.slice al0 R.c0.told.length cl0, Value.slice al1 R.c1.told.length cl1, Value.slice al2 R.c2.told.length cl2].take 1) rfl (aO db.out _) ⟨W3.heap.size, 0, none⟩ 1 1 [Value.slice al1 R.c1.told.length cl1] rfl rfl (qk W3 [Value.slice al1 R.c1.told.length cl1] _) (by simp [Value.oneCell']) (by decide) (by unfold maxLen; decide) (by decide) ?c4 _ rfl ?_)
      | fail)
     case c4 => simp; omega
     intro gm cap w4 hown hgrow hat ei; have hne : some W1.heap.size ≠ (Value.slice a9 1 c9).ownBlock := fun e => by have := (aA gc.out _ e.symm).1; omega
     have gH : w4.heap[W1.heap.size]? = some (.cells #[.bool R.up, .slice a9 1 c9, .slice aod 3 cod, .slice asf R.safe.length csf, .int .i64 R.waits] 28) := (hgrow.block W1.heap.size (by simp; omega) hne).trans ((((ay _ W3).alloc (ai _) _).block W1.heap.size (by omega)).trans kS.out); have y1 : w4.cell? ⟨W1.heap.size, 1, none⟩ = some (.slice a9 1 c9) := by simp [World.cell?, gH]
     have yf : w4.frozen? ⟨W1.heap.size, 1, none⟩ = false := by simp [World.frozen?, gH]
     have nw : W2.heap.size <= gm := by
      rcases hat with e | e
      . exact (aA gc.out gm e).1
      . have e' : gm = W3.heap.size + 1 := by simpa using e
        omega
     obtain ⟨W5, cQ⟩ : ∃ W5, W5 = w4.setCell ⟨W1.heap.size, 1, none⟩ (.slice (some ⟨gm, 0, none⟩) (1 + 1) cap) := ⟨_, rfl⟩; have ch := hid (show Below W1.heap.size W1 W5 by
      rw [cQ]; exact ((((fQ.out.trans (bZ.out.mono fQ.out.size)).alloc (show W1.heap.size <= W3.heap.size by omega) _).grown hgrow (aN (show W1.heap.size <= W3.heap.size by omega) (by simp)) (fun j hj => by have := (aA gc.out j hj).1; omega))).setCell (ai _) _)
     have fS := hid (show W5.heap[W1.heap.size]? = some (.cells #[.bool R.up, .slice (some ⟨gm, 0, none⟩) (1 + 1) cap, .slice aod 3 cod, .slice asf R.safe.length csf, .int .i64 R.waits] 28) by
      rw [cQ]; have h := aM w4 W1.heap.size 1 _ _ (.slice (some ⟨gm, 0, none⟩) (1 + 1) cap) gH
      simpa using h)
     have eO := hid (show W5.ownsRow W2.heap.size 37 1 (.slice (some ⟨gm, 0, none⟩) (1 + 1) cap) (1 + 1) ([Value.slice al0 R.c0.told.length cl0, Value.slice al1 R.c1.told.length cl1, Value.slice al2 R.c2.told.length cl2].take (1 + 1)) by
      rw [cQ]; exact jf hown fun g hg => aC _ _ _ _ (show g ≠ W1.heap.size from fun e => by have : gm = g := bk hg; omega))
     have kF : W2.heap.size <= W5.heap.size := by
      rw [cQ]; have h := hgrow.size
      simp [World.setCell] at h ⊢
      omega
     have iY := hid cQ; clear hown hgrow hat ei hne gH cQ; go_wp2; rw [<- iY.out]
     go_roundw
     case rel => exact ⟨1 + 1, _, cap, .inr (.inr (.inl ⟨rfl, rfl⟩)), fS, eO, ch, kF⟩
     case measure => simp [intOf]
   . obtain ⟨W3, hW3⟩ : ∃ W3, W3 = wr.alloc (.cells #[.int .i64 R.c2.ses.step, .string (S R.c2.ses.frm.1), .string (S R.c2.ses.frm.2), .slice at2 R.c2.ses.to.length ct2, .string (S R.c2.ses.text), .bool R.c2.ses.large, .string (S R.c2.held), .slice ad2 R.c2.due.length cd2, .slice al2 R.c2.told.length cl2] 78) := ⟨_, rfl⟩; have hb3 : Below wr.heap.size wr W3 := by rw [hW3]; exact nb0 _ _
     have hx3 : W3.heap[wr.heap.size]? = some (.cells #[.int .i64 R.c2.ses.step, .string (S R.c2.ses.frm.1), .string (S R.c2.ses.frm.2), .slice at2 R.c2.ses.to.length ct2, .string (S R.c2.ses.text), .bool R.c2.ses.large, .string (S R.c2.held), .slice ad2 R.c2.due.length cd2, .slice al2 R.c2.told.length cl2] 78) := by rw [hW3]; exact az wr _
     have x8 : W3.cell? ⟨wr.heap.size, 8, none⟩ = some (Value.slice al2 R.c2.told.length cl2) := by simp [World.cell?, hx3]
     have p1 := ja p1 hb3; have cM := hid hW3; have bZ := hid hb3; have db := hid (jX gc.out hb3); have lJ := hb3.size; have kS := hid ((hb3.block W1.heap.size nk).trans o9.out); clear hW3 hb3 hx3; go_upto_region 5 with fail
     rw [<- cM.out]; clear ix0 ix1 ix2
     go_wp2_with (first
      | (at_builtin; refine wpList_append_lies _ rfl _ _ 24 rfl W2.heap.size 37 i0 _ 1 24 Tryz.underlying24 dE hz0 hz1 hz2 rfl (by decide) (.slice a9 2 c9) 2 ([Value.slice al0 R.c0.told.length cl0, Value.slice al1 R.c1.told.length cl1, Value.slice al2 R.c2.told.length cl2].take 2) rfl (aO db.out _) ⟨W3.heap.size, 0, none⟩ 1 1 [Value.slice al2 R.c2.told.length cl2] rfl rfl (qk W3 [Value.slice al2 R.c2.told.length cl2] _) (by simp [Value.oneCell']) (by decide) (by unfold maxLen; decide) (by decide) ?c4 _ rfl ?_)
      | fail)
     case c4 => simp; omega
     intro gm cap w4 hown hgrow hat ei; have hne : some W1.heap.size ≠ (Value.slice a9 2 c9).ownBlock := fun e => by have := (aA gc.out _ e.symm).1; omega
     have gH : w4.heap[W1.heap.size]? = some (.cells #[.bool R.up, .slice a9 2 c9, .slice aod 3 cod, .slice asf R.safe.length csf, .int .i64 R.waits] 28) := (hgrow.block W1.heap.size (by simp; omega) hne).trans ((((ay _ W3).alloc (ai _) _).block W1.heap.size (by omega)).trans kS.out); have y1 : w4.cell? ⟨W1.heap.size, 1, none⟩ = some (.slice a9 2 c9) := by simp [World.cell?, gH]
     have yf : w4.frozen? ⟨W1.heap.size, 1, none⟩ = false := by simp [World.frozen?, gH]
     have nw : W2.heap.size <= gm := by
      rcases hat with e | e
      . exact (aA gc.out gm e).1
      . have e' : gm = W3.heap.size + 1 := by simpa using e
        omega
     obtain ⟨W5, cQ⟩ : ∃ W5, W5 = w4.setCell ⟨W1.heap.size, 1, none⟩ (.slice (some ⟨gm, 0, none⟩) (2 + 1) cap) := ⟨_, rfl⟩; have ch := hid (show Below W1.heap.size W1 W5 by
      rw [cQ]; exact ((((fQ.out.trans (bZ.out.mono fQ.out.size)).alloc (show W1.heap.size <= W3.heap.size by omega) _).grown hgrow (aN (show W1.heap.size <= W3.heap.size by omega) (by simp)) (fun j hj => by have := (aA gc.out j hj).1; omega))).setCell (ai _) _)
     have fS := hid (show W5.heap[W1.heap.size]? = some (.cells #[.bool R.up, .slice (some ⟨gm, 0, none⟩) (2 + 1) cap, .slice aod 3 cod, .slice asf R.safe.length csf, .int .i64 R.waits] 28) by
      rw [cQ]; have h := aM w4 W1.heap.size 1 _ _ (.slice (some ⟨gm, 0, none⟩) (2 + 1) cap) gH
      simpa using h)
     have eO := hid (show W5.ownsRow W2.heap.size 37 1 (.slice (some ⟨gm, 0, none⟩) (2 + 1) cap) (2 + 1) ([Value.slice al0 R.c0.told.length cl0, Value.slice al1 R.c1.told.length cl1, Value.slice al2 R.c2.told.length cl2].take (2 + 1)) by
      rw [cQ]; exact jf hown fun g hg => aC _ _ _ _ (show g ≠ W1.heap.size from fun e => by have : gm = g := bk hg; omega))
     have kF : W2.heap.size <= W5.heap.size := by
      rw [cQ]; have h := hgrow.size
      simp [World.setCell] at h ⊢
      omega
     have iY := hid cQ; clear hown hgrow hat ei hne gH cQ; go_wp2; rw [<- iY.out]
     go_roundw
     case rel => exact ⟨2 + 1, _, cap, .inr (.inr (.inr ⟨rfl, rfl⟩)), fS, eO, ch, kF⟩
     case measure => simp [intOf]
   . have hr : wr.heap[w.heap.size]? = some (.cells #[.bool false, .slice none 0 0, .slice none 0 0, .slice none 0 0, .int .i64 0] 28) := by
      have h := fQ.out.block w.heap.size (by rw [b9.out]; simp); rw [h, b9.out]; exact az w _
     obtain ⟨r0, r1, r2, r3, r4⟩ := bx5 hr; have zf : ∀ o, wr.frozen? ⟨w.heap.size, o, none⟩ = false := fun o => by simp [World.frozen?, hr]
     have HR := hid hr; clear hr; have wU := hid (show w.heap.size < W1.heap.size by rw [b9.out]; simp); have dk := hid (show ∀ w', Below w.heap.size w w' -> (∀ g, w.heap.size < g -> w'.heap[g]? = wr.heap[g]?) -> OutM B w' R (.slice a9 3 c9) (.slice aod R.orders.length cod) (.slice asf R.safe.length csf) from fun w' hb hg => jqX HM.out HQ.out hb (by
      obtain ⟨e0, e1, e2⟩ := AC.out; rw [e0, e1, e2]; exact jan (f := fun x => x) (jf gc.out fun g h => hg g (by have := (aA gc.out g h).1; have := wU.out; omega)) (show 3 <= maxLen by unfold maxLen; decide) fun g h => (by have := (aA gc.out g h).1; have := wU.out; have := HM.out.lt; omega)) (by rw [HQ.out.os.2]; exact lP) lR)
     go_wp2; have m := put5 (w := wr) (b := w.heap.size) (.bool R.up) (.slice a9 3 c9) (.slice aod 3 cod) (.slice asf R.safe.length csf) (.int .i64 R.waits) HR.out; obtain ⟨W6, fu⟩ : ∃ W6, W6 = (((((wr.setCell ⟨w.heap.size, 0, none⟩ (.bool R.up)).setCell ⟨w.heap.size, 1, none⟩ (.slice a9 3 c9)).setCell ⟨w.heap.size, 2, none⟩ (.slice aod 3 cod)).setCell ⟨w.heap.size, 3, none⟩ (.slice asf R.safe.length csf)).setCell ⟨w.heap.size, 4, none⟩ (.int .i64 R.waits)) := ⟨_, rfl⟩; rw [<- fu] at m ⊢; obtain ⟨m0, m1, m2, m3, m4⟩ := bx5 m; refine aD (v := .agg #[.bool R.up, .slice a9 3 c9, .slice aod 3 cod, .slice asf R.safe.length csf, .int .i64 R.waits]) (by simp only [results, Tryz.results17]; simp [go_sem, m0, m1, m2, m3, m4]) rfl ?_; have gO := HQ.out.os.2; have gh : Below w.heap.size w W6 := by
      rw [fu]; exact (((((bX.out.trans (fQ.out.mono bX.out.size)).setCell (ai _) _).setCell (ai _) _).setCell (ai _) _).setCell (ai _) _).setCell (ai _) _
     refine ⟨a9, c9, aod, cod, asf, csf, by rw [gO], dk.out W6 gh fun g hg => ?_, gh⟩; rw [fu]; have hn : g ≠ w.heap.size := by omega
     exact (aC _ _ _ _ hn).trans ((aC _ _ _ _ hn).trans ((aC _ _ _ _ hn).trans ((aC _ _ _ _ hn).trans (aC _ _ _ _ hn))))
theorem AcsM.next {l : List Acu} (h : AcsM Q w v l) (hb : Below w.heap.size w w') : AcsM Q w' v l := RowM.imp h (fun _ h => h) (Keeps.of_below hb) fun _ _ h => h
theorem AcsM.at {a : Option Addr} {n c : Nat} {l : List Acu} (h : AcsM Q w (.slice a n c) l) {i : Nat} {x : Acu} (hx : l[i]? = some x) : ∃ b o, a = some ⟨b, o, none⟩ /\ w.cell? ⟨b, o + i * 11, none⟩ = some (.int .i64 x.kind) /\ w.cell? ⟨b, o + i * 11 + 1, none⟩ = some (.int .i64 x.conn) /\ w.cell? ⟨b, o + i * 11 + 2, none⟩ = some (.int .i64 x.user) /\ w.cell? ⟨b, o + i * 11 + 3, none⟩ = some (.int .i64 x.keep) /\ w.cell? ⟨b, o + i * 11 + 4, none⟩ = some (.string (S x.data)) /\
 w.cell? ⟨b, o + i * 11 + 5, none⟩ = some (.int .i64 x.ent.kind) /\ w.cell? ⟨b, o + i * 11 + 6, none⟩ = some (.string (S x.ent.box)) /\ w.cell? ⟨b, o + i * 11 + 7, none⟩ = some (.int .i64 x.ent.uid) /\ w.cell? ⟨b, o + i * 11 + 8, none⟩ = some (.int .i64 x.ent.flags) /\ w.cell? ⟨b, o + i * 11 + 9, none⟩ = some (.string (S x.ent.goal)) /\ w.cell? ⟨b, o + i * 11 + 10, none⟩ = some (.string (S x.ent.text)) := by
 obtain ⟨a', c', hv, _, hr⟩ := h; simp only [aE] at hv; obtain ⟨b, o, cs, ha, _, _, _, hc, hP⟩ := hr i x hx; have hcs : cs = acuC x := hP; subst hcs; exact ⟨b, o, by rw [hv.1, ha], hc 0 _ rfl, hc 1 _ rfl, hc 2 _ rfl, hc 3 _ rfl, hc 4 _ rfl, hc 5 _ rfl, hc 6 _ rfl, hc 7 _ rfl, hc 8 _ rfl, hc 9 _ rfl, hc 10 _ rfl⟩
theorem jgq (Q : Nat -> Prop) (a : Option Addr) (c : Nat) (l : List Acu) (w : World) (hM : AcsM Q w (.slice a l.length c) l) (hl : l.length <= 10000)
 (hC : ∀ x ∈ l, ∀ u, Calls Tryz.prog 21 #[.agg (acuC x).toArray] u fun e u' => e = .returned (.int .i64 0) /\ Below u.heap.size u u') :
 Calls Tryz.prog 15 #[.slice a l.length c] w fun e w' => e = .returned (.int .i64 0) /\ Below w.heap.size w w' := by
 have HM := hid hM; have HC := hid hC; clear hM hC; go_enter Tryz.func15, Tryz.ntmps15; go_wp2
 go_loopw [11] (fun i wr => ∃ k : Nat, k <= l.length /\ i = .int .i64 k /\ Hid (Below w.heap.size w wr)) (fun i _ => l.length - (intOf i).toNat)
 case atStart => exact ⟨0, aQ _, rfl, hid (ay _ _)⟩
 case round =>
  obtain ⟨k, hk, rfl, HB⟩ := hrel
  by_cases hlt : k < l.length
  . have k1 : (k : Int) < (l.length : Int) := by omega
    have k0 : (0 : Int) <= (k : Int) := by omega
    have hx : l[k]? = some l[k] := aw hlt; have hc := HC.out l[k] (List.getElem_mem hlt); generalize l[k] = x at hx hc; obtain ⟨b, o, rfl, x0, x1, x2, x3, x4, x5, x6, x7, x8, x9, x10⟩ := (HM.out.next HB.out).at hx; have wY := hid hc; have cw : ∀ o, Below wr.heap.size wr (wr.alloc o) := fun o => (ay _ _).alloc (ai _) o
    have cu := hid cw; clear hx hc cw; unfold acuC at wY; go_wp2_with fail; refine (wY.out _).mono ?_; rintro e w2 ⟨rfl, hb2⟩; have bY := hid (HB.out.trans (((cu.out _).trans (hb2.mono (cu.out _).size)).mono HB.out.size)); clear hb2; go_wp2
    go_roundw
    case rel => first | exact ⟨k + 1, by omega, by go_num, bY⟩ | ((repeat apply Exists.intro); exact ⟨⟨k + 1, by omega, by go_num, bY⟩, rfl⟩)
    case measure => simp [intOf]; omega
  . have k1 : ¬ (k : Int) < (l.length : Int) := by omega
    go_wp2; go_ret; exact ⟨rfl, HB.out⟩
def RunP (w : World) (R : Rom) (e : Ending) (w' : World) : Prop := ∃ ac cc ao co as_ cs, e = .returned (.tuple #[.agg #[.bool R.up, .slice ac 3 cc, .slice ao R.orders.length co, .slice as_ R.safe.length cs, .int .i64 R.waits], .int .i64 0]) /\ OutM w.heap.size w' R (.slice ac 3 cc) (.slice ao R.orders.length co) (.slice as_ R.safe.length cs) /\ Below w.heap.size w w'
def OpO (K : List (List UInt8)) (Cs : List (List Cmd)) (v : World) (e : Ending) (v' : World) : Prop := ∃ b G, e = .returned (.tuple #[.pointer (some ⟨b, 0, none⟩), .int .i64 0]) /\ RoomM K Cs v.heap.size b G rom0 v' /\ Below v.heap.size v v'
theorem OutM.next (h : OutM N w R vc vo vs) (hb : ∀ g, g < w.heap.size -> N <= g -> w'.heap[g]? = w.heap[g]?) (hs : w.heap.size <= w'.heap.size) : OutM N w' R vc vo vs := by
 have hk : Keeps (N <= ·) w w' := ⟨hs, hb⟩; exact ⟨RowM.imp h.co (fun _ h => h) hk fun _ _ h => by
  obtain ⟨v, e, h⟩ := h; exact ⟨v, e, RowM.imp h (fun _ h => h) hk fun _ _ h => h⟩, RowM.imp h.od (fun _ h => h) hk fun _ _ h => by
  obtain ⟨v, e, h⟩ := h; exact ⟨v, e, RowM.imp h (fun _ h => h) hk fun _ _ h => h⟩, RowM.imp h.sf (fun _ h => h) hk fun _ _ h => by
  obtain ⟨vb, vs, e, h⟩ := h; exact ⟨vb, vs, e, h.imp (fun _ h => h) hk⟩⟩
theorem OutM.mono {N' : Nat} (hN : N' <= N) (h : OutM N w R vc vo vs) : OutM N' w R vc vo vs := by
 have hq : ∀ k, N <= k -> N' <= k := fun k hk => aN hN hk
 have hk := Keeps.refl (N <= ·) w; exact ⟨RowM.imp h.co hq hk fun _ _ h => by
  obtain ⟨v, e, h⟩ := h; exact ⟨v, e, RowM.imp h hq hk fun _ _ h => h⟩, RowM.imp h.od hq hk fun _ _ h => by
  obtain ⟨v, e, h⟩ := h; exact ⟨v, e, RowM.imp h hq hk fun _ _ h => h⟩, RowM.imp h.sf hq hk fun _ _ h => by
  obtain ⟨vb, vs, e, h⟩ := h; exact ⟨vb, vs, e, h.imp hq hk⟩⟩
theorem jqb (K : List (List UInt8)) (Cs : List (List Cmd)) (us : Value) (Q : Nat -> Prop) (a : Option Addr) (c : Nat) (l : List Acu) (w : World) (hM : AcsM Q w (.slice a l.length c) l) (hl : l.length <= 10000)
 (hC : ∀ x ∈ l, ∀ u, Calls Tryz.prog 21 #[.agg (acuC x).toArray] u fun e u' => e = .returned (.int .i64 0) /\ Below u.heap.size u u')
 (hO : ∀ v, Below w.heap.size w v -> Calls Tryz.prog 14 #[us] v (OpO K Cs v))
 (st : Nat -> Rom) (h0 : st 0 = rom0)
 (hD : ∀ (k : Nat) (x : Acu), l[k]? = some x -> ∀ (B b : Nat) (G : List Nat) (u : World), w.heap.size <= B -> Below w.heap.size w u -> RoomM K Cs B b G (st k) u -> Calls Tryz.prog 16 #[.pointer (some ⟨b, 0, none⟩), .agg (acuC x).toArray] u (RmQ K Cs B b G u (st (k + 1)) (.tuple #[]))) :
 Calls Tryz.prog 9 #[us, .slice a l.length c] w (RunP w (st l.length)) := by
 have HM := hid hM; have HC := hid hC; have HO := hid (hO _ ((ay _ w).alloc (ai _) (.cells #[.bool false, .slice none 0 0, .slice none 0 0, .slice none 0 0, .int .i64 0] 28))); have HD := hid hD; have bX := hid (show Below w.heap.size w (w.alloc (.cells #[.bool false, .slice none 0 0, .slice none 0 0, .slice none 0 0, .int .i64 0] 28)) from nb0 _ _); have HZ := hid (az w (.cells #[.bool false, .slice none 0 0, .slice none 0 0, .slice none 0 0, .int .i64 0] 28)); clear hM hC hO hD; go_enter Tryz.func9, Tryz.ntmps9; go_wp2_with fail; refine HO.out.mono ?_; rintro e w1 ⟨b, G, rfl, hR, hb1⟩; obtain ⟨N, hN⟩ : ∃ N, N = (w.alloc (.cells #[.bool false, .slice none 0 0, .slice none 0 0, .slice none 0 0, .int .i64 0] 28)).heap.size := ⟨_, rfl⟩; have r7 : N = w.heap.size + 1 := by rw [hN]; simp
 rw [<- hN] at hR hb1; have HR := hid hR; have An := hid hb1; have cO := hid (show Below w.heap.size w w1 from bX.out.trans (hb1.mono (by omega))); have oJ := hid (jgq Q a c l w1 (HM.out.next cO.out) hl HC.out); have iD := hid ((hb1.block w.heap.size (by omega)).trans HZ.out); clear hR hb1 hN HO HZ; go_wp2_with fail; refine oJ.out.mono ?_; rintro e w2 ⟨rfl, hb2⟩; have cD := hid (HR.out.next hb2); have dH := hid (cO.out.trans (hb2.mono cO.out.size)); have eI := hid ((hb2.block w.heap.size (by have := cO.out.size; have := (aj.1 iD.out).1; omega)).trans iD.out); clear hb2 oJ HR cO iD An; go_wp2
 go_loopw [25] (fun i wr => ∃ (k : Nat) (G' : List Nat), k <= l.length /\ i = .int .i64 k /\ Hid (RoomM K Cs N b G' (st k) wr) /\ Hid (Below w.heap.size w wr) /\ Hid (wr.heap[w.heap.size]? = some (.cells #[.bool false, .slice none 0 0, .slice none 0 0, .slice none 0 0, .int .i64 0] 28))) (fun i _ => l.length - (intOf i).toNat)
 case atStart => exact ⟨0, G, aQ _, rfl, hid (by rw [h0]; exact cD.out), dH, eI⟩
 case round =>
  obtain ⟨k, G', hk, rfl, lw, fQ, rU⟩ := hrel
  by_cases hlt : k < l.length
  . have k1 : (k : Int) < (l.length : Int) := by omega
    have k0 : (0 : Int) <= (k : Int) := by omega
    have hx : l[k]? = some l[k] := aw hlt; generalize l[k] = x at hx; obtain ⟨g, o, rfl, x0, x1, x2, x3, x4, x5, x6, x7, x8, x9, x10⟩ := (HM.out.next fQ.out).at hx; have cw : ∀ o, Below wr.heap.size wr (wr.alloc o) := fun o => (ay _ _).alloc (ai _) o
    have cu := hid cw; have oL := hid (fun o => HD.out k x hx N b G' (wr.alloc o) (by omega) (fQ.out.trans ((cw o).mono fQ.out.size)) (lw.out.next (cw o))); clear hx cw; unfold acuC at oL; go_wp2_with fail; refine (oL.out _).mono ?_; rintro e w3 ⟨rfl, G3, cB, hs3⟩; have fg := (lw.out.next (cu.out (.cells #[.int .i64 x.kind, .int .i64 x.conn, .int .i64 x.user, .int .i64 x.keep, .string (S x.data), .int .i64 x.ent.kind, .string (S x.ent.box), .int .i64 x.ent.uid, .int .i64 x.ent.flags, .string (S x.ent.goal), .string (S x.ent.text)] 34))).low hs3; have cT := hid cB; have hzl := (aj.1 rU.out).1; have bZ := hid (fQ.out.trans (((cu.out _).mono fQ.out.size).trans (fg.mono (by omega)))); have gF := hid ((fg.block w.heap.size (by omega)).trans (((cu.out _).block w.heap.size hzl).trans rU.out)); clear cB hs3 fg hzl; go_wp2
    go_roundw
    case rel => first | exact ⟨k + 1, G3, by omega, by go_num, cT, bZ, gF⟩ | ((repeat apply Exists.intro); exact ⟨⟨k + 1, G3, by omega, by go_num, cT, bZ, gF⟩, rfl⟩)
    case measure => simp [intOf]; omega
  . have k1 : ¬ (k : Int) < (l.length : Int) := by omega
    obtain rfl : k = l.length := by omega
    have A8 := hid (jgW K Cs N b G' (st l.length) wr lw.out); go_wp2_with fail; refine A8.out.mono ?_; rintro e w3 ⟨ac, cc, ao, co, as_, cs, rfl, dC, hb3⟩; have hr := (hb3.block w.heap.size (aj.1 rU.out).1).trans rU.out; obtain ⟨r0, r1, r2, r3, r4⟩ := bx5 hr; have zf : ∀ o, w3.frozen? ⟨w.heap.size, o, none⟩ = false := fun o => by simp [World.frozen?, hr]
    have cT := hid hr; have db := hid dC; have bZ := hid (fQ.out.trans (hb3.mono fQ.out.size)); clear hr dC hb3; have m := put5 (w := w3) (b := w.heap.size) (.bool (st l.length).up) (.slice ac 3 cc) (.slice ao (st l.length).orders.length co) (.slice as_ (st l.length).safe.length cs) (.int .i64 (st l.length).waits) cT.out; have tu := hid m; clear m; go_wp2; obtain ⟨W6, fu⟩ : ∃ W6, W6 = (((((w3.setCell ⟨w.heap.size, 0, none⟩ (.bool (st l.length).up)).setCell ⟨w.heap.size, 1, none⟩ (.slice ac 3 cc)).setCell ⟨w.heap.size, 2, none⟩ (.slice ao (st l.length).orders.length co)).setCell ⟨w.heap.size, 3, none⟩ (.slice as_ (st l.length).safe.length cs)).setCell ⟨w.heap.size, 4, none⟩ (.int .i64 (st l.length).waits)) := ⟨_, rfl⟩; have m := tu.out; rw [<- fu] at m ⊢; obtain ⟨m0, m1, m2, m3, m4⟩ := bx5 m; refine aD (v := .tuple #[.agg #[.bool (st l.length).up, .slice ac 3 cc, .slice ao (st l.length).orders.length co, .slice as_ (st l.length).safe.length cs, .int .i64 (st l.length).waits], .int .i64 0]) (by simp only [results, Tryz.results9]; simp [go_sem, m0, m1, m2, m3, m4]) rfl ?_; have gh : Below w.heap.size w W6 := by
        rw [fu]; exact (((((bZ.out.setCell (ai _) _).setCell (ai _) _).setCell (ai _) _).setCell (ai _) _).setCell (ai _) _)
    refine ⟨ac, cc, ao, co, as_, cs, rfl, OutM.mono (by omega) (OutM.next db.out (fun g hg Cc => ?_) ?_), gh⟩
    . rw [fu]; have hn : g ≠ w.heap.size := by omega
      exact (aC _ _ _ _ hn).trans ((aC _ _ _ _ hn).trans ((aC _ _ _ _ hn).trans ((aC _ _ _ _ hn).trans (aC _ _ _ _ hn))))
    . rw [fu]
      simp [World.setCell]
def usK : List (List UInt8) := [nmA, nmB, nmC]
def usCs : List (List Cmd) := [[], cmdB, cmdC]
theorem chA : jP nmA [120] = 0 := by kernel_rfl
theorem chB : jP nmB [120] = 0 := by kernel_rfl
theorem chC : jP nmC [120] = 0 := by kernel_rfl
theorem jp0 (p : Nat) (v : World) (hm : TabsM v) (hp : v.heap[p]? = some (jic nmA [] nmB scrB nmC scrC)) : Calls Tryz.prog 14 #[.slice (some ⟨p, 0, none⟩) 3 3] v (OpO usK usCs v) := by
 refine (jnD p nmA [] nmB scrB nmC scrC usCs 3 (by omega) 1 (by decide) v hp fun k u W1 b v5 v6 v36 hk sA hu hb hI => ?_).mono fun e v' h => ?_
 . have hq : ∀ {e : Ending} {v' : World}, e = .returned (.int .i64 0) /\ RoI W1 v.heap.size b v5 v6 v36 ([nmA, nmB, nmC].take (k + 1)) (usCs.take (k + 1)) v' -> AdQ 3 1 W1 v.heap.size b v5 v6 v36 [nmA, nmB, nmC] usCs k u e v' := fun h => by
    unfold AdQ; rw [if_pos hk]; exact h
   obtain rfl | rfl | rfl : k = 0 ∨ k = 1 ∨ k = 2 := by omega
   . exact (hI.take hb (by decide) (by decide) nmA [] [] chA (by decide) rfl fun x hx => jq9 x ((hm.next hu).next hx)).mono fun e w' h => hq h
   . exact (hI.take hb (by decide) (by decide) nmB scrB cmdB chB (by decide) rfl fun x hx => jra x ((hm.next hu).next hx)).mono fun e w' h => hq h
   . exact (hI.take hb (by decide) (by decide) nmC scrC cmdC chC (by decide) rfl fun x hx => jrb x ((hm.next hu).next hx)).mono fun e w' h => hq h
 . unfold OpnQ at h; rw [if_neg (by omega)] at h; obtain ⟨W1, b, v5, v6, v36, he, BY, hb, ka, hL, hO, hI⟩ := h; obtain ⟨G, hG⟩ := RoomM.of_open BY hb hL hO hI ka.size (by decide) (by decide); exact ⟨b, G, he, hG, ka.trans (hI.low hb ka.size)⟩
theorem jc1 (u : World) : Calls Tryz.prog 21 #[.agg (acuC jb2).toArray] u fun e u' => e = .returned (.int .i64 0) /\ Below u.heap.size u u' := by
 refine (jnM 0 0 0 0 0 0 [] [] [] [] (by simp) u).mono ?_; rintro e u' ⟨⟨r, rfl, hA⟩, hb⟩; refine ⟨?_, hb⟩; have h0 : ActE 2 0 0 0 [] (entZ 0 0 0 [] [] []) 0 := by
  refine .inr ⟨by decide, .inr ⟨⟨fun h => by omega, fun h => by omega, fun h => by omega⟩, .inr ⟨fun h => by omega, .inr ⟨⟨.inr ⟨rfl, rfl⟩, .inr rfl, .inr ⟨rfl, rfl, rfl, rfl, rfl, rfl, rfl⟩⟩, rfl⟩⟩⟩⟩
 rw [jhs hA h0]
def jkF (c : Con) : Prop := c.held = [] /\ mayS c.ses = true /\ c.told.length + c.due.length <= 100000
theorem jmN (R : Rom) : relR R 3 = ⟨R.up, R.tape, R.tsyn, R.syn, R.waits, R.safe, R.states, zT R.c0, zT R.c1, zT R.c2, R.orders, R.due⟩ := rfl
theorem jhh (K : List (List UInt8)) (Cs : List (List Cmd)) (B b : Nat) (G : List Nat) (R : Rom) (w : World) (hR : RoomM K Cs B b G R w) (eV : R.up = true) (hm : mayN R.tape.length R.tsyn = true) (ll : 0 <= R.syn /\ R.syn <= 1000000) (mC : 0 <= R.waits /\ R.waits <= 1000000) (hn : 0 < R.states.length /\ R.states.length <= 1000) (sn : R.due = [])
 (h0 : jkF R.c0) (h1 : jkF R.c1) (h2 : jkF R.c2) (hM : ∀ w', Below B w w' -> TabsM w') :
 Calls Tryz.prog 16 #[.pointer (some ⟨b, 0, none⟩), .agg (acuC jb2).toArray] w (RmQ K Cs B b G w (relR (zq R) 3) (.tuple #[])) := by
 refine jpq K Cs B b G R w hR eV _ fun w' hb' => ?_
 obtain ⟨h0a, h0b, h0c⟩ := h0; obtain ⟨h1a, h1b, h1c⟩ := h1; obtain ⟨h2a, h2b, h2c⟩ := h2; refine jlR K Cs B b G R w' (hR.next hb') hm ll mC hn sn ?_ (fun _ => relR (zq R) 3) rfl ?_
 . intro q hq
   match q, hq with
   | 0, _ => show R.c0.told.length + R.c0.due.length <= _; omega
   | 1, _ => show R.c1.told.length + R.c1.due.length <= _; omega
   | 2, _ => show R.c2.told.length + R.c2.due.length <= _; omega
 . intro q G' w2 hq hb2 cA; have wq : ∀ w3, Below B w2 w3 -> TabsM w3 := fun w3 h3 => hM w3 (((hb'.mono (by have := hR.lt; omega)).trans hb2).trans h3)
   have key : ∀ c : Con, (relR (zq R) 3).con q = zT c -> c.held = [] -> mayS c.ses = true -> c.told.length + c.due.length <= 100000 -> Calls Tryz.prog 24 #[.pointer (some ⟨b, 0, none⟩), .pointer (some ⟨b, 7 + q * 9, none⟩)] w2 (RmQ K Cs B b G' w2 (relR (zq R) 3) (.tuple #[])) := fun c hc ha hb hl => by
    have e1 : (relR (zq R) 3).con q = lnsK c.ses [] (c.told ++ c.due) := by
        rw [hc]; unfold zT dueC jbC lnsK; simp only [ha]
    have e2 : (relR (zq R) 3).put q (lnsK c.ses [] (c.told ++ c.due)) = relR (zq R) 3 := by rw [<- e1]; exact jd3 _ q hq
    have h := jms K Cs B b G' (relR (zq R) 3) w2 q _ hq rfl cA ⟨by rw [e1]; show (0 : Nat) <= _; omega, fun _ => ⟨c.ses, [], c.told ++ c.due, e1, hb, trivial, by rw [aB]; simp only [aJ]; omega, .inl rfl⟩⟩ wq 0 (by rw [e1]; exact ai _); have e3 : qY dlvR K q 0 (relR (zq R) 3) = relR (zq R) 3 := by
        have := jlW K (relR (zq R) 3) q 0 c.ses (c.told ++ c.due); rw [e2] at this; exact this
    rw [e3] at h; exact h
   match q, hq with
   | 0, _ => exact key R.c0 rfl h0a h0b h0c
   | 1, _ => exact key R.c1 rfl h1a h1b h1c
   | 2, _ => exact key R.c2 rfl h2a h2b h2c
def mlS (nx : Int) (ms : List Mail) : Stt := ⟨[⟨[73, 78, 66, 79, 88], nx, ms⟩], []⟩
theorem jhR (nx : Int) (ms : List Mail) : (mlS nx ms).boxes.findIdx? (isName [73, 78, 66, 79, 88]) = some 0 := by
 have h : isName [73, 78, 66, 79, 88] (⟨[73, 78, 66, 79, 88], nx, ms⟩ : Bx) = true := by simp [isName]
 simp [mlS, List.findIdx?_cons, h]
theorem joL (nx : Int) (ms : List Mail) (t : List UInt8) : doM (mlS nx ms) (kpE t) = if 30 <= ms.length ∨ 1048576 < nx ∨ 6000 < zd ms + t.length then .error 5 else .ok (mlS (nx + 1) (ms ++ [⟨nx, 0, t⟩])) := by
 rw [jkj (x := kpE t) rfl (jhR nx ms)]; unfold addM; rw [show (mlS nx ms).boxes[0]? = some ⟨[73, 78, 66, 79, 88], nx, ms⟩ from rfl]; have hs : j4 (mlS nx ms).boxes = zd ms := by simp [mlS, j4]
 simp only [hs]; rfl
theorem jec : May inbS :=
 ⟨by decide, by decide, fun b hb => by
  have e : b = ⟨[73, 78, 66, 79, 88], 1, []⟩ := by simpa [inbS] using hb
  subst e; exact ⟨by decide, by decide, by decide, trivial⟩, by decide, by decide, fun x hx => by cases hx⟩
def mlR (tp : List UInt8) (ts sy wa : Int) (s0 s1 : Stt) (c0 c1 : Con) : Rom := ⟨true, tp, ts, sy, wa, [s0, inbS, inbS], [s1, inbS, inbS], c0, c1, con0, [[], [], []], []⟩
theorem jlb {tp : List UInt8} {ts sy wa : Int} {s0 : Stt} {nx : Int} {ms : List Mail} {c0 c1 : Con} (hM : May (mlS nx ms)) (ht : mayN tp.length ts = true) (hl : tp.length <= 70000) (hw : 0 <= wa /\ wa < 8) : RomK usCs (mlR tp ts sy wa s0 (mlS nx ms) c0 c1) :=
 ⟨rfl, rfl, rfl, hM, rfl, ⟨0, jhR nx ms⟩, ht, by show tp.length + 30000 <= 100000; omega, hw.2, hw.1⟩
def RanP (w : World) (R : Rom) (e : Ending) (w' : World) : Prop := ∃ ac cc ao co as_ cs, e = .returned (.tuple #[.agg #[.bool R.up, .slice ac 3 cc, .slice ao 3 co, .slice as_ 3 cs, .int .i64 R.waits], .bool true]) /\ OutM w.heap.size w' R (.slice ac 3 cc) (.slice ao 3 co) (.slice as_ 3 cs) /\ Below w.heap.size w w'
theorem jlE (Q : Nat -> Prop) (a : Option Addr) (c : Nat) (l : List Acu) (w : World) (hm : TabsM w) (hM : AcsM Q w (.slice a l.length c) l) (hl : l.length <= 10000)
 (hC : ∀ x ∈ l, ∀ u, Calls Tryz.prog 21 #[.agg (acuC x).toArray] u fun e u' => e = .returned (.int .i64 0) /\ Below u.heap.size u u')
 (st : Nat -> Rom) (h0 : st 0 = rom0) (hs3 : (st l.length).safe.length = 3) (gO : (st l.length).orders.length = 3)
 (hD : ∀ (k : Nat) (x : Acu), l[k]? = some x -> ∀ (B b : Nat) (G : List Nat) (u : World), w.heap.size <= B -> Below w.heap.size w u -> RoomM usK usCs B b G (st k) u -> Calls Tryz.prog 16 #[.pointer (some ⟨b, 0, none⟩), .agg (acuC x).toArray] u (RmQ usK usCs B b G u (st (k + 1)) (.tuple #[]))) :
 Calls Tryz.prog 6 #[.slice a l.length c] w (RanP w (st l.length)) := by
 obtain ⟨W1, hW1⟩ : ∃ W1, W1 = w.alloc (.cells #[.bool false, .slice none 0 0, .slice none 0 0, .slice none 0 0, .int .i64 0] 28) := ⟨_, rfl⟩; obtain ⟨W2, hW2⟩ : ∃ W2, W2 = W1.alloc (jic nmA [] nmB scrB nmC scrC) := ⟨_, rfl⟩; have hb1 : Below w.heap.size w W1 := by rw [hW1]; exact nb0 _ _
 have hb2 : Below w.heap.size w W2 := by rw [hW2]; exact hb1.alloc hb1.size _
 have hz1 : W1.heap.size = w.heap.size + 1 := by rw [hW1]; simp
 have hz2 : W2.heap.size = w.heap.size + 2 := by rw [hW2]; simp [hz1]
 have hu : W2.heap[W1.heap.size]? = some (jic nmA [] nmB scrB nmC scrC) := by rw [hW2]; exact az W1 _
 have hr2 : W2.heap[w.heap.size]? = some (.cells #[.bool false, .slice none 0 0, .slice none 0 0, .slice none 0 0, .int .i64 0] 28) := by
  rw [hW2, hW1]; exact jco _ (az w _)
 have iV := hid (jqb usK usCs (.slice (some ⟨W1.heap.size, 0, none⟩) 3 3) Q a c l W2 (hM.next hb2) hl hC (fun v hv => jp0 W1.heap.size v ((hm.next hb2).next hv) ((hv.block _ (aj.1 hu).1).trans hu)) st h0
  (fun k x hx B b G u hB b6 hR => hD k x hx B b G u (by omega) (hb2.trans (b6.mono (by omega))) hR))
 rw [hz1] at iV; have mZ := hid hW1; have eB := hid hW2; have bY := hid hb2; have cD := hid hr2; clear hM hC hD hm hb1 hb2 hu hr2 hW1 hW2; obtain ⟨R, hR⟩ : ∃ R, R = st l.length := ⟨_, rfl⟩; rw [<- hR] at iV hs3 gO ⊢; clear hR; go_enter Tryz.func6, Tryz.ntmps6; go_wp2_with fail; rw [<- mZ.out]; refine (jmn W1).mono ?_; rintro e u ⟨rfl, hu⟩; rw [hz1]; rw [<- eB.out] at hu; have b6 := hu.symm; subst b6; clear hu; go_wp2_with fail; refine iV.out.mono ?_; rintro e w3 ⟨ac, cc, ao, co, as_, cs, rfl, dC, hb3⟩; rw [gO, hs3] at dC; have hr3 := (hb3.block w.heap.size (by omega)).trans cD.out; obtain ⟨W3, hW3⟩ : ∃ W3, W3 = w3.alloc (.cells #[.bool R.up, .slice ac 3 cc, .slice ao 3 co, .slice as_ 3 cs, .int .i64 R.waits] 28) := ⟨_, rfl⟩; have hb4 : Below w3.heap.size w3 W3 := by rw [hW3]; exact nb0 _ _
 have hr4 := (hb4.block w.heap.size (aj.1 hr3).1).trans hr3; have iH : W3.heap[w3.heap.size]? = some (.cells #[.bool R.up, .slice ac 3 cc, .slice ao 3 co, .slice as_ 3 cs, .int .i64 R.waits] 28) := by rw [hW3]; exact az w3 _
 have cP := hid hW3; have ft := hid iH; have dm := hid hr4; have iT := hid (OutM.next dC (fun g hg _ => hb4.block g hg) hb4.size); have ch := hid (bY.out.trans ((hb3.trans (hb4.mono hb3.size)).mono (by omega))); have HL := hid (show w.heap.size < w3.heap.size by have := hb3.size; omega); clear hr3 hb4 hr4 iH hW3 dC hb3; go_upto_region 2 with fail
 rw [<- cP.out]; have iH := ft.out; have hr4 := dm.out; obtain ⟨x0, x1, x2, x3, x4⟩ := bx5 iH; obtain ⟨r0, r1, r2, r3, r4⟩ := bx5 hr4; have zf : ∀ o, W3.frozen? ⟨w.heap.size, o, none⟩ = false := fun o => by simp [World.frozen?, hr4]
 have hne : w.heap.size ≠ w3.heap.size := by have := HL.out; omega
 have lL : w3.heap.size ≠ w.heap.size := by have := HL.out; omega
 clear iH hr4 hs3 gO; refine wp_region_held_drew (S := fun u => u.cell? ⟨w3.heap.size, 0, none⟩ = some (.bool R.up) /\ u.cell? ⟨w3.heap.size, 1, none⟩ = some (.slice ac 3 cc) /\ u.cell? ⟨w3.heap.size, 2, none⟩ = some (.slice ao 3 co) /\ u.cell? ⟨w3.heap.size, 3, none⟩ = some (.slice as_ 3 cs) /\ u.cell? ⟨w3.heap.size, 4, none⟩ = some (.int .i64 R.waits)) (by kernel_rfl) ?_ (fun hHeld => ?_)
 . exact ⟨x0, x1, x2, x3, x4⟩
 refine bG (i := 0) (v := ?v1) rfl (by kernel_rfl) (by kernel_rfl) (by kernel_rfl) (fun _ _ _ h => h) (Or.inl ⟨by rfl, ?hy1⟩) (by assumption) ?_
 case hy1 =>
  intro w hSw
  (try dsimp only at hSw)
  go_simp
  all_goals with_reducible rfl
 change wpAnyH _ _ _ _ _ _ _ (Act.put _ (some 12) _) _
 try simp only [Act.put, af, ah, ag]
 refine bG (i := 1) (v := ?v2) rfl (by kernel_rfl) (by kernel_rfl) (by kernel_rfl) (fun _ _ _ h => h) (Or.inl ⟨by rfl, ?hy2⟩) (by assumption) ?_
 case hy2 =>
  intro w hSw
  (try dsimp only at hSw)
  go_simp
  all_goals with_reducible rfl
 change wpAnyH _ _ _ _ _ _ _ (Act.put _ (some 13) _) _
 try simp only [Act.put, af, ah, ag]
 refine bG (i := 2) (v := ?v3) rfl (by kernel_rfl) (by kernel_rfl) (by kernel_rfl) (fun _ _ _ h => h) (Or.inl ⟨by rfl, ?hy3⟩) (by assumption) ?_
 case hy3 =>
  intro w hSw
  (try dsimp only at hSw)
  go_simp
  all_goals with_reducible rfl
 change wpAnyH _ _ _ _ _ _ _ (Act.put _ (some 14) _) _
 try simp only [Act.put, af, ah, ag]
 refine bG (i := 3) (v := ?v4) rfl (by kernel_rfl) (by kernel_rfl) (by kernel_rfl) (fun _ _ _ h => h) (Or.inl ⟨by rfl, ?hy4⟩) (by assumption) ?_
 case hy4 =>
  intro w hSw
  (try dsimp only at hSw)
  go_simp
  all_goals with_reducible rfl
 change wpAnyH _ _ _ _ _ _ _ (Act.put _ (some 15) _) _
 try simp only [Act.put, af, ah, ag]
 refine bG (i := 4) (v := ?v5) rfl (by kernel_rfl) (by kernel_rfl) (by kernel_rfl) (fun _ _ _ h => h) (Or.inl ⟨by rfl, ?hy5⟩) (by assumption) ?_
 case hy5 =>
  intro w hSw
  (try dsimp only at hSw)
  go_simp
  all_goals with_reducible rfl
 change wpAnyH _ _ _ _ _ _ _ (Act.put _ (some 16) _) _
 try simp only [Act.put, af, ah, ag]
 refine bG (i := 5) (v := ?v6) rfl (by kernel_rfl) (by kernel_rfl) (by kernel_rfl) (fun _ _ _ h => h) (Or.inl ⟨by rfl, ?hy6⟩) (by assumption) ?_
 case hy6 =>
  intro w hSw
  (try dsimp only at hSw)
  go_simp
  all_goals with_reducible rfl
 change wpAnyH _ _ _ _ _ _ _ (Act.put _ (some 17) _) _
 try simp only [Act.put, af, ah, ag]
 refine bG (i := 6) (v := ?v7) rfl (by kernel_rfl) (by kernel_rfl) (by kernel_rfl) (fun _ _ _ h => h) (Or.inl ⟨by rfl, ?hy7⟩) (by assumption) ?_
 case hy7 =>
  intro w hSw
  (try dsimp only at hSw)
  go_simp
  all_goals with_reducible rfl
 change wpAnyH _ _ _ _ _ _ _ (Act.put _ (some 18) _) _
 try simp only [Act.put, af, ah, ag]
 refine bG (i := 7) (v := ?v8) rfl (by kernel_rfl) (by kernel_rfl) (by kernel_rfl) (fun _ _ _ h => h) (Or.inl ⟨by rfl, ?hy8⟩) (by assumption) ?_
 case hy8 =>
  intro w hSw
  (try dsimp only at hSw)
  go_simp
  all_goals with_reducible rfl
 change wpAnyH _ _ _ _ _ _ _ (Act.put _ (some 19) _) _
 try simp only [Act.put, af, ah, ag]
 refine bG (i := 8) (v := ?v9) rfl (by kernel_rfl) (by kernel_rfl) (by kernel_rfl) (fun _ _ _ h => h) (Or.inl ⟨by rfl, ?hy9⟩) (by assumption) ?_
 case hy9 =>
  intro w hSw
  (try dsimp only at hSw)
  go_simp
  all_goals with_reducible rfl
 change wpAnyH _ _ _ _ _ _ _ (Act.put _ (some 20) _) _
 try simp only [Act.put, af, ah, ag]
 refine bG (i := 9) (v := ?v10) rfl (by kernel_rfl) (by kernel_rfl) (by kernel_rfl) (fun _ _ _ h => h) (Or.inl ⟨by rfl, ?hy10⟩) (by assumption) ?_
 case hy10 =>
  intro w hSw
  (try dsimp only at hSw)
  go_simp
  all_goals with_reducible rfl
 change wpAnyH _ _ _ _ _ _ _ (Act.put _ (some 21) _) _
 try simp only [Act.put, af, ah, ag]
 refine bG (i := 10) (v := ?v11) rfl (by kernel_rfl) (by kernel_rfl) (by kernel_rfl) (fun _ _ _ h => h) (Or.inl ⟨by rfl, ?hy11⟩) (by assumption) ?_
 case hy11 =>
  intro w hSw
  (try dsimp only at hSw)
  go_simp
  all_goals with_reducible rfl
 change wpAnyH _ _ _ _ _ _ _ (Act.put _ (some 22) _) _
 try simp only [Act.put, af, ah, ag]
 refine bG (i := 11) (v := ?v12) rfl (by kernel_rfl) (by kernel_rfl) (by kernel_rfl) (fun _ _ _ h => h) (Or.inl ⟨by rfl, ?hy12⟩) (by assumption) ?_
 case hy12 =>
  intro w hSw
  (try dsimp only at hSw)
  go_simp
  all_goals with_reducible rfl
 change wpAnyH _ _ _ _ _ _ _ (Act.put _ (some 23) _) _
 try simp only [Act.put, af, ah, ag]
 refine bG (i := 12) (v := ?v13) rfl (by kernel_rfl) (by kernel_rfl) (by kernel_rfl) (fun _ _ _ h => h) (Or.inl ⟨by rfl, ?hy13⟩) (by assumption) ?_
 case hy13 =>
  intro w hSw
  (try dsimp only at hSw)
  go_simp
  all_goals with_reducible rfl
 change wpAnyH _ _ _ _ _ _ _ (Act.put _ (some 24) _) _
 try simp only [Act.put, af, ah, ag]
 refine bG (i := 13) (v := ?v14) rfl (by kernel_rfl) (by kernel_rfl) (by kernel_rfl) (fun _ _ _ h => h) (Or.inl ⟨by rfl, ?hy14⟩) (by assumption) ?_
 case hy14 =>
  intro w hSw
  (try dsimp only at hSw)
  go_simp
  all_goals with_reducible rfl
 change wpAnyH _ _ _ _ _ _ _ (Act.put _ (some 25) _) _
 try simp only [Act.put, af, ah, ag]
 refine bG (i := 14) (v := ?v15) rfl (by kernel_rfl) (by kernel_rfl) (by kernel_rfl) (fun _ _ _ h => h) (Or.inl ⟨by rfl, ?hy15⟩) (by assumption) ?_
 case hy15 =>
  intro w hSw
  (try dsimp only at hSw)
  go_simp
  all_goals with_reducible rfl
 change wpAnyH _ _ _ _ _ _ _ (Act.put _ (some 26) _) _
 try simp only [Act.put, af, ah, ag]
 refine bG (i := 15) (v := ?v16) rfl (by kernel_rfl) (by kernel_rfl) (by kernel_rfl) (fun _ _ _ h => h) (Or.inl ⟨by rfl, ?hy16⟩) (by assumption) ?_
 case hy16 =>
  intro w hSw
  (try dsimp only at hSw)
  go_simp
  all_goals with_reducible rfl
 change wpAnyH _ _ _ _ _ _ _ (Act.put _ (some 27) _) _
 try simp only [Act.put, af, ah, ag]
 refine bG (i := 16) (v := ?v17) rfl (by kernel_rfl) (by kernel_rfl) (by kernel_rfl) (fun _ _ _ h => h) (Or.inl ⟨by rfl, ?hy17⟩) (by assumption) ?_
 case hy17 =>
  intro w hSw
  (try dsimp only at hSw)
  go_simp
  all_goals with_reducible rfl
 change wpAnyH _ _ _ _ _ _ _ (Act.put _ (some 28) _) _
 try simp only [Act.put, af, ah, ag]
 refine bG (i := 17) (v := ?v18) rfl (by kernel_rfl) (by kernel_rfl) (by kernel_rfl) (fun _ _ _ h => h) (Or.inl ⟨by rfl, ?hy18⟩) (by assumption) ?_
 case hy18 =>
  intro w hSw
  (try dsimp only at hSw)
  go_simp
  all_goals with_reducible rfl
 change wpAnyH _ _ _ _ _ _ _ (Act.put _ (some 29) _) _
 try simp only [Act.put, af, ah, ag]
 refine bG (i := 18) (v := ?v19) rfl (by kernel_rfl) (by kernel_rfl) (by kernel_rfl) (fun _ _ _ h => h) (Or.inl ⟨by rfl, ?hy19⟩) (by assumption) ?_
 case hy19 =>
  intro w hSw
  (try dsimp only at hSw)
  go_simp
  all_goals with_reducible rfl
 change wpAnyH _ _ _ _ _ _ _ (Act.put _ (some 30) _) _
 try simp only [Act.put, af, ah, ag]
 refine bG (i := 19) (v := ?v20) rfl (by kernel_rfl) (by kernel_rfl) (by kernel_rfl) (fun _ _ _ h => h) (Or.inl ⟨by rfl, ?hy20⟩) (by assumption) ?_
 case hy20 =>
  intro w hSw
  (try dsimp only at hSw)
  go_simp
  all_goals with_reducible rfl
 change wpAnyH _ _ _ _ _ _ _ (Act.put _ (some 31) _) _
 try simp only [Act.put, af, ah, ag]
 refine bG (i := 20) (v := ?v21) rfl (by kernel_rfl) (by kernel_rfl) (by kernel_rfl) (fun _ _ _ h => h) (Or.inl ⟨by rfl, ?hy21⟩) (by assumption) ?_
 case hy21 =>
  intro w hSw
  (try dsimp only at hSw)
  go_simp
  all_goals with_reducible rfl
 change wpAnyH _ _ _ _ _ _ _ (Act.put _ (some 32) _) _
 try simp only [Act.put, af, ah, ag]
 refine bH (rs := [21]) (by kernel_rfl) (by simp) ?_; refine AllReadyH.cons rfl (fun K hK => ?_) AllReadyH.nil
 go_simp
 refine hK.out _ _ ?_ (fun hHeld => ?_)
 . go_keep
 clear hK K
 try simp only [Act.put, af, ah, ag]
 refine bG (i := 22) (v := ?v22) rfl (by kernel_rfl) (by kernel_rfl) (by kernel_rfl) (fun _ _ _ h => h) (Or.inl ⟨by rfl, ?hy22⟩) (by assumption) ?_
 case hy22 =>
  intro w hSw
  (try dsimp only at hSw)
  go_simp
  all_goals with_reducible rfl
 change wpAnyH _ _ _ _ _ _ _ (Act.put _ (some 3) _) _
 try simp only [Act.put, af, ah, ag]
 refine wpAnyH_done (by kernel_rfl) ?_ _; go_wp2_with fail; obtain ⟨W6, fu⟩ : ∃ W6, W6 = (((((W3.setCell ⟨w.heap.size, 0, none⟩ (.bool R.up)).setCell ⟨w.heap.size, 1, none⟩ (.slice ac 3 cc)).setCell ⟨w.heap.size, 2, none⟩ (.slice ao 3 co)).setCell ⟨w.heap.size, 3, none⟩ (.slice as_ 3 cs)).setCell ⟨w.heap.size, 4, none⟩ (.int .i64 R.waits)) := ⟨_, rfl⟩; have m := put5 (w := W3) (b := w.heap.size) (.bool R.up) (.slice ac 3 cc) (.slice ao 3 co) (.slice as_ 3 cs) (.int .i64 R.waits) dm.out; rw [<- fu] at m; have md : W6.drew.heap[w.heap.size]? = some (.cells #[.bool R.up, .slice ac 3 cc, .slice ao 3 co, .slice as_ 3 cs, .int .i64 R.waits] 28) := m; obtain ⟨m0, m1, m2, m3, m4⟩ := bx5 md; have gh : Below w.heap.size w W6.drew := by
  rw [fu]; exact ((((((ch.out.setCell (ai _) _).setCell (ai _) _).setCell (ai _) _).setCell (ai _) _).setCell (ai _) _)).drew
 have BW : OutM w.heap.size W6.drew R (.slice ac 3 cc) (.slice ao 3 co) (.slice as_ 3 cs) := by
  refine OutM.mono (show w.heap.size <= W2.heap.size by omega) (OutM.next iT.out (fun g hg Cc => ?_) ?_)
  . rw [fu]; have hn : g ≠ w.heap.size := by omega
    exact (aC _ _ _ _ hn).trans ((aC _ _ _ _ hn).trans ((aC _ _ _ _ hn).trans ((aC _ _ _ _ hn).trans (aC _ _ _ _ hn))))
  . rw [fu]
    simp [World.setCell]
 have HF := hid (show RanP w R (.returned (.tuple #[.agg #[.bool R.up, .slice ac 3 cc, .slice ao 3 co, .slice as_ 3 cs, .int .i64 R.waits], .bool true])) W6.drew from ⟨ac, cc, ao, co, as_, cs, rfl, BW, gh⟩); rw [<- fu]; refine aD (v := .tuple #[.agg #[.bool R.up, .slice ac 3 cc, .slice ao 3 co, .slice as_ 3 cs, .int .i64 R.waits], .bool true]) (by simp only [results, Tryz.results6]; simp [go_sem, m0, m1, m2, m3, m4]) rfl HF.out
theorem IntsM.inn (h : IntsM Q w v l) : ∃ a c, v = .slice a l.length c /\ ∀ (i : Nat) x, l[i]? = some x -> ∃ b o, a = some ⟨b, o, none⟩ /\ w.cell? ⟨b, o + i, none⟩ = some (.int .i64 x) := by
 obtain ⟨a, c, hv, _, hr⟩ := h; refine ⟨a, c, hv, fun i x hx => ?_⟩; obtain ⟨b, o, cs, ha, _, _, _, hc, hP⟩ := hr i x hx; have hP : cs = [.int .i64 x] := hP; refine ⟨b, o, ha, ?_⟩; have := hc 0 _ (by rw [hP]; rfl)
 simpa using this
theorem jlk {ac : Option Addr} {cc : Nat} (h : OutM N w R (.slice ac 3 cc) vo vs) : ∃ g o, ac = some ⟨g, o, none⟩ /\ ∀ (i : Nat) l, [R.c0.told, R.c1.told, R.c2.told][i]? = some l -> ∃ a c, w.cell? ⟨g, o + i, none⟩ = some (.slice a l.length c) /\ ∀ (j : Nat) x, l[j]? = some x -> ∃ b o, a = some ⟨b, o, none⟩ /\ w.cell? ⟨b, o + j, none⟩ = some (.int .i64 x) := by
 obtain ⟨a', c', e, _, hr⟩ := h.co; simp only [aE] at e; obtain ⟨rfl, _, rfl⟩ := e; obtain ⟨g, o, _, ha, _⟩ := hr 0 _ rfl; refine ⟨g, o, ha, fun i l hi => ?_⟩; obtain ⟨b, o', cs, ha', _, _, _, hc, v, rfl, hI⟩ := hr i l hi; rw [ha] at ha'; cases ha'; obtain ⟨a, c, rfl, hat⟩ := hI.inn; have h0 := hc 0 _ rfl; simp only [Nat.mul_one, bC] at h0; exact ⟨a, c, h0, hat⟩
theorem jll {as_ : Option Addr} {cs : Nat} (h : OutM N w R vc vo (.slice as_ 3 cs)) {s : Stt} (hs : R.safe[0]? = some s) {bx : Bx} (hb : s.boxes[0]? = some bx) : ∃ b o b1 o1 c1 a2 c2, as_ = some ⟨b, o, none⟩ /\ w.cell? ⟨b, o, none⟩ = some (.slice (some ⟨b1, o1, none⟩) s.boxes.length c1) /\ w.cell? ⟨b1, o1 + 2, none⟩ = some (.slice a2 bx.mails.length c2) := by
 obtain ⟨a', c', e, _, hr⟩ := h.sf; simp only [aE] at e; obtain ⟨rfl, _, rfl⟩ := e; obtain ⟨b, o, ds, ha, _, _, _, hc, vb, vs, rfl, hB, _⟩ := hr 0 s hs; obtain ⟨a1, c1, rfl, _, hr1⟩ := hB; obtain ⟨b1, o1, es, ha1, _, _, _, hc1, v, rfl, BU⟩ := hr1 0 bx hb; obtain ⟨a2, c2, rfl⟩ := RowM.slice BU; have h0 := hc 0 _ rfl; have h2 := hc1 2 _ rfl; simp only [Nat.zero_mul, bC] at h0 h2; rw [ha1] at h0; exact ⟨b, o, b1, o1, c1, a2, c2, ha, h0, h2⟩
open Go.ChangeShapes Go.WideShapes Go.ChangeAt
open Go.Deep Go.Joins
theorem open_gear {H : Type} {enc : TypeId × Value -> H} {base b0 : Nat} {spare : Nat -> Bool} {held : Bool} {d : DataW H} {p : List MemPlace}
 (hv : Value.okWide Tryz.prog w .any b0 23 v) (h : DataW.Trod enc Tryz.prog w base spare held 23 v d p) :
 ∃ x : Gea, v = .agg #[.int .i64 x.kind, .int .i64 x.conn, .int .i64 x.user, .int .i64 x.a, .int .i64 x.b, .string x.text] /\ geaW x := by
 obtain ⟨cs, rfl, hsz⟩ := okWide_struct Tryz.underlying23 hv; have hC : Tryz.prog.cellsOf 23 = 6 := by kernel_rfl
 have ci : Tryz.prog.cellsOf 3 = 1 := by kernel_rfl
 have cs' : Tryz.prog.cellsOf 9 = 1 := by kernel_rfl
 obtain ⟨fuel, hf⟩ := h; obtain ⟨xs, n, _, _, _, mD, hx⟩ := DataW.trod_struct Tryz.underlying23 hf; obtain ⟨c0, c1, c2, c3, c4, c5, rfl⟩ : ∃ c0 c1 c2 c3 c4 c5, cs = #[c0, c1, c2, c3, c4, c5] := by
  obtain ⟨l⟩ := cs
  match l, (hsz.trans hC) with
  | [c0, c1, c2, c3, c4, c5], _ => exact ⟨c0, c1, c2, c3, c4, c5, rfl⟩
 have CQ : xs.length = 6 := mD; have at' : ∀ i : Nat, i < 6 -> ∃ y, xs[i]? = some y := fun i hi => ⟨_, aw (by omega)⟩
 obtain ⟨y0, g0⟩ := at' 0 (by omega); obtain ⟨y1, g1⟩ := at' 1 (by omega); obtain ⟨y2, g2⟩ := at' 2 (by omega); obtain ⟨y3, g3⟩ := at' 3 (by omega); obtain ⟨y4, g4⟩ := at' 4 (by omega); obtain ⟨y5, g5⟩ := at' 5 (by omega); have h0 := (hx 0 _ rfl).trans g0; have h1 := (hx 1 _ rfl).trans g1; have h2 := (hx 2 _ rfl).trans g2; have h3 := (hx 3 _ rfl).trans g3; have h4 := (hx 4 _ rfl).trans g4; have h5 := (hx 5 _ rfl).trans g5
 simp [ci, cs', Value.cells] at h0 h1 h2 h3 h4 h5
 obtain ⟨s0, q0, _, k0⟩ := DataW.trod_int Tryz.underlying3 h0; obtain ⟨s1, q1, _, k1⟩ := DataW.trod_int Tryz.underlying3 h1; obtain ⟨s2, q2, _, k2⟩ := DataW.trod_int Tryz.underlying3 h2; obtain ⟨s3, q3, _, k3⟩ := DataW.trod_int Tryz.underlying3 h3; obtain ⟨s4, q4, _, k4⟩ := DataW.trod_int Tryz.underlying3 h4; obtain ⟨s5, q5, _, k5⟩ := DataW.trod_string Tryz.underlying9 h5; simp only [List.cons.injEq, and_true] at q0 q1 q2 q3 q4 q5; subst q0; subst q1; subst q2; subst q3; subst q4; subst q5; exact ⟨⟨s0, s1, s2, s3, s4, s5⟩, rfl, k0, k1, k2, k3, k4, k5⟩
end Go.Proofs.YtjdkbdkimbgbfaaGreatDoor
