/-
  One Keep, by a sorter that has done nothing yet: the walks.
-/
import Derived.Test.YtjdkbdkimbgbfaaGreatDoorRQBoxDp10
import Derived.Test.YtjdkbdkimbgbfaaGreatDoorRows
set_option maxHeartbeats 4000000
set_option maxRecDepth 100000
namespace Go.Proofs.YtjdkbdkimbgbfaaGreatDoor
open Go.RowKit Go.Proofs
variable {x : Ent} {ef ek eu f p u z : Int} {Cs : List (List Cmd)} {K : List (List UInt8)} {l : List Ent} {G : List Nat} {d eb eg et t tx : List UInt8} {B H b c i k n : Nat} {Q : Nat -> Prop} {a : Option Addr} {R : Rom} {s s' : Stt} {v vb vs : Value} {W w w' w3 : World}
theorem vi {o : Obj} {x : Obj} (h : w.heap[b]? = some x) : (w.alloc o).heap[b]? = some x := by
 have hb : b < w.heap.size := (aj.1 h).1
 show (w.heap.push o)[b]? = _
 rw [bm hb, <- h, aY hb]
theorem jqD : (Tryz.prog.info? 32).map (fun i => (i.zero, i.size, i.bytes)) = some (some (.agg #[.int .i64 0, .string ByteArray.empty, .int .i64 0, .int .i64 0, .string ByteArray.empty, .string ByteArray.empty]), 6, 72) := by kernel_rfl
def jdc (tx : List UInt8) : List Value := [.int .i64 2, .string (S ibN), .int .i64 0, .int .i64 0, .string ⟨#[]⟩, .string (S tx)]
def SrtV (fl fd tl td tx : List UInt8) (vb ve : Value) : Obj := .cells #[.string (S fl), .string (S fd), .string (S tl), .string (S td), .string (S tx), vb, ve] 258
def SrtK (fl fd tl td tx : List UInt8) (vb : Value) (p H : Nat) (w w' : World) : Prop := ∃ g cap, w'.heap[p]? = some (SrtV fl fd tl td tx vb (.slice (some ⟨g, 0, none⟩) 1 cap)) /\ w'.ownsRow H 32 6 (.slice (some ⟨g, 0, none⟩) 1 cap) 1 (jdc tx) /\ Below p w w'
theorem jlg (w : World) (a b c d e f : Value) (t : TypeId) : ∀ (j : Nat) u, [a, b, c, d, e, f][j]? = some u -> (w.alloc (.cells #[a, b, c, d, e, f] t)).cell? ((⟨w.heap.size, 0, none⟩ : Addr).add j) = some u := by
 intro j u hj; rw [bg]; have := az w (.cells #[a, b, c, d, e, f] t); simp only [World.cell?, this, bc]
 simpa using hj
theorem jqy (p : Nat) (fl fd tl td tx : List UInt8) (vb f : Value) (av : Option Addr) (cv : Nat) (w : World) (hp : w.heap[p]? = some (SrtV fl fd tl td tx vb (.slice av 0 cv))) :
 Calls Tryz.prog 243 #[.pointer (some ⟨p, 0, none⟩), f] w fun e w' => e = .returned (.bool false) /\ Below w.heap.size w w' := by
 have c6 : w.cell? ⟨p, 6, none⟩ = some (.slice av 0 cv) := by simp [World.cell?, hp, SrtV]
 clear hp; go_enter Tryz.func243, Tryz.ntmps243; go_wp2_with fail; refine (joE _ _ _ _).mono ?_; rintro e w2 ⟨rfl, hb⟩; have HB := hid hb; clear hb; go_wp2; go_ret; exact ⟨rfl, HB.out⟩
theorem jpu (p : Nat) (fl fd tl td tx : List UInt8) (vb : Value) (av : Option Addr) (cv : Nat) (w : World) (hO : w.ownsRow w.heap.size 32 6 (.slice av 0 cv) 0 []) (hp : w.heap[p]? = some (SrtV fl fd tl td tx vb (.slice av 0 cv))) :
 Calls Tryz.prog 216 #[.pointer (some ⟨p, 0, none⟩), .string (S ibN), .int .i64 0] w fun e w' => e = .returned (.tuple #[]) /\ SrtK fl fd tl td tx vb p w.heap.size w w' := by
 obtain ⟨i0, hi, hz0, hz1, hz2⟩ := info_parts jqD; have hpl : p < w.heap.size := (aj.1 hp).1; obtain ⟨W1, hW1⟩ : ∃ W1, W1 = w.alloc (.cells #[.string (S ibN)] 9) := ⟨_, rfl⟩; have b9 := hid hW1; have bX := hid (show Below w.heap.size w W1 by rw [hW1]; exact nb0 _ _); have n0 : W1.cell? ⟨w.heap.size, 0, none⟩ = some (.string (S ibN)) := by rw [hW1]; simp
 have HP := hid hp; have HO := hid hO; have yJ : some p ≠ (Value.slice av 0 cv).ownBlock := fun e => by have := (aA hO p e.symm).1; omega
 have wm : ∀ (fn : Fn) (first cap : Array Value) (w : World), (Instr.makeFunc fn first cap).run Tryz.prog w = .ok (.func fn first cap) w := fun _ _ _ _ => rfl
 have HH := hid (fun f => jqy p fl fd tl td tx vb f av cv W1 (jL hp bX.out)); clear hp hW1 hO; go_enter Tryz.func216, Tryz.ntmps216; go_upto_region 1 with fail
 rw [<- b9.out]; go_wp2_with fail; refine (HH.out _).mono ?_; rintro e w2 ⟨rfl, hb2⟩; simp only; have bY := hid (show Below w.heap.size w w2 from bX.out.trans (hb2.mono bX.out.size)); have n2 := ja n0 hb2; have dN := hid (jL HP.out bY.out); have c4 : w2.cell? ⟨p, 4, none⟩ = some (.string (S tx)) := by simp [World.cell?, dN.out, SrtV]
 have c6 : w2.cell? ⟨p, 6, none⟩ = some (.slice av 0 cv) := by simp [World.cell?, dN.out, SrtV]
 have f6 : w2.frozen? ⟨p, 6, none⟩ = false := by simp [World.frozen?, dN.out, SrtV]
 have nG := bY.out.size; have c6a : ∀ x : Obj, (w2.alloc x).cell? ⟨p, 6, none⟩ = some (.slice av 0 cv) := fun x => jl c6 x
 have c4a : ∀ x : Obj, (w2.alloc x).cell? ⟨p, 4, none⟩ = some (.string (S tx)) := fun x => jl c4 x
 have n2a : ∀ x : Obj, (w2.alloc x).cell? ⟨w.heap.size, 0, none⟩ = some (.string (S ibN)) := fun x => jl n2 x
 have oZ := hid (show w2.ownsRow w.heap.size 32 6 (.slice av 0 cv) 0 [] from jf HO.out fun g hg => bY.out.block g (aA HO.out g hg).2); clear hb2; go_wp2
 go_region_law
  (first
    | (refine step_append_lies _ (by rfl) _ _ _ (by rfl) w.heap.size 32 i0 _ 6 72 Tryz.underlying42 hi hz0 hz1 hz2 rfl (by omega) (.slice av 0 cv) 0 [] (by rfl) (by first | exact aO (show World.ownsRow w2.drew _ _ _ _ _ _ from oZ.out) _ | exact (aO oZ.out _).drew)
        ⟨w2.heap.size, 0, none⟩ 1 1 (jdc tx) (by rfl) (by rfl) (by first | exact jlg w2.drew _ _ _ _ _ _ _ | exact jlg w2 _ _ _ _ _ _ _) (by simp [jdc, Value.oneCell']) (by omega) (by unfold maxLen; omega) (by omega) (by simp; omega) _ rfl ?_
       intro gm cap w5 dp hgrow hat fH; have z1 := hgrow.cell (a := ⟨p, 6, none⟩) (jl (w := w2.drew) c6 _) yJ; have cV := hgrow.block p (by simp; omega) yJ; have zf1 : w5.frozen? ⟨p, 6, none⟩ = false := (bq cV).trans ((bq (((ay w2.drew.heap.size w2.drew).alloc (ai _) _).block p (aj.1 dN.out).1)).trans f6); have CV := hid hgrow; have eO := hid dp; have dh := hid (cV.trans (vi dN.out)); have iY := hid (show Below w.heap.size w w5 from (bY.out.drew.alloc bY.out.size _).grown hgrow (by simp; omega) (fun j hj => (aA HO.out j hj).1)); clear dp hgrow cV)
    | fail)
 all_goals
  have AF := hid (show SrtK fl fd tl td tx vb p w.heap.size w (w5.setCell ⟨p, 6, none⟩ (.slice (some ⟨gm, 0, none⟩) (0 + 1) cap)) from
   ⟨gm, cap, aM w5 p 6 _ _ _ dh.out, jf eO.out fun g hg => aC _ _ _ _ (show g ≠ p from by have := (aA eO.out g hg).1; omega), (iY.out.mono (bi hpl)).setCell (ai _) _⟩)
  go_wp2; go_end0; exact ⟨rfl, AF.out⟩
def AllP (w : World) (r : Except Int Stt) (e : Ending) (w' : World) : Prop := Below w.heap.size w w' /\ match r with
 | .error z => e = .returned (.tuple #[.agg #[.slice none 0 0, .slice none 0 0], .int .i64 z])
 | .ok s' => ∃ vb vs vm, e = .returned (.tuple #[.agg #[vb, vs], .int .i64 0]) /\ OwnS w.heap.size w' vb vs vm s'
theorem jhw : ∀ (a b : List Ent) (s : Stt), allM s (a ++ b) = match allM s a with | .error e => .error e | .ok s' => allM s' b := by
 intro a
 induction a with
 | nil => intro b s; rfl
 | cons x a ih =>
   intro b s; simp only [bL, allM]; cases doM s x with
   | error e => rfl
   | ok s' => exact ih b s'
theorem jhx (s : Stt) (x : Ent) : allM s [x] = doM s x := by
 simp only [allM]; cases doM s x <;> rfl
theorem je0 (h : allM s (l.take k) = .ok s') (hx : l[k]? = some x) : allM s (l.take (k + 1)) = doM s' x := by
 have hk : k < l.length := (au.1 hx).1; rw [aU hk, (au.1 hx).2, jhw, h]; exact jhx s' x
theorem jjV (h : allM s (l.take k) = .ok s') (hx : l[k]? = some x) (hd : doM s' x = .error z) : allM s l = .error z := by
 have h1 := je0 h hx; rw [hd] at h1; have h2 := jhw (l.take (k + 1)) (l.drop (k + 1)) s; rw [List.take_append_drop, h1] at h2; exact h2
theorem jmC (h : addM s i f t = .error z) : z ≠ 0 := by
 unfold addM at h; split at h
 . cases h; decide
 . split at h
   . cases h; decide
   . cases h
theorem jki (h : doM s x = .error z) : z ≠ 0 := by
 unfold doM at h
 repeat' (first | (cases h; done) | (cases h; decide) | exact jmC h | split at h)
theorem Sto.base {B B' p : Nat} {w : World} {s : Stt} (h : Sto B' p w s) (hB : B <= B') : Sto B p w s := by
 obtain ⟨vb, vs, vm, h1, h2, h3, h4⟩ := h; exact ⟨vb, vs, vm, h1, h2.base hB, h3, by omega⟩
theorem jo5 (s : Stt) (vb vs : Value) (l : List Ent) (a : Option Addr) (c : Nat) (w : World) (Q : Nat -> Prop) (hS : SttM Q w vb vs s) (hM : May s) (hL : EntsM Q w (.slice a l.length c) l) (hl : l.length <= 10) (hF : ∀ x ∈ l, Formed x)
 (xE : ∀ u, Below w.heap.size w u -> Calls Tryz.prog 64 #[.agg #[vb, vs]] u fun e u' => e = .returned (.int .i64 0) /\ Below u.heap.size u u')
 (xK : ∀ x ∈ l, ∀ u, Calls Tryz.prog 51 #[.agg #[.int .i64 x.kind, .string (S x.box), .int .i64 x.uid, .int .i64 x.flags, .string (S x.goal), .string (S x.text)]] u fun e u' => e = .returned (.int .i64 0) /\ Below u.heap.size u u')
 (xG : ∀ (k : Nat) x sk, l[k]? = some x -> allM s (l.take k) = .ok sk -> ∀ B p u, Sto B p u sk -> May sk -> Calls Tryz.prog 66 #[.pointer (some ⟨p, 0, none⟩), .agg #[.int .i64 x.kind, .string (S x.box), .int .i64 x.uid, .int .i64 x.flags, .string (S x.goal), .string (S x.text)]] u (DoP B p u (doM sk x))) :
 Calls Tryz.prog 44 #[.agg #[vb, vs], .slice a l.length c] w (AllP w (allM s l)) := by
 obtain ⟨ab, cb, rfl⟩ := RowM.slice hS.1; obtain ⟨aq, cq, rfl⟩ := RowM.slice hS.2.1; obtain ⟨r, hr⟩ : ∃ r, r = allM s l := ⟨_, rfl⟩; rw [<- hr]; have xq := hid hr; obtain ⟨W0, hW0⟩ : ∃ W0, W0 = (w.alloc (.cells #[.slice ab s.boxes.length cb, .slice aq s.spool.length cq] 44)).alloc (.cells #[.slice none 0 0, .slice none 0 0] 44) := ⟨_, rfl⟩; have b9 := hid hW0; have dc : Below w.heap.size w W0 := by rw [hW0]; exact (nb0 _ _).alloc (by simp) _
 have cj := hid dc; have mf := hid (show W0.heap.size = w.heap.size + 2 by rw [hW0]; simp); have hR : W0.heap[w.heap.size + 1]? = some (.cells #[.slice none 0 0, .slice none 0 0] 44) := by rw [hW0]; have := az (w.alloc (.cells #[.slice ab s.boxes.length cb, .slice aq s.spool.length cq] 44)) (.cells #[.slice none 0 0, .slice none 0 0] 44); simpa using this
 have HR := hid hR; have x0 : W0.cell? ⟨w.heap.size, 0, none⟩ = some (.slice ab s.boxes.length cb) := by rw [hW0]; exact jl (by simp) _
 have x1 : W0.cell? ⟨w.heap.size, 1, none⟩ = some (.slice aq s.spool.length cq) := by rw [hW0]; exact jl (by simp) _
 have HC := hid (xE W0 dc); have Br := hid (fun u (hu : Below W0.heap.size W0 u) => jjD s _ _ u Q ((hS.next dc).next hu) hM); have HL := hid (hL.next dc); have HF := hid hF; have HM := hid hM; have Ax := hid xG; have AG := hid xK; have n1 : ¬ (10 : Int) < (l.length : Int) := by omega
 clear hS hM hW0 dc hR hL hF hr xG xE xK; go_enter Tryz.func44, Tryz.ntmps44; go_wp2_with fail; rw [<- b9.out]; refine HC.out.mono ?_; rintro e w1 ⟨rfl, hb1⟩; have y0 := ja x0 hb1; have y1 := ja x1 hb1; have bX := hid hb1; have tM := hid (Br.out w1 hb1); clear hb1; go_wp2_with fail; refine tM.out.mono ?_; rintro e w2 ⟨vb, vs, vm, rfl, hO, hb2⟩; obtain ⟨a1, c1, rfl⟩ := jz hO.boxes; obtain ⟨a2, c2, rfl⟩ := jz hO.spool; simp only; obtain ⟨W3, hW3⟩ : ∃ W3, W3 = w2.alloc (.cells #[.slice a1 s.boxes.length c1, .slice a2 s.spool.length c2] 141) := ⟨_, rfl⟩; have cM := hid hW3; have hb3 : Below w2.heap.size w2 W3 := by rw [hW3]; exact nb0 _ _
 have bZ := hid (show Below W0.heap.size W0 W3 from (bX.out.trans (hb2.mono bX.out.size)).trans (hb3.mono (aN bX.out.size hb2.size))); have HST := hid (show Sto W0.heap.size w2.heap.size W3 s from ⟨_, _, vm, by rw [hW3]; exact az w2 _, (hO.base bX.out.size).next hb3, fun h => by have := (hO.lt h).2; omega, aN bX.out.size hb2.size⟩); clear hO hb2 hW3 hb3; go_wp2; rw [<- cM.out]; obtain ⟨p, hp⟩ : ∃ p, p = w2.heap.size := ⟨_, rfl⟩; rw [<- hp] at HST ⊢; clear hp
 go_loopw [26] (fun v wr => ∃ (k : Nat) (sk : Stt), k <= l.length /\ v = .int .i64 k /\ Hid (allM s (l.take k) = .ok sk) /\ Hid (Sto W0.heap.size p wr sk) /\ Hid (Below W0.heap.size W0 wr)) (fun v _ => l.length - (intOf v).toNat)
 case atStart => exact ⟨0, s, aQ _, rfl, rfl, HST, bZ⟩
 case round =>
  obtain ⟨k, sk, hk, rfl, HA, HS, HB⟩ := hrel; have cz := vL HB.out HR.out; have cC := hid cz
  by_cases hlt : k < l.length
  . have k1 : (k : Int) < (l.length : Int) := by omega
    have k0 : (0 : Int) <= (k : Int) := by omega
    obtain ⟨x, hx⟩ : ∃ x, l[k]? = some x := ⟨_, aw hlt⟩; obtain ⟨b, o, rfl, _, e0, e1, e2, e3, e4, e5⟩ := (HL.out.next HB.out).at hx; have pw := HF.out x (aF hx); have xW : May sk := jmE HM.out (fun y hy => HF.out y (List.mem_of_mem_take hy)) HA.out; obtain ⟨W4, dr⟩ : ∃ W4, W4 = wr.alloc (.cells #[.int .i64 x.kind, .string (S x.box), .int .i64 x.uid, .int .i64 x.flags, .string (S x.goal), .string (S x.text)] 32) := ⟨_, rfl⟩; have iZ := hid dr; have hb4 : Below wr.heap.size wr W4 := by rw [dr]; exact nb0 _ _
    have kg : W4.heap[wr.heap.size]? = some (.cells #[.int .i64 x.kind, .string (S x.box), .int .i64 x.uid, .int .i64 x.flags, .string (S x.goal), .string (S x.text)] 32) := by rw [dr]; exact az wr _
    have ft := hid kg; have ch := hid (show Below W0.heap.size W0 W4 from HB.out.trans (hb4.mono HB.out.size)); have rG := hid (AG.out x (aF hx) W4); have oK := hid (fun u (hu : Below W4.heap.size W4 u) => Ax.out k x sk hx HA.out W0.heap.size p u ((HS.out.next hb4).next hu) xW); have nQ := hid (fun s' (h : doM sk x = .ok s') => (je0 HA.out hx).trans h); have tN := hid (fun z (h : doM sk x = .error z) => jjV HA.out hx h); clear hx pw xW dr kg hb4 cz; go_wp2_with fail; rw [<- iZ.out]; refine rG.out.mono ?_; rintro e w5 ⟨rfl, cV⟩; obtain ⟨z0, z1, z2, z3, z4, z5⟩ := jmK (vL cV ft.out); have sW := hid (oK.out w5 cV); have dh := hid (show Below W0.heap.size W0 w5 from ch.out.trans (cV.mono ch.out.size)); clear cV; go_wp2_with fail; refine sW.out.mono ?_; intro e w6 hd; have dX := hid (show Below W0.heap.size W0 w6 from dh.out.trans hd.1); cases nt : doM sk x with
    | ok s' =>
      rw [nt] at hd; obtain ⟨_, rfl, yh⟩ := hd; have kV := hid yh; have wS := hid (nQ.out s' nt); clear nt yh; simp only; go_wp2
      go_roundw
      case rel => first | exact ⟨k + 1, s', by omega, by go_num, wS, kV, dX⟩ | ((repeat apply Exists.intro); exact ⟨⟨k + 1, s', by omega, by go_num, wS, kV, dX⟩, rfl⟩)
      case measure => simp [intOf]; omega
    | error z =>
      rw [nt] at hd; obtain ⟨_, rfl⟩ := hd; have HZ := hid (tN.out z nt); have rC := jki nt; have hz' : ¬ z = 0 := rC; have CS : (z == 0) = false := by simp [rC]
      have uv := vL dX.out HR.out; obtain ⟨u0, u1, h0, h1⟩ := qf uv; obtain ⟨v0, v1, j0, j1⟩ := qf (vz (u0 := .slice none 0 0) (u1 := .slice none 0 0) uv); have HE := hid (show AllP w r (.returned (.tuple #[.agg #[.slice none 0 0, .slice none 0 0], .int .i64 z])) ((w6.setCell ⟨w.heap.size + 1, 0, none⟩ (.slice none 0 0)).setCell ⟨w.heap.size + 1, 1, none⟩ (.slice none 0 0)) by
       rw [xq.out, HZ.out]; exact ⟨((cj.out.trans (dX.out.mono cj.out.size)).setCell (Nat.le_succ _) _).setCell (Nat.le_succ _) _, rfl⟩)
      clear nt uv rC; simp only; go_wp2; refine aD (v := .tuple #[.agg #[.slice none 0 0, .slice none 0 0], .int .i64 z]) (by simp [results, Tryz.results44, go_sem, *]) rfl ?_; exact HE.out
  . have k1 : ¬ (k : Int) < (l.length : Int) := by omega
    obtain ⟨vb', vs', vm', yH, la, sD, BR⟩ := HS.out; obtain ⟨a5, c5, rfl⟩ := jz la.boxes; obtain ⟨a6, c6, rfl⟩ := jz la.spool; obtain ⟨s0, s1, _, _⟩ := qf yH; obtain ⟨u0, u1, h0, h1⟩ := qf cz; obtain ⟨v0, v1, j0, j1⟩ := qf (vz (u0 := .slice a5 sk.boxes.length c5) (u1 := .slice a6 sk.spool.length c6) cz); have HE := hid (show AllP w r (.returned (.tuple #[.agg #[.slice a5 sk.boxes.length c5, .slice a6 sk.spool.length c6], .int .i64 0])) ((wr.setCell ⟨w.heap.size + 1, 0, none⟩ (.slice a5 sk.boxes.length c5)).setCell ⟨w.heap.size + 1, 1, none⟩ (.slice a6 sk.spool.length c6)) by
        have hA := HA.out; rw [aV (by omega)] at hA; rw [xq.out, hA]; refine ⟨((cj.out.trans (HB.out.mono cj.out.size)).setCell (Nat.le_succ _) _).setCell (Nat.le_succ _) _, _, _, vm', rfl, (la.base cj.out.size).keep fun q hq => ?_⟩; have hq' : q ≠ w.heap.size + 1 := by have := (la.lt hq).1; have := mf.out; omega
        exact (jB hq').trans (jB hq'))
    clear yH la sD cz; go_wp2; refine aD (v := .tuple #[.agg #[.slice a5 sk.boxes.length c5, .slice a6 sk.spool.length c6], .int .i64 0]) (by simp [results, Tryz.results44, go_sem, *]) rfl ?_; exact HE.out
theorem BoxsM.take {l : List Bx} (h : BoxsM Q w (.slice a n c) l) (i : Nat) (hi : i <= l.length) : BoxsM Q w (.slice a (l.take i).length c) (l.take i) := by
 obtain ⟨a', c', hv, hm, hr⟩ := h; simp only [aE] at hv; obtain ⟨rfl, _, rfl⟩ := hv; refine ⟨_, _, rfl, by rw [bp]; omega, fun j x hx => ?_⟩; have hj : j < i := by have := (au.1 hx).1; rw [bp] at this; omega
 rw [List.getElem?_take_of_lt hj] at hx; exact hr j x hx
theorem jpW {l : List Bx} {b : Bx} (hn : (l.map Bx.name).Nodup) (hb : l[i]? = some b) : idxZ (isName b.name) (l.take i) = -1 := by
 refine jfl fun (j : Nat) y hj hy => ?_
 have hj' : j < i := by rw [bp] at hj; omega
 rw [List.getElem?_take_of_lt hj'] at hy; unfold isName; rw [decide_eq_false_iff_not]; intro e; have h1 : (l.map Bx.name)[j]? = some b.name := by rw [ba, hy]; simp [e]
 have h2 : (l.map Bx.name)[i]? = some b.name := by rw [ba, hb]; rfl
 have pN : i < (l.map Bx.name).length := (au.1 h2).1; have := (List.getElem?_inj (by omega) hn).1 (h1.trans h2.symm); omega
theorem jnu (s : Stt) (vb vs : Value) (w : World) (Q : Nat -> Prop) (hS : SttM Q w vb vs s) (hM : May s) (hsp : s.spool = []) :
 Calls Tryz.prog 91 #[.agg #[vb, vs]] w fun e w' => e = .returned (.bool true) /\ Below w.heap.size w w' := by
 obtain ⟨ab, cb, rfl⟩ := RowM.slice hS.1; obtain ⟨aq, cs, rfl⟩ := RowM.slice hS.2.1; have gp := hS.2.2 _ _ _ rfl; have rb : s.spool.length = 0 := by rw [hsp]; rfl
 rw [rb]; obtain ⟨W1, hW1⟩ : ∃ W1, W1 = w.alloc (.cells #[.slice ab s.boxes.length cb, .slice aq 0 cs] 44) := ⟨_, rfl⟩; have b9 := hid hW1; have b8 : Below w.heap.size w W1 := by rw [hW1]; exact nb0 _ _
 have bX := hid b8; have hX : W1.heap[w.heap.size]? = some (.cells #[.slice ab s.boxes.length cb, .slice aq 0 cs] 44) := by rw [hW1]; exact az w _
 have x0 : W1.cell? ⟨w.heap.size, 0, none⟩ = some (.slice ab s.boxes.length cb) := by simp [World.cell?, hX]
 have x1 : W1.cell? ⟨w.heap.size, 1, none⟩ = some (.slice aq 0 cs) := by simp [World.cell?, hX]
 have HS := hid (hS.next b8); have HM := hid hM; have n1 : ¬ (5 : Int) < (s.boxes.length : Int) := by have := hM.boxes; omega
 have nz : (j4 s.boxes : Int) <= 6000 := by have := hM.size; omega
 clear hS hM hW1 hX b8 hsp rb; go_enter Tryz.func91, Tryz.ntmps91; go_wp2; rw [<- b9.out]
 go_loopw [18] (fun v wr => ∃ i : Nat, i <= s.boxes.length /\ v = .int .i64 i /\ Hid (Below W1.heap.size W1 wr)) (fun v _ => s.boxes.length - (intOf v).toNat)
 case atStart => exact ⟨0, aQ _, rfl, ay _ _⟩
 case round =>
  obtain ⟨i, hi, rfl, HB⟩ := hrel; have y0 := ja x0 HB.out; have y1 := ja x1 HB.out
  by_cases hlt : i < s.boxes.length
  . have i1 : (i : Int) < (s.boxes.length : Int) := by omega
    have i0 : (0 : Int) <= (i : Int) := by omega
    have i2 : (i : Int) <= (cb : Int) := by omega
    obtain ⟨b, hb⟩ : ∃ b, s.boxes[i]? = some b := ⟨_, aw hlt⟩; have uj := HS.out.1.next HB.out; obtain ⟨p, o, v, rfl, _, e0, e1, e2, hm⟩ := uj.at hb; obtain ⟨am, cm, rfl⟩ := RowM.slice hm; obtain ⟨W2, hW2⟩ : ∃ W2, W2 = wr.alloc (.cells #[.string (S b.name), .int .i64 b.next, .slice am b.mails.length cm] 40) := ⟨_, rfl⟩; have eB := hid hW2; have b7 : Below wr.heap.size wr W2 := by rw [hW2]; exact nb0 _ _
    have eA : W2.heap[wr.heap.size]? = some (.cells #[.string (S b.name), .int .i64 b.next, .slice am b.mails.length cm] 40) := by rw [hW2]; exact az wr _
    obtain ⟨m0, m1, m2⟩ := jo7 eA; have z0 := ja y0 b7; have Am := hid (fun u (hu : Below W2.heap.size W2 u) => jgk b (.slice am b.mails.length cm) u Q ((hm.next b7).next hu) (HM.out.each b (aF hb))); have oW := hid (jpW HM.out.names hb); have hlen : (s.boxes.take i).length = i := by rw [bp]; omega
    have mO := hid (fun u (hu : Below W2.heap.size W2 u) => by
        have := jaZ (s.boxes.take i) b.name (some ⟨p, o, none⟩) cb u Q (((uj.next b7).next hu).take i (by omega)); rw [hlen, oW.out] at this; exact this)
    have bZ := hid (show Below W1.heap.size W1 W2 from HB.out.trans (b7.mono HB.out.size)); clear hb hW2 eA b7 hm uj hlen; go_wp2; rw [<- eB.out]
    go_cut [35] (fun c wx => c = .bool false /\ Below W2.heap.size W2 wx)
    case first =>
        go_region_held3 (fun w' => w'.cell? ⟨wr.heap.size, 0, none⟩ = some (.string (S b.name)) /\ w'.cell? ⟨wr.heap.size, 1, none⟩ = some (.int .i64 b.next) /\ w'.cell? ⟨wr.heap.size, 2, none⟩ = some (.slice am b.mails.length cm) /\ w'.cell? ⟨w.heap.size, 0, none⟩ = some (.slice (some ⟨p, o, none⟩) s.boxes.length cb)) (go_keep)
         (first
            | (go_at_call 97
               with_reducible refine (mO.out _ ch.out).mono ?_
               rintro e w4 ⟨rfl, hb⟩; have dh := hid (ch.out.trans (hb.mono ch.out.size)); have q0 := ja k0 hb; have q1 := ja k1 hb; have q2 := ja k2 hb; have q3 := ja k3 hb; clear hb)
            | (go_at_call 141
               with_reducible refine (Am.out W2.drew ((ay _ _).drew)).mono ?_
               rintro e w3 ⟨rfl, hb⟩; have hb2 : Below W2.heap.size W2 w3 := (ay _ _).drew.trans hb; have ch := hid hb2; have k0 := ja m0 hb2; have k1 := ja m1 hb2; have k2 := ja m2 hb2; have k3 := ja z0 hb2; clear hb hb2))
        all_goals
         go_wp2_with fail
         go_meet
         exact ⟨by first | rfl | simp, dh.out⟩
    case rest =>
        obtain ⟨rfl, hb⟩ := hcut; have dX := hid (show Below W1.heap.size W1 wc from bZ.out.trans (hb.mono bZ.out.size)); clear hb; go_wp2
        go_roundw
        case rel => first | exact ⟨i + 1, by omega, by go_num, dX⟩ | ((repeat apply Exists.intro); exact ⟨⟨i + 1, by omega, by go_num, dX⟩, rfl⟩)
        case measure => simp [intOf]; omega
  . have i1 : ¬ (i : Int) < (s.boxes.length : Int) := by omega
    have ep := hid (jdM s.boxes ab cb wr Q (HS.out.1.next HB.out) HM.out.size); go_wp2_with fail; refine ep.out.mono ?_; rintro e w2 ⟨rfl, hb⟩; have bY := hid (show Below w.heap.size w w2 from (bX.out.trans (HB.out.mono bX.out.size)).trans (hb.mono (aN bX.out.size HB.out.size))); have q1 := ja y1 hb; clear hb; go_wp2_with fail; refine (joE _ _ _ w2).mono ?_; rintro e w3 ⟨rfl, hb⟩; have bZ := hid (bY.out.trans (hb.mono bY.out.size)); clear hb; go_wp2; go_ret; exact ⟨by first | rfl | simp, bZ.out⟩
theorem jhB (s : Stt) (vb vs : Value) (w : World) (Q : Nat -> Prop) (hS : SttM Q w vb vs s) (hM : May s) (hsp : s.spool = []) :
 Calls Tryz.prog 64 #[.agg #[vb, vs]] w fun e w' => e = .returned (.int .i64 0) /\ Below w.heap.size w w' := by
 obtain ⟨W1, hW1⟩ : ∃ W1, W1 = w.alloc (.cells #[vb, vs] 44) := ⟨_, rfl⟩; have b9 := hid hW1; have b8 : Below w.heap.size w W1 := by rw [hW1]; exact nb0 _ _
 have bX := hid b8; have HC := hid (jnu s vb vs W1 Q (hS.next b8) hM hsp); clear hS hM hW1 b8 hsp; go_enter Tryz.func64, Tryz.ntmps64; go_wp2_with fail; rw [<- b9.out]; refine HC.out.mono ?_; rintro e w2 ⟨rfl, hb⟩; have bY := hid (bX.out.trans (hb.mono bX.out.size)); clear hb; go_wp2; go_ret; exact ⟨rfl, bY.out⟩
theorem jro (p : Nat) (fl fd tl td tx : List UInt8) (vb : Value) (av : Option Addr) (cv : Nat) (w : World) (hN : av = none /\ cv = 0) (hp : w.heap[p]? = some (SrtV fl fd tl td tx vb (.slice av 0 cv))) :
 Calls Tryz.prog 183 #[.pointer (some ⟨p, 0, none⟩), .agg #[.int .i64 3, .string ⟨#[]⟩, .int .i64 0]] w fun e w' => e = .returned (.tuple #[]) /\ SrtK fl fd tl td tx vb p w.heap.size w w' := by
 have hpl : p < w.heap.size := (aj.1 hp).1; obtain ⟨W1, hW1⟩ : ∃ W1, W1 = w.alloc (.cells #[.int .i64 3, .string ⟨#[]⟩, .int .i64 0] 260) := ⟨_, rfl⟩; have b9 := hid hW1; have b8 : Below w.heap.size w W1 := by rw [hW1]; exact nb0 _ _
 have bX := hid b8; have cI : W1.heap[w.heap.size]? = some (.cells #[.int .i64 3, .string ⟨#[]⟩, .int .i64 0] 260) := by rw [hW1]; exact az w _
 have x0 : W1.cell? ⟨w.heap.size, 0, none⟩ = some (.int .i64 3) := by simp [World.cell?, cI]
 have x2 : W1.cell? ⟨w.heap.size, 2, none⟩ = some (.int .i64 0) := by simp [World.cell?, cI]
 have HF := hid (jpu p fl fd tl td tx vb av cv W1 (by obtain ⟨rfl, rfl⟩ := hN; exact aR _ _ _ _) (jL hp b8)); clear hp hW1 b8 cI hN; go_enter Tryz.func183, Tryz.ntmps183; go_upto_region 1 with fail
 rw [<- b9.out]; go_wp2_with fail; refine HF.out.mono ?_; rintro e w2 ⟨rfl, g, cap, hk, ho, hb⟩; have HE := hid (show SrtK fl fd tl td tx vb p w.heap.size w w2 from ⟨g, cap, hk, zL ho bX.out.size, (bX.out.mono (bi hpl)).trans hb⟩); clear hk ho hb; go_wp2; go_end0; exact ⟨rfl, HE.out⟩
def DnP (w : World) (tx : List UInt8) (r : Except Int Stt) (e : Ending) (w' : World) : Prop := Below w.heap.size w w' /\ match r with
 | .error z => e = .returned (.tuple #[.slice none 0 0, .agg #[.slice none 0 0, .slice none 0 0], .int .i64 z])
 | .ok s' => ∃ g cap vb vs vm, e = .returned (.tuple #[.slice (some ⟨g, 0, none⟩) 1 cap, .agg #[vb, vs], .int .i64 0]) /\ OwnS w.heap.size w' vb vs vm s' /\ w'.ownsRow w.heap.size 32 6 (.slice (some ⟨g, 0, none⟩) 1 cap) 1 (jdc tx)
theorem DnP.drew {w w' : World} {tx : List UInt8} {r : Except Int Stt} {e : Ending} (h : DnP w tx r e w') : DnP w tx r e w'.drew := by
 obtain ⟨hb, h⟩ := h; refine ⟨hb.drew, ?_⟩; cases r with
 | error z => exact h
 | ok s' =>
   obtain ⟨g, cap, vb, vs, vm, e, h1, h2⟩ := h; exact ⟨g, cap, vb, vs, vm, e, h1.next (ay _ _).drew, jX h2 (ay _ _).drew⟩
theorem jfp {g cap : Nat} (h : w.ownsRow B 32 6 (.slice (some ⟨g, 0, none⟩) 1 cap) 1 (jdc tx)) : EntsM (fun _ => True) w (.slice (some ⟨g, 0, none⟩) [(⟨2, ibN, 0, 0, [], tx⟩ : Ent)].length cap) [⟨2, ibN, 0, 0, [], tx⟩] :=
 jao (css := [jdc tx]) (by simpa using h) rfl (show 1 <= _ by unfold maxLen; decide) rfl (fun cs h => by simp at h; subst h; rfl) (fun i x cs h1 h2 => by
  match i, h1, h2 with
  | 0, h1, h2 => cases h1; cases h2; rfl) fun _ _ => trivial
theorem jgF (ht : t.length <= 2000) : Formed ⟨2, ibN, 0, 0, [], t⟩ :=
 ⟨⟨by show (1 : Int) <= 2; decide, by show (2 : Int) <= 6; decide⟩, ⟨(fun h => by rcases h with h | h <;> cases h), fun _ => ⟨rfl, rfl⟩, (fun h => by cases h), (fun h => by cases h), fun h => by cases h⟩,
   ⟨by show (0 : Int) <= 0; decide, by show (0 : Int) <= 31; decide⟩, ⟨by show (0 : Int) <= 0; decide, by show (0 : Int) <= 1048576; decide⟩, ht, (fun h => by cases h), (fun _ => by show vu ibN = 0; decide), (fun h => by cases h), rfl⟩
theorem jif (fl fd tl td tx : List UInt8) (fs : List F) (body : List UInt8) (s : Stt) (vb vs : Value) (w : World) (hw : Tabs w) (hm : maxLenCell w) (h : FitL fl fd tl td tx fs body) (Q : Nat -> Prop) (hS : SttM Q w vb vs s) (hM : May s) (hsp : s.spool = []) (i : Nat) (hf : s.boxes.findIdx? (isName ibN) = some i) :
 Calls Tryz.prog 137 #[.agg #[vb, vs], .agg #[.string (S fl), .string (S fd), .string (S tl), .string (S td), .string (S tx)], .slice none 0 0] w (DnP w tx (doM s ⟨2, ibN, 0, 0, [], tx⟩)) := by
 obtain ⟨ab, cb, rfl⟩ := RowM.slice hS.1; obtain ⟨aq, cq, rfl⟩ := RowM.slice hS.2.1; obtain ⟨r, hr⟩ : ∃ r, r = doM s ⟨2, ibN, 0, 0, [], tx⟩ := ⟨_, rfl⟩; rw [<- hr]; have fL := hr; rw [<- jhx] at fL; have rG := hid (jgF h.sz.2.2.2.2); have mG := hid (fun (u : World) (hu : Below w.heap.size w u) (g cap B : Nat) (ho : u.ownsRow B 32 6 (.slice (some ⟨g, 0, none⟩) 1 cap) 1 (jdc tx)) =>
  jo5 s _ _ [⟨2, ibN, 0, 0, [], tx⟩] (some ⟨g, 0, none⟩) cap u (fun _ => True) ((hS.next hu).imp (fun _ _ => trivial) (Keeps.refl _ _)) hM (jfp ho) (by simp) (fun x hx => by simp at hx; subst hx; exact rG.out) (fun v hv => jhB s _ _ v Q (hS.next (hu.trans (hv.mono hu.size))) hM hsp) (fun x hx v => by simp at hx; subst hx; exact jhI tx v h.sz.2.2.2.2) fun k x sk hx ha B p v hs lK => by
   match k, hx with
   | 0, hx =>
     cases hx; have e : sk = s := by simpa [allM] using ha.symm
     subst e; exact jrn B p sk _ v hs lK rG.out rfl i hf)
 rw [<- fL] at mG; obtain ⟨W1, hW1⟩ : ∃ W1, W1 = ((w.alloc (.cells #[.slice ab s.boxes.length cb, .slice aq s.spool.length cq] 44)).alloc (.cells #[.string (S fl), .string (S fd), .string (S tl), .string (S td), .string (S tx)] 167)).alloc (.cells #[.slice none 0 0, .slice none 0 0] 44) := ⟨_, rfl⟩; have b9 := hid hW1; have b8 : Below w.heap.size w W1 := by rw [hW1]; exact ((nb0 _ _).alloc (by simp) _).alloc (by simp; omega) _
 have bX := hid b8; have dB := hid (show W1.heap[w.heap.size]? = some (.cells #[.slice ab s.boxes.length cb, .slice aq s.spool.length cq] 44) by rw [hW1]; exact vi (vi (az w _))); have di := hid (show W1.heap[w.heap.size + 1]? = some (.cells #[.string (S fl), .string (S fd), .string (S tl), .string (S td), .string (S tx)] 167) by rw [hW1]; refine vi ?_; have := az (w.alloc (.cells #[.slice ab s.boxes.length cb, .slice aq s.spool.length cq] 44)) (.cells #[.string (S fl), .string (S fd), .string (S tl), .string (S td), .string (S tx)] 167); simpa using this); have iD := hid (show W1.heap[w.heap.size + 2]? = some (.cells #[.slice none 0 0, .slice none 0 0] 44) by rw [hW1]; have := az ((w.alloc (.cells #[.slice ab s.boxes.length cb, .slice aq s.spool.length cq] 44)).alloc (.cells #[.string (S fl), .string (S fd), .string (S tl), .string (S td), .string (S tx)] 167)) (.cells #[.slice none 0 0, .slice none 0 0] 44); simpa using this); have C1 := hid (show W1.heap.size = w.heap.size + 3 by rw [hW1]; simp); obtain ⟨x0, x1, _, _⟩ := qf dB.out; have gU : Hid (Calls Tryz.prog 64 #[.agg #[.slice ab s.boxes.length cb, .slice aq s.spool.length cq]] W1 fun e w' => e = .returned (.int .i64 0) /\ Below W1.heap.size W1 w') := jhB s _ _ W1 Q (hS.next b8) hM hsp; have wT := hid (fun u (hu : Below w.heap.size w u) => jeX fl fd tl td tx fs body u (hw.next hu) (maxLenCell_below hm hu) h); have sY := hid (show ∀ z, r = .error z -> z ≠ 0 from fun z e => jki (hr.symm.trans e)); clear hw hm hM hW1 b8 hS h hr fL hf hsp; go_enter Tryz.func137, Tryz.ntmps137; go_upto_region 1 with fail
 rw [<- b9.out]; go_wp2_with fail; refine gU.out.mono ?_; rintro e w2 ⟨rfl, hb2⟩; simp only; have bY := hid (show Below w.heap.size w w2 from bX.out.trans (hb2.mono bX.out.size)); have ec := hid (jL dB.out hb2); have dl := hid (jL di.out hb2); have eI := hid (jL iD.out hb2); have l0 := jA (i := 0) dl.out rfl; have l1 := jA (i := 1) dl.out rfl; have l2 := jA (i := 2) dl.out rfl; have l3 := jA (i := 3) dl.out rfl; have l4 := jA (i := 4) dl.out rfl; have lZ := hid (wT.out w2 bY.out); clear hb2 gU wT b9 x0 x1 di iD dB; go_wp2_with fail; refine lZ.out.mono ?_; rintro e w7 ⟨ga, rfl, uU, ip, ol⟩; simp only; have nJ := hid (show Below w.heap.size w w7 from bY.out.trans (ol.mono bY.out.size)); have uH := jL ec.out ol; have oc := jL dl.out ol; have uJ := jL eI.out ol; clear l0 l1 l2 l3 l4; have l0 := jA (i := 0) oc rfl; have l1 := jA (i := 1) oc rfl; have l2 := jA (i := 2) oc rfl; have l3 := jA (i := 3) oc rfl; have l4 := jA (i := 4) oc rfl; obtain ⟨x0, x1, _, _⟩ := qf uH; obtain ⟨V, hV⟩ : ∃ V, V = w7.alloc (SrtV fl fd tl td tx (.slice ab s.boxes.length cb) (.slice none 0 0)) := ⟨_, rfl⟩; have dT := hid (show V = w7.alloc (.cells #[.string (S fl), .string (S fd), .string (S tl), .string (S td), .string (S tx), .slice ab s.boxes.length cb, .slice none 0 0] 258) from hV); have pG : Below w7.heap.size w7 V := by rw [hV]; exact nb0 _ _
 obtain ⟨P, hP⟩ : ∃ P, P = w7.heap.size := ⟨_, rfl⟩; have HS := hid (show V.heap[P]? = some (SrtV fl fd tl td tx (.slice ab s.boxes.length cb) (.slice none 0 0)) by rw [hV, hP]; exact az _ _); have cU := hid (show Below w.heap.size w V from nJ.out.trans (pG.mono nJ.out.size)); have BF := hid (jL uH pG); have BL := hid (jL uJ pG); have s8 := hid (jL uU pG); have nV := hid (show w.heap.size + 3 <= P /\ ga < P by have h1 := ol.size; have h2 := bY.out.size; have h3 := (aj.1 uU).1; have h4 := bY.out; have h5 := (aj.1 uJ).1; omega); clear ol lZ uH oc uJ uU ip hV pG ec dl eI; go_wp2; rw [<- dT.out, <- hP]; clear hP l0 l1 l2 l3 l4 x0 x1 dT
 go_loopw [38] (fun v wr => (v = .int .i64 0 /\ wr = V) ∨ (v = .int .i64 1 /\ Hid (∃ g cap, wr.heap[P]? = some (SrtV fl fd tl td tx (.slice ab s.boxes.length cb) (.slice (some ⟨g, 0, none⟩) 1 cap)) /\ wr.ownsRow V.heap.size 32 6 (.slice (some ⟨g, 0, none⟩) 1 cap) 1 (jdc tx)) /\ Hid (Below P V wr))) (fun v _ => 1 - (intOf v).toNat)
 case atStart => exact .inl ⟨rfl, rfl⟩
 case round =>
  rcases hrel with ⟨rfl, rfl⟩ | ⟨rfl, hk, cX⟩
  . have g0 := jA (i := 0) s8.out rfl; have g1 := jA (i := 1) s8.out rfl; have g2 := jA (i := 2) s8.out rfl; obtain ⟨W3, hW3⟩ : ∃ W3, W3 = wr.alloc (.cells #[.int .i64 3, .string ⟨#[]⟩, .int .i64 0] 260) := ⟨_, rfl⟩; have cM := hid hW3; have hb3 : Below wr.heap.size wr W3 := by rw [hW3]; exact nb0 _ _
    have oK := hid (jro P fl fd tl td tx (.slice ab s.boxes.length cb) none 0 W3 ⟨rfl, rfl⟩ (jL HS.out hb3)); have Ba := hid (aj.1 HS.out).1; have bZ := hid hb3; have df : W3.heap[wr.heap.size]? = some (.cells #[.int .i64 3, .string ⟨#[]⟩, .int .i64 0] 260) := by rw [hW3]; exact az wr _
    have q0 := jA (i := 0) df rfl; have q1 := jA (i := 1) df rfl; have q2 := jA (i := 2) df rfl; clear hb3 hW3 df; go_upto_region 11 with fail
    rw [<- cM.out]; go_wp2_with fail; refine oK.out.mono ?_; rintro e w4 ⟨rfl, g, cap, hk, ho, hb⟩; have HK := hid (show ∃ g cap, w4.heap[P]? = some (SrtV fl fd tl td tx (.slice ab s.boxes.length cb) (.slice (some ⟨g, 0, none⟩) 1 cap)) /\ w4.ownsRow wr.heap.size 32 6 (.slice (some ⟨g, 0, none⟩) 1 cap) 1 (jdc tx) from
        ⟨g, cap, hk, zL ho bZ.out.size⟩)
    have ch := hid (show Below P wr w4 from (bZ.out.mono (bi Ba.out)).trans hb); clear hk ho hb; go_wp2
    go_roundw
    case rel => first | exact .inr ⟨by go_num, HK, ch⟩ | ((repeat apply Exists.intro); exact ⟨.inr ⟨by go_num, HK, ch⟩, rfl⟩)
    case measure => simp [intOf]
  . obtain ⟨g, cap, hk, ho⟩ := hk.out; obtain ⟨V2, hV2⟩ : ∃ V2, V2 = wr := ⟨_, rfl⟩; rw [<- hV2] at cX hk ho ⊢; clear hV2; have C0 := nV.out; have uI := (cX.out.block w.heap.size (by omega)).trans BF.out; have yl := (cX.out.block (w.heap.size + 2) (by omega)).trans BL.out; obtain ⟨x0, x1, _, _⟩ := qf uI; have p6 : V2.cell? ⟨P, 6, none⟩ = some (.slice (some ⟨g, 0, none⟩) 1 cap) := by simp [World.cell?, hk, SrtV]
    have rE := hid (show Below w.heap.size w V2 from cU.out.trans (cX.out.mono (by omega))); have HO := hid ho; have HK := hid hk; have CY := hid uI; have BJ := hid yl; have cu := hid (mG.out V2 rE.out g cap _ ho); clear hk ho uI yl mG; go_wp2_with fail; refine cu.out.mono ?_; intro e w10 hA; have gk := hA.1; have lp := hid (show Below w.heap.size w w10 from rE.out.trans (gk.mono rE.out.size)); have po := hid (jL BJ.out gk); have AQ := hid (jL HK.out gk); have xl := hid (jX HO.out gk); have ep := hid (show V2.heap.size <= w10.heap.size from gk.size); cases r with
    | error z =>
      obtain ⟨_, rfl⟩ := hA; have rC : ¬ z = 0 := sY.out z rfl; have hzb : (z == 0) = false := by simp [rC]
      obtain ⟨z0, z1, y0, y1⟩ := qf po.out; have z0a : ∀ x : Obj, (w10.alloc x).cell? ⟨w.heap.size + 2, 0, none⟩ = some (.slice none 0 0) := fun x => jl z0 x
      have z1a : ∀ x : Obj, (w10.alloc x).cell? ⟨w.heap.size + 2, 1, none⟩ = some (.slice none 0 0) := fun x => jl z1 x
      have y0a : ∀ x : Obj, (w10.alloc x).frozen? ⟨w.heap.size + 2, 0, none⟩ = false := fun x => jgS (vi po.out) 0
      have y1a : ∀ x : Obj, (w10.alloc x).frozen? ⟨w.heap.size + 2, 1, none⟩ = false := fun x => jgS (vi po.out) 1
      have HE := hid (show DnP w tx (.error z) (.returned (.tuple #[.slice none 0 0, .agg #[.slice none 0 0, .slice none 0 0], .int .i64 z])) (((w10.alloc (.cells #[.slice none 0 0, .slice none 0 0] 44)).setCell ⟨w.heap.size + 2, 0, none⟩ (.slice none 0 0)).setCell ⟨w.heap.size + 2, 1, none⟩ (.slice none 0 0)) from ⟨((lp.out.alloc lp.out.size _).setCell (by simp) _).setCell (by simp) _, rfl⟩); clear gk cu; simp only; go_wp2; refine aD (v := .tuple #[.slice none 0 0, .agg #[.slice none 0 0, .slice none 0 0], .int .i64 z]) (by simp [results, Tryz.results137, go_sem, *]) rfl ?_; exact HE.out
    | ok s' =>
      obtain ⟨_, vb1, vs1, vm1, rfl, gG⟩ := hA; obtain ⟨a5, c5, rfl⟩ := jz gG.boxes; obtain ⟨a6, c6, rfl⟩ := jz gG.spool; obtain ⟨W11, lE⟩ : ∃ W11, W11 = w10.alloc (.cells #[.slice a5 s'.boxes.length c5, .slice a6 s'.spool.length c6] 44) := ⟨_, rfl⟩; have tV := hid lE; have ig : Below w10.heap.size w10 W11 := by rw [lE]; exact nb0 _ _
      have pS : W11.heap[w10.heap.size]? = some (.cells #[.slice a5 s'.boxes.length c5, .slice a6 s'.spool.length c6] 44) := by rw [lE]; exact az w10 _
      obtain ⟨n0, n1, _, _⟩ := qf pS; have ub := hid (jL po.out ig); obtain ⟨z0, z1, y0, y1⟩ := qf ub.out; have lI := jL AQ.out ig; have p6 : W11.cell? ⟨P, 6, none⟩ = some (.slice (some ⟨g, 0, none⟩) 1 cap) := by simp [World.cell?, lI, SrtV]
      have nP : P ≠ w.heap.size + 2 := by have := nV.out; omega
      have nN : w10.heap.size ≠ w.heap.size + 2 := by have := (aj.1 po.out).1; omega
      have HE := hid (show DnP w tx (.ok s') (.returned (.tuple #[.slice (some ⟨g, 0, none⟩) 1 cap, .agg #[.slice a5 s'.boxes.length c5, .slice a6 s'.spool.length c6], .int .i64 0])) ((W11.setCell ⟨w.heap.size + 2, 0, none⟩ (.slice a5 s'.boxes.length c5)).setCell ⟨w.heap.size + 2, 1, none⟩ (.slice a6 s'.spool.length c6)) by
       refine ⟨((lp.out.trans (ig.mono lp.out.size)).setCell (by simp) _).setCell (by simp) _, g, cap, _, _, vm1, rfl, ((gG.base rE.out.size).next ig).keep fun q hq => ?_, zL (jf (jX xl.out ig) fun q hq => ?_) cU.out.size⟩
       . have hq' : q ≠ w.heap.size + 2 := by
            have h1 := (gG.lt hq).1; have h2 := nV.out; have h3 := (aj.1 HK.out).1; omega
         exact (jB hq').trans (jB hq')
       . have hq' : q ≠ w.heap.size + 2 := by
            have h1 := (aA xl.out q hq).1; have h2 := nV.out; have h3 := (aj.1 HS.out).1; omega
         exact (jB hq').trans (jB hq'))
      clear gk ig gG pS lI lE cu x0 x1; simp only; go_upto_region 16 with fail
      rw [<- tV.out]
      go_region_law (fail)
      all_goals
       go_wp2; refine aD (v := .tuple #[.slice (some ⟨g, 0, none⟩) 1 cap, .agg #[.slice a5 s'.boxes.length c5, .slice a6 s'.spool.length c6], .int .i64 0]) (by simp [results, Tryz.results137, go_sem, *]) rfl ?_
       first | exact HE.out.drew | exact HE.out
theorem jj4 {j : Nat} {u : Value} (h : w.cell? ⟨c, i, none⟩ = some u) (hne : c ≠ b) : (w.setCell ⟨b, j, none⟩ v).cell? ⟨c, i, none⟩ = some u :=
 (aL w _ _ _ (fun e => hne (by cases e; rfl))).trans h
theorem jnj (Q : Nat -> Prop) (l : List (List UInt8)) (x : List UInt8) (u : Nat) (a : Option Addr) (c : Nat) (w : World) (h : TxtsM Q w (.slice a l.length c) l) (hu : l[u]? = some x) (hno : ∀ j y, j < u -> l[j]? = some y -> x ≠ y) :
 Calls Tryz.prog 47 #[.slice a l.length c, .string (S x)] w fun e w' => e = .returned (.int .i64 u) /\ Below w.heap.size w w' := by
 have hm : l.length <= maxLen := by obtain ⟨_, _, _, hm, _⟩ := h; exact hm
 unfold maxLen at hm; have wH : u < l.length := (au.1 hu).1; have HL := hid h; have HU := hid hu; have oX := hid hno; clear h hu hno; go_enter Tryz.func47, Tryz.ntmps47; go_wp2
 go_loopw [8] (fun v wr => ∃ i : Nat, i <= u /\ v = .int .i64 i /\ wr = w) (fun v _ => l.length - (intOf v).toNat)
 case atStart => exact ⟨0, aQ _, rfl, rfl⟩
 case round =>
  obtain ⟨i, hi, rfl, rfl⟩ := hrel; have i1 : (i : Int) < (l.length : Int) := by omega
  have i0 : (0 : Int) <= (i : Int) := by omega
  obtain ⟨y, hy⟩ : ∃ y, l[i]? = some y := ⟨_, aw (by omega)⟩; obtain ⟨b, o, rfl, _, _, e0⟩ := jml HL.out hy; have eq1 := joJ x y
  by_cases hp : i = u
  . subst hp; have ed : decide (x = y) = true := by rw [HU.out] at hy; cases hy; simp
    rw [ed] at eq1; clear hy ed; go_wp2; go_ret; exact ⟨rfl, ay _ _⟩
  . have ed : decide (x = y) = false := by simpa using oX.out i y (by omega) hy
    rw [ed] at eq1; clear hy ed; go_wp2
    go_roundw
    case rel => first | exact ⟨i + 1, by omega, by go_num, by first | rfl | trivial⟩ | ((repeat apply Exists.intro); exact ⟨⟨i + 1, by omega, by go_num, by first | rfl | trivial⟩, rfl⟩) | (refine ⟨trivial, ?_⟩; (repeat apply Exists.intro); exact ⟨⟨i + 1, by omega, by go_num, by first | rfl | trivial⟩, rfl⟩)
    case measure => simp [intOf]; omega
theorem RoomM.look (h : RoomM K Cs B b G R w) (h3 : R.states.length = 3) (hc : Cs.length = 3) {u : Nat} (hu : u < 3) (hs : R.states[u]? = some s) {C : List Cmd} (hC : Cs[u]? = some C) :
 ∃ (al : Option Addr) (cl g c : Nat) (vb vs : Value) (sg so sc : Nat) (a : Option Addr) (k : Nat), w.cell? ⟨b, 34, none⟩ = some (.slice al K.length cl) /\ TxtsM anyB w (.slice al K.length cl) K /\
   w.cell? ⟨b, 6, none⟩ = some (.slice (some ⟨g, 0, none⟩) 3 c) /\ w.cell? ⟨g, u * 2, none⟩ = some vb /\ w.cell? ⟨g, u * 2 + 1, none⟩ = some vs /\ SttM anyB w vb vs s /\
   w.cell? ⟨b, 35, none⟩ = some (.slice (some ⟨sg, so, none⟩) 3 sc) /\ w.cell? ⟨sg, so + u, none⟩ = some (.slice a C.length k) /\ jcc a C.length k /\ CmdsM anyB 5 w (.slice a C.length k) C := by
 obtain ⟨X, hG, hB, hX, hM, hQ⟩ := h; have hl := hQ.sv.1; rw [h3] at hl; have ho : w.ownsRow B 44 2 X.st X.sv.length ((X.sv.map fun x => [x.1, x.2]).flatten) := hM.own (sttR X.st X.sv) (by simp [j2]); obtain ⟨g, c, cur, hv, hg, km⟩ := joN ho (by rw [hl]; decide); obtain ⟨x, hx⟩ : ∃ x, X.sv[u]? = some x := ⟨_, aw (by omega)⟩; have ff : ((X.sv.map fun x => [x.1, x.2]).flatten)[u * 2]? = some x.1 /\ ((X.sv.map fun x => [x.1, x.2]).flatten)[u * 2 + 1]? = some x.2 := by
  have eN := hx; generalize X.sv = l at hl eN
  match l, hl with
  | [x0, x1, x2], _ =>
    match u, hu with
    | 0, _ | 1, _ | 2, _ => simp at eN; subst eN; exact ⟨rfl, rfl⟩
 obtain ⟨al, cl, e⟩ := RowM.slice hQ.lo; obtain ⟨sa, sc, es⟩ := RowM.slice hQ.sc; obtain ⟨_, _, es', _, hr⟩ := hQ.sc; obtain ⟨sg, so, cs, ha, _, _, _, hcc, a, k, rfl, hy, hcm⟩ := hr u C hC; rw [es] at es'; simp only [aE, true_and] at es'; obtain ⟨rfl, rfl⟩ := es'; subst ha; rw [hc] at es; exact ⟨al, cl, g, c, x.1, x.2, sg, so, sc, a, k, hX.cell (by rw [<- e]; rfl), RowM.imp (by rw [<- e]; exact hQ.lo) (fun _ _ => trivial) (Keeps.refl _ _) fun _ _ h => h, hX.cell (by rw [<- hl, <- hv]; rfl), km _ _ ff.1, km _ _ ff.2, SttM.imp (hQ.sv.2 u s x hs hx) (fun _ _ => trivial) (Keeps.refl _ _), hX.cell (by rw [<- es]; rfl), by simpa using hcc 0 _ rfl, hy, hcm.any⟩
theorem jpH (hf : s.boxes.findIdx? (isName ibN) = some i) (h : doM s ⟨2, ibN, 0, 0, [], tx⟩ = .error z) : z = 5 := by
 rw [jkj (x := ⟨2, ibN, 0, 0, [], tx⟩) rfl hf] at h; obtain ⟨b, hb, _⟩ := jkw hf; unfold addM at h; rw [hb] at h; simp only at h; split at h
 . cases h; rfl
 . cases h
def DnQ (B : Nat) (tx : List UInt8) (r : Except Int Stt) (v vb vs : Value) (er : Int) (w : World) : Prop := match r with
 | .error z => er = z
 | .ok s' => er = 0 /\ (∃ g cap, v = .slice (some ⟨g, 0, none⟩) 1 cap) /\ (∃ vm, OwnS B w vb vs vm s') /\ w.ownsRow B 32 6 v 1 (jdc tx)
theorem DnP.uni {r : Except Int Stt} {e : Ending} (h : DnP w tx r e w') : ∃ (a : Option Addr) (n c : Nat) (a5 : Option Addr) (n5 c5 : Nat) (a6 : Option Addr) (n6 c6 : Nat) (er : Int), e = .returned (.tuple #[.slice a n c, .agg #[.slice a5 n5 c5, .slice a6 n6 c6], .int .i64 er]) /\ DnQ w.heap.size tx r (.slice a n c) (.slice a5 n5 c5) (.slice a6 n6 c6) er w' /\ Below w.heap.size w w' := by
 obtain ⟨hb, h⟩ := h; cases r with
 | error z => exact ⟨none, 0, 0, none, 0, 0, none, 0, 0, z, h, rfl, hb⟩
 | ok s' =>
   obtain ⟨g, cap, vb, vs, vm, e, hO, ho⟩ := h; obtain ⟨a5, c5, rfl⟩ := jz hO.boxes; obtain ⟨a6, c6, rfl⟩ := jz hO.spool; exact ⟨_, 1, cap, a5, _, c5, a6, _, c6, 0, e, ⟨rfl, ⟨g, cap, rfl⟩, ⟨vm, hO⟩, ho⟩, hb⟩
theorem DnQ.base {B B' : Nat} {tx : List UInt8} {r : Except Int Stt} {v vb vs : Value} {er : Int} {w : World} (h : DnQ B' tx r v vb vs er w) (hB : B <= B') : DnQ B tx r v vb vs er w := by
 cases r with
 | error z => exact h
 | ok s' =>
   obtain ⟨h1, h2, ⟨vm, h3⟩, h4⟩ := h; exact ⟨h1, h2, ⟨vm, h3.base hB⟩, zL h4 hB⟩
theorem DnQ.next {B : Nat} {tx : List UInt8} {r : Except Int Stt} {v vb vs : Value} {er : Int} {w w' : World} (h : DnQ B tx r v vb vs er w) (hb : Below w.heap.size w w') : DnQ B tx r v vb vs er w' := by
 cases r with
 | error z => exact h
 | ok s' =>
   obtain ⟨h1, h2, ⟨vm, h3⟩, h4⟩ := h; exact ⟨h1, h2, ⟨vm, h3.next hb⟩, jX h4 hb⟩
theorem DnQ.keep {B P : Nat} {tx : List UInt8} {r : Except Int Stt} {v vb vs : Value} {er : Int} {w w' : World} (h : DnQ B tx r v vb vs er w) (hP : P < B) (hw : ∀ k, k ≠ P -> w'.heap[k]? = w.heap[k]?) : DnQ B tx r v vb vs er w' := by
 cases r with
 | error z => exact h
 | ok s' =>
   obtain ⟨h1, h2, ⟨vm, h3⟩, h4⟩ := h; exact ⟨h1, h2, ⟨vm, h3.keep fun q hq => hw q (by have := (h3.lt hq).1; omega)⟩, jf h4 fun q hq => hw q (by have := (aA h4 q hq).1; omega)⟩
def DkB (W : World) (tx : List UInt8) (r : Except Int Stt) (v p er : Value) (wx : World) : Prop := ∃ (P : Nat) (vb vs : Value) (z : Int) (a : Option Addr) (n c : Nat), v = .slice a n c /\ p = .pointer (some ⟨P, 0, none⟩) /\ er = .int .i64 z /\ W.heap.size <= P /\ wx.heap[P]? = some (.cells #[vb, vs] 44) /\ DnQ W.heap.size tx r v vb vs z wx /\ Below W.heap.size W wx
theorem DkB.old {r : Except Int Stt} {P : Nat} {u0 u1 : Value} (hP : W.heap.size <= P) (hb : w3.heap[P]? = some (.cells #[u0, u1] 44)) (hq : DnQ H tx r (.slice a n c) vb vs z w3) (hH : P < H) (hB : Below W.heap.size W w3) :
 DkB W tx r (.slice a n c) (.pointer (some ⟨P, 0, none⟩)) (.int .i64 z) ((w3.setCell ⟨P, 0, none⟩ vb).setCell ⟨P, 1, none⟩ vs) := by
 have h1 := aM w3 P 0 _ _ vb hb; have h2 := aM _ P 1 _ _ vs h1; exact ⟨P, vb, vs, z, a, n, c, rfl, rfl, rfl, hP, by simpa using h2, (hq.keep hH fun k hk => (aC _ _ _ _ hk).trans (aC _ _ _ _ hk)).base (by omega), (hB.setCell hP _).setCell hP _⟩
theorem DkB.new {r : Except Int Stt} (hq : DnQ H tx r (.slice a n c) vb vs z w3) (hH : W.heap.size <= H) (hB : Below W.heap.size W w3) :
 DkB W tx r (.slice a n c) (.pointer (some ⟨w3.heap.size, 0, none⟩)) (.int .i64 z) (w3.alloc (.cells #[vb, vs] 44)) :=
 ⟨w3.heap.size, vb, vs, z, a, n, c, rfl, rfl, rfl, hB.size, az _ _, (hq.next (nb0 _ _)).base hH, hB.alloc hB.size _⟩
theorem jiy (K : List (List UInt8)) (Cs : List (List Cmd)) (B b : Nat) (G : List Nat) (R : Rom) (w : World) (hR : RoomM K Cs B b G R w) (hK : RomK Cs R) (z : Ltr) (fs : List F) (body : List UInt8) (h : FitL z.1.1 z.1.2 z.2.1.1 z.2.1.2 z.2.2 fs body) (pz : K[0]? = some z.2.1.1) (hzl : z.2.2.length <= 2000) (hT : TabsM w) :
 Calls Tryz.prog 87 #[.pointer (some ⟨b, 0, none⟩), .agg #[.string (S z.1.1), .string (S z.1.2), .string (S z.2.1.1), .string (S z.2.1.2), .string (S z.2.2)]] w (RmQ K Cs B b G w (dlvR R z).1 (.tuple #[.int .i64 (dlvR R z).2.1, .bool (dlvR R z).2.2])) := by
 obtain ⟨⟨fl, fd⟩, ⟨tl, td⟩, tx⟩ := z; simp only at h pz hzl ⊢; have hs : R.states[0]? = some (stA R) := by
  have h3 := hK.st3; unfold stA; rw [bU, aw (by omega)]; rfl
 obtain ⟨s, nF⟩ : ∃ s, s = stA R := ⟨_, rfl⟩; have hM : May s := by rw [nF]; exact hK.may
 obtain ⟨ii, hf⟩ := hK.ib; have hsp := hK.sp; rw [<- nF] at hs hf hsp; obtain ⟨r, hr⟩ : ∃ r, r = doM s (kpE tx) := ⟨_, rfl⟩; have Aw := hid (show ∀ z, r = .error z -> dlvR R ((fl, fd), (tl, td), tx) = (R, 452, false) from fun z e => by
  unfold dlvR; rw [<- nF, show doM s (kpE tx) = .error z from hr.symm.trans e])
 have oK := hid (show ∀ s', r = .ok s' -> dlvR R ((fl, fd), (tl, td), tx) = (addR R 0 ⟨0, [kpE tx]⟩ s', 250, true) from fun s' e => by
  unfold dlvR; rw [<- nF, show doM s (kpE tx) = .ok s' from hr.symm.trans e])
 have sY := hid (show ∀ z, r = .error z -> z = 5 from fun z e => jpH (tx := tx) hf (hr.symm.trans e)); have A3 := hid (show ∀ s', r = .ok s' -> May s' from fun s' e => jgx hM (vj hzl) (hr.symm.trans e)); obtain ⟨al, cl, g, c, vb, vs, sg, so, sc, a, k, c34, hl, c6, d0, d1, hS, c35, e0, hy, hcm⟩ := hR.look hK.st3 hK.cs3 (u := 0) (by omega) hs hK.cs0; obtain ⟨rfl, rfl⟩ : a = none /\ k = 0 := hy.2 rfl; obtain ⟨ab, cb, rfl⟩ := RowM.slice hS.1; obtain ⟨aq, cq, rfl⟩ := RowM.slice hS.2.1; have HAD := hid (fun (u : World) (G' : List Nat) (hu : Below w.heap.size w u) (lb : RoomM K Cs B b G' R u) (gg cap : Nat) (ho : EntsM (fun _ => True) u (.slice (some ⟨gg, 0, none⟩) [kpE tx].length cap) [kpE tx]) (s' : Stt) (vb vs : Value) (hs' : SttM (AvN B b G') u vb vs s') =>
  jnl K Cs B b G' R u lb 0 (by omega) hK.st3 [kpE tx] ⟨by constructor <;> (show _ ; simp) <;> omega, by simp, fun y hy => by simp at hy; subst hy; exact vj hzl⟩ (some ⟨gg, 0, none⟩) cap _ ho s' vb vs hs' hK.tp (by have h1 := jd9 ⟨((0 : Nat) : Int), [kpE tx]⟩; have h2 := BatOk.len (b := ⟨((0 : Nat) : Int), [kpE tx]⟩) ⟨by constructor <;> (show _ ; simp) <;> omega, by simp, fun y hy => by simp at hy; subst hy; exact vj hzl⟩; have := hK.fit; omega) hK.w8 hK.w0)
 obtain ⟨W1, hW1⟩ : ∃ W1, W1 = w.alloc (.cells #[.string (S fl), .string (S fd), .string (S tl), .string (S td), .string (S tx)] 167) := ⟨_, rfl⟩; have b9 := hid hW1; have b8 : Below w.heap.size w W1 := by rw [hW1]; exact nb0 _ _
 have bX := hid b8; have cI : W1.heap[w.heap.size]? = some (.cells #[.string (S fl), .string (S fd), .string (S tl), .string (S td), .string (S tx)] 167) := by rw [hW1]; exact az w _
 have l0 := jA (i := 0) cI rfl; have l1 := jA (i := 1) cI rfl; have l2 := jA (i := 2) cI rfl; have l3 := jA (i := 3) cI rfl; have l4 := jA (i := 4) cI rfl; have mO := hid (show ∀ v, Below W1.heap.size W1 v -> Calls Tryz.prog 47 #[.slice al K.length cl, .string (S tl)] v fun e w' => e = .returned (.int .i64 ((0 : Nat) : Int)) /\ Below v.heap.size v w' from fun v hv => jnj anyB K tl 0 al cl v ((RowM.imp hl (fun _ h => h) (Keeps.of_below (b8.trans (hv.mono b8.size))) fun _ _ h => h)) pz (fun j y hj => by omega)); simp only [Nat.zero_mul, bc, bC] at d0 d1 e0; have iO := hid (show ∀ v, Below W1.heap.size W1 v -> v.cell? ⟨b, 6, none⟩ = some (.slice (some ⟨g, 0, none⟩) 3 c) /\ v.cell? ⟨g, 0, none⟩ = some (.slice ab s.boxes.length cb) /\ v.cell? ⟨g, 1, none⟩ = some (.slice aq s.spool.length cq) /\ v.cell? ⟨b, 35, none⟩ = some (.slice (some ⟨sg, so, none⟩) 3 sc) /\ v.cell? ⟨sg, so, none⟩ = some (.slice none 0 0) /\ v.cell? ⟨w.heap.size, 0, none⟩ = some (.string (S fl)) /\ v.cell? ⟨w.heap.size, 1, none⟩ = some (.string (S fd)) /\ v.cell? ⟨w.heap.size, 2, none⟩ = some (.string (S tl)) /\ v.cell? ⟨w.heap.size, 3, none⟩ = some (.string (S td)) /\ v.cell? ⟨w.heap.size, 4, none⟩ = some (.string (S tx)) from
  fun v hv => ⟨ja (ja c6 b8) hv, ja (ja d0 b8) hv, ja (ja d1 b8) hv, ja (ja c35 b8) hv, ja (ja e0 b8) hv, ja l0 hv, ja l1 hv, ja l2 hv, ja l3 hv, ja l4 hv⟩)
 have sV := hid (show ∀ v, Below W1.heap.size W1 v -> Calls Tryz.prog 137 #[.agg #[.slice ab s.boxes.length cb, .slice aq s.spool.length cq], .agg #[.string (S fl), .string (S fd), .string (S tl), .string (S td), .string (S tx)], .slice none 0 0] v (DnP v tx r) from fun v hv => by
  have hv' : Below w.heap.size w v := b8.trans (hv.mono b8.size); rw [hr]; exact jif fl fd tl td tx fs body s _ _ v (hT.next hv').1 (hT.next hv').2 h anyB (SttM.imp hS (fun _ h => h) (Keeps.of_below hv')) hM hsp ii hf)
 have k34 := ja c34 b8; have HR := hid hR; clear hR hK hs h pz hzl hT hl hS hcm hy c34 c6 d0 d1 c35 e0 hW1 cI l0 l1 l3 l4 b8 hM hf nF hr hsp; go_enter Tryz.func87, Tryz.ntmps87; go_upto_region 1 with fail
 rw [<- b9.out]
 go_cut [6] (fun v wx => v = .int .i64 0 /\ Below W1.heap.size W1 wx)
 case first =>
  go_region_held3 (fun v => v.cell? ⟨b, 34, none⟩ = some (.slice al K.length cl) /\ v.cell? ⟨w.heap.size, 2, none⟩ = some (.string (S tl))) (go_keep)
   (first
        | (go_at_call 47
           with_reducible refine (mO.out _ ?_).mono ?_
           . repeat (first | exact ay _ _ | refine Below.drew ?_)
           rintro e w4 ⟨rfl, hb⟩; have ch := hid (show Below W1.heap.size W1 w4 from ((ay _ W1).drew).trans hb); have q34 := ja k34 ch.out; have q2 := ja l2 ch.out; clear hb)
        | fail)
  all_goals
   go_wp2_with fail
   go_meet
   exact ⟨by first | rfl | simp, ch.out⟩
 case rest =>
  obtain ⟨rfl, hb⟩ := hcut; obtain ⟨W2, rfl⟩ : ∃ W, W = wc := ⟨_, rfl⟩; have bY := hid hb; obtain ⟨c6, d0, d1, c35, e0, l0, l1, l2, l3, l4⟩ := iO.out W2 hb; have m0 : b ≠ W2.heap.size := by have := aG _ _ c6; simp only at this; omega
  have m1 : g ≠ W2.heap.size := by have := aG _ _ d0; simp only at this; omega
  have m2 : sg ≠ W2.heap.size := by have := aG _ _ e0; simp only at this; omega
  have m3 : w.heap.size ≠ W2.heap.size := by have := aG _ _ l0; simp only at this; omega
  have o0 : b < W2.heap.size := aG _ _ c6; have o1 : g < W2.heap.size := aG _ _ d0; have o2 : sg < W2.heap.size := aG _ _ e0; have o3 : w.heap.size < W2.heap.size := aG _ _ l0; have mY := hid (show (W2.alloc (.cells #[.slice none 0 0, .slice none 0 0] 44)).drew.heap.size = W2.heap.size + 1 from by show (W2.alloc _).heap.size = _; simp); clear hb k34; go_upto_region 2 with fail
  go_cut [7, 8, 9] (fun v p er wx => DkB W2 tx r v p er wx)
  case first =>
   go_region_held3 (fun v => v.cell? ⟨b, 6, none⟩ = some (.slice (some ⟨g, 0, none⟩) 3 c) /\ v.cell? ⟨g, 0, none⟩ = some (.slice ab s.boxes.length cb) /\ v.cell? ⟨g, 1, none⟩ = some (.slice aq s.spool.length cq) /\ v.cell? ⟨b, 35, none⟩ = some (.slice (some ⟨sg, so, none⟩) 3 sc) /\ v.cell? ⟨sg, so, none⟩ = some (.slice none 0 0) /\ v.cell? ⟨w.heap.size, 0, none⟩ = some (.string (S fl)) /\ v.cell? ⟨w.heap.size, 1, none⟩ = some (.string (S fd)) /\ v.cell? ⟨w.heap.size, 2, none⟩ = some (.string (S tl)) /\ v.cell? ⟨w.heap.size, 3, none⟩ = some (.string (S td)) /\ v.cell? ⟨w.heap.size, 4, none⟩ = some (.string (S tx))) (first | go_keep | (refine ⟨?_, ?_, ?_, ?_, ?_, ?_, ?_, ?_, ?_, ?_⟩ <;> exact jj4 (jj4 (by assumption) (by assumption)) (by assumption)))
        (first
          | (go_at_call 137
             with_reducible refine (sV.out _ bY.out.drew).mono ?_
             intro e w4 hA; obtain ⟨a9, n9, c9, a5, n5, c5, a7, n7, c7, er, rfl, hq, hb4⟩ := hA.uni; have ch := hid (show Below W2.heap.size W2 w4 from ((ay W2.heap.size W2).drew).trans hb4); have cf := ch.out; have sX := hid (show DnQ W2.heap.size tx r (.slice a9 n9 c9) (.slice a5 n5 c5) (.slice a7 n7 c7) er w4 from hq); have q0 := ja c6 cf; have q1 := ja d0 cf; have q2 := ja d1 cf; have q3 := ja c35 cf; have q4 := ja e0 cf; have q5 := ja l0 cf; have q6 := ja l1 cf; have q7 := ja l2 cf; have q8 := ja l3 cf; have q9 := ja l4 cf; have n0 := (show b ≠ w4.heap.size from by have := cf.size; omega); have n1 := (show g ≠ w4.heap.size from by have := cf.size; omega); have n2 := (show sg ≠ w4.heap.size from by have := cf.size; omega); have n3 := (show w.heap.size ≠ w4.heap.size from by have := cf.size; omega); clear hb4 cf hq hA)
          | (go_at_call 137
             with_reducible refine (sV.out _ (bY.out.alloc bY.out.size (.cells #[.slice none 0 0, .slice none 0 0] 44)).drew).mono ?_
             intro e w4 hA; obtain ⟨a9, n9, c9, a5, n5, c5, a7, n7, c7, er, rfl, hq, hb4⟩ := hA.uni; have ch := hid (show Below W2.heap.size W2 w4 from (((ay W2.heap.size W2).alloc (ai _) (.cells #[.slice none 0 0, .slice none 0 0] 44)).drew).trans (hb4.mono (by rw [mY.out]; omega))); have cf := ch.out; have sX := hid (show DnQ (W2.heap.size + 1) tx r (.slice a9 n9 c9) (.slice a5 n5 c5) (.slice a7 n7 c7) er w4 from by rw [<- mY.out]; exact hq); have q0 := ja c6 cf; have q1 := ja d0 cf; have q2 := ja d1 cf; have q3 := ja c35 cf; have q4 := ja e0 cf; have q5 := ja l0 cf; have q6 := ja l1 cf; have q7 := ja l2 cf; have q8 := ja l3 cf; have q9 := ja l4 cf; have n0 := (show b ≠ w4.heap.size from by have := cf.size; omega); have n1 := (show g ≠ w4.heap.size from by have := cf.size; omega); have n2 := (show sg ≠ w4.heap.size from by have := cf.size; omega); have n3 := (show w.heap.size ≠ w4.heap.size from by have := cf.size; omega); have gF := hid (show w4.heap[W2.heap.size]? = some (.cells #[.slice none 0 0, .slice none 0 0] 44) from (hb4.block _ (by rw [mY.out]; omega)).trans (az W2 _)); obtain ⟨y0, y1, f0, f1⟩ := qf gF.out; clear hb4 cf hq hA))
   all_goals
        first
         | (have HE := hid (DkB.old (ai _) gF.out sX.out (Nat.lt_succ_self _) ch.out)
            go_wp2_with fail
            go_meet
            exact HE.out)
         | (have HE := hid (DkB.new sX.out (ai _) ch.out)
            go_wp2_with fail
            go_meet
            exact HE.out)
  case rest =>
   obtain ⟨P, vb5, vs5, er, a9, n9, c9, rfl, rfl, rfl, C7, kb, hq, hb⟩ := hcut; obtain ⟨W5, rfl⟩ : ∃ W, W = wc := ⟨_, rfl⟩; have dx : Below W1.heap.size W1 W5 := bY.out.trans (hb.mono bY.out.size); have cS : Below w.heap.size w W5 := bX.out.trans (dx.mono bX.out.size); cases r with
   | error z =>
     have hz : er = z := hq; subst hz; obtain rfl : er = 5 := sY.out er rfl; have HF := hid (show RmQ K Cs B b G w (dlvR R ((fl, fd), (tl, td), tx)).1 (.tuple #[.int .i64 (dlvR R ((fl, fd), (tl, td), tx)).2.1, .bool (dlvR R ((fl, fd), (tl, td), tx)).2.2]) (.returned (.tuple #[.int .i64 452, .bool false])) W5 by
      rw [Aw.out _ rfl]; exact ⟨rfl, G, HR.out.next cS, Stp.of cS⟩)
     clear hb dx cS hq kb; go_wp2; go_ret2; exact HF.out
   | ok s' =>
     obtain ⟨h0, ⟨gg, cap, yz⟩, ⟨vm, hO⟩, ho⟩ := hq; subst h0; simp only [aE] at yz; obtain ⟨rfl, rfl, rfl⟩ := yz; obtain ⟨p0, p1, _, _⟩ := qf kb; obtain ⟨W6, fu⟩ : ∃ W6, W6 = W5.drew := ⟨_, rfl⟩; have pj := hid fu; have gh : Below W5.heap.size W5 W6 := by rw [fu]; exact (ay _ _).drew
     have ug : ∀ k, w.heap.size <= k -> AvN B b G k := fun k hk => ⟨by have := HR.out.lt; omega, jbd HR.out hk⟩
     have rh : w.heap.size <= W2.heap.size := aN bX.out.size bY.out.size; have HST := hid (show Calls Tryz.prog 53 #[.pointer (some ⟨b, 1, none⟩), .agg #[.int .i64 0, .slice (some ⟨gg, 0, none⟩) 1 c9], .agg #[vb5, vs5]] W6 (RmQ K Cs B b G W6 (addR R 0 ⟨0, [kpE tx]⟩ s') (.int .i64 0)) from HAD.out W6 G (cS.trans (gh.mono cS.size)) (HR.out.next (cS.trans (gh.mono cS.size))) gg _ (jfp (jX ho gh)) s' vb5 vs5 (((hO.next gh).stt (A3.out s' rfl) fun q hq => ug q (by have := (hO.lt hq).1; omega)))); have gD := hid (cS.trans (gh.mono cS.size)); have r8 := (aj.1 kb).1; have gE := hid (show ∀ (G' : List Nat) (w' : World), Stp b G W6 G' w' -> w'.cell? ⟨P, 0, none⟩ = some vb5 /\ w'.cell? ⟨P, 1, none⟩ = some vs5 from fun G' w' hs => by
      have q := (hs.block P (aK r8 gh.size) (ug P (by omega)).2).trans (gh.block P r8); exact ⟨(aP q).trans p0, (aP q).trans p1⟩)
     have AP := hid (gE.out G W6 (Stp.refl _ _ _)); have Bs := hid (show ∃ a5 n5 c5 a6 n6 c6, vb5 = .slice a5 n5 c5 /\ vs5 = .slice a6 n6 c6 by
      obtain ⟨a5, c5, rfl⟩ := jz hO.boxes; obtain ⟨a6, c6, rfl⟩ := jz hO.spool; exact ⟨_, _, _, _, _, _, rfl, rfl⟩)
     clear hb dx cS hO ho kb fu gh ug sV iO mO HAD; obtain ⟨a5, n5, c5', a6, n6, c6', rfl, rfl⟩ := Bs.out; go_upto_region 9 with fail
     go_region_held3 (fun w' => w'.cell? ⟨P, 0, none⟩ = some (.slice a5 n5 c5') /\ w'.cell? ⟨P, 1, none⟩ = some (.slice a6 n6 c6')) (first | exact Bf.out | (rw [<- pj.out]; exact AP.out) | go_keep)
      (first
           | (go_at_call 53
              rw [<- pj.out]
              with_reducible refine HST.out.mono ?_
              rintro e w9 ⟨rfl, G9, nl, oB⟩; have Bf := hid (gE.out G9 w9 oB); have HF := hid (show RmQ K Cs B b G w (dlvR R ((fl, fd), (tl, td), tx)).1 (.tuple #[.int .i64 (dlvR R ((fl, fd), (tl, td), tx)).2.1, .bool (dlvR R ((fl, fd), (tl, td), tx)).2.2]) (.returned (.tuple #[.int .i64 250, .bool true])) w9 by
                 rw [oK.out _ rfl]; exact ⟨rfl, G9, nl, (Stp.of gD.out).trans oB⟩)
              clear nl oB))
     all_goals
      go_wp2; go_ret2; exact HF.out
structure Acu where
 kind : Int
 conn : Int
 user : Int
 keep : Int
 data : List UInt8
 ent : Ent
def jpV : Ent := ⟨0, [], 0, 0, [], []⟩
def acuC (x : Acu) : List Value := [.int .i64 x.kind, .int .i64 x.conn, .int .i64 x.user, .int .i64 x.keep, .string (S x.data), .int .i64 x.ent.kind, .string (S x.ent.box), .int .i64 x.ent.uid, .int .i64 x.ent.flags, .string (S x.ent.goal), .string (S x.ent.text)]
def geaC (g : Gea) : List Value := [.int .i64 g.kind, .int .i64 g.conn, .int .i64 g.user, .int .i64 g.a, .int .i64 g.b, .string g.text]
def GeaM (g : Gea) (cs : List Value) : Prop := cs = geaC g
def GesM (Q : Nat -> Prop) (w : World) (v : Value) (l : List Gea) : Prop := RowM Q 6 GeaM w v l
theorem GesM.next {l : List Gea} (h : GesM Q w v l) (hb : Below w.heap.size w w') : GesM Q w' v l := RowM.imp h (fun _ h => h) (Keeps.of_below hb) fun _ _ h => h
theorem GesM.at {l : List Gea} (h : GesM Q w (.slice a n c) l) {x : Gea} (hx : l[i]? = some x) : ∃ b o, a = some ⟨b, o, none⟩ /\ w.cell? ⟨b, o + i * 6, none⟩ = some (.int .i64 x.kind) /\ w.cell? ⟨b, o + i * 6 + 1, none⟩ = some (.int .i64 x.conn) /\ w.cell? ⟨b, o + i * 6 + 2, none⟩ = some (.int .i64 x.user) /\ w.cell? ⟨b, o + i * 6 + 3, none⟩ = some (.int .i64 x.a) /\ w.cell? ⟨b, o + i * 6 + 4, none⟩ = some (.int .i64 x.b) /\ w.cell? ⟨b, o + i * 6 + 5, none⟩ = some (.string x.text) := by
 obtain ⟨a', c', hv, _, hr⟩ := h; simp only [aE] at hv; obtain ⟨b, o, cs, ha, _, _, _, hc, hP⟩ := hr i x hx; have hcs : cs = geaC x := hP; subst hcs; exact ⟨b, o, by rw [hv.1, ha], hc 0 _ rfl, hc 1 _ rfl, hc 2 _ rfl, hc 3 _ rfl, hc 4 _ rfl, hc 5 _ rfl⟩
def ActM (x : Acu) (cs : List Value) : Prop := cs = acuC x
def AcsM (Q : Nat -> Prop) (w : World) (v : Value) (l : List Acu) : Prop := RowM Q 11 ActM w v l
theorem jqz : (Tryz.prog.info? 34).map (fun i => (i.zero, i.size, i.bytes)) = some (some (.agg #[.int .i64 0, .int .i64 0, .int .i64 0, .int .i64 0, .string ByteArray.empty, .int .i64 0, .string ByteArray.empty, .int .i64 0, .int .i64 0, .string ByteArray.empty, .string ByteArray.empty]), 11, 120) := by kernel_rfl
theorem RoomM.up (h : RoomM K Cs B b G R w) : w.cell? ⟨b, 0, none⟩ = some (.bool R.up) := by
 obtain ⟨X, hG, hB, hX, hM, hQ⟩ := h; exact hX.cell rfl
theorem jpp (K : List (List UInt8)) (Cs : List (List Cmd)) (B b : Nat) (G : List Nat) (R : Rom) (w : World) (hR : RoomM K Cs B b G R w) (i o : Nat) (hi : i < 3) (ho : o = 7 + i * 9) (eV : R.up = true) (x : Acu) (hk : x.kind = 1) (hc : x.conn = i) (hd : x.data ≠ []) (hn : (R.con i).held.length + x.data.length <= 1000000000) (R2 : Rom)
 (hW : ∀ (G' : List Nat) (w' : World), Below B w w' -> RoomM K Cs B b G' (R.put i (jda (R.con i) x.data)) w' -> Calls Tryz.prog 24 #[.pointer (some ⟨b, 0, none⟩), .pointer (some ⟨b, o, none⟩)] w' (RmQ K Cs B b G' w' R2 (.tuple #[]))) :
 Calls Tryz.prog 16 #[.pointer (some ⟨b, 0, none⟩), .agg (acuC x).toArray] w (RmQ K Cs B b G w R2 (.tuple #[])) := by
 obtain ⟨kd, cn, us, kp, da, en⟩ := x; simp only at hk hc hd hn hW; subst hk; subst hc; obtain ⟨W1, hW1⟩ : ∃ W1, W1 = w.alloc (.cells (acuC ⟨1, i, us, kp, da, en⟩).toArray 34) := ⟨_, rfl⟩; have b8 : Below w.heap.size w W1 := by rw [hW1]; exact nb0 _ _
 have hx : W1.heap[w.heap.size]? = some (.cells (acuC ⟨1, i, us, kp, da, en⟩).toArray 34) := by rw [hW1]; exact az w _
 have HX := hid (show ∀ (G' : List Nat) (w' : World), Stp b G W1 G' w' -> w'.cell? ⟨w.heap.size, 0, none⟩ = some (.int .i64 1) /\ w'.cell? ⟨w.heap.size, 1, none⟩ = some (.int .i64 i) /\ w'.cell? ⟨w.heap.size, 4, none⟩ = some (.string (S da)) from fun G' w' h => by
  have hz := (h.block w.heap.size (aj.1 hx).1 (jbd hR (ai _))).trans hx
  simp [World.cell?, hz, acuC])
 have cC := hid (hR.next b8); have HH := hid (fun (u : World) (hu : Below W1.heap.size W1 u) => jng K Cs B b G R u (cC.out.next hu) i o hi ho da hn); have HW := hid (show ∀ (G' : List Nat) (w' : World), Stp b G W1 G' w' -> RoomM K Cs B b G' (R.put i (jda (R.con i) da)) w' -> Calls Tryz.prog 24 #[.pointer (some ⟨b, 0, none⟩), .pointer (some ⟨b, o, none⟩)] w' (RmQ K Cs B b G' w' R2 (.tuple #[])) from fun G' w' h1 h2 => hW G' w' (hR.low ((Stp.of b8).trans h1)) h2); have c0 := cC.out.up; rw [eV] at c0; obtain ⟨p0, p1, p4⟩ := HX.out G W1 (Stp.refl _ _ _); have bX := hid b8; have b9 := hid hW1; have HD := hid hd; have sm : (S da).toList.isEmpty = false := by
  rw [aW, ji]; cases da with
  | nil => exact absurd rfl HD.out
  | cons c t => rfl
 have sr : (i : Int) < 3 := by omega
 have dE : (0 : Int) <= (i : Int) := by omega
 unfold acuC at b9 ⊢; clear hR hW eV hd hn hx b8 hW1; subst ho; go_enter Tryz.func16, Tryz.ntmps16; go_wp2; rw [<- b9.out]; have hg3 : decide ((1 : Int) = 5) = false := by decide
 go_quiet (fail)
 have mL := hid (vD W1 nq); go_wp2
 go_region_held3 (fun u => u.cell? ⟨w.heap.size, 1, none⟩ = some (.int .i64 i) /\ u.cell? ⟨w.heap.size, 4, none⟩ = some (.string (S da)))
  (first | exact (HX.out _ _ cJ.out).2 | exact (HX.out _ _ (Stp.of mL.out.drew)).2 | exact (HX.out _ _ (Stp.of mL.out)).2 | fail)
  (first
    | (go_at_call 23
       refine (HH.out _ mL.out.drew).mono ?_; rintro e w2 ⟨rfl, G2, cA, hs2⟩; have cJ := hid ((Stp.of (b := b) (G := G) mL.out.drew).trans hs2); have cP := hid (HW.out G2 w2.drew (cJ.out.trans (jcs _)) (cA.next (ay _ _).drew)); clear cA hs2)
    | fail)
 all_goals
  obtain ⟨q0, q1, q4⟩ := HX.out _ _ cJ.out; go_wp2
  go_region_held3 (fun u => u.cell? ⟨w.heap.size, 1, none⟩ = some (.int .i64 i))
   (first | exact rP.out | exact (HX.out _ _ (cJ.out.trans (jcs _))).2.1 | exact (HX.out _ _ cJ.out).2.1 | fail)
   (first
        | (go_at_call 24
           refine (cP.out.mono ?_); rintro e w4 ⟨rfl, G4, cK, eT⟩; have rP := hid (HX.out _ _ ((cJ.out.trans (jcs _)).trans eT)).2.1; have HF := hid (show RmQ K Cs B b G w R2 (.tuple #[]) (.returned (.tuple #[])) w4 from ⟨rfl, G4, cK, (Stp.of bX.out).trans ((cJ.out.trans (jcs _)).trans eT)⟩); clear cK eT)
        | fail)
  go_wp2; go_end0; exact HF.out
theorem hidp {p : Prop} (h : p) : Hid p := h
theorem jbq {a b : ByteArray} (h : ¬ a = b) : (a.toList == b.toList) = false := by
 rw [bA]; intro e; rw [aW, aW] at e
 apply h
 obtain ⟨⟨x⟩⟩ := a; obtain ⟨⟨y⟩⟩ := b; simp only at e; rw [e]
theorem qB (a : ByteArray) : (a.toList == a.toList) = true := by simp
theorem jp5 (c u p ek eu ef : Int) (d eb eg et : List UInt8) (w : World) : Calls Tryz.prog 33 #[.agg #[.int .i64 1, .int .i64 c, .int .i64 u, .int .i64 p, .string (S d), .int .i64 ek, .string (S eb), .int .i64 eu, .int .i64 ef, .string (S eg), .string (S et)]] w fun e w' => e = .returned (.agg #[.int .i64 1, .int .i64 c, .int .i64 0, .int .i64 0, .string (S d), .int .i64 0, .string (⟨#[]⟩), .int .i64 0, .int .i64 0, .string (⟨#[]⟩), .string (⟨#[]⟩)]) /\ Below w.heap.size w w' := by
 have HB := hidp (show ∀ a b c : Obj, Below w.heap.size w (((w.alloc a).alloc b).alloc c) from fun a b c => (((ay _ _).alloc (ai _) a).alloc (by simp) b).alloc (by simp; omega) c); go_enter Tryz.func33, Tryz.ntmps33; go_wp2
 go_region_law (fail)
 all_goals
  go_wp2; refine aD (v := .agg #[.int .i64 1, .int .i64 c, .int .i64 0, .int .i64 0, .string (S d), .int .i64 0, .string (⟨#[]⟩), .int .i64 0, .int .i64 0, .string (⟨#[]⟩), .string (⟨#[]⟩)]) (by simp [results, Tryz.results33, go_sem, *]) rfl ?_
  first | exact ⟨rfl, HB.out _ _ _⟩ | exact ⟨rfl, (HB.out _ _ _).drew⟩
theorem jp6 (c u p ek eu ef : Int) (d eb eg et : List UInt8) (w : World) : Calls Tryz.prog 33 #[.agg #[.int .i64 2, .int .i64 c, .int .i64 u, .int .i64 p, .string (S d), .int .i64 ek, .string (S eb), .int .i64 eu, .int .i64 ef, .string (S eg), .string (S et)]] w fun e w' => e = .returned (.agg #[.int .i64 2, .int .i64 0, .int .i64 0, .int .i64 0, .string (⟨#[]⟩), .int .i64 0, .string (⟨#[]⟩), .int .i64 0, .int .i64 0, .string (⟨#[]⟩), .string (⟨#[]⟩)]) /\ Below w.heap.size w w' := by
 have HB := hidp (show ∀ a b c : Obj, Below w.heap.size w (((w.alloc a).alloc b).alloc c) from fun a b c => (((ay _ _).alloc (ai _) a).alloc (by simp) b).alloc (by simp; omega) c); go_enter Tryz.func33, Tryz.ntmps33; go_wp2
 all_goals
  refine aD (v := .agg #[.int .i64 2, .int .i64 0, .int .i64 0, .int .i64 0, .string (⟨#[]⟩), .int .i64 0, .string (⟨#[]⟩), .int .i64 0, .int .i64 0, .string (⟨#[]⟩), .string (⟨#[]⟩)]) (by simp [results, Tryz.results33, go_sem, *]) rfl ?_
  first | exact ⟨rfl, HB.out _ _ _⟩ | exact ⟨rfl, (HB.out _ _ _).drew⟩
theorem jjR (k c u p ek eu ef yc yu yp yek yeu yef : Int) (d eb eg et yd yeb yeg yet : ByteArray) (h : ¬ (c = yc /\ u = yu /\ p = yp /\ d = yd /\ ek = yek /\ eb = yeb /\ eu = yeu /\ ef = yef /\ eg = yeg /\ et = yet)) (w : World) : (binOp .neq 34 (.agg #[.int .i64 k, .int .i64 c, .int .i64 u, .int .i64 p, .string d, .int .i64 ek, .string eb, .int .i64 eu, .int .i64 ef, .string eg, .string et]) (.agg #[.int .i64 k, .int .i64 yc, .int .i64 yu, .int .i64 yp, .string yd, .int .i64 yek, .string yeb, .int .i64 yeu, .int .i64 yef, .string yeg, .string yet])).run Tryz.prog w = .ok (.bool true) w := by
 by_cases h0 : c = yc
 . subst h0
   by_cases h1 : u = yu
   . subst h1
     by_cases h2 : p = yp
     . subst h2
       by_cases h3 : d = yd
       . subst h3; have e3 := qB d
         by_cases h4 : ek = yek
         . subst h4
           by_cases h5 : eb = yeb
           . subst h5; have e5 := qB eb
             by_cases h6 : eu = yeu
             . subst h6
               by_cases h7 : ef = yef
               . subst h7
                 by_cases h8 : eg = yeg
                 . subst h8; have e8 := qB eg; have h9 : ¬ et = yet := fun h9 => h ⟨rfl, rfl, rfl, rfl, rfl, rfl, rfl, rfl, rfl, h9⟩
                   have e9 := jbq h9; clear h h9
                   simp [go_sem, *]
                 . have e8 := jbq h8; clear h h8
                   simp [go_sem, *]
               . have e7 : (ef == yef) = false := by rw [bA]; exact h7
                 clear h h7
                 simp [go_sem, *]
             . have e6 : (eu == yeu) = false := by rw [bA]; exact h6
               clear h h6
               simp [go_sem, *]
           . have e5 := jbq h5; clear h h5
             simp [go_sem, *]
         . have e4 : (ek == yek) = false := by rw [bA]; exact h4
           clear h h4
           simp [go_sem, *]
       . have e3 := jbq h3; clear h h3
         simp [go_sem, *]
     . have e2 : (p == yp) = false := by rw [bA]; exact h2
       clear h h2
       simp [go_sem, *]
   . have e1 : (u == yu) = false := by rw [bA]; exact h1
     clear h h1
     simp [go_sem, *]
 . have e0 : (c == yc) = false := by rw [bA]; exact h0
   clear h h0
   simp [go_sem, *]
theorem jmB (k c u p ek eu ef : Int) (d eb eg et : ByteArray) (w : World) : (binOp .neq 34 (.agg #[.int .i64 k, .int .i64 c, .int .i64 u, .int .i64 p, .string d, .int .i64 ek, .string eb, .int .i64 eu, .int .i64 ef, .string eg, .string et]) (.agg #[.int .i64 k, .int .i64 c, .int .i64 u, .int .i64 p, .string d, .int .i64 ek, .string eb, .int .i64 eu, .int .i64 ef, .string eg, .string et])).run Tryz.prog w = .ok (.bool false) w := by
 have e1 := qB d; have e2 := qB eb; have e3 := qB eg; have e4 := qB et
 simp [go_sem, *]
theorem joz (k c u p ek eu ef yc yu yp yek yeu yef : Int) (d eb eg et yd yeb yeg yet : ByteArray) (h : c = yc /\ u = yu /\ p = yp /\ d = yd /\ ek = yek /\ eb = yeb /\ eu = yeu /\ ef = yef /\ eg = yeg /\ et = yet) (w : World) : (binOp .neq 34 (.agg #[.int .i64 k, .int .i64 c, .int .i64 u, .int .i64 p, .string d, .int .i64 ek, .string eb, .int .i64 eu, .int .i64 ef, .string eg, .string et]) (.agg #[.int .i64 k, .int .i64 yc, .int .i64 yu, .int .i64 yp, .string yd, .int .i64 yek, .string yeb, .int .i64 yeu, .int .i64 yef, .string yeg, .string yet])).run Tryz.prog w = .ok (.bool false) w := by
 obtain ⟨rfl, rfl, rfl, rfl, rfl, rfl, rfl, rfl, rfl, rfl⟩ := h; exact jmB _ _ _ _ _ _ _ _ _ _ _ w
def entZ (ek eu ef : Int) (eb eg et : List UInt8) : Prop := ek = 0 /\ eb = [] /\ eu = 0 /\ ef = 0 /\ eg = [] /\ et = []
def actB (k c u p : Int) (d : List UInt8) (z : Prop) : Prop := (k = 1 ∨ (c = 0 /\ d = [])) /\ (k = 3 ∨ p = 0) /\ (k = 5 ∨ (u = 0 /\ z))
def actR (k c u p : Int) : Prop := (k = 1 -> 0 <= c /\ c <= 2) /\ (k = 3 -> 0 <= p /\ p <= 100000) /\ (k = 5 -> 0 <= u /\ u <= 2)
def ActE (k c u p : Int) (d : List UInt8) (z : Prop) (e : Int) : Prop :=
 (¬ (1 <= k /\ k <= 5) /\ e = 2) ∨ ((1 <= k /\ k <= 5) /\ ((¬ actR k c u p /\ e = 6) ∨ (actR k c u p /\ ((k = 1 /\ 3000 < d.length /\ e = 1) ∨ (¬ (k = 1 /\ 3000 < d.length) /\ ((¬ actB k c u p d z /\ e = 3) ∨ (actB k c u p d z /\ e = 0)))))))
theorem jhs {k c : Int} {z : Prop} {e : Int} (h : ActE k c u p d z e) (g : ActE k c u p d z f) : e = f := by
 unfold ActE at h g
 rcases h with ⟨h1, h2⟩ | ⟨h1, ⟨h3, h2⟩ | ⟨h3, ⟨h4, h5, h2⟩ | ⟨h4, ⟨h5, h2⟩ | ⟨h5, h2⟩⟩⟩⟩ <;>
 rcases g with ⟨g1, g2⟩ | ⟨g1, ⟨g3, g2⟩ | ⟨g3, ⟨g4, g5, g2⟩ | ⟨g4, ⟨g5, g2⟩ | ⟨g5, g2⟩⟩⟩⟩ <;>
 first | exact h2.trans g2.symm | (exfalso; first | exact g1 h1 | exact h1 g1 | exact g3 h3 | exact h3 g3 | exact g4 (And.intro h4 h5) | exact h4 (And.intro g4 g5) | exact g5 h5 | exact h5 g5 | fail)
def InP (k c u p : Int) (e : Ending) : Prop := ∃ b : Bool, e = .returned (.bool b) /\ (b = true ↔ actR k c u p)
def ChP (k c u p : Int) (d : List UInt8) (z : Prop) (e : Ending) : Prop := ∃ r, e = .returned (.int .i64 r) /\ ActE k c u p d z r
theorem jcu {l : List UInt8} (h : (S l : ByteArray) = ⟨#[]⟩) : l = [] := by
 have := congrArg (fun b => b.data.toList) h
 simpa [ji] using this
theorem jkH (k c u p : Int) (d : ByteArray) (ek eu ef : Int) (eb eg et : ByteArray) (w : World) : Calls Tryz.prog 32 #[.agg #[.int .i64 k, .int .i64 c, .int .i64 u, .int .i64 p, .string d, .int .i64 ek, .string eb, .int .i64 eu, .int .i64 ef, .string eg, .string et]] w fun e w' => InP k c u p e /\ Below w.heap.size w w' := by
 have HB := hidp (show ∀ a : Obj, Below w.heap.size w (w.alloc a) from fun a => (ay _ _).alloc (ai _) a); go_enter Tryz.func32, Tryz.ntmps32; go_wp2
 all_goals
  go_ret; refine ⟨⟨_, rfl, ?_⟩, HB.out _⟩; unfold actR
  simp_all <;> omega
theorem jmz {c : Int} (h : actB 1 c u p d (entZ ek eu ef eb eg et)) : c = c /\ u = 0 /\ p = 0 /\ S d = (S d) /\ ek = 0 /\ S eb = ⟨#[]⟩ /\ eu = 0 /\ ef = 0 /\ S eg = ⟨#[]⟩ /\ S et = ⟨#[]⟩ := by
 unfold actB entZ at h; obtain ⟨h1, h2, h3⟩ := h; have g1 := h1.resolve_left; have g2 := h2.resolve_left; have g3 := h3.resolve_left; obtain h2 := g2 (by decide); obtain ⟨h4, h5, h6, h7, h8, h9, h10⟩ := g3 (by decide)
 subst_vars
 exact ⟨rfl, rfl, rfl, rfl, rfl, rfl, rfl, rfl, rfl, rfl⟩
theorem jnL (c u p ek eu ef : Int) (d eb eg et : List UInt8) (hd : d.length <= 9223372036854775807) (w : World) : Calls Tryz.prog 21 #[.agg #[.int .i64 1, .int .i64 c, .int .i64 u, .int .i64 p, .string (S d), .int .i64 ek, .string (S eb), .int .i64 eu, .int .i64 ef, .string (S eg), .string (S et)]] w fun e w' => ChP 1 c u p d (entZ ek eu ef eb eg et) e /\ Below w.heap.size w w' := by
 obtain ⟨W1, hW1⟩ : ∃ W1, W1 = w.alloc (.cells #[.int .i64 1, .int .i64 c, .int .i64 u, .int .i64 p, .string (S d), .int .i64 ek, .string (S eb), .int .i64 eu, .int .i64 ef, .string (S eg), .string (S et)] 34) := ⟨_, rfl⟩; have b9 := hidp hW1; have bX := hidp (show Below w.heap.size w W1 by rw [hW1]; exact nb0 _ _); have HX := hidp (show ∀ w', Below W1.heap.size W1 w' -> w'.cell? ⟨w.heap.size, 0, none⟩ = some (.int .i64 1) /\ w'.cell? ⟨w.heap.size, 1, none⟩ = some (.int .i64 c) /\ w'.cell? ⟨w.heap.size, 2, none⟩ = some (.int .i64 u) /\ w'.cell? ⟨w.heap.size, 3, none⟩ = some (.int .i64 p) /\ w'.cell? ⟨w.heap.size, 4, none⟩ = some (.string (S d)) /\ w'.cell? ⟨w.heap.size, 5, none⟩ = some (.int .i64 ek) /\ w'.cell? ⟨w.heap.size, 6, none⟩ = some (.string (S eb)) /\ w'.cell? ⟨w.heap.size, 7, none⟩ = some (.int .i64 eu) /\ w'.cell? ⟨w.heap.size, 8, none⟩ = some (.int .i64 ef) /\ w'.cell? ⟨w.heap.size, 9, none⟩ = some (.string (S eg)) /\ w'.cell? ⟨w.heap.size, 10, none⟩ = some (.string (S et)) from fun w' hb => by
  have hs : w.heap.size < W1.heap.size := by rw [hW1]; simp
  refine ⟨?_, ?_, ?_, ?_, ?_, ?_, ?_, ?_, ?_, ?_, ?_⟩ <;> exact (hb.cell hs).trans (by rw [hW1]; simp))
 have HD := hidp hd; have ep := hidp (jb d); clear hW1 hd; obtain ⟨x0, x1, x2, x3, x4, x5, x6, x7, x8, x9, x10⟩ := HX.out W1 (ay _ _); go_enter Tryz.func21, Tryz.ntmps21; go_wp2_with fail; rw [<- b9.out]; refine (jkH _ _ _ _ _ _ _ _ _ _ _ W1).mono ?_; rintro e w2 ⟨⟨b, rfl, hb⟩, hb2⟩; have HB := hidp hb; have bY := hidp hb2; clear hb x0 x1 x2 x3 x4 x5 x6 x7 x8 x9 x10; obtain ⟨y0, y1, y2, y3, y4, y5, y6, y7, y8, y9, y10⟩ := HX.out w2 hb2; clear hb2; cases b
 . go_wp2; go_ret; refine ⟨⟨6, rfl, Or.inr ⟨by decide, Or.inl ⟨fun h => ?_, rfl⟩⟩⟩, bX.out.trans (bY.out.mono bX.out.size)⟩; have := HB.out.2 h
   simp at this
 . have HR := hidp (HB.out.1 rfl); clear HB
   by_cases hl : 3000 < d.length
   . have hl' : (3000 : Int) < ((S d).size : Int) := by rw [ep.out]; omega
     have HL := hidp hl; clear hl; go_wp2; go_ret; exact ⟨⟨1, rfl, Or.inr ⟨by decide, Or.inr ⟨HR.out, Or.inl ⟨rfl, HL.out, rfl⟩⟩⟩⟩, bX.out.trans (bY.out.mono bX.out.size)⟩
   have hl' : ¬ (3000 : Int) < ((S d).size : Int) := by rw [ep.out]; omega
   have HL := hidp (show ¬ 3000 < d.length from hl); clear hl; have cX := hidp (fun v : World => jp5 c u p ek eu ef d eb eg et v)
   by_cases hall : c = c /\ u = 0 /\ p = 0 /\ S d = (S d) /\ ek = 0 /\ S eb = ⟨#[]⟩ /\ eu = 0 /\ ef = 0 /\ S eg = ⟨#[]⟩ /\ S et = ⟨#[]⟩
   . have fY := hidp (show actB 1 c u p d (entZ ek eu ef eb eg et) by
        obtain ⟨h0, h1, h2, h3, h4, h5, h6, h7, h8, h9⟩ := hall; exact ⟨Or.inl rfl, Or.inr h2, Or.inr ⟨h1, h4, jcu h5, h6, h7, jcu h8, jcu h9⟩⟩)
     have hne := fun v : World => joz 1 c u p ek eu ef c 0 0 0 0 0 (S d) (S eb) (S eg) (S et) (S d) ⟨#[]⟩ ⟨#[]⟩ ⟨#[]⟩ hall v
     clear hall; go_upto_region 7 with fail
     go_cut [1, 2, 26] (fun a b c wx => a = .pointer (some ⟨w.heap.size, 0, none⟩) /\ c = .bool false /\ Below W1.heap.size W1 wx)
     case first =>
        go_region_held3 (fun w' => w'.cell? ⟨w.heap.size, 0, none⟩ = some (.int .i64 1) /\ w'.cell? ⟨w.heap.size, 1, none⟩ = some (.int .i64 c) /\ w'.cell? ⟨w.heap.size, 2, none⟩ = some (.int .i64 u) /\ w'.cell? ⟨w.heap.size, 3, none⟩ = some (.int .i64 p) /\ w'.cell? ⟨w.heap.size, 4, none⟩ = some (.string (S d)) /\ w'.cell? ⟨w.heap.size, 5, none⟩ = some (.int .i64 ek) /\ w'.cell? ⟨w.heap.size, 6, none⟩ = some (.string (S eb)) /\ w'.cell? ⟨w.heap.size, 7, none⟩ = some (.int .i64 eu) /\ w'.cell? ⟨w.heap.size, 8, none⟩ = some (.int .i64 ef) /\ w'.cell? ⟨w.heap.size, 9, none⟩ = some (.string (S eg)) /\ w'.cell? ⟨w.heap.size, 10, none⟩ = some (.string (S et))) (go_keep)
         (first
           | (go_at_call 33
              with_reducible refine (cX.out w2.drew).mono ?_
              rintro e w3 ⟨rfl, hb⟩; have hb3 : Below W1.heap.size W1 w3 := (bY.out.drew).trans (hb.mono bY.out.size); have bZ := hidp hb3; obtain ⟨z0, z1, z2, z3, z4, z5, z6, z7, z8, z9, z10⟩ := HX.out w3 hb3; clear hb hb3)
           | fail)
        all_goals
         go_wp2
         first | (go_meet; exact ⟨rfl, rfl, bZ.out⟩) | fail
     case rest =>
        obtain ⟨rfl, rfl, hb3⟩ := hcut; have bZ := hidp hb3; clear hb3; go_wp2; go_ret; exact ⟨⟨0, rfl, Or.inr ⟨by decide, Or.inr ⟨HR.out, Or.inr ⟨fun h => HL.out h.2, Or.inr ⟨fY.out, rfl⟩⟩⟩⟩⟩, bX.out.trans (bZ.out.mono bX.out.size)⟩
   . have fY := hidp (show ¬ actB 1 c u p d (entZ ek eu ef eb eg et) from fun h => hall (jmz h)); have hne := fun v : World => jjR 1 c u p ek eu ef c 0 0 0 0 0 (S d) (S eb) (S eg) (S et) (S d) ⟨#[]⟩ ⟨#[]⟩ ⟨#[]⟩ hall v
     clear hall; go_upto_region 7 with fail
     go_cut [1, 2, 26] (fun a b c wx => a = .pointer (some ⟨w.heap.size, 0, none⟩) /\ c = .bool true /\ Below W1.heap.size W1 wx)
     case first =>
        go_region_held3 (fun w' => w'.cell? ⟨w.heap.size, 0, none⟩ = some (.int .i64 1) /\ w'.cell? ⟨w.heap.size, 1, none⟩ = some (.int .i64 c) /\ w'.cell? ⟨w.heap.size, 2, none⟩ = some (.int .i64 u) /\ w'.cell? ⟨w.heap.size, 3, none⟩ = some (.int .i64 p) /\ w'.cell? ⟨w.heap.size, 4, none⟩ = some (.string (S d)) /\ w'.cell? ⟨w.heap.size, 5, none⟩ = some (.int .i64 ek) /\ w'.cell? ⟨w.heap.size, 6, none⟩ = some (.string (S eb)) /\ w'.cell? ⟨w.heap.size, 7, none⟩ = some (.int .i64 eu) /\ w'.cell? ⟨w.heap.size, 8, none⟩ = some (.int .i64 ef) /\ w'.cell? ⟨w.heap.size, 9, none⟩ = some (.string (S eg)) /\ w'.cell? ⟨w.heap.size, 10, none⟩ = some (.string (S et))) (go_keep)
         (first
           | (go_at_call 33
              with_reducible refine (cX.out w2.drew).mono ?_
              rintro e w3 ⟨rfl, hb⟩; have hb3 : Below W1.heap.size W1 w3 := (bY.out.drew).trans (hb.mono bY.out.size); have bZ := hidp hb3; obtain ⟨z0, z1, z2, z3, z4, z5, z6, z7, z8, z9, z10⟩ := HX.out w3 hb3; clear hb hb3)
           | fail)
        all_goals
         go_wp2
         first | (go_meet; exact ⟨rfl, rfl, bZ.out⟩) | fail
     case rest =>
        obtain ⟨rfl, rfl, hb3⟩ := hcut; have bZ := hidp hb3; clear hb3; go_wp2; go_ret; exact ⟨⟨3, rfl, Or.inr ⟨by decide, Or.inr ⟨HR.out, Or.inr ⟨fun h => HL.out h.2, Or.inl ⟨fY.out, rfl⟩⟩⟩⟩⟩, bX.out.trans (bZ.out.mono bX.out.size)⟩
theorem jmA {c : Int} (h : actB 2 c u p d (entZ ek eu ef eb eg et)) : c = 0 /\ u = 0 /\ p = 0 /\ S d = ⟨#[]⟩ /\ ek = 0 /\ S eb = ⟨#[]⟩ /\ eu = 0 /\ ef = 0 /\ S eg = ⟨#[]⟩ /\ S et = ⟨#[]⟩ := by
 unfold actB entZ at h; obtain ⟨h1, h2, h3⟩ := h; have g1 := h1.resolve_left; have g2 := h2.resolve_left; have g3 := h3.resolve_left; obtain ⟨h1, pp⟩ := g1 (by decide); obtain h2 := g2 (by decide); obtain ⟨h4, h5, h6, h7, h8, h9, h10⟩ := g3 (by decide)
 subst_vars
 exact ⟨rfl, rfl, rfl, rfl, rfl, rfl, rfl, rfl, rfl, rfl⟩
theorem jnM (c u p ek eu ef : Int) (d eb eg et : List UInt8) (hd : d.length <= 9223372036854775807) (w : World) : Calls Tryz.prog 21 #[.agg #[.int .i64 2, .int .i64 c, .int .i64 u, .int .i64 p, .string (S d), .int .i64 ek, .string (S eb), .int .i64 eu, .int .i64 ef, .string (S eg), .string (S et)]] w fun e w' => ChP 2 c u p d (entZ ek eu ef eb eg et) e /\ Below w.heap.size w w' := by
 obtain ⟨W1, hW1⟩ : ∃ W1, W1 = w.alloc (.cells #[.int .i64 2, .int .i64 c, .int .i64 u, .int .i64 p, .string (S d), .int .i64 ek, .string (S eb), .int .i64 eu, .int .i64 ef, .string (S eg), .string (S et)] 34) := ⟨_, rfl⟩; have b9 := hidp hW1; have bX := hidp (show Below w.heap.size w W1 by rw [hW1]; exact nb0 _ _); have HX := hidp (show ∀ w', Below W1.heap.size W1 w' -> w'.cell? ⟨w.heap.size, 0, none⟩ = some (.int .i64 2) /\ w'.cell? ⟨w.heap.size, 1, none⟩ = some (.int .i64 c) /\ w'.cell? ⟨w.heap.size, 2, none⟩ = some (.int .i64 u) /\ w'.cell? ⟨w.heap.size, 3, none⟩ = some (.int .i64 p) /\ w'.cell? ⟨w.heap.size, 4, none⟩ = some (.string (S d)) /\ w'.cell? ⟨w.heap.size, 5, none⟩ = some (.int .i64 ek) /\ w'.cell? ⟨w.heap.size, 6, none⟩ = some (.string (S eb)) /\ w'.cell? ⟨w.heap.size, 7, none⟩ = some (.int .i64 eu) /\ w'.cell? ⟨w.heap.size, 8, none⟩ = some (.int .i64 ef) /\ w'.cell? ⟨w.heap.size, 9, none⟩ = some (.string (S eg)) /\ w'.cell? ⟨w.heap.size, 10, none⟩ = some (.string (S et)) from fun w' hb => by
  have hs : w.heap.size < W1.heap.size := by rw [hW1]; simp
  refine ⟨?_, ?_, ?_, ?_, ?_, ?_, ?_, ?_, ?_, ?_, ?_⟩ <;> exact (hb.cell hs).trans (by rw [hW1]; simp))
 have HD := hidp hd; have ep := hidp (jb d); clear hW1 hd; obtain ⟨x0, x1, x2, x3, x4, x5, x6, x7, x8, x9, x10⟩ := HX.out W1 (ay _ _); go_enter Tryz.func21, Tryz.ntmps21; go_wp2_with fail; rw [<- b9.out]; refine (jkH _ _ _ _ _ _ _ _ _ _ _ W1).mono ?_; rintro e w2 ⟨⟨b, rfl, hb⟩, hb2⟩; have HB := hidp hb; have bY := hidp hb2; clear hb x0 x1 x2 x3 x4 x5 x6 x7 x8 x9 x10; obtain ⟨y0, y1, y2, y3, y4, y5, y6, y7, y8, y9, y10⟩ := HX.out w2 hb2; clear hb2; cases b
 . go_wp2; go_ret; refine ⟨⟨6, rfl, Or.inr ⟨by decide, Or.inl ⟨fun h => ?_, rfl⟩⟩⟩, bX.out.trans (bY.out.mono bX.out.size)⟩; have := HB.out.2 h
   simp at this
 . have HR := hidp (HB.out.1 rfl); clear HB
   skip
   have cX := hidp (fun v : World => jp6 c u p ek eu ef d eb eg et v)
   by_cases hall : c = 0 /\ u = 0 /\ p = 0 /\ S d = ⟨#[]⟩ /\ ek = 0 /\ S eb = ⟨#[]⟩ /\ eu = 0 /\ ef = 0 /\ S eg = ⟨#[]⟩ /\ S et = ⟨#[]⟩
   . have fY := hidp (show actB 2 c u p d (entZ ek eu ef eb eg et) by
        obtain ⟨h0, h1, h2, h3, h4, h5, h6, h7, h8, h9⟩ := hall; exact ⟨Or.inr ⟨h0, jcu h3⟩, Or.inr h2, Or.inr ⟨h1, h4, jcu h5, h6, h7, jcu h8, jcu h9⟩⟩)
     have hne := fun v : World => joz 2 c u p ek eu ef 0 0 0 0 0 0 (S d) (S eb) (S eg) (S et) ⟨#[]⟩ ⟨#[]⟩ ⟨#[]⟩ ⟨#[]⟩ hall v
     clear hall; go_upto_region 7 with fail
     go_cut [1, 2, 26] (fun a b c wx => a = .pointer (some ⟨w.heap.size, 0, none⟩) /\ c = .bool false /\ Below W1.heap.size W1 wx)
     case first =>
        go_region_held3 (fun w' => w'.cell? ⟨w.heap.size, 0, none⟩ = some (.int .i64 2) /\ w'.cell? ⟨w.heap.size, 1, none⟩ = some (.int .i64 c) /\ w'.cell? ⟨w.heap.size, 2, none⟩ = some (.int .i64 u) /\ w'.cell? ⟨w.heap.size, 3, none⟩ = some (.int .i64 p) /\ w'.cell? ⟨w.heap.size, 4, none⟩ = some (.string (S d)) /\ w'.cell? ⟨w.heap.size, 5, none⟩ = some (.int .i64 ek) /\ w'.cell? ⟨w.heap.size, 6, none⟩ = some (.string (S eb)) /\ w'.cell? ⟨w.heap.size, 7, none⟩ = some (.int .i64 eu) /\ w'.cell? ⟨w.heap.size, 8, none⟩ = some (.int .i64 ef) /\ w'.cell? ⟨w.heap.size, 9, none⟩ = some (.string (S eg)) /\ w'.cell? ⟨w.heap.size, 10, none⟩ = some (.string (S et))) (go_keep)
         (first
           | (go_at_call 33
              with_reducible refine (cX.out w2.drew).mono ?_
              rintro e w3 ⟨rfl, hb⟩; have hb3 : Below W1.heap.size W1 w3 := (bY.out.drew).trans (hb.mono bY.out.size); have bZ := hidp hb3; obtain ⟨z0, z1, z2, z3, z4, z5, z6, z7, z8, z9, z10⟩ := HX.out w3 hb3; clear hb hb3)
           | fail)
        all_goals
         go_wp2
         first | (go_meet; exact ⟨rfl, rfl, bZ.out⟩) | fail
     case rest =>
        obtain ⟨rfl, rfl, hb3⟩ := hcut; have bZ := hidp hb3; clear hb3; go_wp2; go_ret; exact ⟨⟨0, rfl, Or.inr ⟨by decide, Or.inr ⟨HR.out, Or.inr ⟨fun h => absurd h.1 (by decide), Or.inr ⟨fY.out, rfl⟩⟩⟩⟩⟩, bX.out.trans (bZ.out.mono bX.out.size)⟩
   . have fY := hidp (show ¬ actB 2 c u p d (entZ ek eu ef eb eg et) from fun h => hall (jmA h)); have hne := fun v : World => jjR 2 c u p ek eu ef 0 0 0 0 0 0 (S d) (S eb) (S eg) (S et) ⟨#[]⟩ ⟨#[]⟩ ⟨#[]⟩ ⟨#[]⟩ hall v
     clear hall; go_upto_region 7 with fail
     go_cut [1, 2, 26] (fun a b c wx => a = .pointer (some ⟨w.heap.size, 0, none⟩) /\ c = .bool true /\ Below W1.heap.size W1 wx)
     case first =>
        go_region_held3 (fun w' => w'.cell? ⟨w.heap.size, 0, none⟩ = some (.int .i64 2) /\ w'.cell? ⟨w.heap.size, 1, none⟩ = some (.int .i64 c) /\ w'.cell? ⟨w.heap.size, 2, none⟩ = some (.int .i64 u) /\ w'.cell? ⟨w.heap.size, 3, none⟩ = some (.int .i64 p) /\ w'.cell? ⟨w.heap.size, 4, none⟩ = some (.string (S d)) /\ w'.cell? ⟨w.heap.size, 5, none⟩ = some (.int .i64 ek) /\ w'.cell? ⟨w.heap.size, 6, none⟩ = some (.string (S eb)) /\ w'.cell? ⟨w.heap.size, 7, none⟩ = some (.int .i64 eu) /\ w'.cell? ⟨w.heap.size, 8, none⟩ = some (.int .i64 ef) /\ w'.cell? ⟨w.heap.size, 9, none⟩ = some (.string (S eg)) /\ w'.cell? ⟨w.heap.size, 10, none⟩ = some (.string (S et))) (go_keep)
         (first
           | (go_at_call 33
              with_reducible refine (cX.out w2.drew).mono ?_
              rintro e w3 ⟨rfl, hb⟩; have hb3 : Below W1.heap.size W1 w3 := (bY.out.drew).trans (hb.mono bY.out.size); have bZ := hidp hb3; obtain ⟨z0, z1, z2, z3, z4, z5, z6, z7, z8, z9, z10⟩ := HX.out w3 hb3; clear hb hb3)
           | fail)
        all_goals
         go_wp2
         first | (go_meet; exact ⟨rfl, rfl, bZ.out⟩) | fail
     case rest =>
        obtain ⟨rfl, rfl, hb3⟩ := hcut; have bZ := hidp hb3; clear hb3; go_wp2; go_ret; exact ⟨⟨3, rfl, Or.inr ⟨by decide, Or.inr ⟨HR.out, Or.inr ⟨fun h => absurd h.1 (by decide), Or.inl ⟨fY.out, rfl⟩⟩⟩⟩⟩, bX.out.trans (bZ.out.mono bX.out.size)⟩
theorem jms (K : List (List UInt8)) (Cs : List (List Cmd)) (B b : Nat) (G : List Nat) (R : Rom) (w : World) (i o : Nat) (hi : i < 3) (ho : o = 7 + i * 9) (hR : RoomM K Cs B b G R w) (hI : InvK K Cs i R) (hM : ∀ w', Below B w w' -> TabsM w') (n : Nat) (hn : (R.con i).held.length <= n) :
 Calls Tryz.prog 24 #[.pointer (some ⟨b, 0, none⟩), .pointer (some ⟨b, o, none⟩)] w (RmQ K Cs B b G w (qY dlvR K i n R) (.tuple #[])) := by
 refine jox K Cs B b G _ w hR i o hi ho (fun R x y => jfI dlvR K (R.put i (ja7 (R.con i) y)) i x) (InvK K Cs i) hI (fun v hv => (hM v hv).2) (fun R' h => by have := h.1; omega) ?_ n hn; intro R' G' w' x y hI' hd hc hb' lb; obtain ⟨s, xs, l, e, hm, nD, hl, hK⟩ := hI'.2 hd; have hh := hI'.1; rw [e] at hc hh lb
 match xs, nD, hl, hc, hh with
 | [], _, _, hc, _ =>
   have hc : Lib.cut ([] : List UInt8) [13, 10] = (x, y, true) := hc; rw [jgv] at hc
   simp at hc
 | x' :: t, nD, hl, hc, hh =>
   obtain ⟨q1, q2, q3, q4⟩ := nD; have hK := hK.resolve_left (by simp); have hc : Lib.cut (jx (x' :: t)) [13, 10] = (x, y, true) := hc; have hh : (jx (x' :: t)).length <= 1000000 := hh; rw [je8 q1] at hc; obtain ⟨rfl, rfl⟩ : x' = x /\ jx t = y := by simpa using hc
   rw [show ja7 (lnsK s (jx (x' :: t)) l) (jx t) = lnsK s (jx t) l from rfl] at lb; simp only [e]; rw [show ja7 (lnsK s (jx (x' :: t)) l) (jx t) = lnsK s (jx t) l from rfl]; obtain ⟨R0, lc⟩ : ∃ R0, R0 = R'.put i (lnsK s (jx t) l) := ⟨_, rfl⟩; rw [<- lc] at lb ⊢; have hc0 : R0.con i = lnsK s (jx t) l := by rw [lc, jr]
   have xS : RomK Cs R0 := by rw [lc]; exact hK.put _ _
   have pM : (jx t).length <= 1000000 := by rw [jaG] at hh; simp at hh; omega
   have li := jnw hm K x'; have fW := jpi (js s K x'); rw [aI] at hl; have hlc : (l ++ coK (js s K x')).length <= l.length + 1 := by rw [aB]; omega
   obtain ⟨n1, sE⟩ : ∃ n1, n1 = js s K x' := ⟨_, rfl⟩; obtain ⟨R3, cB⟩ : ∃ R3, R3 = R0.put i (lnsK (js s K x').1 (jx t) (l ++ coK (js s K x'))) := ⟨_, rfl⟩; have e3 : R0.put i (lnC (R0.con i) (js s K x').1 (js s K x').2.1) = R3 := by rw [cB, hc0, jgO s _ (jx t) l (js s K x').2.1 (js s K x').2.2]
   have t3 : (R3.con i).told.length <= l.length + 1 := by rw [cB, jr]; exact hlc
   have hK3 : RomK Cs R3 := by rw [cB]; exact xS.put _ _
   rcases q3 with hz | ⟨sC, h5, z, hz, dI⟩
   . have h := jh2 K Cs B b G' R0 w' lb i o hi ho x' (by omega) s (js s K x').1 (by rw [hc0]; rfl) hm (js s K x').2.1 [] (by rw [<- hz]) (joK li) (by simp) (by rw [hc0]; show l.length + 1 <= _; omega) R3 [] false (by simp; omega)
        fun G4 w4 v hb4 cK hv => by
         obtain ⟨a, c, rfl⟩ := RowM.slice hv; refine (jl8 _ a c _ w4).mono ?_; rintro e w5 ⟨rfl, rfl⟩; exact ⟨_, G4, rfl, by rw [<- e3]; exact cK, Stp.refl _ _ _, jh _ _ _ _ _ _⟩
     have e4 : R3.put i (jbo (zi (R3.con i) [] false) (js s K x').1.step) = jfI dlvR K R0 i x' := by
        rw [jaQ hc0 hz, cB, jr, zv]; unfold zi jbC lnsK
        simp
     rw [e4] at h; refine ⟨?_, ?_, h⟩
     . rw [jaQ hc0 hz]; unfold jbo
       by_cases h5 : (js s K x').1.step = 5
       . rw [if_pos h5]; refine ⟨by rw [jr]; show (0 : Nat) <= _; omega, fun _ => ⟨atS 5, [], l ++ coK (js s K x'), by rw [jr]; rfl, by decide, trivial, by simp only [aJ]; omega, .inl rfl⟩⟩
       . rw [if_neg h5]; exact ⟨by rw [jr]; exact pM, fun _ => ⟨_, t, _, jr _ _ _, li, q4.resolve_left h5, by omega, .inr (xS.put _ _)⟩⟩
     . rw [jaQ hc0 hz, jr]; unfold jbo; split
       . show (0 : Nat) <= _; omega
       . exact ai _
   . obtain ⟨⟨fs, body, ff⟩, pz, hzl⟩ := dI; have B8 := jmW R3 z; have De : ((dlvR R3 z).1.con i).told.length <= l.length + 1 := by rw [jd5]; exact t3
     have h := jh2 K Cs B b G' R0 w' lb i o hi ho x' (by omega) s (js s K x').1 (by rw [hc0]; rfl) hm (js s K x').2.1 [z] (by rw [<- hz]) (joK li) (by simp) (by rw [hc0]; show l.length + 1 <= _; omega) (dlvR R3 z).1 [(dlvR R3 z).2.1] (dlvR R3 z).2.2 (by simp; omega)
        fun G4 w4 v hb4 cK hv => by
         rw [sC]; rw [e3] at cK; exact joa K Cs B b G4 _ w4 cK.lt.1 z v _ hv _ _ fun u hu => jiy K Cs B b G4 R3 u (cK.next hu) hK3 z fs body ff pz hzl (hM u ((hb'.trans hb4).trans (hu.mono (by have := cK.lt; omega))))
     have e4 : (dlvR R3 z).1.put i (jbo (zi ((dlvR R3 z).1.con i) [(dlvR R3 z).2.1] (dlvR R3 z).2.2) (js s K x').1.step) = jfI dlvR K R0 i x' := by
        rw [jar hc0 hz sC h5, <- cB]; unfold jbo; rw [if_neg h5]
     rw [e4] at h; refine ⟨?_, ?_, h⟩
     . rw [jar hc0 hz sC h5, <- cB]; have hc3 : (dlvR R3 z).1.con i = lnsK (js s K x').1 (jx t) (l ++ coK (js s K x')) := by rw [jd5, cB, jr]
       rw [hc3]
       rcases B8 with ⟨h1, h2⟩ | h2
       . rw [h1, h2]; unfold zi; rw [if_neg (by decide)]; refine ⟨by rw [jr]; exact pM, fun _ => ⟨(js s K x').1, t, l ++ coK (js s K x') ++ [452], by rw [jr]; rfl, li, q4.resolve_left h5, by rw [aB]; simp only [aI, aJ]; omega, .inr (hK3.put _ _)⟩⟩
       . rw [h2]; unfold zi; rw [if_pos rfl]; exact ⟨by rw [jr]; exact pM, fun h => by rw [jr] at h; simp [dueC] at h⟩
     . rw [jar hc0 hz sC h5, <- cB, jr, jd5, cB, jr]; unfold zi; split <;> exact ai _
def linK (i : Nat) (xs : List (List UInt8)) : Acu := ⟨1, i, 0, 0, jx xs, jpV⟩
theorem jmX (K : List (List UInt8)) (Cs : List (List Cmd)) (B b : Nat) (G : List Nat) (R : Rom) (w : World) (i : Nat) (hi : i < 3) (s : Ses) (xs : List (List UInt8)) (l : List Int) (hR : RoomM K Cs B b G (R.put i (lnsK s [] l)) w) (eV : R.up = true) (hK : RomK Cs R) (hm : mayS s = true) (nD : jaV K (if s.step = 5 then atS 0 else s) xs) (hne : xs ≠ [])
 (hl : l.length + 6 * xs.length <= 1000000) (hx : (jx xs).length <= 1000000) (hM : ∀ w', Below B w w' -> TabsM w') (n : Nat) (hn : (jx xs).length <= n) :
 Calls Tryz.prog 16 #[.pointer (some ⟨b, 0, none⟩), .agg (acuC (linK i xs)).toArray] w (RmQ K Cs B b G w (qY dlvR K i n (R.put i (lnsK (if s.step = 5 then atS 0 else s) (jx xs) l))) (.tuple #[])) := by
 have Ca : jx xs ≠ [] := by
  cases xs with
  | nil => exact absurd rfl hne
  | cons x t => rw [jaG]; simp
 refine jpp K Cs B b G (R.put i (lnsK s [] l)) w hR i (7 + i * 9) hi rfl (by rw [jp8]; exact eV) (linK i xs) rfl rfl Ca (by rw [jr]; show (0 : Nat) + (jx xs).length <= _; omega) _ fun G' w' hb' lb => ?_
 have e1 : (R.put i (lnsK s [] l)).put i (jda ((R.put i (lnsK s [] l)).con i) (linK i xs).data) = R.put i (lnsK (if s.step = 5 then atS 0 else s) (jx xs) l) := by
  rw [jr, zv]
  congr 1
  unfold jda
  by_cases h5 : s.step = 5
  . rw [if_pos h5, if_pos (show (lnsK s [] l).ses.step = 5 from h5)]; rfl
  . rw [if_neg h5, if_neg (show ¬ (lnsK s [] l).ses.step = 5 from h5)]; rfl
 rw [e1] at lb; have nC : mayS (if s.step = 5 then atS 0 else s) = true := by
  split
  . decide
  . exact hm
 exact jms K Cs B b G' _ w' i _ hi rfl lb ⟨by rw [jr]; exact hx, fun _ => ⟨_, xs, l, jr _ _ _, nC, nD, hl, .inr (hK.put _ _)⟩⟩ (fun v hv => hM v (hb'.trans hv)) n (by rw [jr]; exact hn)
theorem jaN (i : Nat) (hi : i < 3) (xs : List (List UInt8)) (hx : (jx xs).length <= 3000) (u : World) : Calls Tryz.prog 21 #[.agg (acuC (linK i xs)).toArray] u fun e u' => e = .returned (.int .i64 0) /\ Below u.heap.size u u' := by
 refine (jnL i 0 0 0 0 0 (jx xs) [] [] [] (by omega) u).mono ?_; rintro e u' ⟨⟨r, rfl, hA⟩, hb⟩; refine ⟨?_, hb⟩; have h0 : ActE 1 i 0 0 (jx xs) (entZ 0 0 0 [] [] []) 0 := by
  refine .inr ⟨by decide, .inr ⟨⟨fun _ => by omega, fun h => by omega, fun h => by omega⟩, .inr ⟨fun h => by omega, .inr ⟨⟨.inl rfl, .inr rfl, .inr ⟨rfl, rfl, rfl, rfl, rfl, rfl, rfl⟩⟩, rfl⟩⟩⟩⟩
 rw [jhs hA h0]
end Go.Proofs.YtjdkbdkimbgbfaaGreatDoor
