/-
  What an Append does to a store: the walk of do.
-/
import Derived.Test.YtjdkbdkimbgbfaaGreatDoorRQBkWz9
import Derived.Maps.AppendAt
import Derived.RegionTactic
import Derived.BigRegion
set_option maxHeartbeats 4000000
set_option maxRecDepth 100000
namespace Go.Proofs.YtjdkbdkimbgbfaaGreatDoor
open Go.RowKit Go.Proofs
variable {Cs : List (List Cmd)} {K t : List (List UInt8)} {l : List Bat} {x : List UInt8} {r : List UInt8 × Bool} {xs : List Value} {B b c g i k n p : Nat} {Q X : Nat -> Prop} {a : Option Addr} {s : Ses} {e : TypeId} {u v v5 : Value} {W w w' w3 : World}
theorem Sto.open {s : Stt} (h : Sto B p w s) : ∃ ab cb vs vm, w.heap[p]? = some (.cells #[.slice ab s.boxes.length cb, vs] 141) /\ OwnS B w (.slice ab s.boxes.length cb) vs vm s /\ ¬ inS (.slice ab s.boxes.length cb) vs vm p /\ B <= p := by
 obtain ⟨vb, vs, vm, hp, hO, hn, ni⟩ := h; obtain ⟨ab, cb, rfl⟩ := jz hO.boxes; exact ⟨ab, cb, vs, vm, hp, hO, hn, ni⟩
theorem jnH {ab : Option Addr} {cb : Nat} {vs : Value} {vm : List Value} {s : Stt} {b : Bx} (hO : OwnS B w (.slice ab s.boxes.length cb) vs vm s) (hb : s.boxes[i]? = some b) : ∃ g, ab = some ⟨g, 0, none⟩ := by
 obtain ⟨g, c, v, e, _⟩ := hO.box hb; simp only [aE] at e; exact ⟨g, e.1⟩
theorem DoP.int {r : Except Int Stt} {e : Ending} (h : DoP B p w r e w') : ∃ z, e = .returned (.int .i64 z) := by
 obtain ⟨_, h⟩ := h; cases r with
 | error z => exact ⟨z, h⟩
 | ok s => exact ⟨0, h.1⟩
theorem jkj {s : Stt} {x : Ent} (h : x.kind = 2) (hf : s.boxes.findIdx? (isName x.box) = some i) : doM s x = addM s i x.flags x.text := by unfold doM; rw [if_neg (by omega), if_neg (by omega), hf]; simp only [if_pos h]
theorem jmK {v0 v1 v2 v3 v4 : Value} {t : TypeId} (h : w.heap[p]? = some (.cells #[v0, v1, v2, v3, v4, v5] t)) : w.cell? ⟨p, 0, none⟩ = some v0 /\ w.cell? ⟨p, 1, none⟩ = some v1 /\ w.cell? ⟨p, 2, none⟩ = some v2 /\ w.cell? ⟨p, 3, none⟩ = some v3 /\ w.cell? ⟨p, 4, none⟩ = some v4 /\ w.cell? ⟨p, 5, none⟩ = some v5 := by
 refine ⟨?_, ?_, ?_, ?_, ?_, ?_⟩ <;> simp [World.cell?, h]
theorem jrn (B p : Nat) (s : Stt) (x : Ent) (w : World) (h : Sto B p w s) (hM : May s) (hF : Formed x) (hk : x.kind = 2) (i : Nat) (hf : s.boxes.findIdx? (isName x.box) = some i) :
 Calls Tryz.prog 66 #[.pointer (some ⟨p, 0, none⟩), .agg #[.int .i64 x.kind, .string (S x.box), .int .i64 x.uid, .int .i64 x.flags, .string (S x.goal), .string (S x.text)]] w (DoP B p w (doM s x)) := by
 obtain ⟨W1, hW1⟩ : ∃ W1, W1 = w.alloc (.cells #[.int .i64 x.kind, .string (S x.box), .int .i64 x.uid, .int .i64 x.flags, .string (S x.goal), .string (S x.text)] 32) := ⟨_, rfl⟩; have b9 := hid hW1; have hb1 : Below w.heap.size w W1 := by rw [hW1]; exact nb0 _ _
 have hX : W1.heap[w.heap.size]? = some (.cells #[.int .i64 x.kind, .string (S x.box), .int .i64 x.uid, .int .i64 x.flags, .string (S x.goal), .string (S x.text)] 32) := by rw [hW1]; exact az w _
 obtain ⟨x0, x1, x2, x3, x4, x5⟩ := jmK hX; have yN : p < w.heap.size := by obtain ⟨_, _, _, hp, _⟩ := h; exact (aj.1 hp).1
 have hS1 := h.next hb1; have cS : B <= w.heap.size := by obtain ⟨_, _, _, _, _, _, h4⟩ := h; omega
 have bX := hid (show Below B w W1 from hb1.mono cS); have hs1 : B <= W1.heap.size := by have := hb1.size; omega
 obtain ⟨r, hr⟩ : ∃ r, r = doM s x := ⟨_, rfl⟩; rw [<- hr]; rw [jkj hk hf] at hr; obtain ⟨ab, cb, vs, vm, hp, hO, hn, ni⟩ := hS1.open; obtain ⟨p0, p1, q0, q1⟩ := qf hp; have og := hO.stt (Q := fun _ => True) hM (fun _ _ => trivial); have mO := hid (jaZ s.boxes x.box ab cb W1.drew _ og.1); rw [jkG hf] at mO; obtain ⟨b, hb, _⟩ := jkw hf; obtain ⟨g, rfl⟩ := jnH hO hb; have hi : i < s.boxes.length := (au.1 hb).1; have i1 : (i : Int) < (s.boxes.length : Int) := by omega
 have i0 : (0 : Int) <= (i : Int) := by omega
 have HA := hid (fun u (hu : Below W1.heap.size W1 u) => jmG B p g cb i vs vm s b x.flags x.text u (vL hu hp) (hO.next hu) hn ni hb hM hF.text); have HR := hid hr; have c1 : (x.kind == 1) = false := by simp; omega
 have c6 : (x.kind == 6) = false := by simp; omega
 have c2 : (x.kind == 2) = true := by simp; omega
 clear h hM hF hk hf hr hW1 hb1 hX hS1 hp hO hn og hb; go_enter Tryz.func66, Tryz.ntmps66; go_upto_region 1 with fail
 rw [<- b9.out]; go_wp2
 go_cut [5] (fun v wx => v = .int .i64 ((i : Int)) /\ Below W1.heap.size W1 wx)
 case first =>
  go_region_held3 (fun w' => w'.cell? ⟨w.heap.size, 1, none⟩ = some (.string (S x.box)) /\ w'.cell? ⟨p, 0, none⟩ = some (.slice (some ⟨g, 0, none⟩) s.boxes.length cb)) (go_keep)
   (first
        | (go_at_call 97
           with_reducible refine mO.out.mono ?_
           rintro e w2 ⟨rfl, hb⟩; have hb2 : Below W1.heap.size W1 w2 := (ay _ _).drew.trans hb; have bY := hid hb2; have z1 := ja x1 hb2; have z0 := ja p0 hb2; clear hb hb2)
        | fail)
  all_goals
   go_wp2_with fail
   go_meet
   exact ⟨rfl, bY.out⟩
 case rest =>
  obtain ⟨rfl, ij⟩ := hcut; have y0 := ja p0 ij; have z0 := ja x0 ij; have z1 := ja x1 ij; have z2 := ja x2 ij; have z3 := ja x3 ij; have z4 := ja x4 ij; have z5 := ja x5 ij; have fO := hid (show Below B w wc from bX.out.trans (ij.mono hs1)); have lZ := hid (HA.out wc ij); clear ij; go_wp2_with fail; refine lZ.out.mono ?_; intro e w3 hd; obtain ⟨zz, rfl⟩ := hd.int; have HD := hid (DoP.trans fO.out hd); clear hd; simp only; go_wp2; go_ret; rw [HR.out]; exact HD.out
theorem jm3 {l : List Ent} (h : EntsM Q w v l) : EntsM (fun k => k < w.heap.size) w v l := by
 obtain ⟨a, c, h1, h2, h3⟩ := h; refine ⟨a, c, h1, h2, fun i x hx => ?_⟩; obtain ⟨b, o, cs, e, hb, _, h4, h5, h6⟩ := h3 i x hx; exact ⟨b, o, cs, e, hb, hb, h4, h5, h6⟩
theorem jiH {l : List Ent} (h : EntsM (fun k => k < B) w v l) (hb : Below B w w') : EntsM (fun k => k < B) w' v l := h.imp (fun _ h => h) (Keeps.of_below' hb fun _ h => h)
theorem jiY (n : Int) (w : World) : Calls Tryz.prog 43 #[.int .i64 n] w fun e w' => e = .returned (.bool (decide (0 <= n) && decide (n < 3))) /\ w' = w := by
 go_enter Tryz.func43, Tryz.ntmps43; go_wp2
 all_goals
  go_ret
  simp [*]
  try omega
theorem jjY (b : Bat) (a : Option Addr) (c : Nat) (Q : Nat -> Prop) (w : World) (h : BatOk b) (hE : EntsM Q w (.slice a b.ents.length c) b.ents) :
 Calls Tryz.prog 42 #[.agg #[.int .i64 b.user, .slice a b.ents.length c]] w fun e w' => e = .returned (.int .i64 0) /\ Below w.heap.size w w' := by
 obtain ⟨user, ents⟩ := b; obtain ⟨⟨u0, u1⟩, ⟨m0, m1⟩, he⟩ := h; simp only at *; have hU : (decide (0 <= user) && decide (user < 3)) = true := by simp [u0, u1]
 obtain ⟨W1, hW1⟩ : ∃ W1, W1 = w.alloc (.cells #[.int .i64 user, .slice a ents.length c] 106) := ⟨_, rfl⟩; have b9 := hid hW1; have bX := hid (show Below w.heap.size w W1 by rw [hW1]; exact nb0 _ _); have hp : W1.heap[w.heap.size]? = some (.cells #[.int .i64 user, .slice a ents.length c] 106) := by rw [hW1]; exact az w _
 obtain ⟨x0, x1, _, _⟩ := zj hp; have HE := hid (hE.next bX.out); have HF := hid he; have yE : ¬ (ents.length : Int) = 0 := by omega
 have sE : ¬ (10 : Int) < (ents.length : Int) := by omega
 have dt : ((ents.length : Int) == 0) = false := by
  rw [bA]; exact yE
 clear hE he hW1 hp; go_enter Tryz.func42, Tryz.ntmps42; go_wp2_with fail; rw [<- b9.out]; refine (jiY user W1).mono ?_; rintro e u ⟨rfl, hu⟩; have b6 := hu.symm; subst b6; rw [hU]; clear hu; go_wp2
 go_loopw [25] (fun v wr => ∃ k : Nat, k <= ents.length /\ v = .int .i64 k /\ Hid (Below W1.heap.size W1 wr)) (fun v _ => ents.length - (intOf v).toNat)
 case atStart => exact ⟨0, aQ _, rfl, ay _ _⟩
 case round =>
  obtain ⟨k, hk, rfl, HB⟩ := hrel
  by_cases hlt : k < ents.length
  . have k1 : (k : Int) < (ents.length : Int) := by omega
    have k0 : (0 : Int) <= (k : Int) := by omega
    obtain ⟨x, hx⟩ : ∃ x, ents[k]? = some x := ⟨_, aw hlt⟩; obtain ⟨b, o, rfl, _, e0, e1, e2, e3, e4, e5⟩ := (HE.out.next HB.out).at hx; have s6 := hid (HF.out x (aF hx)); clear hx; obtain ⟨W2, hW2⟩ : ∃ W2, W2 = wr.alloc (.cells #[.int .i64 x.kind, .string (S x.box), .int .i64 x.uid, .int .i64 x.flags, .string (S x.goal), .string (S x.text)] 32) := ⟨_, rfl⟩; have eB := hid hW2; have b7 : Below wr.heap.size wr W2 := by rw [hW2]; exact nb0 _ _
    have bY := hid (HB.out.trans (b7.mono HB.out.size)); have eA : W2.heap[wr.heap.size]? = some (.cells #[.int .i64 x.kind, .string (S x.box), .int .i64 x.uid, .int .i64 x.flags, .string (S x.goal), .string (S x.text)] 32) := by rw [hW2]; exact az wr _
    obtain ⟨y0, y1, y2, y3, y4, y5⟩ := jmK eA; clear hW2 b7 eA; go_upto_region 8 with fail
    rw [<- eB.out]; go_wp2_with fail; refine (jpx x W2 s6.out).mono ?_; rintro e w3 ⟨rfl, hb3⟩; have bZ := hid (bY.out.trans (hb3.mono bY.out.size)); clear hb3; go_wp2
    go_roundw
    case rel => first | exact ⟨k + 1, by omega, by go_num, bZ⟩ | ((repeat apply Exists.intro); exact ⟨⟨k + 1, by omega, by go_num, bZ⟩, rfl⟩)
    case measure => simp [intOf]; omega
  . have k1 : ¬ (k : Int) < (ents.length : Int) := by omega
    have HR := hid (bX.out.trans (HB.out.mono bX.out.size)); go_wp2; go_ret; exact ⟨rfl, HR.out⟩
theorem jiG {l : List Ent} {x : Ent} (h : l[k]? = some x) : zW (l.take (k + 1)) = zW (l.take k) ++ entB x := by
 have key : ∀ (l r : List Ent), zW (l ++ r) = zW l ++ zW r := by
  intro l r
  induction l with
  | nil => rfl
  | cons y l ih => simp only [bL, zW, ih, aH]
 have hk : k < l.length := (au.1 h).1; rw [aU hk, (au.1 h).2, key]
 simp [zW]
theorem jiF (l : List Ent) (k : Nat) : (zW (l.take k)).length <= (zW l).length := by
 have key : ∀ (l : List Ent) (k : Nat), (zW (l.take k)).length <= (zW l).length := by
  intro l
  induction l with
  | nil => intro k; simp [zW]
  | cons y l ih =>
    intro k; cases k with
    | zero => simp [zW]
    | succ k => simp only [List.take_succ_cons, zW, aB]; have := ih k; omega
 exact key l k
def jd6 (l : List Ent) (k : Nat) : List UInt8 := zW (l.take k)
theorem jjK (x : Bat) (hx : FitB x) (a : Option Addr) (c : Nat) (B b : Nat) (g : Option Nat) (l : List UInt8) (w : World) (hw : ByW B w b g l) (hl : l.length + (batB x).length <= 600000) (hE : EntsM (fun k => k < B) w (.slice a x.ents.length c) x.ents) :
 Calls Tryz.prog 167 #[.pointer (some ⟨b, 0, none⟩), .agg #[.int .i64 x.user, .slice a x.ents.length c]] w (WnP B b g w (l ++ batB x)) := by
 obtain ⟨user, ents⟩ := x; obtain ⟨⟨u0, u1⟩, hm, hf⟩ := hx; simp only at *; obtain ⟨un, rfl⟩ : ∃ un : Nat, user = (un : Int) := ⟨user.toNat, by omega⟩; have gS := hid (show batB ⟨(un : Int), ents⟩ = beB un 1 ++ (beB ents.length 1 ++ zW ents) by unfold batB; simp); have rK := hid (show l.length + (zW ents).length <= 600000 by have := hl; rw [gS.out] at this; simp only [aB, zn] at this; omega); obtain ⟨W1, hW1⟩ : ∃ W1, W1 = w.alloc (.cells #[.int .i64 un, .slice a ents.length c] 106) := ⟨_, rfl⟩; have b9 := hid hW1; have b8 : Below w.heap.size w W1 := by rw [hW1]; exact nb0 _ _
 have hp : W1.heap[w.heap.size]? = some (.cells #[.int .i64 un, .slice a ents.length c] 106) := by rw [hW1]; exact az w _
 have nU := hid (show w.heap.size ≠ b by have := hw.lt; omega); have o6 := hid (show g ≠ some w.heap.size from fun e => by have := hw.row _ e; omega); have HP := hid hp; have n8 := hid (hw.next b8); have dB := hid (show Wro b g g w W1 from Wro.of b8); have HE := hid hE; have BH := hid hw; have HF := hid hf; have HL := hid (show l.length <= 600000 by omega); obtain ⟨c0, _, _, _⟩ := zj hp; clear hw hW1 b8 hp hE hf u0 u1 hl; go_enter Tryz.func167, Tryz.ntmps167; go_wp2_with fail; rw [<- b9.out]; refine (qw un 1 B b g l W1 n8.out (by decide) (by have := HL.out; omega)).mono ?_; rintro e w2 ⟨rfl, g2, lW, hx2⟩; have dN := hid (hx2.obj n8.out HP.out nU.out o6.out); have iy := hid (hx2.stay (aj.1 HP.out).1 o6.out); obtain ⟨_, c1, _, _⟩ := zj dN.out; have ec := hid (dB.out.trans hx2); have i7 := hid lW; clear lW hx2 c0; go_wp2_with fail; refine (qw ents.length 1 B b g2 (l ++ beB un 1) w2 i7.out (by decide) (by have := HL.out; rw [aB, zn]; omega)).mono ?_; rintro e w3 ⟨rfl, g3, lX, hx3⟩; have kS := hid (hx3.obj i7.out dN.out nU.out iy.out); obtain ⟨_, d1, _, _⟩ := zj kS.out; have fq := hid (ec.out.trans hx3); have lB := hid (show ByW B w3 b g3 (l ++ (beB un 1 ++ beB ents.length 1)) by simpa only [aH] using lX); have HH := hid (show (beB un 1 ++ beB ents.length 1).length = 2 by simp [zn]); have fO := hid (show batB ⟨(un : Int), ents⟩ = (beB un 1 ++ beB ents.length 1) ++ zW ents by rw [gS.out]; simp); generalize beB un 1 ++ beB ents.length 1 = hd at *; clear lX hx3 c1; go_wp2
 go_loopw [18] (fun v wr => ∃ (k : Nat) (g9 : Option Nat), k <= ents.length /\ v = .int .i64 k /\ Hid (ByW B wr b g9 (l ++ (hd ++ jd6 ents k))) /\ Hid (Wro b g g9 w wr)) (fun v _ => ents.length - (intOf v).toNat)
 case atStart => exact ⟨0, g3, aQ _, rfl, by simpa [jd6, zW] using lB, fq⟩
 case round =>
  obtain ⟨k, g9, hk, rfl, HY, HX⟩ := hrel
  by_cases hlt : k < ents.length
  . have k1 : (k : Int) < (ents.length : Int) := by omega
    have k0 : (0 : Int) <= (k : Int) := by omega
    obtain ⟨x, hx⟩ : ∃ x, ents[k]? = some x := ⟨_, aw hlt⟩; have HS := hid (show jd6 ents (k + 1) = jd6 ents k ++ entB x from jiG hx); have s6 := hid (HF.out x (aF hx)); obtain ⟨bb, o, rfl, _, e0, e1, e2, e3, e4, e5⟩ := (jiH HE.out (HX.out.low BH.out)).at hx; have AX := hid (show (l ++ (hd ++ jd6 ents k)).length <= 700000 by
        have h1 : (jd6 ents k).length <= (zW ents).length := jiF ents k; have h2 := rK.out; have h3 := HH.out; simp only [aB]; omega)
    clear hx; obtain ⟨W4, dr⟩ : ∃ W4, W4 = wr.alloc (.cells #[.int .i64 x.kind, .string (S x.box), .int .i64 x.uid, .int .i64 x.flags, .string (S x.goal), .string (S x.text)] 32) := ⟨_, rfl⟩; have iZ := hid dr; have cf : Below wr.heap.size wr W4 := by rw [dr]; exact nb0 _ _
    have kg : W4.heap[wr.heap.size]? = some (.cells #[.int .i64 x.kind, .string (S x.box), .int .i64 x.uid, .int .i64 x.flags, .string (S x.goal), .string (S x.text)] 32) := by rw [dr]; exact az wr _
    obtain ⟨y0, y1, y2, y3, y4, y5⟩ := jmK kg; have ua := hid (HY.out.next cf); have ft := hid (HX.out.trans (Wro.of cf)); have BD := hid (jos x s6.out B b g9 (l ++ (hd ++ jd6 ents k)) W4 ua.out AX.out); clear dr cf kg; go_upto_region 6 with fail
    rw [<- iZ.out]; go_wp2_with fail; refine BD.out.mono ?_; rintro e w5 ⟨rfl, g5, iI, kG⟩; have i5 := hid (ft.out.trans kG); have lC := hid (show ByW B w5 b g5 (l ++ (hd ++ jd6 ents (k + 1))) by rw [HS.out]; simpa only [aH] using iI); clear iI kG; go_wp2
    go_roundw
    case rel => first | exact ⟨k + 1, g5, by omega, by go_num, lC, i5⟩ | ((repeat apply Exists.intro); exact ⟨⟨k + 1, g5, by omega, by go_num, lC, i5⟩, rfl⟩)
    case measure => simp [intOf]; omega
  . have k1 : ¬ (k : Int) < (ents.length : Int) := by omega
    have HR := hid (show WnP B b g w (l ++ batB ⟨(un : Int), ents⟩) (.returned (.tuple #[])) wr from ⟨rfl, g9, by rw [fO.out]; have h := HY.out; unfold jd6 at h; rw [aV (by omega)] at h; exact h, HX.out⟩); go_wp2; go_end0; exact HR.out
def EncP (w : World) (l : List UInt8) (er : Int) (e : Ending) (w' : World) : Prop := ∃ a c, e = .returned (.tuple #[.slice a l.length c, .int .i64 er]) /\ w'.ownsRow w.heap.size 5 1 (.slice a l.length c) l.length (byC l) /\ Below w.heap.size w w'
theorem jkn (b : Bat) (a : Option Addr) (c : Nat) (Q : Nat -> Prop) (w : World) (h : BatOk b) (hE : EntsM Q w (.slice a b.ents.length c) b.ents) :
 Calls Tryz.prog 125 #[.agg #[.int .i64 b.user, .slice a b.ents.length c]] w (EncP w (batB b) 0) := by
 have eh := h.fit; have hlen := h.len; obtain ⟨W1, hW1⟩ : ∃ W1, W1 = w.alloc (.cells #[.int .i64 b.user, .slice a b.ents.length c] 106) := ⟨_, rfl⟩; have b9 := hid hW1; have bX := hid (show Below w.heap.size w W1 by rw [hW1]; exact nb0 _ _); have hp : W1.heap[w.heap.size]? = some (.cells #[.int .i64 b.user, .slice a b.ents.length c] 106) := by rw [hW1]; exact az w _
 obtain ⟨x0, x1, _, _⟩ := zj hp; have HP := hid hp; have HE := hid (hE.next bX.out); have HC := hid (jjY b a c Q W1 h HE.out); have nL := hid eh; have eo := hid hlen; clear hE h hW1 hp eh hlen; go_enter Tryz.func125, Tryz.ntmps125; go_wp2_with fail; rw [<- b9.out]; refine HC.out.mono ?_; rintro e w2 ⟨rfl, hb2⟩; obtain ⟨W3, hW3⟩ : ∃ W3, W3 = w2.alloc (.cells #[.slice none 0 0] 209) := ⟨_, rfl⟩; have cM := hid hW3; have cy : Below w2.heap.size w2 W3 := by rw [hW3]; exact nb0 _ _
 have eK : Below W1.heap.size W1 W3 := hb2.trans (cy.mono hb2.size); have df : W3.heap[w2.heap.size]? = some (.cells #[.slice none 0 0] 209) := by rw [hW3]; exact az w2 _
 obtain ⟨y0, y1, _, _⟩ := zj (qJ eK HP.out); have lB := hid (show ByW w2.heap.size W3 w2.heap.size none [] from ⟨none, 0, df, rfl, by simp, ai _, aR _ _ _ _⟩); have Az := hid (show EntsM (fun k => k < w2.heap.size) W3 (.slice a b.ents.length c) b.ents from (jm3 (HE.out.next hb2)).imp (fun _ h => h) (Keeps.of_below cy)); have tV := hid (jjK b nL.out a c w2.heap.size w2.heap.size none [] W3 lB.out (by have := eo.out; simp; omega) Az.out); have bY := hid (bX.out.trans (hb2.mono bX.out.size)); have bZ := hid (bX.out.trans (eK.mono bX.out.size)); clear hW3 cy eK df hb2; go_upto_region 5 with fail
 rw [<- cM.out]; go_wp2_with fail; refine tV.out.mono ?_; rintro e w4 ⟨rfl, g4, mF, iH⟩; have hb4 : Below w2.heap.size W3 w4 := iH.low lB.out; obtain ⟨a4, c4, h1, _, _, _, h5⟩ := mF; simp only [bM] at h1 h5; have z0 : w4.cell? ⟨w2.heap.size, 0, none⟩ = some (.slice a4 (batB b).length c4) := by simp [World.cell?, h1]
 have HR := hid (show EncP w (batB b) 0 (.returned (.tuple #[.slice a4 (batB b).length c4, .int .i64 0])) w4 from ⟨a4, c4, rfl, jgg h5 bY.out.size, bZ.out.trans (hb4.mono bY.out.size)⟩); clear h1 h5 hb4 iH; go_wp2; go_ret2; exact HR.out
def RdB (w : World) (b : Nat) (r : List UInt8 × Bool) : Prop := ∃ v, w.heap[b]? = some (.cells #[v, .bool r.2] 173) /\ BysM (fun k => k < b) w v r.1
theorem RdB.lt (h : RdB w b r) : b < w.heap.size := by
 obtain ⟨v, h, _⟩ := h; exact (aj.1 h).1
theorem RdB.next {w w' : World} {b : Nat} {r : List UInt8 × Bool} (h : RdB w b r) (hb : Below w.heap.size w w') : RdB w' b r := by
 obtain ⟨v, h1, h2⟩ := h; exact ⟨v, qJ hb h1, h2.next hb⟩
theorem But.obj {o : Obj} (h : But b w w') (hp : w.heap[p]? = some o) (hn : p ≠ b) : w'.heap[p]? = some o := (h.block p (aj.1 hp).1 hn).trans hp
theorem RdB.far (h : RdB w b r) (hb : Below (b + 1) w w') : RdB w' b r := by
 obtain ⟨v, h1, h2⟩ := h; exact ⟨v, (hb.block b (by omega)).trans h1, h2.imp (fun _ h => h) fun k _ hk => hb.block k (by omega)⟩
def ReP (b : Nat) (w : World) (x : Ent × (List UInt8 × Bool)) (e : Ending) (w' : World) : Prop := e = .returned (.agg #[.int .i64 x.1.kind, .string (S x.1.box), .int .i64 x.1.uid, .int .i64 x.1.flags, .string (S x.1.goal), .string (S x.1.text)]) /\ RdB w' b x.2 /\ But b w w'
theorem low6 (W : World) (v0 v1 v2 v3 v4 v5 : Value) (hp : B <= p) : Below B W ((((((W.setCell ⟨p, 0, none⟩ v0).setCell ⟨p, 1, none⟩ v1).setCell ⟨p, 2, none⟩ v2).setCell ⟨p, 3, none⟩ v3).setCell ⟨p, 4, none⟩ v4).setCell ⟨p, 5, none⟩ v5) := by
 have h0 := (ay B W).setCell (p := ⟨p, 0, none⟩) hp v0; have h1 := h0.setCell (p := ⟨p, 1, none⟩) hp v1; have h2 := h1.setCell (p := ⟨p, 2, none⟩) hp v2; have h3 := h2.setCell (p := ⟨p, 3, none⟩) hp v3; have h4 := h3.setCell (p := ⟨p, 4, none⟩) hp v4; exact h4.setCell (p := ⟨p, 5, none⟩) hp v5
theorem ReP.fin {k u f : Int} {B0 B1 B2 : List UInt8} {R : List UInt8 × Bool} {y : Ent × (List UInt8 × Bool)} (hy : y = (⟨k, B0, u, f, B1, B2⟩, R)) (hr : RdB W b R) (hu : But b w W) (hb : b < w.heap.size) :
 ReP b w y (.returned (.agg #[.int .i64 k, .string (S B0), .int .i64 u, .int .i64 f, .string (S B1), .string (S B2)])) ((((((W.setCell ⟨w.heap.size, 0, none⟩ (.int .i64 k)).setCell ⟨w.heap.size, 1, none⟩ (.string (S B0))).setCell ⟨w.heap.size, 2, none⟩ (.int .i64 u)).setCell ⟨w.heap.size, 3, none⟩ (.int .i64 f)).setCell ⟨w.heap.size, 4, none⟩ (.string (S B1))).setCell ⟨w.heap.size, 5, none⟩ (.string (S B2))) := by
 subst hy; have h := low6 (B := w.heap.size) W (.int .i64 k) (.string (S B0)) (.int .i64 u) (.int .i64 f) (.string (S B1)) (.string (S B2)) (ai _); exact ⟨rfl, hr.far (h.mono (by omega)), h.os.trans hu.os, h.tape.trans hu.tape, h.output.trans hu.output, aN hu.size h.size, fun q hq hn => (h.block q hq).trans (hu.block q hq hn)⟩
def btC (b : Bat) (v : Value) : List Value := [.int .i64 b.user, v]
def BatM (Q : Nat -> Prop) (w : World) (b : Bat) (cs : List Value) : Prop := ∃ a c, cs = btC b (.slice a b.ents.length c) /\ EntsM Q w (.slice a b.ents.length c) b.ents
def BatsM (Q : Nat -> Prop) (w : World) (v : Value) (l : List Bat) : Prop := RowM Q 2 (BatM Q w) w v l
theorem BatM.imp {Q Q' : Nat -> Prop} {w w' : World} {b : Bat} {cs : List Value} (h : BatM Q w b cs) (hq : ∀ b, Q b -> Q' b) (hk : Keeps Q w w') : BatM Q' w' b cs := by
 obtain ⟨a, c, e, h⟩ := h; exact ⟨a, c, e, h.imp hq hk⟩
theorem BatsM.imp {Q Q' : Nat -> Prop} {w w' : World} {v : Value} {l : List Bat} (h : BatsM Q w v l) (hq : ∀ b, Q b -> Q' b) (hk : Keeps Q w w') : BatsM Q' w' v l := RowM.imp h hq hk fun _ _ h => h.imp hq hk
theorem BatsM.next (h : BatsM Q w v l) (hb : Below w.heap.size w w') : BatsM Q w' v l := h.imp (fun _ h => h) (Keeps.of_below hb)
theorem BatsM.at (h : BatsM Q w (.slice a n c) l) {x : Bat} (hx : l[i]? = some x) : ∃ b o ae ce, a = some ⟨b, o, none⟩ /\ w.cell? ⟨b, o + i * 2, none⟩ = some (.int .i64 x.user) /\ w.cell? ⟨b, o + i * 2 + 1, none⟩ = some (.slice ae x.ents.length ce) /\ EntsM Q w (.slice ae x.ents.length ce) x.ents := by
 obtain ⟨a', c', hv, _, hr⟩ := h; simp only [aE] at hv; obtain ⟨rfl, _, rfl⟩ := hv; obtain ⟨b, o, cs, rfl, _, _, _, hc, ae, ce, hcs, hm⟩ := hr i x hx; subst hcs; exact ⟨b, o, ae, ce, rfl, by simpa using hc 0 _ rfl, hc 1 _ rfl, hm⟩
theorem BatsM.take {Q : Nat -> Prop} {w : World} {a : Option Addr} {n c : Nat} {l : List Bat} (h : BatsM Q w (.slice a n c) l) {k : Nat} (hk : k <= l.length) (c' : Nat) : BatsM Q w (.slice a k c') (l.take k) := by
 obtain ⟨a', c'', hv, hm, hr⟩ := h; simp only [aE] at hv; obtain ⟨rfl, _, rfl⟩ := hv; have hl : (l.take k).length = k := by rw [bp]; omega
 refine ⟨a, c', by rw [hl], by omega, fun i x hx => ?_⟩; have hi : i < k := by have := (au.1 hx).1; omega
 exact hr i x (by rw [List.getElem?_take_of_lt hi] at hx; exact hx)
def btCs : List Bat -> List Value -> List (List Value)
 | b :: r, v :: vs => btC b v :: btCs r vs
 | _, _ => []
def OwnBs (B : Nat) (X : Nat -> Prop) (w : World) (v : Value) (l : List Bat) : Prop := ∃ vs : List Value, vs.length = l.length /\ w.ownsRow B 106 2 v l.length (btCs l vs).flatten /\ ∀ (i : Nat) b u, l[i]? = some b -> vs[i]? = some u -> ∃ a c, u = .slice a b.ents.length c /\ EntsM (fun k => some k ≠ v.ownBlock /\ X k) w u b.ents
theorem OwnBs.nil (B : Nat) (X : Nat -> Prop) (w : World) : OwnBs B X w (.slice none 0 0) [] := ⟨[], rfl, aR _ _ _ _, fun i b u h => by simp at h⟩
theorem OwnBs.keep (h : OwnBs B X w v l) (hb : Below w.heap.size w w') : OwnBs B X w' v l := by
 obtain ⟨vs, h1, h2, h3⟩ := h; refine ⟨vs, h1, vE h2 fun g hg => hb.block g (aA h2 g hg).2, fun i b u hb' hu => ?_⟩; obtain ⟨a, c, e, h⟩ := h3 i b u hb' hu; exact ⟨a, c, e, h.next hb⟩
theorem OwnBs.but {r : Nat} (h : OwnBs B X w v l) (hb : But r w w') (hr : r < B) (hX : ∀ k, X k -> k ≠ r) : OwnBs B X w' v l := by
 obtain ⟨vs, h1, h2, h3⟩ := h; refine ⟨vs, h1, vM h2 hb hr, fun i b u hb' hu => ?_⟩; obtain ⟨a, c, e, h⟩ := h3 i b u hb' hu; exact ⟨a, c, e, h.imp (fun _ h => h) (Keeps.of_but hb fun k hk => hX k hk.2)⟩
theorem jpe {l : List UInt8} (h : BysM Q w v l) : BysM (fun k => k < w.heap.size) w v l := by
 obtain ⟨a, c, h1, h2, h3, h4⟩ := h; refine ⟨a, c, h1, h2, h3, fun j x hx => ?_⟩; obtain ⟨b, o, e, _, hc⟩ := h4 j x hx; exact ⟨b, o, e, aG w _ hc, hc⟩
theorem new3 (w : World) (o1 o2 o3 : Obj) : (((w.alloc o1).alloc o2).alloc o3).heap[w.heap.size]? = some o1 /\ (((w.alloc o1).alloc o2).alloc o3).heap[w.heap.size + 1]? = some o2 /\ (((w.alloc o1).alloc o2).alloc o3).heap[w.heap.size + 2]? = some o3 := by
 refine ⟨?_, ?_, ?_⟩
 . rw [Below.heap_alloc _ _ _ (by simp; omega)]; exact (jeJ w o1 o2).1
 . rw [Below.heap_alloc _ _ _ (by simp)]; exact (jeJ w o1 o2).2
 . have := az ((w.alloc o1).alloc o2) o3
   simpa using this
theorem low3 (w : World) (o1 o2 o3 : Obj) : Below w.heap.size w (((w.alloc o1).alloc o2).alloc o3) := (jmf w o1 o2).alloc (by simp; omega) _
theorem jjX (a : Option Addr) (c : Nat) (l : List UInt8) (s : Int) (b : Bat) (ae : Option Addr) (ce : Nat) (Q Q' : Nat -> Prop) (w : World) (h : BysM Q w (.slice a l.length c) l) (hm : mayN l.length s = true) (hb : BatOk b) (hE : EntsM Q' w (.slice ae b.ents.length ce) b.ents) (eh : l.length + (frB b).length <= 100000) :
 Calls Tryz.prog 81 #[.agg #[.slice a l.length c, .int .i64 s], .agg #[.int .i64 b.user, .slice ae b.ents.length ce]] w (TpP w (l ++ frB b) s 0) := by
 obtain ⟨W1, hW1⟩ : ∃ W1, W1 = ((w.alloc (.cells #[.slice a l.length c, .int .i64 s] 68)).alloc (.cells #[.int .i64 b.user, .slice ae b.ents.length ce] 106)).alloc (.cells #[.slice none 0 0, .int .i64 0] 68) := ⟨_, rfl⟩; have b9 := hid hW1; have b8 : Below w.heap.size w W1 := by rw [hW1]; exact low3 _ _ _ _
 have hN := new3 w (.cells #[.slice a l.length c, .int .i64 s] 68) (.cells #[.int .i64 b.user, .slice ae b.ents.length ce] 106) (.cells #[.slice none 0 0, .int .i64 0] 68); rw [<- hW1] at hN; obtain ⟨wE, hb1, hr1⟩ := hN; have bX := hid b8; have eW := hid wE; have gS := hid hb1; have cC := hid hr1; have di := hid (h.next b8); have dG := hid (hE.next b8); have HM := hid hm; have nT := hid hb; have Cb := jd9 b; have hbl : l.length + 3 + (batB b).length <= 100000 := by omega
 obtain ⟨x0, x1, _, _⟩ := zj wE; obtain ⟨X, hX⟩ : ∃ X, X = batB b := ⟨_, rfl⟩; have i6 := hid (show l ++ beB X.length 3 ++ X = l ++ frB b by unfold frB; rw [hX]; simp only [aH]); have mD : l.length + 3 + X.length <= 100000 := by rw [hX]; exact hbl
 have fR := hid (fun (u : World) (hu : Below W1.heap.size W1 u) => jkn b ae ce _ u nT.out (dG.out.next hu)); rw [<- hX] at fR; obtain ⟨Z, hZ⟩ : ∃ Z, Z = l ++ frB b := ⟨_, rfl⟩; rw [<- hZ] at i6 ⊢; clear h hE hW1 b8 wE hb1 hr1 hm hb eh Cb hbl hX hZ; go_enter Tryz.func81, Tryz.ntmps81; go_wp2_with fail; rw [<- b9.out]; refine (jeH a l.length c s W1).mono ?_; rintro e w2 ⟨rfl, hb2⟩; rw [HM.out]; have bY := hid hb2; obtain ⟨y0, y1, _, _⟩ := zj (qJ hb2 gS.out); have oM := hid (fR.out w2 hb2); clear hb2 x0 x1; go_wp2_with fail; refine oM.out.mono ?_; rintro e w3 ⟨a3, c3, rfl, dC, hb3⟩; have lF : Below W1.heap.size W1 w3 := bY.out.trans (hb3.mono bY.out.size); have bZ := hid lF; have fq := hid (show BysM (fun k => k < w3.heap.size) w3 (.slice a3 X.length c3) X from jpe (jlq (Q := fun _ => True) dC rfl (by unfold maxLen; omega) fun _ _ => trivial)); obtain ⟨z0, z1, _, _⟩ := zj (qJ lF eW.out); have iO := hid (jhC a c l _ w3 (di.out.next lF) (by omega)); have hg1 : ¬ (100000 : Int) < ((l.length : Nat) : Int) + 3 + ((X.length : Nat) : Int) := by omega
 clear dC hb3 lF y0 y1 fR oM; go_wp2_with fail; refine iO.out.mono ?_; rintro e w4 ⟨a4, c4, rfl, iF, hb4⟩; obtain ⟨W5, cQ⟩ : ∃ W5, W5 = w4.alloc (.cells #[.slice a4 l.length c4] 209) := ⟨_, rfl⟩; have tW := hid cQ; have dx : Below w4.heap.size w4 W5 := by rw [cQ]; exact nb0 _ _
 have fM : W5.heap[w4.heap.size]? = some (.cells #[.slice a4 l.length c4] 209) := by rw [cQ]; exact az w4 _
 have sL := hid (show Below w3.heap.size w3 W5 from hb4.trans (dx.mono hb4.size)); have lC := hid (show ByW w3.heap.size W5 w4.heap.size (Value.slice a4 l.length c4).ownBlock l from ⟨a4, c4, fM, rfl, fun e => by have := (aA iF _ e).2; omega, hb4.size, vE iF fun g hg => dx.block g (aA iF g hg).2⟩); have tB := hid (qw X.length 3 w3.heap.size w4.heap.size _ l W5 lC.out (by decide) (by omega)); clear iF hb4 cQ dx fM iO hg1; go_upto_region 9 with fail
 rw [<- tW.out]; go_wp2_with fail; refine tB.out.mono ?_; rintro e w6 ⟨rfl, g6, fN, hx6⟩; have oh : Below w3.heap.size W5 w6 := hx6.low lC.out; have mK := hid (show Below w3.heap.size w3 w6 from sL.out.trans oh); obtain ⟨a6, c6, h1, h2, h3, h4, h5⟩ := fN; have Dv : (l ++ beB X.length 3).length + X.length <= 100000 := by rw [aB, zn]; omega
 generalize l ++ beB X.length 3 = q6 at *; have d0 : w6.cell? ⟨w4.heap.size, 0, none⟩ = some (.slice a6 q6.length c6) := by simp [World.cell?, h1]
 have e0 : w6.frozen? ⟨w4.heap.size, 0, none⟩ = false := by simp [World.frozen?, h1]
 have H1 := hid h1; have H2 := hid h2; have H3 := hid h3; have H5 := hid h5; have fv := hid (aj.1 h1).1; have iC := hid (show BysM (fun k => k < w3.heap.size) w6 (.slice a3 X.length c3) X from fq.out.imp (fun _ h => h) fun k _ hk => mK.out.block k hk); have wD : w3.heap.size <= w6.heap.size := mK.out.size; clear h1 h2 h3 h5 hx6 oh
 go_wp2_with (at_builtin; refine jbF rfl _ _ rfl rfl H5.out rfl iC.out ?qc1 ?qc2 wD ?_)
 case qc1 => unfold maxLen; omega
 case qc2 => omega
 intro a7 c7 w7 hown hgrow hrow; obtain ⟨g7, nI, wL⟩ := ByW.append (s := X) H1.out H2.out H3.out h4 fv.out hown hgrow (fun k hk => by rw [<- H2.out]; exact hrow k hk); have z6 : w7.frozen? ⟨w4.heap.size, 0, none⟩ = false := (bq (w := w6) (hgrow.block w4.heap.size fv.out fun e => H3.out (H2.out.symm.trans e.symm))).trans e0; have z7 : w7.cell? ⟨w4.heap.size, 0, none⟩ = some (.slice a6 q6.length c6) := (aP (w := w6) (hgrow.block w4.heap.size fv.out fun e => H3.out (H2.out.symm.trans e.symm))).trans d0; rw [i6.out] at nI; obtain ⟨W8, uG⟩ : ∃ W8, W8 = w7.setCell ⟨w4.heap.size, 0, none⟩ (.slice a7 (q6.length + X.length) c7) := ⟨_, rfl⟩; have tX := hid uG; rw [<- uG] at nI wL; have rA : ByW w3.heap.size w6 w4.heap.size g6 q6 := ⟨a6, c6, H1.out, H2.out, H3.out, h4, H5.out⟩; have pF : Below w3.heap.size w6 W8 := wL.low rA; have sM := hid (show Below w3.heap.size w3 W8 from mK.out.trans pF); obtain ⟨a8, c8, k1, k2, k3, k4, k5⟩ := nI; have m0 : W8.cell? ⟨w4.heap.size, 0, none⟩ = some (.slice a8 Z.length c8) := by simp [World.cell?, k1]
 have oY := hid k5; have mJ := hid (show Below W1.heap.size W1 W8 from bZ.out.trans (sM.out.mono bZ.out.size)); obtain ⟨t0, t1, _, _⟩ := zj (qJ mJ.out eW.out); have ww := qJ mJ.out cC.out; obtain ⟨r0, r1, u0, u1⟩ := zj ww; obtain ⟨s0, s1, _, _⟩ := zj (jj0 (u0 := .slice a8 Z.length c8) (u1 := .int .i64 s) ww); have HE := hid (show TpP w Z s 0 (.returned (.tuple #[.agg #[.slice a8 Z.length c8, .int .i64 s], .int .i64 0])) ((W8.setCell ⟨w.heap.size + 2, 0, none⟩ (.slice a8 Z.length c8)).setCell ⟨w.heap.size + 2, 1, none⟩ (.int .i64 s)) by
  have dw : w.heap.size + 2 < W1.heap.size := (aj.1 cC.out).1; have hw3 := bZ.out.size; refine ⟨a8, c8, rfl, ?_, ((bX.out.trans (mJ.out.mono bX.out.size)).setCell (Nat.le_add_right _ _) _).setCell (Nat.le_add_right _ _) _⟩; refine jgg (B := w3.heap.size) (vE oY.out fun g hg => ?_) (by omega); have := (aA oY.out g hg).1; exact (qK (by omega)).trans (qK (by omega)))
 clear hown hgrow hrow wL pF k1 k2 k3 k5 ww uG rA d0 z0 z1; go_upto_region 11 with fail
 rw [<- tX.out]; go_wp2; refine aD (v := .tuple #[.agg #[.slice a8 Z.length c8, .int .i64 s], .int .i64 0]) (by simp [results, Tryz.results81, go_sem, *]) rfl ?_; exact HE.out
def addR (R : Rom) (u : Nat) (b : Bat) (s : Stt) : Rom := jli (stR (jdi R (R.tape ++ frB b) R.tsyn) (R.states.set u s)) R.syn (R.waits + 1)
def AdT (W : World) (t : List UInt8) (s : Int) (p q : Value) (wx : World) : Prop := ∃ (T : Nat) (a : Option Addr) (c : Nat), p = .pointer (some ⟨T, 0, none⟩) /\ q = .int .i64 0 /\ W.heap.size <= T /\ wx.heap[T]? = some (.cells #[.slice a t.length c, .int .i64 s] 68) /\ wx.ownsRow W.heap.size 5 1 (.slice a t.length c) t.length (byC t) /\ Below W.heap.size W wx
theorem AdT.old {t : List UInt8} {s : Int} {P : Nat} {u0 u1 : Value} (hP : W.heap.size <= P) (hb : w3.heap[P]? = some (.cells #[u0, u1] 68)) (ho : w3.ownsRow W.heap.size 5 1 (.slice a t.length c) t.length (byC t)) (hn : ∀ g, (Value.slice a t.length c).ownBlock = some g -> g ≠ P) (hB : Below W.heap.size W w3) :
 AdT W t s (.pointer (some ⟨P, 0, none⟩)) (.int .i64 0) ((w3.setCell ⟨P, 0, none⟩ (.slice a t.length c)).setCell ⟨P, 1, none⟩ (.int .i64 s)) :=
 ⟨P, a, c, rfl, rfl, hP, by
  have h1 := aM w3 P 0 _ _ (.slice a t.length c) hb; have h2 := aM _ P 1 _ _ (.int .i64 s) h1
  simpa using h2, jf ho fun g hg => (aC _ _ _ _ (hn g hg)).trans (aC _ _ _ _ (hn g hg)), (hB.setCell hP _).setCell hP _⟩
theorem AdT.new {t : List UInt8} {s : Int} (ho : w3.ownsRow W.heap.size 5 1 (.slice a t.length c) t.length (byC t)) (hB : Below W.heap.size W w3) :
 AdT W t s (.pointer (some ⟨w3.heap.size, 0, none⟩)) (.int .i64 0) (w3.alloc (.cells #[.slice a t.length c, .int .i64 s] 68)) :=
 ⟨w3.heap.size, a, c, rfl, rfl, hB.size, az _ _, aO ho _, hB.alloc hB.size _⟩
theorem jnE {B' : Nat} (h : w.ownsRow B' e k v n xs) (hB : B <= B') : w.ownsRow B e k v n xs := ⟨h.1, h.2.imp id fun ⟨g, cap, cur, hv, hb, r⟩ => ⟨g, cap, cur, hv, aN hB hb, r⟩⟩
theorem jK {j : Nat} (h : w.cell? ⟨c, i, none⟩ = some u) (hne : c ≠ b) : (w.setCell ⟨b, j, none⟩ v).cell? ⟨c, i, none⟩ = some u :=
 (aL w _ _ _ (fun e => hne (by cases e; rfl))).trans h
theorem jnl (K : List (List UInt8)) (Cs : List (List Cmd)) (B b : Nat) (G : List Nat) (R : Rom) (w : World) (hR : RoomM K Cs B b G R w) (u : Nat) (hu : u < 3) (h3 : R.states.length = 3) (l : List Ent) (yn : BatOk ⟨u, l⟩) (ae : Option Addr) (ce : Nat) (Q' : Nat -> Prop) (hE : EntsM Q' w (.slice ae l.length ce) l) (s' : Stt) (vb vs : Value) (hS : SttM (AvN B b G) w vb vs s') (hm : mayN R.tape.length R.tsyn = true) (eh : R.tape.length + (frB ⟨u, l⟩).length <= 100000) (CN : R.waits < 8) (hw0 : 0 <= R.waits) :
 Calls Tryz.prog 53 #[.pointer (some ⟨b, 1, none⟩), .agg #[.int .i64 u, .slice ae l.length ce], .agg #[vb, vs]] w (RmQ K Cs B b G w (addR R u ⟨u, l⟩ s') (.int .i64 0)) := by
 obtain ⟨ab, cb, rfl⟩ := RowM.slice hS.1; obtain ⟨aq, cq, rfl⟩ := RowM.slice hS.2.1; obtain ⟨W1, hW1⟩ : ∃ W1, W1 = (w.alloc (.cells #[.int .i64 u, .slice ae l.length ce] 106)).alloc (.cells #[(.slice ab s'.boxes.length cb), (.slice aq s'.spool.length cq)] 44) := ⟨_, rfl⟩; have b8 : Below w.heap.size w W1 := by rw [hW1]; exact (nb0 _ _).alloc (by simp) _
 have ut : W1.heap[w.heap.size]? = some (.cells #[.int .i64 u, .slice ae l.length ce] 106) := by rw [hW1, Below.heap_alloc _ _ _ (by simp)]; exact az _ _
 have r7 : W1.heap[w.heap.size + 1]? = some (.cells #[(.slice ab s'.boxes.length cb), (.slice aq s'.spool.length cq)] 44) := by
  rw [hW1]; have := az (w.alloc (.cells #[.int .i64 u, .slice ae l.length ce] 106)) (.cells #[(.slice ab s'.boxes.length cb), (.slice aq s'.spool.length cq)] 44)
  simpa using this
 have cz := hR.next b8; obtain ⟨at_, ct, vf, _, _, _, c1, c2, _, c4, _, _, hT, _⟩ := cz.ledger; obtain ⟨s0, hs0⟩ : ∃ s0, R.states[u]? = some s0 := ⟨_, aw (by omega)⟩; have hlt := hR.lt.1; have hz1 : w.heap.size + 1 < W1.heap.size := (aj.1 r7).1; have i1 : ¬ (8 : Int) <= R.waits := by omega
 have mH := hid (fun (x : World) (hx : Below W1.heap.size W1 x) => show Calls Tryz.prog 81 #[.agg #[.slice at_ R.tape.length ct, .int .i64 R.tsyn], .agg #[.int .i64 u, .slice ae l.length ce]] x (TpP x (R.tape ++ frB ⟨u, l⟩) R.tsyn 0) from jjX at_ ct R.tape R.tsyn ⟨u, l⟩ ae ce _ _ x (hT.next hx) hm yn (hE.next (b8.trans (hx.mono b8.size))) eh); have cC := hid cz; have HR := hid hR; have bX := hid b8; have rN := hid ut; have kR := hid r7; have HS := hid hS; have iW := hid hs0; have H3 := hid h3; have sZ := hid eh; have kW := hid hw0; obtain ⟨Z, hZ⟩ : ∃ Z, Z = R.tape ++ frB ⟨u, l⟩ := ⟨_, rfl⟩; rw [<- hZ] at mH; have xz := hid hZ; have b9 := hid hW1; obtain ⟨x0, x1, _, _⟩ := qf ut; have lx := hid (show (W1.alloc (.cells #[.slice none 0 0, .int .i64 0] 68)).drew.heap.size = W1.heap.size + 1 from by show (W1.alloc _).heap.size = _; simp); have om : b ≠ W1.heap.size := by omega
 have DE : w.heap.size ≠ W1.heap.size := by omega
 have pI : b ≠ w.heap.size := by omega
 clear hR hE yn hS hm eh CN hw0 hW1 b8 ut r7 cz hT hs0 h3 hZ; go_enter Tryz.func53, Tryz.ntmps53; go_upto_region 1 with fail
 rw [<- b9.out]; go_upto_region 3 with fail
 go_cut [7, 8] (fun p q wx => AdT W1 Z R.tsyn p q wx)
 case first =>
  go_region_held3 (fun w' => w'.cell? ⟨b, 1, none⟩ = some (.slice at_ R.tape.length ct) /\ w'.cell? ⟨b, 2, none⟩ = some (.int .i64 R.tsyn) /\ w'.cell? ⟨w.heap.size, 0, none⟩ = some (.int .i64 u) /\ w'.cell? ⟨w.heap.size, 1, none⟩ = some (.slice ae l.length ce)) (first | go_keep | (refine ⟨?_, ?_, ?_, ?_⟩ <;> exact jK (jK (by assumption) (by assumption)) (by assumption)))
   (first
        | (go_at_call 81
           with_reducible refine (mH.out _ (ay W1.heap.size W1).drew).mono ?_
           rintro e w2 ⟨a2, c2', rfl, gM, hb2⟩; have bY := hid (show Below W1.heap.size W1 w2 from ((ay _ _).drew).trans hb2); have b7 := bY.out; have dQ := hid (show w2.ownsRow W1.heap.size 5 1 (.slice a2 Z.length c2') Z.length (byC Z) from gM); have m0 := ja c1 b7; have m1 := ja c2 b7; have m2 := ja x0 b7; have m3 := ja x1 b7; have gn : b ≠ w2.heap.size := by have := b7.size; omega
           have Dt : w.heap.size ≠ w2.heap.size := by have := b7.size; omega
           clear gM hb2 b7)
        | (go_at_call 81
           with_reducible refine (mH.out _ ((ay W1.heap.size W1).alloc (ai _) _).drew).mono ?_
           rintro e w2 ⟨a2, c2', rfl, gM, hb2⟩; have bY := hid (show Below W1.heap.size W1 w2 from (((ay W1.heap.size W1).alloc (ai _) _).drew).trans (hb2.mono (by rw [lx.out]; omega))); have b7 := bY.out; have cY := hid (fun (g : Nat) (hg : (Value.slice a2 Z.length c2').ownBlock = some g) => show g ≠ W1.heap.size from fun e => by have h := (aA gM g hg).1; rw [lx.out] at h; omega); have dQ := hid (show w2.ownsRow W1.heap.size 5 1 (.slice a2 Z.length c2') Z.length (byC Z) from jnE gM (by rw [lx.out]; omega)); have eI := hid (show w2.heap[W1.heap.size]? = some (.cells #[.slice none 0 0, .int .i64 0] 68) from (hb2.block _ (by rw [lx.out]; omega)).trans (az W1 _)); have m0 := ja c1 b7; have m1 := ja c2 b7; have m2 := ja x0 b7; have m3 := ja x1 b7; obtain ⟨y0, y1, f0, f1⟩ := qf eI.out; clear gM hb2 b7))
  all_goals
   first
        | (have HE := hid (AdT.old (W := W1) (P := W1.heap.size) (s := R.tsyn) (ai _) eI.out dQ.out cY.out bY.out)
           go_wp2_with fail
           go_meet
           exact HE.out)
        | (have HE := hid (AdT.new (W := W1) (s := R.tsyn) dQ.out bY.out)
           go_wp2_with fail
           go_meet
           exact HE.out)
 case rest =>
  obtain ⟨T, a2, c2', rfl, rfl, se, ld, eL, b7⟩ := hcut; have uy := cC.out.next b7; have hlc := cC.out.lt; obtain ⟨WT, pE⟩ : ∃ WT, WT = (wc.setCell ⟨b, 1, none⟩ (.slice a2 Z.length c2')).setCell ⟨b, 2, none⟩ (.int .i64 R.tsyn) := ⟨_, rfl⟩; have fX : Z.length <= maxLen := by rw [xz.out, aB]; have := sZ.out; unfold maxLen; omega
  have pD : RmS K Cs B b G (jdi R Z R.tsyn) wc WT := by
   rw [pE]; exact uy.setTape R.tsyn (H := W1.heap.size) eL hlc.1 (fun k hk _ => ⟨by omega, jbd cC.out hk⟩) fX
  obtain ⟨g, cg, vb0, vs0, e6, e0, e1, _, hgb, ip, dD, _⟩ := uy.stater (s := s0) H3.out hu iW.out; obtain ⟨g', cg', _, _, d6, _, _, _, _, _, nv, hst⟩ := pD.1.stater (s := s0) H3.out hu iW.out; obtain ⟨rfl, rfl⟩ : g = g' /\ cg = cg' := by
   have h := d6; rw [pE] at h; rw [aL _ _ _ _ (fun e => by cases e), aL _ _ _ _ (fun e => by cases e), e6] at h; simp only [aS, aE, Addr.mk.injEq, and_true, true_and] at h; exact h
  obtain ⟨WS, sj⟩ : ∃ WS, WS = (WT.setCell ⟨g, u * 2, none⟩ (.slice ab s'.boxes.length cb)).setCell ⟨g, u * 2 + 1, none⟩ (.slice aq s'.spool.length cq) := ⟨_, rfl⟩; have uC : RmS K Cs B b G (stR (jdi R Z R.tsyn) (R.states.set u s')) WT WS := by
   rw [sj]; refine hst (.slice ab s'.boxes.length cb) (.slice aq s'.spool.length cq) s' ?_; exact (HS.out.stp (Stp.of (bX.out.trans (b7.mono bX.out.size)))).stp pD.2
  have oe := (b7.block _ (aj.1 rN.out).1).trans rN.out; have pA := (b7.block _ (aj.1 kR.out).1).trans kR.out; have uT : g < w.heap.size := by
   obtain ⟨g0, cg0, _, _, q6, _, _, _, _, q, _⟩ := HR.out.stater (s := s0) H3.out hu iW.out; have q6' := ja q6 (bX.out.trans (b7.mono bX.out.size)); rw [e6] at q6'; simp only [aS, aE, Addr.mk.injEq, and_true, true_and] at q6'; omega
  obtain ⟨y0, y1, _, _⟩ := qf ld; obtain ⟨z0, z1, _, _⟩ := qf oe; obtain ⟨n0, n1, _, _⟩ := qf pA; have bT : T ≠ b := by omega
  have bP : w.heap.size ≠ b := by omega
  have bN : w.heap.size + 1 ≠ b := by omega
  have gT : T ≠ g := by omega
  have gP : w.heap.size ≠ g := by omega
  have gN : w.heap.size + 1 ≠ g := by omega
  have gb : b ≠ g := Ne.symm hgb; have xi := hid (show WT.cell? ⟨b, 6, none⟩ = some (.slice (some ⟨g, 0, none⟩) 3 cg) /\ WT.cell? ⟨w.heap.size, 0, none⟩ = some (.int .i64 u) /\ WT.cell? ⟨T, 0, none⟩ = some (.slice a2 Z.length c2') /\ WT.cell? ⟨T, 1, none⟩ = some (.int .i64 R.tsyn) /\ WT.cell? ⟨w.heap.size + 1, 0, none⟩ = some (.slice ab s'.boxes.length cb) /\ WT.cell? ⟨w.heap.size + 1, 1, none⟩ = some (.slice aq s'.spool.length cq) by
   refine ⟨d6, ?_⟩; rw [pE]; exact ⟨jK (jK z0 bP) bP, jK (jK y0 bT) bT, jK (jK y1 bT) bT, jK (jK n0 bN) bN, jK (jK n1 bN) bN⟩)
  have AS := hid (show WS.cell? ⟨b, 6, none⟩ = some (.slice (some ⟨g, 0, none⟩) 3 cg) /\ WS.cell? ⟨w.heap.size, 0, none⟩ = some (.int .i64 u) /\ WS.cell? ⟨T, 0, none⟩ = some (.slice a2 Z.length c2') /\ WS.cell? ⟨T, 1, none⟩ = some (.int .i64 R.tsyn) /\ WS.cell? ⟨w.heap.size + 1, 0, none⟩ = some (.slice ab s'.boxes.length cb) /\ WS.cell? ⟨w.heap.size + 1, 1, none⟩ = some (.slice aq s'.spool.length cq) by
   rw [sj]; obtain ⟨k6, kz, ky, ky', kn, kn'⟩ := xi.out; exact ⟨jK (jK k6 gb) gb, jK (jK kz gP) gP, jK (jK ky gT) gT, jK (jK ky' gT) gT, jK (jK kn gN) gN, jK (jK kn' gN) gN⟩)
  have pk := hid pE; have xx := hid sj; have nK := hid (show RmS K Cs B b G (stR (jdi R Z R.tsyn) (R.states.set u s')) w WS from ⟨uC.1, (Stp.of (bX.out.trans (b7.mono bX.out.size))).trans (pD.2.trans uC.2)⟩); have l6 := hid (show RmS K Cs B b G (stR (jdi R Z R.tsyn) (R.states.set u s')) w WS.drew from ⟨nK.out.1.next (ay _ _).drew, nK.out.2.trans (.of (ay _ _).drew)⟩); have r1 := ja c1 b7; have r2 := ja c2 b7; have f1 := (cC.out.next b7).frz 1; have f2 := (cC.out.next b7).frz 2; have t1 := pD.1.frz 4; have t0 : ((wc.setCell ⟨b, 1, none⟩ (.slice a2 Z.length c2')).setCell ⟨b, 2, none⟩ (.int .i64 R.tsyn)).cell? ⟨g, u * 2, none⟩ = some vb0 := jK (jK e0 hgb) hgb; have t2 : ((wc.setCell ⟨b, 1, none⟩ (.slice a2 Z.length c2')).setCell ⟨b, 2, none⟩ (.int .i64 R.tsyn)).cell? ⟨g, u * 2 + 1, none⟩ = some vs0 := jK (jK e1 hgb) hgb; have i0' : ((wc.setCell ⟨b, 1, none⟩ (.slice a2 Z.length c2')).setCell ⟨b, 2, none⟩ (.int .i64 R.tsyn)).frozen? ⟨g, u * 2, none⟩ = false := by rw [<- pk.out]; exact nv _
  have i1' : ((wc.setCell ⟨b, 1, none⟩ (.slice a2 Z.length c2')).setCell ⟨b, 2, none⟩ (.int .i64 R.tsyn)).frozen? ⟨g, u * 2 + 1, none⟩ = false := by rw [<- pk.out]; exact nv _
  have k1 : (u : Int) < 3 := by omega
  have k0 : (0 : Int) <= (u : Int) := by omega
  clear uy hlc pD hst uC oe pA ld eL dD nv pE sj d6 c1 c2 c4 x0 x1 fX; go_upto_region 6 with fail
  go_cut [] (fun wx => RmS K Cs B b G (stR (jdi R Z R.tsyn) (R.states.set u s')) w wx)
  case first =>
   go_region_held3 (fun w' => w'.cell? ⟨b, 6, none⟩ = some (.slice (some ⟨g, 0, none⟩) 3 cg) /\ w'.cell? ⟨w.heap.size, 0, none⟩ = some (.int .i64 u) /\ w'.cell? ⟨T, 0, none⟩ = some (.slice a2 Z.length c2') /\ w'.cell? ⟨T, 1, none⟩ = some (.int .i64 R.tsyn) /\ w'.cell? ⟨w.heap.size + 1, 0, none⟩ = some (.slice ab s'.boxes.length cb) /\ w'.cell? ⟨w.heap.size + 1, 1, none⟩ = some (.slice aq s'.spool.length cq)) (first | (rw [<- pk.out, <- xx.out]; exact AS.out) | (rw [<- pk.out]; exact xi.out) | go_keep) (fail)
   all_goals
        go_wp2_with fail
        go_meet
        rw [<- pk.out, <- xx.out]; exact l6.out
  case rest =>
   obtain ⟨W9, rfl⟩ : ∃ W, W = wc := ⟨_, rfl⟩; obtain ⟨nl, oB⟩ := hcut; have r4 : W9.cell? ⟨b, 4, none⟩ = some (.int .i64 R.waits) := by
        obtain ⟨_, _, _, _, _, _, _, _, _, r4, _, _, _, _⟩ := nl.ledger; exact r4
   have z4 := nl.frz 4; have hw := nl.setWaits (R.waits + 1); have hwr : IntKind.i64.wrap (R.waits + 1) = R.waits + 1 := by rw [IntKind.wrap_i64]; have := kW.out; omega
   have HQ := hid (show RmQ K Cs B b G w (addR R u ⟨u, l⟩ s') (.int .i64 0) (.returned (.int .i64 0)) (W9.setCell ⟨b, 4, none⟩ (.int .i64 (R.waits + 1))) from by
        unfold addR; rw [<- xz.out]; exact ⟨rfl, G, hw.1, oB.trans hw.2⟩)
   clear nl oB hw r1 r2 f1 f2 t1 t0 t2 i0' i1' y0 y1 z0 z1 n0 n1 e6 e0 e1; go_wp2; go_ret; exact HQ.out
def inbS : Stt := ⟨[⟨[73, 78, 66, 79, 88], 1, []⟩], []⟩
def con0 : Con := ⟨atS 0, [], [], []⟩
def rom0 : Rom := ⟨true, [], 0, 0, 0, [inbS, inbS, inbS], [inbS, inbS, inbS], con0, con0, con0, [[], [], []], []⟩
theorem jjI {g' : Nat} {c c' : Array Value} {t t' : TypeId} {f f' : Nat × Nat} (h : w.heap[g]? = some (.cells c t f)) (h' : w.heap[g']? = some (.cells c' t' f')) (hne : t ≠ t') : g ≠ g' := fun e => by
 subst e; rw [h] at h'; cases h'; exact hne rfl
theorem qQ (h : w.ownsRow B e k v n xs) (hg : v.ownBlock = some g) : ∃ cur, w.heap[g]? = some (.cells cur e (0, 0)) := by
 rcases h.2 with ⟨rfl, _⟩ | ⟨g', cap, cur, rfl, _, h', _⟩
 . cases hg
 . cases hg; exact ⟨cur, h'⟩
theorem jnX {A : Type} {P : A -> List Value -> Prop} {vs : List Value} {ls : List A} (h : RowM Q 1 (fun x cs => cs = [x]) w v vs) (hl : vs.length = ls.length) (hx : ∀ (i : Nat) x l, vs[i]? = some x -> ls[i]? = some l -> P l [x]) : RowM Q 1 P w v ls := by
 obtain ⟨a, c, hv, hm, hr⟩ := h; refine ⟨a, c, by rw [<- hl]; exact hv, by rw [<- hl]; exact hm, fun i l hi => ?_⟩; have hi' : i < vs.length := by rw [hl]; exact (au.1 hi).1
 obtain ⟨b, o, cs, h1, h2, h3, h4, h5, h6⟩ := hr i vs[i] (aw hi'); exact ⟨b, o, cs, h1, h2, h3, h4, h5, by rw [h6]; exact hx i _ l (aw hi') hi⟩
theorem jpB (h : w.heap[b]? = some (.cells #[.string ⟨#[73, 78, 66, 79, 88]⟩, .int .i64 1, .slice none 0 0] 40)) (hQ : Q b) : SttM Q w (.slice (some ⟨b, 0, none⟩) 1 1) (.slice none 0 0) inbS := by
 refine ⟨⟨some ⟨b, 0, none⟩, 1, rfl, by unfold maxLen; decide, fun i x hx => ?_⟩, jh _ _ _ _ _ _, fun a n c e => by cases e; exact ai _⟩
 match i, hx with
 | 0, hx =>
   cases hx; refine ⟨b, 0, boxC ⟨[73, 78, 66, 79, 88], 1, []⟩ (.slice none 0 0), rfl, (aj.1 h).1, hQ, rfl, fun j u hj => ?_, _, rfl, jh _ _ _ _ _ _⟩; have hl : j < 3 := (au.1 hj).1; simp only [World.cell?, h]
   match j, hl, hj with
   | 0, _, hj => cases hj; rfl
   | 1, _, hj => cases hj; rfl
   | 2, _, hj => cases hj; rfl
 | n + 1, hx => simp [inbS] at hx
theorem jfm (bs : List Nat) : inbC bs = (bs.map fun b => [Value.slice (some ⟨b, 0, none⟩) 1 1, .slice none 0 0]).flatten := by
 simp [inbC, List.flatMap_def]
theorem RoomM.of_open {W1 : World} {v6 v36 : Value} {L : List (List UInt8)} (h1 : RmB W1 b (jfM v5 v6 (.slice none 0 0) (.slice none 0 0) v36)) (hb : W.heap.size <= b) (hL : LdN W1 W.heap.size v5 v6) (hO : OwO W1 W.heap.size v36) (hI : RoI W1 W.heap.size b v5 v6 v36 L Cs w') (hW : W.heap.size <= W1.heap.size) (BT : L.length <= 10) (C3 : Cs.length <= 10) :
 ∃ G, RoomM L Cs W.heap.size b G rom0 w' := by
 obtain ⟨bs, hbl, ss, h5, h6, hap⟩ := hL; obtain ⟨v34, v35, X, hX, hM, hS, hT⟩ := hI; have keep : ∀ k o, W1.heap[k]? = some o -> k ≠ b -> w'.heap[k]? = some o := fun k o hk hn => (hT.block k (aj.1 hk).1 ⟨hn, by simp⟩).trans hk
 have far5 : ∀ g, v5.ownBlock = some g -> g ≠ b := fun g hg => by obtain ⟨c, h⟩ := qQ h5 hg; exact jjI h h1.1 (by decide)
 have far6 : ∀ g, v6.ownBlock = some g -> g ≠ b := fun g hg => by obtain ⟨c, h⟩ := qQ h6 hg; exact jjI h h1.1 (by decide)
 have farO : ∀ g, v36.ownBlock = some g -> g ≠ b := fun g hg => by obtain ⟨c, h⟩ := qQ hO hg; exact jjI h h1.1 (by decide)
 have k5 : w'.ownsRow W.heap.size 44 2 v5 3 (inbC bs) := jf h5 fun g hg => by obtain ⟨c, h⟩ := qQ h5 hg; rw [keep g _ h (far5 g hg), h]
 have k6 : w'.ownsRow W.heap.size 44 2 v6 3 (inbC bs) := jf h6 fun g hg => by obtain ⟨c, h⟩ := qQ h6 hg; rw [keep g _ h (far6 g hg), h]
 have kO : w'.ownsRow W.heap.size 123 1 v36 3 [.slice none 0 0, .slice none 0 0, .slice none 0 0] := jf hO fun g hg => by obtain ⟨c, h⟩ := qQ hO hg; rw [keep g _ h (farO g hg), h]
 have gn : ∀ q ∈ bs, q ≠ b /\ w'.heap[q]? = some (.cells #[.string ⟨#[73, 78, 66, 79, 88]⟩, .int .i64 1, .slice none 0 0] 40) := fun q hq => by
  have hn : q ≠ b := jjI (ss q hq).2 h1.1 (by decide); exact ⟨hn, keep q _ (ss q hq).2 hn⟩
 obtain ⟨V, hV⟩ : ∃ V : Vals, V = ⟨.slice none 0 0, v5, v6, v34, v35, v36, .slice none 0 0, ⟨.slice none 0 0, .slice none 0 0, .slice none 0 0⟩, ⟨.slice none 0 0, .slice none 0 0, .slice none 0 0⟩, ⟨.slice none 0 0, .slice none 0 0, .slice none 0 0⟩, [.slice none 0 0, .slice none 0 0, .slice none 0 0], bs.map fun b => (.slice (some ⟨b, 0, none⟩) 1 1, .slice none 0 0)⟩ := ⟨_, rfl⟩; have hG : mB (j2 rom0 V) = v6.ownBlock.toList ++ v36.ownBlock.toList := by
  subst hV; simp only [j2, jbl, jak, rom0, con0, intR, sttR, ordR]
  simp [mB, Value.ownBlock, List.range, List.range.loop]
 have inG : ∀ g, g ∈ mB (j2 rom0 V) -> v6.ownBlock = some g ∨ v36.ownBlock = some g := fun g hg => by rw [hG] at hg; simpa using hg
 have ty6 : ∀ g, g ∈ mB (j2 rom0 V) -> ∃ c t, w'.heap[g]? = some (.cells c t (0, 0)) /\ (t = 44 ∨ t = 123) /\ g < W1.heap.size := fun g hg => by
  rcases inG g hg with h | h
  . obtain ⟨c, hc⟩ := qQ k6 h; exact ⟨c, _, hc, .inl rfl, (aA h6 g h).2⟩
  . obtain ⟨c, hc⟩ := qQ kO h; exact ⟨c, _, hc, .inr rfl, (aA hO g h).2⟩
 have avT : ∀ {g : Nat} {c : Array Value} {t : TypeId} {f : Nat × Nat}, w'.heap[g]? = some (.cells c t f) -> g ≠ b -> t ≠ 44 -> t ≠ 123 -> Av b (mB (j2 rom0 V)) g := fun {g c t f} hg hn h1 h2 => ⟨hn, fun e => by
  obtain ⟨c', t', h', ht, _⟩ := ty6 g e; rw [hg] at h'; cases h'
  rcases ht with h | h
  . exact h1 h
  . exact h2 h⟩
 have avN : ∀ k, AvN W1.heap.size b (mB [locR v34 L, scrR v35 X]) k -> AvN W.heap.size b (mB (j2 rom0 V)) k := fun k hk => ⟨aN hW hk.1, hk.2.1, fun e => by
  obtain ⟨_, _, _, _, h⟩ := ty6 k e; have := hk.1; omega⟩
 refine ⟨mB (j2 rom0 V), V, rfl, hb, ?_, ⟨?_, ?_, ?_, hM.lt⟩, ?_⟩
 . subst hV; exact hX
 . subst hV; intro r hr; simp only [j2, rom0, con0, List.range, List.range.loop, List.map_cons, List.map_nil, bL, bM, bV, bW, or_false] at hr
   rcases hr with rfl | rfl | rfl | rfl | rfl | rfl | rfl | rfl | rfl
   . exact aR _ _ _ _
   . exact aR _ _ _ _
   . exact aR _ _ _ _
   . exact aR _ _ _ _
   . have := k6; rw [jfm] at this
     simpa [sttR, hbl, Function.comp_def] using this
   . exact kO
   . exact aR _ _ _ _
   . exact aR _ _ _ _
   . exact aR _ _ _ _
 . rw [hG]; refine List.nodup_append.2 ⟨by cases v6.ownBlock <;> simp, by cases v36.ownBlock <;> simp, fun g h g' h' e => ?_⟩; subst e; obtain ⟨c, hc⟩ := qQ k6 (by simpa using h); obtain ⟨c', hc'⟩ := qQ kO (by simpa using h'); exact jjI hc hc' (by decide) rfl
 . intro e
   rcases inG b e with h | h
   . exact far6 b h rfl
   . exact farO b h rfl
 . have hc0 : ConM (AvN W.heap.size b (mB (j2 rom0 V))) w' con0 ⟨.slice none 0 0, .slice none 0 0, .slice none 0 0⟩ := ⟨jh _ _ _ _ _ _, fun a n c e => by cases e; exact ai _, jh _ _ _ _ _ _⟩; have wg : TxtsM (AvN W.heap.size b (mB (j2 rom0 V))) w' v34 L := jan (f := fun l => .string (S l)) (hM.own (locR v34 L) (by simp)) (by unfold maxLen; omega) fun g hg => by
    obtain ⟨c, h⟩ := qQ (hM.own (locR v34 L) (by simp)) hg; exact ⟨(aA (hM.own (locR v34 L) (by simp)) g hg).1, avT h (fun e => hM.far (bu.2 ⟨locR v34 L, by simp, by rw [<- e]; exact hg⟩)) (show (9 : TypeId) ≠ 44 by decide) (show (9 : TypeId) ≠ 123 by decide)⟩
   have CI : RowM (AvN W.heap.size b (mB (j2 rom0 V))) 1 (fun x cs => cs = [x]) w' v35 X := jan (f := fun x => x) (by simpa [scrR] using hM.own (scrR v35 X) (by simp)) (by rw [hS.1]; unfold maxLen; omega) fun g hg => by
    obtain ⟨c, h⟩ := qQ (hM.own (scrR v35 X) (by simp)) hg; exact ⟨(aA (hM.own (scrR v35 X) (by simp)) g hg).1, avT h (fun e => hM.far (bu.2 ⟨scrR v35 X, by simp, by rw [<- e]; exact hg⟩)) (show (94 : TypeId) ≠ 44 by decide) (show (94 : TypeId) ≠ 123 by decide)⟩
   have hsc : RowM (AvN W.heap.size b (mB (j2 rom0 V))) 1 (ScrV (AvN W.heap.size b (mB (j2 rom0 V))) w') w' v35 Cs := jnX CI hS.1 fun i x C h1 h2 => by
    obtain ⟨C', a, c, e1, e2, e3, e4⟩ := hS.2 i x h1; rw [h2] at e1; cases e1; subst e2; exact ⟨a, c, rfl, e3, RowM.imp e4 avN (Keeps.refl _ _) fun _ _ hx => CmdM.imp avN (Keeps.refl _ _) _ _ _ hx⟩
   have hb1 : ∀ (i : Nat) q, bs[i]? = some q -> SttM (AvN W.heap.size b (mB (j2 rom0 V))) w' (.slice (some ⟨q, 0, none⟩) 1 1) (.slice none 0 0) inbS := fun i q hq => by
    have h := gn q (aF hq); exact jpB h.2 ⟨(ss q (aF hq)).1, avT h.2 h.1 (by decide) (by decide)⟩
   have h3 : ∀ (i : Nat) s, [inbS, inbS, inbS][i]? = some s -> s = inbS := fun i s h => by
    have := aF h
    simpa using this
   have lR : RowM (AvN W.heap.size b (mB (j2 rom0 V))) 2 (SttV (AvN W.heap.size b (mB (j2 rom0 V))) w') w' v5 [inbS, inbS, inbS] := jao (css := bs.map fun b => [Value.slice (some ⟨b, 0, none⟩) 1 1, .slice none 0 0]) (by rw [<- jfm]; exact k5) rfl (by unfold maxLen; decide) (by simp [hbl]) (fun cs hcs => by
        obtain ⟨q, _, rfl⟩ := bE.1 hcs; rfl) (fun i s cs hs hcs => by
        rw [ba] at hcs; cases hq : bs[i]? with
        | none => rw [hq] at hcs; cases hcs
        | some q =>
          rw [hq] at hcs; cases hcs; rw [h3 i s hs]; exact ⟨_, _, rfl, hb1 i q hq⟩) fun g hg => ⟨(aA k5 g hg).1, far5 g hg, fun e => by
        rcases inG g e with h | h
        . exact hap g hg h
        . obtain ⟨c, hc⟩ := qQ k5 hg; obtain ⟨c', hc'⟩ := qQ kO h; exact jjI hc hc' (by decide) rfl⟩
   subst hV; exact ⟨hc0, hc0, hc0, wg, hsc, lR, ⟨by simp [hbl, rom0], fun i s x hs hx => by
    rw [ba] at hx; cases hq : bs[i]? with
    | none => rw [hq] at hx; cases hx
    | some q =>
      rw [hq] at hx; cases hx; rw [h3 i s hs]; exact hb1 i q hq⟩, ⟨rfl, rfl⟩, BysM.nil _ _ _ _⟩
def jas (gs : List F) (body : List UInt8) (k : Nat) : List UInt8 := jaj (gs.drop k) ++ ([13, 10] ++ body)
theorem jcM (g : F) (l : List F) (r : List UInt8) : jaj (g :: l) ++ r = vq g ++ [13, 10] ++ (jaj l ++ r) := by simp [jaj]
theorem jjh (gs : List F) (body : List UInt8) (w : World) (h : ∀ g ∈ gs, rawB g = true) (hl : gs.length <= 30) (hz : (jas gs body 0).length <= 2000) (hm : maxLenCell w) :
 Calls Tryz.prog 266 #[.string (S (jas gs body 0))] w fun e w' => (∃ a c, e = .returned (.tuple #[.agg #[.slice a gs.length c, .string (S body)], .int .i64 0, .int .i64 0])) /\ Below w.heap.size w w' := by
 have dc : Below w.heap.size w (w.alloc (.cells #[.slice none 0 0, .string ⟨#[]⟩] 319)) := nb0 _ _; have kl : ¬ (2000 : Int) < ((S (jas gs body 0)).size : Int) := by rw [jb]; omega
 have HL := hid (show ∀ k, k <= gs.length -> (jas gs body k).length <= 2000 from fun k hk => by
  unfold jas at hz ⊢; rw [List.drop_zero] at hz; have e : jaj gs = jaj (gs.take k) ++ jaj (gs.drop k) := by
   conv => lhs; rw [<- List.take_append_drop k gs]
   simp only [jaj, bK, List.flatten_append]
  rw [e] at hz; simp only [aB] at hz ⊢; omega)
 have H2 := hid (show ∀ g ∈ gs, (vq g).length <= 2000 from fun g hg => by
  obtain ⟨k, hk, rfl⟩ := List.getElem_of_mem hg; have := HL.out k (by omega); unfold jas at this; rw [aT hk, jcM] at this; simp only [aB] at this; omega)
 have HR := hid h; clear h hz; go_enter Tryz.func266, Tryz.ntmps266; go_wp2
 go_loopw [0, 5, 6] (fun t v i wr => ∃ (k : Nat) (R : List F), t = .string (S (jas gs body k)) /\ i = .int .i64 k /\ k <= gs.length /\ Hid (R = gs.take k) /\ Hid (OwnF wr (w.heap.size + 1) v R) /\ Hid (Below (w.heap.size + 1) (w.alloc (.cells #[.slice none 0 0, .string ⟨#[]⟩] 319)) wr)) (fun _ _ i _ => gs.length - (intOf i).toNat)
 case atStart => exact ⟨0, [], rfl, rfl, aQ _, rfl, OwnF.nil _ _, ay _ _⟩
 case round =>
  obtain ⟨k, R, rfl, rfl, hk, ma, HO, HB⟩ := hrel; have hO := HO.out; obtain ⟨a0, c0, rfl⟩ := hO.any; have hz := HB.out.size; simp only [World.size_alloc] at hz; have b8 : Below w.heap.size w wr := dc.trans (HB.out.mono (by omega)); have Cu := maxLenCell_below hm b8; have q0 : wr.cell? ⟨w.heap.size, 0, none⟩ = some (.slice none 0 0) := (HB.out.cell (by simp)).trans (by simp); have q1 : wr.cell? ⟨w.heap.size, 1, none⟩ = some (.string ⟨#[]⟩) := (HB.out.cell (by simp)).trans (by simp); have Ad := HL.out k hk; have lz := hid (show R.length = k by rw [ma.out, bp]; omega); have HZ := hid hz; have tv := hid Cu
  by_cases hlt : k < gs.length
  . obtain ⟨g, hg⟩ : ∃ g, gs[k]? = some g := ⟨_, aw hlt⟩; have nw := aF hg; have hr := HR.out g nw; have h2 := H2.out g nw; have hn : jal g.1 = true := by simp [rawB] at hr; exact hr.1
    have ed : gs.drop k = g :: gs.drop (k + 1) := by rw [aT hlt]; rw [aw hlt] at hg; cases hg; rfl
    have HC := hid (show Lib.cut (S (jas gs body k)).data.toList [13, 10] = (vq g, jas gs body (k + 1), true) by rw [ji]; unfold jas; rw [ed, jcM]; exact jck (jkX hr)); have he : (S (vq g)).toList.isEmpty = false := by rw [jeU]; unfold vq; cases g.1 <;> rfl
    have fi : 0 < (S (vq g)).size := by rw [jb]; unfold vq; simp; omega
    have HG := hid (show jfi R (S (vq g)).data.toList = false by rw [ji]; unfold jfi vq; rw [jld hn]; simp); have HN := hid (show Lib.cut (S (vq g)).data.toList [58] = (g.1, g.2, true) by rw [ji]; exact je7 (jhU hn (by decide))); have tB := hid hn; have ip : g.1.length <= 5000 := by unfold vq at h2; simp at h2; omega
    have Cp : (S (vq g)).size <= 5000 := by rw [jb]; omega
    have ly := hid (show R ++ [g] = gs.take (k + 1) by rw [ma.out]; exact (jax hg).symm); have sI : (S (jas gs body k)).size <= 2000 := by rw [jb]; exact Ad
    clear hg nw hr h2 hn ed; go_wp2_with fail; refine (jbN _ _ [13, 10] _ _ true rfl HC.out _ (by omega) tv.out).mono ?_; rintro e u ⟨rfl, q, rfl⟩; go_wp2_with fail; refine (jn9 (w.heap.size + 1) (.slice a0 R.length c0) R (S (vq g)) (wr.drewN q) hO HZ.out (maxLenCell_below tv.out (jjZ (ay _ _) q)) fi Cp (by rw [lz.out]; exact aK hlt hl) HG.out g.1 g.2 HN.out tB.out ip).mono ?_; rintro e u ⟨v', rfl, eL, hb2⟩; obtain ⟨R2, cA⟩ : ∃ R2, R2 = R ++ [g] := ⟨_, rfl⟩; rw [<- cA] at eL ly; clear cA; obtain ⟨v1, v3, rfl⟩ := eL.any; have bY := hid ((jjZ HB.out q).trans hb2); have dQ := hid eL; clear hb2 eL; go_wp2
    go_roundw
    case rel => first | exact ⟨k + 1, R2, rfl, by go_num, by omega, ly, dQ, bY⟩ | ((repeat apply Exists.intro); exact ⟨⟨k + 1, R2, rfl, by go_num, by omega, ly, dQ, bY⟩, rfl⟩) | (refine ⟨trivial, ?_⟩; (repeat apply Exists.intro); exact ⟨⟨k + 1, R2, rfl, by go_num, by omega, ly, dQ, bY⟩, rfl⟩)
    case measure => simp [intOf]; omega
  . obtain rfl : k = gs.length := by omega
    have ed : gs.drop gs.length = [] := aZ (ai _); have HC := hid (show Lib.cut (S (jas gs body gs.length)).data.toList [13, 10] = ([], body, true) by rw [ji]; unfold jas; rw [ed]; exact jck (a := []) (b := body) (by decide)); have he : (S []).toList.isEmpty = true := by rw [jeU]; rfl
    have dh := hid (show ∀ f ∈ R, f.2.length <= 5000 from fun f hf => by rw [ma.out] at hf; have := H2.out f (List.mem_of_mem_take hf); unfold vq at this; simp at this; omega); have sI : (S (jas gs body gs.length)).size <= 2000 := by rw [jb]; exact Ad
    clear ed; go_wp2_with fail; refine (jbN _ _ [13, 10] _ _ true rfl HC.out _ (by omega) tv.out).mono ?_; rintro e u ⟨rfl, q, rfl⟩; go_wp2_with fail; refine (jdj (w.heap.size + 1) (.slice a0 R.length c0) R (wr.drewN q) hO (by rw [lz.out]; exact hl) dh.out).mono ?_; rintro e u ⟨rfl, eL, hb2, hz2⟩; have b7 := (jjZ HB.out q).trans hb2; have r0 : u.cell? ⟨w.heap.size, 0, none⟩ = some (.slice none 0 0) := (b7.cell (by simp)).trans (by simp); have r1 : u.cell? ⟨w.heap.size, 1, none⟩ = some (.string ⟨#[]⟩) := (b7.cell (by simp)).trans (by simp); have r2 : u.frozen? ⟨w.heap.size, 0, none⟩ = false := (b7.frozen (by simp)).trans (by simp); have r3 : u.frozen? ⟨w.heap.size, 1, none⟩ = false := (b7.frozen (by simp)).trans (by simp); rw [lz.out]; go_wp2; exact aD (v := .tuple #[.agg #[.slice a0 gs.length c0, .string (S body)], .int .i64 0, .int .i64 0]) (by simp [results, Tryz.results266, go_sem, r0, r1]) rfl ⟨⟨a0, c0, rfl⟩, ((dc.trans (b7.mono (by omega))).setCell (by simp) _).setCell (by simp) _⟩
theorem jrq {t : TypeId} (h : w.heap[p]? = some (.cells #[u, v] t)) : w.cell? ⟨p, 0, none⟩ = some u /\ w.cell? ⟨p, 1, none⟩ = some v /\ w.frozen? ⟨p, 0, none⟩ = false /\ w.frozen? ⟨p, 1, none⟩ = false := by
 refine ⟨?_, ?_, ?_, ?_⟩ <;> simp [World.cell?, World.frozen?, h]
theorem jah (o : Obj) {x : Obj} (h : w.heap[b]? = some x) : (w.alloc o).heap[b]? = some x := by
 have hb : b < w.heap.size := (aj.1 h).1
 show (w.heap.push o)[b]? = _
 rw [bm hb, <- h, aY hb]
structure FitL (fl fd tl td tx : List UInt8) (fs : List F) (body : List UInt8) : Prop where
 c1 : jP fl fd = 0
 c2 : jP tl td = 0
 text : tx = jas fs body 0
 fine : ∀ g ∈ fs, rawB g = true
 many : fs.length <= 30
 sz : fl.length <= 5000 /\ fd.length <= 5000 /\ tl.length <= 5000 /\ td.length <= 5000 /\ tx.length <= 2000
theorem jgD (fl fd tl td tx : List UInt8) (fs : List F) (body : List UInt8) (w : World) (h : FitL fl fd tl td tx fs body) (hm : maxLenCell w) :
 Calls Tryz.prog 259 #[.agg #[.string (S fl), .string (S fd), .string (S tl), .string (S td), .string (S tx)]] w fun e w' => (∃ a c, e = .returned (.tuple #[.agg #[.slice a fs.length c, .string (S body)], .int .i64 0])) /\ Below w.heap.size w w' := by
 obtain ⟨s1, s2, s3, s4, s5⟩ := h.sz; have H1 := hid (fun u => show Calls Tryz.prog 29 #[.agg #[.string (S fl), .string (S fd)]] u fun e w' => e = .returned (.int .i64 0) /\ Below u.heap.size u w' from by
  have := zM (S fl) (S fd) u (by rw [jb]; omega) (by rw [jb]; omega); rw [ji, ji, h.c1] at this; exact this)
 have H2 := hid (fun u => show Calls Tryz.prog 29 #[.agg #[.string (S tl), .string (S td)]] u fun e w' => e = .returned (.int .i64 0) /\ Below u.heap.size u w' from by
  have := zM (S tl) (S td) u (by rw [jb]; omega) (by rw [jb]; omega); rw [ji, ji, h.c2] at this; exact this)
 have H3 := hid (fun u (hu : Below w.heap.size w u) => show Calls Tryz.prog 266 #[.string (S tx)] u fun e w' => (∃ a c, e = .returned (.tuple #[.agg #[.slice a fs.length c, .string (S body)], .int .i64 0, .int .i64 0])) /\ Below u.heap.size u w' from by
  have e := h.text; rw [e] at s5; rw [e]; exact jjh fs body u h.fine h.many s5 (maxLenCell_below hm hu))
 obtain ⟨W0, hW0⟩ : ∃ W0, W0 = (w.alloc (.cells #[.string (S fl), .string (S fd), .string (S tl), .string (S td), .string (S tx)] 167)).alloc (.cells #[.slice none 0 0, .string ⟨#[]⟩] 319) := ⟨_, rfl⟩; have cj := hid (show Below w.heap.size w W0 by rw [hW0]; exact (nb0 _ _).alloc (by simp) _); have hH : W0.heap[w.heap.size]? = some (.cells #[.string (S fl), .string (S fd), .string (S tl), .string (S td), .string (S tx)] 167) := by rw [hW0]; exact jah _ (az w _)
 have dj := hid (show W0.heap[w.heap.size + 1]? = some (.cells #[.slice none 0 0, .string ⟨#[]⟩] 319) by rw [hW0]; have := az (w.alloc (.cells #[.string (S fl), .string (S fd), .string (S tl), .string (S td), .string (S tx)] 167)) (.cells #[.slice none 0 0, .string ⟨#[]⟩] 319); simpa using this); have b9 := hid hW0; have g2 : W0.cell? ⟨w.heap.size, 2, none⟩ = some (.string (S tl)) := by simp [World.cell?, hH]
 have g3 : W0.cell? ⟨w.heap.size, 3, none⟩ = some (.string (S td)) := by simp [World.cell?, hH]
 have g4 : W0.cell? ⟨w.heap.size, 4, none⟩ = some (.string (S tx)) := by simp [World.cell?, hH]
 clear hH hW0 h hm; go_enter Tryz.func259, Tryz.ntmps259; go_wp2_with fail; rw [<- b9.out]; refine (H1.out W0).mono ?_; rintro e w1 ⟨rfl, hb1⟩; have bX := hid (cj.out.trans (hb1.mono cj.out.size)); have cC := hid ((hb1.block _ (aj.1 dj.out).1).trans dj.out); have k2 := ja g2 hb1; have k3 := ja g3 hb1; have k4 := ja g4 hb1; clear hb1 g2 g3 g4 b9; go_wp2_with fail; refine (H2.out w1).mono ?_; rintro e w2 ⟨rfl, hb2⟩; have bY := hid (bX.out.trans (hb2.mono bX.out.size)); have cD := hid ((hb2.block _ (aj.1 cC.out).1).trans cC.out); have d4 := ja k4 hb2; clear hb2 k2 k3 k4; go_wp2_with fail; refine (H3.out w2 bY.out).mono ?_; rintro e w3 ⟨⟨a, c, rfl⟩, hb3⟩; have bZ := hid (bY.out.trans (hb3.mono bY.out.size)); have cT := hid ((hb3.block _ (aj.1 cD.out).1).trans cD.out); have dm := hid (jah (.cells #[.slice a fs.length c, .string (S body)] 319) cT.out); have oC := hid (show Below w3.heap.size w3 (w3.alloc (.cells #[.slice a fs.length c, .string (S body)] 319)) from nb0 _ _); obtain ⟨r0, r1, f0, f1⟩ := jrq dm.out; clear hb3 d4; simp only; go_wp2; refine aD (v := .tuple #[.agg #[.slice a fs.length c, .string (S body)], .int .i64 0]) (by simp [results, Tryz.results259, go_sem, *]) rfl ?_; exact ⟨⟨a, c, rfl⟩, ((bZ.out.trans (oC.out.mono bZ.out.size)).setCell (by simp) _).setCell (by simp) _⟩
theorem jA {cs : List Value} {t : TypeId} (h : w.heap[p]? = some (.cells cs.toArray t)) (hi : cs[i]? = some v) : w.cell? ⟨p, i, none⟩ = some v := by simp [World.cell?, h, hi]
theorem jgS {cs : Array Value} {t : TypeId} (h : w.heap[p]? = some (.cells cs t)) (i : Nat) : w.frozen? ⟨p, i, none⟩ = false := by simp only [World.frozen?, h]; simp
theorem jL {x : Obj} (h : w.heap[b]? = some x) (hb : Below w.heap.size w w') : w'.heap[b]? = some x := (hb.block b (aj.1 h).1).trans h
def OpN (fl fd tl td tx : List UInt8) (fs : List F) (body : List UInt8) (w : World) (e : Ending) (w' : World) : Prop := ∃ fa fc, e = .returned (.tuple #[.agg #[.string (S fl), .string (S fd), .string (S tl), .string (S td), .string (S tx), .slice fa fs.length fc, .string (S body)], .int .i64 0]) /\ Below w.heap.size w w'
theorem jpZ (fl fd tl td tx : List UInt8) (fs : List F) (body : List UInt8) (w : World) (h : FitL fl fd tl td tx fs body) (hm : maxLenCell w) :
 Calls Tryz.prog 239 #[.agg #[.string (S fl), .string (S fd), .string (S tl), .string (S td), .string (S tx)]] w (OpN fl fd tl td tx fs body w) := by
 obtain ⟨W0, hW0⟩ : ∃ W0, W0 = (w.alloc (.cells #[.string (S fl), .string (S fd), .string (S tl), .string (S td), .string (S tx)] 167)).alloc (.cells #[.string ⟨#[]⟩, .string ⟨#[]⟩, .string ⟨#[]⟩, .string ⟨#[]⟩, .string ⟨#[]⟩, .slice none 0 0, .string ⟨#[]⟩] 321) := ⟨_, rfl⟩; have b9 := hid hW0; have cj := hid (show Below w.heap.size w W0 by rw [hW0]; exact (nb0 _ _).alloc (by simp) _); have HL := hid (show W0.heap[w.heap.size]? = some (.cells #[.string (S fl), .string (S fd), .string (S tl), .string (S td), .string (S tx)] 167) by rw [hW0]; exact jah _ (az w _)); have HR := hid (show W0.heap[w.heap.size + 1]? = some (.cells #[.string ⟨#[]⟩, .string ⟨#[]⟩, .string ⟨#[]⟩, .string ⟨#[]⟩, .string ⟨#[]⟩, .slice none 0 0, .string ⟨#[]⟩] 321) by rw [hW0]; have := az (w.alloc (.cells #[.string (S fl), .string (S fd), .string (S tl), .string (S td), .string (S tx)] 167)) (.cells #[.string ⟨#[]⟩, .string ⟨#[]⟩, .string ⟨#[]⟩, .string ⟨#[]⟩, .string ⟨#[]⟩, .slice none 0 0, .string ⟨#[]⟩] 321); simpa using this); have HC := hid (jgD fl fd tl td tx fs body W0 h (maxLenCell_below hm cj.out)); clear hm h hW0; go_enter Tryz.func239, Tryz.ntmps239; go_wp2_with fail; rw [<- b9.out]; refine HC.out.mono ?_; rintro e w1 ⟨⟨fa, fc, rfl⟩, hb1⟩; simp only; have cw : Below w1.heap.size w1 (w1.alloc (.cells #[.slice fa fs.length fc, .string (S body)] 319)) := nb0 _ _; have bX := hid (cj.out.trans ((hb1.trans (cw.mono hb1.size)).mono cj.out.size)); have eY := jL (jL HL.out hb1) cw; have cz := jL (jL HR.out hb1) cw; have l0 := jA (i := 0) eY rfl; have l1 := jA (i := 1) eY rfl; have l2 := jA (i := 2) eY rfl; have l3 := jA (i := 3) eY rfl; have l4 := jA (i := 4) eY rfl; have fr : ∀ j, (w1.alloc (.cells #[.slice fa fs.length fc, .string (S body)] 319)).frozen? ⟨w.heap.size + 1, j, none⟩ = false := jgS cz; have r0 := jA (i := 0) cz rfl; have r1 := jA (i := 1) cz rfl; have r2 := jA (i := 2) cz rfl; have r3 := jA (i := 3) cz rfl; have r4 := jA (i := 4) cz rfl; have r5 := jA (i := 5) cz rfl; have r6 := jA (i := 6) cz rfl; have f0 := fr 0; have f1 := fr 1; have f2 := fr 2; have f3 := fr 3; have f4 := fr 4; have f5 := fr 5; have f6 := fr 6; clear hb1 cw eY cz b9 HL HR HC cj fr; go_wp2; refine aD (v := .tuple #[.agg #[.string (S fl), .string (S fd), .string (S tl), .string (S td), .string (S tx), .slice fa fs.length fc, .string (S body)], .int .i64 0]) (by simp [results, Tryz.results239, go_sem, *]) rfl ?_; exact ⟨fa, fc, rfl, ((((((bX.out.setCell (by simp) _).setCell (by simp) _).setCell (by simp) _).setCell (by simp) _).setCell (by simp) _).setCell (by simp) _).setCell (by simp) _⟩
theorem jkA (p : Option Addr) (o : Array Value) (w : World) :
 Calls Tryz.prog 240 #[.pointer p, .slice none 0 0, .agg o] w fun e w' => e = .returned (.tuple #[]) /\ Below w.heap.size w w' := by
 obtain ⟨W1, hW1⟩ : ∃ W1, W1 = w.alloc (.cells o 321) := ⟨_, rfl⟩; have HB := hid (show Below w.heap.size w W1 by rw [hW1]; exact nb0 _ _); go_enter Tryz.func240, Tryz.ntmps240; go_wp2
 try rw [<- hW1]
 go_loopw [10] (fun v wr => v = .int .i64 0 /\ Hid (Below w.heap.size w wr)) (fun _ _ => 0)
 case atStart => exact ⟨rfl, HB⟩
 case round =>
  obtain ⟨rfl, cX⟩ := hrel; go_wp2; go_end0; exact ⟨rfl, cX.out⟩
theorem jmw (fl fd tl td tx : List UInt8) (fs : List F) (body : List UInt8) (w : World) (hw : Tabs w) (hm : maxLenCell w) (h : FitL fl fd tl td tx fs body) :
 Calls Tryz.prog 214 #[.slice none 0 0, .agg #[.string (S fl), .string (S fd), .string (S tl), .string (S td), .string (S tx)]] w fun e w' => e = .returned (.tuple #[.agg #[.slice none 0 0, .int .i64 0, .bool false, .int .i64 0], .int .i64 0]) /\ Below w.heap.size w w' := by
 obtain ⟨W0, hW0⟩ : ∃ W0, W0 = (w.alloc (.cells #[.string (S fl), .string (S fd), .string (S tl), .string (S td), .string (S tx)] 167)).alloc (.cells #[.slice none 0 0, .int .i64 0, .bool false, .int .i64 0] 287) := ⟨_, rfl⟩; have b9 := hid hW0; have cj := hid (show Below w.heap.size w W0 by rw [hW0]; exact (nb0 _ _).alloc (by simp) _); have tj := hid (show W0.heap[w.heap.size]? = some (.cells #[.string (S fl), .string (S fd), .string (S tl), .string (S td), .string (S tx)] 167) by rw [hW0]; exact jah _ (az w _)); have dj := hid (show W0.heap[w.heap.size + 1]? = some (.cells #[.slice none 0 0, .int .i64 0, .bool false, .int .i64 0] 287) by rw [hW0]; have := az (w.alloc (.cells #[.string (S fl), .string (S fd), .string (S tl), .string (S td), .string (S tx)] 167)) (.cells #[.slice none 0 0, .int .i64 0, .bool false, .int .i64 0] 287); simpa using this); have wW : Hid (Calls Tryz.prog 50 #[.slice none 0 0] W0 fun e w' => e = .returned (.int .i64 0) /\ Below W0.heap.size W0 w') :=
  jdI 0 [] none 0 W0 (hw.next cj.out) (ai _) (fun _ => ⟨rfl, rfl⟩) (fun x hx => by cases hx) (jh _ _ _ _ _ _)
 have xm := hid (fun u (hu : Below w.heap.size w u) => jpZ fl fd tl td tx fs body u h (maxLenCell_below hm hu)); clear hw hW0 h; go_enter Tryz.func214, Tryz.ntmps214; go_wp2_with fail; rw [<- b9.out]; refine wW.out.mono ?_; rintro e w1 ⟨rfl, hb1⟩; simp only; have bX := hid (cj.out.trans (hb1.mono cj.out.size)); have eY := jL tj.out hb1; have cC := hid (jL dj.out hb1); have l0 := jA (i := 0) eY rfl; have l1 := jA (i := 1) eY rfl; have l2 := jA (i := 2) eY rfl; have l3 := jA (i := 3) eY rfl; have l4 := jA (i := 4) eY rfl; clear hb1 eY b9 wW; go_wp2_with fail; refine (xm.out w1 bX.out).mono ?_; rintro e w2 ⟨fa, fc, rfl, hb2⟩; simp only; obtain ⟨W3, hW3⟩ : ∃ W3, W3 = (w2.alloc (.cells #[.string (S fl), .string (S fd), .string (S tl), .string (S td), .string (S tx), .slice fa fs.length fc, .string (S body)] 321)).alloc (.cells #[.slice none 0 0, .int .i64 0, .bool false, .int .i64 0, .bool false] 325) := ⟨_, rfl⟩; have cM := hid hW3; have hb3 : Below w2.heap.size w2 W3 := by rw [hW3]; exact (nb0 _ _).alloc (by simp) _
 have bZ := hid (show Below w.heap.size w W3 from bX.out.trans ((hb2.trans (hb3.mono hb2.size)).mono bX.out.size)); have cT := hid (jL (jL cC.out hb2) hb3); have dC : W3.heap[w2.heap.size]? = some (.cells #[.string (S fl), .string (S fd), .string (S tl), .string (S td), .string (S tx), .slice fa fs.length fc, .string (S body)] 321) := by rw [hW3]; exact jah _ (az w2 _)
 have kK := hid (show W3.heap[w2.heap.size + 1]? = some (.cells #[.slice none 0 0, .int .i64 0, .bool false, .int .i64 0, .bool false] 325) by rw [hW3]; have := az (w2.alloc (.cells #[.string (S fl), .string (S fd), .string (S tl), .string (S td), .string (S tx), .slice fa fs.length fc, .string (S body)] 321)) (.cells #[.slice none 0 0, .int .i64 0, .bool false, .int .i64 0, .bool false] 325); simpa using this); have z0 := jA (i := 0) dC rfl; have z1 := jA (i := 1) dC rfl; have z2 := jA (i := 2) dC rfl; have z3 := jA (i := 3) dC rfl; have z4 := jA (i := 4) dC rfl; have z5 := jA (i := 5) dC rfl; have z6 := jA (i := 6) dC rfl; rw [hW3] at z0 z1 z2 z3 z4 z5 z6; clear hb2 hb3 hW3 dC xm l0 l1 l2 l3 l4; go_wp2_with fail; rw [<- cM.out]; refine (jkA _ _ W3).mono ?_; rintro e w5 ⟨rfl, cV⟩; simp only; have dh := hid (bZ.out.trans (cV.mono bZ.out.size)); have dL := jL cT.out cV; have pv := jL kK.out cV; have q0 := jA (i := 0) pv rfl; have q1 := jA (i := 1) pv rfl; have q2 := jA (i := 2) pv rfl; have q3 := jA (i := 3) pv rfl; have r0 := jA (i := 0) dL rfl; have r1 := jA (i := 1) dL rfl; have r2 := jA (i := 2) dL rfl; have r3 := jA (i := 3) dL rfl; have g0 := jgS dL 0; have g1 := jgS dL 1; have g2 := jgS dL 2; have g3 := jgS dL 3; clear cV dL pv cM z0 z1 z2 z3 z4 z5 z6; go_wp2; refine aD (v := .tuple #[.agg #[.slice none 0 0, .int .i64 0, .bool false, .int .i64 0], .int .i64 0]) (by simp [results, Tryz.results214, go_sem, *]) rfl ?_; exact ⟨rfl, (((dh.out.setCell (by simp) _).setCell (by simp) _).setCell (by simp) _).setCell (by simp) _⟩
def jmx (w : World) (e : Ending) (w' : World) : Prop := ∃ b, e = .returned (.tuple #[.slice (some ⟨b, 0, none⟩) 1 1, .int .i64 0]) /\ w'.heap[b]? = some (.cells #[.int .i64 3, .string ⟨#[]⟩, .int .i64 0] 260) /\ w.heap.size <= b /\ Below w.heap.size w w'
theorem jqn (w : World) : Calls Tryz.prog 215 #[.agg #[.slice none 0 0, .int .i64 0, .bool false, .int .i64 0]] w (jmx w) := by
 obtain ⟨W0, hW0⟩ : ∃ W0, W0 = w.alloc (.cells #[.slice none 0 0, .int .i64 0, .bool false, .int .i64 0] 287) := ⟨_, rfl⟩; have b9 := hid hW0; have cj := hid (show Below w.heap.size w W0 by rw [hW0]; exact nb0 _ _); have Aq := hid (show W0.heap[w.heap.size]? = some (.cells #[.slice none 0 0, .int .i64 0, .bool false, .int .i64 0] 287) by rw [hW0]; exact az w _); have xk : Hid (∀ u : World, Calls Tryz.prog 241 #[.agg #[.slice none 0 0, .int .i64 0, .bool false, .int .i64 0]] u fun e w' => e = .returned (.bool true) /\ Below u.heap.size u w') := fun u => by
  have em := hid (show Below u.heap.size u (u.alloc (.cells #[.slice none 0 0, .int .i64 0, .bool false, .int .i64 0] 287)) from nb0 _ _); go_enter Tryz.func241, Tryz.ntmps241; go_wp2; go_ret; exact ⟨rfl, em.out⟩
 clear hW0; go_enter Tryz.func215, Tryz.ntmps215; go_wp2_with fail; rw [<- b9.out]; refine (xk.out W0).mono ?_; rintro e w1 ⟨rfl, hb1⟩; simp only; have bX := hid (cj.out.trans (hb1.mono cj.out.size)); have pu := jL Aq.out hb1; have d0 := jA (i := 0) pu rfl; have d1 := jA (i := 1) pu rfl; have d2 := jA (i := 2) pu rfl; have d3 := jA (i := 3) pu rfl; have HE := hid (show jmx w (.returned (.tuple #[.slice (some ⟨w1.heap.size, 0, none⟩) 1 1, .int .i64 0])) (w1.alloc (.cells #[.int .i64 3, .string ⟨#[]⟩, .int .i64 0] 260)) from ⟨_, rfl, az _ _, bX.out.size, bX.out.alloc bX.out.size _⟩); clear hb1 pu b9 xk; go_wp2; go_ret2; exact HE.out
theorem jeX (fl fd tl td tx : List UInt8) (fs : List F) (body : List UInt8) (w : World) (hw : Tabs w) (hm : maxLenCell w) (h : FitL fl fd tl td tx fs body) :
 Calls Tryz.prog 182 #[.agg #[.string (S fl), .string (S fd), .string (S tl), .string (S td), .string (S tx)], .slice none 0 0] w (jmx w) := by
 obtain ⟨W1, hW1⟩ : ∃ W1, W1 = w.alloc (.cells #[.string (S fl), .string (S fd), .string (S tl), .string (S td), .string (S tx)] 167) := ⟨_, rfl⟩; have b9 := hid hW1; have b8 : Below w.heap.size w W1 := by rw [hW1]; exact nb0 _ _
 have bX := hid b8; have cI : W1.heap[w.heap.size]? = some (.cells #[.string (S fl), .string (S fd), .string (S tl), .string (S td), .string (S tx)] 167) := by rw [hW1]; exact az w _
 have l0 := jA (i := 0) cI rfl; have l1 := jA (i := 1) cI rfl; have l2 := jA (i := 2) cI rfl; have l3 := jA (i := 3) cI rfl; have l4 := jA (i := 4) cI rfl; have HJ := hid (jmw fl fd tl td tx fs body W1 (hw.next b8) (maxLenCell_below hm b8) h); clear hw hm h hW1 b8 cI; go_enter Tryz.func182, Tryz.ntmps182; go_upto_region 1 with fail
 rw [<- b9.out]; go_wp2_with fail; refine HJ.out.mono ?_; rintro e w2 ⟨rfl, hb2⟩; simp only; obtain ⟨W3, hW3⟩ : ∃ W3, W3 = w2.alloc (.cells #[.slice none 0 0, .int .i64 0, .bool false, .int .i64 0] 287) := ⟨_, rfl⟩; have cM := hid hW3; have cy : Below w2.heap.size w2 W3 := by rw [hW3]; exact nb0 _ _
 have bZ := hid (show Below w.heap.size w W3 from (bX.out.trans (hb2.mono bX.out.size)).trans (cy.mono (aN bX.out.size hb2.size))); have df : W3.heap[w2.heap.size]? = some (.cells #[.slice none 0 0, .int .i64 0, .bool false, .int .i64 0] 287) := by rw [hW3]; exact az w2 _
 have m0 := jA (i := 0) df rfl; have m1 := jA (i := 1) df rfl; have m2 := jA (i := 2) df rfl; have m3 := jA (i := 3) df rfl; clear hb2 hW3 cy df; go_upto_region 2 with fail
 rw [<- cM.out]; go_wp2_with fail; refine (jqn W3).mono ?_; rintro e w4 ⟨b, rfl, hx, hb, hb4⟩; simp only; have HF := hid (show jmx w (.returned (.tuple #[.slice (some ⟨b, 0, none⟩) 1 1, .int .i64 0])) w4 from ⟨b, rfl, hx, aN bZ.out.size hb, bZ.out.trans (hb4.mono bZ.out.size)⟩); clear hx hb hb4; go_wp2; go_ret2; exact HF.out
def kpE (tx : List UInt8) : Ent := ⟨2, [73, 78, 66, 79, 88], 0, 0, [], tx⟩
def stA (R : Rom) : Stt := R.states.getD 0 inbS
def dlvR (R : Rom) (x : Ltr) : Rom × Int × Bool := match doM (stA R) (kpE x.2.2) with
 | .error _ => (R, 452, false)
 | .ok s' => (addR R 0 ⟨0, [kpE x.2.2]⟩ s', 250, true)
def FitK (K : List (List UInt8)) (x : Ltr) : Prop := (∃ fs body, FitL x.1.1 x.1.2 x.2.1.1 x.2.1.2 x.2.2 fs body) /\ K[0]? = some x.2.1.1 /\ x.2.2.length <= 2000
theorem vj {t : List UInt8} (ht : t.length <= 2000) : Formed (kpE t) :=
 ⟨⟨by show (1 : Int) <= 2; decide, by show (2 : Int) <= 6; decide⟩, ⟨(fun h => by rcases h with h | h <;> cases h), fun _ => ⟨rfl, rfl⟩, (fun h => by cases h), (fun h => by cases h), fun h => by cases h⟩,
   ⟨by show (0 : Int) <= 0; decide, by show (0 : Int) <= 31; decide⟩, ⟨by show (0 : Int) <= 0; decide, by show (0 : Int) <= 1048576; decide⟩, ht, (fun h => by cases h), (fun _ => by show vu [73, 78, 66, 79, 88] = 0; decide), (fun h => by cases h), rfl⟩
structure RomK (Cs : List (List Cmd)) (R : Rom) : Prop where
 st3 : R.states.length = 3
 cs3 : Cs.length = 3
 cs0 : Cs[0]? = some []
 may : May (stA R)
 sp : (stA R).spool = []
 ib : ∃ i, (stA R).boxes.findIdx? (isName [73, 78, 66, 79, 88]) = some i
 tp : mayN R.tape.length R.tsyn = true
 fit : R.tape.length + 30000 <= 100000
 w8 : R.waits < 8
 w0 : 0 <= R.waits
theorem RomK.put {R : Rom} (h : RomK Cs R) (i : Nat) (c : Con) : RomK Cs (R.put i c) := by
 obtain ⟨h1, h2, h3, h4, h5, h6, h7, h8, h9, h10⟩ := h
 match i with
 | 0 | 1 | _ + 2 => exact ⟨h1, h2, h3, h4, h5, h6, h7, h8, h9, h10⟩
def crK : List UInt8 := [13, 10]
def jx (xs : List (List UInt8)) : List UInt8 := (xs.map (· ++ crK)).flatten
theorem jaG (x : List UInt8) (t : List (List UInt8)) : jx (x :: t) = x ++ [13, 10] ++ jx t := by simp [jx, crK]
theorem jfc (xs ys : List (List UInt8)) : jx (xs ++ ys) = jx xs ++ jx ys := by simp [jx]
def lnsK (s : Ses) (held : List UInt8) (l : List Int) : Con := ⟨s, held, [], l⟩
def coK (n : Ses × Int × List Ltr) : List Int := if n.2.1 = 0 then [] else [n.2.1]
theorem jpi (n : Ses × Int × List Ltr) : (coK n).length <= 1 := by unfold coK; split <;> simp
def jaV (K : List (List UInt8)) : Ses -> List (List UInt8) -> Prop
 | _, [] => True
 | s, x :: t => jY x = false /\ x.length <= 3000 /\ ((js s K x).2.2 = [] ∨ (s.large = false /\ (js s K x).1.step ≠ 5 /\ ∃ z, (js s K x).2.2 = [z] /\ FitK K z)) /\ ((js s K x).1.step = 5 ∨ jaV K (js s K x).1 t)
def InvK (K : List (List UInt8)) (Cs : List (List Cmd)) (i : Nat) (R : Rom) : Prop :=
 (R.con i).held.length <= 1000000 /\ ((R.con i).due = [] -> ∃ s xs l, R.con i = lnsK s (jx xs) l /\ mayS s = true /\ jaV K s xs /\ l.length + 6 * xs.length <= 1000000 /\ (xs = [] ∨ RomK Cs R))
theorem je8 (h : jY x = false) (t : List (List UInt8)) : Lib.cut (jx (x :: t)) [13, 10] = (x, jx t, true) := by
 rw [jaG]; exact jck h
theorem jgv : Lib.cut ([] : List UInt8) [13, 10] = ([], [], false) := jhE jdz
theorem jgO (s r : Ses) (y : List UInt8) (l : List Int) (co : Int) (ls : List Ltr) : lnC (lnsK s y l) r co = lnsK r y (l ++ coK (r, co, ls)) := by
 unfold lnC jme lnsK jbC sesC coK; simp only; split <;> simp
theorem jaQ {R : Rom} {y : List UInt8} {l : List Int} (hc : R.con i = lnsK s y l) (h : (js s K x).2.2 = []) :
 jfI dlvR K R i x = R.put i (jbo (lnsK (js s K x).1 y (l ++ coK (js s K x))) (js s K x).1.step) := by
 unfold jfI; simp only [hc]; rw [show (lnsK s y l).ses = s from rfl, h]; simp only [tkR, jr, zv]; have e := jgO s (js s K x).1 y l (js s K x).2.1 (js s K x).2.2; unfold lnC at e; rw [e]; unfold zi jbC lnsK
 simp
theorem jar {R : Rom} {y : List UInt8} {l : List Int} {z : Ltr} (hc : R.con i = lnsK s y l) (h : (js s K x).2.2 = [z]) (hl : s.large = false) (h5 : (js s K x).1.step ≠ 5) :
 jfI dlvR K R i x = (dlvR (R.put i (lnsK (js s K x).1 y (l ++ coK (js s K x)))) z).1.put i (zi ((dlvR (R.put i (lnsK (js s K x).1 y (l ++ coK (js s K x)))) z).1.con i) [(dlvR (R.put i (lnsK (js s K x).1 y (l ++ coK (js s K x)))) z).2.1] (dlvR (R.put i (lnsK (js s K x).1 y (l ++ coK (js s K x)))) z).2.2) := by
 unfold jfI; simp only [hc]; rw [show (lnsK s y l).ses = s from rfl, h, hl]; have e := jgO s (js s K x).1 y l (js s K x).2.1 (js s K x).2.2; unfold lnC at e; rw [e]; simp only [tkR]; rw [if_neg (by decide)]; unfold jbo; rw [if_neg h5]
 simp
theorem jd5 (R : Rom) (z : Ltr) (i : Nat) : (dlvR R z).1.con i = R.con i := by
 unfold dlvR; split
 . rfl
 . match i with
   | 0 | 1 | _ + 2 => rfl
theorem jmW (R : Rom) (z : Ltr) : ((dlvR R z).1 = R /\ (dlvR R z).2 = (452, false)) ∨ (dlvR R z).2 = (250, true) := by
 unfold dlvR; split
 . exact .inl ⟨rfl, rfl⟩
 . exact .inr rfl
theorem jev (rd : Rom -> List UInt8 -> List UInt8 -> Rom) {R : Rom} {l : List Int} (n : Nat) (hc : R.con i = lnsK s (jx (x :: t)) l) (h : jY x = false) : runW rd i (n + 1) R = runW rd i n (rd R x (jx t)) := by
 simp only [runW, hc]; rw [show (lnsK s (jx (x :: t)) l).held = jx (x :: t) from rfl, show (lnsK s (jx (x :: t)) l).due = [] from rfl, je8 h]; rfl
def sesK (K : List (List UInt8)) : Ses -> List (List UInt8) -> Ses × List Int
 | s, [] => (s, [])
 | s, x :: t => ((sesK K (js s K x).1 t).1, coK (js s K x) ++ (sesK K (js s K x).1 t).2)
def zS (K : List (List UInt8)) : Ses -> List (List UInt8) -> Bool
 | _, [] => true
 | s, x :: t => !jY x && decide (x.length <= 3000) && (js s K x).2.2.isEmpty && decide ((js s K x).1.step ≠ 5) && zS K (js s K x).1 t
theorem jcO (h : zS K s (x :: t) = true) : jY x = false /\ x.length <= 3000 /\ (js s K x).2.2 = [] /\ (js s K x).1.step ≠ 5 /\ zS K (js s K x).1 t = true := by
 simp only [zS, aX, Bool.not_eq_true', decide_eq_true_eq, List.isEmpty_iff] at h; exact ⟨h.1.1.1.1, h.1.1.1.2, h.1.1.2, h.1.2, h.2⟩
theorem jew (K : List (List UInt8)) : ∀ (xs : List (List UInt8)) (s : Ses) (ys : List (List UInt8)), sesK K s (xs ++ ys) = ((sesK K (sesK K s xs).1 ys).1, (sesK K s xs).2 ++ (sesK K (sesK K s xs).1 ys).2)
 | [], _, _ => rfl
 | x :: t, s, ys => by
   show sesK K s (x :: (t ++ ys)) = _
   simp only [sesK]; rw [jew K t]
   simp [List.append_assoc]
theorem jbX (K : List (List UInt8)) : ∀ (xs : List (List UInt8)) (s : Ses) (ys : List (List UInt8)), zS K s (xs ++ ys) = (zS K s xs && zS K (sesK K s xs).1 ys)
 | [], _, _ => by simp [zS, sesK]
 | x :: t, s, ys => by
   show zS K s (x :: (t ++ ys)) = _
   simp only [zS, sesK]; rw [jbX K t]
   simp [Bool.and_assoc]
theorem qP (K : List (List UInt8)) : ∀ (xs : List (List UInt8)) (s : Ses) (ys : List (List UInt8)), zS K s xs = true -> jaV K (sesK K s xs).1 ys -> jaV K s (xs ++ ys)
 | [], _, _, _, h => h
 | x :: t, s, ys, h, h2 => by
   obtain ⟨h3, h4, h5, _, h7⟩ := jcO h; exact ⟨h3, h4, .inl h5, .inr (qP K t _ ys h7 h2)⟩
theorem jbZ (K : List (List UInt8)) (R : Rom) (i : Nat) (ys : List (List UInt8)) : ∀ (xs : List (List UInt8)) (s : Ses) (l : List Int) (n : Nat), zS K s xs = true ->
 qY dlvR K i (n + xs.length) (R.put i (lnsK s (jx (xs ++ ys)) l)) = qY dlvR K i n (R.put i (lnsK (sesK K s xs).1 (jx ys) (l ++ (sesK K s xs).2)))
 | [], s, l, n, _ => by simp [sesK]
 | x :: t, s, l, n, h => by
   obtain ⟨h1, _, h2, h3, h5⟩ := jcO h; rw [show x :: t ++ ys = x :: (t ++ ys) from rfl]; unfold qY; rw [show n + (x :: t).length = (n + t.length) + 1 by simp; omega, jev _ _ (jr _ _ _) h1]; rw [jr, zv, show ja7 (lnsK s (jx (x :: (t ++ ys))) l) (jx (t ++ ys)) = lnsK s (jx (t ++ ys)) l from rfl, jaQ (jr _ _ _) h2, zv]; unfold jbo; rw [if_neg h3]; have := jbZ K R i ys t (js s K x).1 (l ++ coK (js s K x)) n h5; unfold qY at this; rw [this]; simp only [sesK, aH]
theorem jfO (K : List (List UInt8)) (R : Rom) (i : Nat) (x : List UInt8) (ys : List (List UInt8)) (s : Ses) (l : List Int) (n : Nat) (z : Ltr) (h1 : jY x = false) (h2 : (js s K x).2.2 = [z]) (hl : s.large = false) (h5 : (js s K x).1.step ≠ 5) (s' : Stt) (hd : doM (stA R) (kpE z.2.2) = .ok s') (hy : (jx ys).length <= 3000) :
 qY dlvR K i (n + 1) (R.put i (lnsK s (jx (x :: ys)) l)) = (addR R 0 ⟨0, [kpE z.2.2]⟩ s').put i ⟨(js s K x).1, jx ys, [250], l ++ coK (js s K x)⟩ := by
 have hst : ∀ c, stA (R.put i c) = stA R := fun c => by match i with | 0 | 1 | _ + 2 => rfl
 have ou : ∀ c, dlvR (R.put i c) z = ((addR R 0 ⟨0, [kpE z.2.2]⟩ s').put i c, 250, true) := fun c => by
  unfold dlvR; rw [hst, hd]
  match i with | 0 | 1 | _ + 2 => rfl
 unfold qY; rw [jev _ _ (jr _ _ _) h1, jr, zv, show ja7 (lnsK s (jx (x :: ys)) l) (jx ys) = lnsK s (jx ys) l from rfl, jar (jr _ _ _) h2 hl h5]; simp only [zv, ou, jr]; unfold zi; rw [if_pos rfl]; refine (jeu ?_).trans ?_
 . rw [jr]; rfl
 . rw [jr, zv]; unfold endC; rw [if_neg (by show ¬ 3000 < (jx ys).length; omega)]; rfl
theorem jlV (K : List (List UInt8)) (R : Rom) (i : Nat) (x : List UInt8) (s : Ses) (l : List Int) (n : Nat) (z : Ltr) (h1 : jY x = false) (h2 : (js s K x).2.2 = [z]) (hl : s.large = false) (h5 : (js s K x).1.step ≠ 5) (e : Int) (hd : doM (stA R) (kpE z.2.2) = .error e) :
 qY dlvR K i (n + 1) (R.put i (lnsK s (jx [x]) l)) = R.put i (lnsK (js s K x).1 [] (l ++ coK (js s K x) ++ [452])) := by
 have hst : ∀ c, stA (R.put i c) = stA R := fun c => by match i with | 0 | 1 | _ + 2 => rfl
 have ou : ∀ c, dlvR (R.put i c) z = (R.put i c, 452, false) := fun c => by
  unfold dlvR; rw [hst, hd]
 unfold qY; rw [jev _ _ (jr _ _ _) h1, jr, zv, show ja7 (lnsK s (jx [x]) l) (jx []) = lnsK s [] l from rfl, jar (jr _ _ _) h2 hl h5]; simp only [zv, ou, jr]; unfold zi; rw [if_neg (by decide)]; refine (jeu ?_).trans ?_
 . rw [jr]
   show ((([] : List Int)).isEmpty && (Lib.cut ([] : List UInt8) [13, 10]).2.2) = false
   rw [jgv]; rfl
 . rw [jr, zv]; unfold endC; rw [if_neg (by show ¬ 3000 < 0; omega)]; rfl
theorem jlW (K : List (List UInt8)) (R : Rom) (i : Nat) (n : Nat) (s : Ses) (l : List Int) : qY dlvR K i n (R.put i (lnsK s [] l)) = R.put i (lnsK s [] l) := by
 unfold qY; refine (jeu ?_).trans ?_
 . rw [jr]
   show ((([] : List Int)).isEmpty && (Lib.cut ([] : List UInt8) [13, 10]).2.2) = false
   rw [jgv]; rfl
 . rw [jr, zv]; unfold endC; rw [if_neg (by show ¬ 3000 < 0; omega)]
theorem jp8 (R : Rom) (i : Nat) (c : Con) : (R.put i c).up = R.up := by
 match i with
 | 0 | 1 | _ + 2 => rfl
def bodT (xs : List (List UInt8)) : List UInt8 := (xs.map fun x => zD x ++ [13, 10]).flatten
theorem jkY (K : List (List UInt8)) (frm : Adr) (tt : List Adr) (T x : List UInt8) (hx : x ≠ [46]) (h : T.length + (zD x).length + 2 <= 2000) : js ⟨4, frm, tt, T, false⟩ K x = (⟨4, frm, tt, T ++ zD x ++ [13, 10], false⟩, 0, []) := by
 unfold js; rw [if_neg (by show ¬ (4 : Int) = 5; decide), if_pos rfl]; unfold vY; rw [if_neg hx]; unfold jg0; rw [if_neg (by show ¬ (false = true ∨ 2000 < T.length + (zD x).length + 2); simp; omega)]
theorem jex (K : List (List UInt8)) (frm : Adr) (tt : List Adr) : ∀ (xs : List (List UInt8)) (T : List UInt8), (∀ x ∈ xs, x ≠ [46] /\ jY x = false /\ x.length <= 3000) -> (T ++ bodT xs).length <= 2000 ->
 zS K ⟨4, frm, tt, T, false⟩ xs = true /\ sesK K ⟨4, frm, tt, T, false⟩ xs = (⟨4, frm, tt, T ++ bodT xs, false⟩, [])
 | [], T, _, _ => ⟨rfl, by simp [sesK, bodT]⟩
 | x :: t, T, h, hl => by
   obtain ⟨h1, h2, h3⟩ := h x (by simp); have e : bodT (x :: t) = zD x ++ [13, 10] ++ bodT t := by simp [bodT]
   rw [e] at hl; have hb := jkY K frm tt T x h1 (by simp only [aB, aI, aJ] at hl; omega); obtain ⟨k1, k2⟩ := jex K frm tt t (T ++ zD x ++ [13, 10]) (fun y hy => h y (by simp [hy])) (by simp only [aB, aI, aJ] at hl ⊢; omega); refine ⟨?_, ?_⟩
   . simp only [zS]; rw [hb, h2]; simp only; rw [k1]
     simp [h3]
   . simp only [sesK]; rw [hb]; simp only; rw [k2, e]
     simp [coK]
theorem LtrsM.one {x : Ltr} (h : LtrsM Q w v [x]) : ∃ b o c, v = .slice (some ⟨b, o, none⟩) 1 c /\ w.cell? ⟨b, o, none⟩ = some (.string (S x.1.1)) /\ w.cell? ⟨b, o + 1, none⟩ = some (.string (S x.1.2)) /\ w.cell? ⟨b, o + 2, none⟩ = some (.string (S x.2.1.1)) /\ w.cell? ⟨b, o + 3, none⟩ = some (.string (S x.2.1.2)) /\ w.cell? ⟨b, o + 4, none⟩ = some (.string (S x.2.2)) := by
 obtain ⟨a, c, hv, _, hr⟩ := h; obtain ⟨b, o, cs, ha, _, _, _, hc, hP⟩ := hr 0 x rfl; have hcs : cs = ltrC x := hP; subst hcs; simp only [Nat.zero_mul, bC] at hc; exact ⟨b, o, c, by rw [hv, ha]; rfl, hc 0 _ rfl, hc 1 _ rfl, hc 2 _ rfl, hc 3 _ rfl, hc 4 _ rfl⟩
theorem joa (K : List (List UInt8)) (Cs : List (List Cmd)) (B b : Nat) (G : List Nat) (R' : Rom) (w : World) (hbl : b < w.heap.size) (x : Ltr) (v : Value) (Q : Nat -> Prop) (hv : LtrsM Q w v [x]) (co : Int) (q : Bool)
 (hD : ∀ u, Below w.heap.size w u -> Calls Tryz.prog 87 #[.pointer (some ⟨b, 0, none⟩), .agg #[.string (S x.1.1), .string (S x.1.2), .string (S x.2.1.1), .string (S x.2.1.2), .string (S x.2.2)]] u (RmQ K Cs B b G u R' (.tuple #[.int .i64 co, .bool q]))) :
 Calls Tryz.prog 59 #[.pointer (some ⟨b, 0, none⟩), v, .bool false] w (TkQ K Cs B b G w R' [co] q) := by
 obtain ⟨i0, hi, hz0, hz1, hz2⟩ := info_parts joG; obtain ⟨g, o, c, rfl, e0, e1, e2, e3, e4⟩ := hv.one; have HD := hid hD; clear hv hD; go_enter Tryz.func59, Tryz.ntmps59; go_wp2
 go_loopw [8, 9, 16] (fun a p i wr => (a = .slice none 0 0 /\ p = .bool false /\ i = .int .i64 0 /\ wr = w) ∨ (i = .int .i64 1 /\ p = .bool q /\ ∃ gm cap G', a = .slice (some ⟨gm, 0, none⟩) 1 cap /\ Hid (RoomM K Cs B b G' R' wr) /\ Hid (Stp b G w G' wr) /\ Hid (IntsM (AvN B b G') wr (.slice (some ⟨gm, 0, none⟩) 1 cap) [co]))) (fun _ _ i _ => 1 - (intOf i).toNat)
 case atStart => exact .inl ⟨rfl, rfl, rfl, rfl⟩
 case round =>
  rcases hrel with ⟨rfl, rfl, rfl, rfl⟩ | ⟨rfl, rfl, gm, cap, G', rfl, HR, HS, HI⟩
  . obtain ⟨W3, hW3⟩ : ∃ W3, W3 = wr.alloc (.cells #[.string (S x.1.1), .string (S x.1.2), .string (S x.2.1.1), .string (S x.2.1.2), .string (S x.2.2)] 167) := ⟨_, rfl⟩; have cy : Below wr.heap.size wr W3 := by rw [hW3]; exact nb0 _ _
    have bZ := hid cy; have b9 := hid hW3; have df : W3.heap[wr.heap.size]? = some (.cells #[.string (S x.1.1), .string (S x.1.2), .string (S x.2.1.1), .string (S x.2.1.2), .string (S x.2.2)] 167) := by rw [hW3]; exact az wr _
    have l0 := jA (i := 0) df rfl; have l1 := jA (i := 1) df rfl; have l2 := jA (i := 2) df rfl; have l3 := jA (i := 3) df rfl; have l4 := jA (i := 4) df rfl; have oL := hid (HD.out W3 bZ.out); clear cy hW3 df; go_upto_region 6 with fail
    rw [<- b9.out]; go_wp2_with fail; refine oL.out.mono ?_; rintro e w5 ⟨rfl, G5, dL, hs5⟩; have fw := hid dL; have Bp := hid ((Stp.of bZ.out).trans hs5); have CZ := hid (show b < w5.heap.size from dL.lt.1); clear dL hs5 l0 l1 l2 l3 l4 oL b9
    go_wp2_with (first
        | (at_builtin; refine wpList_append_lies _ rfl _ _ 37 rfl w5.heap.size 3 i0 _ 1 8 Tryz.underlying37 hi hz0 hz1 hz2 rfl (by omega) (.slice none 0 0) 0 [] rfl (aR _ _ _ _) ⟨w5.heap.size, 0, none⟩ 1 1 [.int .i64 co] rfl rfl (qk w5 [.int .i64 co] _) ?c1 (by omega) ?c2 ?c3 ?c4 _ rfl ?_)
        | fail)
    case c1 => simp [Value.oneCell']
    case c2 => unfold maxLen; omega
    case c3 => omega
    case c4 => simp
    intro gm cap w4 hown hgrow hat ei; have hb4 : Below w5.heap.size w5 w4 := (nb0 _ _).grown hgrow (by simp) (fun j hj => by cases hj); have dm := hid (fw.out.next hb4); have dK := hid (Bp.out.trans (Stp.of hb4)); have xd := hid (show IntsM (AvN B b G5) w4 (.slice (some ⟨gm, 0, none⟩) 1 cap) [co] from jan (f := fun k => .int .i64 k) (B := w5.heap.size) (e := 3) (l := [co]) (by simpa using hown) (by unfold maxLen; simp) fun g hg => by
        have h1 := (aA hown g hg).1; exact ⟨by have := fw.out.lt; omega, jbd fw.out h1⟩)
    clear hown hgrow hat hb4
    try simp only [bc] at *
    go_wp2
    go_roundw
    case rel => first | exact .inr ⟨by go_num, by simp, gm, cap, G5, rfl, dm, dK, xd⟩ | ((repeat apply Exists.intro); exact ⟨.inr ⟨by go_num, by simp, gm, cap, G5, rfl, dm, dK, xd⟩, rfl⟩)
    case measure => simp [intOf]
  . go_wp2; go_ret2; exact ⟨_, G', rfl, HR.out, HS.out, HI.out⟩
end Go.Proofs.YtjdkbdkimbgbfaaGreatDoor
