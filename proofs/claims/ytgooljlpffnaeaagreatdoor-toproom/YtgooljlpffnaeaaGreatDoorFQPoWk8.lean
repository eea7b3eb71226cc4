/-
  What a room does with what a connection holds: line by line. The walk, over what reading a line does.
-/
import Derived.Test.YtgooljlpffnaeaaGreatDoorRows
import Derived.Test.YtgooljlpffnaeaaGreatDoorFBoxAp
set_option maxHeartbeats 4000000
set_option maxRecDepth 100000
namespace Go.Proofs.YtgooljlpffnaeaaGreatDoor
open Go.RowKit Go.Proofs
def jgu (b o : Nat) (w : World) : Nat := match w.cell? ⟨b, o + 6, none⟩ with
 | some (.string s) => s.size
 | _ => 0
theorem jmg {rd : Rom → List UInt8 → List UInt8 → Rom} {i n : Nat} {R : Rom} (h : ((R.con i).due.isEmpty && (Lib.cut (R.con i).held [13, 10]).2.2) = false) : runW rd i n R = R.put i (endC (R.con i)) := by
 cases n with
 | zero => rfl
 | succ n => simp only [runW]; rw [if_neg (by rw [h]; decide)]
theorem jjL {s x y : List UInt8} (h : Lib.cut s [13, 10] = (x, y, true)) : y.length < s.length := by
 have h1 : qu s = true := by
  cases h0 : qu s with
  | true => rfl
  | false => rw [jjI h0] at h; cases h
 have := jmy h1; rw [h] at this; exact this
theorem jkU (K : List (List UInt8)) (Cs : List (List Cmd)) (B b : Nat) (G : List Nat) (R : Rom) (w : World) (hR : RoomM K Cs B b G R w) (i o : Nat) (hi : i < 3) (ho : o = 7 + i * 9) (rd : Rom → List UInt8 → List UInt8 → Rom) (Inv : Rom → Prop) (hI : Inv R) (hM : ∀ w', Below B w w' → maxLenCell w')
 (hIh : ∀ R', Inv R' → (R'.con i).held.length ≤ 1000000000)
 (hrd : ∀ (R' : Rom) (G' : List Nat) (w' : World) (x y : List UInt8), Inv R' → (R'.con i).due = [] → Lib.cut (R'.con i).held [13, 10] = (x, y, true) → Below B w w' → RoomM K Cs B b G' (R'.put i (jeV (R'.con i) y)) w' →
   Inv (rd R' x y) ∧ ((rd R' x y).con i).held.length ≤ y.length ∧ Calls Tryz.prog 33 #[.pointer (some ⟨b, 0, none⟩), .pointer (some ⟨b, o, none⟩), .string (S x)] w' (RmQ K Cs B b G' w' (rd R' x y) (.tuple #[])))
 (n : Nat) (hn : (R.con i).held.length ≤ n) :
 Calls Tryz.prog 19 #[.pointer (some ⟨b, 0, none⟩), .pointer (some ⟨b, o, none⟩)] w (RmQ K Cs B b G w (runW rd i n R) (.tuple #[])) := by
 have HR := hid hR; have HO := hid ho; have HRD := hid hrd; have HM := hid hM; have HIH := hid hIh; have HI := hid hI; clear hR ho hrd hM hIh hI; go_enter Tryz.func19, Tryz.ntmps19; go_wp2
 go_loopw [4, 5] (fun v4 v5 wr => ∃ (m : Nat) (R' : Rom) (G' : List Nat), Hid (Inv R') ∧ Hid (RoomM K Cs B b G' R' wr) ∧ Hid (Stp b G w G' wr) ∧ Hid ((R'.con i).held.length ≤ m) ∧ Hid (runW rd i m R' = runW rd i n R)) (fun _ _ wr => jgu b o wr)
 case atStart => exact ⟨n, R, G, HI, HR, hid (Stp.refl _ _ _), hid hn, hid rfl⟩
 case round =>
  obtain ⟨m, R', G', HI', HR', HS', HL', HE'⟩ := hrel; obtain ⟨_, _, _, _, _, _, _, _, _, _, c6, _⟩ := HR'.out.cells hi HO.out; have HW' := hid (show jgu b o wr = (R'.con i).held.length by unfold jgu; rw [c6]; exact jd _); have hBW := HR.out.low HS'.out; have HMW := hid (HM.out wr hBW); obtain ⟨x, y, q, hxy⟩ : ∃ x y q, Lib.cut (R'.con i).held [13, 10] = (x, y, q) := ⟨_, _, _, rfl⟩
  by_cases hy : (R'.con i).due = [] ∧ q = true
  · obtain ⟨hd, rfl⟩ := hy; have HNX := hid (jka K Cs B b G' R' wr HR'.out i o hi HO.out HMW.out (HIH.out R' HI'.out) hd x y hxy); have HCL := hid (jjL hxy); have HST := hid (show ∀ (G2 : List Nat) (w2 : World), RoomM K Cs B b G2 (R'.put i (jeV (R'.con i) y)) w2 → Stp b G' wr G2 w2 → Inv (rd R' x y) ∧ ((rd R' x y).con i).held.length ≤ y.length ∧ Calls Tryz.prog 33 #[.pointer (some ⟨b, 0, none⟩), .pointer (some ⟨b, o, none⟩), .string (S x)] w2 (RmQ K Cs B b G2 w2 (rd R' x y) (.tuple #[])) from fun G2 w2 h1 h2 => HRD.out R' G2 w2 x y HI'.out hd hxy (HR.out.low (HS'.out.trans h2)) h1); have HUN := hid (show ∃ m', m = m' + 1 ∧ runW rd i m' (rd R' x y) = runW rd i n R from by
        have hl := HL'.out; have hc := HCL.out; obtain ⟨m', rfl⟩ : ∃ m', m = m' + 1 := ⟨m - 1, by omega⟩; refine ⟨m', rfl, ?_⟩; have he := HE'.out; simp only [runW] at he; rw [if_pos (by rw [hd, hxy]; rfl), hxy] at he; exact he)
    clear hd hxy c6 hBW; go_wp2_with fail; refine HNX.out.mono ?_; rintro e w2 ⟨rfl, G2, hR2, hs2⟩; obtain ⟨hI2, hL2, hC2⟩ := HST.out G2 w2 hR2 hs2; have HI2 := hid hI2; have HL2 := hid hL2; have HC2 := hid hC2; have HS2 := hid (HS'.out.trans hs2); clear hR2 hs2 hI2 hL2 hC2; go_wp2_with fail; refine HC2.out.mono ?_; rintro e w3 ⟨rfl, G3, hR3, hs3⟩; obtain ⟨_, _, _, _, _, _, _, _, _, _, d6, _⟩ := hR3.cells hi HO.out; have HW3 := hid (show jgu b o w3 < jgu b o wr by
        rw [HW'.out]; unfold jgu; rw [d6]; have h1 := HL2.out; have h2 := HCL.out
        show (S _).size < _
        rw [jd]; omega)
    have HR3 := hid hR3; have HS3 := hid (HS2.out.trans hs3); have HUN' := hid (show ∃ m', ((rd R' x y).con i).held.length ≤ m' ∧ runW rd i m' (rd R' x y) = runW rd i n R by
        obtain ⟨m', rfl, he⟩ := HUN.out; refine ⟨m', ?_, he⟩; have h1 := HL2.out; have h2 := HCL.out; have h3 := HL'.out; omega)
    clear hR3 hs3 d6 HUN HST HNX; go_wp2
    go_roundw
    case rel =>
        obtain ⟨m', h1, h2⟩ := HUN'.out; exact ⟨m', _, G3, HI2, HR3, HS3, hid h1, hid h2⟩
    case measure => exact HW3.out
  · have hno : (R'.con i).due ≠ [] ∨ Lib.cut (R'.con i).held [13, 10] = (x, y, false) := by
        by_cases hd : (R'.con i).due = []
        · right
          cases q with
          | true => exact absurd ⟨hd, rfl⟩ hy
          | false => exact hxy
        · exact .inl hd
    have HNX := hid (jlZ K Cs B b G' R' wr HR'.out i o hi HO.out HMW.out (HIH.out R' HI'.out) x y hno); have HEND := hid (show runW rd i n R = R'.put i (endC (R'.con i)) by
        rw [← HE'.out]; refine jmg ?_
        rcases hno with h | h
        · cases hd : (R'.con i).due with
          | nil => exact absurd hd h
          | cons a l => rfl
        · rw [h]; simp)
    clear hno hy hxy c6 hBW; go_wp2_with fail; refine HNX.out.mono ?_; rintro e w2 ⟨rfl, G2, hR2, hs2⟩; have HS2 := hid (HS'.out.trans hs2); obtain ⟨_, _, _, _, _, _, _, _, _, _, d6, _⟩ := hR2.cells hi HO.out; have HBG := hid (jhv K Cs B b G2 R' w2 hR2 i o hi HO.out 5); have HR2 := hid hR2; clear hR2 hs2
    by_cases hlong : 3000 < (R'.con i).held.length
    · have HEE := hid (show runW rd i n R = R'.put i (jbC (R'.con i) 5) by rw [HEND.out]; unfold endC; rw [if_pos hlong]); have hsz : (3000 : Int) < ((S (R'.con i).held).size : Nat) := by rw [jd]; omega
      clear hlong; go_wp2_with fail; refine HBG.out.mono ?_; rintro e w3 ⟨rfl, G3, hR3, hs3⟩; have HF := hid (show RmQ K Cs B b G w (runW rd i n R) (.tuple #[]) (.returned (.tuple #[])) w3 from ⟨rfl, G3, by rw [HEE.out]; exact hR3, HS2.out.trans hs3⟩); clear hR3 hs3; go_wp2; go_end0; exact HF.out
    · have HF := hid (show RmQ K Cs B b G w (runW rd i n R) (.tuple #[]) (.returned (.tuple #[])) w2 from ⟨rfl, G2, by rw [HEND.out]; unfold endC; rw [if_neg hlong, jc1 R' i hi]; exact HR2.out, HS2.out⟩); have hsz : ¬ (3000 : Int) < ((S (R'.con i).held).size : Nat) := by rw [jd]; omega
      clear hlong; go_wp2; go_end0; exact HF.out
structure Acu where
 kind : Int
 conn : Int
 user : Int
 keep : Int
 data : List UInt8
 ent : Ent
def jmS : Ent := ⟨0, [], 0, 0, [], []⟩
def acuC (x : Acu) : List Value := [.int .i64 x.kind, .int .i64 x.conn, .int .i64 x.user, .int .i64 x.keep, .string (S x.data), .int .i64 x.ent.kind, .string (S x.ent.box), .int .i64 x.ent.uid, .int .i64 x.ent.flags, .string (S x.ent.goal), .string (S x.ent.text)]
def geaC (g : Gea) : List Value := [.int .i64 g.kind, .int .i64 g.conn, .int .i64 g.user, .int .i64 g.a, .int .i64 g.b, .string g.text]
def GeaM (g : Gea) (cs : List Value) : Prop := cs = geaC g
def GesM (Q : Nat → Prop) (w : World) (v : Value) (l : List Gea) : Prop := RowM Q 6 GeaM w v l
theorem GesM.next {Q : Nat → Prop} {w w' : World} {v : Value} {l : List Gea} (h : GesM Q w v l) (hb : Below w.heap.size w w') : GesM Q w' v l := RowM.imp h (fun _ h => h) (Keeps.of_below hb) fun _ _ h => h
theorem GesM.at {Q : Nat → Prop} {w : World} {a : Option Addr} {n c : Nat} {l : List Gea} (h : GesM Q w (.slice a n c) l) {i : Nat} {x : Gea} (hx : l[i]? = some x) : ∃ b o, a = some ⟨b, o, none⟩ ∧ w.cell? ⟨b, o + i * 6, none⟩ = some (.int .i64 x.kind) ∧ w.cell? ⟨b, o + i * 6 + 1, none⟩ = some (.int .i64 x.conn) ∧ w.cell? ⟨b, o + i * 6 + 2, none⟩ = some (.int .i64 x.user) ∧ w.cell? ⟨b, o + i * 6 + 3, none⟩ = some (.int .i64 x.a) ∧ w.cell? ⟨b, o + i * 6 + 4, none⟩ = some (.int .i64 x.b) ∧ w.cell? ⟨b, o + i * 6 + 5, none⟩ = some (.string x.text) := by
 obtain ⟨a', c', hv, _, hr⟩ := h; simp only [Value.slice.injEq] at hv; obtain ⟨b, o, cs, ha, _, _, _, hc, hP⟩ := hr i x hx; have hcs : cs = geaC x := hP; subst hcs; exact ⟨b, o, by rw [hv.1, ha], hc 0 _ rfl, hc 1 _ rfl, hc 2 _ rfl, hc 3 _ rfl, hc 4 _ rfl, hc 5 _ rfl⟩
def ActM (x : Acu) (cs : List Value) : Prop := cs = acuC x
def AcsM (Q : Nat → Prop) (w : World) (v : Value) (l : List Acu) : Prop := RowM Q 11 ActM w v l
theorem jk0 : (Tryz.prog.info? 27).map (fun i => (i.zero, i.size, i.bytes)) = some (some (.agg #[.int .i64 0, .int .i64 0, .int .i64 0, .int .i64 0, .string ByteArray.empty, .int .i64 0, .string ByteArray.empty, .int .i64 0, .int .i64 0, .string ByteArray.empty, .string ByteArray.empty]), 11, 120) := by kernel_rfl
theorem jjq (l : List Acu) (x : Acu) : ((l ++ [x]).map acuC).flatten = (l.map acuC).flatten ++ acuC x := by simp
theorem RoomM.up {K : List (List UInt8)} {Cs : List (List Cmd)} {B b : Nat} {G : List Nat} {R : Rom} {w : World} (h : RoomM K Cs B b G R w) : w.cell? ⟨b, 0, none⟩ = some (.bool R.up) := by
 obtain ⟨X, hG, hB, hX, hM, hQ⟩ := h; exact hX.cell rfl
theorem bxE {w : World} {b : Nat} {t : TypeId} {v0 v1 v2 v3 v4 v5 : Value} (h : w.heap[b]? = some (.cells #[v0, v1, v2, v3, v4, v5] t)) : w.cell? ⟨b, 0, none⟩ = some v0 ∧ w.cell? ⟨b, 1, none⟩ = some v1 ∧ w.cell? ⟨b, 2, none⟩ = some v2 ∧ w.cell? ⟨b, 3, none⟩ = some v3 ∧ w.cell? ⟨b, 4, none⟩ = some v4 ∧ w.cell? ⟨b, 5, none⟩ = some v5 := by
 simp [World.cell?, h]
def tryR (R : Rom) (u : Nat) (x : Ent) (s' : Stt) : Rom := if R.waits < 8 then addR R u ⟨u, [x]⟩ s' else R
def tryE (R : Rom) : Int := if R.waits < 8 then 0 else 5
theorem jjs (K : List (List UInt8)) (Cs : List (List Cmd)) (B b : Nat) (G : List Nat) (R : Rom) (w : World) (hR : RoomM K Cs B b G R w) (u : Nat) (hu : u < 3) (h3 : R.states.length = 3) (x : Ent) (hF : Formed x) (p : Nat) (hE : EntsM (fun _ => True) w (.slice (some ⟨p, 0, none⟩) 1 1) [x]) (s' : Stt) (vb vs : Value) (hS : SttM (AvN B b G) w vb vs s') (hm : mayN R.tape.length R.tsyn = true) (hfit : R.tape.length + (frB ⟨u, [x]⟩).length ≤ 100000) (hw0 : 0 ≤ R.waits) :
 Calls Tryz.prog 48 #[.pointer (some ⟨b, 1, none⟩), .agg #[.int .i64 u, .slice (some ⟨p, 0, none⟩) 1 1], .agg #[vb, vs]] w (RmQ K Cs B b G w (tryR R u x s') (.int .i64 (tryE R))) := by
 unfold tryR tryE
 by_cases h8 : R.waits < 8
 · rw [if_pos h8, if_pos h8]; exact jj4 K Cs B b G R w hR u hu h3 [x] ⟨by constructor <;> (show _ ; simp) <;> omega, by simp, fun y hy => by simp at hy; subst hy; exact hF⟩ _ 1 _ hE s' vb vs hS hm hfit h8 hw0
 · rw [if_neg h8, if_neg h8]; exact jjt K Cs B b G R w hR _ _ _ _ (by omega)
def OrB (W : World) (B b : Nat) (G : List Nat) (s' : Stt) (p q : Value) (wx : World) : Prop := ∃ (P : Nat) (vb vs : Value), p = .pointer (some ⟨P, 0, none⟩) ∧ q = .int .i64 0 ∧ W.heap.size ≤ P ∧ wx.heap[P]? = some (.cells #[vb, vs] 44) ∧ SttM (AvN B b G) wx vb vs s' ∧ Below W.heap.size W wx
theorem OrB.old {W w3 : World} {B b H : Nat} {G : List Nat} {s' : Stt} {P : Nat} {vb vs u0 u1 : Value} {vm : List Value} (hP : W.heap.size ≤ P) (hb : w3.heap[P]? = some (.cells #[u0, u1] 44)) (ho : OwnS H w3 vb vs vm s') (hn : P < H) (hM : May s') (hH : ∀ k, H ≤ k → AvN B b G k) (hB : Below W.heap.size W w3) :
 OrB W B b G s' (.pointer (some ⟨P, 0, none⟩)) (.int .i64 0) ((w3.setCell ⟨P, 0, none⟩ vb).setCell ⟨P, 1, none⟩ vs) := by
 have h1 := heap_setCell_same w3 P 0 _ _ vb hb; have h2 := heap_setCell_same _ P 1 _ _ vs h1; exact ⟨P, vb, vs, rfl, rfl, hP, by simpa using h2, (ho.keep fun g hg => by
  have hne : g ≠ P := by have := (ho.lt hg).1; omega
  exact (Below.heap_setCell _ _ _ _ hne).trans (Below.heap_setCell _ _ _ _ hne)).stt hM fun g hg => hH g (ho.lt hg).1, (hB.setCell hP _).setCell hP _⟩
theorem OrB.new {W w3 : World} {B b H : Nat} {G : List Nat} {s' : Stt} {vb vs : Value} {vm : List Value} (ho : OwnS H w3 vb vs vm s') (hM : May s') (hH : ∀ k, H ≤ k → AvN B b G k) (hB : Below W.heap.size W w3) :
 OrB W B b G s' (.pointer (some ⟨w3.heap.size, 0, none⟩)) (.int .i64 0) (w3.alloc (.cells #[vb, vs] 44)) :=
 ⟨w3.heap.size, vb, vs, rfl, rfl, hB.size, heap_alloc_new _ _, (ho.next (nb0 _ _)).stt hM fun g hg => hH g (ho.lt hg).1, hB.alloc hB.size _⟩
theorem jmm (K : List (List UInt8)) (Cs : List (List Cmd)) (B b : Nat) (G : List Nat) (R : Rom) (w : World) (hR : RoomM K Cs B b G R w) (hup : R.up = true) (u : Nat) (hu : u < 3) (h3 : R.states.length = 3) (x : Ent) (hF : Formed x) (hk : x.kind ≠ 6) (s s' : Stt) (hs : R.states[u]? = some s) (hM : May s) (hd : doM s x = .ok s') (hm : mayN R.tape.length R.tsyn = true) (hfit : R.tape.length + (frB ⟨u, [x]⟩).length ≤ 100000) (hw0 : 0 ≤ R.waits) :
 Calls Tryz.prog 29 #[.pointer (some ⟨b, 0, none⟩), .int .i64 u, .agg #[.int .i64 x.kind, .string (S x.box), .int .i64 x.uid, .int .i64 x.flags, .string (S x.goal), .string (S x.text)]] w (RmQ K Cs B b G w (tryR R u x s') (.int .i64 (tryE R))) := by
 obtain ⟨W1, hW1⟩ : ∃ W1, W1 = w.alloc (.cells #[.int .i64 x.kind, .string (S x.box), .int .i64 x.uid, .int .i64 x.flags, .string (S x.goal), .string (S x.text)] 25) := ⟨_, rfl⟩; have hB1 : Below w.heap.size w W1 := by rw [hW1]; exact nb0 _ _
 have hE1 : W1.heap[w.heap.size]? = some (.cells #[.int .i64 x.kind, .string (S x.box), .int .i64 x.uid, .int .i64 x.flags, .string (S x.goal), .string (S x.text)] 25) := by rw [hW1]; exact heap_alloc_new _ _
 have c0 := (hR.next hB1).up; rw [hup] at c0; have hk6 : (x.kind == 6) = false := by simpa using hk
 have HF := hid hF; have HR1 := hid (hR.next hB1); have HB1 := hid hB1; have HE1 := hid hE1; have HMA := hid hM; have HD := hid hd; have HAL := hid (fun (P : Nat) (vb vs : Value) (wx : World) (hb : Below w.heap.size w wx) (p : Nat) (he : EntsM (fun _ => True) wx (.slice (some ⟨p, 0, none⟩) 1 1) [x]) (hS : SttM (AvN B b G) wx vb vs s') => jjs K Cs B b G R wx (hR.next hb) u hu h3 x hF p he s' vb vs hS hm hfit hw0); have HSR := hid (fun (wx : World) (hb : Below w.heap.size w wx) => (hR.next hb).stater h3 hu hs); have HFO := hid (jc5 x W1 hF); have HMY := hid (jeR hM hF hd); have HAV := hid (fun (k : Nat) (h : w.heap.size ≤ k) => show AvN B b G k from ⟨by have := hR.lt; omega, jfw hR h⟩); have HWE := hid hW1; have k1 : (u : Int) < 3 := by omega
 have k0 : (0 : Int) ≤ (u : Int) := by omega
 obtain ⟨x0, x1, x2, x3, x4, x5⟩ := bxE hE1; clear hR hup h3 hF hk hs hM hd hm hfit hw0 hW1 hE1; go_enter Tryz.func29, Tryz.ntmps29; go_upto_region 1 with fail
 rw [← HWE.out]; go_wp2_with fail; refine HFO.out.mono ?_; rintro e w2 ⟨rfl, hb2⟩; have hB2 : Below w.heap.size w w2 := hB1.trans (hb2.mono hB1.size); obtain ⟨g, cg, vb, vs, d6, d0, d1, hS2, hgb, hgl, hgf, _⟩ := HSR.out w2 hB2; have HE2 := hid ((hb2.block _ (Array.getElem?_eq_some_iff.1 HE1.out).1).trans HE1.out); clear x0 x1 x2 x3 x4 x5 c0; obtain ⟨x0, x1, x2, x3, x4, x5⟩ := bxE HE2.out; have HAP := hid (fun (u : World) (hu : Below w2.heap.size w2 u) => jht s vb vs x u _ (hS2.next hu) HMA.out HF.out); rw [HD.out] at HAP; have HB2 := hid hB2; have hbl : b < w2.heap.size := by have := HR1.out.lt.1; have := hb2.size; omega
 have hel : w.heap.size < w2.heap.size := (Array.getElem?_eq_some_iff.1 HE2.out).1; have nb : b ≠ w2.heap.size := by omega
 have ne : w.heap.size ≠ w2.heap.size := by omega
 have ng : g ≠ w2.heap.size := by omega
 have HGF := hid hgf; clear hb2 hB1 hB2 hS2 hgf; have HSZ2 := hid (show (w2.alloc (.cells #[.slice none 0 0, .slice none 0 0] 44)).drew.heap.size = w2.heap.size + 1 from by show (w2.alloc _).heap.size = _; simp); have HZL := hid (show w.heap.size ≤ w2.heap.size from by omega); go_upto_region 8 with fail
 go_cut [8, 9] (fun p q wx => OrB w2 B b G s' p q wx)
 case first =>
  go_region_held3 (fun w' => w'.cell? ⟨b, 6, none⟩ = some (.slice (some ⟨g, 0, none⟩) 3 cg) ∧ w'.cell? ⟨g, u * 2, none⟩ = some vb ∧ w'.cell? ⟨g, u * 2 + 1, none⟩ = some vs ∧ w'.cell? ⟨w.heap.size, 0, none⟩ = some (.int .i64 x.kind) ∧ w'.cell? ⟨w.heap.size, 1, none⟩ = some (.string (S x.box)) ∧ w'.cell? ⟨w.heap.size, 2, none⟩ = some (.int .i64 x.uid) ∧ w'.cell? ⟨w.heap.size, 3, none⟩ = some (.int .i64 x.flags) ∧ w'.cell? ⟨w.heap.size, 4, none⟩ = some (.string (S x.goal)) ∧ w'.cell? ⟨w.heap.size, 5, none⟩ = some (.string (S x.text))) (first | go_keep | (refine ⟨?_, ?_, ?_, ?_, ?_, ?_, ?_, ?_, ?_⟩ <;> exact jI (jI (by assumption) (by assumption)) (by assumption)))
   (first
        | (go_at_call 47
           with_reducible refine (HAP.out _ (Below.refl w2.heap.size w2).drew).mono ?_
           rintro e w3 ⟨hb3, vb3, vs3, vm3, rfl, ho3⟩; have HB3 := hid (show Below w2.heap.size w2 w3 from ((Below.refl w2.heap.size w2).drew).trans hb3); have hB3 := HB3.out; obtain ⟨a3, c3, rfl⟩ := ho3.small; obtain ⟨a4, c4, rfl⟩ := jx ho3.spool; have m0 := ja d6 hB3; have m1 := ja d0 hB3; have m2 := ja d1 hB3; have m3 := ja x0 hB3; have m4 := ja x1 hB3; have m5 := ja x2 hB3; have m6 := ja x3 hB3; have m7 := ja x4 hB3; have m8 := ja x5 hB3; have bx : b ≠ w3.heap.size := by have := hB3.size; omega
           have ex : w.heap.size ≠ w3.heap.size := by have := hB3.size; omega
           have gx : g ≠ w3.heap.size := by have := hB3.size; omega
           have HO3 := hid ho3; clear hb3 ho3 hB3)
        | (go_at_call 47
           with_reducible refine (HAP.out _ ((Below.refl w2.heap.size w2).alloc (Nat.le_refl _) (.cells #[.slice none 0 0, .slice none 0 0] 44)).drew).mono ?_
           rintro e w3 ⟨hb3, vb3, vs3, vm3, rfl, ho3⟩; have HB3 := hid (show Below w2.heap.size w2 w3 from (((Below.refl w2.heap.size w2).alloc (Nat.le_refl _) (.cells #[.slice none 0 0, .slice none 0 0] 44)).drew).trans (hb3.mono (by rw [HSZ2.out]; omega))); have hB3 := HB3.out; obtain ⟨a3, c3, rfl⟩ := ho3.small; obtain ⟨a4, c4, rfl⟩ := jx ho3.spool; have m0 := ja d6 hB3; have m1 := ja d0 hB3; have m2 := ja d1 hB3; have m3 := ja x0 hB3; have m4 := ja x1 hB3; have m5 := ja x2 hB3; have m6 := ja x3 hB3; have m7 := ja x4 hB3; have m8 := ja x5 hB3; have bx : b ≠ w3.heap.size := by have := hB3.size; omega
           have ex : w.heap.size ≠ w3.heap.size := by have := hB3.size; omega
           have gx : g ≠ w3.heap.size := by have := hB3.size; omega
           have HO3 := hid ho3; have HZ3 := hid (show w3.heap[w2.heap.size]? = some (.cells #[.slice none 0 0, .slice none 0 0] 44) from (hb3.block _ (by rw [HSZ2.out]; omega)).trans (heap_alloc_new w2 _)); obtain ⟨y0, y1, f0, f1⟩ := zu HZ3.out; clear hb3 ho3 hB3))
  all_goals
   first
        | (have HE := hid (OrB.old (W := w2) (P := w2.heap.size) (Nat.le_refl _) HZ3.out HO3.out (by rw [HSZ2.out]; omega) HMY.out (fun k hk => HAV.out k (by have := HZL.out; rw [HSZ2.out] at hk; omega)) HB3.out)
           go_wp2_with fail
           go_meet
           exact HE.out)
        | (have HE := hid (OrB.new (W := w2) HO3.out HMY.out (fun k (hk : w2.heap.size ≤ k) => HAV.out k (Nat.le_trans HZL.out hk)) HB3.out)
           go_wp2_with fail
           go_meet
           exact HE.out)
 case rest =>
  obtain ⟨P, vb5, vs5, rfl, rfl, hPw, hP5, hS5, hb5⟩ := hcut; obtain ⟨W5, rfl⟩ : ∃ W, W = wc := ⟨_, rfl⟩; have hBw : Below w.heap.size w W5 := HB2.out.trans (hb5.mono HB2.out.size); have hE5 := (hb5.block _ (Array.getElem?_eq_some_iff.1 HE2.out).1).trans HE2.out; obtain ⟨e0, e1, e2, e3, e4, e5⟩ := bxE hE5; obtain ⟨p0, p1, _, _⟩ := zu hP5; obtain ⟨W6, hW6⟩ : ∃ W6, W6 = (W5.alloc (.cells #[.int .i64 x.kind, .string (S x.box), .int .i64 x.uid, .int .i64 x.flags, .string (S x.goal), .string (S x.text)] 25)).drew := ⟨_, rfl⟩; have hB6 : Below W5.heap.size W5 W6 := by rw [hW6]; exact (nb0 _ _).drew
  have hBw6 := hBw.trans (hB6.mono hBw.size); have hn6 : W6.heap[W5.heap.size]? = some (.cells #[.int .i64 x.kind, .string (S x.box), .int .i64 x.uid, .int .i64 x.flags, .string (S x.goal), .string (S x.text)] 25) := by rw [hW6]; exact heap_alloc_new W5 _
  have HAD := hid (HAL.out P vb5 vs5 W6 hBw6 W5.heap.size (jhN W6 x _ hn6) (hS5.next hB6)); have HWE6 := hid hW6; have hPl := (Array.getElem?_eq_some_iff.1 hP5).1; have hel5 : w.heap.size < W5.heap.size := (Array.getElem?_eq_some_iff.1 hE5).1; have nP : P ≠ W5.heap.size := by omega
  have nE : w.heap.size ≠ W5.heap.size := by omega
  have HKP := hid (show ∀ (G' : List Nat) (w' : World), Stp b G W6 G' w' → w'.cell? ⟨P, 0, none⟩ = some vb5 ∧ w'.cell? ⟨P, 1, none⟩ = some vs5 ∧ w'.cell? ⟨w.heap.size, 0, none⟩ = some (.int .i64 x.kind) ∧ w'.cell? ⟨w.heap.size, 1, none⟩ = some (.string (S x.box)) ∧ w'.cell? ⟨w.heap.size, 2, none⟩ = some (.int .i64 x.uid) ∧ w'.cell? ⟨w.heap.size, 3, none⟩ = some (.int .i64 x.flags) ∧ w'.cell? ⟨w.heap.size, 4, none⟩ = some (.string (S x.goal)) ∧ w'.cell? ⟨w.heap.size, 5, none⟩ = some (.string (S x.text)) from fun G' w' hs => by
   have hh : ∀ k, w.heap.size ≤ k → k < W5.heap.size → w'.heap[k]? = W5.heap[k]? := fun k h1 h2 => (hs.block k (Nat.lt_of_lt_of_le h2 hB6.size) (HAV.out k h1).2).trans (hB6.block k h2)
   have q1 := hh P (by omega) hPl; have q2 := hh w.heap.size (Nat.le_refl _) hel5; exact ⟨(World.cell?_of_block q1).trans p0, (World.cell?_of_block q1).trans p1, (World.cell?_of_block q2).trans e0, (World.cell?_of_block q2).trans e1, (World.cell?_of_block q2).trans e2, (World.cell?_of_block q2).trans e3, (World.cell?_of_block q2).trans e4, (World.cell?_of_block q2).trans e5⟩)
  have HBW6 := hid hBw6; have HK6 := hid (HKP.out G W6 (Stp.refl _ _ _)); clear hBw hE5 hP5 hS5 hb5 hW6 hB6 hBw6 hn6 HAL HSR x0 x1 x2 x3 x4 x5 d6 d0 d1; go_upto_region 11 with fail
  go_region_held3 (fun w' => w'.cell? ⟨P, 0, none⟩ = some vb5 ∧ w'.cell? ⟨P, 1, none⟩ = some vs5 ∧ w'.cell? ⟨w.heap.size, 0, none⟩ = some (.int .i64 x.kind) ∧ w'.cell? ⟨w.heap.size, 1, none⟩ = some (.string (S x.box)) ∧ w'.cell? ⟨w.heap.size, 2, none⟩ = some (.int .i64 x.uid) ∧ w'.cell? ⟨w.heap.size, 3, none⟩ = some (.int .i64 x.flags) ∧ w'.cell? ⟨w.heap.size, 4, none⟩ = some (.string (S x.goal)) ∧ w'.cell? ⟨w.heap.size, 5, none⟩ = some (.string (S x.text))) (first | exact HQ9.out | (rw [← HWE6.out]; exact HK6.out) | go_keep)
   (first
        | (go_at_call 48
           rw [← HWE6.out]
           with_reducible refine HAD.out.mono ?_
           rintro e w9 ⟨rfl, G9, hR9, hs9⟩; have HQ9 := hid (HKP.out G9 w9 hs9); have HF := hid (show RmQ K Cs B b G w (tryR R u x s') (.int .i64 (tryE R)) (.returned (.int .i64 (tryE R))) w9 from ⟨rfl, G9, hR9, (Stp.of HBW6.out).trans hs9⟩); clear hR9 hs9))
  all_goals
   go_wp2; go_ret; exact HF.out
def je4 (R : Rom) (u : Nat) (x : Ent) (s' : Stt) : Rom := if R.waits < 8 then dueR (addR R u ⟨u, [x]⟩ s') (R.due ++ [(u : Int)]) else tuR R u 5
theorem jis (K : List (List UInt8)) (Cs : List (List Cmd)) (B b : Nat) (G : List Nat) (R : Rom) (w : World) (hR : RoomM K Cs B b G R w) (hup : R.up = true) (u : Nat) (hu : u < 3) (h3 : R.states.length = 3) (x : Ent) (hF : Formed x) (hk : x.kind ≠ 6) (s s' : Stt) (hs : R.states[u]? = some s) (hM : May s) (hd : doM s x = .ok s') (hm : mayN R.tape.length R.tsyn = true) (hfit : R.tape.length + (frB ⟨u, [x]⟩).length ≤ 100000) (hw0 : 0 ≤ R.waits) (hdl : R.due.length + 1 ≤ 1000000000) (hol : (R.orders.getD u []).length + 1 ≤ 1000000000) :
 Calls Tryz.prog 17 #[.pointer (some ⟨b, 0, none⟩), .int .i64 u, .agg #[.int .i64 x.kind, .string (S x.box), .int .i64 x.uid, .int .i64 x.flags, .string (S x.goal), .string (S x.text)]] w (RmQ K Cs B b G w (je4 R u x s') (.tuple #[])) := by
 obtain ⟨W1, hW1⟩ : ∃ W1, W1 = w.alloc (.cells #[.int .i64 x.kind, .string (S x.box), .int .i64 x.uid, .int .i64 x.flags, .string (S x.goal), .string (S x.text)] 25) := ⟨_, rfl⟩; have hB1 : Below w.heap.size w W1 := by rw [hW1]; exact nb0 _ _
 have hE1 : W1.heap[w.heap.size]? = some (.cells #[.int .i64 x.kind, .string (S x.box), .int .i64 x.uid, .int .i64 x.flags, .string (S x.goal), .string (S x.text)] 25) := by rw [hW1]; exact heap_alloc_new _ _
 obtain ⟨x0, x1, x2, x3, x4, x5⟩ := bxE hE1; have HTR := hid (jmm K Cs B b G R W1 (hR.next hB1) hup u hu h3 x hF hk s s' hs hM hd hm hfit hw0); have HB1 := hid hB1; have HWE := hid hW1; have HDL := hid hdl; have HOL := hid hol; obtain ⟨i0, hi, hz0, hz1, hz2⟩ := info_parts jk3; clear hR hup h3 hF hk hs hM hd hm hfit hw0 hW1 hB1 hE1 hdl hol; go_enter Tryz.func17, Tryz.ntmps17; go_upto_region 1 with fail
 rw [← HWE.out]; go_wp2_with fail; refine HTR.out.mono ?_; rintro e w2 ⟨rfl, G2, hR2, hs2⟩; have hS2 : Stp b G w G2 w2 := (Stp.of HB1.out).trans hs2; unfold tryR tryE at *
 by_cases h8 : R.waits < 8
 · rw [if_pos h8] at hR2 ⊢; obtain ⟨a, c, h37, hown, hBw, hend⟩ := hR2.duer; have hown : w2.ownsRow B 3 1 (.slice a R.due.length c) R.due.length (R.due.map fun k => .int .i64 k) := hown; have h37 : w2.cell? ⟨b, 37, none⟩ = some (.slice a R.due.length c) := h37; obtain ⟨WA, hWA⟩ : ∃ WA, WA = w2.alloc (.cells #[.int .i64 u] 3) := ⟨_, rfl⟩; have hBA : Below w2.heap.size w2 WA := by rw [hWA]; exact nb0 _ _
   have HOA := hid (jU hown hBA); have HNW := hid (show ∀ j v, ([.int .i64 u] : List Value)[j]? = some v → WA.cell? ((⟨w2.heap.size, 0, none⟩ : Addr).add j) = some v by rw [hWA]; exact zD w2 [.int .i64 u] _); have HBS := hid (show B ≤ WA.heap.size from Nat.le_trans hBw hBA.size); have HWA := hid hWA; have HEND := hid (fun (w1 : World) (p cap : Nat) (h1 : w1.ownsRow B 3 1 (.slice (some ⟨p, 0, none⟩) (R.due.length + 1) cap) (R.due.length + 1) ((R.due.map fun k => Value.int .i64 k) ++ [Value.int .i64 u])) (h2 : WA.grownBy w1 ((.slice a R.due.length c : Value).ownBlock)) (h3 : (.slice a R.due.length c : Value).ownBlock = some p ∨ p = WA.heap.size) => hend WA w1 p cap u hBA h1 h2 h3); have HFN := hid (show ∀ w', (∃ G', RoomM K Cs B b G' (dueR (addR R u ⟨u, [x]⟩ s') ((addR R u ⟨u, [x]⟩ s').due ++ [(u : Int)])) w' ∧ Stp b G2 w2 G' w') → RmQ K Cs B b G w (je4 R u x s') (.tuple #[]) (.returned (.tuple #[])) w' from fun w' ⟨G', q1, q2⟩ => by
    unfold je4; rw [if_pos h8]; exact ⟨rfl, G', q1, hS2.trans q2⟩)
   clear hR2 hs2 hS2 hown hBw hend hBA hWA h8 HTR
   go_wp2_with (first
    | (at_builtin; rw [← HWA.out]; refine wpList_append_lies _ rfl _ _ 69 rfl B 3 i0 _ 1 8 Tryz.underlying69 hi hz0 hz1 hz2 rfl (by decide) (.slice a R.due.length c) R.due.length (R.due.map fun k => .int .i64 k) rfl HOA.out ⟨w2.heap.size, 0, none⟩ 1 1 [.int .i64 u] rfl rfl HNW.out ?c1 (by omega) ?c2 ?c3 HBS.out _ rfl ?_)
    | fail)
   case c1 => simp [Value.oneCell']
   case c2 => have := HDL.out; unfold maxLen; omega
   case c3 => have := HDL.out; omega
   intro g cap w4 hown hgrow hat hlt; obtain ⟨z0, z1, hq⟩ := HEND.out w4 g cap hown hgrow hat; have HQ := hid (HFN.out _ hq); clear hown hgrow hat hq HEND HFN; go_wp2; go_end0; exact HQ.out
 · rw [if_neg h8] at hR2 ⊢; have HTU := hid (jem K Cs B b G2 R w2 hR2 u hu 5 HOL.out); have HFN := hid (show ∀ w', (∃ G', RoomM K Cs B b G' (tuR R u 5) w' ∧ Stp b G2 w2 G' w') → RmQ K Cs B b G w (je4 R u x s') (.tuple #[]) (.returned (.tuple #[])) w' from fun w' ⟨G', q1, q2⟩ => by
    unfold je4; rw [if_neg h8]; exact ⟨rfl, G', q1, hS2.trans q2⟩)
   clear hR2 hs2 hS2 h8 HTR; go_wp2_with fail; refine HTU.out.mono ?_; rintro e w4 ⟨⟨rfl, hq⟩, _⟩; have HQ := hid (HFN.out _ hq); clear hq HFN; go_wp2; go_end0; exact HQ.out
theorem jjP (K : List (List UInt8)) (Cs : List (List Cmd)) (B b : Nat) (G : List Nat) (R : Rom) (w : World) (hR : RoomM K Cs B b G R w) (hK : K.length = 3) (x : Acu) (hk : x.kind = 5) (u : Nat) (hu : x.user = u) (hu3 : u < 3) (R2 : Rom)
 (hO : ∀ w', Below w.heap.size w w' → Calls Tryz.prog 17 #[.pointer (some ⟨b, 0, none⟩), .int .i64 u, .agg #[.int .i64 x.ent.kind, .string (S x.ent.box), .int .i64 x.ent.uid, .int .i64 x.ent.flags, .string (S x.ent.goal), .string (S x.ent.text)]] w' (RmQ K Cs B b G w' R2 (.tuple #[]))) :
 Calls Tryz.prog 12 #[.pointer (some ⟨b, 0, none⟩), .agg (acuC x).toArray] w (RmQ K Cs B b G w R2 (.tuple #[])) := by
 obtain ⟨kd, cn, us, kp, da, en⟩ := x; simp only at hk hu hO; subst hk; subst hu; obtain ⟨W1, hW1⟩ : ∃ W1, W1 = w.alloc (.cells (acuC ⟨5, cn, u, kp, da, en⟩).toArray 27) := ⟨_, rfl⟩; have hB1 : Below w.heap.size w W1 := by rw [hW1]; exact nb0 _ _
 have hx : W1.heap[w.heap.size]? = some (.cells (acuC ⟨5, cn, u, kp, da, en⟩).toArray 27) := by rw [hW1]; exact heap_alloc_new w _
 have HX := hid (show ∀ v, Below W1.heap.size W1 v → v.cell? ⟨w.heap.size, 0, none⟩ = some (.int .i64 5) ∧ v.cell? ⟨w.heap.size, 2, none⟩ = some (.int .i64 u) ∧ v.cell? ⟨w.heap.size, 5, none⟩ = some (.int .i64 en.kind) ∧ v.cell? ⟨w.heap.size, 6, none⟩ = some (.string (S en.box)) ∧ v.cell? ⟨w.heap.size, 7, none⟩ = some (.int .i64 en.uid) ∧ v.cell? ⟨w.heap.size, 8, none⟩ = some (.int .i64 en.flags) ∧ v.cell? ⟨w.heap.size, 9, none⟩ = some (.string (S en.goal)) ∧ v.cell? ⟨w.heap.size, 10, none⟩ = some (.string (S en.text)) from fun v h => by
  have hz := (h.block w.heap.size (Array.getElem?_eq_some_iff.1 hx).1).trans hx
  simp [World.cell?, hz, acuC])
 obtain ⟨p0, p2, p5, p6, p7, p8, p9, p10⟩ := HX.out W1 (Below.refl _ _); have h34 : ∃ al cl, W1.cell? ⟨b, 34, none⟩ = some (.slice al 3 cl) := by
  obtain ⟨X, hG, hB, hX, hM, hQ⟩ := hR.next hB1; obtain ⟨al, cl, e⟩ := RowM.slice hQ.lo; exact ⟨al, cl, hX.cell (by rw [← hK, ← e]; rfl)⟩
 obtain ⟨al, cl, r34⟩ := h34; have HS := hid (fun (w' : World) (h : Below W1.heap.size W1 w') => hO w' (hB1.trans (h.mono hB1.size))); have HB1 := hid hB1; have HWE := hid hW1; unfold acuC at HWE ⊢; clear hR hx hB1 hW1 hO hK; go_enter Tryz.func12, Tryz.ntmps12; go_wp2; rw [← HWE.out]; have hg3 : decide ((5 : Int) = 5) = true := by decide
 have hu3' : (u : Int) < 3 := by omega
 go_quiet (fail)
 have HBQ := hid (qO W1 nq); obtain ⟨q0, q2, q5, q6, q7, q8, q9, q10⟩ := HX.out _ HBQ.out; go_wp2_with fail; refine (HS.out _ HBQ.out).mono ?_; rintro e w4 ⟨rfl, G4, hR4, hs4⟩; have HF := hid (show RmQ K Cs B b G w R2 (.tuple #[]) (.returned (.tuple #[])) w4 from ⟨rfl, G4, hR4, ((Stp.of HB1.out).trans (Stp.of HBQ.out)).trans hs4⟩); clear hR4 hs4; go_wp2; go_end0; exact HF.out
def relR (R : Rom) : Nat → Rom
 | 0 => R
 | k + 1 => (relR R k).put k (jdj ((relR R k).con k))
def jau : Acu := ⟨2, 0, 0, 0, [], jmS⟩
theorem jlN (K : List (List UInt8)) (Cs : List (List Cmd)) (B b : Nat) (G : List Nat) (R : Rom) (w : World) (hR : RoomM K Cs B b G R w) (hup : R.up = true) (R2 : Rom)
 (hS : ∀ w', Below w.heap.size w w' → Calls Tryz.prog 20 #[.pointer (some ⟨b, 0, none⟩)] w' (RmQ K Cs B b G w' R2 (.tuple #[]))) :
 Calls Tryz.prog 12 #[.pointer (some ⟨b, 0, none⟩), .agg (acuC jau).toArray] w (RmQ K Cs B b G w R2 (.tuple #[])) := by
 obtain ⟨W1, hW1⟩ : ∃ W1, W1 = w.alloc (.cells (acuC jau).toArray 27) := ⟨_, rfl⟩; have hB1 : Below w.heap.size w W1 := by rw [hW1]; exact nb0 _ _
 have hx : W1.heap[w.heap.size]? = some (.cells (acuC jau).toArray 27) := by rw [hW1]; exact heap_alloc_new w _
 have p0 : W1.cell? ⟨w.heap.size, 0, none⟩ = some (.int .i64 2) := by simp [World.cell?, hx, acuC, jau]
 have c0 := (hR.next hB1).up; rw [hup] at c0; have HS := hid (fun (w' : World) (h : Below W1.heap.size W1 w') => hS w' (hB1.trans (h.mono hB1.size))); have HB1 := hid hB1; have HWE := hid hW1; unfold acuC jau jmS at HWE ⊢; clear hR hup hx hB1 hW1 hS; go_enter Tryz.func12, Tryz.ntmps12; go_wp2; rw [← HWE.out]; have hg3 : decide ((2 : Int) = 5) = false := by decide
 go_quiet (fail)
 have HBQ := hid (qO W1 nq); go_wp2_with fail; refine (HS.out _ HBQ.out).mono ?_; rintro e w4 ⟨rfl, G4, hR4, hs4⟩; have HF := hid (show RmQ K Cs B b G w R2 (.tuple #[]) (.returned (.tuple #[])) w4 from ⟨rfl, G4, hR4, ((Stp.of HB1.out).trans (Stp.of HBQ.out)).trans hs4⟩); clear hR4 hs4; go_wp2; go_end0; exact HF.out
def vS (R : Rom) (l : List Int) : Rom := l.foldl (fun R u => tuR R u.toNat 0) R
theorem jhe (R : Rom) (l : List Int) (x : Int) : vS R (l ++ [x]) = tuR (vS R l) x.toNat 0 := by simp [vS]
theorem jel (R : Rom) (l : List Int) : (vS R l).due = R.due := by
 induction l generalizing R with
 | nil => rfl
 | cons x t ih => exact ih _
theorem jmo (R : Rom) (u v : Nat) (e : Int) : ((tuR R u e).orders.getD v []).length ≤ (R.orders.getD v []).length + 1 := by
 show ((R.orders.set u _).getD v []).length ≤ _
 rw [List.getD_eq_getElem?_getD, List.getElem?_set]
 by_cases h : u = v
 · subst h; rw [if_pos rfl]; split
   · simp
   · simp
 · rw [if_neg h, ← List.getD_eq_getElem?_getD]; omega
theorem ji9 (R : Rom) (l : List Int) (v : Nat) : ((vS R l).orders.getD v []).length ≤ (R.orders.getD v []).length + l.length := by
 induction l generalizing R with
 | nil => simp [vS]
 | cons x t ih =>
   have h1 := ih (tuR R x.toNat 0); have h2 := jmo R x.toNat v 0; rw [List.length_cons]; exact Nat.le_trans h1 (by omega)
theorem RoomM.dueAt {K : List (List UInt8)} {Cs : List (List Cmd)} {B b : Nat} {G : List Nat} {R : Rom} {w : World} (h : RoomM K Cs B b G R w) {k : Nat} {x : Int} (hx : R.due[k]? = some x) : ∃ g c, w.cell? ⟨b, 37, none⟩ = some (.slice (some ⟨g, 0, none⟩) R.due.length c) ∧ w.cell? ⟨g, k, none⟩ = some (.int .i64 x) := by
 obtain ⟨X, hG, hB, hX, hM, hQ⟩ := h; have ho := hM.own (intR 3 X.du R.due) (by simp [jO]); have ho : w.ownsRow B 3 1 X.du R.due.length (R.due.map fun k => .int .i64 k) := ho; obtain ⟨g, c, cur, hv, _, hc⟩ := jfM ho (by have := (List.getElem?_eq_some_iff.1 hx).1; omega); exact ⟨g, c, hX.cell (by rw [← hv]; rfl), hc k _ (by rw [List.getElem?_map, hx]; rfl)⟩
theorem RoomM.dueLen {K : List (List UInt8)} {Cs : List (List Cmd)} {B b : Nat} {G : List Nat} {R : Rom} {w : World} (h : RoomM K Cs B b G R w) : ∃ a c, w.cell? ⟨b, 37, none⟩ = some (.slice a R.due.length c) := by
 obtain ⟨a, c, h1, _⟩ := h.duer; exact ⟨a, c, h1⟩
theorem RoomM.dueless {K : List (List UInt8)} {Cs : List (List Cmd)} {B b : Nat} {G : List Nat} {R : Rom} {w : World} (h : RoomM K Cs B b G R w) : ∃ G', RoomM K Cs B b G' (dueR R []) (w.setCell ⟨b, 37, none⟩ (.slice none 0 0)) ∧ Stp b G w G' (w.setCell ⟨b, 37, none⟩ (.slice none 0 0)) := by
 obtain ⟨X, hG, hB, hX, hM, hQ⟩ := h; have hrow : ∀ v l, jO (dueR R l) { X with du := v } = [intR 3 X.c0.l R.c0.told, intR 3 X.c1.l R.c1.told, intR 3 X.c2.l R.c2.told] ++ intR 3 v l :: ([sttR X.st X.sv, ordR X.od X.os] ++ (List.range 3).map fun u => intR 37 (X.os.getD u (.slice none 0 0)) (R.orders.getD u [])) := fun v l => rfl
 have e1 : jO R X = _ := hrow X.du R.due; refine ⟨mB (jO (dueR R []) { X with du := .slice none 0 0 }), ?_⟩; have hM' := hM; rw [e1] at hM'; obtain ⟨k1, k2⟩ := hM'.grow (w' := w) (H := w.heap.size) (r' := intR 3 (.slice none 0 0) []) ⟨rfl, rfl, rfl, Nat.le_refl _, fun _ _ _ => rfl⟩ (World.ownsRow_nil _ _ _ _) (Nat.le_refl _) (fun g hg => by cases hg); rw [← hrow] at k1; have hs := (show Stp b G w (mB (jO (dueR R []) { X with du := .slice none 0 0 })) w from by rw [hG, e1]; exact k2).box 37 (.slice none 0 0); have q := hQ.stp hs; exact ⟨⟨{ X with du := .slice none 0 0 }, rfl, hB, (hX.put 37 _).ty rfl, k1.box 37 _, q.k0, q.k1, q.k2, q.lo, q.sc, q.sf, q.sv, q.os, q.td⟩, hs⟩
theorem jiO (K : List (List UInt8)) (Cs : List (List Cmd)) (B b : Nat) (G : List Nat) (R : Rom) (w : World) (hR : RoomM K Cs B b G R w) (hm : mayN R.tape.length R.tsyn = true) (hsy : 0 ≤ R.syn ∧ R.syn ≤ 1000000) (hwa : 0 ≤ R.waits ∧ R.waits ≤ 1000000) (hn : 0 < R.states.length ∧ R.states.length ≤ 1000) (hdu : ∀ x ∈ R.due, 0 ≤ x ∧ x < 3) (hod : ∀ v, v < 3 → (R.orders.getD v []).length + R.due.length ≤ 1000000000)
 (RD : Rom) (hRD : RD = dueR (vS (vq R) R.due) [])
 (ht : ∀ k, k < 3 → ((relR RD k).con k).told.length + ((relR RD k).con k).due.length ≤ 1000000000) (st : Nat → Rom) (h0 : st 0 = relR RD 3)
 (hW : ∀ (k : Nat) (G' : List Nat) (w' : World), k < 3 → Below B w w' → RoomM K Cs B b G' (st k) w' → Calls Tryz.prog 19 #[.pointer (some ⟨b, 0, none⟩), .pointer (some ⟨b, 7 + k * 9, none⟩)] w' (RmQ K Cs B b G' w' (st (k + 1)) (.tuple #[]))) :
 Calls Tryz.prog 20 #[.pointer (some ⟨b, 0, none⟩)] w (RmQ K Cs B b G w (st 3) (.tuple #[])) := by
 have HLS := hid (jii K Cs B b G R w hR hm hsy hwa hn); have HR := hid hR; have HW := hid hW; have HT := hid ht; have H0 := hid h0; have HDU := hid hdu; have HOD := hid (show ∀ v, v < 3 → ((vq R).orders.getD v []).length + R.due.length ≤ 1000000000 from hod); obtain ⟨D, hD⟩ : ∃ D, D = R.due := ⟨_, rfl⟩; have HLD := hid (show (vq R).due = D from hD.symm); rw [← hD] at hRD HDU HOD; have HRD := hid hRD; clear hR hm hsy hwa hn hW ht h0 hdu hod hD hRD; go_enter Tryz.func20, Tryz.ntmps20; go_wp2_with fail; refine HLS.out.mono ?_; rintro e w1 ⟨rfl, G1, hR1, hs1⟩; have hdl : D.length ≤ 1000000000 := by have := HOD.out 0 (by omega); omega
 obtain ⟨ad, cd, hcd⟩ := hR1.dueLen; rw [HLD.out] at hcd; have HC := hid hcd; have HR1 := hid hR1; have HS1 := hid hs1; clear hR1 hs1; go_wp2
 go_loopw [3, 15] (fun _ i wr => ∃ (k : Nat) (G' : List Nat), k ≤ D.length ∧ i = .int .i64 k ∧ Hid (RoomM K Cs B b G' (vS (vq R) (D.take k)) wr) ∧ Hid (Stp b G w G' wr) ∧ Hid (wr.cell? ⟨b, 37, none⟩ = some (.slice ad D.length cd))) (fun _ i _ => D.length - (intOf i).toNat)
 case atStart => exact ⟨0, G1, Nat.zero_le _, rfl, HR1, HS1, HC⟩
 case round =>
  obtain ⟨k, G', hk, rfl, HRk, HSk, HCk⟩ := hrel
  by_cases hlt : k < D.length
  · have k1 : (k : Int) < (D.length : Int) := by omega
    have k0 : (0 : Int) ≤ (k : Int) := by omega
    obtain ⟨x, hx⟩ : ∃ x, D[k]? = some x := ⟨_, List.getElem?_eq_getElem hlt⟩; obtain ⟨hx0, hx3⟩ := HDU.out x (List.mem_of_getElem? hx); obtain ⟨v, rfl⟩ : ∃ v : Nat, x = (v : Int) := ⟨x.toNat, by omega⟩; have hv : v < 3 := by omega
    obtain ⟨g, c, q1, q2⟩ := HRk.out.dueAt (k := k) (x := (v : Int)) (by rw [jel, HLD.out]; exact hx); rw [jel, HLD.out, HCk.out] at q1; simp only [Option.some.injEq, Value.slice.injEq, true_and] at q1; obtain ⟨rfl, rfl⟩ := q1; have HTU := hid (jem K Cs B b G' _ wr HRk.out v hv 0 (by
        have h1 := ji9 (vq R) (D.take k) v; have h2 := HOD.out v hv; rw [List.length_take] at h1; omega))
    have HTK := hid (show vS (vq R) (D.take (k + 1)) = tuR (vS (vq R) (D.take k)) v 0 by
        rw [List.take_add_one, hx]
        show vS _ (D.take k ++ [(v : Int)]) = _
        rw [jhe]; rfl)
    clear hx hx0 hx3; go_wp2_with fail; refine HTU.out.mono ?_; rintro e w3 ⟨⟨rfl, G3, hR3, hs3⟩, hb3⟩; have HR3 := hid (show RoomM K Cs B b G3 (vS (vq R) (D.take (k + 1))) w3 by rw [HTK.out]; exact hR3); have HS3 := hid (HSk.out.trans hs3); have HC3 := hid ((World.cell?_of_block hb3).trans HCk.out); clear hR3 hs3 hb3; go_wp2
    go_roundw
    case rel => first | exact ⟨k + 1, G3, by omega, by go_num, HR3, HS3, HC3⟩ | ((repeat apply Exists.intro); exact ⟨⟨k + 1, G3, by omega, by go_num, HR3, HS3, HC3⟩, rfl⟩)
    case measure => simp [intOf]; omega
  · have k1 : ¬ (k : Int) < (D.length : Int) := by omega
    obtain rfl : k = D.length := by omega
    obtain ⟨G2, hR2, hs2⟩ := HRk.out.dueless; have hz37 := HRk.out.frz 37; have hc37 := HCk.out; obtain ⟨W2, hW2⟩ : ∃ W2, W2 = wr.setCell ⟨b, 37, none⟩ (.slice none 0 0) := ⟨_, rfl⟩; rw [← hW2] at hR2 hs2; have HR2 := hid (show RoomM K Cs B b G2 (relR RD 0) W2 by
        show RoomM K Cs B b G2 RD W2
        rw [HRD.out, ← List.take_length (l := D)]
        simpa using hR2)
    have HS2 := hid (HSk.out.trans hs2); have HWE := hid hW2; clear hR2 hs2 hW2; go_wp2; rw [← HWE.out]
    go_loopw [26] (fun i wr => ∃ (k : Nat) (G' : List Nat), k ≤ 3 ∧ i = .int .i64 k ∧ Hid (RoomM K Cs B b G' (relR RD k) wr) ∧ Hid (Stp b G w G' wr)) (fun i _ => 3 - (intOf i).toNat)
    case atStart => exact ⟨0, G2, by omega, rfl, HR2, HS2⟩
    case round =>
        obtain ⟨k, G', hk, rfl, HRk, HSk⟩ := hrel
        by_cases hlt : k < 3
        · have k1 : (k : Int) < 3 := by omega
          have k0 : (0 : Int) ≤ (k : Int) := by omega
          have HRL := hid (je8 K Cs B b G' (relR RD k) wr HRk.out k (7 + k * 9) hlt rfl (HT.out k hlt)); go_wp2_with fail; refine HRL.out.mono ?_; rintro e w3 ⟨rfl, G3, hR3, hs3⟩; have HR3 := hid (show RoomM K Cs B b G3 (relR RD (k + 1)) w3 from hR3); have HS3 := hid (HSk.out.trans hs3); clear hR3 hs3; go_wp2
          go_roundw
          case rel => first | exact ⟨k + 1, G3, by omega, by go_num, HR3, HS3⟩ | ((repeat apply Exists.intro); exact ⟨⟨k + 1, G3, by omega, by go_num, HR3, HS3⟩, rfl⟩)
          case measure => simp [intOf]; omega
        · have k1 : ¬ (k : Int) < 3 := by omega
          obtain rfl : k = 3 := by omega
          obtain ⟨V3, hV3⟩ : ∃ V3, V3 = wr := ⟨_, rfl⟩; subst hV3; have HV := hid (show RoomM K Cs B b G' (st 0) V3 from by rw [H0.out]; exact HRk.out); go_wp2
          go_loopw [36] (fun i wr => ∃ (k : Nat) (G' : List Nat), k ≤ 3 ∧ i = .int .i64 k ∧ Hid (RoomM K Cs B b G' (st k) wr) ∧ Hid (Stp b G w G' wr)) (fun i _ => 3 - (intOf i).toNat)
          case atStart => exact ⟨0, G', by omega, rfl, HV, HSk⟩
          case round =>
            obtain ⟨k, G', hk, rfl, HRk, HSk⟩ := hrel
            by_cases hlt : k < 3
            · have k1 : (k : Int) < 3 := by omega
              have k0 : (0 : Int) ≤ (k : Int) := by omega
              have HRL := hid (HW.out k G' wr hlt (HR.out.low HSk.out) HRk.out); go_wp2_with fail; refine HRL.out.mono ?_; rintro e w3 ⟨rfl, G3, hR3, hs3⟩; have HR3 := hid hR3; have HS3 := hid (HSk.out.trans hs3); clear hR3 hs3; go_wp2
              go_roundw
              case rel => first | exact ⟨k + 1, G3, by omega, by go_num, HR3, HS3⟩ | ((repeat apply Exists.intro); exact ⟨⟨k + 1, G3, by omega, by go_num, HR3, HS3⟩, rfl⟩)
              case measure => simp [intOf]; omega
            · have k1 : ¬ (k : Int) < 3 := by omega
              obtain rfl : k = 3 := by omega
              go_wp2; go_end0; exact ⟨rfl, G', HRk.out, HSk.out⟩
theorem hidp {p : Prop} (h : p) : Hid p := h
theorem jaG {a b : ByteArray} (h : ¬ a = b) : (a.toList == b.toList) = false := by
 rw [beq_eq_false_iff_ne]; intro e; rw [Lib.toList_data, Lib.toList_data] at e
 apply h
 obtain ⟨⟨x⟩⟩ := a; obtain ⟨⟨y⟩⟩ := b; simp only at e; rw [e]
theorem qh (a : ByteArray) : (a.toList == a.toList) = true := by simp
theorem jl6 (c u p ek eu ef : Int) (d eb eg et : List UInt8) (w : World) : Calls Tryz.prog 28 #[.agg #[.int .i64 2, .int .i64 c, .int .i64 u, .int .i64 p, .string (S d), .int .i64 ek, .string (S eb), .int .i64 eu, .int .i64 ef, .string (S eg), .string (S et)]] w fun e w' => e = .returned (.agg #[.int .i64 2, .int .i64 0, .int .i64 0, .int .i64 0, .string (⟨#[]⟩), .int .i64 0, .string (⟨#[]⟩), .int .i64 0, .int .i64 0, .string (⟨#[]⟩), .string (⟨#[]⟩)]) ∧ Below w.heap.size w w' := by
 have HB := hidp (show ∀ a b c : Obj, Below w.heap.size w (((w.alloc a).alloc b).alloc c) from fun a b c => (((Below.refl _ _).alloc (Nat.le_refl _) a).alloc (by simp) b).alloc (by simp; omega) c); go_enter Tryz.func28, Tryz.ntmps28; go_wp2
 all_goals
  refine bodyPost_ret (v := .agg #[.int .i64 2, .int .i64 0, .int .i64 0, .int .i64 0, .string (⟨#[]⟩), .int .i64 0, .string (⟨#[]⟩), .int .i64 0, .int .i64 0, .string (⟨#[]⟩), .string (⟨#[]⟩)]) (by simp [results, Tryz.results28, go_sem, *]) rfl ?_
  first | exact ⟨rfl, HB.out _ _ _⟩ | exact ⟨rfl, (HB.out _ _ _).drew⟩
theorem jl7 (c u p ek eu ef : Int) (d eb eg et : List UInt8) (w : World) : Calls Tryz.prog 28 #[.agg #[.int .i64 5, .int .i64 c, .int .i64 u, .int .i64 p, .string (S d), .int .i64 ek, .string (S eb), .int .i64 eu, .int .i64 ef, .string (S eg), .string (S et)]] w fun e w' => e = .returned (.agg #[.int .i64 5, .int .i64 0, .int .i64 u, .int .i64 0, .string (⟨#[]⟩), .int .i64 ek, .string (S eb), .int .i64 eu, .int .i64 ef, .string (S eg), .string (S et)]) ∧ Below w.heap.size w w' := by
 have HB := hidp (show ∀ a b c : Obj, Below w.heap.size w (((w.alloc a).alloc b).alloc c) from fun a b c => (((Below.refl _ _).alloc (Nat.le_refl _) a).alloc (by simp) b).alloc (by simp; omega) c); go_enter Tryz.func28, Tryz.ntmps28; go_wp2
 go_region_law (fail)
 all_goals
  go_wp2; refine bodyPost_ret (v := .agg #[.int .i64 5, .int .i64 0, .int .i64 u, .int .i64 0, .string (⟨#[]⟩), .int .i64 ek, .string (S eb), .int .i64 eu, .int .i64 ef, .string (S eg), .string (S et)]) (by simp [results, Tryz.results28, go_sem, *]) rfl ?_
  first | exact ⟨rfl, HB.out _ _ _⟩ | exact ⟨rfl, (HB.out _ _ _).drew⟩
theorem jhp (k c u p ek eu ef yc yu yp yek yeu yef : Int) (d eb eg et yd yeb yeg yet : ByteArray) (h : ¬ (c = yc ∧ u = yu ∧ p = yp ∧ d = yd ∧ ek = yek ∧ eb = yeb ∧ eu = yeu ∧ ef = yef ∧ eg = yeg ∧ et = yet)) (w : World) : (binOp .neq 27 (.agg #[.int .i64 k, .int .i64 c, .int .i64 u, .int .i64 p, .string d, .int .i64 ek, .string eb, .int .i64 eu, .int .i64 ef, .string eg, .string et]) (.agg #[.int .i64 k, .int .i64 yc, .int .i64 yu, .int .i64 yp, .string yd, .int .i64 yek, .string yeb, .int .i64 yeu, .int .i64 yef, .string yeg, .string yet])).run Tryz.prog w = .ok (.bool true) w := by
 by_cases h0 : c = yc
 · subst h0
   by_cases h1 : u = yu
   · subst h1
     by_cases h2 : p = yp
     · subst h2
       by_cases h3 : d = yd
       · subst h3; have e3 := qh d
         by_cases h4 : ek = yek
         · subst h4
           by_cases h5 : eb = yeb
           · subst h5; have e5 := qh eb
             by_cases h6 : eu = yeu
             · subst h6
               by_cases h7 : ef = yef
               · subst h7
                 by_cases h8 : eg = yeg
                 · subst h8; have e8 := qh eg; have h9 : ¬ et = yet := fun h9 => h ⟨rfl, rfl, rfl, rfl, rfl, rfl, rfl, rfl, rfl, h9⟩
                   have e9 := jaG h9; clear h h9
                   simp [go_sem, *]
                 · have e8 := jaG h8; clear h h8
                   simp [go_sem, *]
               · have e7 : (ef == yef) = false := by rw [beq_eq_false_iff_ne]; exact h7
                 clear h h7
                 simp [go_sem, *]
             · have e6 : (eu == yeu) = false := by rw [beq_eq_false_iff_ne]; exact h6
               clear h h6
               simp [go_sem, *]
           · have e5 := jaG h5; clear h h5
             simp [go_sem, *]
         · have e4 : (ek == yek) = false := by rw [beq_eq_false_iff_ne]; exact h4
           clear h h4
           simp [go_sem, *]
       · have e3 := jaG h3; clear h h3
         simp [go_sem, *]
     · have e2 : (p == yp) = false := by rw [beq_eq_false_iff_ne]; exact h2
       clear h h2
       simp [go_sem, *]
   · have e1 : (u == yu) = false := by rw [beq_eq_false_iff_ne]; exact h1
     clear h h1
     simp [go_sem, *]
 · have e0 : (c == yc) = false := by rw [beq_eq_false_iff_ne]; exact h0
   clear h h0
   simp [go_sem, *]
theorem jjp (k c u p ek eu ef : Int) (d eb eg et : ByteArray) (w : World) : (binOp .neq 27 (.agg #[.int .i64 k, .int .i64 c, .int .i64 u, .int .i64 p, .string d, .int .i64 ek, .string eb, .int .i64 eu, .int .i64 ef, .string eg, .string et]) (.agg #[.int .i64 k, .int .i64 c, .int .i64 u, .int .i64 p, .string d, .int .i64 ek, .string eb, .int .i64 eu, .int .i64 ef, .string eg, .string et])).run Tryz.prog w = .ok (.bool false) w := by
 have e1 := qh d; have e2 := qh eb; have e3 := qh eg; have e4 := qh et
 simp [go_sem, *]
theorem jkV (k c u p ek eu ef yc yu yp yek yeu yef : Int) (d eb eg et yd yeb yeg yet : ByteArray) (h : c = yc ∧ u = yu ∧ p = yp ∧ d = yd ∧ ek = yek ∧ eb = yeb ∧ eu = yeu ∧ ef = yef ∧ eg = yeg ∧ et = yet) (w : World) : (binOp .neq 27 (.agg #[.int .i64 k, .int .i64 c, .int .i64 u, .int .i64 p, .string d, .int .i64 ek, .string eb, .int .i64 eu, .int .i64 ef, .string eg, .string et]) (.agg #[.int .i64 k, .int .i64 yc, .int .i64 yu, .int .i64 yp, .string yd, .int .i64 yek, .string yeb, .int .i64 yeu, .int .i64 yef, .string yeg, .string yet])).run Tryz.prog w = .ok (.bool false) w := by
 obtain ⟨rfl, rfl, rfl, rfl, rfl, rfl, rfl, rfl, rfl, rfl⟩ := h; exact jjp _ _ _ _ _ _ _ _ _ _ _ w
end Go.Proofs.YtgooljlpffnaeaaGreatDoor
