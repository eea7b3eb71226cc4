/-
  What a room does with what a connection holds: line by line. The walk, over what reading a line does.
  What a room does with what a connection feeds: the walk, over what its work does.
  Of an act just what its kind has: the walks of post.bare; two acts of one kind held against each other.
  post.Check and the reference's ActFault: the walks. actE is the plain meaning of P13.1.
  What a room does with a line that hands nothing over, fed whole: the walk put together.
  What a room tells of what was done: the walk.
-/
import Derived.Test.YtlfgemnmfhknfaaGreatDoorZQPoRm6
import Derived.Test.YtlfgemnmfhknfaaGreatDoorZQPoAc4
import Derived.Deep.QuietTactic
import Derived.BigQuiet
import Derived.Test.YtlfgemnmfhknfaaGreatDoorZQPure5
import Derived.Test.YtlfgemnmfhknfaaGreatDoorRows
import Derived.WalkKit
import Derived.Laws.StructEq
import Derived.Deep.RegionLaw
import Derived.Deep.RegionHeld3
import Derived.Deep.DeepCutAuto
import Derived.Test.YtlfgemnmfhknfaaGreatDoorZQTokMark6
import Derived.Deep.MidRow
namespace Go.Proofs.YtlfgemnmfhknfaaGreatDoor
open Go.RowKit Go.Proofs
def jgx (b o : Nat) (w : World) : Nat := match w.cell? ⟨b, o + 6, none⟩ with
  | some (.string s) => s.size
  | _ => 0
theorem jhu {rd : Rom → List UInt8 → List UInt8 → Rom} {i n : Nat} {R : Rom} (h : ((R.con i).due.isEmpty && (Lib.cut (R.con i).held [13, 10]).2.2) = false) : runW rd i n R = R.put i (endC (R.con i)) := by
  cases n with
  | zero => rfl
  | succ n => simp only [runW]; rw [if_neg (by rw [h]; decide)]
theorem jka {s x y : List UInt8} (h : Lib.cut s [13, 10] = (x, y, true)) : y.length < s.length := by
  have h1 : ze s = true := by
    cases h0 : ze s with
    | true => rfl
    | false => rw [jfT h0] at h; cases h
  have := jlY h1; rw [h] at this; exact this
set_option maxHeartbeats 2000000 in
set_option maxRecDepth 100000 in
theorem jkt (K : List (List UInt8)) (Cs : List (List Cmd)) (B b : Nat) (G : List Nat) (R : Rom) (w : World) (hR : RoomM K Cs B b G R w) (i o : Nat) (hi : i < 3) (ho : o = 7 + i * 9) (rd : Rom → List UInt8 → List UInt8 → Rom) (Inv : Rom → Prop) (hI : Inv R) (hM : ∀ w', Below B w w' → maxLenCell w')
    (hIh : ∀ R', Inv R' → (R'.con i).held.length ≤ 1000000000)
    (hrd : ∀ (R' : Rom) (G' : List Nat) (w' : World) (x y : List UInt8), Inv R' → (R'.con i).due = [] → Lib.cut (R'.con i).held [13, 10] = (x, y, true) → Below B w w' → RoomM K Cs B b G' (R'.put i (jdK (R'.con i) y)) w' →
      Inv (rd R' x y) ∧ ((rd R' x y).con i).held.length ≤ y.length ∧ Calls Tryz.prog 47 #[.pointer (some ⟨b, 0, none⟩), .pointer (some ⟨b, o, none⟩), .string (S x)] w' (RmQ K Cs B b G' w' (rd R' x y) (.tuple #[])))
    (n : Nat) (hn : (R.con i).held.length ≤ n) :
    Calls Tryz.prog 30 #[.pointer (some ⟨b, 0, none⟩), .pointer (some ⟨b, o, none⟩)] w (RmQ K Cs B b G w (runW rd i n R) (.tuple #[])) := by
  have HR := hid hR; have HO := hid ho; have HRD := hid hrd; have HM := hid hM; have HIH := hid hIh; have HI := hid hI; clear hR ho hrd hM hIh hI; go_enter Tryz.func30, Tryz.ntmps30; go_wp2
  go_loopw [4, 5] (fun v4 v5 wr => ∃ (m : Nat) (R' : Rom) (G' : List Nat), Hid (Inv R') ∧ Hid (RoomM K Cs B b G' R' wr) ∧ Hid (Stp b G w G' wr) ∧ Hid ((R'.con i).held.length ≤ m) ∧ Hid (runW rd i m R' = runW rd i n R)) (fun _ _ wr => jgx b o wr)
  case atStart => exact ⟨n, R, G, HI, HR, hid (Stp.refl _ _ _), hid hn, hid rfl⟩
  case round =>
    obtain ⟨m, R', G', HI', HR', HS', HL', HE'⟩ := hrel; obtain ⟨_, _, _, _, _, _, _, _, _, _, c6, _⟩ := HR'.out.cells hi HO.out; have HW' := hid (show jgx b o wr = (R'.con i).held.length by unfold jgx; rw [c6]; exact jf _); have hBW := HR.out.low HS'.out; have HMW := hid (HM.out wr hBW); obtain ⟨x, y, q, hxy⟩ : ∃ x y q, Lib.cut (R'.con i).held [13, 10] = (x, y, q) := ⟨_, _, _, rfl⟩
    by_cases hy : (R'.con i).due = [] ∧ q = true
    · obtain ⟨hd, rfl⟩ := hy; have HNX := hid (jjv K Cs B b G' R' wr HR'.out i o hi HO.out HMW.out (HIH.out R' HI'.out) hd x y hxy); have HCL := hid (jka hxy); have HST := hid (show ∀ (G2 : List Nat) (w2 : World), RoomM K Cs B b G2 (R'.put i (jdK (R'.con i) y)) w2 → Stp b G' wr G2 w2 → Inv (rd R' x y) ∧ ((rd R' x y).con i).held.length ≤ y.length ∧ Calls Tryz.prog 47 #[.pointer (some ⟨b, 0, none⟩), .pointer (some ⟨b, o, none⟩), .string (S x)] w2 (RmQ K Cs B b G2 w2 (rd R' x y) (.tuple #[])) from fun G2 w2 h1 h2 => HRD.out R' G2 w2 x y HI'.out hd hxy (HR.out.low (HS'.out.trans h2)) h1); have HUN := hid (show ∃ m', m = m' + 1 ∧ runW rd i m' (rd R' x y) = runW rd i n R from by
        have hl := HL'.out; have hc := HCL.out; obtain ⟨m', rfl⟩ : ∃ m', m = m' + 1 := ⟨m - 1, by omega⟩; refine ⟨m', rfl, ?_⟩; have he := HE'.out; simp only [runW] at he; rw [if_pos (by rw [hd, hxy]; rfl), hxy] at he; exact he)
      clear hd hxy c6 hBW; go_wp2_with fail; refine HNX.out.mono ?_; rintro e w2 ⟨rfl, G2, hR2, hs2⟩; obtain ⟨hI2, hL2, hC2⟩ := HST.out G2 w2 hR2 hs2; have HI2 := hid hI2; have HL2 := hid hL2; have HC2 := hid hC2; have HS2 := hid (HS'.out.trans hs2); clear hR2 hs2 hI2 hL2 hC2; go_wp2_with fail; refine HC2.out.mono ?_; rintro e w3 ⟨rfl, G3, hR3, hs3⟩; obtain ⟨_, _, _, _, _, _, _, _, _, _, d6, _⟩ := hR3.cells hi HO.out; have HW3 := hid (show jgx b o w3 < jgx b o wr by
        rw [HW'.out]; unfold jgx; rw [d6]; have h1 := HL2.out; have h2 := HCL.out
        show (S _).size < _
        rw [jf]; omega)
      have HR3 := hid hR3; have HS3 := hid (HS2.out.trans hs3); have HUN' := hid (show ∃ m', ((rd R' x y).con i).held.length ≤ m' ∧ runW rd i m' (rd R' x y) = runW rd i n R by
        obtain ⟨m', rfl, he⟩ := HUN.out; refine ⟨m', ?_, he⟩; have h1 := HL2.out; have h2 := HCL.out; have h3 := HL'.out; omega)
      clear hR3 hs3 d6 HUN HST HNX; go_wp2
      go_roundw
      case rel =>
        obtain ⟨m', h1, h2⟩ := HUN'.out; exact ⟨m', _, G3, HI2, HR3, HS3, hid h1, hid h2⟩
      case measure => exact HW3.out
    · have hno : (R'.con i).due ≠ [] ∨ Lib.cut (R'.con i).held [13, 10] = (x, y, false) := by
        by_cases hd : (R'.con i).due = []
        · right
          cases q with
          | true => exact absurd ⟨hd, rfl⟩ hy
          | false => exact hxy
        · exact .inl hd
      have HNX := hid (jlc K Cs B b G' R' wr HR'.out i o hi HO.out HMW.out (HIH.out R' HI'.out) x y hno); have HEND := hid (show runW rd i n R = R'.put i (endC (R'.con i)) by
        rw [← HE'.out]; refine jhu ?_
        rcases hno with h | h
        · cases hd : (R'.con i).due with
          | nil => exact absurd hd h
          | cons a l => rfl
        · rw [h]; simp)
      clear hno hy hxy c6 hBW; go_wp2_with fail; refine HNX.out.mono ?_; rintro e w2 ⟨rfl, G2, hR2, hs2⟩; have HS2 := hid (HS'.out.trans hs2); obtain ⟨_, _, _, _, _, _, _, _, _, _, d6, _⟩ := hR2.cells hi HO.out; have HBG := hid (jb7 K Cs B b G2 R' w2 hR2 i o hi HO.out 5); have HR2 := hid hR2; clear hR2 hs2
      by_cases hlong : 3000 < (R'.con i).held.length
      · have HEE := hid (show runW rd i n R = R'.put i (jaB (R'.con i) 5) by rw [HEND.out]; unfold endC; rw [if_pos hlong]); have hsz : (3000 : Int) < ((S (R'.con i).held).size : Nat) := by rw [jf]; omega
        clear hlong; go_wp2_with fail; refine HBG.out.mono ?_; rintro e w3 ⟨rfl, G3, hR3, hs3⟩; have HF := hid (show RmQ K Cs B b G w (runW rd i n R) (.tuple #[]) (.returned (.tuple #[])) w3 from ⟨rfl, G3, by rw [HEE.out]; exact hR3, HS2.out.trans hs3⟩); clear hR3 hs3; go_wp2; go_end0; exact HF.out
      · have HF := hid (show RmQ K Cs B b G w (runW rd i n R) (.tuple #[]) (.returned (.tuple #[])) w2 from ⟨rfl, G2, by rw [HEND.out]; unfold endC; rw [if_neg hlong, jfX R' i hi]; exact HR2.out, HS2.out⟩); have hsz : ¬ (3000 : Int) < ((S (R'.con i).held).size : Nat) := by rw [jf]; omega
        clear hlong; go_wp2; go_end0; exact HF.out
end Go.Proofs.YtlfgemnmfhknfaaGreatDoor
namespace Go.Proofs.YtlfgemnmfhknfaaGreatDoor
open Go.RowKit Go.Proofs
theorem RoomM.up {K : List (List UInt8)} {Cs : List (List Cmd)} {B b : Nat} {G : List Nat} {R : Rom} {w : World} (h : RoomM K Cs B b G R w) : w.cell? ⟨b, 0, none⟩ = some (.bool R.up) := by
  obtain ⟨X, hG, hB, hX, hM, hQ⟩ := h; exact hX.cell rfl
set_option maxHeartbeats 2000000 in
set_option maxRecDepth 100000 in
theorem jk4 (K : List (List UInt8)) (Cs : List (List Cmd)) (B b : Nat) (G : List Nat) (R : Rom) (w : World) (hR : RoomM K Cs B b G R w) (i o : Nat) (hi : i < 3) (ho : o = 7 + i * 9) (hup : R.up = true) (x : Acu) (hk : x.kind = 1) (hc : x.conn = i) (hd : x.data ≠ []) (hn : (R.con i).held.length + x.data.length ≤ 1000000000) (R2 : Rom)
    (hW : ∀ (G' : List Nat) (w' : World), Below B w w' → RoomM K Cs B b G' (R.put i (jb9 (R.con i) x.data)) w' → Calls Tryz.prog 30 #[.pointer (some ⟨b, 0, none⟩), .pointer (some ⟨b, o, none⟩)] w' (RmQ K Cs B b G' w' R2 (.tuple #[]))) :
    Calls Tryz.prog 19 #[.pointer (some ⟨b, 0, none⟩), .agg (acuC x).toArray] w (RmQ K Cs B b G w R2 (.tuple #[])) := by
  obtain ⟨kd, cn, us, kp, da, en⟩ := x; simp only at hk hc hd hn hW; subst hk; subst hc; obtain ⟨W1, hW1⟩ : ∃ W1, W1 = w.alloc (.cells (acuC ⟨1, i, us, kp, da, en⟩).toArray 32) := ⟨_, rfl⟩; have hB1 : Below w.heap.size w W1 := by rw [hW1]; exact (Below.refl _ _).alloc (Nat.le_refl _) _
  have hx : W1.heap[w.heap.size]? = some (.cells (acuC ⟨1, i, us, kp, da, en⟩).toArray 32) := by rw [hW1]; exact heap_alloc_new w _
  have HX := hid (show ∀ (G' : List Nat) (w' : World), Stp b G W1 G' w' → w'.cell? ⟨w.heap.size, 0, none⟩ = some (.int .i64 1) ∧ w'.cell? ⟨w.heap.size, 1, none⟩ = some (.int .i64 i) ∧ w'.cell? ⟨w.heap.size, 4, none⟩ = some (.string (S da)) from fun G' w' h => by
    have hz := (h.block w.heap.size (Array.getElem?_eq_some_iff.1 hx).1 (jfC hR (Nat.le_refl _))).trans hx
    simp [World.cell?, hz, acuC])
  have HR1 := hid (hR.next hB1); have HH := hid (fun (u : World) (hu : Below W1.heap.size W1 u) => jjD K Cs B b G R u (HR1.out.next hu) i o hi ho da hn); have HW := hid (show ∀ (G' : List Nat) (w' : World), Stp b G W1 G' w' → RoomM K Cs B b G' (R.put i (jb9 (R.con i) da)) w' → Calls Tryz.prog 30 #[.pointer (some ⟨b, 0, none⟩), .pointer (some ⟨b, o, none⟩)] w' (RmQ K Cs B b G' w' R2 (.tuple #[])) from fun G' w' h1 h2 => hW G' w' (hR.low ((Stp.of hB1).trans h1)) h2); have c0 := HR1.out.up; rw [hup] at c0; obtain ⟨p0, p1, p4⟩ := HX.out G W1 (Stp.refl _ _ _); have HB1 := hid hB1; have HWE := hid hW1; have HD := hid hd; have hdn : (S da).toList.isEmpty = false := by
    rw [Lib.toList_data, jo]; cases da with
    | nil => exact absurd rfl HD.out
    | cons c t => rfl
  have hi3 : (i : Int) < 3 := by omega
  have hi0 : (0 : Int) ≤ (i : Int) := by omega
  unfold acuC at HWE ⊢; clear hR hW hup hd hn hx hB1 hW1; subst ho; go_enter Tryz.func19, Tryz.ntmps19; go_wp2; rw [← HWE.out]; have hg3 : decide ((1 : Int) = 5) = false := by decide
  go_quiet (fail)
  have HBQ := hid (jai W1 nq); go_wp2
  go_region_held3 (fun u => u.cell? ⟨w.heap.size, 1, none⟩ = some (.int .i64 i) ∧ u.cell? ⟨w.heap.size, 4, none⟩ = some (.string (S da)))
    (first | exact (HX.out _ _ HS2.out).2 | exact (HX.out _ _ (Stp.of HBQ.out.drew)).2 | exact (HX.out _ _ (Stp.of HBQ.out)).2 | fail)
    (first
      | (go_at_call 29
         refine (HH.out _ HBQ.out.drew).mono ?_; rintro e w2 ⟨rfl, G2, hR2, hs2⟩; have HS2 := hid ((Stp.of (b := b) (G := G) HBQ.out.drew).trans hs2); have HW3 := hid (HW.out G2 w2.drew (HS2.out.trans (jbq _)) (hR2.next (Below.refl _ _).drew)); clear hR2 hs2)
      | fail)
  all_goals
    obtain ⟨q0, q1, q4⟩ := HX.out _ _ HS2.out; go_wp2
    go_region_held3 (fun u => u.cell? ⟨w.heap.size, 1, none⟩ = some (.int .i64 i))
      (first | exact HQ4.out | exact (HX.out _ _ (HS2.out.trans (jbq _))).2.1 | exact (HX.out _ _ HS2.out).2.1 | fail)
      (first
        | (go_at_call 30
           refine (HW3.out.mono ?_); rintro e w4 ⟨rfl, G4, hR4, hs4⟩; have HQ4 := hid (HX.out _ _ ((HS2.out.trans (jbq _)).trans hs4)).2.1; have HF := hid (show RmQ K Cs B b G w R2 (.tuple #[]) (.returned (.tuple #[])) w4 from ⟨rfl, G4, hR4, (Stp.of HB1.out).trans ((HS2.out.trans (jbq _)).trans hs4)⟩); clear hR4 hs4)
        | fail)
    go_wp2; go_end0; exact HF.out
end Go.Proofs.YtlfgemnmfhknfaaGreatDoor
namespace Go.Proofs.YtlfgemnmfhknfaaGreatDoor
open Go.RowKit Go.Proofs
theorem hidp {p : Prop} (h : p) : Hid p := h
theorem jao {a b : ByteArray} (h : ¬ a = b) : (a.toList == b.toList) = false := by
  rw [beq_eq_false_iff_ne]; intro e; rw [Lib.toList_data, Lib.toList_data] at e
  apply h
  obtain ⟨⟨x⟩⟩ := a; obtain ⟨⟨y⟩⟩ := b; simp only at e; rw [e]
theorem qm (a : ByteArray) : (a.toList == a.toList) = true := by simp
set_option maxHeartbeats 2000000 in
set_option maxRecDepth 100000 in
theorem jk8 (c u p ek eu ef : Int) (d eb eg et : List UInt8) (w : World) : Calls Tryz.prog 42 #[.agg #[.int .i64 1, .int .i64 c, .int .i64 u, .int .i64 p, .string (S d), .int .i64 ek, .string (S eb), .int .i64 eu, .int .i64 ef, .string (S eg), .string (S et)]] w fun e w' => e = .returned (.agg #[.int .i64 1, .int .i64 c, .int .i64 0, .int .i64 0, .string (S d), .int .i64 0, .string (⟨#[]⟩), .int .i64 0, .int .i64 0, .string (⟨#[]⟩), .string (⟨#[]⟩)]) ∧ Below w.heap.size w w' := by
  have HB := hidp (show ∀ a b c : Obj, Below w.heap.size w (((w.alloc a).alloc b).alloc c) from fun a b c => (((Below.refl _ _).alloc (Nat.le_refl _) a).alloc (by simp) b).alloc (by simp; omega) c); go_enter Tryz.func42, Tryz.ntmps42; go_wp2
  go_region_law (fail)
  all_goals
    go_wp2; refine bodyPost_ret (v := .agg #[.int .i64 1, .int .i64 c, .int .i64 0, .int .i64 0, .string (S d), .int .i64 0, .string (⟨#[]⟩), .int .i64 0, .int .i64 0, .string (⟨#[]⟩), .string (⟨#[]⟩)]) (by simp [results, Tryz.results42, go_sem, *]) rfl ?_
    first | exact ⟨rfl, HB.out _ _ _⟩ | exact ⟨rfl, (HB.out _ _ _).drew⟩
set_option maxHeartbeats 4000000 in
set_option maxRecDepth 100000 in
theorem jlq (k c u p ek eu ef yc yu yp yek yeu yef : Int) (d eb eg et yd yeb yeg yet : ByteArray) (h : ¬ (c = yc ∧ u = yu ∧ p = yp ∧ d = yd ∧ ek = yek ∧ eb = yeb ∧ eu = yeu ∧ ef = yef ∧ eg = yeg ∧ et = yet)) (w : World) : (binOp .neq 32 (.agg #[.int .i64 k, .int .i64 c, .int .i64 u, .int .i64 p, .string d, .int .i64 ek, .string eb, .int .i64 eu, .int .i64 ef, .string eg, .string et]) (.agg #[.int .i64 k, .int .i64 yc, .int .i64 yu, .int .i64 yp, .string yd, .int .i64 yek, .string yeb, .int .i64 yeu, .int .i64 yef, .string yeg, .string yet])).run Tryz.prog w = .ok (.bool true) w := by
  by_cases h0 : c = yc
  · subst h0
    by_cases h1 : u = yu
    · subst h1
      by_cases h2 : p = yp
      · subst h2
        by_cases h3 : d = yd
        · subst h3; have e3 := qm d
          by_cases h4 : ek = yek
          · subst h4
            by_cases h5 : eb = yeb
            · subst h5; have e5 := qm eb
              by_cases h6 : eu = yeu
              · subst h6
                by_cases h7 : ef = yef
                · subst h7
                  by_cases h8 : eg = yeg
                  · subst h8; have e8 := qm eg; have h9 : ¬ et = yet := fun h9 => h ⟨rfl, rfl, rfl, rfl, rfl, rfl, rfl, rfl, rfl, h9⟩
                    have e9 := jao h9; clear h h9
                    simp [go_sem, *]
                  · have e8 := jao h8; clear h h8
                    simp [go_sem, *]
                · have e7 : (ef == yef) = false := by rw [beq_eq_false_iff_ne]; exact h7
                  clear h h7
                  simp [go_sem, *]
              · have e6 : (eu == yeu) = false := by rw [beq_eq_false_iff_ne]; exact h6
                clear h h6
                simp [go_sem, *]
            · have e5 := jao h5; clear h h5
              simp [go_sem, *]
          · have e4 : (ek == yek) = false := by rw [beq_eq_false_iff_ne]; exact h4
            clear h h4
            simp [go_sem, *]
        · have e3 := jao h3; clear h h3
          simp [go_sem, *]
      · have e2 : (p == yp) = false := by rw [beq_eq_false_iff_ne]; exact h2
        clear h h2
        simp [go_sem, *]
    · have e1 : (u == yu) = false := by rw [beq_eq_false_iff_ne]; exact h1
      clear h h1
      simp [go_sem, *]
  · have e0 : (c == yc) = false := by rw [beq_eq_false_iff_ne]; exact h0
    clear h h0
    simp [go_sem, *]
set_option maxHeartbeats 4000000 in
set_option maxRecDepth 100000 in
theorem jj4 (k c u p ek eu ef : Int) (d eb eg et : ByteArray) (w : World) : (binOp .neq 32 (.agg #[.int .i64 k, .int .i64 c, .int .i64 u, .int .i64 p, .string d, .int .i64 ek, .string eb, .int .i64 eu, .int .i64 ef, .string eg, .string et]) (.agg #[.int .i64 k, .int .i64 c, .int .i64 u, .int .i64 p, .string d, .int .i64 ek, .string eb, .int .i64 eu, .int .i64 ef, .string eg, .string et])).run Tryz.prog w = .ok (.bool false) w := by
  have e1 := qm d; have e2 := qm eb; have e3 := qm eg; have e4 := qm et
  simp [go_sem, *]
theorem jmn (k c u p ek eu ef yc yu yp yek yeu yef : Int) (d eb eg et yd yeb yeg yet : ByteArray) (h : c = yc ∧ u = yu ∧ p = yp ∧ d = yd ∧ ek = yek ∧ eb = yeb ∧ eu = yeu ∧ ef = yef ∧ eg = yeg ∧ et = yet) (w : World) : (binOp .neq 32 (.agg #[.int .i64 k, .int .i64 c, .int .i64 u, .int .i64 p, .string d, .int .i64 ek, .string eb, .int .i64 eu, .int .i64 ef, .string eg, .string et]) (.agg #[.int .i64 k, .int .i64 yc, .int .i64 yu, .int .i64 yp, .string yd, .int .i64 yek, .string yeb, .int .i64 yeu, .int .i64 yef, .string yeg, .string yet])).run Tryz.prog w = .ok (.bool false) w := by
  obtain ⟨rfl, rfl, rfl, rfl, rfl, rfl, rfl, rfl, rfl, rfl⟩ := h; exact jj4 _ _ _ _ _ _ _ _ _ _ _ w
end Go.Proofs.YtlfgemnmfhknfaaGreatDoor
namespace Go.Proofs.YtlfgemnmfhknfaaGreatDoor
open Go.RowKit Go.Proofs
def entZ (ek eu ef : Int) (eb eg et : List UInt8) : Prop := ek = 0 ∧ eb = [] ∧ eu = 0 ∧ ef = 0 ∧ eg = [] ∧ et = []
def actB (k c u p : Int) (d : List UInt8) (z : Prop) : Prop := (k = 1 ∨ (c = 0 ∧ d = [])) ∧ (k = 3 ∨ p = 0) ∧ (k = 5 ∨ (u = 0 ∧ z))
def actR (k c u p : Int) : Prop := (k = 1 → 0 ≤ c ∧ c ≤ 2) ∧ (k = 3 → 0 ≤ p ∧ p ≤ 100000) ∧ (k = 5 → 0 ≤ u ∧ u ≤ 2)
def ActE (k c u p : Int) (d : List UInt8) (z : Prop) (e : Int) : Prop :=
  (¬ (1 ≤ k ∧ k ≤ 5) ∧ e = 2) ∨ ((1 ≤ k ∧ k ≤ 5) ∧ ((¬ actR k c u p ∧ e = 6) ∨ (actR k c u p ∧ ((k = 1 ∧ 3000 < d.length ∧ e = 1) ∨ (¬ (k = 1 ∧ 3000 < d.length) ∧ ((¬ actB k c u p d z ∧ e = 3) ∨ (actB k c u p d z ∧ e = 0)))))))
theorem jkn {k c u p : Int} {d : List UInt8} {z : Prop} {e f : Int} (h : ActE k c u p d z e) (g : ActE k c u p d z f) : e = f := by
  unfold ActE at h g
  rcases h with ⟨h1, h2⟩ | ⟨h1, ⟨h3, h2⟩ | ⟨h3, ⟨h4, h5, h2⟩ | ⟨h4, ⟨h5, h2⟩ | ⟨h5, h2⟩⟩⟩⟩ <;>
  rcases g with ⟨g1, g2⟩ | ⟨g1, ⟨g3, g2⟩ | ⟨g3, ⟨g4, g5, g2⟩ | ⟨g4, ⟨g5, g2⟩ | ⟨g5, g2⟩⟩⟩⟩ <;>
  first | exact h2.trans g2.symm | (exfalso; first | exact g1 h1 | exact h1 g1 | exact g3 h3 | exact h3 g3 | exact g4 (And.intro h4 h5) | exact h4 (And.intro g4 g5) | exact g5 h5 | exact h5 g5 | fail)
def InP (k c u p : Int) (e : Ending) : Prop := ∃ b : Bool, e = .returned (.bool b) ∧ (b = true ↔ actR k c u p)
def ChP (k c u p : Int) (d : List UInt8) (z : Prop) (e : Ending) : Prop := ∃ r, e = .returned (.int .i64 r) ∧ ActE k c u p d z r
theorem jiG {l : List UInt8} (h : (S l : ByteArray) = ⟨#[]⟩) : l = [] := by
  have := congrArg (fun b => b.data.toList) h
  simpa [jo] using this
set_option maxHeartbeats 2000000 in
set_option maxRecDepth 100000 in
theorem jlI (k c u p : Int) (d : ByteArray) (ek eu ef : Int) (eb eg et : ByteArray) (w : World) : Calls Tryz.prog 41 #[.agg #[.int .i64 k, .int .i64 c, .int .i64 u, .int .i64 p, .string d, .int .i64 ek, .string eb, .int .i64 eu, .int .i64 ef, .string eg, .string et]] w fun e w' => InP k c u p e ∧ Below w.heap.size w w' := by
  have HB := hidp (show ∀ a : Obj, Below w.heap.size w (w.alloc a) from fun a => (Below.refl _ _).alloc (Nat.le_refl _) a); go_enter Tryz.func41, Tryz.ntmps41; go_wp2
  all_goals
    go_ret; refine ⟨⟨_, rfl, ?_⟩, HB.out _⟩; unfold actR
    simp_all <;> omega
theorem jj6 {c u p ek eu ef : Int} {d eb eg et : List UInt8} (h : actB 1 c u p d (entZ ek eu ef eb eg et)) : c = c ∧ u = 0 ∧ p = 0 ∧ S d = (S d) ∧ ek = 0 ∧ S eb = ⟨#[]⟩ ∧ eu = 0 ∧ ef = 0 ∧ S eg = ⟨#[]⟩ ∧ S et = ⟨#[]⟩ := by
  unfold actB entZ at h; obtain ⟨h1, h2, h3⟩ := h; have g1 := h1.resolve_left; have g2 := h2.resolve_left; have g3 := h3.resolve_left; obtain h2 := g2 (by decide); obtain ⟨h4, h5, h6, h7, h8, h9, h10⟩ := g3 (by decide)
  subst_vars
  exact ⟨rfl, rfl, rfl, rfl, rfl, rfl, rfl, rfl, rfl, rfl⟩
set_option maxHeartbeats 2000000 in
set_option maxRecDepth 100000 in
theorem jji (c u p ek eu ef : Int) (d eb eg et : List UInt8) (hd : d.length ≤ 9223372036854775807) (w : World) : Calls Tryz.prog 27 #[.agg #[.int .i64 1, .int .i64 c, .int .i64 u, .int .i64 p, .string (S d), .int .i64 ek, .string (S eb), .int .i64 eu, .int .i64 ef, .string (S eg), .string (S et)]] w fun e w' => ChP 1 c u p d (entZ ek eu ef eb eg et) e ∧ Below w.heap.size w w' := by
  obtain ⟨W1, hW1⟩ : ∃ W1, W1 = w.alloc (.cells #[.int .i64 1, .int .i64 c, .int .i64 u, .int .i64 p, .string (S d), .int .i64 ek, .string (S eb), .int .i64 eu, .int .i64 ef, .string (S eg), .string (S et)] 32) := ⟨_, rfl⟩; have HWE := hidp hW1; have HB1 := hidp (show Below w.heap.size w W1 by rw [hW1]; exact (Below.refl _ _).alloc (Nat.le_refl _) _); have HX := hidp (show ∀ w', Below W1.heap.size W1 w' → w'.cell? ⟨w.heap.size, 0, none⟩ = some (.int .i64 1) ∧ w'.cell? ⟨w.heap.size, 1, none⟩ = some (.int .i64 c) ∧ w'.cell? ⟨w.heap.size, 2, none⟩ = some (.int .i64 u) ∧ w'.cell? ⟨w.heap.size, 3, none⟩ = some (.int .i64 p) ∧ w'.cell? ⟨w.heap.size, 4, none⟩ = some (.string (S d)) ∧ w'.cell? ⟨w.heap.size, 5, none⟩ = some (.int .i64 ek) ∧ w'.cell? ⟨w.heap.size, 6, none⟩ = some (.string (S eb)) ∧ w'.cell? ⟨w.heap.size, 7, none⟩ = some (.int .i64 eu) ∧ w'.cell? ⟨w.heap.size, 8, none⟩ = some (.int .i64 ef) ∧ w'.cell? ⟨w.heap.size, 9, none⟩ = some (.string (S eg)) ∧ w'.cell? ⟨w.heap.size, 10, none⟩ = some (.string (S et)) from fun w' hb => by
    have hs : w.heap.size < W1.heap.size := by rw [hW1]; simp
    refine ⟨?_, ?_, ?_, ?_, ?_, ?_, ?_, ?_, ?_, ?_, ?_⟩ <;> exact (hb.cell hs).trans (by rw [hW1]; simp))
  have HD := hidp hd; have HSZ := hidp (jf d); clear hW1 hd; obtain ⟨x0, x1, x2, x3, x4, x5, x6, x7, x8, x9, x10⟩ := HX.out W1 (Below.refl _ _); go_enter Tryz.func27, Tryz.ntmps27; go_wp2_with fail; rw [← HWE.out]; refine (jlI _ _ _ _ _ _ _ _ _ _ _ W1).mono ?_; rintro e w2 ⟨⟨b, rfl, hb⟩, hb2⟩; have HB := hidp hb; have HB2 := hidp hb2; clear hb x0 x1 x2 x3 x4 x5 x6 x7 x8 x9 x10; obtain ⟨y0, y1, y2, y3, y4, y5, y6, y7, y8, y9, y10⟩ := HX.out w2 hb2; clear hb2; cases b
  · go_wp2; go_ret; refine ⟨⟨6, rfl, Or.inr ⟨by decide, Or.inl ⟨fun h => ?_, rfl⟩⟩⟩, HB1.out.trans (HB2.out.mono HB1.out.size)⟩; have := HB.out.2 h
    simp at this
  · have HR := hidp (HB.out.1 rfl); clear HB
    by_cases hl : 3000 < d.length
    · have hl' : (3000 : Int) < ((S d).size : Int) := by rw [HSZ.out]; omega
      have HL := hidp hl; clear hl; go_wp2; go_ret; exact ⟨⟨1, rfl, Or.inr ⟨by decide, Or.inr ⟨HR.out, Or.inl ⟨rfl, HL.out, rfl⟩⟩⟩⟩, HB1.out.trans (HB2.out.mono HB1.out.size)⟩
    have hl' : ¬ (3000 : Int) < ((S d).size : Int) := by rw [HSZ.out]; omega
    have HL := hidp (show ¬ 3000 < d.length from hl); clear hl; have HBR := hidp (fun v : World => jk8 c u p ek eu ef d eb eg et v)
    by_cases hall : c = c ∧ u = 0 ∧ p = 0 ∧ S d = (S d) ∧ ek = 0 ∧ S eb = ⟨#[]⟩ ∧ eu = 0 ∧ ef = 0 ∧ S eg = ⟨#[]⟩ ∧ S et = ⟨#[]⟩
    · have HACT := hidp (show actB 1 c u p d (entZ ek eu ef eb eg et) by
        obtain ⟨h0, h1, h2, h3, h4, h5, h6, h7, h8, h9⟩ := hall; exact ⟨Or.inl rfl, Or.inr h2, Or.inr ⟨h1, h4, jiG h5, h6, h7, jiG h8, jiG h9⟩⟩)
      have hne := fun v : World => jmn 1 c u p ek eu ef c 0 0 0 0 0 (S d) (S eb) (S eg) (S et) (S d) ⟨#[]⟩ ⟨#[]⟩ ⟨#[]⟩ hall v
      clear hall; go_upto_region 7 with fail
      go_cut [1, 2, 26] (fun a b c wx => a = .pointer (some ⟨w.heap.size, 0, none⟩) ∧ c = .bool false ∧ Below W1.heap.size W1 wx)
      case first =>
        go_region_held3 (fun w' => w'.cell? ⟨w.heap.size, 0, none⟩ = some (.int .i64 1) ∧ w'.cell? ⟨w.heap.size, 1, none⟩ = some (.int .i64 c) ∧ w'.cell? ⟨w.heap.size, 2, none⟩ = some (.int .i64 u) ∧ w'.cell? ⟨w.heap.size, 3, none⟩ = some (.int .i64 p) ∧ w'.cell? ⟨w.heap.size, 4, none⟩ = some (.string (S d)) ∧ w'.cell? ⟨w.heap.size, 5, none⟩ = some (.int .i64 ek) ∧ w'.cell? ⟨w.heap.size, 6, none⟩ = some (.string (S eb)) ∧ w'.cell? ⟨w.heap.size, 7, none⟩ = some (.int .i64 eu) ∧ w'.cell? ⟨w.heap.size, 8, none⟩ = some (.int .i64 ef) ∧ w'.cell? ⟨w.heap.size, 9, none⟩ = some (.string (S eg)) ∧ w'.cell? ⟨w.heap.size, 10, none⟩ = some (.string (S et))) (go_keep)
          (first
            | (go_at_call 42
               with_reducible refine (HBR.out w2.drew).mono ?_
               rintro e w3 ⟨rfl, hb⟩; have hb3 : Below W1.heap.size W1 w3 := (HB2.out.drew).trans (hb.mono HB2.out.size); have HB3 := hidp hb3; obtain ⟨z0, z1, z2, z3, z4, z5, z6, z7, z8, z9, z10⟩ := HX.out w3 hb3; clear hb hb3)
            | fail)
        all_goals
          go_wp2
          first | (go_meet; exact ⟨rfl, rfl, HB3.out⟩) | fail
      case rest =>
        obtain ⟨rfl, rfl, hb3⟩ := hcut; have HB3 := hidp hb3; clear hb3; go_wp2; go_ret; exact ⟨⟨0, rfl, Or.inr ⟨by decide, Or.inr ⟨HR.out, Or.inr ⟨fun h => HL.out h.2, Or.inr ⟨HACT.out, rfl⟩⟩⟩⟩⟩, HB1.out.trans (HB3.out.mono HB1.out.size)⟩
    · have HACT := hidp (show ¬ actB 1 c u p d (entZ ek eu ef eb eg et) from fun h => hall (jj6 h)); have hne := fun v : World => jlq 1 c u p ek eu ef c 0 0 0 0 0 (S d) (S eb) (S eg) (S et) (S d) ⟨#[]⟩ ⟨#[]⟩ ⟨#[]⟩ hall v
      clear hall; go_upto_region 7 with fail
      go_cut [1, 2, 26] (fun a b c wx => a = .pointer (some ⟨w.heap.size, 0, none⟩) ∧ c = .bool true ∧ Below W1.heap.size W1 wx)
      case first =>
        go_region_held3 (fun w' => w'.cell? ⟨w.heap.size, 0, none⟩ = some (.int .i64 1) ∧ w'.cell? ⟨w.heap.size, 1, none⟩ = some (.int .i64 c) ∧ w'.cell? ⟨w.heap.size, 2, none⟩ = some (.int .i64 u) ∧ w'.cell? ⟨w.heap.size, 3, none⟩ = some (.int .i64 p) ∧ w'.cell? ⟨w.heap.size, 4, none⟩ = some (.string (S d)) ∧ w'.cell? ⟨w.heap.size, 5, none⟩ = some (.int .i64 ek) ∧ w'.cell? ⟨w.heap.size, 6, none⟩ = some (.string (S eb)) ∧ w'.cell? ⟨w.heap.size, 7, none⟩ = some (.int .i64 eu) ∧ w'.cell? ⟨w.heap.size, 8, none⟩ = some (.int .i64 ef) ∧ w'.cell? ⟨w.heap.size, 9, none⟩ = some (.string (S eg)) ∧ w'.cell? ⟨w.heap.size, 10, none⟩ = some (.string (S et))) (go_keep)
          (first
            | (go_at_call 42
               with_reducible refine (HBR.out w2.drew).mono ?_
               rintro e w3 ⟨rfl, hb⟩; have hb3 : Below W1.heap.size W1 w3 := (HB2.out.drew).trans (hb.mono HB2.out.size); have HB3 := hidp hb3; obtain ⟨z0, z1, z2, z3, z4, z5, z6, z7, z8, z9, z10⟩ := HX.out w3 hb3; clear hb hb3)
            | fail)
        all_goals
          go_wp2
          first | (go_meet; exact ⟨rfl, rfl, HB3.out⟩) | fail
      case rest =>
        obtain ⟨rfl, rfl, hb3⟩ := hcut; have HB3 := hidp hb3; clear hb3; go_wp2; go_ret; exact ⟨⟨3, rfl, Or.inr ⟨by decide, Or.inr ⟨HR.out, Or.inr ⟨fun h => HL.out h.2, Or.inl ⟨HACT.out, rfl⟩⟩⟩⟩⟩, HB1.out.trans (HB3.out.mono HB1.out.size)⟩
end Go.Proofs.YtlfgemnmfhknfaaGreatDoor
namespace Go.Proofs.YtlfgemnmfhknfaaGreatDoor
open Go.RowKit Go.Proofs
def tlR (s : Ses) (l : List Int) : Rom := rom0.put 2 (tlC s l)
def tlA (x : List UInt8) : Acu := ⟨1, 2, 0, 0, x ++ crL, jmv⟩
theorem jmz (K : List (List UInt8)) (Cs : List (List Cmd)) (B b : Nat) (G : List Nat) (s r : Ses) (l : List Int) (co : Int) (x : List UInt8) (w : World) (hR : RoomM K Cs B b G (tlR s l) w) (hs : TlI s) (hr : TlI r) (hco : co ≠ 0) (hl : qs s K x = (r, co, [])) (hx : ze x = false) (hxl : x.length ≤ 60) (hll : l.length ≤ 100) (hM : ∀ w', Below B w w' → maxLenCell w') :
    Calls Tryz.prog 19 #[.pointer (some ⟨b, 0, none⟩), .agg (acuC (tlA x)).toArray] w (RmQ K Cs B b G w (tlR r (l ++ [co])) (.tuple #[])) := by
  have hs5 : s.step ≠ 5 := by have := hs.2.2; omega
  have hr5 : r.step ≠ 5 := by have := hr.2.2; omega
  have hxd : x ++ crL ≠ [] := by simp [crL]
  have hlen : (x ++ crL).length ≤ 62 := by simp [crL]; omega
  refine jk4 K Cs B b G (tlR s l) w hR 2 25 (by omega) rfl rfl (tlA x) rfl rfl hxd (show (0 : Nat) + (x ++ crL).length ≤ 1000000000 by omega) (tlR r (l ++ [co])) fun G' w' hb' hR' => ?_
  have e1 : (tlR s l).put 2 (jb9 ((tlR s l).con 2) (tlA x).data) = rom0.put 2 ⟨s, x ++ crL, [], l⟩ := by
    show rom0.put 2 (jb9 (tlC s l) (x ++ crL)) = _
    unfold jb9; rw [if_neg (show (tlC s l).ses.step ≠ 5 from hs5)]; rfl
  rw [e1] at hR'; have hcut : Lib.cut (x ++ crL) [13, 10] = (x, [], true) := by
    have := jfM (b := []) hx; rw [List.append_nil] at this; exact this
  have hnil : Lib.cut ([] : List UInt8) [13, 10] = ([], [], false) := jfT jcN; have hrun : runW (fun _ _ _ => tlR r (l ++ [co])) 2 (x ++ crL).length (rom0.put 2 ⟨s, x ++ crL, [], l⟩) = tlR r (l ++ [co]) := by
    obtain ⟨m, hm⟩ : ∃ m, (x ++ crL).length = m + 1 := ⟨(x ++ crL).length - 1, by simp [crL]⟩; rw [hm]
    show (if (List.isEmpty ([] : List Int)) && (Lib.cut (x ++ crL) [13, 10]).2.2 then runW (fun _ _ _ => tlR r (l ++ [co])) 2 m (tlR r (l ++ [co])) else _) = _
    rw [hcut, if_pos (show (List.isEmpty ([] : List Int) && true) = true from rfl)]; refine (jhu (by show ((List.isEmpty ([] : List Int)) && (Lib.cut ([] : List UInt8) [13, 10]).2.2) = false; rw [hnil]; rfl)).trans ?_; rfl
  rw [← hrun]; refine jkt K Cs B b G' _ w' hR' 2 25 (by omega) rfl (fun _ _ _ => tlR r (l ++ [co])) (fun R' => R' = rom0.put 2 ⟨s, x ++ crL, [], l⟩ ∨ R' = tlR r (l ++ [co])) (.inl rfl) (fun v hv => hM v (hb'.trans hv)) (fun R' h => ?_) (fun R' G2 w2 x' y' hI hd hc hb2 hR2 => ?_) (x ++ crL).length (Nat.le_refl _)
  · rcases h with rfl | rfl
    · show (x ++ crL).length ≤ _; omega
    · show (0 : Nat) ≤ _; omega
  · rcases hI with rfl | rfl
    · have hc' : (x, ([] : List UInt8), true) = (x', y', true) := hcut.symm.trans hc; obtain ⟨rfl, rfl⟩ : x = x' ∧ [] = y' := by simpa using hc'
      refine ⟨.inr rfl, Nat.zero_le _, ?_⟩; have hR3 : RoomM K Cs B b G2 (tlR s l) w2 := hR2; have hln : (tlR s l).put 2 (lnC ((tlR s l).con 2) r co) = tlR r (l ++ [co]) := by
        show rom0.put 2 (lnC (tlC s l) r co) = _
        unfold lnC jj0; rw [if_neg hco]; rfl
      have h := jje K Cs B b G2 (tlR s l) w2 hR3 2 25 (by omega) rfl x (by omega) s r rfl hs.1 co [] hl (jl0 hr.1) (by simp) (show l.length + 1 ≤ 1000000000 by omega) (tlR r (l ++ [co])) [] false (show (l ++ [co]).length + 0 ≤ 1000000000 by simp; omega) fun G4 w4 v hb4 hR4 hv => by
        obtain ⟨a, c, rfl⟩ := RowM.slice hv; refine (jht _ a c s.large w4).mono ?_; rintro e w5 ⟨rfl, rfl⟩; exact ⟨_, G4, rfl, by rw [← hln]; exact hR4, Stp.refl _ _ _, jh _ _ _ _ _ _⟩
      have e2 : (tlR r (l ++ [co])).put 2 (jfl (qB ((tlR r (l ++ [co])).con 2) [] false) r.step) = tlR r (l ++ [co]) := by
        unfold jfl qB; rw [if_neg hr5, if_neg (by decide), jfJ]; rfl
      rw [e2] at h; exact h
    · exfalso
      have hc' : (([] : List UInt8), ([] : List UInt8), false) = (x', y', true) := hnil.symm.trans hc
      simp at hc'
theorem jjE (x : List UInt8) (hx : x.length ≤ 60) (u : World) : Calls Tryz.prog 27 #[.agg (acuC (tlA x)).toArray] u fun e u' => e = .returned (.int .i64 0) ∧ Below u.heap.size u u' := by
  have hlen : (x ++ crL).length ≤ 62 := by simp [crL]; omega
  refine (jji 2 0 0 0 0 0 (x ++ crL) [] [] [] (by omega) u).mono ?_; rintro e u' ⟨⟨r, rfl, hA⟩, hb⟩; refine ⟨?_, hb⟩; have h0 : ActE 1 2 0 0 (x ++ crL) (entZ 0 0 0 [] [] []) 0 := by
    refine .inr ⟨by decide, .inr ⟨⟨fun _ => by decide, fun h => by omega, fun h => by omega⟩, .inr ⟨fun h => by omega, .inr ⟨⟨.inl rfl, .inr rfl, .inr ⟨rfl, rfl, rfl, rfl, rfl, rfl, rfl⟩⟩, rfl⟩⟩⟩⟩
  rw [jkn hA h0]
end Go.Proofs.YtlfgemnmfhknfaaGreatDoor
namespace Go.Proofs.YtlfgemnmfhknfaaGreatDoor
open Go.RowKit Go.Proofs
structure OutM (N : Nat) (w : World) (R : Rom) (vc vo vs : Value) : Prop where
  co : RowM (N ≤ ·) 1 (fun l cs => ∃ v, cs = [v] ∧ IntsM (N ≤ ·) w v l) w vc [R.c0.told, R.c1.told, R.c2.told]
  od : RowM (N ≤ ·) 1 (fun l cs => ∃ v, cs = [v] ∧ IntsM (N ≤ ·) w v l) w vo R.orders
  sf : RowM (N ≤ ·) 2 (SttV (N ≤ ·) w) w vs R.safe
def OutP (N : Nat) (w : World) (R : Rom) (e : Ending) (w' : World) : Prop := ∃ ac cc ao co as_ cs, e = .returned (.agg #[.bool R.up, .slice ac 3 cc, .slice ao R.orders.length co, .slice as_ R.safe.length cs, .int .i64 R.waits]) ∧ OutM N w' R (.slice ac 3 cc) (.slice ao R.orders.length co) (.slice as_ R.safe.length cs) ∧ Below w.heap.size w w'
def OuB (w : World) (v0 v1 v2 v3 v4 p : Value) (wx : World) : Prop := p = .pointer (some ⟨w.heap.size, 0, none⟩) ∧ wx.heap[w.heap.size]? = some (.cells #[v0, v1, v2, v3, v4] 37) ∧ Below w.heap.size w wx
theorem OuB.new {w : World} (v0 v1 v2 v3 v4 : Value) : OuB w v0 v1 v2 v3 v4 (.pointer (some ⟨w.heap.size, 0, none⟩)) (w.alloc (.cells #[v0, v1, v2, v3, v4] 37)).drew :=
  ⟨rfl, heap_alloc_new w _, ((Below.refl _ _).alloc (Nat.le_refl _) _).drew⟩
theorem jgz {w : World} {b : Nat} {R : Rom} {X : Vals} (h : RmB w b (vg R X)) : w.rangeAt b 7 (conC R.c0 X.c0 ++ conC R.c1 X.c1 ++ conC R.c2 X.c2) := by
  intro j v hj; have hl : j < 27 := by
    have := (List.getElem?_eq_some_iff.1 hj).1
    simpa [conC] using this
  refine h.cell ?_; rw [← hj]; unfold vg; rw [List.append_assoc, List.append_assoc, List.append_assoc, List.getElem?_append_right (by simp), show (7 + j - _ : Nat) = j by simp, ← List.append_assoc, ← List.append_assoc]; exact List.getElem?_append_left (by simpa [conC] using hl)
theorem jle (x0 x1 x2 x3 x4 x5 x6 x7 x8 x9 x10 x11 x12 x13 x14 x15 x16 x17 x18 x19 x20 x21 x22 x23 x24 x25 x26 : Value) : (∀ u, (Instr.index 88 (.agg #[x0, x1, x2, x3, x4, x5, x6, x7, x8, x9, x10, x11, x12, x13, x14, x15, x16, x17, x18, x19, x20, x21, x22, x23, x24, x25, x26]) (.int .i64 0)).run Tryz.prog u = .ok (.agg #[x0, x1, x2, x3, x4, x5, x6, x7, x8]) u) ∧
    (∀ u, (Instr.index 88 (.agg #[x0, x1, x2, x3, x4, x5, x6, x7, x8, x9, x10, x11, x12, x13, x14, x15, x16, x17, x18, x19, x20, x21, x22, x23, x24, x25, x26]) (.int .i64 1)).run Tryz.prog u = .ok (.agg #[x9, x10, x11, x12, x13, x14, x15, x16, x17]) u) ∧
    (∀ u, (Instr.index 88 (.agg #[x0, x1, x2, x3, x4, x5, x6, x7, x8, x9, x10, x11, x12, x13, x14, x15, x16, x17, x18, x19, x20, x21, x22, x23, x24, x25, x26]) (.int .i64 2)).run Tryz.prog u = .ok (.agg #[x18, x19, x20, x21, x22, x23, x24, x25, x26]) u) := by
  refine ⟨fun u => ?_, fun u => ?_, fun u => ?_⟩ <;> simp [Instr.index, run_underlying Tryz.underlying88, asIntOf, go_sem]
theorem put5 {w : World} {b : Nat} {t : TypeId} (v0 v1 v2 v3 v4 : Value) {u0 u1 u2 u3 u4 : Value} (h : w.heap[b]? = some (.cells #[u0, u1, u2, u3, u4] t)) : (((((w.setCell ⟨b, 0, none⟩ v0).setCell ⟨b, 1, none⟩ v1).setCell ⟨b, 2, none⟩ v2).setCell ⟨b, 3, none⟩ v3).setCell ⟨b, 4, none⟩ v4).heap[b]? = some (.cells #[v0, v1, v2, v3, v4] t) := by
  have h := heap_setCell_same _ b 0 _ t v0 h; have h := heap_setCell_same _ b 1 _ t v1 h; have h := heap_setCell_same _ b 2 _ t v2 h; have h := heap_setCell_same _ b 3 _ t v3 h; have h := heap_setCell_same _ b 4 _ t v4 h
  simpa using h
theorem jbm {w : World} {B : Nat} {t : TypeId} {v : Value} {l : List Int} (h : w.ownsRow B t 1 v l.length (l.map fun k => .int .i64 k)) : IntsM (B ≤ ·) w v l := by
  refine jaN h ?_ fun g hg => (World.ownsRow.lt h g hg).1
  rcases h.2 with ⟨_, h0⟩ | ⟨g, cap, cur, _, _, _, h1, h2, _⟩
  · omega
  · omega
theorem jir {N : Nat} {w : World} {v : Value} {vs : List Value} {ls : List (List Int)} (h : RowM (N ≤ ·) 1 (fun x cs => cs = [x]) w v vs) (hl : vs.length = ls.length) (hx : ∀ (i : Nat) x l, vs[i]? = some x → ls[i]? = some l → IntsM (N ≤ ·) w x l) : RowM (N ≤ ·) 1 (fun l cs => ∃ v, cs = [v] ∧ IntsM (N ≤ ·) w v l) w v ls := by
  obtain ⟨a, c, hv, hm, hr⟩ := h; refine ⟨a, c, by rw [← hl]; exact hv, by rw [← hl]; exact hm, fun i l hi => ?_⟩; have hi' : i < vs.length := by rw [hl]; exact (List.getElem?_eq_some_iff.1 hi).1
  obtain ⟨b, o, cs, h1, h2, h3, h4, h5, h6⟩ := hr i vs[i] (List.getElem?_eq_getElem hi'); exact ⟨b, o, cs, h1, h2, h3, h4, h5, _, h6, hx i _ l (List.getElem?_eq_getElem hi') hi⟩
theorem jlR {K : List (List UInt8)} {Cs : List (List Cmd)} {B b : Nat} {G : List Nat} {R : Rom} {X : Vals} {w w' : World} {vc vo vs : Value} (hM : MOk w B b (zk R X)) (hQ : RoM (AvN B b G) w K Cs R X) (hb : Below w.heap.size w w') (hc : RowM (B ≤ ·) 1 (fun x cs => cs = [x]) w' vc [X.c0.l, X.c1.l, X.c2.l]) (hv : X.od = vo) (hs : X.sf = vs) : OutM B w' R vc vo vs := by
  have hM' := hM.next hb; have hi : ∀ r ∈ zk R X, w'.ownsRow B r.e r.k r.v r.n r.xs := hM'.own; have t0 : IntsM (B ≤ ·) w' X.c0.l R.c0.told := jbm (hi (intR 3 X.c0.l R.c0.told) (by simp [zk])); have t1 : IntsM (B ≤ ·) w' X.c1.l R.c1.told := jbm (hi (intR 3 X.c1.l R.c1.told) (by simp [zk])); have t2 : IntsM (B ≤ ·) w' X.c2.l R.c2.told := jbm (hi (intR 3 X.c2.l R.c2.told) (by simp [zk])); have ho : ∀ u, u < 3 → IntsM (B ≤ ·) w' (X.os.getD u (.slice none 0 0)) (R.orders.getD u []) := fun u hu => jbm (hi (intR 46 (X.os.getD u (.slice none 0 0)) (R.orders.getD u [])) (by
    unfold zk; exact List.mem_append_right _ (List.mem_map.2 ⟨u, List.mem_range.2 hu, rfl⟩)))
  refine ⟨jir hc rfl fun i x l h1 h2 => ?_, ?_, ?_⟩
  · match i, h1, h2 with
    | 0, h1, h2 => cases h1; cases h2; exact t0
    | 1, h1, h2 => cases h1; cases h2; exact t1
    | 2, h1, h2 => cases h1; cases h2; exact t2
    | n + 3, h1, h2 => simp at h1
  · have hod := hi (ordR X.od X.os) (by simp [zk]); rw [← hv]; refine jir (jaN (f := fun x => x) (by simpa [ordR] using hod) (by rw [hQ.os.1]; unfold maxLen; decide) fun g hg => (World.ownsRow.lt hod g hg).1) (by rw [hQ.os.1, hQ.os.2]) fun i x l h1 h2 => ?_
    have h3 : i < 3 := by rw [← hQ.os.1]; exact (List.getElem?_eq_some_iff.1 h1).1
    have := ho i h3; rw [List.getD_eq_getElem?_getD, List.getD_eq_getElem?_getD, h1, h2] at this; exact this
  · rw [← hs]; exact RowM.imp hQ.sf (fun _ h => h.1) (Keeps.of_below hb) fun s cs h => by
      obtain ⟨vb, vs, e, h⟩ := h; exact ⟨vb, vs, e, h.imp (fun _ h => h.1) (Keeps.of_below hb)⟩
theorem jmi : (Tryz.prog.info? 88).map (·.size) = some 27 := by kernel_rfl
theorem jlX : (Tryz.prog.info? 25).map (fun i => (i.zero, i.size, i.bytes)) = some (some (.slice none 0 0), 1, 24) := by kernel_rfl
set_option maxHeartbeats 2000000 in
set_option maxRecDepth 100000 in
theorem jfd (K : List (List UInt8)) (Cs : List (List Cmd)) (B b : Nat) (G : List Nat) (R : Rom) (w : World) (hR : RoomM K Cs B b G R w) :
    Calls Tryz.prog 20 #[.pointer (some ⟨b, 0, none⟩)] w (OutP B w R) := by
  obtain ⟨X, hG, hB, hX, hM, hQ⟩ := hR; obtain ⟨asf, csf, hsf⟩ := RowM.slice hQ.sf; have hod := hM.own (ordR X.od X.os) (by simp [zk]); obtain ⟨aod, cod, hodv, _⟩ := vD hod; simp only [ordR] at hodv; rw [hQ.os.1] at hodv; obtain ⟨i0, hi0, hz0, hz1, hz2⟩ := info_parts jlX; have hs : ∀ i, i < 3 → ∃ a c a' c' a'' c'', (X.con i).l = .slice a (R.con i).told.length c ∧ (X.con i).t = .slice a' (R.con i).ses.to.length c' ∧ (X.con i).d = .slice a'' (R.con i).due.length c'' := fun i hi => by
    obtain ⟨A, Z, hA, _⟩ := vL R X hi; obtain ⟨a, c, h, _⟩ := vD (hM.own (intR 3 (X.con i).l (R.con i).told) (by rw [hA]; simp)); obtain ⟨a', c', h'⟩ := RowM.slice (hQ.con hi).gl; obtain ⟨a'', c'', h''⟩ := zc (hQ.con hi).du; exact ⟨a, c, a', c', a'', c'', h, h', h''⟩
  obtain ⟨al0, cl0, at0, ct0, ad0, cd0, el0, et0, ed0⟩ := hs 0 (by omega); obtain ⟨al1, cl1, at1, ct1, ad1, cd1, el1, et1, ed1⟩ := hs 1 (by omega); obtain ⟨al2, cl2, at2, ct2, ad2, cd2, el2, et2, ed2⟩ := hs 2 (by omega); simp only [Vals.con, Rom.con] at el0 et0 ed0 el1 et1 ed1 el2 et2 ed2; obtain ⟨W1, hW1⟩ : ∃ W1, W1 = w.alloc (.cells #[.bool false, .slice none 0 0, .slice none 0 0, .slice none 0 0, .int .i64 0] 37) := ⟨_, rfl⟩; have hB1 : Below w.heap.size w W1 := by rw [hW1]; exact (Below.refl _ _).alloc (Nat.le_refl _) _
  have hX1 := hX.next hB1; have x0 : W1.cell? ⟨b, 0, none⟩ = some (.bool R.up) := hX1.cell rfl; have x4 : W1.cell? ⟨b, 4, none⟩ = some (.int .i64 R.waits) := hX1.cell rfl; have x5 : W1.cell? ⟨b, 5, none⟩ = some (.slice asf R.safe.length csf) := hX1.cell (by rw [← hsf]; rfl); have x36 : W1.cell? ⟨b, 36, none⟩ = some (.slice aod 3 cod) := hX1.cell (by rw [← hodv]; rfl); have HC := hid (show ∀ u, Below W1.heap.size W1 u → u.cell? ⟨b, 0, none⟩ = some (.bool R.up) ∧ u.cell? ⟨b, 4, none⟩ = some (.int .i64 R.waits) ∧ u.cell? ⟨b, 5, none⟩ = some (.slice asf R.safe.length csf) ∧ u.cell? ⟨b, 36, none⟩ = some (.slice aod 3 cod) from
    fun u hu => ⟨ja x0 hu, ja x4 hu, ja x5 hu, ja x36 hu⟩)
  have HX := hid hX; have HWE := hid hW1; have HB1 := hid hB1; have HQ := hid hQ; have HM := hid hM; clear hG hX hM hQ hX1 hW1 hB1 hod; go_enter Tryz.func20, Tryz.ntmps20; go_upto_region 1 with fail
  rw [← HWE.out]
  go_cut [3] (fun p wx => OuB W1 (.bool R.up) (.slice none 0 0) (.slice aod 3 cod) (.slice asf R.safe.length csf) (.int .i64 R.waits) p wx)
  case first =>
    go_region_held3 (fun u => u.cell? ⟨b, 0, none⟩ = some (.bool R.up) ∧ u.cell? ⟨b, 4, none⟩ = some (.int .i64 R.waits) ∧ u.cell? ⟨b, 5, none⟩ = some (.slice asf R.safe.length csf) ∧ u.cell? ⟨b, 36, none⟩ = some (.slice aod 3 cod))
      (first | (refine HC.out _ ?_; (repeat (first | with_reducible exact Below.refl _ _ | with_reducible refine Below.drew ?_ | with_reducible refine Below.alloc ?_ (by first | exact Nat.le_refl _ | simp) _ | with_reducible refine Below.setCell ?_ (by first | exact Nat.le_refl _ | simp) _))) | fail)
      (fail)
    all_goals (go_wp2_with fail; go_meet; exact OuB.new _ _ _ _ _)
  case rest =>
    obtain ⟨hp, hP, hbP⟩ := hcut; subst hp; obtain ⟨W2, rfl⟩ : ∃ W, W = wc := ⟨_, rfl⟩; have HP := hid hP; have HBP := hid hbP; have hRg := jgz (HX.out.next (HB1.out.trans (hbP.mono HB1.out.size))); unfold conC at hRg; simp only [List.cons_append, List.nil_append, el0, et0, ed0, el1, et1, ed1, el2, et2, ed2] at hRg; have HRg := hid hRg; have HEL := hid (And.intro el0 (And.intro el1 el2)); clear hRg hP hbP x0 x4 x5 x36 HC el0 et0 ed0 el1 et1 ed1 el2 et2 ed2 hs; go_upto_region 2 with fail
    refine wp_region_lit ?_; refine wpList_plain rfl (fun K hK => ?_)
    go_simp
    refine hK _ _ ?_; clear hK K; refine wpList_plain rfl (fun K hK => ?_)
    go_simp
    refine hK _ _ ?_; clear hK K; refine wpList_plain rfl (fun K hK => ?_)
    go_simp
    refine hK _ _ ?_; clear hK K; refine wpList_load_mid rfl 88 _ rfl b 7 rfl _ _ HRg.out Tryz.underlying88 rfl jmi ?_; simp only [Act.put, List.setIfInBounds_toArray, List.set_cons_zero, List.set_cons_succ]; go_wp2
    go_loopw [29] (fun i wr => ∃ (k : Nat) (a9 : Option Addr) (c9 : Nat), ((k = 0 ∧ i = .int .i64 0) ∨ (k = 1 ∧ i = .int .i64 1) ∨ (k = 2 ∧ i = .int .i64 2) ∨ (k = 3 ∧ i = .int .i64 3)) ∧ Hid (wr.heap[W1.heap.size]? = some (.cells #[.bool R.up, .slice a9 k c9, .slice aod 3 cod, .slice asf R.safe.length csf, .int .i64 R.waits] 37)) ∧ Hid (wr.ownsRow W2.heap.size 25 1 (.slice a9 k c9) k ([Value.slice al0 R.c0.told.length cl0, .slice al1 R.c1.told.length cl1, .slice al2 R.c2.told.length cl2].take k)) ∧ Hid (Below W1.heap.size W1 wr) ∧ W2.heap.size ≤ wr.heap.size) (fun i _ => 3 - (intOf i).toNat)
    case atStart => exact ⟨0, none, 0, .inl ⟨rfl, rfl⟩, HP, hid (World.ownsRow_nil _ _ _ _), HBP, Nat.le_refl _⟩
    case round =>
      obtain ⟨k, a9, c9, hk, HPk, HOk, HBk, hwz⟩ := hrel; have hPk := HPk.out; obtain ⟨p0, p1, p2, p3, p4⟩ := bx5 hPk; clear hPk; obtain ⟨ix0, ix1, ix2⟩ := jle (.int .i64 R.c0.ses.step) (.string (S R.c0.ses.frm.1)) (.string (S R.c0.ses.frm.2)) (.slice at0 R.c0.ses.to.length ct0) (.string (S R.c0.ses.text)) (.bool R.c0.ses.large) (.string (S R.c0.held)) (.slice ad0 R.c0.due.length cd0) (.slice al0 R.c0.told.length cl0) (.int .i64 R.c1.ses.step) (.string (S R.c1.ses.frm.1)) (.string (S R.c1.ses.frm.2)) (.slice at1 R.c1.ses.to.length ct1) (.string (S R.c1.ses.text)) (.bool R.c1.ses.large) (.string (S R.c1.held)) (.slice ad1 R.c1.due.length cd1) (.slice al1 R.c1.told.length cl1) (.int .i64 R.c2.ses.step) (.string (S R.c2.ses.frm.1)) (.string (S R.c2.ses.frm.2)) (.slice at2 R.c2.ses.to.length ct2) (.string (S R.c2.ses.text)) (.bool R.c2.ses.large) (.string (S R.c2.held)) (.slice ad2 R.c2.due.length cd2) (.slice al2 R.c2.told.length cl2); have hPW : W1.heap.size < W2.heap.size := (Array.getElem?_eq_some_iff.1 HP.out).1; have hPr : W1.heap.size < wr.heap.size := (Array.getElem?_eq_some_iff.1 HPk.out).1; obtain ⟨rfl, rfl⟩ | ⟨rfl, rfl⟩ | ⟨rfl, rfl⟩ | ⟨rfl, rfl⟩ := hk
      · obtain ⟨W3, hW3⟩ : ∃ W3, W3 = wr.alloc (.cells #[.int .i64 R.c0.ses.step, .string (S R.c0.ses.frm.1), .string (S R.c0.ses.frm.2), .slice at0 R.c0.ses.to.length ct0, .string (S R.c0.ses.text), .bool R.c0.ses.large, .string (S R.c0.held), .slice ad0 R.c0.due.length cd0, .slice al0 R.c0.told.length cl0] 87) := ⟨_, rfl⟩; have hb3 : Below wr.heap.size wr W3 := by rw [hW3]; exact (Below.refl _ _).alloc (Nat.le_refl _) _
        have hx3 : W3.heap[wr.heap.size]? = some (.cells #[.int .i64 R.c0.ses.step, .string (S R.c0.ses.frm.1), .string (S R.c0.ses.frm.2), .slice at0 R.c0.ses.to.length ct0, .string (S R.c0.ses.text), .bool R.c0.ses.large, .string (S R.c0.held), .slice ad0 R.c0.due.length cd0, .slice al0 R.c0.told.length cl0] 87) := by rw [hW3]; exact heap_alloc_new wr _
        have x8 : W3.cell? ⟨wr.heap.size, 8, none⟩ = some (Value.slice al0 R.c0.told.length cl0) := by simp [World.cell?, hx3]
        have p1 := ja p1 hb3; have HWE3 := hid hW3; have HB3 := hid hb3; have HO3 := hid (j9 HOk.out hb3); have hl3 := hb3.size; have HP3 := hid ((hb3.block W1.heap.size hPr).trans HPk.out); clear hW3 hb3 hx3; go_upto_region 5 with fail
        rw [← HWE3.out]; clear ix0 ix1 ix2
        go_wp2_with (first
          | (at_builtin; refine wpList_append_lies _ rfl _ _ 33 rfl W2.heap.size 25 i0 _ 1 24 Tryz.underlying33 hi0 hz0 hz1 hz2 rfl (by decide) (.slice a9 0 c9) 0 ([Value.slice al0 R.c0.told.length cl0, Value.slice al1 R.c1.told.length cl1, Value.slice al2 R.c2.told.length cl2].take 0) rfl (World.ownsRow.alloc HO3.out _) ⟨W3.heap.size, 0, none⟩ 1 1 [Value.slice al0 R.c0.told.length cl0] rfl rfl (zE W3 [Value.slice al0 R.c0.told.length cl0] _) (by simp [Value.oneCell']) (by decide) (by unfold maxLen; decide) (by decide) ?c4 _ rfl ?_)
          | fail)
        case c4 => simp; omega
        intro gm cap w4 hown hgrow hat hlt4; have hne : some W1.heap.size ≠ (Value.slice a9 0 c9).ownBlock := fun e => by have := (World.ownsRow.lt HOk.out _ e.symm).1; omega
        have hP4 : w4.heap[W1.heap.size]? = some (.cells #[.bool R.up, .slice a9 0 c9, .slice aod 3 cod, .slice asf R.safe.length csf, .int .i64 R.waits] 37) := (hgrow.block W1.heap.size (by simp; omega) hne).trans ((((Below.refl _ W3).alloc (Nat.le_refl _) _).block W1.heap.size (by omega)).trans HP3.out); have y1 : w4.cell? ⟨W1.heap.size, 1, none⟩ = some (.slice a9 0 c9) := by simp [World.cell?, hP4]
        have yf : w4.frozen? ⟨W1.heap.size, 1, none⟩ = false := by simp [World.frozen?, hP4]
        have hgm : W2.heap.size ≤ gm := by
          rcases hat with e | e
          · exact (World.ownsRow.lt HOk.out gm e).1
          · have e' : gm = W3.heap.size + 1 := by simpa using e
            omega
        obtain ⟨W5, hW5⟩ : ∃ W5, W5 = w4.setCell ⟨W1.heap.size, 1, none⟩ (.slice (some ⟨gm, 0, none⟩) (0 + 1) cap) := ⟨_, rfl⟩; have HB4 := hid (show Below W1.heap.size W1 W5 by
          rw [hW5]; exact ((((HBk.out.trans (HB3.out.mono HBk.out.size)).alloc (show W1.heap.size ≤ W3.heap.size by omega) _).grown hgrow (Nat.le_trans (show W1.heap.size ≤ W3.heap.size by omega) (by simp)) (fun j hj => by have := (World.ownsRow.lt HOk.out j hj).1; omega))).setCell (Nat.le_refl _) _)
        have HP5 := hid (show W5.heap[W1.heap.size]? = some (.cells #[.bool R.up, .slice (some ⟨gm, 0, none⟩) (0 + 1) cap, .slice aod 3 cod, .slice asf R.safe.length csf, .int .i64 R.waits] 37) by
          rw [hW5]; have h := heap_setCell_same w4 W1.heap.size 1 _ _ (.slice (some ⟨gm, 0, none⟩) (0 + 1) cap) hP4
          simpa using h)
        have HO5 := hid (show W5.ownsRow W2.heap.size 25 1 (.slice (some ⟨gm, 0, none⟩) (0 + 1) cap) (0 + 1) ([Value.slice al0 R.c0.told.length cl0, Value.slice al1 R.c1.told.length cl1, Value.slice al2 R.c2.told.length cl2].take (0 + 1)) by
          rw [hW5]; exact jR hown fun g hg => Below.heap_setCell _ _ _ _ (show g ≠ W1.heap.size from fun e => by have : gm = g := Option.some.inj hg; omega))
        have hwz5 : W2.heap.size ≤ W5.heap.size := by
          rw [hW5]; have h := hgrow.size
          simp [World.setCell] at h ⊢
          omega
        have HW5 := hid hW5; clear hown hgrow hat hlt4 hne hP4 hW5; go_wp2; rw [← HW5.out]
        go_roundw
        case rel => exact ⟨0 + 1, _, cap, .inr (.inl ⟨rfl, rfl⟩), HP5, HO5, HB4, hwz5⟩
        case measure => simp [intOf]
      · obtain ⟨W3, hW3⟩ : ∃ W3, W3 = wr.alloc (.cells #[.int .i64 R.c1.ses.step, .string (S R.c1.ses.frm.1), .string (S R.c1.ses.frm.2), .slice at1 R.c1.ses.to.length ct1, .string (S R.c1.ses.text), .bool R.c1.ses.large, .string (S R.c1.held), .slice ad1 R.c1.due.length cd1, .slice al1 R.c1.told.length cl1] 87) := ⟨_, rfl⟩; have hb3 : Below wr.heap.size wr W3 := by rw [hW3]; exact (Below.refl _ _).alloc (Nat.le_refl _) _
        have hx3 : W3.heap[wr.heap.size]? = some (.cells #[.int .i64 R.c1.ses.step, .string (S R.c1.ses.frm.1), .string (S R.c1.ses.frm.2), .slice at1 R.c1.ses.to.length ct1, .string (S R.c1.ses.text), .bool R.c1.ses.large, .string (S R.c1.held), .slice ad1 R.c1.due.length cd1, .slice al1 R.c1.told.length cl1] 87) := by rw [hW3]; exact heap_alloc_new wr _
        have x8 : W3.cell? ⟨wr.heap.size, 8, none⟩ = some (Value.slice al1 R.c1.told.length cl1) := by simp [World.cell?, hx3]
        have p1 := ja p1 hb3; have HWE3 := hid hW3; have HB3 := hid hb3; have HO3 := hid (j9 HOk.out hb3); have hl3 := hb3.size; have HP3 := hid ((hb3.block W1.heap.size hPr).trans HPk.out); clear hW3 hb3 hx3; go_upto_region 5 with fail
        rw [← HWE3.out]; clear ix0 ix1 ix2
        go_wp2_with (first
          | (at_builtin; refine wpList_append_lies _ rfl _ _ 33 rfl W2.heap.size 25 i0 _ 1 24 Tryz.underlying33 hi0 hz0 hz1 hz2 rfl (by decide) (.slice a9 1 c9) 1 ([Value.slice al0 R.c0.told.length cl0, Value.slice al1 R.c1.told.length cl1, Value.slice al2 R.c2.told.length cl2].take 1) rfl (World.ownsRow.alloc HO3.out _) ⟨W3.heap.size, 0, none⟩ 1 1 [Value.slice al1 R.c1.told.length cl1] rfl rfl (zE W3 [Value.slice al1 R.c1.told.length cl1] _) (by simp [Value.oneCell']) (by decide) (by unfold maxLen; decide) (by decide) ?c4 _ rfl ?_)
          | fail)
        case c4 => simp; omega
        intro gm cap w4 hown hgrow hat hlt4; have hne : some W1.heap.size ≠ (Value.slice a9 1 c9).ownBlock := fun e => by have := (World.ownsRow.lt HOk.out _ e.symm).1; omega
        have hP4 : w4.heap[W1.heap.size]? = some (.cells #[.bool R.up, .slice a9 1 c9, .slice aod 3 cod, .slice asf R.safe.length csf, .int .i64 R.waits] 37) := (hgrow.block W1.heap.size (by simp; omega) hne).trans ((((Below.refl _ W3).alloc (Nat.le_refl _) _).block W1.heap.size (by omega)).trans HP3.out); have y1 : w4.cell? ⟨W1.heap.size, 1, none⟩ = some (.slice a9 1 c9) := by simp [World.cell?, hP4]
        have yf : w4.frozen? ⟨W1.heap.size, 1, none⟩ = false := by simp [World.frozen?, hP4]
        have hgm : W2.heap.size ≤ gm := by
          rcases hat with e | e
          · exact (World.ownsRow.lt HOk.out gm e).1
          · have e' : gm = W3.heap.size + 1 := by simpa using e
            omega
        obtain ⟨W5, hW5⟩ : ∃ W5, W5 = w4.setCell ⟨W1.heap.size, 1, none⟩ (.slice (some ⟨gm, 0, none⟩) (1 + 1) cap) := ⟨_, rfl⟩; have HB4 := hid (show Below W1.heap.size W1 W5 by
          rw [hW5]; exact ((((HBk.out.trans (HB3.out.mono HBk.out.size)).alloc (show W1.heap.size ≤ W3.heap.size by omega) _).grown hgrow (Nat.le_trans (show W1.heap.size ≤ W3.heap.size by omega) (by simp)) (fun j hj => by have := (World.ownsRow.lt HOk.out j hj).1; omega))).setCell (Nat.le_refl _) _)
        have HP5 := hid (show W5.heap[W1.heap.size]? = some (.cells #[.bool R.up, .slice (some ⟨gm, 0, none⟩) (1 + 1) cap, .slice aod 3 cod, .slice asf R.safe.length csf, .int .i64 R.waits] 37) by
          rw [hW5]; have h := heap_setCell_same w4 W1.heap.size 1 _ _ (.slice (some ⟨gm, 0, none⟩) (1 + 1) cap) hP4
          simpa using h)
        have HO5 := hid (show W5.ownsRow W2.heap.size 25 1 (.slice (some ⟨gm, 0, none⟩) (1 + 1) cap) (1 + 1) ([Value.slice al0 R.c0.told.length cl0, Value.slice al1 R.c1.told.length cl1, Value.slice al2 R.c2.told.length cl2].take (1 + 1)) by
          rw [hW5]; exact jR hown fun g hg => Below.heap_setCell _ _ _ _ (show g ≠ W1.heap.size from fun e => by have : gm = g := Option.some.inj hg; omega))
        have hwz5 : W2.heap.size ≤ W5.heap.size := by
          rw [hW5]; have h := hgrow.size
          simp [World.setCell] at h ⊢
          omega
        have HW5 := hid hW5; clear hown hgrow hat hlt4 hne hP4 hW5; go_wp2; rw [← HW5.out]
        go_roundw
        case rel => exact ⟨1 + 1, _, cap, .inr (.inr (.inl ⟨rfl, rfl⟩)), HP5, HO5, HB4, hwz5⟩
        case measure => simp [intOf]
      · obtain ⟨W3, hW3⟩ : ∃ W3, W3 = wr.alloc (.cells #[.int .i64 R.c2.ses.step, .string (S R.c2.ses.frm.1), .string (S R.c2.ses.frm.2), .slice at2 R.c2.ses.to.length ct2, .string (S R.c2.ses.text), .bool R.c2.ses.large, .string (S R.c2.held), .slice ad2 R.c2.due.length cd2, .slice al2 R.c2.told.length cl2] 87) := ⟨_, rfl⟩; have hb3 : Below wr.heap.size wr W3 := by rw [hW3]; exact (Below.refl _ _).alloc (Nat.le_refl _) _
        have hx3 : W3.heap[wr.heap.size]? = some (.cells #[.int .i64 R.c2.ses.step, .string (S R.c2.ses.frm.1), .string (S R.c2.ses.frm.2), .slice at2 R.c2.ses.to.length ct2, .string (S R.c2.ses.text), .bool R.c2.ses.large, .string (S R.c2.held), .slice ad2 R.c2.due.length cd2, .slice al2 R.c2.told.length cl2] 87) := by rw [hW3]; exact heap_alloc_new wr _
        have x8 : W3.cell? ⟨wr.heap.size, 8, none⟩ = some (Value.slice al2 R.c2.told.length cl2) := by simp [World.cell?, hx3]
        have p1 := ja p1 hb3; have HWE3 := hid hW3; have HB3 := hid hb3; have HO3 := hid (j9 HOk.out hb3); have hl3 := hb3.size; have HP3 := hid ((hb3.block W1.heap.size hPr).trans HPk.out); clear hW3 hb3 hx3; go_upto_region 5 with fail
        rw [← HWE3.out]; clear ix0 ix1 ix2
        go_wp2_with (first
          | (at_builtin; refine wpList_append_lies _ rfl _ _ 33 rfl W2.heap.size 25 i0 _ 1 24 Tryz.underlying33 hi0 hz0 hz1 hz2 rfl (by decide) (.slice a9 2 c9) 2 ([Value.slice al0 R.c0.told.length cl0, Value.slice al1 R.c1.told.length cl1, Value.slice al2 R.c2.told.length cl2].take 2) rfl (World.ownsRow.alloc HO3.out _) ⟨W3.heap.size, 0, none⟩ 1 1 [Value.slice al2 R.c2.told.length cl2] rfl rfl (zE W3 [Value.slice al2 R.c2.told.length cl2] _) (by simp [Value.oneCell']) (by decide) (by unfold maxLen; decide) (by decide) ?c4 _ rfl ?_)
          | fail)
        case c4 => simp; omega
        intro gm cap w4 hown hgrow hat hlt4; have hne : some W1.heap.size ≠ (Value.slice a9 2 c9).ownBlock := fun e => by have := (World.ownsRow.lt HOk.out _ e.symm).1; omega
        have hP4 : w4.heap[W1.heap.size]? = some (.cells #[.bool R.up, .slice a9 2 c9, .slice aod 3 cod, .slice asf R.safe.length csf, .int .i64 R.waits] 37) := (hgrow.block W1.heap.size (by simp; omega) hne).trans ((((Below.refl _ W3).alloc (Nat.le_refl _) _).block W1.heap.size (by omega)).trans HP3.out); have y1 : w4.cell? ⟨W1.heap.size, 1, none⟩ = some (.slice a9 2 c9) := by simp [World.cell?, hP4]
        have yf : w4.frozen? ⟨W1.heap.size, 1, none⟩ = false := by simp [World.frozen?, hP4]
        have hgm : W2.heap.size ≤ gm := by
          rcases hat with e | e
          · exact (World.ownsRow.lt HOk.out gm e).1
          · have e' : gm = W3.heap.size + 1 := by simpa using e
            omega
        obtain ⟨W5, hW5⟩ : ∃ W5, W5 = w4.setCell ⟨W1.heap.size, 1, none⟩ (.slice (some ⟨gm, 0, none⟩) (2 + 1) cap) := ⟨_, rfl⟩; have HB4 := hid (show Below W1.heap.size W1 W5 by
          rw [hW5]; exact ((((HBk.out.trans (HB3.out.mono HBk.out.size)).alloc (show W1.heap.size ≤ W3.heap.size by omega) _).grown hgrow (Nat.le_trans (show W1.heap.size ≤ W3.heap.size by omega) (by simp)) (fun j hj => by have := (World.ownsRow.lt HOk.out j hj).1; omega))).setCell (Nat.le_refl _) _)
        have HP5 := hid (show W5.heap[W1.heap.size]? = some (.cells #[.bool R.up, .slice (some ⟨gm, 0, none⟩) (2 + 1) cap, .slice aod 3 cod, .slice asf R.safe.length csf, .int .i64 R.waits] 37) by
          rw [hW5]; have h := heap_setCell_same w4 W1.heap.size 1 _ _ (.slice (some ⟨gm, 0, none⟩) (2 + 1) cap) hP4
          simpa using h)
        have HO5 := hid (show W5.ownsRow W2.heap.size 25 1 (.slice (some ⟨gm, 0, none⟩) (2 + 1) cap) (2 + 1) ([Value.slice al0 R.c0.told.length cl0, Value.slice al1 R.c1.told.length cl1, Value.slice al2 R.c2.told.length cl2].take (2 + 1)) by
          rw [hW5]; exact jR hown fun g hg => Below.heap_setCell _ _ _ _ (show g ≠ W1.heap.size from fun e => by have : gm = g := Option.some.inj hg; omega))
        have hwz5 : W2.heap.size ≤ W5.heap.size := by
          rw [hW5]; have h := hgrow.size
          simp [World.setCell] at h ⊢
          omega
        have HW5 := hid hW5; clear hown hgrow hat hlt4 hne hP4 hW5; go_wp2; rw [← HW5.out]
        go_roundw
        case rel => exact ⟨2 + 1, _, cap, .inr (.inr (.inr ⟨rfl, rfl⟩)), HP5, HO5, HB4, hwz5⟩
        case measure => simp [intOf]
      · have hr : wr.heap[w.heap.size]? = some (.cells #[.bool false, .slice none 0 0, .slice none 0 0, .slice none 0 0, .int .i64 0] 37) := by
          have h := HBk.out.block w.heap.size (by rw [HWE.out]; simp); rw [h, HWE.out]; exact heap_alloc_new w _
        obtain ⟨r0, r1, r2, r3, r4⟩ := bx5 hr; have zf : ∀ o, wr.frozen? ⟨w.heap.size, o, none⟩ = false := fun o => by simp [World.frozen?, hr]
        have HR := hid hr; clear hr; have HBK := hid (show w.heap.size < W1.heap.size by rw [HWE.out]; simp); have HEND := hid (show ∀ w', Below w.heap.size w w' → (∀ g, w.heap.size < g → w'.heap[g]? = wr.heap[g]?) → OutM B w' R (.slice a9 3 c9) (.slice aod R.orders.length cod) (.slice asf R.safe.length csf) from fun w' hb hg => jlR HM.out HQ.out hb (by
          obtain ⟨e0, e1, e2⟩ := HEL.out; rw [e0, e1, e2]; exact jaN (f := fun x => x) (jR HOk.out fun g h => hg g (by have := (World.ownsRow.lt HOk.out g h).1; have := HBK.out; omega)) (show 3 ≤ maxLen by unfold maxLen; decide) fun g h => (by have := (World.ownsRow.lt HOk.out g h).1; have := HBK.out; have := HM.out.lt; omega)) (by rw [HQ.out.os.2]; exact hodv) hsf)
        go_wp2; have m := put5 (w := wr) (b := w.heap.size) (.bool R.up) (.slice a9 3 c9) (.slice aod 3 cod) (.slice asf R.safe.length csf) (.int .i64 R.waits) HR.out; obtain ⟨W6, hW6⟩ : ∃ W6, W6 = (((((wr.setCell ⟨w.heap.size, 0, none⟩ (.bool R.up)).setCell ⟨w.heap.size, 1, none⟩ (.slice a9 3 c9)).setCell ⟨w.heap.size, 2, none⟩ (.slice aod 3 cod)).setCell ⟨w.heap.size, 3, none⟩ (.slice asf R.safe.length csf)).setCell ⟨w.heap.size, 4, none⟩ (.int .i64 R.waits)) := ⟨_, rfl⟩; rw [← hW6] at m ⊢; obtain ⟨m0, m1, m2, m3, m4⟩ := bx5 m; refine bodyPost_ret (v := .agg #[.bool R.up, .slice a9 3 c9, .slice aod 3 cod, .slice asf R.safe.length csf, .int .i64 R.waits]) (by simp only [results, Tryz.results20]; simp [go_sem, m0, m1, m2, m3, m4]) rfl ?_; have ho3 := HQ.out.os.2; have hB6 : Below w.heap.size w W6 := by
          rw [hW6]; exact (((((HB1.out.trans (HBk.out.mono HB1.out.size)).setCell (Nat.le_refl _) _).setCell (Nat.le_refl _) _).setCell (Nat.le_refl _) _).setCell (Nat.le_refl _) _).setCell (Nat.le_refl _) _
        refine ⟨a9, c9, aod, cod, asf, csf, by rw [ho3], HEND.out W6 hB6 fun g hg => ?_, hB6⟩; rw [hW6]; have hn : g ≠ w.heap.size := by omega
        exact (Below.heap_setCell _ _ _ _ hn).trans ((Below.heap_setCell _ _ _ _ hn).trans ((Below.heap_setCell _ _ _ _ hn).trans ((Below.heap_setCell _ _ _ _ hn).trans (Below.heap_setCell _ _ _ _ hn))))
end Go.Proofs.YtlfgemnmfhknfaaGreatDoor
