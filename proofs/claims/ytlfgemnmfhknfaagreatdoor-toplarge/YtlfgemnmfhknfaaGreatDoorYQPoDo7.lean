/-
  What a room does with what a connection feeds: the walk, over what its work does.
  Of an act just what its kind has: the walks of post.bare; two acts of one kind held against each other.
  post.Check and the reference's ActFault: the walks. actE is the plain meaning of P13.1.
  What a room does with whole lines that are fed, none of which delivers a letter: the walks put together.
  Tapes: Sync and Crash: the walks.
  What a room's ledger does at a sync: the walks.
  What a room does at a sync where nobody's order waits: the walks.
-/
import Derived.Test.YtlfgemnmfhknfaaGreatDoorYQLmLine8
import Derived.Test.YtlfgemnmfhknfaaGreatDoorYQPoAc2
import Derived.Deep.QuietTactic
import Derived.BigQuiet
import Derived.Test.YtlfgemnmfhknfaaGreatDoorYQPure5
import Derived.Test.YtlfgemnmfhknfaaGreatDoorRows
import Derived.WalkKit
import Derived.Laws.StructEq
import Derived.Deep.RegionLaw
import Derived.Deep.RegionHeld3
import Derived.Deep.DeepCutAuto
import Derived.Test.YtlfgemnmfhknfaaGreatDoorYQPoOp44
import Derived.Test.YtlfgemnmfhknfaaGreatDoorYQPoCn8
import Derived.Test.YtlfgemnmfhknfaaGreatDoorYQPoMod9
namespace Go.Proofs.YtlfgemnmfhknfaaGreatDoor
open Go.RowKit Go.Proofs
theorem RoomM.up {K : List (List UInt8)} {Cs : List (List Cmd)} {B b : Nat} {G : List Nat} {R : Rom} {w : World} (h : RoomM K Cs B b G R w) : w.cell? ⟨b, 0, none⟩ = some (.bool R.up) := by
  obtain ⟨X, hG, hB, hX, hM, hQ⟩ := h; exact hX.cell rfl
set_option maxHeartbeats 2000000 in
set_option maxRecDepth 100000 in
theorem jl3 (K : List (List UInt8)) (Cs : List (List Cmd)) (B b : Nat) (G : List Nat) (R : Rom) (w : World) (hR : RoomM K Cs B b G R w) (i o : Nat) (hi : i < 3) (ho : o = 7 + i * 9) (hup : R.up = true) (x : Acu) (hk : x.kind = 1) (hc : x.conn = i) (hd : x.data ≠ []) (hn : (R.con i).held.length + x.data.length ≤ 1000000000) (R2 : Rom)
    (hW : ∀ (G' : List Nat) (w' : World), Below B w w' → RoomM K Cs B b G' (R.put i (jcy (R.con i) x.data)) w' → Calls Tryz.prog 30 #[.pointer (some ⟨b, 0, none⟩), .pointer (some ⟨b, o, none⟩)] w' (RmQ K Cs B b G' w' R2 (.tuple #[]))) :
    Calls Tryz.prog 19 #[.pointer (some ⟨b, 0, none⟩), .agg (acuC x).toArray] w (RmQ K Cs B b G w R2 (.tuple #[])) := by
  obtain ⟨kd, cn, us, kp, da, en⟩ := x; simp only at hk hc hd hn hW; subst hk; subst hc; obtain ⟨W1, hW1⟩ : ∃ W1, W1 = w.alloc (.cells (acuC ⟨1, i, us, kp, da, en⟩).toArray 32) := ⟨_, rfl⟩; have hB1 : Below w.heap.size w W1 := by rw [hW1]; exact (Below.refl _ _).alloc (Nat.le_refl _) _
  have hx : W1.heap[w.heap.size]? = some (.cells (acuC ⟨1, i, us, kp, da, en⟩).toArray 32) := by rw [hW1]; exact heap_alloc_new w _
  have HX := hid (show ∀ (G' : List Nat) (w' : World), Stp b G W1 G' w' → w'.cell? ⟨w.heap.size, 0, none⟩ = some (.int .i64 1) ∧ w'.cell? ⟨w.heap.size, 1, none⟩ = some (.int .i64 i) ∧ w'.cell? ⟨w.heap.size, 4, none⟩ = some (.string (S da)) from fun G' w' h => by
    have hz := (h.block w.heap.size (Array.getElem?_eq_some_iff.1 hx).1 (jbX hR (Nat.le_refl _))).trans hx
    simp [World.cell?, hz, acuC])
  have HR1 := hid (hR.next hB1); have HH := hid (fun (u : World) (hu : Below W1.heap.size W1 u) => jkb K Cs B b G R u (HR1.out.next hu) i o hi ho da hn); have HW := hid (show ∀ (G' : List Nat) (w' : World), Stp b G W1 G' w' → RoomM K Cs B b G' (R.put i (jcy (R.con i) da)) w' → Calls Tryz.prog 30 #[.pointer (some ⟨b, 0, none⟩), .pointer (some ⟨b, o, none⟩)] w' (RmQ K Cs B b G' w' R2 (.tuple #[])) from fun G' w' h1 h2 => hW G' w' (hR.low ((Stp.of hB1).trans h1)) h2); have c0 := HR1.out.up; rw [hup] at c0; obtain ⟨p0, p1, p4⟩ := HX.out G W1 (Stp.refl _ _ _); have HB1 := hid hB1; have HWE := hid hW1; have HD := hid hd; have hdn : (S da).toList.isEmpty = false := by
    rw [Lib.toList_data, jo]; cases da with
    | nil => exact absurd rfl HD.out
    | cons c t => rfl
  have hi3 : (i : Int) < 3 := by omega
  have hi0 : (0 : Int) ≤ (i : Int) := by omega
  unfold acuC at HWE ⊢; clear hR hW hup hd hn hx hB1 hW1; subst ho; go_enter Tryz.func19, Tryz.ntmps19; go_wp2; rw [← HWE.out]; have hg3 : decide ((1 : Int) = 5) = false := by decide
  go_quiet (fail)
  have HBQ := hid (vd W1 nq); go_wp2
  go_region_held3 (fun u => u.cell? ⟨w.heap.size, 1, none⟩ = some (.int .i64 i) ∧ u.cell? ⟨w.heap.size, 4, none⟩ = some (.string (S da)))
    (first | exact (HX.out _ _ HS2.out).2 | exact (HX.out _ _ (Stp.of HBQ.out.drew)).2 | exact (HX.out _ _ (Stp.of HBQ.out)).2 | fail)
    (first
      | (go_at_call 29
         refine (HH.out _ HBQ.out.drew).mono ?_; rintro e w2 ⟨rfl, G2, hR2, hs2⟩; have HS2 := hid ((Stp.of (b := b) (G := G) HBQ.out.drew).trans hs2); have HW3 := hid (HW.out G2 w2.drew (HS2.out.trans (jbx _)) (hR2.next (Below.refl _ _).drew)); clear hR2 hs2)
      | fail)
  all_goals
    obtain ⟨q0, q1, q4⟩ := HX.out _ _ HS2.out; go_wp2
    go_region_held3 (fun u => u.cell? ⟨w.heap.size, 1, none⟩ = some (.int .i64 i))
      (first | exact HQ4.out | exact (HX.out _ _ (HS2.out.trans (jbx _))).2.1 | exact (HX.out _ _ HS2.out).2.1 | fail)
      (first
        | (go_at_call 30
           refine (HW3.out.mono ?_); rintro e w4 ⟨rfl, G4, hR4, hs4⟩; have HQ4 := hid (HX.out _ _ ((HS2.out.trans (jbx _)).trans hs4)).2.1; have HF := hid (show RmQ K Cs B b G w R2 (.tuple #[]) (.returned (.tuple #[])) w4 from ⟨rfl, G4, hR4, (Stp.of HB1.out).trans ((HS2.out.trans (jbx _)).trans hs4)⟩); clear hR4 hs4)
        | fail)
    go_wp2; go_end0; exact HF.out
end Go.Proofs.YtlfgemnmfhknfaaGreatDoor
namespace Go.Proofs.YtlfgemnmfhknfaaGreatDoor
open Go.RowKit Go.Proofs
theorem hidp {p : Prop} (h : p) : Hid p := h
theorem jaq {a b : ByteArray} (h : ¬ a = b) : (a.toList == b.toList) = false := by
  rw [beq_eq_false_iff_ne]; intro e; rw [Lib.toList_data, Lib.toList_data] at e
  apply h
  obtain ⟨⟨x⟩⟩ := a; obtain ⟨⟨y⟩⟩ := b; simp only at e; rw [e]
theorem qq (a : ByteArray) : (a.toList == a.toList) = true := by simp
set_option maxHeartbeats 2000000 in
set_option maxRecDepth 100000 in
theorem jl1 (c u p ek eu ef : Int) (d eb eg et : List UInt8) (w : World) : Calls Tryz.prog 42 #[.agg #[.int .i64 1, .int .i64 c, .int .i64 u, .int .i64 p, .string (S d), .int .i64 ek, .string (S eb), .int .i64 eu, .int .i64 ef, .string (S eg), .string (S et)]] w fun e w' => e = .returned (.agg #[.int .i64 1, .int .i64 c, .int .i64 0, .int .i64 0, .string (S d), .int .i64 0, .string (⟨#[]⟩), .int .i64 0, .int .i64 0, .string (⟨#[]⟩), .string (⟨#[]⟩)]) ∧ Below w.heap.size w w' := by
  have HB := hidp (show ∀ a b c : Obj, Below w.heap.size w (((w.alloc a).alloc b).alloc c) from fun a b c => (((Below.refl _ _).alloc (Nat.le_refl _) a).alloc (by simp) b).alloc (by simp; omega) c); go_enter Tryz.func42, Tryz.ntmps42; go_wp2
  go_region_law (fail)
  all_goals
    go_wp2; refine bodyPost_ret (v := .agg #[.int .i64 1, .int .i64 c, .int .i64 0, .int .i64 0, .string (S d), .int .i64 0, .string (⟨#[]⟩), .int .i64 0, .int .i64 0, .string (⟨#[]⟩), .string (⟨#[]⟩)]) (by simp [results, Tryz.results42, go_sem, *]) rfl ?_
    first | exact ⟨rfl, HB.out _ _ _⟩ | exact ⟨rfl, (HB.out _ _ _).drew⟩
set_option maxHeartbeats 2000000 in
set_option maxRecDepth 100000 in
theorem jlP (c u p ek eu ef : Int) (d eb eg et : List UInt8) (w : World) : Calls Tryz.prog 42 #[.agg #[.int .i64 2, .int .i64 c, .int .i64 u, .int .i64 p, .string (S d), .int .i64 ek, .string (S eb), .int .i64 eu, .int .i64 ef, .string (S eg), .string (S et)]] w fun e w' => e = .returned (.agg #[.int .i64 2, .int .i64 0, .int .i64 0, .int .i64 0, .string (⟨#[]⟩), .int .i64 0, .string (⟨#[]⟩), .int .i64 0, .int .i64 0, .string (⟨#[]⟩), .string (⟨#[]⟩)]) ∧ Below w.heap.size w w' := by
  have HB := hidp (show ∀ a b c : Obj, Below w.heap.size w (((w.alloc a).alloc b).alloc c) from fun a b c => (((Below.refl _ _).alloc (Nat.le_refl _) a).alloc (by simp) b).alloc (by simp; omega) c); go_enter Tryz.func42, Tryz.ntmps42; go_wp2
  all_goals
    refine bodyPost_ret (v := .agg #[.int .i64 2, .int .i64 0, .int .i64 0, .int .i64 0, .string (⟨#[]⟩), .int .i64 0, .string (⟨#[]⟩), .int .i64 0, .int .i64 0, .string (⟨#[]⟩), .string (⟨#[]⟩)]) (by simp [results, Tryz.results42, go_sem, *]) rfl ?_
    first | exact ⟨rfl, HB.out _ _ _⟩ | exact ⟨rfl, (HB.out _ _ _).drew⟩
set_option maxHeartbeats 4000000 in
set_option maxRecDepth 100000 in
theorem jiy (k c u p ek eu ef yc yu yp yek yeu yef : Int) (d eb eg et yd yeb yeg yet : ByteArray) (h : ¬ (c = yc ∧ u = yu ∧ p = yp ∧ d = yd ∧ ek = yek ∧ eb = yeb ∧ eu = yeu ∧ ef = yef ∧ eg = yeg ∧ et = yet)) (w : World) : (binOp .neq 32 (.agg #[.int .i64 k, .int .i64 c, .int .i64 u, .int .i64 p, .string d, .int .i64 ek, .string eb, .int .i64 eu, .int .i64 ef, .string eg, .string et]) (.agg #[.int .i64 k, .int .i64 yc, .int .i64 yu, .int .i64 yp, .string yd, .int .i64 yek, .string yeb, .int .i64 yeu, .int .i64 yef, .string yeg, .string yet])).run Tryz.prog w = .ok (.bool true) w := by
  by_cases h0 : c = yc
  · subst h0
    by_cases h1 : u = yu
    · subst h1
      by_cases h2 : p = yp
      · subst h2
        by_cases h3 : d = yd
        · subst h3; have e3 := qq d
          by_cases h4 : ek = yek
          · subst h4
            by_cases h5 : eb = yeb
            · subst h5; have e5 := qq eb
              by_cases h6 : eu = yeu
              · subst h6
                by_cases h7 : ef = yef
                · subst h7
                  by_cases h8 : eg = yeg
                  · subst h8; have e8 := qq eg; have h9 : ¬ et = yet := fun h9 => h ⟨rfl, rfl, rfl, rfl, rfl, rfl, rfl, rfl, rfl, h9⟩
                    have e9 := jaq h9; clear h h9
                    simp [go_sem, *]
                  · have e8 := jaq h8; clear h h8
                    simp [go_sem, *]
                · have e7 : (ef == yef) = false := by rw [beq_eq_false_iff_ne]; exact h7
                  clear h h7
                  simp [go_sem, *]
              · have e6 : (eu == yeu) = false := by rw [beq_eq_false_iff_ne]; exact h6
                clear h h6
                simp [go_sem, *]
            · have e5 := jaq h5; clear h h5
              simp [go_sem, *]
          · have e4 : (ek == yek) = false := by rw [beq_eq_false_iff_ne]; exact h4
            clear h h4
            simp [go_sem, *]
        · have e3 := jaq h3; clear h h3
          simp [go_sem, *]
      · have e2 : (p == yp) = false := by rw [beq_eq_false_iff_ne]; exact h2
        clear h h2
        simp [go_sem, *]
    · have e1 : (u == yu) = false := by rw [beq_eq_false_iff_ne]; exact h1
      clear h h1
      simp [go_sem, *]
  · have e0 : (c == yc) = false := by rw [beq_eq_false_iff_ne]; exact h0
    clear h h0
    simp [go_sem, *]
set_option maxHeartbeats 4000000 in
set_option maxRecDepth 100000 in
theorem jk2 (k c u p ek eu ef : Int) (d eb eg et : ByteArray) (w : World) : (binOp .neq 32 (.agg #[.int .i64 k, .int .i64 c, .int .i64 u, .int .i64 p, .string d, .int .i64 ek, .string eb, .int .i64 eu, .int .i64 ef, .string eg, .string et]) (.agg #[.int .i64 k, .int .i64 c, .int .i64 u, .int .i64 p, .string d, .int .i64 ek, .string eb, .int .i64 eu, .int .i64 ef, .string eg, .string et])).run Tryz.prog w = .ok (.bool false) w := by
  have e1 := qq d; have e2 := qq eb; have e3 := qq eg; have e4 := qq et
  simp [go_sem, *]
theorem jlm (k c u p ek eu ef yc yu yp yek yeu yef : Int) (d eb eg et yd yeb yeg yet : ByteArray) (h : c = yc ∧ u = yu ∧ p = yp ∧ d = yd ∧ ek = yek ∧ eb = yeb ∧ eu = yeu ∧ ef = yef ∧ eg = yeg ∧ et = yet) (w : World) : (binOp .neq 32 (.agg #[.int .i64 k, .int .i64 c, .int .i64 u, .int .i64 p, .string d, .int .i64 ek, .string eb, .int .i64 eu, .int .i64 ef, .string eg, .string et]) (.agg #[.int .i64 k, .int .i64 yc, .int .i64 yu, .int .i64 yp, .string yd, .int .i64 yek, .string yeb, .int .i64 yeu, .int .i64 yef, .string yeg, .string yet])).run Tryz.prog w = .ok (.bool false) w := by
  obtain ⟨rfl, rfl, rfl, rfl, rfl, rfl, rfl, rfl, rfl, rfl⟩ := h; exact jk2 _ _ _ _ _ _ _ _ _ _ _ w
end Go.Proofs.YtlfgemnmfhknfaaGreatDoor
namespace Go.Proofs.YtlfgemnmfhknfaaGreatDoor
open Go.RowKit Go.Proofs
def entZ (ek eu ef : Int) (eb eg et : List UInt8) : Prop := ek = 0 ∧ eb = [] ∧ eu = 0 ∧ ef = 0 ∧ eg = [] ∧ et = []
def actB (k c u p : Int) (d : List UInt8) (z : Prop) : Prop := (k = 1 ∨ (c = 0 ∧ d = [])) ∧ (k = 3 ∨ p = 0) ∧ (k = 5 ∨ (u = 0 ∧ z))
def actR (k c u p : Int) : Prop := (k = 1 → 0 ≤ c ∧ c ≤ 2) ∧ (k = 3 → 0 ≤ p ∧ p ≤ 100000) ∧ (k = 5 → 0 ≤ u ∧ u ≤ 2)
def ActE (k c u p : Int) (d : List UInt8) (z : Prop) (e : Int) : Prop :=
  (¬ (1 ≤ k ∧ k ≤ 5) ∧ e = 2) ∨ ((1 ≤ k ∧ k ≤ 5) ∧ ((¬ actR k c u p ∧ e = 6) ∨ (actR k c u p ∧ ((k = 1 ∧ 3000 < d.length ∧ e = 1) ∨ (¬ (k = 1 ∧ 3000 < d.length) ∧ ((¬ actB k c u p d z ∧ e = 3) ∨ (actB k c u p d z ∧ e = 0)))))))
theorem jge {k c u p : Int} {d : List UInt8} {z : Prop} {e f : Int} (h : ActE k c u p d z e) (g : ActE k c u p d z f) : e = f := by
  unfold ActE at h g
  rcases h with ⟨h1, h2⟩ | ⟨h1, ⟨h3, h2⟩ | ⟨h3, ⟨h4, h5, h2⟩ | ⟨h4, ⟨h5, h2⟩ | ⟨h5, h2⟩⟩⟩⟩ <;>
  rcases g with ⟨g1, g2⟩ | ⟨g1, ⟨g3, g2⟩ | ⟨g3, ⟨g4, g5, g2⟩ | ⟨g4, ⟨g5, g2⟩ | ⟨g5, g2⟩⟩⟩⟩ <;>
  first | exact h2.trans g2.symm | (exfalso; first | exact g1 h1 | exact h1 g1 | exact g3 h3 | exact h3 g3 | exact g4 (And.intro h4 h5) | exact h4 (And.intro g4 g5) | exact g5 h5 | exact h5 g5 | fail)
def InP (k c u p : Int) (e : Ending) : Prop := ∃ b : Bool, e = .returned (.bool b) ∧ (b = true ↔ actR k c u p)
def ChP (k c u p : Int) (d : List UInt8) (z : Prop) (e : Ending) : Prop := ∃ r, e = .returned (.int .i64 r) ∧ ActE k c u p d z r
theorem jb7 {l : List UInt8} (h : (S l : ByteArray) = ⟨#[]⟩) : l = [] := by
  have := congrArg (fun b => b.data.toList) h
  simpa [jo] using this
set_option maxHeartbeats 2000000 in
set_option maxRecDepth 100000 in
theorem jh4 (k c u p : Int) (d : ByteArray) (ek eu ef : Int) (eb eg et : ByteArray) (w : World) : Calls Tryz.prog 41 #[.agg #[.int .i64 k, .int .i64 c, .int .i64 u, .int .i64 p, .string d, .int .i64 ek, .string eb, .int .i64 eu, .int .i64 ef, .string eg, .string et]] w fun e w' => InP k c u p e ∧ Below w.heap.size w w' := by
  have HB := hidp (show ∀ a : Obj, Below w.heap.size w (w.alloc a) from fun a => (Below.refl _ _).alloc (Nat.le_refl _) a); go_enter Tryz.func41, Tryz.ntmps41; go_wp2
  all_goals
    go_ret; refine ⟨⟨_, rfl, ?_⟩, HB.out _⟩; unfold actR
    simp_all <;> omega
theorem jka {c u p ek eu ef : Int} {d eb eg et : List UInt8} (h : actB 1 c u p d (entZ ek eu ef eb eg et)) : c = c ∧ u = 0 ∧ p = 0 ∧ S d = (S d) ∧ ek = 0 ∧ S eb = ⟨#[]⟩ ∧ eu = 0 ∧ ef = 0 ∧ S eg = ⟨#[]⟩ ∧ S et = ⟨#[]⟩ := by
  unfold actB entZ at h; obtain ⟨h1, h2, h3⟩ := h; have g1 := h1.resolve_left; have g2 := h2.resolve_left; have g3 := h3.resolve_left; obtain h2 := g2 (by decide); obtain ⟨h4, h5, h6, h7, h8, h9, h10⟩ := g3 (by decide)
  subst_vars
  exact ⟨rfl, rfl, rfl, rfl, rfl, rfl, rfl, rfl, rfl, rfl⟩
set_option maxHeartbeats 2000000 in
set_option maxRecDepth 100000 in
theorem jky (c u p ek eu ef : Int) (d eb eg et : List UInt8) (hd : d.length ≤ 9223372036854775807) (w : World) : Calls Tryz.prog 27 #[.agg #[.int .i64 1, .int .i64 c, .int .i64 u, .int .i64 p, .string (S d), .int .i64 ek, .string (S eb), .int .i64 eu, .int .i64 ef, .string (S eg), .string (S et)]] w fun e w' => ChP 1 c u p d (entZ ek eu ef eb eg et) e ∧ Below w.heap.size w w' := by
  obtain ⟨W1, hW1⟩ : ∃ W1, W1 = w.alloc (.cells #[.int .i64 1, .int .i64 c, .int .i64 u, .int .i64 p, .string (S d), .int .i64 ek, .string (S eb), .int .i64 eu, .int .i64 ef, .string (S eg), .string (S et)] 32) := ⟨_, rfl⟩; have HWE := hidp hW1; have HB1 := hidp (show Below w.heap.size w W1 by rw [hW1]; exact (Below.refl _ _).alloc (Nat.le_refl _) _); have HX := hidp (show ∀ w', Below W1.heap.size W1 w' → w'.cell? ⟨w.heap.size, 0, none⟩ = some (.int .i64 1) ∧ w'.cell? ⟨w.heap.size, 1, none⟩ = some (.int .i64 c) ∧ w'.cell? ⟨w.heap.size, 2, none⟩ = some (.int .i64 u) ∧ w'.cell? ⟨w.heap.size, 3, none⟩ = some (.int .i64 p) ∧ w'.cell? ⟨w.heap.size, 4, none⟩ = some (.string (S d)) ∧ w'.cell? ⟨w.heap.size, 5, none⟩ = some (.int .i64 ek) ∧ w'.cell? ⟨w.heap.size, 6, none⟩ = some (.string (S eb)) ∧ w'.cell? ⟨w.heap.size, 7, none⟩ = some (.int .i64 eu) ∧ w'.cell? ⟨w.heap.size, 8, none⟩ = some (.int .i64 ef) ∧ w'.cell? ⟨w.heap.size, 9, none⟩ = some (.string (S eg)) ∧ w'.cell? ⟨w.heap.size, 10, none⟩ = some (.string (S et)) from fun w' hb => by
    have hs : w.heap.size < W1.heap.size := by rw [hW1]; simp
    refine ⟨?_, ?_, ?_, ?_, ?_, ?_, ?_, ?_, ?_, ?_, ?_⟩ <;> exact (hb.cell hs).trans (by rw [hW1]; simp))
  have HD := hidp hd; have HSZ := hidp (jf d); clear hW1 hd; obtain ⟨x0, x1, x2, x3, x4, x5, x6, x7, x8, x9, x10⟩ := HX.out W1 (Below.refl _ _); go_enter Tryz.func27, Tryz.ntmps27; go_wp2_with fail; rw [← HWE.out]; refine (jh4 _ _ _ _ _ _ _ _ _ _ _ W1).mono ?_; rintro e w2 ⟨⟨b, rfl, hb⟩, hb2⟩; have HB := hidp hb; have HB2 := hidp hb2; clear hb x0 x1 x2 x3 x4 x5 x6 x7 x8 x9 x10; obtain ⟨y0, y1, y2, y3, y4, y5, y6, y7, y8, y9, y10⟩ := HX.out w2 hb2; clear hb2; cases b
  · go_wp2; go_ret; refine ⟨⟨6, rfl, Or.inr ⟨by decide, Or.inl ⟨fun h => ?_, rfl⟩⟩⟩, HB1.out.trans (HB2.out.mono HB1.out.size)⟩; have := HB.out.2 h
    simp at this
  · have HR := hidp (HB.out.1 rfl); clear HB
    by_cases hl : 3000 < d.length
    · have hl' : (3000 : Int) < ((S d).size : Int) := by rw [HSZ.out]; omega
      have HL := hidp hl; clear hl; go_wp2; go_ret; exact ⟨⟨1, rfl, Or.inr ⟨by decide, Or.inr ⟨HR.out, Or.inl ⟨rfl, HL.out, rfl⟩⟩⟩⟩, HB1.out.trans (HB2.out.mono HB1.out.size)⟩
    have hl' : ¬ (3000 : Int) < ((S d).size : Int) := by rw [HSZ.out]; omega
    have HL := hidp (show ¬ 3000 < d.length from hl); clear hl; have HBR := hidp (fun v : World => jl1 c u p ek eu ef d eb eg et v)
    by_cases hall : c = c ∧ u = 0 ∧ p = 0 ∧ S d = (S d) ∧ ek = 0 ∧ S eb = ⟨#[]⟩ ∧ eu = 0 ∧ ef = 0 ∧ S eg = ⟨#[]⟩ ∧ S et = ⟨#[]⟩
    · have HACT := hidp (show actB 1 c u p d (entZ ek eu ef eb eg et) by
        obtain ⟨h0, h1, h2, h3, h4, h5, h6, h7, h8, h9⟩ := hall; exact ⟨Or.inl rfl, Or.inr h2, Or.inr ⟨h1, h4, jb7 h5, h6, h7, jb7 h8, jb7 h9⟩⟩)
      have hne := fun v : World => jlm 1 c u p ek eu ef c 0 0 0 0 0 (S d) (S eb) (S eg) (S et) (S d) ⟨#[]⟩ ⟨#[]⟩ ⟨#[]⟩ hall v
      clear hall; go_upto_region 7 with fail
      go_cut [1, 2, 26] (fun a b c wx => a = .pointer (some ⟨w.heap.size, 0, none⟩) ∧ c = .bool false ∧ Below W1.heap.size W1 wx)
      case first =>
        go_region_held3 (fun w' => w'.cell? ⟨w.heap.size, 0, none⟩ = some (.int .i64 1) ∧ w'.cell? ⟨w.heap.size, 1, none⟩ = some (.int .i64 c) ∧ w'.cell? ⟨w.heap.size, 2, none⟩ = some (.int .i64 u) ∧ w'.cell? ⟨w.heap.size, 3, none⟩ = some (.int .i64 p) ∧ w'.cell? ⟨w.heap.size, 4, none⟩ = some (.string (S d)) ∧ w'.cell? ⟨w.heap.size, 5, none⟩ = some (.int .i64 ek) ∧ w'.cell? ⟨w.heap.size, 6, none⟩ = some (.string (S eb)) ∧ w'.cell? ⟨w.heap.size, 7, none⟩ = some (.int .i64 eu) ∧ w'.cell? ⟨w.heap.size, 8, none⟩ = some (.int .i64 ef) ∧ w'.cell? ⟨w.heap.size, 9, none⟩ = some (.string (S eg)) ∧ w'.cell? ⟨w.heap.size, 10, none⟩ = some (.string (S et))) (go_keep)
          (first
            | (go_at_call 42
               with_reducible refine (HBR.out w2.drew).mono ?_
               rintro e w3 ⟨rfl, hb⟩; have hb3 : Below W1.heap.size W1 w3 := (HB2.out.drew).trans (hb.mono HB2.out.size); have HB3 := hidp hb3; obtain ⟨z0, z1, z2, z3, z4, z5, z6, z7, z8, z9, z10⟩ := HX.out w3 hb3; clear hb hb3)
            | fail)
        all_goals
          go_wp2
          first | (go_meet; exact ⟨rfl, rfl, HB3.out⟩) | fail
      case rest =>
        obtain ⟨rfl, rfl, hb3⟩ := hcut; have HB3 := hidp hb3; clear hb3; go_wp2; go_ret; exact ⟨⟨0, rfl, Or.inr ⟨by decide, Or.inr ⟨HR.out, Or.inr ⟨fun h => HL.out h.2, Or.inr ⟨HACT.out, rfl⟩⟩⟩⟩⟩, HB1.out.trans (HB3.out.mono HB1.out.size)⟩
    · have HACT := hidp (show ¬ actB 1 c u p d (entZ ek eu ef eb eg et) from fun h => hall (jka h)); have hne := fun v : World => jiy 1 c u p ek eu ef c 0 0 0 0 0 (S d) (S eb) (S eg) (S et) (S d) ⟨#[]⟩ ⟨#[]⟩ ⟨#[]⟩ hall v
      clear hall; go_upto_region 7 with fail
      go_cut [1, 2, 26] (fun a b c wx => a = .pointer (some ⟨w.heap.size, 0, none⟩) ∧ c = .bool true ∧ Below W1.heap.size W1 wx)
      case first =>
        go_region_held3 (fun w' => w'.cell? ⟨w.heap.size, 0, none⟩ = some (.int .i64 1) ∧ w'.cell? ⟨w.heap.size, 1, none⟩ = some (.int .i64 c) ∧ w'.cell? ⟨w.heap.size, 2, none⟩ = some (.int .i64 u) ∧ w'.cell? ⟨w.heap.size, 3, none⟩ = some (.int .i64 p) ∧ w'.cell? ⟨w.heap.size, 4, none⟩ = some (.string (S d)) ∧ w'.cell? ⟨w.heap.size, 5, none⟩ = some (.int .i64 ek) ∧ w'.cell? ⟨w.heap.size, 6, none⟩ = some (.string (S eb)) ∧ w'.cell? ⟨w.heap.size, 7, none⟩ = some (.int .i64 eu) ∧ w'.cell? ⟨w.heap.size, 8, none⟩ = some (.int .i64 ef) ∧ w'.cell? ⟨w.heap.size, 9, none⟩ = some (.string (S eg)) ∧ w'.cell? ⟨w.heap.size, 10, none⟩ = some (.string (S et))) (go_keep)
          (first
            | (go_at_call 42
               with_reducible refine (HBR.out w2.drew).mono ?_
               rintro e w3 ⟨rfl, hb⟩; have hb3 : Below W1.heap.size W1 w3 := (HB2.out.drew).trans (hb.mono HB2.out.size); have HB3 := hidp hb3; obtain ⟨z0, z1, z2, z3, z4, z5, z6, z7, z8, z9, z10⟩ := HX.out w3 hb3; clear hb hb3)
            | fail)
        all_goals
          go_wp2
          first | (go_meet; exact ⟨rfl, rfl, HB3.out⟩) | fail
      case rest =>
        obtain ⟨rfl, rfl, hb3⟩ := hcut; have HB3 := hidp hb3; clear hb3; go_wp2; go_ret; exact ⟨⟨3, rfl, Or.inr ⟨by decide, Or.inr ⟨HR.out, Or.inr ⟨fun h => HL.out h.2, Or.inl ⟨HACT.out, rfl⟩⟩⟩⟩⟩, HB1.out.trans (HB3.out.mono HB1.out.size)⟩
theorem jjO {c u p ek eu ef : Int} {d eb eg et : List UInt8} (h : actB 2 c u p d (entZ ek eu ef eb eg et)) : c = 0 ∧ u = 0 ∧ p = 0 ∧ S d = ⟨#[]⟩ ∧ ek = 0 ∧ S eb = ⟨#[]⟩ ∧ eu = 0 ∧ ef = 0 ∧ S eg = ⟨#[]⟩ ∧ S et = ⟨#[]⟩ := by
  unfold actB entZ at h; obtain ⟨h1, h2, h3⟩ := h; have g1 := h1.resolve_left; have g2 := h2.resolve_left; have g3 := h3.resolve_left; obtain ⟨h1, h1'⟩ := g1 (by decide); obtain h2 := g2 (by decide); obtain ⟨h4, h5, h6, h7, h8, h9, h10⟩ := g3 (by decide)
  subst_vars
  exact ⟨rfl, rfl, rfl, rfl, rfl, rfl, rfl, rfl, rfl, rfl⟩
set_option maxHeartbeats 2000000 in
set_option maxRecDepth 100000 in
theorem jkw (c u p ek eu ef : Int) (d eb eg et : List UInt8) (hd : d.length ≤ 9223372036854775807) (w : World) : Calls Tryz.prog 27 #[.agg #[.int .i64 2, .int .i64 c, .int .i64 u, .int .i64 p, .string (S d), .int .i64 ek, .string (S eb), .int .i64 eu, .int .i64 ef, .string (S eg), .string (S et)]] w fun e w' => ChP 2 c u p d (entZ ek eu ef eb eg et) e ∧ Below w.heap.size w w' := by
  obtain ⟨W1, hW1⟩ : ∃ W1, W1 = w.alloc (.cells #[.int .i64 2, .int .i64 c, .int .i64 u, .int .i64 p, .string (S d), .int .i64 ek, .string (S eb), .int .i64 eu, .int .i64 ef, .string (S eg), .string (S et)] 32) := ⟨_, rfl⟩; have HWE := hidp hW1; have HB1 := hidp (show Below w.heap.size w W1 by rw [hW1]; exact (Below.refl _ _).alloc (Nat.le_refl _) _); have HX := hidp (show ∀ w', Below W1.heap.size W1 w' → w'.cell? ⟨w.heap.size, 0, none⟩ = some (.int .i64 2) ∧ w'.cell? ⟨w.heap.size, 1, none⟩ = some (.int .i64 c) ∧ w'.cell? ⟨w.heap.size, 2, none⟩ = some (.int .i64 u) ∧ w'.cell? ⟨w.heap.size, 3, none⟩ = some (.int .i64 p) ∧ w'.cell? ⟨w.heap.size, 4, none⟩ = some (.string (S d)) ∧ w'.cell? ⟨w.heap.size, 5, none⟩ = some (.int .i64 ek) ∧ w'.cell? ⟨w.heap.size, 6, none⟩ = some (.string (S eb)) ∧ w'.cell? ⟨w.heap.size, 7, none⟩ = some (.int .i64 eu) ∧ w'.cell? ⟨w.heap.size, 8, none⟩ = some (.int .i64 ef) ∧ w'.cell? ⟨w.heap.size, 9, none⟩ = some (.string (S eg)) ∧ w'.cell? ⟨w.heap.size, 10, none⟩ = some (.string (S et)) from fun w' hb => by
    have hs : w.heap.size < W1.heap.size := by rw [hW1]; simp
    refine ⟨?_, ?_, ?_, ?_, ?_, ?_, ?_, ?_, ?_, ?_, ?_⟩ <;> exact (hb.cell hs).trans (by rw [hW1]; simp))
  have HD := hidp hd; have HSZ := hidp (jf d); clear hW1 hd; obtain ⟨x0, x1, x2, x3, x4, x5, x6, x7, x8, x9, x10⟩ := HX.out W1 (Below.refl _ _); go_enter Tryz.func27, Tryz.ntmps27; go_wp2_with fail; rw [← HWE.out]; refine (jh4 _ _ _ _ _ _ _ _ _ _ _ W1).mono ?_; rintro e w2 ⟨⟨b, rfl, hb⟩, hb2⟩; have HB := hidp hb; have HB2 := hidp hb2; clear hb x0 x1 x2 x3 x4 x5 x6 x7 x8 x9 x10; obtain ⟨y0, y1, y2, y3, y4, y5, y6, y7, y8, y9, y10⟩ := HX.out w2 hb2; clear hb2; cases b
  · go_wp2; go_ret; refine ⟨⟨6, rfl, Or.inr ⟨by decide, Or.inl ⟨fun h => ?_, rfl⟩⟩⟩, HB1.out.trans (HB2.out.mono HB1.out.size)⟩; have := HB.out.2 h
    simp at this
  · have HR := hidp (HB.out.1 rfl); clear HB
    skip
    have HBR := hidp (fun v : World => jlP c u p ek eu ef d eb eg et v)
    by_cases hall : c = 0 ∧ u = 0 ∧ p = 0 ∧ S d = ⟨#[]⟩ ∧ ek = 0 ∧ S eb = ⟨#[]⟩ ∧ eu = 0 ∧ ef = 0 ∧ S eg = ⟨#[]⟩ ∧ S et = ⟨#[]⟩
    · have HACT := hidp (show actB 2 c u p d (entZ ek eu ef eb eg et) by
        obtain ⟨h0, h1, h2, h3, h4, h5, h6, h7, h8, h9⟩ := hall; exact ⟨Or.inr ⟨h0, jb7 h3⟩, Or.inr h2, Or.inr ⟨h1, h4, jb7 h5, h6, h7, jb7 h8, jb7 h9⟩⟩)
      have hne := fun v : World => jlm 2 c u p ek eu ef 0 0 0 0 0 0 (S d) (S eb) (S eg) (S et) ⟨#[]⟩ ⟨#[]⟩ ⟨#[]⟩ ⟨#[]⟩ hall v
      clear hall; go_upto_region 7 with fail
      go_cut [1, 2, 26] (fun a b c wx => a = .pointer (some ⟨w.heap.size, 0, none⟩) ∧ c = .bool false ∧ Below W1.heap.size W1 wx)
      case first =>
        go_region_held3 (fun w' => w'.cell? ⟨w.heap.size, 0, none⟩ = some (.int .i64 2) ∧ w'.cell? ⟨w.heap.size, 1, none⟩ = some (.int .i64 c) ∧ w'.cell? ⟨w.heap.size, 2, none⟩ = some (.int .i64 u) ∧ w'.cell? ⟨w.heap.size, 3, none⟩ = some (.int .i64 p) ∧ w'.cell? ⟨w.heap.size, 4, none⟩ = some (.string (S d)) ∧ w'.cell? ⟨w.heap.size, 5, none⟩ = some (.int .i64 ek) ∧ w'.cell? ⟨w.heap.size, 6, none⟩ = some (.string (S eb)) ∧ w'.cell? ⟨w.heap.size, 7, none⟩ = some (.int .i64 eu) ∧ w'.cell? ⟨w.heap.size, 8, none⟩ = some (.int .i64 ef) ∧ w'.cell? ⟨w.heap.size, 9, none⟩ = some (.string (S eg)) ∧ w'.cell? ⟨w.heap.size, 10, none⟩ = some (.string (S et))) (go_keep)
          (first
            | (go_at_call 42
               with_reducible refine (HBR.out w2.drew).mono ?_
               rintro e w3 ⟨rfl, hb⟩; have hb3 : Below W1.heap.size W1 w3 := (HB2.out.drew).trans (hb.mono HB2.out.size); have HB3 := hidp hb3; obtain ⟨z0, z1, z2, z3, z4, z5, z6, z7, z8, z9, z10⟩ := HX.out w3 hb3; clear hb hb3)
            | fail)
        all_goals
          go_wp2
          first | (go_meet; exact ⟨rfl, rfl, HB3.out⟩) | fail
      case rest =>
        obtain ⟨rfl, rfl, hb3⟩ := hcut; have HB3 := hidp hb3; clear hb3; go_wp2; go_ret; exact ⟨⟨0, rfl, Or.inr ⟨by decide, Or.inr ⟨HR.out, Or.inr ⟨fun h => absurd h.1 (by decide), Or.inr ⟨HACT.out, rfl⟩⟩⟩⟩⟩, HB1.out.trans (HB3.out.mono HB1.out.size)⟩
    · have HACT := hidp (show ¬ actB 2 c u p d (entZ ek eu ef eb eg et) from fun h => hall (jjO h)); have hne := fun v : World => jiy 2 c u p ek eu ef 0 0 0 0 0 0 (S d) (S eb) (S eg) (S et) ⟨#[]⟩ ⟨#[]⟩ ⟨#[]⟩ ⟨#[]⟩ hall v
      clear hall; go_upto_region 7 with fail
      go_cut [1, 2, 26] (fun a b c wx => a = .pointer (some ⟨w.heap.size, 0, none⟩) ∧ c = .bool true ∧ Below W1.heap.size W1 wx)
      case first =>
        go_region_held3 (fun w' => w'.cell? ⟨w.heap.size, 0, none⟩ = some (.int .i64 2) ∧ w'.cell? ⟨w.heap.size, 1, none⟩ = some (.int .i64 c) ∧ w'.cell? ⟨w.heap.size, 2, none⟩ = some (.int .i64 u) ∧ w'.cell? ⟨w.heap.size, 3, none⟩ = some (.int .i64 p) ∧ w'.cell? ⟨w.heap.size, 4, none⟩ = some (.string (S d)) ∧ w'.cell? ⟨w.heap.size, 5, none⟩ = some (.int .i64 ek) ∧ w'.cell? ⟨w.heap.size, 6, none⟩ = some (.string (S eb)) ∧ w'.cell? ⟨w.heap.size, 7, none⟩ = some (.int .i64 eu) ∧ w'.cell? ⟨w.heap.size, 8, none⟩ = some (.int .i64 ef) ∧ w'.cell? ⟨w.heap.size, 9, none⟩ = some (.string (S eg)) ∧ w'.cell? ⟨w.heap.size, 10, none⟩ = some (.string (S et))) (go_keep)
          (first
            | (go_at_call 42
               with_reducible refine (HBR.out w2.drew).mono ?_
               rintro e w3 ⟨rfl, hb⟩; have hb3 : Below W1.heap.size W1 w3 := (HB2.out.drew).trans (hb.mono HB2.out.size); have HB3 := hidp hb3; obtain ⟨z0, z1, z2, z3, z4, z5, z6, z7, z8, z9, z10⟩ := HX.out w3 hb3; clear hb hb3)
            | fail)
        all_goals
          go_wp2
          first | (go_meet; exact ⟨rfl, rfl, HB3.out⟩) | fail
      case rest =>
        obtain ⟨rfl, rfl, hb3⟩ := hcut; have HB3 := hidp hb3; clear hb3; go_wp2; go_ret; exact ⟨⟨3, rfl, Or.inr ⟨by decide, Or.inr ⟨HR.out, Or.inr ⟨fun h => absurd h.1 (by decide), Or.inl ⟨HACT.out, rfl⟩⟩⟩⟩⟩, HB1.out.trans (HB3.out.mono HB1.out.size)⟩
end Go.Proofs.YtlfgemnmfhknfaaGreatDoor
namespace Go.Proofs.YtlfgemnmfhknfaaGreatDoor
open Go.RowKit Go.Proofs
theorem jcX (K : List (List UInt8)) (Cs : List (List Cmd)) (B b : Nat) (G : List Nat) (R0 : Rom) (w : World) (i o : Nat) (hi : i < 3) (ho : o = 7 + i * 9) (s : Ses) (xs : List (List UInt8)) (l : List Int) (hR : RoomM K Cs B b G (R0.put i (lnsC s (jC xs) l)) w) (hm : mayS s = true) (hok : jY K s xs = true)
    (hl : l.length + 6 * xs.length ≤ 1000000) (hx : (jC xs).length ≤ 1000000) (hM : ∀ w', Below B w w' → maxLenCell w') :
    Calls Tryz.prog 30 #[.pointer (some ⟨b, 0, none⟩), .pointer (some ⟨b, o, none⟩)] w (RmQ K Cs B b G w (R0.put i (lnsC (jx K s xs).1 [] (l ++ (jx K s xs).2))) (.tuple #[])) := by
  rw [← jcK noD K R0 i xs s l _ hok (Nat.le_refl _)]; refine jjX K Cs B b G _ w hR i o hi ho (fun R x y => jkr noD K (R.put i (jbn (R.con i) y)) i x) (fun R' => ∃ s xs l, R' = R0.put i (lnsC s (jC xs) l) ∧ mayS s = true ∧ jY K s xs = true ∧ l.length + 6 * xs.length ≤ 1000000 ∧ (jC xs).length ≤ 1000000) ⟨s, xs, l, rfl, hm, hok, hl, hx⟩ hM ?_ ?_ _ (by rw [j2]; exact Nat.le_refl _)
  · rintro R' ⟨s', xs', l', rfl, _, _, _, h⟩; rw [j2]
    show (jC xs').length ≤ _
    omega
  · rintro R' G' w' x y ⟨s', xs', l', rfl, hm', hok', hl', hx'⟩ hd hc hb' hR'; simp only [j2, qv] at hc hR' ⊢; have hc1 : Lib.cut (jC xs') [13, 10] = (x, y, true) := hc
    match xs', hok', hl', hx', hc1 with
    | [], _, _, _, hc1 =>
      rw [show jC [] = [] from rfl, jln] at hc1
      simp at hc1
    | x' :: t, hok', hl', hx', hc1 =>
      obtain ⟨q1, q2, q3, q4, q5⟩ := qG hok'; rw [jfS q1] at hc1; obtain ⟨rfl, rfl⟩ : x' = x ∧ jC t = y := by simpa using hc1
      rw [show jbn (lnsC s' (jC (x' :: t)) l') (jC t) = lnsC s' (jC t) l' from rfl] at hR' ⊢; rw [jca noD K R0 i s' (jC t) x' l' q2 q3]; have hlc := jjL hm' K x'; rw [List.length_cons] at hl'; have hft : (jC t).length ≤ 1000000 := by rw [zP] at hx'; simp at hx'; omega
      have hm2 := jfM hm' K x'; have hcl : ((jI s' K x').2.2.map fun _ => (552 : Int)).length ≤ 5 := by rw [List.length_map]; exact jbt hm' K x'
      refine ⟨⟨_, t, _, rfl, hm2, q5, by rw [List.length_append]; omega, hft⟩, by rw [j2]; exact Nat.le_refl _, ?_⟩; obtain ⟨R3, hR3⟩ : ∃ R3, R3 = R0.put i (lnsC (jI s' K x').1 (jC t) (l' ++ (if (jI s' K x').2.1 = 0 then [] else [(jI s' K x').2.1]))) := ⟨_, rfl⟩; have e3 : (R0.put i (lnsC s' (jC t) l')).put i (lnC ((R0.put i (lnsC s' (jC t) l')).con i) (jI s' K x').1 (jI s' K x').2.1) = R3 := by
        rw [hR3, j2, qv]
        congr 1
        unfold lnC jeW lnsC ja1 sesC; split <;> simp
      have t3 : (R3.con i).told.length ≤ l'.length + 1 := by
        rw [hR3, j2]
        show (l' ++ _).length ≤ _
        rw [List.length_append]; split <;> simp
      have h := jk5 K Cs B b G' (R0.put i (lnsC s' (jC t) l')) w' hR' i o hi ho x' (by omega) s' (jI s' K x').1 (by rw [j2]; rfl) hm' (jI s' K x').2.1 (jI s' K x').2.2 rfl (jlh hm2) (jbt hm' K x') (by rw [j2]; show l'.length + 1 ≤ _; omega) R3 ((jI s' K x').2.2.map fun _ => 552) false (by omega)
        fun G4 w4 v hb4 hR4 hv => jhE K Cs B b G4 R3 w4 (by rw [← e3]; exact hR4) _ v _ hv (jbt hm' K x') s'.large q2
      have e4 : R3.put i (jcC (zQ (R3.con i) ((jI s' K x').2.2.map fun _ => 552) false) (jI s' K x').1.step) = R0.put i (lnsC (jI s' K x').1 (jC t) (l' ++ lnCo (jI s' K x'))) := by
        rw [hR3, j2, qv]
        congr 1
        unfold jcC zQ; rw [if_neg q3, if_neg (by decide)]; unfold lnCo ja1 lnsC
        simp
      rw [e4] at h; exact h
theorem jb2 (K : List (List UInt8)) (Cs : List (List Cmd)) (B b : Nat) (G : List Nat) (R : Rom) (w : World) (hR : RoomM K Cs B b G R w) (i o : Nat) (hi : i < 3) (ho : o = 7 + i * 9) (s : Ses) (l : List Int) (hc : R.con i = lnsC s [] l) (hm : mayS s = true) (hl : l.length ≤ 1000000) (hM : ∀ w', Below B w w' → maxLenCell w') :
    Calls Tryz.prog 30 #[.pointer (some ⟨b, 0, none⟩), .pointer (some ⟨b, o, none⟩)] w (RmQ K Cs B b G w R (.tuple #[])) := by
  have e : R.put i (lnsC s (jC []) l) = R := by
    show R.put i (lnsC s [] l) = R
    rw [← hc]; exact jdk R i hi
  have h := jcX K Cs B b G R w i o hi ho s [] l (by rw [e]; exact hR) hm rfl (by simpa using hl) (by simp [jC]) hM; have e2 : R.put i (lnsC (jx K s []).1 [] (l ++ (jx K s []).2)) = R := by
    show R.put i (lnsC s [] (l ++ [])) = R
    rw [List.append_nil]; exact e
  rw [e2] at h; exact h
def linA (i : Nat) (xs : List (List UInt8)) : Acu := ⟨1, i, 0, 0, jC xs, jl9⟩
theorem jk0 (K : List (List UInt8)) (Cs : List (List Cmd)) (B b : Nat) (G : List Nat) (R0 : Rom) (w : World) (i : Nat) (hi : i < 3) (s : Ses) (xs : List (List UInt8)) (l : List Int) (hR : RoomM K Cs B b G (R0.put i (lnsC s [] l)) w) (hup : R0.up = true) (hm : mayS s = true) (hs5 : s.step ≠ 5) (hok : jY K s xs = true) (hne : xs ≠ [])
    (hl : l.length + 6 * xs.length ≤ 1000000) (hx : (jC xs).length ≤ 1000000) (hM : ∀ w', Below B w w' → maxLenCell w') :
    Calls Tryz.prog 19 #[.pointer (some ⟨b, 0, none⟩), .agg (acuC (linA i xs)).toArray] w (RmQ K Cs B b G w (R0.put i (lnsC (jx K s xs).1 [] (l ++ (jx K s xs).2))) (.tuple #[])) := by
  have hfe : jC xs ≠ [] := by
    cases xs with
    | nil => exact absurd rfl hne
    | cons x t => rw [zP]; simp
  refine jl3 K Cs B b G (R0.put i (lnsC s [] l)) w hR i (7 + i * 9) hi rfl (by rw [jm3]; exact hup) (linA i xs) rfl rfl hfe (by rw [j2]; show (0 : Nat) + (jC xs).length ≤ _; omega) _ fun G' w' hb' hR' => ?_
  have e1 : (R0.put i (lnsC s [] l)).put i (jcy ((R0.put i (lnsC s [] l)).con i) (linA i xs).data) = R0.put i (lnsC s (jC xs) l) := by
    rw [j2, qv]; unfold jcy; rw [if_neg (show (lnsC s [] l).ses.step ≠ 5 from hs5)]; rfl
  rw [e1] at hR'; exact jcX K Cs B b G' R0 w' i _ hi rfl s xs l hR' hm hok hl hx fun v hv => hM v (hb'.trans hv)
theorem jb5 (i : Nat) (hi : i < 3) (xs : List (List UInt8)) (hx : (jC xs).length ≤ 3000) (u : World) : Calls Tryz.prog 27 #[.agg (acuC (linA i xs)).toArray] u fun e u' => e = .returned (.int .i64 0) ∧ Below u.heap.size u u' := by
  refine (jky i 0 0 0 0 0 (jC xs) [] [] [] (by omega) u).mono ?_; rintro e u' ⟨⟨r, rfl, hA⟩, hb⟩; refine ⟨?_, hb⟩; have h0 : ActE 1 i 0 0 (jC xs) (entZ 0 0 0 [] [] []) 0 := by
    refine .inr ⟨by decide, .inr ⟨⟨fun _ => by omega, fun h => by omega, fun h => by omega⟩, .inr ⟨fun h => by omega, .inr ⟨⟨.inl rfl, .inr rfl, .inr ⟨rfl, rfl, rfl, rfl, rfl, rfl, rfl⟩⟩, rfl⟩⟩⟩⟩
  rw [jge hA h0]
end Go.Proofs.YtlfgemnmfhknfaaGreatDoor
namespace Go.Proofs.YtlfgemnmfhknfaaGreatDoor
open Go.RowKit Go.Proofs
set_option maxHeartbeats 1000000 in
set_option maxRecDepth 100000 in
theorem jjI (a : Option Addr) (c : Nat) (l : List UInt8) (s : Int) (Q : Nat → Prop) (w : World) (h : BysM Q w (.slice a l.length c) l) :
    Calls Tryz.prog 80 #[.agg #[.slice a l.length c, .int .i64 s]] w (if mayN l.length s then TpP w l l.length 0 else TpP w [] 0 11) := by
  obtain ⟨W1, hW1⟩ : ∃ W1, W1 = (w.alloc (.cells #[.slice a l.length c, .int .i64 s] 77)).alloc (.cells #[.slice none 0 0, .int .i64 0] 77) := ⟨_, rfl⟩; have HWE := bhid hW1; have HB1 := bhid (show Below w.heap.size w W1 by rw [hW1]; exact jlV _ _ _); have hp0 : W1.heap[w.heap.size]? = some (.cells #[.slice a l.length c, .int .i64 s] 77) := by rw [hW1]; exact (jik w _ _).1
  have hr0 : W1.heap[w.heap.size + 1]? = some (.cells #[.slice none 0 0, .int .i64 0] 77) := by rw [hW1]; exact (jik w _ _).2
  have HP := bhid hp0; have HR := bhid hr0; obtain ⟨x0, x1, _, _⟩ := jaj hp0; have HH := bhid (h.next HB1.out); cases hm : mayN l.length s with
  | false =>
    rw [if_neg (by simp)]; have HM := bhid hm; clear hm h hp0 hr0 hW1; go_enter Tryz.func80, Tryz.ntmps80; go_wp2_with fail; rw [← HWE.out]; refine (jfU a l.length c s W1).mono ?_; rintro e w2 ⟨rfl, hb⟩; rw [HM.out]; obtain ⟨y0, y1, f0, f1⟩ := jaj (jbP hb HR.out); obtain ⟨z0, z1, _, _⟩ := jaj (jk6 (u0 := .slice none 0 0) (u1 := .int .i64 0) (jbP hb HR.out)); have HE := bhid (TpP.refused w w2 11 (w.heap.size + 1) (Nat.le_succ _) (HB1.out.trans (hb.mono HB1.out.size))); clear hb; go_wp2; refine bodyPost_ret (v := .tuple #[.agg #[.slice none 0 0, .int .i64 0], .int .i64 11]) (by simp [results, Tryz.results80, go_sem, *]) rfl ?_; exact HE.out
  | true =>
    rw [if_pos rfl]; have HM := bhid hm; have hl : l.length ≤ 140737488355328 := by
      unfold mayN at hm
      simp at hm
      omega
    clear hm h hp0 hr0 hW1; go_enter Tryz.func80, Tryz.ntmps80; go_wp2_with fail; rw [← HWE.out]; refine (jfU a l.length c s W1).mono ?_; rintro e w2 ⟨rfl, hb⟩; rw [HM.out]; have hP2 := jbP hb HP.out; have hR2 := jbP hb HR.out; obtain ⟨y0, y1, _, _⟩ := jaj hP2; have HB2 := bhid (HB1.out.trans (hb.mono HB1.out.size)); have HC := bhid (fun (u : World) (hu : Below w2.heap.size w2 u) => jkp a c l Q u ((HH.out.next hb).next hu) hl); have HP2 := bhid hP2; have HR2 := bhid hR2; clear hb hP2 hR2 x0 x1 hl; go_upto_region 3 with fail
    go_region_held3 (fun w' => w'.cell? ⟨w.heap.size, 0, none⟩ = some (.slice a l.length c) ∧ w'.cell? ⟨w.heap.size, 1, none⟩ = some (.int .i64 s)) (go_keep)
      (first
        | (go_at_call 113
           with_reducible refine (HC.out w2.drew (Below.refl _ _).drew).mono ?_
           rintro e w3 ⟨a3, c3, rfl, hO3, hb3⟩; have hb3' : Below w2.heap.size w2 w3 := (Below.refl _ _).drew.trans hb3; obtain ⟨z0, z1, _, _⟩ := jaj (jbP hb3' HP2.out); obtain ⟨r0, r1, f0, f1⟩ := jaj (jbP hb3' HR2.out); obtain ⟨q0, q1, _, _⟩ := jaj (jk6 (u0 := .slice a3 l.length c3) (u1 := .int .i64 l.length) (jbP hb3' HR2.out)); have HE := bhid (TpP.done (s := l.length) (p := w.heap.size + 1) (Nat.le_succ _) (Array.getElem?_eq_some_iff.1 HR2.out).1 HB2.out (show TpC w2 l (.returned (.slice a3 l.length c3)) w3 from ⟨a3, c3, rfl, hO3, hb3'⟩)); clear hO3 hb3 hb3')
        | fail)
    all_goals
      go_wp2; refine bodyPost_ret (v := .tuple #[.agg #[.slice a3 l.length c3, .int .i64 l.length], .int .i64 0]) (by simp [results, Tryz.results80, go_sem, *]) rfl ?_; exact HE.out
end Go.Proofs.YtlfgemnmfhknfaaGreatDoor
namespace Go.Proofs.YtlfgemnmfhknfaaGreatDoor
open Go.RowKit Go.Proofs
def je1 (R : Rom) : Rom := ⟨R.up, R.tape, R.tsyn, R.syn + R.waits, 0, R.states, R.states, R.c0, R.c1, R.c2, R.orders, R.due⟩
def numR (R : Rom) (x y : Int) : Rom := ⟨R.up, R.tape, R.tsyn, x, y, R.safe, R.states, R.c0, R.c1, R.c2, R.orders, R.due⟩
def jlA (R : Rom) (t : List UInt8) (s : Int) : Rom := ⟨R.up, t, s, R.syn, R.waits, R.safe, R.states, R.c0, R.c1, R.c2, R.orders, R.due⟩
def jaf (R : Rom) : Rom := je1 (jlA R R.tape R.tape.length)
def RmS (K : List (List UInt8)) (Cs : List (List Cmd)) (B b : Nat) (G : List Nat) (R : Rom) (w wx : World) : Prop := RoomM K Cs B b G R wx ∧ Stp b G w G wx
theorem RmS.num {K : List (List UInt8)} {Cs : List (List Cmd)} {B b : Nat} {G : List Nat} {R : Rom} {w : World} (h : RoomM K Cs B b G R w) (x y : Int) : RmS K Cs B b G (numR R x y) w ((w.setCell ⟨b, 3, none⟩ (.int .i64 x)).setCell ⟨b, 4, none⟩ (.int .i64 y)).drew := by
  obtain ⟨X, hG, hB, hX, hM, hQ⟩ := h; have hs := (((Stp.refl b G w).box 3 (.int .i64 x)).box 4 (.int .i64 y)); have hs' : Stp b G w G ((w.setCell ⟨b, 3, none⟩ (.int .i64 x)).setCell ⟨b, 4, none⟩ (.int .i64 y)).drew := hs.trans (.of (Below.refl _ _).drew); have q := hQ.stp hs'; exact ⟨⟨X, hG, hB, (((hX.put 3 (.int .i64 x)).put 4 (.int .i64 y)).next (Below.refl _ _).drew).ty rfl, ((hM.box 3 (.int .i64 x)).box 4 (.int .i64 y)).next (Below.refl _ _).drew, q.k0, q.k1, q.k2, q.lo, q.sc, q.sf, q.sv, q.os, q.td⟩, hs'⟩
theorem RmS.num' {K : List (List UInt8)} {Cs : List (List Cmd)} {B b : Nat} {G : List Nat} {R : Rom} {w : World} (h : RoomM K Cs B b G R w) (x y : Int) : RmS K Cs B b G (numR R x y) w ((w.setCell ⟨b, 4, none⟩ (.int .i64 y)).setCell ⟨b, 3, none⟩ (.int .i64 x)).drew := by
  obtain ⟨X, hG, hB, hX, hM, hQ⟩ := h; have hs := (((Stp.refl b G w).box 4 (.int .i64 y)).box 3 (.int .i64 x)); have hs' : Stp b G w G ((w.setCell ⟨b, 4, none⟩ (.int .i64 y)).setCell ⟨b, 3, none⟩ (.int .i64 x)).drew := hs.trans (.of (Below.refl _ _).drew); have q := hQ.stp hs'; exact ⟨⟨X, hG, hB, (((hX.put 4 (.int .i64 y)).put 3 (.int .i64 x)).next (Below.refl _ _).drew).ty rfl, ((hM.box 4 (.int .i64 y)).box 3 (.int .i64 x)).next (Below.refl _ _).drew, q.k0, q.k1, q.k2, q.lo, q.sc, q.sf, q.sv, q.os, q.td⟩, hs'⟩
theorem RoomM.ledger {K : List (List UInt8)} {Cs : List (List Cmd)} {B b : Nat} {G : List Nat} {R : Rom} {w : World} (h : RoomM K Cs B b G R w) : ∃ at_ ct vf g cs vs, w.cell? ⟨b, 1, none⟩ = some (.slice at_ R.tape.length ct) ∧ w.cell? ⟨b, 2, none⟩ = some (.int .i64 R.tsyn) ∧ w.cell? ⟨b, 3, none⟩ = some (.int .i64 R.syn) ∧ w.cell? ⟨b, 4, none⟩ = some (.int .i64 R.waits) ∧ w.cell? ⟨b, 5, none⟩ = some vf ∧ w.cell? ⟨b, 6, none⟩ = some vs ∧
    BysM (AvN B b G) w (.slice at_ R.tape.length ct) R.tape ∧ (0 < R.states.length → vs = .slice (some ⟨g, 0, none⟩) R.states.length cs ∧ g ≠ b) := by
  obtain ⟨X, hG, hB, hX, hM, hQ⟩ := h; obtain ⟨at_, ct, e, _, _⟩ := hQ.td.slice; have hown := hM.own (sttR X.st X.sv) (by simp [za]); have hst : ∃ g cs, 0 < R.states.length → X.st = .slice (some ⟨g, 0, none⟩) R.states.length cs ∧ g ≠ b := by
    rcases hown.2 with ⟨_, h0⟩ | ⟨g, cap, cur, hv, _⟩
    · exact ⟨0, 0, fun h => by have h0 : X.sv.length = 0 := h0; rw [hQ.sv.1] at h0; omega⟩
    · have hv : X.st = .slice (some ⟨g, 0, none⟩) X.sv.length cap := hv; exact ⟨g, cap, fun _ => ⟨by rw [hv, hQ.sv.1], fun e => hM.far (List.mem_filterMap.2 ⟨sttR X.st X.sv, by simp [za], by show X.st.ownBlock = _; rw [hv, ← e]; rfl⟩)⟩⟩
  obtain ⟨g, cs, hst⟩ := hst; exact ⟨at_, ct, X.sf, g, cs, X.st, hX.cell (by rw [← e]; rfl), hX.cell rfl, hX.cell rfl, hX.cell rfl, hX.cell rfl, hX.cell rfl, by rw [← e]; exact hQ.td, hst⟩
theorem RoomM.safe {K : List (List UInt8)} {Cs : List (List Cmd)} {B b : Nat} {G : List Nat} {R : Rom} {w : World} (h : RoomM K Cs B b G R w) (hn : R.states.length ≤ 1000) : ∃ news, news.length = R.states.length * 2 ∧ (∀ u ∈ news, u.oneCell' = true) ∧ (∀ g cs, w.cell? ⟨b, 6, none⟩ = some (.slice (some ⟨g, 0, none⟩) R.states.length cs) → ∀ (j : Nat) u, news[j]? = some u → w.cell? ((⟨g, 0, none⟩ : Addr).add j) = some u) ∧
    ∀ (w' : World) (v : Value), Below w.heap.size w w' → w'.ownsRow w.heap.size 55 2 v R.states.length news → RmS K Cs B b G ⟨R.up, R.tape, R.tsyn, R.syn, R.waits, R.states, R.states, R.c0, R.c1, R.c2, R.orders, R.due⟩ w (w'.setCell ⟨b, 5, none⟩ v) := by
  have hr := h; obtain ⟨X, hG, hB, hX, hM, hQ⟩ := h; have hown := hM.own (sttR X.st X.sv) (by simp [za]); have hl : ((X.sv.map fun x => [x.1, x.2]).flatten).length = R.states.length * 2 := by
    rw [← hQ.sv.1]; generalize X.sv = l
    induction l with
    | nil => rfl
    | cons x t ih => simp only [List.map_cons, List.flatten_cons, List.length_append, ih, List.length_cons, List.length_nil]; omega
  refine ⟨(X.sv.map fun x => [x.1, x.2]).flatten, hl, fun u hu => ?_, fun g cs hc j u hj => ?_, fun w' v hb ho => ?_⟩
  · obtain ⟨y, hy, hu⟩ := List.mem_flatten.1 hu; obtain ⟨x, hx, rfl⟩ := List.mem_map.1 hy; obtain ⟨i, hi⟩ := List.getElem?_of_mem hx; obtain ⟨h1, h2, _⟩ := hQ.sv.2 i _ x (List.getElem?_eq_getElem (by have := (List.getElem?_eq_some_iff.1 hi).1; have := hQ.sv.1; omega)) hi; obtain ⟨_, _, e1⟩ := RowM.slice h1; obtain ⟨_, _, e2⟩ := RowM.slice h2; simp only [List.mem_cons, List.not_mem_nil, or_false] at hu
    rcases hu with rfl | rfl
    · rw [e1]; rfl
    · rw [e2]; rfl
  · have e : X.st = .slice (some ⟨g, 0, none⟩) R.states.length cs := Option.some.inj ((hX.cell (j := 6) rfl).symm.trans hc); have hown : w.ownsRow B 55 2 X.st X.sv.length ((X.sv.map fun x => [x.1, x.2]).flatten) := hown; rw [e, hQ.sv.1] at hown; have hjl : j < ((X.sv.map fun x => [x.1, x.2]).flatten).length := (List.getElem?_eq_some_iff.1 hj).1; rw [Addr.add_lit, Nat.zero_add, World.ownsRow.cellAt hown j (by rw [hl] at hjl; exact hjl)]; exact hj
  · have hs : Stp b G w G (w'.setCell ⟨b, 5, none⟩ v) := (Stp.of hb).box 5 v; have q := hQ.stp hs; have ho5 : (w'.setCell ⟨b, 5, none⟩ v).ownsRow w.heap.size 55 2 v R.states.length ((X.sv.map fun x => [x.1, x.2]).flatten) := jN ho fun g hg => Below.heap_setCell _ _ _ _ (fun e => by have e' : g = b := e; have := (World.ownsRow.lt ho g hg).1; have := hM.lt; omega)
    exact ⟨⟨{ X with sf := v }, hG, hB, ((hX.next hb).put 5 v).ty rfl, (hM.next hb).box 5 v, q.k0, q.k1, q.k2, q.lo, q.sc, jdi (css := X.sv.map fun x => [x.1, x.2]) ho5 rfl (show R.states.length ≤ maxLen by unfold maxLen; omega) (by rw [List.length_map]; exact hQ.sv.1) (fun cs hcs => by
        obtain ⟨x, _, rfl⟩ := List.mem_map.1 hcs; rfl) (fun i s cs hi hcs => by
        rw [List.getElem?_map] at hcs; cases hx : X.sv[i]? with
        | none => rw [hx] at hcs; cases hcs
        | some x =>
          rw [hx] at hcs; cases hcs; exact ⟨_, _, rfl, q.sv.2 i s x hi hx⟩) (fun g hg => by
        have := (World.ownsRow.lt ho5 g hg).1; exact ⟨by have := hM.lt; omega, jbX hr this⟩), q.sv, q.os, q.td⟩, hs⟩
set_option maxHeartbeats 2000000 in
set_option maxRecDepth 100000 in
theorem jfA (K : List (List UInt8)) (Cs : List (List Cmd)) (B b : Nat) (G : List Nat) (R : Rom) (w : World) (hR : RoomM K Cs B b G R w) (hsy : 0 ≤ R.syn ∧ R.syn ≤ 1000000) (hwa : 0 ≤ R.waits ∧ R.waits ≤ 1000000) (hn : 0 < R.states.length ∧ R.states.length ≤ 1000) :
    Calls Tryz.prog 37 #[.pointer (some ⟨b, 1, none⟩)] w (RmQ K Cs B b G w (je1 R) (.tuple #[])) := by
  obtain ⟨at_, ct, vf, g, cs, vs, _, _, c3, c4, _, _, _, _⟩ := hR.ledger; have hwr : IntKind.i64.wrap (R.syn + R.waits) = R.syn + R.waits := by rw [IntKind.wrap_i64]; omega
  have z3 := hR.frz 3; have z4 := hR.frz 4; have HE1 := hid (RmS.num hR (R.syn + R.waits) 0); have HE2 := hid (RmS.num' hR (R.syn + R.waits) 0); have HNN := hid hn; clear hR hn; go_enter Tryz.func37, Tryz.ntmps37; go_upto_region 0 with fail
  go_cut [] (fun wx => RmS K Cs B b G (numR R (R.syn + R.waits) 0) w wx)
  case first =>
    go_region_law (fail)
    all_goals first
      | (have HE := HE1; go_wp2_with fail; go_meet; exact HE.out)
      | (have HE := HE2; go_wp2_with fail; go_meet; exact HE.out)
      | fail
  case rest =>
    obtain ⟨hx, hB⟩ := hcut; obtain ⟨W1, rfl⟩ : ∃ W, W = wc := ⟨_, rfl⟩; obtain ⟨_, _, vf1, g1, cs1, vs1, _, _, _, _, d5, d6, _, hst⟩ := hx.ledger; obtain ⟨rfl, hgb⟩ := hst HNN.out.1; obtain ⟨news, n1, n2, n3, n4⟩ := hx.safe HNN.out.2; have HC := hid (n3 g1 cs1 d6); have HN4 := hid n4; have HB := hid hB; have hlt := hx.lt.1; have hz := fun (w2 : World) (h : Below W1.heap.size W1 w2) => (hx.next h).frz 5
    have HZ := hid hz; have H5 := hid (fun (w2 : World) (h : Below W1.heap.size W1 w2) => ja d5 h); have HCL := hid (jiJ ⟨g1, 0, none⟩ R.states.length cs1 news W1 n1 HNN.out.2 HC.out n2); clear hx hB hst n1 n2 n3 n4 hz c3 c4 z3 z4 HE1 HE2; have d6' : W1.cell? ⟨b, 6, none⟩ = some (.slice (some ⟨g1, 0, none⟩) R.states.length cs1) := d6; clear d6; go_wp2_with fail; refine HCL.out.mono ?_; rintro e w2 ⟨v', rfl, ho, hb2⟩; obtain ⟨a', c', rfl⟩ := jby ho; obtain ⟨k1, k2⟩ := HN4.out w2 _ hb2 ho; have e5 := H5.out w2 hb2; have zf := HZ.out w2 hb2; have HF := hid (show RmQ K Cs B b G w (je1 R) (.tuple #[]) (.returned (.tuple #[])) (w2.setCell ⟨b, 5, none⟩ (.slice a' R.states.length c')) from ⟨rfl, G, k1, HB.out.trans k2⟩); clear ho hb2 k1 k2; go_wp2; go_end0; exact HF.out
set_option maxHeartbeats 2000000 in
set_option maxRecDepth 100000 in
theorem jhK (K : List (List UInt8)) (Cs : List (List Cmd)) (B b : Nat) (G : List Nat) (R : Rom) (w : World) (hR : RoomM K Cs B b G R w) (hm : mayN R.tape.length R.tsyn = true) (hsy : 0 ≤ R.syn ∧ R.syn ≤ 1000000) (hwa : 0 ≤ R.waits ∧ R.waits ≤ 1000000) (hn : 0 < R.states.length ∧ R.states.length ≤ 1000) :
    Calls Tryz.prog 48 #[.pointer (some ⟨b, 1, none⟩)] w (RmQ K Cs B b G w (jaf R) (.tuple #[])) := by
  obtain ⟨at_, ct, vf, g, cs, vs, c1, c2, _, _, _, _, hT, _⟩ := hR.ledger; have HS := hid (jjI at_ ct R.tape R.tsyn _ w hT); rw [if_pos hm] at HS; have HN := hid (show ∀ (w2 : World) (a : Option Addr) (c : Nat), Below w.heap.size w w2 → w2.ownsRow w.heap.size 5 1 (.slice a R.tape.length c) R.tape.length (byC R.tape) → w2.cell? ⟨b, 1, none⟩ = some (.slice at_ R.tape.length ct) ∧ w2.cell? ⟨b, 2, none⟩ = some (.int .i64 R.tsyn) ∧ w2.frozen? ⟨b, 1, none⟩ = false ∧ w2.frozen? ⟨b, 2, none⟩ = false ∧
      RmS K Cs B b G (jlA R R.tape R.tape.length) w ((w2.setCell ⟨b, 1, none⟩ (.slice a R.tape.length c)).setCell ⟨b, 2, none⟩ (.int .i64 R.tape.length)) from fun w2 a c hb ho => by
    have hr := hR; have f1 := (hR.next hb).frz 1; have f2 := (hR.next hb).frz 2; obtain ⟨X, hG, hB, hX, hM, hQ⟩ := hR; have hs : Stp b G w G ((w2.setCell ⟨b, 1, none⟩ (.slice a R.tape.length c)).setCell ⟨b, 2, none⟩ (.int .i64 R.tape.length)) := ((Stp.of hb).box 1 _).box 2 _; have q := hQ.stp hs; have ho5 : ((w2.setCell ⟨b, 1, none⟩ (.slice a R.tape.length c)).setCell ⟨b, 2, none⟩ (.int .i64 R.tape.length)).ownsRow w.heap.size 5 1 (.slice a R.tape.length c) R.tape.length (byC R.tape) := jN ho fun g hg => by
      have hn : g ≠ b := fun e => by have := (World.ownsRow.lt ho g hg).1; have := hM.lt; omega
      exact (Below.heap_setCell _ _ _ _ hn).trans (Below.heap_setCell _ _ _ _ hn)
    have hml : R.tape.length ≤ maxLen := by obtain ⟨_, _, _, _, h⟩ := hQ.td.slice; exact h
    exact ⟨ja c1 hb, ja c2 hb, f1, f2, ⟨{ X with td := .slice a R.tape.length c }, hG, hB, (((hX.next hb).put 1 _).put 2 _).ty rfl, ((hM.next hb).box 1 _).box 2 _, q.k0, q.k1, q.k2, q.lo, q.sc, q.sf, q.sv, q.os, jmB ho5 rfl hml fun g hg => by
        have := (World.ownsRow.lt ho5 g hg).1; exact ⟨by have := hM.lt; omega, jbX hr this⟩⟩, hs⟩)
  have HST := hid (fun (w3 : World) (h : RoomM K Cs B b G (jlA R R.tape R.tape.length) w3) => jfA K Cs B b G _ w3 h hsy hwa hn); clear hR hT hn; go_enter Tryz.func48, Tryz.ntmps48; go_wp2_with fail; refine HS.out.mono ?_; rintro e w2 ⟨a, c, rfl, ho, hb⟩; obtain ⟨e1, e2, z1, z2, k1, k2⟩ := HN.out w2 a c hb ho; have HK1 := hid k1; have HK2 := hid k2; clear ho hb k1 k2; go_wp2_with fail; refine (HST.out _ HK1.out).mono ?_; rintro e w3 ⟨rfl, h⟩; have HF := hid (show RmQ K Cs B b G w (jaf R) (.tuple #[]) (.returned (.tuple #[])) w3 from RmQ.trans HK2.out ⟨rfl, h⟩); clear h; go_wp2; go_end0; exact HF.out
end Go.Proofs.YtlfgemnmfhknfaaGreatDoor
namespace Go.Proofs.YtlfgemnmfhknfaaGreatDoor
open Go.RowKit Go.Proofs
def relR (R : Rom) : Nat → Rom
  | 0 => R
  | k + 1 => (relR R k).put k (jaI ((relR R k).con k))
theorem RoomM.undue {K : List (List UInt8)} {Cs : List (List Cmd)} {B b : Nat} {G : List Nat} {R : Rom} {w : World} (h : RoomM K Cs B b G R w) (hd : R.due = []) : (∃ a c, w.cell? ⟨b, 37, none⟩ = some (.slice a 0 c)) ∧ ∃ G', RoomM K Cs B b G' R (w.setCell ⟨b, 37, none⟩ (.slice none 0 0)) ∧ Stp b G w G' (w.setCell ⟨b, 37, none⟩ (.slice none 0 0)) := by
  obtain ⟨X, hG, hB, hX, hM, hQ⟩ := h; have hrow : ∀ v, za R { X with du := v } = [intR 3 X.c0.l R.c0.told, intR 3 X.c1.l R.c1.told, intR 3 X.c2.l R.c2.told] ++ intR 3 v R.due :: ([sttR X.st X.sv, ordR X.od X.os] ++ (List.range 3).map fun u => intR 46 (X.os.getD u (.slice none 0 0)) (R.orders.getD u [])) := fun v => rfl
  have hown := hM.own (intR 3 X.du R.due) (by simp [za]); obtain ⟨a, c, e, _⟩ := qJ hown; have e : X.du = .slice a 0 c := by have e : X.du = .slice a R.due.length c := e; rw [e, hd]; rfl
  refine ⟨⟨a, c, hX.cell (by rw [← e]; rfl)⟩, mB (za R { X with du := .slice none 0 0 }), ?_⟩; have hM' := hM; rw [show za R X = _ from hrow X.du] at hM'; obtain ⟨k1, k2⟩ := hM'.grow (w' := w) (H := w.heap.size) (r' := intR 3 (.slice none 0 0) R.due) ⟨rfl, rfl, rfl, Nat.le_refl _, fun _ _ _ => rfl⟩ (by rw [hd]; exact World.ownsRow_nil _ _ _ _) (Nat.le_refl _) (fun g hg => by cases hg); rw [← hrow] at k1; have hs := (show Stp b G w (mB (za R { X with du := .slice none 0 0 })) w from by rw [hG]; exact k2).box 37 (.slice none 0 0); have q := hQ.stp hs; exact ⟨⟨{ X with du := .slice none 0 0 }, rfl, hB, (hX.put 37 _).ty rfl, k1.box 37 _, q.k0, q.k1, q.k2, q.lo, q.sc, q.sf, q.sv, q.os, q.td⟩, hs⟩
set_option maxHeartbeats 4000000 in
set_option maxRecDepth 100000 in
theorem jjs (K : List (List UInt8)) (Cs : List (List Cmd)) (B b : Nat) (G : List Nat) (R : Rom) (w : World) (hR : RoomM K Cs B b G R w) (hm : mayN R.tape.length R.tsyn = true) (hsy : 0 ≤ R.syn ∧ R.syn ≤ 1000000) (hwa : 0 ≤ R.waits ∧ R.waits ≤ 1000000) (hn : 0 < R.states.length ∧ R.states.length ≤ 1000) (hdu : R.due = [])
    (ht : ∀ k, k < 3 → ((relR (jaf R) k).con k).told.length + ((relR (jaf R) k).con k).due.length ≤ 1000000000) (st : Nat → Rom) (h0 : st 0 = relR (jaf R) 3)
    (hW : ∀ (k : Nat) (G' : List Nat) (w' : World), k < 3 → Below B w w' → RoomM K Cs B b G' (st k) w' → Calls Tryz.prog 30 #[.pointer (some ⟨b, 0, none⟩), .pointer (some ⟨b, 7 + k * 9, none⟩)] w' (RmQ K Cs B b G' w' (st (k + 1)) (.tuple #[]))) :
    Calls Tryz.prog 31 #[.pointer (some ⟨b, 0, none⟩)] w (RmQ K Cs B b G w (st 3) (.tuple #[])) := by
  have HLS := hid (jhK K Cs B b G R w hR hm hsy hwa hn); have HR := hid hR; have HW := hid hW; have HT := hid ht; have H0 := hid h0; have HDU := hid (show (jaf R).due = [] from hdu); clear hR hm hsy hwa hn hW ht h0 hdu; go_enter Tryz.func31, Tryz.ntmps31; go_wp2_with fail; refine HLS.out.mono ?_; rintro e w1 ⟨rfl, G1, hR1, hs1⟩; obtain ⟨⟨ad, cd, hcd⟩, G2, hR2, hs2⟩ := hR1.undue HDU.out; have hz37 := hR1.frz 37; obtain ⟨W2, hW2⟩ : ∃ W2, W2 = w1.setCell ⟨b, 37, none⟩ (.slice none 0 0) := ⟨_, rfl⟩; rw [← hW2] at hR2 hs2; have HR2 := hid hR2; have HS2 := hid (hs1.trans hs2); have HWE := hid hW2; clear hR1 hs1 hR2 hs2 hW2; go_wp2
  go_loopw [15] (fun i wr => i = .int .i64 0 ∧ wr = w1) (fun _ _ => 0)
  case atStart => exact ⟨rfl, rfl⟩
  case round =>
    obtain ⟨rfl, rfl⟩ := hrel; go_wp2; rw [← HWE.out]
    go_loopw [26] (fun i wr => ∃ (k : Nat) (G' : List Nat), k ≤ 3 ∧ i = .int .i64 k ∧ Hid (RoomM K Cs B b G' (relR (jaf R) k) wr) ∧ Hid (Stp b G w G' wr)) (fun i _ => 3 - (intOf i).toNat)
    case atStart => exact ⟨0, G2, by omega, rfl, HR2, HS2⟩
    case round =>
      obtain ⟨k, G', hk, rfl, HRk, HSk⟩ := hrel
      by_cases hlt : k < 3
      · have k1 : (k : Int) < 3 := by omega
        have k0 : (0 : Int) ≤ (k : Int) := by omega
        have HRL := hid (jft K Cs B b G' (relR (jaf R) k) wr HRk.out k (7 + k * 9) hlt rfl (HT.out k hlt)); go_wp2_with fail; refine HRL.out.mono ?_; rintro e w3 ⟨rfl, G3, hR3, hs3⟩; have HR3 := hid (show RoomM K Cs B b G3 (relR (jaf R) (k + 1)) w3 from hR3); have HS3 := hid (HSk.out.trans hs3); clear hR3 hs3; go_wp2
        go_roundw
        case rel => first | exact ⟨k + 1, G3, by omega, by go_num, HR3, HS3⟩ | ((repeat apply Exists.intro); exact ⟨⟨k + 1, G3, by omega, by go_num, HR3, HS3⟩, rfl⟩)
        case measure => simp [intOf]; omega
      · have k1 : ¬ (k : Int) < 3 := by omega
        obtain rfl : k = 3 := by omega
        obtain ⟨V3, hV3⟩ : ∃ V3, V3 = wr := ⟨_, rfl⟩; subst hV3; have HV := hid (show RoomM K Cs B b G' (st 0) V3 from by rw [H0.out]; exact HRk.out); go_wp2
        go_loopw [36] (fun i wr => ∃ (k : Nat) (G' : List Nat), k ≤ 3 ∧ i = .int .i64 k ∧ Hid (RoomM K Cs B b G' (st k) wr) ∧ Hid (Stp b G w G' wr)) (fun i _ => 3 - (intOf i).toNat)
        case atStart => exact ⟨0, G', by omega, rfl, HV, HSk⟩
        case round =>
          obtain ⟨k, G', hk, rfl, HRk, HSk⟩ := hrel
          by_cases hlt : k < 3
          · have k1 : (k : Int) < 3 := by omega
            have k0 : (0 : Int) ≤ (k : Int) := by omega
            have HRL := hid (HW.out k G' wr hlt (HR.out.low HSk.out) HRk.out); go_wp2_with fail; refine HRL.out.mono ?_; rintro e w3 ⟨rfl, G3, hR3, hs3⟩; have HR3 := hid hR3; have HS3 := hid (HSk.out.trans hs3); clear hR3 hs3; go_wp2
            go_roundw
            case rel => first | exact ⟨k + 1, G3, by omega, by go_num, HR3, HS3⟩ | ((repeat apply Exists.intro); exact ⟨⟨k + 1, G3, by omega, by go_num, HR3, HS3⟩, rfl⟩)
            case measure => simp [intOf]; omega
          · have k1 : ¬ (k : Int) < 3 := by omega
            obtain rfl : k = 3 := by omega
            go_wp2; go_end0; exact ⟨rfl, G', HRk.out, HSk.out⟩
def jdp : Acu := ⟨2, 0, 0, 0, [], jl9⟩
set_option maxHeartbeats 2000000 in
set_option maxRecDepth 100000 in
theorem jlQ (K : List (List UInt8)) (Cs : List (List Cmd)) (B b : Nat) (G : List Nat) (R : Rom) (w : World) (hR : RoomM K Cs B b G R w) (hup : R.up = true) (R2 : Rom)
    (hS : ∀ w', Below w.heap.size w w' → Calls Tryz.prog 31 #[.pointer (some ⟨b, 0, none⟩)] w' (RmQ K Cs B b G w' R2 (.tuple #[]))) :
    Calls Tryz.prog 19 #[.pointer (some ⟨b, 0, none⟩), .agg (acuC jdp).toArray] w (RmQ K Cs B b G w R2 (.tuple #[])) := by
  obtain ⟨W1, hW1⟩ : ∃ W1, W1 = w.alloc (.cells (acuC jdp).toArray 32) := ⟨_, rfl⟩; have hB1 : Below w.heap.size w W1 := by rw [hW1]; exact (Below.refl _ _).alloc (Nat.le_refl _) _
  have hx : W1.heap[w.heap.size]? = some (.cells (acuC jdp).toArray 32) := by rw [hW1]; exact heap_alloc_new w _
  have p0 : W1.cell? ⟨w.heap.size, 0, none⟩ = some (.int .i64 2) := by simp [World.cell?, hx, acuC, jdp]
  have c0 := (hR.next hB1).up; rw [hup] at c0; have HS := hid (fun (w' : World) (h : Below W1.heap.size W1 w') => hS w' (hB1.trans (h.mono hB1.size))); have HB1 := hid hB1; have HWE := hid hW1; unfold acuC jdp jl9 at HWE ⊢; clear hR hup hx hB1 hW1 hS; go_enter Tryz.func19, Tryz.ntmps19; go_wp2; rw [← HWE.out]; have hg3 : decide ((2 : Int) = 5) = false := by decide
  go_quiet (fail)
  have HBQ := hid (vd W1 nq); go_wp2_with fail; refine (HS.out _ HBQ.out).mono ?_; rintro e w4 ⟨rfl, G4, hR4, hs4⟩; have HF := hid (show RmQ K Cs B b G w R2 (.tuple #[]) (.returned (.tuple #[])) w4 from ⟨rfl, G4, hR4, ((Stp.of HB1.out).trans (Stp.of HBQ.out)).trans hs4⟩); clear hR4 hs4; go_wp2; go_end0; exact HF.out
end Go.Proofs.YtlfgemnmfhknfaaGreatDoor
