/-
  What a test tells of a letter: the plain meaning; what the small functions of package judge on it do: the walks.
  What a test tells of a letter: what package judge's searches in it do: the walks.
  What a test tells of a letter: what judge's tells does: the walk.
  What a test tells of a letter: what judge's tells does, whatever the test: the walk.
-/
import Derived.Test.YtaapmpchcfcniaaGreatDoorYQCodPur6
import Derived.Test.YtaapmpchcfcniaaGreatDoorYQSmall3
import Derived.Test.YtaapmpchcfcniaaGreatDoorYWhoRd
import Derived.Test.YtaapmpchcfcniaaGreatDoorYQWhoPart3
import Derived.Test.YtaapmpchcfcniaaGreatDoorYQJudCrs5
import Derived.Test.YtaapmpchcfcniaaGreatDoorYLetPar
import Derived.Test.YtaapmpchcfcniaaGreatDoorYScrCk
namespace Go.Proofs.YtaapmpchcfcniaaGreatDoor
open Go.RowKit Go.Proofs
structure Opn where
  fl : List UInt8
  fd : List UInt8
  tl : List UInt8
  td : List UInt8
  tx : List UInt8
  fs : List F
  body : List UInt8
def matP (k : Int) (s p : List UInt8) : Bool := if k < 1 ∨ 3 < k then false else if 2000 < s.length ∨ 100 < p.length then false else jkG k (S s) (S p)
def zp (f : F) (n : List UInt8) : Bool := matP 1 f.1 n
def jb5 (t : Tst) (s : List UInt8) : Bool := t.keys.any fun k => matP t.mat s k
def qb (t : Tst) (a : Adr) : Bool := jb5 t (jac t.part a.1 a.2).1
def jaT (t : Tst) (v : List UInt8) : Bool := (zr v).1.any fun a => qb t a
def zZ (o : Opn) (n : List UInt8) : Adr := if n = [102, 114, 111, 109] then (o.fl, o.fd) else (o.tl, o.td)
def qE (fs : List F) (names : List (List UInt8)) (h : List UInt8 → Bool) : Bool := fs.any fun f => names.any (fun n => zp f n) && h f.2
def qW (fs : List F) (n : List UInt8) : Bool := fs.any fun f => zp f n
def jeA (n : Nat) (t : Tst) : Bool := if t.over = true then decide (t.limit < (n : Int)) else decide ((n : Int) < t.limit)
def ju (o : Opn) : Nat → Tst → Bool
  | 0, _ => false
  | n + 1, t =>
    if t.kind = 1 then true
    else if t.kind = 3 then !(match t.tests with | [] => false | x :: _ => ju o n x)
    else if t.kind = 4 then !(t.tests.any fun x => !ju o n x)
    else if t.kind = 5 then t.tests.any fun x => ju o n x
    else if t.kind = 6 then qE o.fs t.names (jb5 t)
    else if t.kind = 7 then qE o.fs t.names (jaT t)
    else if t.kind = 8 then t.names.any fun n => qb t (zZ o n)
    else if t.kind = 9 then !(t.names.any fun n => !qW o.fs n)
    else if t.kind = 10 then jeA o.tx.length t
    else false
theorem qf {w : World} (o : Obj) {b : Nat} {x : Obj} (h : w.heap[b]? = some x) : (w.alloc o).heap[b]? = some x := by
  have hb := (Array.getElem?_eq_some_iff.1 h).1
  show (w.heap.push o)[b]? = _
  rw [Array.getElem?_push_lt hb, ← Array.getElem?_eq_getElem hb]; exact h
theorem jV {w : World} (o : Obj) {b : Nat} (h : b = w.heap.size) : (w.alloc o).heap[b]? = some o := by rw [h]; exact heap_alloc_new w o
theorem je {w : World} {b j : Nat} {cs : Array Value} {t : TypeId} {fr : Nat × Nat} {v : Value} (h : w.heap[b]? = some (.cells cs t fr)) (hj : cs[j]? = some v) : w.cell? ⟨b, j, none⟩ = some v := by simp [World.cell?, h, hj]
theorem jx {w w' : World} {b : Nat} {x : Obj} (h : Below w.heap.size w w') (hb : w.heap[b]? = some x) : w'.heap[b]? = some x := (h.block b (Array.getElem?_eq_some_iff.1 hb).1).trans hb
theorem jfj {Q : Nat → Prop} {w : World} {a : Option Addr} {c : Nat} {l : List (List UInt8)} (h : TxtsM Q w (.slice a l.length c) l) {i : Nat} {x : List UInt8} (hx : l[i]? = some x) : ∃ b o, a = some ⟨b, o, none⟩ ∧ w.cell? ⟨b, o + i, none⟩ = some (.string (S x)) := by
  obtain ⟨a', c', hv, _, hr⟩ := h; simp only [Value.slice.injEq, true_and] at hv; obtain ⟨rfl, rfl⟩ := hv; obtain ⟨b, o, cs, rfl, _, _, _, hc, hP⟩ := hr i x hx; have hcs : cs = _ := hP; subst hcs; exact ⟨b, o, rfl, by simpa using hc 0 _ rfl⟩
def matE (k : Int) (s p : List UInt8) : Int := if k < 1 ∨ 3 < k then 2 else if 2000 < s.length ∨ 100 < p.length then 1 else 0
theorem jjB (k : Int) (s p : List UInt8) : jct k (S s) (S p) = .tuple #[.bool (matP k s p), .int .i64 (matE k s p)] := by
  unfold jct matP matE; rw [jt, jt]; split
  · rfl
  · split <;> rfl
theorem jhO (k : Int) (s p : List UInt8) (w : World) (hm : maxLenCell w) :
    Calls Tryz.prog 94 #[.int .i64 k, .string (S s), .string (S p)] w fun e w' => e = .returned (.tuple #[.bool (matP k s p), .int .i64 (matE k s p)]) ∧ Below w.heap.size w w' := by
  have := jhN k (S s) (S p) w hm; rw [jjB] at this; exact this
set_option maxHeartbeats 1000000 in
set_option maxRecDepth 100000 in
theorem jbI (f : F) (n : List UInt8) (w : World) (hm : maxLenCell w) :
    Calls Tryz.prog 92 #[.agg #[.string (S f.1), .string (S f.2)], .string (S n)] w fun e w' => e = .returned (.bool (zp f n)) ∧ Below w.heap.size w w' := by
  obtain ⟨W0, hW0⟩ : ∃ W0, W0 = w.alloc (.cells #[.string (S f.1), .string (S f.2)] 69) := ⟨_, rfl⟩; have HWE := hid hW0; have HB0 := hid (show Below w.heap.size w W0 by rw [hW0]; exact (Below.refl _ _).alloc (Nat.le_refl _) _); have HC := hid (jhO 1 f.1 n W0 (maxLenCell_below hm HB0.out)); obtain ⟨q, hq⟩ : ∃ q, q = zp f n := ⟨_, rfl⟩; rw [← hq]; have HQ := hid (show matP 1 f.1 n = q from hq.symm); rw [HQ.out] at HC; clear hm hW0 hq HQ; go_enter Tryz.func92, Tryz.ntmps92; go_wp2_with fail; rw [← HWE.out]; refine HC.out.mono ?_; rintro e w1 ⟨rfl, hb1⟩; simp only; have HB1 := hid (HB0.out.trans (hb1.mono HB0.out.size)); clear hb1; go_wp2; go_ret; exact ⟨rfl, HB1.out⟩
set_option maxHeartbeats 1000000 in
set_option maxRecDepth 100000 in
theorem jhl (m : Int) (s key : List UInt8) (p q : Nat) (w : World) (hp : w.cell? ⟨p, 1, none⟩ = some (.int .i64 m)) (hq : w.cell? ⟨q, 0, none⟩ = some (.string (S s))) (hm : maxLenCell w) :
    Calls Tryz.prog 93 #[.string (S key), .pointer (some ⟨p, 0, none⟩), .pointer (some ⟨q, 0, none⟩)] w fun e w' => e = .returned (.bool (matP m s key)) ∧ Below w.heap.size w w' := by
  have HC := hid (jhO m s key w hm); obtain ⟨r, hr⟩ : ∃ r, r = matP m s key := ⟨_, rfl⟩; rw [← hr] at HC; rw [← hr]; clear hm hr; go_enter Tryz.func93, Tryz.ntmps93; go_wp2_with fail; refine HC.out.mono ?_; rintro e w1 ⟨rfl, hb1⟩; simp only; have HB1 := hid hb1; clear hb1; go_wp2; go_ret; exact ⟨rfl, HB1.out⟩
theorem jk0 : ∀ args w, (callFunc 93 args).run Tryz.prog w = .ok (.enter 93 args) w := by intro args w; kernel_rfl
set_option maxHeartbeats 1000000 in
set_option maxRecDepth 100000 in
theorem jeR (t : Tst) (s : List UInt8) (an ak at' : Option Addr) (cn ck ct : Nat) (w : World) (hK : TxtsM anyB w (.slice ak t.keys.length ck) t.keys) (hm : maxLenCell w) :
    Calls Tryz.prog 55 #[.agg #[.int .i64 t.kind, .int .i64 t.mat, .int .i64 t.part, .slice an t.names.length cn, .slice ak t.keys.length ck, .bool t.over, .int .i64 t.limit, .slice at' t.tests.length ct], .string (S s)] w fun e w' => e = .returned (.bool (jb5 t s)) ∧ Below w.heap.size w w' := by
  obtain ⟨W0, hW0⟩ : ∃ W0, W0 = (w.alloc (.cells #[.int .i64 t.kind, .int .i64 t.mat, .int .i64 t.part, .slice an t.names.length cn, .slice ak t.keys.length ck, .bool t.over, .int .i64 t.limit, .slice at' t.tests.length ct] 54)).alloc (.cells #[.string (S s)] 9) := ⟨_, rfl⟩; have HWE := hid hW0; have HB0 := hid (show Below w.heap.size w W0 by rw [hW0]; exact ((Below.refl _ _).alloc (Nat.le_refl _) _).alloc (by simp) _); have HT := hid (show W0.heap[w.heap.size]? = some (.cells #[.int .i64 t.kind, .int .i64 t.mat, .int .i64 t.part, .slice an t.names.length cn, .slice ak t.keys.length ck, .bool t.over, .int .i64 t.limit, .slice at' t.tests.length ct] 54) by rw [hW0]; exact qf _ (jV _ rfl)); have HS := hid (show W0.heap[w.heap.size + 1]? = some (.cells #[.string (S s)] 9) by rw [hW0]; exact jV _ (by simp)); have HC := hid (conS t.keys (fun k => matP t.mat s k) (fun k => .string (S k)) ak ck 93 #[.pointer (some ⟨w.heap.size, 0, none⟩), .pointer (some ⟨w.heap.size + 1, 0, none⟩)] jk0 W0 hK.small
    (fun i x hx u hu => jfj (TxtsM.next hK (HB0.out.trans (hu.mono HB0.out.size))) hx)
    (fun i x _ u hu => jhl t.mat s x _ _ u (je (jx hu HT.out) rfl) (je (jx hu HS.out) rfl) (maxLenCell_below hm (HB0.out.trans (hu.mono HB0.out.size)))))
  obtain ⟨q, hq⟩ : ∃ q, q = jb5 t s := ⟨_, rfl⟩; rw [← hq]; rw [show t.keys.any (fun k => matP t.mat s k) = q from hq.symm] at HC; clear hm hW0 hq hK HT HS; go_enter Tryz.func55, Tryz.ntmps55; go_wp2_with fail; rw [← HWE.out]; refine HC.out.mono ?_; rintro e w1 ⟨rfl, hb1⟩; simp only; have HB1 := hid (HB0.out.trans (hb1.mono HB0.out.size)); clear hb1; go_wp2; go_ret; exact ⟨rfl, HB1.out⟩
set_option maxHeartbeats 1000000 in
set_option maxRecDepth 100000 in
theorem jbo (t : Tst) (x : Adr) (an ak at' : Option Addr) (cn ck ct : Nat) (w : World) (hK : TxtsM anyB w (.slice ak t.keys.length ck) t.keys) (hm : maxLenCell w) (h1 : x.1.length ≤ 140737488355328) (h2 : x.2.length ≤ 140737488355328) :
    Calls Tryz.prog 60 #[.agg #[.int .i64 t.kind, .int .i64 t.mat, .int .i64 t.part, .slice an t.names.length cn, .slice ak t.keys.length ck, .bool t.over, .int .i64 t.limit, .slice at' t.tests.length ct], .agg #[.string (S x.1), .string (S x.2)]] w fun e w' => e = .returned (.bool (qb t x)) ∧ Below w.heap.size w w' := by
  obtain ⟨W0, hW0⟩ : ∃ W0, W0 = (w.alloc (.cells #[.int .i64 t.kind, .int .i64 t.mat, .int .i64 t.part, .slice an t.names.length cn, .slice ak t.keys.length ck, .bool t.over, .int .i64 t.limit, .slice at' t.tests.length ct] 54)).alloc (.cells #[.string (S x.1), .string (S x.2)] 29) := ⟨_, rfl⟩; have HWE := hid hW0; have HB0 := hid (show Below w.heap.size w W0 by rw [hW0]; exact ((Below.refl _ _).alloc (Nat.le_refl _) _).alloc (by simp) _); have HT := hid (show W0.heap[w.heap.size]? = some (.cells #[.int .i64 t.kind, .int .i64 t.mat, .int .i64 t.part, .slice an t.names.length cn, .slice ak t.keys.length ck, .bool t.over, .int .i64 t.limit, .slice at' t.tests.length ct] 54) by rw [hW0]; exact qf _ (jV _ rfl)); obtain ⟨s, hs⟩ : ∃ s, s = (jac t.part x.1 x.2).1 := ⟨_, rfl⟩; obtain ⟨z, hz⟩ : ∃ z, z = (jac t.part x.1 x.2).2 := ⟨_, rfl⟩; have HP := hid (show Calls Tryz.prog 99 #[.int .i64 t.part, .agg #[.string (S x.1), .string (S x.2)]] W0 fun e w' => e = .returned (.tuple #[.string (S s), .int .i64 z]) ∧ Below W0.heap.size W0 w' by
    have := jfa t.part (S x.1) (S x.2) W0 (by rw [jt]; exact h1) (by rw [jt]; exact h2); rw [jp, jp, ← hs, ← hz] at this; exact this)
  have HF := hid (fun (u : World) (hu : Below W0.heap.size W0 u) => jeR t s an ak at' cn ck ct u (TxtsM.next hK (HB0.out.trans (hu.mono HB0.out.size))) (maxLenCell_below hm (HB0.out.trans (hu.mono HB0.out.size)))); obtain ⟨q, hq⟩ : ∃ q, q = qb t x := ⟨_, rfl⟩; rw [← hq]; rw [show jb5 t s = q by rw [hq, hs]; rfl] at HF; clear hm hW0 hq hK h1 h2 hs hz; go_enter Tryz.func60, Tryz.ntmps60; go_wp2_with fail; rw [← HWE.out]; refine HP.out.mono ?_; rintro e w1 ⟨rfl, hb1⟩; simp only; have HB1 := hid (HB0.out.trans (hb1.mono HB0.out.size)); have HT1 := jx hb1 HT.out; have HF1 := hid (HF.out w1 hb1); have t0 := je (j := 0) HT1 rfl; have t1 := je (j := 1) HT1 rfl; have t2 := je (j := 2) HT1 rfl; have t3 := je (j := 3) HT1 rfl; have t4 := je (j := 4) HT1 rfl; have t5 := je (j := 5) HT1 rfl; have t6 := je (j := 6) HT1 rfl; have t7 := je (j := 7) HT1 rfl; clear hb1 HT1 HF HT HP HWE; go_wp2_with fail; refine HF1.out.mono ?_; rintro e w2 ⟨rfl, hb2⟩; simp only; have HB2 := hid (HB1.out.trans (hb2.mono HB1.out.size)); clear hb2; go_wp2; go_ret; exact ⟨rfl, HB2.out⟩
end Go.Proofs.YtaapmpchcfcniaaGreatDoor
namespace Go.Proofs.YtaapmpchcfcniaaGreatDoor
open Go.RowKit Go.Proofs
set_option maxHeartbeats 1000000 in
set_option maxRecDepth 100000 in
theorem jd5 (t : Tst) (x : Adr) (an ak at' : Option Addr) (cn ck ct : Nat) (p : Nat) (w : World) (hp : w.heap[p]? = some (.cells #[.int .i64 t.kind, .int .i64 t.mat, .int .i64 t.part, .slice an t.names.length cn, .slice ak t.keys.length ck, .bool t.over, .int .i64 t.limit, .slice at' t.tests.length ct] 54)) (hK : TxtsM anyB w (.slice ak t.keys.length ck) t.keys) (hm : maxLenCell w) (h1 : x.1.length ≤ 140737488355328) (h2 : x.2.length ≤ 140737488355328) :
    Calls Tryz.prog 97 #[.agg #[.string (S x.1), .string (S x.2)], .pointer (some ⟨p, 0, none⟩)] w fun e w' => e = .returned (.bool (qb t x)) ∧ Below w.heap.size w w' := by
  obtain ⟨W0, hW0⟩ : ∃ W0, W0 = w.alloc (.cells #[.string (S x.1), .string (S x.2)] 29) := ⟨_, rfl⟩; have HWE := hid hW0; have HB0 := hid (show Below w.heap.size w W0 by rw [hW0]; exact (Below.refl _ _).alloc (Nat.le_refl _) _); have hT := jx HB0.out hp; have HC := hid (jbo t x an ak at' cn ck ct W0 (TxtsM.next hK HB0.out) (maxLenCell_below hm HB0.out) h1 h2); rw [hW0] at hT; have t0 := je (j := 0) hT rfl; have t1 := je (j := 1) hT rfl; have t2 := je (j := 2) hT rfl; have t3 := je (j := 3) hT rfl; have t4 := je (j := 4) hT rfl; have t5 := je (j := 5) hT rfl; have t6 := je (j := 6) hT rfl; have t7 := je (j := 7) hT rfl; clear hm hW0 hK h1 h2 hp hT; go_enter Tryz.func97, Tryz.ntmps97; go_wp2_with fail; rw [← HWE.out]; refine HC.out.mono ?_; rintro e w1 ⟨rfl, hb1⟩; simp only; have HB1 := hid (HB0.out.trans (hb1.mono HB0.out.size)); clear hb1; go_wp2; go_ret; exact ⟨rfl, HB1.out⟩
theorem jk1 : ∀ args w, (callFunc 97 args).run Tryz.prog w = .ok (.enter 97 args) w := by intro args w; kernel_rfl
set_option maxHeartbeats 1000000 in
set_option maxRecDepth 100000 in
theorem jfB (t : Tst) (v : List UInt8) (an ak at' : Option Addr) (cn ck ct : Nat) (w : World) (hK : TxtsM anyB w (.slice ak t.keys.length ck) t.keys) (hm : maxLenCell w) (hv : v.length ≤ maxLen) :
    Calls Tryz.prog 57 #[.agg #[.int .i64 t.kind, .int .i64 t.mat, .int .i64 t.part, .slice an t.names.length cn, .slice ak t.keys.length ck, .bool t.over, .int .i64 t.limit, .slice at' t.tests.length ct], .string (S v)] w fun e w' => e = .returned (.bool (jaT t v)) ∧ Below w.heap.size w w' := by
  obtain ⟨W0, hW0⟩ : ∃ W0, W0 = w.alloc (.cells #[.int .i64 t.kind, .int .i64 t.mat, .int .i64 t.part, .slice an t.names.length cn, .slice ak t.keys.length ck, .bool t.over, .int .i64 t.limit, .slice at' t.tests.length ct] 54) := ⟨_, rfl⟩; have HWE := hid hW0; have HB0 := hid (show Below w.heap.size w W0 by rw [hW0]; exact (Below.refl _ _).alloc (Nat.le_refl _) _); have HT := hid (show W0.heap[w.heap.size]? = some (.cells #[.int .i64 t.kind, .int .i64 t.mat, .int .i64 t.part, .slice an t.names.length cn, .slice ak t.keys.length ck, .bool t.over, .int .i64 t.limit, .slice at' t.tests.length ct] 54) by rw [hW0]; exact jV _ rfl); have HM := hid hm; have HK := hid hK; have HL := hid (show Calls Tryz.prog 95 #[.string (S v)] W0 (jfs W0 (zr v)) by
    have := jcQ (S v) W0 (by rw [jt]; exact hv); rw [jp] at this; exact this)
  obtain ⟨q, hq⟩ : ∃ q, q = jaT t v := ⟨_, rfl⟩; have HQ := hid (show (zr v).1.any (fun a => qb t a) = q from hq.symm); have HY := hid (fun (x : Adr) (hx : x ∈ (zr v).1) => jan (jhC hx)); have HZ := hid (show (zr v).1.length ≤ maxLen by
    unfold zr; split
    · simp
    · split
      · simp
      · split
        · simp
        · unfold maxLen; simp only; omega)
  obtain ⟨L, hL⟩ : ∃ L, L = zr v := ⟨_, rfl⟩; rw [← hL] at HL HQ HY HZ; rw [← hq]; clear hm hW0 hq hK hv hL; obtain ⟨l, z⟩ := L; go_enter Tryz.func57, Tryz.ntmps57; go_wp2_with fail; rw [← HWE.out]; refine HL.out.mono ?_; rintro e w1 ⟨a, c, rfl, hA, hb1⟩; simp only; have HB1 := hid (HB0.out.trans (hb1.mono HB0.out.size)); have HT1 := hid (jx hb1 HT.out); have HC := hid (conD l (fun x => qb t x) (fun x => .string (S x.1)) (fun x => .string (S x.2)) a c 97 #[.pointer (some ⟨w.heap.size, 0, none⟩)] jk1 w1 HZ.out
    (fun i x hx u hu => by
      obtain ⟨b, ha, _, c0, c1⟩ := (hA.below hu) i x hx; exact ⟨b, 0, ha, by simpa using c0, by simpa using c1⟩)
    (fun i x hx u hu => jd5 t x an ak at' cn ck ct _ u (jx hu HT1.out) (TxtsM.next HK.out (HB1.out.trans (hu.mono HB1.out.size))) (maxLenCell_below HM.out (HB1.out.trans (hu.mono HB1.out.size))) (by have := HY.out x (List.mem_of_getElem? hx); omega) (by have := HY.out x (List.mem_of_getElem? hx); omega)))
  rw [HQ.out] at HC; clear hb1 hA HWE; go_wp2_with fail; refine HC.out.mono ?_; rintro e w2 ⟨rfl, hb2⟩; simp only; have HB2 := hid (HB1.out.trans (hb2.mono HB1.out.size)); clear hb2; go_wp2; go_ret; exact ⟨rfl, HB2.out⟩
set_option maxHeartbeats 1000000 in
set_option maxRecDepth 100000 in
theorem jdp (f : F) (n : List UInt8) (p : Nat) (w : World) (hp : w.heap[p]? = some (.cells #[.string (S f.1), .string (S f.2)] 69)) (hm : maxLenCell w) :
    Calls Tryz.prog 91 #[.string (S n), .pointer (some ⟨p, 0, none⟩)] w fun e w' => e = .returned (.bool (zp f n)) ∧ Below w.heap.size w w' := by
  have HB0 := hid (Below.refl w.heap.size w); have HC := hid (jbI f n w hm); have t0 := je (j := 0) hp rfl; have t1 := je (j := 1) hp rfl; clear hp hm; go_enter Tryz.func91, Tryz.ntmps91; go_wp2_with fail; refine HC.out.mono ?_; rintro e w1 ⟨rfl, hb1⟩; simp only; have HB1 := hid (HB0.out.trans (hb1.mono HB0.out.size)); clear hb1; go_wp2; go_ret; exact ⟨rfl, HB1.out⟩
theorem jk2 : ∀ args w, (callFunc 91 args).run Tryz.prog w = .ok (.enter 91 args) w := by intro args w; kernel_rfl
set_option maxHeartbeats 1000000 in
set_option maxRecDepth 100000 in
theorem jek (f : F) (names : List (List UInt8)) (h : List UInt8 → Bool) (an : Option Addr) (cn : Nat) (p q g : Nat) (cap : Array Value) (eg : ∀ args w, (callFunc g args).run Tryz.prog w = .ok (.enter g args) w) (w : World) (hp : w.cell? ⟨p, 0, none⟩ = some (.slice an names.length cn)) (hq : w.cell? ⟨q, 0, none⟩ = some (.func (.func g) #[] cap)) (hN : TxtsM anyB w (.slice an names.length cn) names) (hm : maxLenCell w)
    (hh : ∀ u, Below w.heap.size w u → Calls Tryz.prog g (#[.string (S f.2)] ++ cap) u fun e u' => e = .returned (.bool (h f.2)) ∧ Below u.heap.size u u') :
    Calls Tryz.prog 90 #[.agg #[.string (S f.1), .string (S f.2)], .pointer (some ⟨p, 0, none⟩), .pointer (some ⟨q, 0, none⟩)] w fun e w' => e = .returned (.bool (names.any (fun n => zp f n) && h f.2)) ∧ Below w.heap.size w w' := by
  obtain ⟨W0, hW0⟩ : ∃ W0, W0 = w.alloc (.cells #[.string (S f.1), .string (S f.2)] 69) := ⟨_, rfl⟩; have HWE := hid hW0; have HB0 := hid (show Below w.heap.size w W0 by rw [hW0]; exact (Below.refl _ _).alloc (Nat.le_refl _) _); have HT := hid (show W0.heap[w.heap.size]? = some (.cells #[.string (S f.1), .string (S f.2)] 69) by rw [hW0]; exact jV _ rfl); have HC := hid (conS names (fun n => zp f n) (fun n => .string (S n)) an cn 91 #[.pointer (some ⟨w.heap.size, 0, none⟩)] jk2 W0 hN.small
    (fun i x hx u hu => jfj (TxtsM.next hN (HB0.out.trans (hu.mono HB0.out.size))) hx)
    (fun i x _ u hu => jdp f x _ u (jx hu HT.out) (maxLenCell_below hm (HB0.out.trans (hu.mono HB0.out.size)))))
  have HH := hid hh; have hq0 := jb hq HB0.out; have hp0 := jb hp HB0.out; have HQ0 := hid hq0; obtain ⟨r, hr⟩ : ∃ r, r = h f.2 := ⟨_, rfl⟩; rw [← hr] at HH; rw [← hr]; obtain ⟨b, hb⟩ : ∃ b, b = names.any (fun n => zp f n) := ⟨_, rfl⟩; rw [← hb] at HC; rw [← hb]; rw [hW0] at hp0 hq0; clear hp hq hN hm hh hW0 hr hb; go_enter Tryz.func90, Tryz.ntmps90; go_wp2_with fail; rw [← HWE.out]; refine HC.out.mono ?_; rintro e w1 ⟨rfl, hb1⟩; simp only; have HB1 := hid (HB0.out.trans (hb1.mono HB0.out.size)); have q1 := jb HQ0.out hb1; have hT1 := jx hb1 HT.out; have f0 := je (j := 0) hT1 rfl; have f1 := je (j := 1) hT1 rfl; have HC1 := hid (HH.out w1 HB1.out); clear hb1 hp0 hq0 HWE hT1 HT HQ0; cases b
  · go_wp2; go_ret; exact ⟨rfl, HB1.out⟩
  · go_wp2_with (go_at_fn g; refine Calls.mono HC1.out ?_; rintro e w2 ⟨rfl, hb2⟩)
    have HB2 := hid (HB1.out.trans (hb2.mono HB1.out.size)); go_ret; exact ⟨by simp, HB2.out⟩
theorem jk3 : ∀ args w, (callFunc 90 args).run Tryz.prog w = .ok (.enter 90 args) w := by intro args w; kernel_rfl
theorem jkL {w : World} {a : Option Addr} {fs : List F} (h : FieldsAt w a fs) {i : Nat} {x : F} (hx : fs[i]? = some x) : ∃ b o, a = some ⟨b, o, none⟩ ∧ w.cell? ⟨b, o + i * 2, none⟩ = some (.string (S x.1)) ∧ w.cell? ⟨b, o + i * 2 + 1, none⟩ = some (.string (S x.2)) := by
  obtain ⟨b, o, ha, _, h1, h2⟩ := h i x hx; exact ⟨b, o, ha, h1, h2⟩
set_option maxHeartbeats 1000000 in
set_option maxRecDepth 100000 in
theorem jcp (o : Opn) (fa : Option Addr) (fc : Nat) (names : List (List UInt8)) (h : List UInt8 → Bool) (an : Option Addr) (cn : Nat) (g : Nat) (cap : Array Value) (eg : ∀ args w, (callFunc g args).run Tryz.prog w = .ok (.enter g args) w) (w : World) (hF : FieldsAt w fa o.fs) (hz : o.fs.length ≤ maxLen) (hN : TxtsM anyB w (.slice an names.length cn) names) (hm : maxLenCell w)
    (hh : ∀ f ∈ o.fs, ∀ u, Below w.heap.size w u → Calls Tryz.prog g (#[.string (S f.2)] ++ cap) u fun e u' => e = .returned (.bool (h f.2)) ∧ Below u.heap.size u u') :
    Calls Tryz.prog 53 #[.agg #[.string (S o.fl), .string (S o.fd), .string (S o.tl), .string (S o.td), .string (S o.tx), .slice fa o.fs.length fc, .string (S o.body)], .slice an names.length cn, .func (.func g) #[] cap] w fun e w' => e = .returned (.bool (qE o.fs names h)) ∧ Below w.heap.size w w' := by
  obtain ⟨W0, hW0⟩ : ∃ W0, W0 = ((w.alloc (.cells #[.string (S o.fl), .string (S o.fd), .string (S o.tl), .string (S o.td), .string (S o.tx), .slice fa o.fs.length fc, .string (S o.body)] 82)).alloc (.cells #[.slice an names.length cn] 51)).alloc (.cells #[.func (.func g) #[] cap] 132) := ⟨_, rfl⟩; have HWE := hid hW0; have HB0 := hid (show Below w.heap.size w W0 by rw [hW0]; exact (((Below.refl _ _).alloc (Nat.le_refl _) _).alloc (by simp) _).alloc (by simp; omega) _); have HN1 := hid (show W0.heap[w.heap.size + 1]? = some (.cells #[.slice an names.length cn] 51) by rw [hW0]; exact qf _ (jV _ (by simp))); have HG1 := hid (show W0.heap[w.heap.size + 1 + 1]? = some (.cells #[.func (.func g) #[] cap] 132) by rw [hW0]; exact jV _ (by simp)); have HC := hid (conF o.fs (fun f => names.any (fun n => zp f n) && h f.2) (fun f => .string (S f.1)) (fun f => .string (S f.2)) fa fc 90 #[.pointer (some ⟨w.heap.size + 1, 0, none⟩), .pointer (some ⟨w.heap.size + 1 + 1, 0, none⟩)] jk3 W0 hz
    (fun i x hx u hu => jkL (hF.below (HB0.out.trans (hu.mono HB0.out.size))) hx)
    (fun i x hx u hu => jek x names h an cn _ _ g cap eg u (je (jx hu HN1.out) rfl) (je (jx hu HG1.out) rfl) (TxtsM.next hN (HB0.out.trans (hu.mono HB0.out.size))) (maxLenCell_below hm (HB0.out.trans (hu.mono HB0.out.size))) (fun u' hu' => hh x (List.mem_of_getElem? hx) u' ((HB0.out.trans (hu.mono HB0.out.size)).trans (hu'.mono (HB0.out.trans (hu.mono HB0.out.size)).size)))))
  obtain ⟨q, hq⟩ : ∃ q, q = qE o.fs names h := ⟨_, rfl⟩; rw [← hq]; rw [show o.fs.any (fun f => names.any (fun n => zp f n) && h f.2) = q from hq.symm] at HC; clear hm hW0 hq hF hz hN hh HN1 HG1; go_enter Tryz.func53, Tryz.ntmps53; go_wp2_with fail; rw [← HWE.out]; refine HC.out.mono ?_; rintro e w1 ⟨rfl, hb1⟩; simp only; have HB1 := hid (HB0.out.trans (hb1.mono HB0.out.size)); clear hb1; go_wp2; go_ret; exact ⟨rfl, HB1.out⟩
set_option maxHeartbeats 1000000 in
set_option maxRecDepth 100000 in
theorem jei (f : F) (n : List UInt8) (p : Nat) (w : World) (hp : w.cell? ⟨p, 0, none⟩ = some (.string (S n))) (hm : maxLenCell w) :
    Calls Tryz.prog 100 #[.agg #[.string (S f.1), .string (S f.2)], .pointer (some ⟨p, 0, none⟩)] w fun e w' => e = .returned (.bool (zp f n)) ∧ Below w.heap.size w w' := by
  obtain ⟨W0, hW0⟩ : ∃ W0, W0 = w.alloc (.cells #[.string (S f.1), .string (S f.2)] 69) := ⟨_, rfl⟩; have HWE := hid hW0; have HB0 := hid (show Below w.heap.size w W0 by rw [hW0]; exact (Below.refl _ _).alloc (Nat.le_refl _) _); have HC := hid (jbI f n W0 (maxLenCell_below hm HB0.out)); have hp0 := jb hp HB0.out; rw [hW0] at hp0; clear hp hm hW0; go_enter Tryz.func100, Tryz.ntmps100; go_wp2_with fail; rw [← HWE.out]; refine HC.out.mono ?_; rintro e w1 ⟨rfl, hb1⟩; simp only; have HB1 := hid (HB0.out.trans (hb1.mono HB0.out.size)); clear hb1; go_wp2; go_ret; exact ⟨rfl, HB1.out⟩
theorem jk4 : ∀ args w, (callFunc 100 args).run Tryz.prog w = .ok (.enter 100 args) w := by intro args w; kernel_rfl
set_option maxHeartbeats 1000000 in
set_option maxRecDepth 100000 in
theorem jf0 (o : Opn) (fa : Option Addr) (fc : Nat) (n : List UInt8) (w : World) (hF : FieldsAt w fa o.fs) (hz : o.fs.length ≤ maxLen) (hm : maxLenCell w) :
    Calls Tryz.prog 63 #[.agg #[.string (S o.fl), .string (S o.fd), .string (S o.tl), .string (S o.td), .string (S o.tx), .slice fa o.fs.length fc, .string (S o.body)], .string (S n)] w fun e w' => e = .returned (.bool (qW o.fs n)) ∧ Below w.heap.size w w' := by
  obtain ⟨W0, hW0⟩ : ∃ W0, W0 = (w.alloc (.cells #[.string (S o.fl), .string (S o.fd), .string (S o.tl), .string (S o.td), .string (S o.tx), .slice fa o.fs.length fc, .string (S o.body)] 82)).alloc (.cells #[.string (S n)] 9) := ⟨_, rfl⟩; have HWE := hid hW0; have HB0 := hid (show Below w.heap.size w W0 by rw [hW0]; exact ((Below.refl _ _).alloc (Nat.le_refl _) _).alloc (by simp) _); have HN1 := hid (show W0.heap[w.heap.size + 1]? = some (.cells #[.string (S n)] 9) by rw [hW0]; exact jV _ (by simp)); have HC := hid (conF o.fs (fun f => zp f n) (fun f => .string (S f.1)) (fun f => .string (S f.2)) fa fc 100 #[.pointer (some ⟨w.heap.size + 1, 0, none⟩)] jk4 W0 hz
    (fun i x hx u hu => jkL (hF.below (HB0.out.trans (hu.mono HB0.out.size))) hx)
    (fun i x hx u hu => jei x n _ u (je (jx hu HN1.out) rfl) (maxLenCell_below hm (HB0.out.trans (hu.mono HB0.out.size)))))
  obtain ⟨q, hq⟩ : ∃ q, q = qW o.fs n := ⟨_, rfl⟩; rw [← hq]; rw [show o.fs.any (fun f => zp f n) = q from hq.symm] at HC; clear hm hW0 hq hF hz HN1; go_enter Tryz.func63, Tryz.ntmps63; go_wp2_with fail; rw [← HWE.out]; refine HC.out.mono ?_; rintro e w1 ⟨rfl, hb1⟩; simp only; have HB1 := hid (HB0.out.trans (hb1.mono HB0.out.size)); clear hb1; go_wp2; go_ret; exact ⟨rfl, HB1.out⟩
set_option maxHeartbeats 1000000 in
set_option maxRecDepth 100000 in
theorem jej (o : Opn) (fa : Option Addr) (fc : Nat) (t : Tst) (an ak at' : Option Addr) (cn ck ct : Nat) (w : World) :
    Calls Tryz.prog 64 #[.agg #[.string (S o.fl), .string (S o.fd), .string (S o.tl), .string (S o.td), .string (S o.tx), .slice fa o.fs.length fc, .string (S o.body)], .agg #[.int .i64 t.kind, .int .i64 t.mat, .int .i64 t.part, .slice an t.names.length cn, .slice ak t.keys.length ck, .bool t.over, .int .i64 t.limit, .slice at' t.tests.length ct]] w fun e w' => e = .returned (.bool (jeA o.tx.length t)) ∧ Below w.heap.size w w' := by
  have HB0 := hid (show Below w.heap.size w ((w.alloc (.cells #[.string (S o.fl), .string (S o.fd), .string (S o.tl), .string (S o.td), .string (S o.tx), .slice fa o.fs.length fc, .string (S o.body)] 82)).alloc (.cells #[.int .i64 t.kind, .int .i64 t.mat, .int .i64 t.part, .slice an t.names.length cn, .slice ak t.keys.length ck, .bool t.over, .int .i64 t.limit, .slice at' t.tests.length ct] 54)) from ((Below.refl _ _).alloc (Nat.le_refl _) _).alloc (by simp) _); have HS := hid (jt o.tx); cases hv : t.over with
  | true =>
    have HV := hid hv; go_enter Tryz.func64, Tryz.ntmps64; go_wp2; go_ret; rw [hv] at HB0; exact ⟨jg (by unfold jeA; rw [HV.out, if_pos rfl, HS.out]), HB0.out⟩
  | false =>
    have HV := hid hv; go_enter Tryz.func64, Tryz.ntmps64; go_wp2; go_ret; rw [hv] at HB0; exact ⟨jg (by unfold jeA; rw [HV.out, if_neg (by simp), HS.out]), HB0.out⟩
set_option maxHeartbeats 1000000 in
set_option maxRecDepth 100000 in
theorem jh8 (o : Opn) (fa : Option Addr) (fc : Nat) (n : List UInt8) (w : World) :
    Calls Tryz.prog 61 #[.agg #[.string (S o.fl), .string (S o.fd), .string (S o.tl), .string (S o.td), .string (S o.tx), .slice fa o.fs.length fc, .string (S o.body)], .string (S n)] w fun e w' => e = .returned (.agg #[.string (S (zZ o n).1), .string (S (zZ o n).2)]) ∧ Below w.heap.size w w' := by
  by_cases h : n = [102, 114, 111, 109]
  · have HE := hid (show zZ o n = (o.fl, o.fd) by unfold zZ; rw [if_pos h]); have h' : ((S n).toList == [102, 114, 111, 109]) = true := by rw [Lib.toList_data, jp, h]; rfl
    clear h; go_enter Tryz.func61, Tryz.ntmps61; go_wp2; refine bodyPost_ret (v := .agg #[.string (S o.fl), .string (S o.fd)]) (by simp [results, Tryz.results61, go_sem, *]) rfl ?_; exact ⟨by rw [HE.out], ((Below.refl _ _).alloc (Nat.le_refl _) _).alloc (by simp) _⟩
  · have HE := hid (show zZ o n = (o.tl, o.td) by unfold zZ; rw [if_neg h]); have h' : ((S n).toList == [102, 114, 111, 109]) = false := by
      rw [Lib.toList_data, jp]; simpa using h
    clear h; go_enter Tryz.func61, Tryz.ntmps61; go_wp2; refine bodyPost_ret (v := .agg #[.string (S o.tl), .string (S o.td)]) (by simp [results, Tryz.results61, go_sem, *]) rfl ?_; exact ⟨by rw [HE.out], ((Below.refl _ _).alloc (Nat.le_refl _) _).alloc (by simp) _⟩
end Go.Proofs.YtaapmpchcfcniaaGreatDoor
namespace Go.Proofs.YtaapmpchcfcniaaGreatDoor
open Go.RowKit Go.Proofs
def jdb (o : Opn) : Prop := (o.fl.length ≤ 2000 ∧ o.fd.length ≤ 2000 ∧ o.tl.length ≤ 2000 ∧ o.td.length ≤ 2000) ∧ o.fs.length ≤ maxLen ∧ ∀ f ∈ o.fs, f.2.length ≤ maxLen
def jjv : Nat → Tst → Prop
  | 0, _ => True
  | n + 1, t => (t.kind = 3 → t.tests ≠ []) ∧ ∀ x ∈ t.tests, jjv n x
theorem jfb {o : Opn} (h : jdb o) (n : List UInt8) : (zZ o n).1.length ≤ 140737488355328 ∧ (zZ o n).2.length ≤ 140737488355328 := by
  obtain ⟨⟨h1, h2, h3, h4⟩, _⟩ := h; unfold zZ; split
  · exact ⟨by show o.fl.length ≤ _; omega, by show o.fd.length ≤ _; omega⟩
  · exact ⟨by show o.tl.length ≤ _; omega, by show o.td.length ≤ _; omega⟩
set_option maxHeartbeats 1000000 in
set_option maxRecDepth 100000 in
theorem jgz (t : Tst) (v : List UInt8) (an ak at' : Option Addr) (cn ck ct : Nat) (p : Nat) (w : World) (hp : w.heap[p]? = some (.cells #[.int .i64 t.kind, .int .i64 t.mat, .int .i64 t.part, .slice an t.names.length cn, .slice ak t.keys.length ck, .bool t.over, .int .i64 t.limit, .slice at' t.tests.length ct] 54)) (hK : TxtsM anyB w (.slice ak t.keys.length ck) t.keys) (hm : maxLenCell w) :
    Calls Tryz.prog 54 #[.string (S v), .pointer (some ⟨p, 0, none⟩)] w fun e w' => e = .returned (.bool (jb5 t v)) ∧ Below w.heap.size w w' := by
  have HB0 := hid (Below.refl w.heap.size w); have HC := hid (jeR t v an ak at' cn ck ct w hK hm); have t0 := je (j := 0) hp rfl; have t1 := je (j := 1) hp rfl; have t2 := je (j := 2) hp rfl; have t3 := je (j := 3) hp rfl; have t4 := je (j := 4) hp rfl; have t5 := je (j := 5) hp rfl; have t6 := je (j := 6) hp rfl; have t7 := je (j := 7) hp rfl; clear hp hm hK; go_enter Tryz.func54, Tryz.ntmps54; go_wp2_with fail; refine HC.out.mono ?_; rintro e w1 ⟨rfl, hb1⟩; simp only; have HB1 := hid (HB0.out.trans (hb1.mono HB0.out.size)); clear hb1; go_wp2; go_ret; exact ⟨rfl, HB1.out⟩
theorem jjf : ∀ args w, (callFunc 54 args).run Tryz.prog w = .ok (.enter 54 args) w := by intro args w; kernel_rfl
set_option maxHeartbeats 1000000 in
set_option maxRecDepth 100000 in
theorem jgA (t : Tst) (v : List UInt8) (an ak at' : Option Addr) (cn ck ct : Nat) (p : Nat) (w : World) (hp : w.heap[p]? = some (.cells #[.int .i64 t.kind, .int .i64 t.mat, .int .i64 t.part, .slice an t.names.length cn, .slice ak t.keys.length ck, .bool t.over, .int .i64 t.limit, .slice at' t.tests.length ct] 54)) (hK : TxtsM anyB w (.slice ak t.keys.length ck) t.keys) (hm : maxLenCell w) (hv : v.length ≤ maxLen) :
    Calls Tryz.prog 56 #[.string (S v), .pointer (some ⟨p, 0, none⟩)] w fun e w' => e = .returned (.bool (jaT t v)) ∧ Below w.heap.size w w' := by
  have HB0 := hid (Below.refl w.heap.size w); have HC := hid (jfB t v an ak at' cn ck ct w hK hm hv); have t0 := je (j := 0) hp rfl; have t1 := je (j := 1) hp rfl; have t2 := je (j := 2) hp rfl; have t3 := je (j := 3) hp rfl; have t4 := je (j := 4) hp rfl; have t5 := je (j := 5) hp rfl; have t6 := je (j := 6) hp rfl; have t7 := je (j := 7) hp rfl; clear hp hm hK hv; go_enter Tryz.func56, Tryz.ntmps56; go_wp2_with fail; refine HC.out.mono ?_; rintro e w1 ⟨rfl, hb1⟩; simp only; have HB1 := hid (HB0.out.trans (hb1.mono HB0.out.size)); clear hb1; go_wp2; go_ret; exact ⟨rfl, HB1.out⟩
theorem jjg : ∀ args w, (callFunc 56 args).run Tryz.prog w = .ok (.enter 56 args) w := by intro args w; kernel_rfl
set_option maxHeartbeats 1000000 in
set_option maxRecDepth 100000 in
theorem jgC (o : Opn) (fa : Option Addr) (fc : Nat) (n : List UInt8) (p : Nat) (w : World) (hp : w.heap[p]? = some (.cells #[.string (S o.fl), .string (S o.fd), .string (S o.tl), .string (S o.td), .string (S o.tx), .slice fa o.fs.length fc, .string (S o.body)] 82)) (hF : FieldsAt w fa o.fs) (hz : o.fs.length ≤ maxLen) (hm : maxLenCell w) :
    Calls Tryz.prog 62 #[.string (S n), .pointer (some ⟨p, 0, none⟩)] w fun e w' => e = .returned (.bool (!qW o.fs n)) ∧ Below w.heap.size w w' := by
  have HB0 := hid (Below.refl w.heap.size w); have HC := hid (jf0 o fa fc n w hF hz hm); obtain ⟨q, hq⟩ : ∃ q, q = qW o.fs n := ⟨_, rfl⟩; rw [← hq] at HC; rw [← hq]; have t0 := je (j := 0) hp rfl; have t1 := je (j := 1) hp rfl; have t2 := je (j := 2) hp rfl; have t3 := je (j := 3) hp rfl; have t4 := je (j := 4) hp rfl; have t5 := je (j := 5) hp rfl; have t6 := je (j := 6) hp rfl; clear hp hm hF hz hq; go_enter Tryz.func62, Tryz.ntmps62; go_wp2_with fail; refine HC.out.mono ?_; rintro e w1 ⟨rfl, hb1⟩; simp only; have HB1 := hid (HB0.out.trans (hb1.mono HB0.out.size)); clear hb1; go_wp2; go_ret; exact ⟨rfl, HB1.out⟩
theorem jji : ∀ args w, (callFunc 62 args).run Tryz.prog w = .ok (.enter 62 args) w := by intro args w; kernel_rfl
set_option maxHeartbeats 1000000 in
set_option maxRecDepth 100000 in
theorem jgB (o : Opn) (fa : Option Addr) (fc : Nat) (t : Tst) (an ak at' : Option Addr) (cn ck ct : Nat) (n : List UInt8) (p q : Nat) (w : World) (hp : w.heap[p]? = some (.cells #[.int .i64 t.kind, .int .i64 t.mat, .int .i64 t.part, .slice an t.names.length cn, .slice ak t.keys.length ck, .bool t.over, .int .i64 t.limit, .slice at' t.tests.length ct] 54)) (hq : w.heap[q]? = some (.cells #[.string (S o.fl), .string (S o.fd), .string (S o.tl), .string (S o.td), .string (S o.tx), .slice fa o.fs.length fc, .string (S o.body)] 82)) (ho : jdb o) (hK : TxtsM anyB w (.slice ak t.keys.length ck) t.keys) (hm : maxLenCell w) :
    Calls Tryz.prog 59 #[.string (S n), .pointer (some ⟨p, 0, none⟩), .pointer (some ⟨q, 0, none⟩)] w fun e w' => e = .returned (.bool (qb t (zZ o n))) ∧ Below w.heap.size w w' := by
  have HC := hid (fun u => jh8 o fa fc n u); have HD := hid (fun (u : World) (hu : Below w.heap.size w u) => jbo t (zZ o n) an ak at' cn ck ct u (TxtsM.next hK hu) (maxLenCell_below hm hu) (jfb ho n).1 (jfb ho n).2); obtain ⟨y, hy⟩ : ∃ y, y = zZ o n := ⟨_, rfl⟩; rw [← hy] at HC HD; rw [← hy]; have t0 := je (j := 0) hp rfl; have t1 := je (j := 1) hp rfl; have t2 := je (j := 2) hp rfl; have t3 := je (j := 3) hp rfl; have t4 := je (j := 4) hp rfl; have t5 := je (j := 5) hp rfl; have t6 := je (j := 6) hp rfl; have t7 := je (j := 7) hp rfl; have z0 := je (j := 0) hq rfl; have z1 := je (j := 1) hq rfl; have z2 := je (j := 2) hq rfl; have z3 := je (j := 3) hq rfl; have z4 := je (j := 4) hq rfl; have z5 := je (j := 5) hq rfl; have z6 := je (j := 6) hq rfl; clear hm hK hy ho; have HP := hid hp; have HQ := hid hq; clear hp hq; go_enter Tryz.func59, Tryz.ntmps59; go_wp2
  go_region_law
    (first
      | (go_simp
         go_at_call 61
         refine (HC.out _).mono ?_; rintro e w1 ⟨rfl, hb1⟩; have hb1' : Below w.heap.size w w1 := (Below.refl w.heap.size w).drew.trans hb1; have HT1 := jx hb1' HP.out; have y0 := je (j := 0) HT1 rfl; have y1 := je (j := 1) HT1 rfl; have y2 := je (j := 2) HT1 rfl; have y3 := je (j := 3) HT1 rfl; have y4 := je (j := 4) HT1 rfl; have y5 := je (j := 5) HT1 rfl; have y6 := je (j := 6) HT1 rfl; have y7 := je (j := 7) HT1 rfl; clear HT1)
      | (go_simp
         go_at_call 60
         refine (HD.out _ hb1').mono ?_; rintro e w2 ⟨rfl, hb2⟩; have hb2' : Below w.heap.size w w2 := hb1'.trans (hb2.mono hb1'.size)))
  all_goals
    go_wp2; go_ret; exact ⟨rfl, hb2'⟩
theorem jjh : ∀ args w, (callFunc 59 args).run Tryz.prog w = .ok (.enter 59 args) w := by intro args w; kernel_rfl
set_option maxHeartbeats 1000000 in
set_option maxRecDepth 100000 in
theorem jlV (o : Opn) (fa : Option Addr) (fc : Nat) (t : Tst) (an ak at' : Option Addr) (cn ck ct : Nat) (m : Nat) (w : World) (hk : t.kind = 6) (ho : jdb o) (hF : FieldsAt w fa o.fs) (hN : TxtsM anyB w (.slice an t.names.length cn) t.names) (hK : TxtsM anyB w (.slice ak t.keys.length ck) t.keys) (hm : maxLenCell w) :
    Calls Tryz.prog 32 #[.agg #[.string (S o.fl), .string (S o.fd), .string (S o.tl), .string (S o.td), .string (S o.tx), .slice fa o.fs.length fc, .string (S o.body)], .agg #[.int .i64 t.kind, .int .i64 t.mat, .int .i64 t.part, .slice an t.names.length cn, .slice ak t.keys.length ck, .bool t.over, .int .i64 t.limit, .slice at' t.tests.length ct]] w fun e w' => e = .returned (.bool (ju o (m + 1) t)) ∧ Below w.heap.size w w' := by
  obtain ⟨W0, hW0⟩ : ∃ W0, W0 = ((w.alloc (.cells #[.string (S o.fl), .string (S o.fd), .string (S o.tl), .string (S o.td), .string (S o.tx), .slice fa o.fs.length fc, .string (S o.body)] 82)).alloc (.cells #[.int .i64 t.kind, .int .i64 t.mat, .int .i64 t.part, .slice an t.names.length cn, .slice ak t.keys.length ck, .bool t.over, .int .i64 t.limit, .slice at' t.tests.length ct] 54)) := ⟨_, rfl⟩; have HWE := hid hW0; have HB0 := hid (show Below w.heap.size w W0 by rw [hW0]; exact ((Below.refl _ _).alloc (Nat.le_refl _) _).alloc (by simp) _); have HOB := hid (show W0.heap[w.heap.size]? = some (.cells #[.string (S o.fl), .string (S o.fd), .string (S o.tl), .string (S o.td), .string (S o.tx), .slice fa o.fs.length fc, .string (S o.body)] 82) by rw [hW0]; exact qf _ (jV _ rfl)); have HTB := hid (show W0.heap[w.heap.size + 1]? = some (.cells #[.int .i64 t.kind, .int .i64 t.mat, .int .i64 t.part, .slice an t.names.length cn, .slice ak t.keys.length ck, .bool t.over, .int .i64 t.limit, .slice at' t.tests.length ct] 54) by rw [hW0]; exact jV _ (by simp)); have HE := hid (show ju o (m + 1) t = qE o.fs t.names (jb5 t) by unfold ju; simp [hk]); obtain ⟨r, hr⟩ : ∃ r, r = qE o.fs t.names (jb5 t) := ⟨_, rfl⟩; rw [HE.out, ← hr]; have hBu : ∀ u, Below W0.heap.size W0 u → Below w.heap.size w u := fun u hu => HB0.out.trans (hu.mono HB0.out.size)
  have HC := hid (jcp o fa fc t.names (jb5 t) an cn 54 #[.pointer (some ⟨w.heap.size + 1, 0, none⟩)] jjf W0 (hF.below HB0.out) ho.2.1 (TxtsM.next hN HB0.out) (maxLenCell_below hm HB0.out) (fun f _ u hu => jgz t f.2 an ak at' cn ck ct _ u (jx hu HTB.out) (TxtsM.next hK (hBu u hu)) (maxLenCell_below hm (hBu u hu)))); rw [show qE o.fs t.names (jb5 t) = r from hr.symm] at HC; have k1 : (t.kind == 1) = false := by rw [hk]; rfl
  have k3 : (t.kind == 3) = false := by rw [hk]; rfl
  have k4 : (t.kind == 4) = false := by rw [hk]; rfl
  have k5 : (t.kind == 5) = false := by rw [hk]; rfl
  have k6 : (t.kind == 6) = true := by rw [hk]; rfl
  have k7 : (t.kind == 7) = false := by rw [hk]; rfl
  have k8 : (t.kind == 8) = false := by rw [hk]; rfl
  have k9 : (t.kind == 9) = false := by rw [hk]; rfl
  have k10 : (t.kind == 10) = false := by rw [hk]; rfl
  clear ho hF hN hK hm hW0 hr hBu HOB HTB HE hk; go_enter Tryz.func32, Tryz.ntmps32; go_wp2_with fail; rw [← HWE.out]; refine HC.out.mono ?_; rintro e w1 ⟨rfl, hb1⟩; simp only; have HB1 := hid (HB0.out.trans (hb1.mono HB0.out.size)); clear hb1; go_wp2; go_ret; exact ⟨rfl, HB1.out⟩
set_option maxHeartbeats 1000000 in
set_option maxRecDepth 100000 in
theorem jlW (o : Opn) (fa : Option Addr) (fc : Nat) (t : Tst) (an ak at' : Option Addr) (cn ck ct : Nat) (m : Nat) (w : World) (hk : t.kind = 7) (ho : jdb o) (hF : FieldsAt w fa o.fs) (hN : TxtsM anyB w (.slice an t.names.length cn) t.names) (hK : TxtsM anyB w (.slice ak t.keys.length ck) t.keys) (hm : maxLenCell w) :
    Calls Tryz.prog 32 #[.agg #[.string (S o.fl), .string (S o.fd), .string (S o.tl), .string (S o.td), .string (S o.tx), .slice fa o.fs.length fc, .string (S o.body)], .agg #[.int .i64 t.kind, .int .i64 t.mat, .int .i64 t.part, .slice an t.names.length cn, .slice ak t.keys.length ck, .bool t.over, .int .i64 t.limit, .slice at' t.tests.length ct]] w fun e w' => e = .returned (.bool (ju o (m + 1) t)) ∧ Below w.heap.size w w' := by
  obtain ⟨W0, hW0⟩ : ∃ W0, W0 = ((w.alloc (.cells #[.string (S o.fl), .string (S o.fd), .string (S o.tl), .string (S o.td), .string (S o.tx), .slice fa o.fs.length fc, .string (S o.body)] 82)).alloc (.cells #[.int .i64 t.kind, .int .i64 t.mat, .int .i64 t.part, .slice an t.names.length cn, .slice ak t.keys.length ck, .bool t.over, .int .i64 t.limit, .slice at' t.tests.length ct] 54)) := ⟨_, rfl⟩; have HWE := hid hW0; have HB0 := hid (show Below w.heap.size w W0 by rw [hW0]; exact ((Below.refl _ _).alloc (Nat.le_refl _) _).alloc (by simp) _); have HOB := hid (show W0.heap[w.heap.size]? = some (.cells #[.string (S o.fl), .string (S o.fd), .string (S o.tl), .string (S o.td), .string (S o.tx), .slice fa o.fs.length fc, .string (S o.body)] 82) by rw [hW0]; exact qf _ (jV _ rfl)); have HTB := hid (show W0.heap[w.heap.size + 1]? = some (.cells #[.int .i64 t.kind, .int .i64 t.mat, .int .i64 t.part, .slice an t.names.length cn, .slice ak t.keys.length ck, .bool t.over, .int .i64 t.limit, .slice at' t.tests.length ct] 54) by rw [hW0]; exact jV _ (by simp)); have HE := hid (show ju o (m + 1) t = qE o.fs t.names (jaT t) by unfold ju; simp [hk]); obtain ⟨r, hr⟩ : ∃ r, r = qE o.fs t.names (jaT t) := ⟨_, rfl⟩; rw [HE.out, ← hr]; have hBu : ∀ u, Below W0.heap.size W0 u → Below w.heap.size w u := fun u hu => HB0.out.trans (hu.mono HB0.out.size)
  have HC := hid (jcp o fa fc t.names (jaT t) an cn 56 #[.pointer (some ⟨w.heap.size + 1, 0, none⟩)] jjg W0 (hF.below HB0.out) ho.2.1 (TxtsM.next hN HB0.out) (maxLenCell_below hm HB0.out) (fun f hf u hu => jgA t f.2 an ak at' cn ck ct _ u (jx hu HTB.out) (TxtsM.next hK (hBu u hu)) (maxLenCell_below hm (hBu u hu)) (ho.2.2 f hf))); rw [show qE o.fs t.names (jaT t) = r from hr.symm] at HC; have k1 : (t.kind == 1) = false := by rw [hk]; rfl
  have k3 : (t.kind == 3) = false := by rw [hk]; rfl
  have k4 : (t.kind == 4) = false := by rw [hk]; rfl
  have k5 : (t.kind == 5) = false := by rw [hk]; rfl
  have k6 : (t.kind == 6) = false := by rw [hk]; rfl
  have k7 : (t.kind == 7) = true := by rw [hk]; rfl
  have k8 : (t.kind == 8) = false := by rw [hk]; rfl
  have k9 : (t.kind == 9) = false := by rw [hk]; rfl
  have k10 : (t.kind == 10) = false := by rw [hk]; rfl
  clear ho hF hN hK hm hW0 hr hBu HOB HTB HE hk; go_enter Tryz.func32, Tryz.ntmps32; go_wp2_with fail; rw [← HWE.out]; refine HC.out.mono ?_; rintro e w1 ⟨rfl, hb1⟩; simp only; have HB1 := hid (HB0.out.trans (hb1.mono HB0.out.size)); clear hb1; go_wp2; go_ret; exact ⟨rfl, HB1.out⟩
set_option maxHeartbeats 1000000 in
set_option maxRecDepth 100000 in
theorem jlX (o : Opn) (fa : Option Addr) (fc : Nat) (t : Tst) (an ak at' : Option Addr) (cn ck ct : Nat) (m : Nat) (w : World) (hk : t.kind = 8) (ho : jdb o) (hN : TxtsM anyB w (.slice an t.names.length cn) t.names) (hK : TxtsM anyB w (.slice ak t.keys.length ck) t.keys) (hm : maxLenCell w) :
    Calls Tryz.prog 32 #[.agg #[.string (S o.fl), .string (S o.fd), .string (S o.tl), .string (S o.td), .string (S o.tx), .slice fa o.fs.length fc, .string (S o.body)], .agg #[.int .i64 t.kind, .int .i64 t.mat, .int .i64 t.part, .slice an t.names.length cn, .slice ak t.keys.length ck, .bool t.over, .int .i64 t.limit, .slice at' t.tests.length ct]] w fun e w' => e = .returned (.bool (ju o (m + 1) t)) ∧ Below w.heap.size w w' := by
  obtain ⟨W0, hW0⟩ : ∃ W0, W0 = ((w.alloc (.cells #[.string (S o.fl), .string (S o.fd), .string (S o.tl), .string (S o.td), .string (S o.tx), .slice fa o.fs.length fc, .string (S o.body)] 82)).alloc (.cells #[.int .i64 t.kind, .int .i64 t.mat, .int .i64 t.part, .slice an t.names.length cn, .slice ak t.keys.length ck, .bool t.over, .int .i64 t.limit, .slice at' t.tests.length ct] 54)) := ⟨_, rfl⟩; have HWE := hid hW0; have HB0 := hid (show Below w.heap.size w W0 by rw [hW0]; exact ((Below.refl _ _).alloc (Nat.le_refl _) _).alloc (by simp) _); have HOB := hid (show W0.heap[w.heap.size]? = some (.cells #[.string (S o.fl), .string (S o.fd), .string (S o.tl), .string (S o.td), .string (S o.tx), .slice fa o.fs.length fc, .string (S o.body)] 82) by rw [hW0]; exact qf _ (jV _ rfl)); have HTB := hid (show W0.heap[w.heap.size + 1]? = some (.cells #[.int .i64 t.kind, .int .i64 t.mat, .int .i64 t.part, .slice an t.names.length cn, .slice ak t.keys.length ck, .bool t.over, .int .i64 t.limit, .slice at' t.tests.length ct] 54) by rw [hW0]; exact jV _ (by simp)); have HE := hid (show ju o (m + 1) t = t.names.any (fun n => qb t (zZ o n)) by unfold ju; simp [hk]); obtain ⟨r, hr⟩ : ∃ r, r = t.names.any (fun n => qb t (zZ o n)) := ⟨_, rfl⟩; rw [HE.out, ← hr]; have hBu : ∀ u, Below W0.heap.size W0 u → Below w.heap.size w u := fun u hu => HB0.out.trans (hu.mono HB0.out.size)
  have HC := hid (conS t.names (fun n => qb t (zZ o n)) (fun n => .string (S n)) an cn 59 #[.pointer (some ⟨w.heap.size + 1, 0, none⟩), .pointer (some ⟨w.heap.size, 0, none⟩)] jjh W0 hN.small (fun i x hx u hu => jfj (TxtsM.next hN (hBu u hu)) hx) (fun i x _ u hu => jgB o fa fc t an ak at' cn ck ct x _ _ u (jx hu HTB.out) (jx hu HOB.out) ho (TxtsM.next hK (hBu u hu)) (maxLenCell_below hm (hBu u hu)))); rw [show t.names.any (fun n => qb t (zZ o n)) = r from hr.symm] at HC; have k1 : (t.kind == 1) = false := by rw [hk]; rfl
  have k3 : (t.kind == 3) = false := by rw [hk]; rfl
  have k4 : (t.kind == 4) = false := by rw [hk]; rfl
  have k5 : (t.kind == 5) = false := by rw [hk]; rfl
  have k6 : (t.kind == 6) = false := by rw [hk]; rfl
  have k7 : (t.kind == 7) = false := by rw [hk]; rfl
  have k8 : (t.kind == 8) = true := by rw [hk]; rfl
  have k9 : (t.kind == 9) = false := by rw [hk]; rfl
  have k10 : (t.kind == 10) = false := by rw [hk]; rfl
  clear ho hN hK hm hW0 hr hBu HOB HTB HE hk; go_enter Tryz.func32, Tryz.ntmps32; go_wp2_with fail; rw [← HWE.out]; refine HC.out.mono ?_; rintro e w1 ⟨rfl, hb1⟩; simp only; have HB1 := hid (HB0.out.trans (hb1.mono HB0.out.size)); clear hb1; go_wp2; go_ret; exact ⟨rfl, HB1.out⟩
set_option maxHeartbeats 1000000 in
set_option maxRecDepth 100000 in
theorem jlY (o : Opn) (fa : Option Addr) (fc : Nat) (t : Tst) (an ak at' : Option Addr) (cn ck ct : Nat) (m : Nat) (w : World) (hk : t.kind = 9) (ho : jdb o) (hF : FieldsAt w fa o.fs) (hN : TxtsM anyB w (.slice an t.names.length cn) t.names) (hm : maxLenCell w) :
    Calls Tryz.prog 32 #[.agg #[.string (S o.fl), .string (S o.fd), .string (S o.tl), .string (S o.td), .string (S o.tx), .slice fa o.fs.length fc, .string (S o.body)], .agg #[.int .i64 t.kind, .int .i64 t.mat, .int .i64 t.part, .slice an t.names.length cn, .slice ak t.keys.length ck, .bool t.over, .int .i64 t.limit, .slice at' t.tests.length ct]] w fun e w' => e = .returned (.bool (ju o (m + 1) t)) ∧ Below w.heap.size w w' := by
  obtain ⟨W0, hW0⟩ : ∃ W0, W0 = ((w.alloc (.cells #[.string (S o.fl), .string (S o.fd), .string (S o.tl), .string (S o.td), .string (S o.tx), .slice fa o.fs.length fc, .string (S o.body)] 82)).alloc (.cells #[.int .i64 t.kind, .int .i64 t.mat, .int .i64 t.part, .slice an t.names.length cn, .slice ak t.keys.length ck, .bool t.over, .int .i64 t.limit, .slice at' t.tests.length ct] 54)) := ⟨_, rfl⟩; have HWE := hid hW0; have HB0 := hid (show Below w.heap.size w W0 by rw [hW0]; exact ((Below.refl _ _).alloc (Nat.le_refl _) _).alloc (by simp) _); have HOB := hid (show W0.heap[w.heap.size]? = some (.cells #[.string (S o.fl), .string (S o.fd), .string (S o.tl), .string (S o.td), .string (S o.tx), .slice fa o.fs.length fc, .string (S o.body)] 82) by rw [hW0]; exact qf _ (jV _ rfl)); have HTB := hid (show W0.heap[w.heap.size + 1]? = some (.cells #[.int .i64 t.kind, .int .i64 t.mat, .int .i64 t.part, .slice an t.names.length cn, .slice ak t.keys.length ck, .bool t.over, .int .i64 t.limit, .slice at' t.tests.length ct] 54) by rw [hW0]; exact jV _ (by simp)); have HE := hid (show ju o (m + 1) t = !(t.names.any (fun n => !qW o.fs n)) by unfold ju; simp [hk]); obtain ⟨r, hr⟩ : ∃ r, r = t.names.any (fun n => !qW o.fs n) := ⟨_, rfl⟩; rw [HE.out, ← hr]; have hBu : ∀ u, Below W0.heap.size W0 u → Below w.heap.size w u := fun u hu => HB0.out.trans (hu.mono HB0.out.size)
  have HC := hid (conS t.names (fun n => !qW o.fs n) (fun n => .string (S n)) an cn 62 #[.pointer (some ⟨w.heap.size, 0, none⟩)] jji W0 hN.small (fun i x hx u hu => jfj (TxtsM.next hN (hBu u hu)) hx) (fun i x _ u hu => jgC o fa fc x _ u (jx hu HOB.out) (hF.below (hBu u hu)) ho.2.1 (maxLenCell_below hm (hBu u hu)))); rw [show t.names.any (fun n => !qW o.fs n) = r from hr.symm] at HC; have k1 : (t.kind == 1) = false := by rw [hk]; rfl
  have k3 : (t.kind == 3) = false := by rw [hk]; rfl
  have k4 : (t.kind == 4) = false := by rw [hk]; rfl
  have k5 : (t.kind == 5) = false := by rw [hk]; rfl
  have k6 : (t.kind == 6) = false := by rw [hk]; rfl
  have k7 : (t.kind == 7) = false := by rw [hk]; rfl
  have k8 : (t.kind == 8) = false := by rw [hk]; rfl
  have k9 : (t.kind == 9) = true := by rw [hk]; rfl
  have k10 : (t.kind == 10) = false := by rw [hk]; rfl
  clear ho hF hN hm hW0 hr hBu HOB HTB HE hk; go_enter Tryz.func32, Tryz.ntmps32; go_wp2_with fail; rw [← HWE.out]; refine HC.out.mono ?_; rintro e w1 ⟨rfl, hb1⟩; simp only; have HB1 := hid (HB0.out.trans (hb1.mono HB0.out.size)); clear hb1; go_wp2; go_ret; exact ⟨rfl, HB1.out⟩
set_option maxHeartbeats 1000000 in
set_option maxRecDepth 100000 in
theorem jkg (o : Opn) (fa : Option Addr) (fc : Nat) (t : Tst) (an ak at' : Option Addr) (cn ck ct : Nat) (m : Nat) (w : World) (hk : t.kind = 10) :
    Calls Tryz.prog 32 #[.agg #[.string (S o.fl), .string (S o.fd), .string (S o.tl), .string (S o.td), .string (S o.tx), .slice fa o.fs.length fc, .string (S o.body)], .agg #[.int .i64 t.kind, .int .i64 t.mat, .int .i64 t.part, .slice an t.names.length cn, .slice ak t.keys.length ck, .bool t.over, .int .i64 t.limit, .slice at' t.tests.length ct]] w fun e w' => e = .returned (.bool (ju o (m + 1) t)) ∧ Below w.heap.size w w' := by
  obtain ⟨W0, hW0⟩ : ∃ W0, W0 = ((w.alloc (.cells #[.string (S o.fl), .string (S o.fd), .string (S o.tl), .string (S o.td), .string (S o.tx), .slice fa o.fs.length fc, .string (S o.body)] 82)).alloc (.cells #[.int .i64 t.kind, .int .i64 t.mat, .int .i64 t.part, .slice an t.names.length cn, .slice ak t.keys.length ck, .bool t.over, .int .i64 t.limit, .slice at' t.tests.length ct] 54)) := ⟨_, rfl⟩; have HWE := hid hW0; have HB0 := hid (show Below w.heap.size w W0 by rw [hW0]; exact ((Below.refl _ _).alloc (Nat.le_refl _) _).alloc (by simp) _); have HOB := hid (show W0.heap[w.heap.size]? = some (.cells #[.string (S o.fl), .string (S o.fd), .string (S o.tl), .string (S o.td), .string (S o.tx), .slice fa o.fs.length fc, .string (S o.body)] 82) by rw [hW0]; exact qf _ (jV _ rfl)); have HTB := hid (show W0.heap[w.heap.size + 1]? = some (.cells #[.int .i64 t.kind, .int .i64 t.mat, .int .i64 t.part, .slice an t.names.length cn, .slice ak t.keys.length ck, .bool t.over, .int .i64 t.limit, .slice at' t.tests.length ct] 54) by rw [hW0]; exact jV _ (by simp)); have HE := hid (show ju o (m + 1) t = jeA o.tx.length t by unfold ju; simp [hk]); obtain ⟨r, hr⟩ : ∃ r, r = jeA o.tx.length t := ⟨_, rfl⟩; rw [HE.out, ← hr]; have HC := hid (jej o fa fc t an ak at' cn ck ct W0); rw [show jeA o.tx.length t = r from hr.symm] at HC; have k1 : (t.kind == 1) = false := by rw [hk]; rfl
  have k3 : (t.kind == 3) = false := by rw [hk]; rfl
  have k4 : (t.kind == 4) = false := by rw [hk]; rfl
  have k5 : (t.kind == 5) = false := by rw [hk]; rfl
  have k6 : (t.kind == 6) = false := by rw [hk]; rfl
  have k7 : (t.kind == 7) = false := by rw [hk]; rfl
  have k8 : (t.kind == 8) = false := by rw [hk]; rfl
  have k9 : (t.kind == 9) = false := by rw [hk]; rfl
  have k10 : (t.kind == 10) = true := by rw [hk]; rfl
  clear hW0 hr HOB HTB HE hk; go_enter Tryz.func32, Tryz.ntmps32; go_wp2_with fail; rw [← HWE.out]; refine HC.out.mono ?_; rintro e w1 ⟨rfl, hb1⟩; simp only; have HB1 := hid (HB0.out.trans (hb1.mono HB0.out.size)); clear hb1; go_wp2; go_ret; exact ⟨rfl, HB1.out⟩
end Go.Proofs.YtaapmpchcfcniaaGreatDoor
namespace Go.Proofs.YtaapmpchcfcniaaGreatDoor
open Go.RowKit Go.Proofs
theorem jjZ {A B : Type} {l : List A} {R : Nat → A → B → Prop} (h : ∀ (i : Nat) x, l[i]? = some x → ∃ y, R i x y) : ∃ ys : List B, ys.length = l.length ∧ ∀ (i : Nat) x y, l[i]? = some x → ys[i]? = some y → R i x y := by
  induction l generalizing R with
  | nil => exact ⟨[], rfl, by simp⟩
  | cons a l ih =>
    obtain ⟨y, hy⟩ := h 0 a rfl; obtain ⟨ys, hl, hr⟩ := ih (R := fun i x y => R (i + 1) x y) (fun i x hx => h (i + 1) x (by simpa using hx)); refine ⟨y :: ys, by simp [hl], fun i x z hx hz => ?_⟩; cases i with
    | zero => simp at hx hz; subst hx; subst hz; exact hy
    | succ i => exact hr i x z (by simpa using hx) (by simpa using hz)
abbrev AV := Option Addr × Nat × Option Addr × Nat × Option Addr × Nat
def jmP (y : Tst × AV) : List Value := [.int .i64 y.1.kind, .int .i64 y.1.mat, .int .i64 y.1.part, .slice y.2.1 y.1.names.length y.2.2.1, .slice y.2.2.2.1 y.1.keys.length y.2.2.2.2.1, .bool y.1.over, .int .i64 y.1.limit, .slice y.2.2.2.2.2.1 y.1.tests.length y.2.2.2.2.2.2]
theorem jfn {n : Nat} {w : World} {a : Option Addr} {c : Nat} {l : List Tst} (h : TstsM anyB n w (.slice a l.length c) l) : ∃ L : List (Tst × AV), L.map Prod.fst = l ∧ ∀ (i : Nat) y, L[i]? = some y → TstM anyB n w y.1 (jmP y) ∧ ∃ b o, a = some ⟨b, o, none⟩ ∧ b < w.heap.size ∧
      w.cell? ⟨b, o + i * 8, none⟩ = some (.int .i64 y.1.kind) ∧ w.cell? ⟨b, o + i * 8 + 1, none⟩ = some (.int .i64 y.1.mat) ∧ w.cell? ⟨b, o + i * 8 + 2, none⟩ = some (.int .i64 y.1.part) ∧
      w.cell? ⟨b, o + i * 8 + 3, none⟩ = some (.slice y.2.1 y.1.names.length y.2.2.1) ∧ w.cell? ⟨b, o + i * 8 + 4, none⟩ = some (.slice y.2.2.2.1 y.1.keys.length y.2.2.2.2.1) ∧ w.cell? ⟨b, o + i * 8 + 5, none⟩ = some (.bool y.1.over) ∧
      w.cell? ⟨b, o + i * 8 + 6, none⟩ = some (.int .i64 y.1.limit) ∧ w.cell? ⟨b, o + i * 8 + 7, none⟩ = some (.slice y.2.2.2.2.2.1 y.1.tests.length y.2.2.2.2.2.2) := by
  obtain ⟨ys, hl, hr⟩ := jjZ (B := AV) (R := fun i x v => TstM anyB n w x (jmP (x, v)) ∧ ∃ b o, a = some ⟨b, o, none⟩ ∧ b < w.heap.size ∧
      w.cell? ⟨b, o + i * 8, none⟩ = some (.int .i64 x.kind) ∧ w.cell? ⟨b, o + i * 8 + 1, none⟩ = some (.int .i64 x.mat) ∧ w.cell? ⟨b, o + i * 8 + 2, none⟩ = some (.int .i64 x.part) ∧
      w.cell? ⟨b, o + i * 8 + 3, none⟩ = some (.slice v.1 x.names.length v.2.1) ∧ w.cell? ⟨b, o + i * 8 + 4, none⟩ = some (.slice v.2.2.1 x.keys.length v.2.2.2.1) ∧ w.cell? ⟨b, o + i * 8 + 5, none⟩ = some (.bool x.over) ∧
      w.cell? ⟨b, o + i * 8 + 6, none⟩ = some (.int .i64 x.limit) ∧ w.cell? ⟨b, o + i * 8 + 7, none⟩ = some (.slice v.2.2.2.2.1 x.tests.length v.2.2.2.2.2)) (l := l) (fun i x hx => by
    obtain ⟨b, o, an, cn, ak, ck, at', ct, h1, h2, c0, c1, c2, c3, c4, c5, c6, c7, hT⟩ := jbY h hx; exact ⟨(an, cn, ak, ck, at', ct), hT, b, o, h1, h2, c0, c1, c2, c3, c4, c5, c6, c7⟩)
  refine ⟨l.zip ys, by rw [List.map_fst_zip (by omega)], fun i y hy => ?_⟩; obtain ⟨h1, h2⟩ := List.getElem?_zip_eq_some.1 hy; exact hr i y.1 y.2 h1 h2
theorem jhM {B : Type} {L : List (Tst × B)} {l : List Tst} (h : L.map Prod.fst = l) (p : Tst → Bool) : L.any (fun y => p y.1) = l.any p := by
  subst h; rw [List.any_map]; rfl
set_option maxHeartbeats 1000000 in
set_option maxRecDepth 100000 in
theorem jgx (o : Opn) (fa : Option Addr) (fc : Nat) (t : Tst) (an ak at' : Option Addr) (cn ck ct : Nat) (b : Bool) (p : Nat) (w : World) (hp : w.heap[p]? = some (.cells #[.string (S o.fl), .string (S o.fd), .string (S o.tl), .string (S o.td), .string (S o.tx), .slice fa o.fs.length fc, .string (S o.body)] 82)) (hT : ∀ u, Below w.heap.size w u → Calls Tryz.prog 32 #[.agg #[.string (S o.fl), .string (S o.fd), .string (S o.tl), .string (S o.td), .string (S o.tx), .slice fa o.fs.length fc, .string (S o.body)], .agg #[.int .i64 t.kind, .int .i64 t.mat, .int .i64 t.part, .slice an t.names.length cn, .slice ak t.keys.length ck, .bool t.over, .int .i64 t.limit, .slice at' t.tests.length ct]] u fun e u' => e = .returned (.bool b) ∧ Below u.heap.size u u') :
    Calls Tryz.prog 51 #[.agg #[.int .i64 t.kind, .int .i64 t.mat, .int .i64 t.part, .slice an t.names.length cn, .slice ak t.keys.length ck, .bool t.over, .int .i64 t.limit, .slice at' t.tests.length ct], .pointer (some ⟨p, 0, none⟩)] w fun e w' => e = .returned (.bool (!b)) ∧ Below w.heap.size w w' := by
  obtain ⟨W0, hW0⟩ : ∃ W0, W0 = w.alloc (.cells #[.int .i64 t.kind, .int .i64 t.mat, .int .i64 t.part, .slice an t.names.length cn, .slice ak t.keys.length ck, .bool t.over, .int .i64 t.limit, .slice at' t.tests.length ct] 54) := ⟨_, rfl⟩; have HWE := hid hW0; have HB0 := hid (show Below w.heap.size w W0 by rw [hW0]; exact (Below.refl _ _).alloc (Nat.le_refl _) _); have HC := hid (hT W0 HB0.out); have hP := jx HB0.out hp; rw [hW0] at hP; have z0 := je (j := 0) hP rfl; have z1 := je (j := 1) hP rfl; have z2 := je (j := 2) hP rfl; have z3 := je (j := 3) hP rfl; have z4 := je (j := 4) hP rfl; have z5 := je (j := 5) hP rfl; have z6 := je (j := 6) hP rfl; clear hp hT hP hW0; go_enter Tryz.func51, Tryz.ntmps51; go_wp2_with fail; rw [← HWE.out]; refine HC.out.mono ?_; rintro e w1 ⟨rfl, hb1⟩; simp only; have HB1 := hid (HB0.out.trans (hb1.mono HB0.out.size)); clear hb1; go_wp2; go_ret; exact ⟨rfl, HB1.out⟩
theorem jjd : ∀ args w, (callFunc 51 args).run Tryz.prog w = .ok (.enter 51 args) w := by intro args w; kernel_rfl
set_option maxHeartbeats 1000000 in
set_option maxRecDepth 100000 in
theorem jgy (o : Opn) (fa : Option Addr) (fc : Nat) (t : Tst) (an ak at' : Option Addr) (cn ck ct : Nat) (b : Bool) (p : Nat) (w : World) (hp : w.heap[p]? = some (.cells #[.string (S o.fl), .string (S o.fd), .string (S o.tl), .string (S o.td), .string (S o.tx), .slice fa o.fs.length fc, .string (S o.body)] 82)) (hT : ∀ u, Below w.heap.size w u → Calls Tryz.prog 32 #[.agg #[.string (S o.fl), .string (S o.fd), .string (S o.tl), .string (S o.td), .string (S o.tx), .slice fa o.fs.length fc, .string (S o.body)], .agg #[.int .i64 t.kind, .int .i64 t.mat, .int .i64 t.part, .slice an t.names.length cn, .slice ak t.keys.length ck, .bool t.over, .int .i64 t.limit, .slice at' t.tests.length ct]] u fun e u' => e = .returned (.bool b) ∧ Below u.heap.size u u') :
    Calls Tryz.prog 52 #[.agg #[.int .i64 t.kind, .int .i64 t.mat, .int .i64 t.part, .slice an t.names.length cn, .slice ak t.keys.length ck, .bool t.over, .int .i64 t.limit, .slice at' t.tests.length ct], .pointer (some ⟨p, 0, none⟩)] w fun e w' => e = .returned (.bool (b)) ∧ Below w.heap.size w w' := by
  obtain ⟨W0, hW0⟩ : ∃ W0, W0 = w.alloc (.cells #[.int .i64 t.kind, .int .i64 t.mat, .int .i64 t.part, .slice an t.names.length cn, .slice ak t.keys.length ck, .bool t.over, .int .i64 t.limit, .slice at' t.tests.length ct] 54) := ⟨_, rfl⟩; have HWE := hid hW0; have HB0 := hid (show Below w.heap.size w W0 by rw [hW0]; exact (Below.refl _ _).alloc (Nat.le_refl _) _); have HC := hid (hT W0 HB0.out); have hP := jx HB0.out hp; rw [hW0] at hP; have z0 := je (j := 0) hP rfl; have z1 := je (j := 1) hP rfl; have z2 := je (j := 2) hP rfl; have z3 := je (j := 3) hP rfl; have z4 := je (j := 4) hP rfl; have z5 := je (j := 5) hP rfl; have z6 := je (j := 6) hP rfl; clear hp hT hP hW0; go_enter Tryz.func52, Tryz.ntmps52; go_wp2_with fail; rw [← HWE.out]; refine HC.out.mono ?_; rintro e w1 ⟨rfl, hb1⟩; simp only; have HB1 := hid (HB0.out.trans (hb1.mono HB0.out.size)); clear hb1; go_wp2; go_ret; exact ⟨rfl, HB1.out⟩
theorem jje : ∀ args w, (callFunc 52 args).run Tryz.prog w = .ok (.enter 52 args) w := by intro args w; kernel_rfl
set_option maxHeartbeats 1000000 in
set_option maxRecDepth 100000 in
theorem jlT (o : Opn) (fa : Option Addr) (fc : Nat) (t : Tst) (an ak at' : Option Addr) (cn ck ct : Nat) (m : Nat) (w : World) (hk : t.kind = 4) (hS : TstsM anyB m w (.slice at' t.tests.length ct) t.tests) (hI : ∀ (x : Tst), x ∈ t.tests → ∀ (an ak at' : Option Addr) (cn ck ct : Nat) (u : World), Below w.heap.size w u → TstM anyB m u x [.int .i64 x.kind, .int .i64 x.mat, .int .i64 x.part, .slice an x.names.length cn, .slice ak x.keys.length ck, .bool x.over, .int .i64 x.limit, .slice at' x.tests.length ct] → Calls Tryz.prog 32 #[.agg #[.string (S o.fl), .string (S o.fd), .string (S o.tl), .string (S o.td), .string (S o.tx), .slice fa o.fs.length fc, .string (S o.body)], .agg #[.int .i64 x.kind, .int .i64 x.mat, .int .i64 x.part, .slice an x.names.length cn, .slice ak x.keys.length ck, .bool x.over, .int .i64 x.limit, .slice at' x.tests.length ct]] u fun e u' => e = .returned (.bool (ju o m x)) ∧ Below u.heap.size u u') :
    Calls Tryz.prog 32 #[.agg #[.string (S o.fl), .string (S o.fd), .string (S o.tl), .string (S o.td), .string (S o.tx), .slice fa o.fs.length fc, .string (S o.body)], .agg #[.int .i64 t.kind, .int .i64 t.mat, .int .i64 t.part, .slice an t.names.length cn, .slice ak t.keys.length ck, .bool t.over, .int .i64 t.limit, .slice at' t.tests.length ct]] w fun e w' => e = .returned (.bool (ju o (m + 1) t)) ∧ Below w.heap.size w w' := by
  obtain ⟨W0, hW0⟩ : ∃ W0, W0 = ((w.alloc (.cells #[.string (S o.fl), .string (S o.fd), .string (S o.tl), .string (S o.td), .string (S o.tx), .slice fa o.fs.length fc, .string (S o.body)] 82)).alloc (.cells #[.int .i64 t.kind, .int .i64 t.mat, .int .i64 t.part, .slice an t.names.length cn, .slice ak t.keys.length ck, .bool t.over, .int .i64 t.limit, .slice at' t.tests.length ct] 54)) := ⟨_, rfl⟩; have HWE := hid hW0; have HB0 := hid (show Below w.heap.size w W0 by rw [hW0]; exact ((Below.refl _ _).alloc (Nat.le_refl _) _).alloc (by simp) _); have HOB := hid (show W0.heap[w.heap.size]? = some (.cells #[.string (S o.fl), .string (S o.fd), .string (S o.tl), .string (S o.td), .string (S o.tx), .slice fa o.fs.length fc, .string (S o.body)] 82) by rw [hW0]; exact qf _ (jV _ rfl)); have HTB := hid (show W0.heap[w.heap.size + 1]? = some (.cells #[.int .i64 t.kind, .int .i64 t.mat, .int .i64 t.part, .slice an t.names.length cn, .slice ak t.keys.length ck, .bool t.over, .int .i64 t.limit, .slice at' t.tests.length ct] 54) by rw [hW0]; exact jV _ (by simp)); have HE := hid (show ju o (m + 1) t = !(t.tests.any fun x => !ju o m x) by rw [ju]; simp [hk]); have hBu : ∀ u, Below W0.heap.size W0 u → Below w.heap.size w u := fun u hu => HB0.out.trans (hu.mono HB0.out.size)
  obtain ⟨L, hL, hR⟩ := jfn hS; have hlen : t.tests.length = L.length := by rw [← hL, List.length_map]
  have hmem : ∀ (i : Nat) y, L[i]? = some y → y.1 ∈ t.tests := fun i y hy => by rw [← hL]; exact List.mem_map_of_mem (List.mem_of_getElem? hy)
  have hC := conT L (fun y => !ju o m y.1) (fun y => .int .i64 y.1.kind) (fun y => .int .i64 y.1.mat) (fun y => .int .i64 y.1.part) (fun y => .slice y.2.1 y.1.names.length y.2.2.1) (fun y => .slice y.2.2.2.1 y.1.keys.length y.2.2.2.2.1) (fun y => .bool y.1.over) (fun y => .int .i64 y.1.limit) (fun y => .slice y.2.2.2.2.2.1 y.1.tests.length y.2.2.2.2.2.2) at' ct 51 #[.pointer (some ⟨w.heap.size, 0, none⟩)] jjd W0 (by rw [← hlen]; exact hS.small)
    (fun i y hy u hu => by
      obtain ⟨_, b, q, ha, _, c0, c1, c2, c3, c4, c5, c6, c7⟩ := hR i y hy; have hb := hBu u hu; exact ⟨b, q, ha, jb c0 hb, jb c1 hb, jb c2 hb, jb c3 hb, jb c4 hb, jb c5 hb, jb c6 hb, jb c7 hb⟩)
    (fun i y hy u hu => jgx o fa fc y.1 y.2.1 y.2.2.2.1 y.2.2.2.2.2.1 y.2.2.1 y.2.2.2.2.1 y.2.2.2.2.2.2 (ju o m y.1) _ u (jx hu HOB.out) (fun u' hu' => hI y.1 (hmem i y hy) _ _ _ _ _ _ u' ((hBu u hu).trans (hu'.mono (hBu u hu).size)) (TstM.next (hR i y hy).1 ((hBu u hu).trans (hu'.mono (hBu u hu).size)))))
  rw [jhM hL (fun x => !ju o m x), ← hlen] at hC; have HC := hid hC; obtain ⟨r, hr⟩ : ∃ r, r = t.tests.any (fun x => !ju o m x) := ⟨_, rfl⟩; rw [← hr] at HC HE; rw [HE.out]; have k1 : (t.kind == 1) = false := by rw [hk]; rfl
  have k3 : (t.kind == 3) = false := by rw [hk]; rfl
  have k4 : (t.kind == 4) = true := by rw [hk]; rfl
  have k5 : (t.kind == 5) = false := by rw [hk]; rfl
  have k6 : (t.kind == 6) = false := by rw [hk]; rfl
  have k7 : (t.kind == 7) = false := by rw [hk]; rfl
  have k8 : (t.kind == 8) = false := by rw [hk]; rfl
  have k9 : (t.kind == 9) = false := by rw [hk]; rfl
  have k10 : (t.kind == 10) = false := by rw [hk]; rfl
  clear hW0 hr hBu HOB HTB HE hk hS hI hL hR hlen hmem hC; go_enter Tryz.func32, Tryz.ntmps32; go_wp2_with fail; rw [← HWE.out]; refine HC.out.mono ?_; rintro e w1 ⟨rfl, hb1⟩; simp only; have HB1 := hid (HB0.out.trans (hb1.mono HB0.out.size)); clear hb1; go_wp2; go_ret; exact ⟨rfl, HB1.out⟩
set_option maxHeartbeats 1000000 in
set_option maxRecDepth 100000 in
theorem jlU (o : Opn) (fa : Option Addr) (fc : Nat) (t : Tst) (an ak at' : Option Addr) (cn ck ct : Nat) (m : Nat) (w : World) (hk : t.kind = 5) (hS : TstsM anyB m w (.slice at' t.tests.length ct) t.tests) (hI : ∀ (x : Tst), x ∈ t.tests → ∀ (an ak at' : Option Addr) (cn ck ct : Nat) (u : World), Below w.heap.size w u → TstM anyB m u x [.int .i64 x.kind, .int .i64 x.mat, .int .i64 x.part, .slice an x.names.length cn, .slice ak x.keys.length ck, .bool x.over, .int .i64 x.limit, .slice at' x.tests.length ct] → Calls Tryz.prog 32 #[.agg #[.string (S o.fl), .string (S o.fd), .string (S o.tl), .string (S o.td), .string (S o.tx), .slice fa o.fs.length fc, .string (S o.body)], .agg #[.int .i64 x.kind, .int .i64 x.mat, .int .i64 x.part, .slice an x.names.length cn, .slice ak x.keys.length ck, .bool x.over, .int .i64 x.limit, .slice at' x.tests.length ct]] u fun e u' => e = .returned (.bool (ju o m x)) ∧ Below u.heap.size u u') :
    Calls Tryz.prog 32 #[.agg #[.string (S o.fl), .string (S o.fd), .string (S o.tl), .string (S o.td), .string (S o.tx), .slice fa o.fs.length fc, .string (S o.body)], .agg #[.int .i64 t.kind, .int .i64 t.mat, .int .i64 t.part, .slice an t.names.length cn, .slice ak t.keys.length ck, .bool t.over, .int .i64 t.limit, .slice at' t.tests.length ct]] w fun e w' => e = .returned (.bool (ju o (m + 1) t)) ∧ Below w.heap.size w w' := by
  obtain ⟨W0, hW0⟩ : ∃ W0, W0 = ((w.alloc (.cells #[.string (S o.fl), .string (S o.fd), .string (S o.tl), .string (S o.td), .string (S o.tx), .slice fa o.fs.length fc, .string (S o.body)] 82)).alloc (.cells #[.int .i64 t.kind, .int .i64 t.mat, .int .i64 t.part, .slice an t.names.length cn, .slice ak t.keys.length ck, .bool t.over, .int .i64 t.limit, .slice at' t.tests.length ct] 54)) := ⟨_, rfl⟩; have HWE := hid hW0; have HB0 := hid (show Below w.heap.size w W0 by rw [hW0]; exact ((Below.refl _ _).alloc (Nat.le_refl _) _).alloc (by simp) _); have HOB := hid (show W0.heap[w.heap.size]? = some (.cells #[.string (S o.fl), .string (S o.fd), .string (S o.tl), .string (S o.td), .string (S o.tx), .slice fa o.fs.length fc, .string (S o.body)] 82) by rw [hW0]; exact qf _ (jV _ rfl)); have HTB := hid (show W0.heap[w.heap.size + 1]? = some (.cells #[.int .i64 t.kind, .int .i64 t.mat, .int .i64 t.part, .slice an t.names.length cn, .slice ak t.keys.length ck, .bool t.over, .int .i64 t.limit, .slice at' t.tests.length ct] 54) by rw [hW0]; exact jV _ (by simp)); have HE := hid (show ju o (m + 1) t = t.tests.any fun x => ju o m x by rw [ju]; simp [hk]); have hBu : ∀ u, Below W0.heap.size W0 u → Below w.heap.size w u := fun u hu => HB0.out.trans (hu.mono HB0.out.size)
  obtain ⟨L, hL, hR⟩ := jfn hS; have hlen : t.tests.length = L.length := by rw [← hL, List.length_map]
  have hmem : ∀ (i : Nat) y, L[i]? = some y → y.1 ∈ t.tests := fun i y hy => by rw [← hL]; exact List.mem_map_of_mem (List.mem_of_getElem? hy)
  have hC := conT L (fun y => ju o m y.1) (fun y => .int .i64 y.1.kind) (fun y => .int .i64 y.1.mat) (fun y => .int .i64 y.1.part) (fun y => .slice y.2.1 y.1.names.length y.2.2.1) (fun y => .slice y.2.2.2.1 y.1.keys.length y.2.2.2.2.1) (fun y => .bool y.1.over) (fun y => .int .i64 y.1.limit) (fun y => .slice y.2.2.2.2.2.1 y.1.tests.length y.2.2.2.2.2.2) at' ct 52 #[.pointer (some ⟨w.heap.size, 0, none⟩)] jje W0 (by rw [← hlen]; exact hS.small)
    (fun i y hy u hu => by
      obtain ⟨_, b, q, ha, _, c0, c1, c2, c3, c4, c5, c6, c7⟩ := hR i y hy; have hb := hBu u hu; exact ⟨b, q, ha, jb c0 hb, jb c1 hb, jb c2 hb, jb c3 hb, jb c4 hb, jb c5 hb, jb c6 hb, jb c7 hb⟩)
    (fun i y hy u hu => jgy o fa fc y.1 y.2.1 y.2.2.2.1 y.2.2.2.2.2.1 y.2.2.1 y.2.2.2.2.1 y.2.2.2.2.2.2 (ju o m y.1) _ u (jx hu HOB.out) (fun u' hu' => hI y.1 (hmem i y hy) _ _ _ _ _ _ u' ((hBu u hu).trans (hu'.mono (hBu u hu).size)) (TstM.next (hR i y hy).1 ((hBu u hu).trans (hu'.mono (hBu u hu).size)))))
  rw [jhM hL (fun x => ju o m x), ← hlen] at hC; have HC := hid hC; obtain ⟨r, hr⟩ : ∃ r, r = t.tests.any (fun x => ju o m x) := ⟨_, rfl⟩; rw [← hr] at HC HE; rw [HE.out]; have k1 : (t.kind == 1) = false := by rw [hk]; rfl
  have k3 : (t.kind == 3) = false := by rw [hk]; rfl
  have k4 : (t.kind == 4) = false := by rw [hk]; rfl
  have k5 : (t.kind == 5) = true := by rw [hk]; rfl
  have k6 : (t.kind == 6) = false := by rw [hk]; rfl
  have k7 : (t.kind == 7) = false := by rw [hk]; rfl
  have k8 : (t.kind == 8) = false := by rw [hk]; rfl
  have k9 : (t.kind == 9) = false := by rw [hk]; rfl
  have k10 : (t.kind == 10) = false := by rw [hk]; rfl
  clear hW0 hr hBu HOB HTB HE hk hS hI hL hR hlen hmem hC; go_enter Tryz.func32, Tryz.ntmps32; go_wp2_with fail; rw [← HWE.out]; refine HC.out.mono ?_; rintro e w1 ⟨rfl, hb1⟩; simp only; have HB1 := hid (HB0.out.trans (hb1.mono HB0.out.size)); clear hb1; go_wp2; go_ret; exact ⟨rfl, HB1.out⟩
set_option maxHeartbeats 1000000 in
set_option maxRecDepth 100000 in
theorem jlQ (o : Opn) (fa : Option Addr) (fc : Nat) (t : Tst) (an ak at' : Option Addr) (cn ck ct : Nat) (m : Nat) (w : World) (hk : t.kind = 1) :
    Calls Tryz.prog 32 #[.agg #[.string (S o.fl), .string (S o.fd), .string (S o.tl), .string (S o.td), .string (S o.tx), .slice fa o.fs.length fc, .string (S o.body)], .agg #[.int .i64 t.kind, .int .i64 t.mat, .int .i64 t.part, .slice an t.names.length cn, .slice ak t.keys.length ck, .bool t.over, .int .i64 t.limit, .slice at' t.tests.length ct]] w fun e w' => e = .returned (.bool (ju o (m + 1) t)) ∧ Below w.heap.size w w' := by
  have HE := hid (show ju o (m + 1) t = true by rw [ju]; simp [hk]); have HB0 := hid (show Below w.heap.size w ((w.alloc (.cells #[.string (S o.fl), .string (S o.fd), .string (S o.tl), .string (S o.td), .string (S o.tx), .slice fa o.fs.length fc, .string (S o.body)] 82)).alloc (.cells #[.int .i64 t.kind, .int .i64 t.mat, .int .i64 t.part, .slice an t.names.length cn, .slice ak t.keys.length ck, .bool t.over, .int .i64 t.limit, .slice at' t.tests.length ct] 54)) from ((Below.refl _ _).alloc (Nat.le_refl _) _).alloc (by simp) _); rw [HE.out]; have k1 : (t.kind == 1) = true := by rw [hk]; rfl
  have k3 : (t.kind == 3) = false := by rw [hk]; rfl
  have k4 : (t.kind == 4) = false := by rw [hk]; rfl
  have k5 : (t.kind == 5) = false := by rw [hk]; rfl
  have k6 : (t.kind == 6) = false := by rw [hk]; rfl
  have k7 : (t.kind == 7) = false := by rw [hk]; rfl
  have k8 : (t.kind == 8) = false := by rw [hk]; rfl
  have k9 : (t.kind == 9) = false := by rw [hk]; rfl
  have k10 : (t.kind == 10) = false := by rw [hk]; rfl
  clear HE hk; go_enter Tryz.func32, Tryz.ntmps32; go_wp2; go_ret; exact ⟨rfl, HB0.out⟩
set_option maxHeartbeats 1000000 in
set_option maxRecDepth 100000 in
theorem jlR (o : Opn) (fa : Option Addr) (fc : Nat) (t : Tst) (an ak at' : Option Addr) (cn ck ct : Nat) (m : Nat) (w : World) (h1 : t.kind ≠ 1) (h3 : t.kind ≠ 3) (h4 : t.kind ≠ 4) (h5 : t.kind ≠ 5) (h6 : t.kind ≠ 6) (h7 : t.kind ≠ 7) (h8 : t.kind ≠ 8) (h9 : t.kind ≠ 9) (h10 : t.kind ≠ 10) :
    Calls Tryz.prog 32 #[.agg #[.string (S o.fl), .string (S o.fd), .string (S o.tl), .string (S o.td), .string (S o.tx), .slice fa o.fs.length fc, .string (S o.body)], .agg #[.int .i64 t.kind, .int .i64 t.mat, .int .i64 t.part, .slice an t.names.length cn, .slice ak t.keys.length ck, .bool t.over, .int .i64 t.limit, .slice at' t.tests.length ct]] w fun e w' => e = .returned (.bool (ju o (m + 1) t)) ∧ Below w.heap.size w w' := by
  have HE := hid (show ju o (m + 1) t = false by rw [ju]; simp [h1, h3, h4, h5, h6, h7, h8, h9, h10]); have HB0 := hid (show Below w.heap.size w ((w.alloc (.cells #[.string (S o.fl), .string (S o.fd), .string (S o.tl), .string (S o.td), .string (S o.tx), .slice fa o.fs.length fc, .string (S o.body)] 82)).alloc (.cells #[.int .i64 t.kind, .int .i64 t.mat, .int .i64 t.part, .slice an t.names.length cn, .slice ak t.keys.length ck, .bool t.over, .int .i64 t.limit, .slice at' t.tests.length ct] 54)) from ((Below.refl _ _).alloc (Nat.le_refl _) _).alloc (by simp) _); rw [HE.out]; have k1 : (t.kind == 1) = false := by simpa using h1
  have k3 : (t.kind == 3) = false := by simpa using h3
  have k4 : (t.kind == 4) = false := by simpa using h4
  have k5 : (t.kind == 5) = false := by simpa using h5
  have k6 : (t.kind == 6) = false := by simpa using h6
  have k7 : (t.kind == 7) = false := by simpa using h7
  have k8 : (t.kind == 8) = false := by simpa using h8
  have k9 : (t.kind == 9) = false := by simpa using h9
  have k10 : (t.kind == 10) = false := by simpa using h10
  clear HE h1 h3 h4 h5 h6 h7 h8 h9 h10; go_enter Tryz.func32, Tryz.ntmps32; go_wp2; go_ret; exact ⟨rfl, HB0.out⟩
set_option maxHeartbeats 1000000 in
set_option maxRecDepth 100000 in
theorem jlS (o : Opn) (fa : Option Addr) (fc : Nat) (t : Tst) (an ak at' : Option Addr) (cn ck ct : Nat) (m : Nat) (x : Tst) (r : List Tst) (hx : t.tests = x :: r) (w : World) (hk : t.kind = 3) (hS : TstsM anyB m w (.slice at' t.tests.length ct) t.tests) (hI : ∀ (x : Tst), x ∈ t.tests → ∀ (an ak at' : Option Addr) (cn ck ct : Nat) (u : World), Below w.heap.size w u → TstM anyB m u x [.int .i64 x.kind, .int .i64 x.mat, .int .i64 x.part, .slice an x.names.length cn, .slice ak x.keys.length ck, .bool x.over, .int .i64 x.limit, .slice at' x.tests.length ct] → Calls Tryz.prog 32 #[.agg #[.string (S o.fl), .string (S o.fd), .string (S o.tl), .string (S o.td), .string (S o.tx), .slice fa o.fs.length fc, .string (S o.body)], .agg #[.int .i64 x.kind, .int .i64 x.mat, .int .i64 x.part, .slice an x.names.length cn, .slice ak x.keys.length ck, .bool x.over, .int .i64 x.limit, .slice at' x.tests.length ct]] u fun e u' => e = .returned (.bool (ju o m x)) ∧ Below u.heap.size u u') :
    Calls Tryz.prog 32 #[.agg #[.string (S o.fl), .string (S o.fd), .string (S o.tl), .string (S o.td), .string (S o.tx), .slice fa o.fs.length fc, .string (S o.body)], .agg #[.int .i64 t.kind, .int .i64 t.mat, .int .i64 t.part, .slice an t.names.length cn, .slice ak t.keys.length ck, .bool t.over, .int .i64 t.limit, .slice at' t.tests.length ct]] w fun e w' => e = .returned (.bool (ju o (m + 1) t)) ∧ Below w.heap.size w w' := by
  obtain ⟨W0, hW0⟩ : ∃ W0, W0 = ((w.alloc (.cells #[.string (S o.fl), .string (S o.fd), .string (S o.tl), .string (S o.td), .string (S o.tx), .slice fa o.fs.length fc, .string (S o.body)] 82)).alloc (.cells #[.int .i64 t.kind, .int .i64 t.mat, .int .i64 t.part, .slice an t.names.length cn, .slice ak t.keys.length ck, .bool t.over, .int .i64 t.limit, .slice at' t.tests.length ct] 54)) := ⟨_, rfl⟩; have HWE := hid hW0; have HB0 := hid (show Below w.heap.size w W0 by rw [hW0]; exact ((Below.refl _ _).alloc (Nat.le_refl _) _).alloc (by simp) _); have HOB := hid (show W0.heap[w.heap.size]? = some (.cells #[.string (S o.fl), .string (S o.fd), .string (S o.tl), .string (S o.td), .string (S o.tx), .slice fa o.fs.length fc, .string (S o.body)] 82) by rw [hW0]; exact qf _ (jV _ rfl)); have HTB := hid (show W0.heap[w.heap.size + 1]? = some (.cells #[.int .i64 t.kind, .int .i64 t.mat, .int .i64 t.part, .slice an t.names.length cn, .slice ak t.keys.length ck, .bool t.over, .int .i64 t.limit, .slice at' t.tests.length ct] 54) by rw [hW0]; exact jV _ (by simp)); have HE := hid (show ju o (m + 1) t = !ju o m x by rw [ju]; simp [hk, hx]); obtain ⟨b, q, an', cn', ak', ck', at2, ct', ha, hb, c0, c1, c2, c3, c4, c5, c6, c7, hT⟩ := jbY hS (i := 0) (x := x) (by rw [hx]; rfl); simp only [Nat.zero_mul, Nat.add_zero] at c0 c1 c2 c3 c4 c5 c6 c7; have HC := hid (fun (u : World) (hu : Below w.heap.size w u) => hI x (by rw [hx]; simp) an' ak' at2 cn' ck' ct' u hu (TstM.next hT hu)); have i1 : 0 < t.tests.length := by rw [hx]; simp
  obtain ⟨v, hv⟩ : ∃ v, v = ju o m x := ⟨_, rfl⟩; rw [← hv] at HC HE; rw [HE.out]; have d0 := jb c0 HB0.out; have d1 := jb c1 HB0.out; have d2 := jb c2 HB0.out; have d3 := jb c3 HB0.out; have d4 := jb c4 HB0.out; have d5 := jb c5 HB0.out; have d6 := jb c6 HB0.out; have d7 := jb c7 HB0.out; subst ha; have hOB := HOB.out; have hTB := HTB.out; have z0 := je (j := 0) hOB rfl; have z1 := je (j := 1) hOB rfl; have z2 := je (j := 2) hOB rfl; have z3 := je (j := 3) hOB rfl; have z4 := je (j := 4) hOB rfl; have z5 := je (j := 5) hOB rfl; have z6 := je (j := 6) hOB rfl; have y7 := je (j := 7) hTB rfl; have k1 : (t.kind == 1) = false := by rw [hk]; rfl
  have k3 : (t.kind == 3) = true := by rw [hk]; rfl
  have k4 : (t.kind == 4) = false := by rw [hk]; rfl
  have k5 : (t.kind == 5) = false := by rw [hk]; rfl
  have k6 : (t.kind == 6) = false := by rw [hk]; rfl
  have k7 : (t.kind == 7) = false := by rw [hk]; rfl
  have k8 : (t.kind == 8) = false := by rw [hk]; rfl
  have k9 : (t.kind == 9) = false := by rw [hk]; rfl
  have k10 : (t.kind == 10) = false := by rw [hk]; rfl
  clear hW0 HOB HTB HE hk hS hI hT hv c0 c1 c2 c3 c4 c5 c6 c7 hOB hTB hx; go_enter Tryz.func32, Tryz.ntmps32; go_wp2; rw [← HWE.out]
  go_region_law
    (go_simp
     go_at_call 32
     refine (HC.out _ HB0.out.drew).mono ?_; rintro e w1 ⟨rfl, hb1⟩; have hb1' : Below w.heap.size w w1 := HB0.out.drew.trans (hb1.mono HB0.out.size))
  all_goals
    go_wp2; go_ret; exact ⟨rfl, hb1'⟩
theorem jiB (o : Opn) (fa : Option Addr) (fc : Nat) (ho : jdb o) : ∀ (n : Nat) (t : Tst) (an ak at' : Option Addr) (cn ck ct : Nat) (w : World), FieldsAt w fa o.fs → maxLenCell w → jjv n t →
    TstM anyB n w t [.int .i64 t.kind, .int .i64 t.mat, .int .i64 t.part, .slice an t.names.length cn, .slice ak t.keys.length ck, .bool t.over, .int .i64 t.limit, .slice at' t.tests.length ct] → Calls Tryz.prog 32 #[.agg #[.string (S o.fl), .string (S o.fd), .string (S o.tl), .string (S o.td), .string (S o.tx), .slice fa o.fs.length fc, .string (S o.body)], .agg #[.int .i64 t.kind, .int .i64 t.mat, .int .i64 t.part, .slice an t.names.length cn, .slice ak t.keys.length ck, .bool t.over, .int .i64 t.limit, .slice at' t.tests.length ct]] w fun e w' => e = .returned (.bool (ju o n t)) ∧ Below w.heap.size w w' := by
  intro n
  induction n with
  | zero => intro t an ak at' cn ck ct w _ _ _ h; exact h.elim
  | succ m ih =>
    intro t an ak at' cn ck ct w hF hm hg h; obtain ⟨vn, vk, vt, h0, hN, hK, hS⟩ := h; simp only [List.cons.injEq, and_true, true_and] at h0; obtain ⟨e1, e2, e3⟩ := h0; subst e1; subst e2; subst e3; have hI : ∀ (x : Tst), x ∈ t.tests → ∀ (an ak at' : Option Addr) (cn ck ct : Nat) (u : World), Below w.heap.size w u → TstM anyB m u x [.int .i64 x.kind, .int .i64 x.mat, .int .i64 x.part, .slice an x.names.length cn, .slice ak x.keys.length ck, .bool x.over, .int .i64 x.limit, .slice at' x.tests.length ct] → Calls Tryz.prog 32 #[.agg #[.string (S o.fl), .string (S o.fd), .string (S o.tl), .string (S o.td), .string (S o.tx), .slice fa o.fs.length fc, .string (S o.body)], .agg #[.int .i64 x.kind, .int .i64 x.mat, .int .i64 x.part, .slice an x.names.length cn, .slice ak x.keys.length ck, .bool x.over, .int .i64 x.limit, .slice at' x.tests.length ct]] u fun e u' => e = .returned (.bool (ju o m x)) ∧ Below u.heap.size u u' :=
      fun x hx an ak at' cn ck ct u hu hT => ih x an ak at' cn ck ct u (hF.below hu) (maxLenCell_below hm hu) (hg.2 x hx) hT
    by_cases h1 : t.kind = 1
    · exact jlQ o fa fc t an ak at' cn ck ct m w h1
    by_cases h3 : t.kind = 3
    · obtain ⟨x, r, hx⟩ : ∃ x r, t.tests = x :: r := by
        cases hx : t.tests with
        | nil => exact absurd hx (hg.1 h3)
        | cons x r => exact ⟨x, r, rfl⟩
      exact jlS o fa fc t an ak at' cn ck ct m x r hx w h3 hS hI
    by_cases h4 : t.kind = 4
    · exact jlT o fa fc t an ak at' cn ck ct m w h4 hS hI
    by_cases h5 : t.kind = 5
    · exact jlU o fa fc t an ak at' cn ck ct m w h5 hS hI
    by_cases h6 : t.kind = 6
    · exact jlV o fa fc t an ak at' cn ck ct m w h6 ho hF hN hK hm
    by_cases h7 : t.kind = 7
    · exact jlW o fa fc t an ak at' cn ck ct m w h7 ho hF hN hK hm
    by_cases h8 : t.kind = 8
    · exact jlX o fa fc t an ak at' cn ck ct m w h8 ho hN hK hm
    by_cases h9 : t.kind = 9
    · exact jlY o fa fc t an ak at' cn ck ct m w h9 ho hF hN hm
    by_cases h10 : t.kind = 10
    · exact jkg o fa fc t an ak at' cn ck ct m w h10
    exact jlR o fa fc t an ak at' cn ck ct m w h1 h3 h4 h5 h6 h7 h8 h9 h10
end Go.Proofs.YtaapmpchcfcniaaGreatDoor
