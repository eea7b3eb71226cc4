/-
  A postroom at work: its plain meaning, over what delivering a letter does.
-/
import Derived.Test.YtmgdnhjemhhleaaGreatDoorOLmPur
import Derived.Test.YtmgdnhjemhhleaaGreatDoorRows
import Derived.Test.YtmgdnhjemhhleaaGreatDoorOQBoxMem3
import Derived.Lib.SliceRun
import Derived.Laws.StructEq
set_option maxHeartbeats 2000000
set_option maxRecDepth 100000
namespace Go.Proofs.YtmgdnhjemhhleaaGreatDoor
open Go.RowKit
structure Con where
 ses : Ses
 held : List UInt8
 due : List Int
 told : List Int
structure Rom where
 up : Bool
 tape : List UInt8
 tsyn : Int
 syn : Int
 waits : Int
 safe : List Stt
 states : List Stt
 c0 : Con
 c1 : Con
 c2 : Con
 orders : List (List Int)
 due : List Int
def Rom.con (R : Rom) : Nat → Con
 | 0 => R.c0
 | 1 => R.c1
 | _ => R.c2
def Rom.put (R : Rom) (i : Nat) (c : Con) : Rom :=
 match i with
 | 0 => { R with c0 := c }
 | 1 => { R with c1 := c }
 | _ => { R with c2 := c }
def jas (c : Con) (k : Int) : Con := ⟨atS k, [], [], c.told⟩
def jbt (c : Con) (l : List Int) : Con := ⟨c.ses, c.held, c.due, c.told ++ l⟩
def sesC (c : Con) (s : Ses) : Con := ⟨s, c.held, c.due, c.told⟩
def jbp (c : Con) (h : List UInt8) : Con := ⟨c.ses, h, c.due, c.told⟩
def dueC (c : Con) (l : List Int) : Con := ⟨c.ses, c.held, l, c.told⟩
def zJ (c : Con) (l : List Int) (wait : Bool) : Con := if wait = true then dueC c l else jbt c l
def jdF (c : Con) : Con := dueC (jbt c c.due) []
def jct (c : Con) (d : List UInt8) : Con := if c.ses.step = 5 then ⟨atS 0, d, [], c.told⟩ else jbp c (c.held ++ d)
section
variable (D : Rom → Ltr → Rom × Int × Bool) (K : List (List UInt8))
def tkR (R : Rom) (lg : Bool) : List Ltr → Rom × List Int × Bool
 | [] => (R, [], false)
 | x :: t =>
   let d := if lg = true then (R, (552 : Int), false) else D R x
   let r := tkR d.1 lg t
   (r.1, d.2.1 :: r.2.1, d.2.2 || r.2.2)
def jfO (c : Con) (k : Int) : Con := if k = 0 then c else jbt c [k]
def jcx (c : Con) (k : Int) : Con := if k = 5 then jas c 5 else c
def jkO (R : Rom) (i : Nat) (line : List UInt8) : Rom :=
 let n := jH (R.con i).ses K line
 let t := tkR D (R.put i (jfO (sesC (R.con i) n.1) n.2.1)) (R.con i).ses.large n.2.2
 t.1.put i (jcx (zJ (t.1.con i) t.2.1 t.2.2) n.1.step)
def endC (c : Con) : Con := if 3000 < c.held.length then jas c 5 else c
def runW (rd : Rom → List UInt8 → List UInt8 → Rom) (i : Nat) : Nat → Rom → Rom
 | 0, R => R.put i (endC (R.con i))
 | n + 1, R =>
   if (R.con i).due.isEmpty && (Lib.cut (R.con i).held [13, 10]).2.2 then runW rd i n (rd R (Lib.cut (R.con i).held [13, 10]).1 (Lib.cut (R.con i).held [13, 10]).2.1)
   else R.put i (endC (R.con i))
def jlq (i : Nat) : Nat → Rom → Rom := runW (fun R x y => jkO D K (R.put i (jbp (R.con i) y)) i x) i
end
open Go.RowKit Go.Proofs
def FnP (w : World) (e : Ending) (w' : World) : Prop := ∃ b, e = .returned (.tuple #[.agg #[.slice (some ⟨b, 0, none⟩) 1 1, .slice none 0 0], .int .i64 0]) ∧ w'.heap[b]? = some (.cells #[.string ⟨#[73, 78, 66, 79, 88]⟩, .int .i64 1, .slice none 0 0] 67) ∧ w.heap.size ≤ b ∧ Below w.heap.size w w'
theorem jmD (u : Nat) (hu : u < 3) (w : World) : Calls Tryz.prog 19 #[.int .i64 u] w fun e w' => e = .returned (.bool true) ∧ w' = w := by
 have h0 : (0 : Int) ≤ (u : Int) := by omega
 have h1 : (u : Int) < 3 := by omega
 have h2 : (u : Int) ≤ 2 := by omega
 go_enter Tryz.func19, Tryz.ntmps19; go_wp2; go_ret; exact ⟨rfl, rfl⟩
theorem jf4 (u : Nat) (hu : u < 3) (w : World) : Calls Tryz.prog 12 #[.slice none 0 0, .int .i64 u] w (FnP w) := by
 have HU := hid (fun v => jmD u hu v); go_enter Tryz.func12, Tryz.ntmps12; go_wp2
 go_loopw [16] (fun i wr => i = .int .i64 0 ∧ wr = w.alloc (.cells #[.slice none 0 0, .slice none 0 0] 49)) (fun _ _ => 0)
 case atStart => exact ⟨rfl, rfl⟩
 case round =>
  obtain ⟨rfl, rfl⟩ := hrel; go_wp2_with fail; refine (HU.out _).mono ?_; rintro e v ⟨rfl, hv⟩; have hv' := hv.symm; subst hv'; clear hv; go_wp2
  go_loopw [36] (fun i wr => i = .int .i64 0 ∧ wr = ((w.alloc (.cells #[.slice none 0 0, .slice none 0 0] 49)).alloc (.cells #[.string ⟨#[73, 78, 66, 79, 88]⟩, .int .i64 1, .slice none 0 0] 67)).alloc (.cells #[.slice (some ⟨w.heap.size + 1, 0, none⟩) 1 1, .slice none 0 0] 49)) (fun _ _ => 0)
  case atStart => exact ⟨rfl, rfl⟩
  case round =>
   obtain ⟨rfl, rfl⟩ := hrel; go_wp2; refine bodyPost_ret (v := .tuple #[.agg #[.slice (some ⟨w.heap.size + 1, 0, none⟩) 1 1, .slice none 0 0], .int .i64 0]) (by simp [results, Tryz.results12, go_sem]) rfl ?_; refine ⟨w.heap.size + 1, rfl, ?_, by omega, (((nb0 _ _).alloc (by simp) _).alloc (by simp; omega) _)⟩; have h1 := heap_alloc_new (w.alloc (.cells #[.slice (some ⟨w.heap.size + 1, 0, none⟩) 1 1, .slice none 0 0] 49)) (.cells #[.string ⟨#[73, 78, 66, 79, 88]⟩, .int .i64 1, .slice none 0 0] 67); have h2 : (w.alloc (.cells #[.slice (some ⟨w.heap.size + 1, 0, none⟩) 1 1, .slice none 0 0] 49)).heap.size = w.heap.size + 1 := by simp
   rw [h2] at h1; exact ((nb0 _ _).block (w.heap.size + 1) (by simp)).trans h1
theorem jlz : (Tryz.prog.info? 49).map (fun i => (i.zero, i.size, i.bytes)) = some (some (.agg #[.slice none 0 0, .slice none 0 0]), 2, 48) := by kernel_rfl
theorem jh0 (ad : Addr) (n c : Nat) (news : List Value) (w : World) (hl : news.length = n * 2) (hn : n ≤ 1000) (hc : ∀ j u, news[j]? = some u → w.cell? (ad.add j) = some u) (h1 : ∀ u ∈ news, u.oneCell' = true) :
 Calls Tryz.prog 62 #[.slice (some ad) n c] w fun e w' => ∃ v', e = .returned v' ∧ (w'.ownsRow w.heap.size 49 2 v' n news) ∧ Below w.heap.size w w' := by
 obtain ⟨i0, hi, hz0, hz1, hz2⟩ := info_parts jlz; have q22 : ∀ (w : World) (a : Option Addr) (n c n' c' : Nat), (binOp .eql 26 (.slice a n c) (.slice none n' c')).run Tryz.prog w = .ok (.bool a.isNone) w := fun w a n c n' c' => Lib.run_eql_slice_nil w _ _ a n c n' c' Tryz.underlying26
 have HC := hid hc; have H1 := hid h1; have HL := hid hl; clear hc h1 hl; go_enter Tryz.func62, Tryz.ntmps62
 go_wp2_with (at_builtin; refine wpList_append_own _ rfl _ _ 26 rfl w.heap.size 49 i0 _ 2 48 Tryz.underlying26 hi hz0 hz1 hz2 rfl (by decide) _ _ _ rfl (World.ownsRow_made w #[] 0 (Nat.le_refl _) (Nat.zero_le _) rfl) ad n c news rfl ?qc1 ?qc2 ?qc3 ?qc4 ?qc5 ?qc6 ?_)
 case qc1 => exact HL.out
 case qc2 => exact fun j u hj => Lib.cell?_alloc_some _ (HC.out j u hj)
 case qc3 => exact H1.out
 case qc4 => unfold maxLen; omega
 case qc5 => omega
 case qc6 => simp
 intro v' w1 hown hgrow hnil; have HO := hid hown; have HB := hid (show Below w.heap.size w w1 from ((Below.refl _ w).alloc (Nat.le_refl _) _).grown hgrow (by simp) (by intro k hk; simp [Value.ownBlock] at hk; omega)); clear hown hgrow hnil; go_wp2; go_ret; exact ⟨v', rfl, by simpa using HO.out, HB.out⟩
theorem jbO {b : Nat} {w w' : World} (h : But b w w') (o : Nat) (v : Value) : But b w (w'.setCell ⟨b, o, none⟩ v) :=
 ⟨h.os, h.tape, h.output, by simpa [World.setCell] using h.size, fun k hk hn => (Below.heap_setCell _ _ _ _ hn).trans (h.block k hk hn)⟩
theorem jfX {b : Nat} {w w' : World} (h : But b w w') : But b w w'.drew := ⟨h.os, h.tape, h.output, h.size, h.block⟩
theorem jjV {b : Nat} {w w' : World} {p : Addr} {v : Value} (h : But b w w') (hp : w.cell? p = some v) (hn : p.block ≠ b) : w'.cell? p = some v :=
 (World.cell?_of_block (w := w) (h.block p.block (World.block_lt_of_cell? w _ hp) hn)).trans hp
theorem jhS (a : Addr) (j : Nat) : (a.add j).block = a.block := by unfold Addr.add; split <;> rfl
def LgR (w : World) (b : Nat) (v0 v1 v2 v3 v4 v5 : Value) (wx : World) : Prop := wx.heap[b]? = some (.cells #[v0, v1, v2, v3, v4, v5] 73) ∧ But b w wx
theorem LgR.of {w : World} {b : Nat} {v0 v1 v2 v3 v4 v5 : Value} (h : w.heap[b]? = some (.cells #[v0, v1, v2, v3, v4, v5] 73)) (x y : Value) : LgR w b v0 v1 x y v4 v5 ((w.setCell ⟨b, 2, none⟩ x).setCell ⟨b, 3, none⟩ y).drew := by
 refine ⟨?_, jfX (jbO (jbO (But.refl _ _) 2 x) 3 y)⟩; have h1 := heap_setCell_same _ b 3 _ _ y (heap_setCell_same w b 2 _ _ x h)
 simp at h1
 exact h1
theorem LgR.of' {w : World} {b : Nat} {v0 v1 v2 v3 v4 v5 : Value} (h : w.heap[b]? = some (.cells #[v0, v1, v2, v3, v4, v5] 73)) (x y : Value) : LgR w b v0 v1 x y v4 v5 ((w.setCell ⟨b, 3, none⟩ y).setCell ⟨b, 2, none⟩ x).drew := by
 refine ⟨?_, jfX (jbO (jbO (But.refl _ _) 3 y) 2 x)⟩; have h1 := heap_setCell_same _ b 2 _ _ x (heap_setCell_same w b 3 _ _ y h)
 simp at h1
 exact h1
theorem jb1 {w : World} {B B' : Nat} {e : TypeId} {k n : Nat} {v : Value} {xs : List Value} (h : w.ownsRow B e k v n xs) (hB : B' ≤ B) : w.ownsRow B' e k v n xs := by
 refine ⟨h.1, ?_⟩
 rcases h.2 with h' | ⟨g, cap, cur, h1, h2, h3⟩
 · exact .inl h'
 · exact .inr ⟨g, cap, cur, h1, Nat.le_trans hB h2, h3⟩
def StP (w : World) (b : Nat) (td ts : Value) (sy wa : Int) (ad : Addr) (n c : Nat) (news : List Value) (e : Ending) (w' : World) : Prop :=
 (∃ v, e = .returned v) ∧ ∃ v', w'.heap[b]? = some (.cells #[td, ts, .int .i64 (sy + wa), .int .i64 0, v', .slice (some ad) n c] 73) ∧ w'.ownsRow w.heap.size 49 2 v' n news ∧ But b w w'
theorem jhE (b : Nat) (td ts v4 : Value) (sy wa : Int) (ad : Addr) (n c : Nat) (news : List Value) (w : World) (hb : w.heap[b]? = some (.cells #[td, ts, .int .i64 sy, .int .i64 wa, v4, .slice (some ad) n c] 73))
 (hsy : 0 ≤ sy ∧ sy ≤ 1000000) (hwa : 0 ≤ wa ∧ wa ≤ 1000000) (hl : news.length = n * 2) (hn : n ≤ 1000) (hc : ∀ j u, news[j]? = some u → w.cell? (ad.add j) = some u) (h1 : ∀ u ∈ news, u.oneCell' = true) (had : ad.block ≠ b) :
 Calls Tryz.prog 33 #[.pointer (some ⟨b, 0, none⟩)] w (StP w b td ts sy wa ad n c news) := by
 have HB := hid hb; have HC := hid hc; have H1 := hid h1; have HL := hid hl; have hwr : IntKind.i64.wrap (sy + wa) = sy + wa := by rw [IntKind.wrap_i64]; omega
 obtain ⟨c0, c1, c2, c3, c4, c5⟩ := bx6 hb; have zf : ∀ o, w.frozen? ⟨b, o, none⟩ = false := fun o => by simp [World.frozen?, hb]
 clear hb hc h1 hl; go_enter Tryz.func33, Tryz.ntmps33; go_upto_region 0 with fail
 have HE1 := hid (LgR.of HB.out (.int .i64 (sy + wa)) (.int .i64 0)); have HE2 := hid (LgR.of' HB.out (.int .i64 (sy + wa)) (.int .i64 0))
 go_cut [] (fun wx => LgR w b td ts (.int .i64 (sy + wa)) (.int .i64 0) v4 (.slice (some ad) n c) wx)
 case first =>
  go_region_law (fail)
  all_goals first
   | (have HE := HE1; go_wp2_with fail; go_meet; exact HE.out)
   | (have HE := HE2; go_wp2_with fail; go_meet; exact HE.out)
   | fail
 case rest =>
  obtain ⟨hx, hB⟩ := hcut; obtain ⟨W1, rfl⟩ : ∃ W, W = wc := ⟨_, rfl⟩; have hlt : b < W1.heap.size := (Array.getElem?_eq_some_iff.1 hx).1; have HX := hid hx; have HBT := hid hB; have d5 : W1.cell? ⟨b, 5, none⟩ = some (.slice (some ad) n c) := by simp [World.cell?, hx]
  clear hx hB c0 c1 c2 c3 c4 c5 zf; go_wp2_with fail; refine (jh0 ad n c news W1 HL.out hn (fun j u hj => jjV HBT.out (HC.out j u hj) (by rw [jhS]; exact had)) H1.out).mono ?_; rintro e w2 ⟨v', rfl, ho, hb2⟩; obtain ⟨a', c', rfl⟩ := jbB ho; have hx2 := (hb2.block b hlt).trans HX.out; have e4 : w2.cell? ⟨b, 4, none⟩ = some v4 := by simp [World.cell?, hx2]
  have zf : ∀ o, w2.frozen? ⟨b, o, none⟩ = false := fun o => by simp [World.frozen?, hx2]
  have hz1 := HBT.out.size; have HE := hid (show StP w b td ts sy wa ad n c news (.returned (.tuple #[])) (w2.setCell ⟨b, 4, none⟩ (.slice a' n c')) from ⟨⟨_, rfl⟩, .slice a' n c', by have := heap_setCell_same w2 b 4 _ _ (.slice a' n c') hx2; simpa using this, by
   have h := jI (w' := w2.setCell ⟨b, 4, none⟩ (.slice a' n c')) ho fun g hg => Below.heap_setCell _ _ _ _ (fun e => by have e' : g = b := e; have := (World.ownsRow.lt ho g hg).1; omega)
   exact jb1 h hz1, jbO ((HBT.out).trans (But.of hb2)) 4 _⟩)
  clear ho hb2 hx2; go_wp2; go_end0; exact HE.out
def inbC (bs : List Nat) : List Value := bs.flatMap fun b => [.slice (some ⟨b, 0, none⟩) 1 1, .slice none 0 0]
def inbB (w : World) (B : Nat) (bs : List Nat) : Prop := ∀ b ∈ bs, B ≤ b ∧ w.heap[b]? = some (.cells #[.string ⟨#[73, 78, 66, 79, 88]⟩, .int .i64 1, .slice none 0 0] 67)
theorem qk (w : World) (cs : List Value) (t : TypeId) : ∀ j u, cs[j]? = some u → (w.alloc (.cells cs.toArray t)).cell? ((⟨w.heap.size, 0, none⟩ : Addr).add j) = some u := by
 intro j u hj; rw [Addr.add_lit]; have := heap_alloc_new w (.cells cs.toArray t); simp only [World.cell?, this, Nat.zero_add]
 simpa using hj
theorem But.lowB' {b B : Nat} {w w' : World} (h : But b w w') (hb : B ≤ b) (hB : B ≤ w.heap.size) : Below B w w' := ⟨h.os, h.tape, h.output, h.size, fun k hk => h.block k (by omega) (by omega)⟩
theorem put6 {w : World} {b : Nat} {t : TypeId} (v0 v1 v2 v3 v4 v5 : Value) {u0 u1 u2 u3 u4 u5 : Value} (h : w.heap[b]? = some (.cells #[u0, u1, u2, u3, u4, u5] t)) : (w.setCells b 0 [v0, v1, v2, v3, v4, v5]).heap[b]? = some (.cells #[v0, v1, v2, v3, v4, v5] t) := by
 have h := heap_setCell_same _ b 0 _ t v0 h; have h := heap_setCell_same _ b 1 _ t v1 h; have h := heap_setCell_same _ b 2 _ t v2 h; have h := heap_setCell_same _ b 3 _ t v3 h; have h := heap_setCell_same _ b 4 _ t v4 h; have h := heap_setCell_same _ b 5 _ t v5 h; simp only [World.setCells, Nat.reduceAdd]
 simpa using h
theorem je9 {b k : Nat} (hn : k ≠ b) : ∀ (vs : List Value) (o : Nat) (w : World), (w.setCells b o vs).heap[k]? = w.heap[k]? := by
 intro vs
 induction vs with
 | nil => intro o w; rfl
 | cons v vs ih => intro o w; exact (ih (o + 1) _).trans (Below.heap_setCell _ _ _ _ hn)
theorem jhZ {B b : Nat} {w w2 : World} {vs : List Value} {o : Nat} (hb : B ≤ b) (h : Below B w w2) : Below B w (w2.setCells b o vs) := by
 induction vs generalizing w2 o with
 | nil => exact h
 | cons v vs ih => exact ih (h.setCell hb v)
theorem jf5 (bs : List Nat) : (inbC bs).length = bs.length * 2 := by
 induction bs with
 | nil => rfl
 | cons b bs ih => rw [inbC, List.flatMap_cons, List.length_append, show (bs.flatMap fun b => [Value.slice (some ⟨b, 0, none⟩) 1 1, .slice none 0 0]) = inbC bs from rfl, ih]; simp; omega
theorem jix (bs : List Nat) (b : Nat) : inbC (bs ++ [b]) = inbC bs ++ [.slice (some ⟨b, 0, none⟩) 1 1, .slice none 0 0] := by simp [inbC]
theorem jkl (bs : List Nat) : ∀ u ∈ inbC bs, u.oneCell' = true := by
 intro u hu; obtain ⟨b, _, h⟩ := List.mem_flatMap.1 hu
 simp at h
 rcases h with rfl | rfl <;> rfl
def NlP (w : World) (n : Nat) (e : Ending) (w' : World) : Prop :=
 ∃ (bs : List Nat) (sa ta : Option Addr) (cs cst : Nat), e = .returned (.agg #[.slice none 0 0, .int .i64 0, .int .i64 0, .int .i64 0, .slice sa n cs, .slice ta n cst]) ∧ bs.length = n ∧ inbB w' w.heap.size bs ∧
   w'.ownsRow w.heap.size 49 2 (.slice sa n cs) n (inbC bs) ∧ w'.ownsRow w.heap.size 49 2 (.slice ta n cst) n (inbC bs) ∧ (∀ q, (Value.slice sa n cs).ownBlock = some q → (Value.slice ta n cst).ownBlock ≠ some q) ∧ Below w.heap.size w w'
theorem jdx (n : Nat) (hn : 0 < n ∧ n ≤ 3) (w : World) : Calls Tryz.prog 21 #[.int .i64 n] w (NlP w n) := by
 obtain ⟨i0, hi, hz0, hz1, hz2⟩ := info_parts jlz; obtain ⟨W0, hW0⟩ : ∃ W0, W0 = (w.alloc (.cells #[.slice none 0 0, .int .i64 0, .int .i64 0, .int .i64 0, .slice none 0 0, .slice none 0 0] 73)).alloc (.cells #[.slice none 0 0, .int .i64 0, .int .i64 0, .int .i64 0, .slice none 0 0, .slice none 0 0] 73) := ⟨_, rfl⟩; have hB0 : Below w.heap.size w W0 := by rw [hW0]; exact (nb0 _ _).alloc (by simp) _
 have hz : W0.heap.size = w.heap.size + 2 := by rw [hW0]; simp
 have hr0 : W0.heap[w.heap.size]? = some (.cells #[.slice none 0 0, .int .i64 0, .int .i64 0, .int .i64 0, .slice none 0 0, .slice none 0 0] 73) := by
  rw [hW0]; exact ((nb0 _ _).block w.heap.size (by simp)).trans (heap_alloc_new w _)
 have hl0 : W0.heap[w.heap.size + 1]? = some (.cells #[.slice none 0 0, .int .i64 0, .int .i64 0, .int .i64 0, .slice none 0 0, .slice none 0 0] 73) := by
  rw [hW0]; have := heap_alloc_new (w.alloc (.cells #[.slice none 0 0, .int .i64 0, .int .i64 0, .int .i64 0, .slice none 0 0, .slice none 0 0] 73)) (.cells #[.slice none 0 0, .int .i64 0, .int .i64 0, .int .i64 0, .slice none 0 0, .slice none 0 0] 73)
  simpa using this
 have HWE := hid hW0; have HB0 := hid hB0; have HR0 := hid hr0; have HL0 := hid hl0; clear hW0 hB0 hr0 hl0; go_enter Tryz.func21, Tryz.ntmps21; go_wp2; rw [← HWE.out]
 go_loopw [8] (fun i wr => ∃ (k : Nat) (bs : List Nat) (a9 : Option Addr) (c9 : Nat), k ≤ n ∧ i = .int .i64 k ∧ bs.length = k ∧ Hid (wr.heap[w.heap.size + 1]? = some (.cells #[.slice none 0 0, .int .i64 0, .int .i64 0, .int .i64 0, .slice none 0 0, .slice a9 k c9] 73)) ∧ Hid (wr.ownsRow W0.heap.size 49 2 (.slice a9 k c9) k (inbC bs)) ∧ Hid (inbB wr W0.heap.size bs) ∧ Hid (∀ q ∈ bs, (Value.slice a9 k c9).ownBlock ≠ some q) ∧ Hid (But (w.heap.size + 1) W0 wr)) (fun i _ => n - (intOf i).toNat)
 case atStart => exact ⟨0, [], none, 0, Nat.zero_le _, rfl, rfl, HL0, hid (World.ownsRow_nil _ _ _ _), hid (fun b hb => by cases hb), hid (fun b hb => by cases hb), hid (But.refl _ _)⟩
 case round =>
  obtain ⟨k, bs, a9, c9, hk, rfl, hbl, HX, HO, HI, HAP, HBT⟩ := hrel
  by_cases hlt : k < n
  · have k1 : (k : Int) < (n : Int) := by omega
    have k0 : (0 : Int) ≤ (k : Int) := by omega
    go_wp2_with fail; refine (jf4 k (by omega) wr).mono ?_; rintro e w2 ⟨b, rfl, hbx, hbw, hb2⟩; have hnb : w.heap.size + 1 < wr.heap.size := by have := HBT.out.size; omega
    obtain ⟨W3, hW3⟩ : ∃ W3, W3 = w2.alloc (.cells #[.slice (some ⟨b, 0, none⟩) 1 1, .slice none 0 0] 49) := ⟨_, rfl⟩; have HWE3 := hid hW3; have hB3 : Below wr.heap.size wr W3 := by rw [hW3]; exact hb2.alloc hb2.size _
    have hX3 : W3.heap[w2.heap.size]? = some (.cells #[.slice (some ⟨b, 0, none⟩) 1 1, .slice none 0 0] 49) := by rw [hW3]; exact heap_alloc_new w2 _
    have x0 : W3.cell? ⟨w2.heap.size, 0, none⟩ = some (.slice (some ⟨b, 0, none⟩) 1 1) := by simp [World.cell?, hX3]
    have x1 : W3.cell? ⟨w2.heap.size, 1, none⟩ = some (.slice none 0 0) := by simp [World.cell?, hX3]
    have hL3 := (hB3.block _ hnb).trans HX.out; have y5 : W3.cell? ⟨w.heap.size + 1, 5, none⟩ = some (.slice a9 k c9) := by simp [World.cell?, hL3]
    have HL3 := hid hL3; have HO3 := hid (jI HO.out fun g hg => hB3.block g (World.ownsRow.lt HO.out g hg).2); have hlb : b < w2.heap.size := (Array.getElem?_eq_some_iff.1 hbx).1; have HI3 := hid (show inbB W3 W0.heap.size (bs ++ [b]) from fun q hq => by
        rcases List.mem_append.1 hq with h | h
        · obtain ⟨h1, h2⟩ := HI.out q h; exact ⟨h1, (hB3.block q (Array.getElem?_eq_some_iff.1 h2).1).trans h2⟩
        · rw [show q = b by simpa using h]; refine ⟨by have := HBT.out.size; omega, ?_⟩; rw [hW3]; exact ((nb0 _ _).block b hlb).trans hbx)
    have HB3 := hid (HBT.out.trans (But.of hB3)); have hz3 := HB3.out.size; clear hb2 hB3 hW3 hX3 hbx hL3; go_upto_region 6 with fail
    rw [← HWE3.out]
    go_wp2_with (first
        | (at_builtin; refine wpList_append_lies _ rfl _ _ 26 rfl W0.heap.size 49 i0 _ 2 48 Tryz.underlying26 hi hz0 hz1 hz2 rfl (by omega) (.slice a9 k c9) k (inbC bs) rfl (World.ownsRow.alloc HO3.out _) ⟨W3.heap.size, 0, none⟩ 1 1 [.slice (some ⟨b, 0, none⟩) 1 1, .slice none 0 0] rfl rfl (qk W3 [.slice (some ⟨b, 0, none⟩) 1 1, .slice none 0 0] _) ?c1 (by omega) ?c2 ?c3 ?c4 _ rfl ?_)
        | fail)
    case c1 => simp [Value.oneCell']
    case c2 => unfold maxLen; omega
    case c3 => omega
    case c4 => simp; omega
    intro gm cap w4 hown hgrow hat hlt4; have hW3z : w2.heap.size < W3.heap.size := by rw [HWE3.out]; simp
    have hne : ∀ q ∈ bs ++ [b], (Value.slice a9 k c9).ownBlock ≠ some q := fun q hq e => by
        rcases List.mem_append.1 hq with h | h
        · exact HAP.out q h e
        · have h1 := (World.ownsRow.lt HO.out q e).2; rw [show q = b by simpa using h] at h1; omega
    have hoL : (Value.slice a9 k c9).ownBlock ≠ some (w.heap.size + 1) := fun e => by have := (World.ownsRow.lt HO3.out _ e).1; omega
    have al : ∀ q x, W3.heap[q]? = some x → (Value.slice a9 k c9).ownBlock ≠ some q → w4.heap[q]? = some x := fun q x hx hq => by
        have hql := (Array.getElem?_eq_some_iff.1 hx).1; exact (hgrow.block q (by simp; omega) (fun e => hq e.symm)).trans ((((Below.refl _ W3).alloc (Nat.le_refl _) _).block q hql).trans hx)
    have hL4 := al _ _ HL3.out hoL; have z5 : w4.cell? ⟨w.heap.size + 1, 5, none⟩ = some (.slice a9 k c9) := by simp [World.cell?, hL4]
    have zf : w4.frozen? ⟨w.heap.size + 1, 5, none⟩ = false := by simp [World.frozen?, hL4]
    have hgm : W0.heap.size ≤ gm := by
        rcases hat with e | e
        · exact (World.ownsRow.lt HO3.out gm e).1
        · have e' : gm = W3.heap.size + 1 := by simpa using e
          omega
    obtain ⟨W5, hW5⟩ : ∃ W5, W5 = w4.setCell ⟨w.heap.size + 1, 5, none⟩ (.slice (some ⟨gm, 0, none⟩) (k + 1) cap) := ⟨_, rfl⟩; have HW5 := hid hW5; have st : ∀ q, q ≠ w.heap.size + 1 → W5.heap[q]? = w4.heap[q]? := fun q hq => by rw [hW5]; exact Below.heap_setCell _ _ _ _ hq
    have HX5 := hid (show W5.heap[w.heap.size + 1]? = some (.cells #[.slice none 0 0, .int .i64 0, .int .i64 0, .int .i64 0, .slice none 0 0, .slice (some ⟨gm, 0, none⟩) (k + 1) cap] 73) by
        rw [hW5]; have := heap_setCell_same w4 (w.heap.size + 1) 5 _ _ (.slice (some ⟨gm, 0, none⟩) (k + 1) cap) hL4
        simpa using this)
    have HO5 := hid (show W5.ownsRow W0.heap.size 49 2 (.slice (some ⟨gm, 0, none⟩) (k + 1) cap) (k + 1) (inbC (bs ++ [b])) from jI (by rw [jix, hz]; exact hown) fun g hg => st g (fun e => by have : gm = g := Option.some.inj hg; omega)); have HI5 := hid (show inbB W5 W0.heap.size (bs ++ [b]) from fun q hq => ⟨(HI3.out q hq).1, (st q (fun e => by have := (HI3.out q hq).1; omega)).trans (al _ _ (HI3.out q hq).2 (hne q hq))⟩); have HAP5 := hid (show ∀ q ∈ bs ++ [b], (Value.slice (some (⟨gm, 0, none⟩ : Addr)) (k + 1) cap).ownBlock ≠ some q from fun q hq e => by
        have e1 : gm = q := Option.some.inj e; have hql := (Array.getElem?_eq_some_iff.1 (HI3.out q hq).2).1
        rcases hat with h | h
        · exact hne q hq (by rw [h, e1])
        · have e' : gm = W3.heap.size + 1 := by simpa using h
          omega)
    have HBT5 := hid (show But (w.heap.size + 1) W0 W5 by
        refine ⟨?_, ?_, ?_, ?_, fun q hq hn => ?_⟩
        · rw [hW5]; exact hgrow.os.trans HB3.out.os
        · rw [hW5]; exact hgrow.tape.trans HB3.out.tape
        · rw [hW5]; exact hgrow.output.trans HB3.out.output
        · rw [hW5]; have := hgrow.size; simp [World.setCell] at this ⊢; omega
        · rw [st q hn]; have hx : W0.heap[q]? = some W0.heap[q] := Array.getElem?_eq_getElem hq; rw [hx]; exact al q _ ((HB3.out.block q hq hn).trans hx) (fun e => by have := (World.ownsRow.lt HO3.out _ e).1; omega))
    clear hown hgrow hat al st hW5; go_wp2; rw [← HW5.out]
    go_roundw
    case rel => first | exact ⟨k + 1, bs ++ [b], _, cap, by omega, by go_num, by simp [hbl], HX5, HO5, HI5, HAP5, HBT5⟩ | ((repeat apply Exists.intro); exact ⟨⟨k + 1, bs ++ [b], _, cap, by omega, by go_num, by simp [hbl], HX5, HO5, HI5, HAP5, HBT5⟩, rfl⟩)
    case measure => simp [intOf]; omega
  · have k1 : ¬ (k : Int) < (n : Int) := by omega
    obtain rfl : k = n := by omega
    obtain ⟨g, rfl⟩ : ∃ g, a9 = some ⟨g, 0, none⟩ := by
        rcases HO.out.2 with ⟨_, h0⟩ | ⟨g, cap, cur, hv, _⟩
        · omega
        · simp only [Value.slice.injEq] at hv; exact ⟨g, hv.1⟩
    have hgl := World.ownsRow.lt HO.out g rfl; go_wp2_with fail; refine (jhE (w.heap.size + 1) (.slice none 0 0) (.int .i64 0) (.slice none 0 0) 0 0 ⟨g, 0, none⟩ k c9 (inbC bs) wr HX.out (by omega) (by omega) (by rw [jf5, hbl]) (by omega) (fun j u hj => by
        have hj2 : j < (inbC bs).length := (List.getElem?_eq_some_iff.1 hj).1; rw [Addr.add_lit, Nat.zero_add, World.ownsRow.cellAt HO.out j (by rw [jf5, hbl] at hj2; omega)]; exact hj) (jkl bs) (by show g ≠ w.heap.size + 1; omega)).mono ?_
    rintro e w2 ⟨⟨v, rfl⟩, v', hx2, ho2, hbt2⟩; obtain ⟨sa, cs, rfl⟩ := jbB ho2; have hs2 := hbt2.size; have hbz := HBT.out.size; have hr2 : w2.heap[w.heap.size]? = some (.cells #[.slice none 0 0, .int .i64 0, .int .i64 0, .int .i64 0, .slice none 0 0, .slice none 0 0] 73) := (hbt2.block _ (by omega) (by omega)).trans ((HBT.out.block _ (by omega) (by omega)).trans HR0.out); have HO2 := hid (jI HO.out fun q hq => hbt2.block q (World.ownsRow.lt HO.out q hq).2 (fun e => by have := (World.ownsRow.lt HO.out q hq).1; omega)); have HI2 := hid (show inbB w2 W0.heap.size bs from fun q hq => ⟨(HI.out q hq).1, (hbt2.block q (Array.getElem?_eq_some_iff.1 (HI.out q hq).2).1 (fun e => by have := (HI.out q hq).1; omega)).trans (HI.out q hq).2⟩); have HS2 := hid ho2; have HB2 := hid (show Below w.heap.size w w2 from HB0.out.trans ((HBT.out.trans hbt2).lowB' (by omega) (by omega))); obtain ⟨x0, x1, x2, x3, x4, x5⟩ := bx6 hx2; obtain ⟨r0, r1, r2, r3, r4, r5⟩ := bx6 hr2; have zf : ∀ o, w2.frozen? ⟨w.heap.size, o, none⟩ = false := fun o => by simp [World.frozen?, hr2]
    have HR2 := hid hr2; clear hx2 ho2 hbt2 hr2; go_wp2; have hput := put6 (w := w2) (b := w.heap.size) (.slice none 0 0) (.int .i64 0) (.int .i64 0) (.int .i64 0) (.slice sa k cs) (.slice (some ⟨g, 0, none⟩) k c9) HR2.out; have hst : ∀ q, q ≠ w.heap.size → (w2.setCells w.heap.size 0 [.slice none 0 0, .int .i64 0, .int .i64 0, .int .i64 0, .slice sa k cs, .slice (some ⟨g, 0, none⟩) k c9]).heap[q]? = w2.heap[q]? := fun q hq => je9 hq _ _ _
    have hlow := jhZ (b := w.heap.size) (o := 0) (vs := [.slice none 0 0, .int .i64 0, .int .i64 0, .int .i64 0, .slice sa k cs, .slice (some ⟨g, 0, none⟩) k c9]) (Nat.le_refl _) HB2.out; simp only [World.setCells, Nat.reduceAdd] at hput hst hlow; have m0 := hput; have c0 : ∀ (W : World), W.heap[w.heap.size]? = some (.cells #[.slice none 0 0, .int .i64 0, .int .i64 0, .int .i64 0, .slice sa k cs, .slice (some ⟨g, 0, none⟩) k c9] 73) → W.cell? ⟨w.heap.size, 0, none⟩ = some (.slice none 0 0) ∧ W.cell? ⟨w.heap.size, 1, none⟩ = some (.int .i64 0) ∧ W.cell? ⟨w.heap.size, 2, none⟩ = some (.int .i64 0) ∧ W.cell? ⟨w.heap.size, 3, none⟩ = some (.int .i64 0) ∧ W.cell? ⟨w.heap.size, 4, none⟩ = some (.slice sa k cs) ∧ W.cell? ⟨w.heap.size, 5, none⟩ = some (.slice (some ⟨g, 0, none⟩) k c9) := fun W h => by
        refine ⟨?_, ?_, ?_, ?_, ?_, ?_⟩ <;> simp [World.cell?, h]
    obtain ⟨m0, m1, m2, m3, m4, m5⟩ := c0 _ hput; refine bodyPost_ret (v := .agg #[.slice none 0 0, .int .i64 0, .int .i64 0, .int .i64 0, .slice sa k cs, .slice (some ⟨g, 0, none⟩) k c9]) (by simp only [results, Tryz.results21]; simp [go_sem, m0, m1, m2, m3, m4, m5]) rfl ?_; refine ⟨bs, sa, some ⟨g, 0, none⟩, cs, c9, rfl, hbl, ?_, ?_, ?_, fun q hq e => ?_, hlow⟩
    · exact fun q hq => ⟨by have := (HI2.out q hq).1; omega, (hst q (fun e => by have := (HI2.out q hq).1; omega)).trans (HI2.out q hq).2⟩
    · exact jb1 (jI HS2.out fun q hq => hst q (fun e => by have := (World.ownsRow.lt HS2.out q hq).1; omega)) (by omega)
    · exact jb1 (jI HO2.out fun q hq => hst q (fun e => by have := (World.ownsRow.lt HO2.out q hq).1; omega)) (by omega)
    · have h1 := (World.ownsRow.lt HS2.out q hq).1; have h2 : g = q := Option.some.inj e; omega
theorem jmj {a b : ByteArray} (h : ¬ a = b) : (a.toList == b.toList) = false := by
 rw [beq_eq_false_iff_ne]; intro e; rw [Lib.toList_data, Lib.toList_data] at e
 apply h
 obtain ⟨⟨x⟩⟩ := a; obtain ⟨⟨y⟩⟩ := b; simp only at e; rw [e]
theorem jm7 (a : ByteArray) : (a.toList == a.toList) = true := by simp
theorem jlA (a b : List UInt8) : ((S a).toList == (S b).toList) = decide (a = b) := by
 by_cases h : a = b
 · subst h; simp
 · rw [jmj fun e => h (jlP e)]; simp [h]
theorem jhT (x y : Adr) (w : World) : (binOp .eql 76 (.agg #[.string (S x.1), .string (S x.2)]) (.agg #[.string (S y.1), .string (S y.2)])).run Tryz.prog w = .ok (.bool (decide (x = y))) w := by
 obtain ⟨a, b⟩ := x; obtain ⟨c, d⟩ := y
 by_cases h1 : a = c
 · subst h1; have e1 := jm7 (S a)
   by_cases h2 : b = d
   · subst h2; have e2 := jm7 (S b)
     simp [go_sem, *]
   · have e2 : ((S b).toList == (S d).toList) = false := jmj fun e => h2 (jlP e)
     have e3 : decide ((a, b) = (a, d)) = false := by simp [h2]
     clear h2; simp only [e3]
     simp [go_sem, *]
 · have e1 : ((S a).toList == (S c).toList) = false := jmj fun e => h1 (jlP e)
   have e3 : decide ((a, b) = (c, d)) = false := by simp [h1]
   clear h1; simp only [e3]
   simp [go_sem, *]
def AdrM (x : Adr) (cs : List Value) : Prop := cs = [.string (S x.1), .string (S x.2)]
def AdrsM (Q : Nat → Prop) (w : World) (v : Value) (l : List Adr) : Prop := RowM Q 2 AdrM w v l
def qd (l : List Adr) : List Value := (l.map fun x => [Value.string (S x.1), .string (S x.2)]).flatten
def OwnL (w : World) (B : Nat) (v : Value) (l : List Adr) : Prop := w.ownsRow B 76 2 v l.length (qd l)
theorem jdd {Q : Nat → Prop} {w : World} {a : Option Addr} {c : Nat} {l : List Adr} (h : AdrsM Q w (.slice a l.length c) l) {i : Nat} {x : Adr} (hx : l[i]? = some x) :
 ∃ b o, a = some ⟨b, o, none⟩ ∧ b < w.heap.size ∧ Q b ∧ w.cell? ⟨b, o + i * 2, none⟩ = some (.string (S x.1)) ∧ w.cell? ⟨b, o + i * 2 + 1, none⟩ = some (.string (S x.2)) := by
 obtain ⟨a', c', hv, _, hr⟩ := h; simp only [Value.slice.injEq, true_and] at hv; obtain ⟨rfl, rfl⟩ := hv; obtain ⟨b, o, cs, rfl, hb, hQ, _, hc, hP⟩ := hr i x hx; have hcs : cs = _ := hP; subst hcs; exact ⟨b, o, rfl, hb, hQ, by simpa using hc 0 _ rfl, by simpa using hc 1 _ rfl⟩
theorem jjG {Q : Nat → Prop} {w : World} {a : Option Addr} {c : Nat} {l : List (List UInt8)} (h : TxtsM Q w (.slice a l.length c) l) {i : Nat} {x : List UInt8} (hx : l[i]? = some x) :
 ∃ b o, a = some ⟨b, o, none⟩ ∧ b < w.heap.size ∧ Q b ∧ w.cell? ⟨b, o + i, none⟩ = some (.string (S x)) := by
 obtain ⟨a', c', hv, _, hr⟩ := h; simp only [Value.slice.injEq, true_and] at hv; obtain ⟨rfl, rfl⟩ := hv; obtain ⟨b, o, cs, rfl, hb, hQ, _, hc, hP⟩ := hr i x hx; have hcs : cs = _ := hP; subst hcs; exact ⟨b, o, rfl, hb, hQ, by simpa using hc 0 _ rfl⟩
theorem AdrsM.next {Q : Nat → Prop} {w w' : World} {v : Value} {l : List Adr} (h : AdrsM Q w v l) (hb : Below w.heap.size w w') : AdrsM Q w' v l := RowM.imp h (fun _ h => h) (Keeps.of_below hb) fun _ _ h => h
theorem AdrsM.any {Q : Nat → Prop} {w : World} {v : Value} {l : List Adr} (h : AdrsM Q w v l) : AdrsM anyB w v l := RowM.imp h (fun _ _ => trivial) (Keeps.refl _ _) fun _ _ h => h
theorem TxtsM.nextB {w w' : World} {v : Value} {n : Nat} {l : List (List UInt8)} (h : TxtsM (· < n) w v l) (hb : Below n w w') : TxtsM (· < n) w' v l := TxtsM.imp h (fun _ h => h) (Keeps.of_below' hb fun _ h => h)
theorem AdrsM.same {Q : Nat → Prop} {w w' : World} {v : Value} {l : List Adr} (h : AdrsM Q w v l) (he : w'.heap = w.heap) : AdrsM Q w' v l := RowM.imp h (fun _ h => h) ⟨by rw [he]; exact Nat.le_refl _, fun _ _ _ => by rw [he]⟩ fun _ _ h => h
theorem jiN {w w' : World} {p : Addr} {x : Option Value} (h : w.cell? p = x) (he : w'.heap = w.heap) : w'.cell? p = x := (World.cell?_of_block (w := w) (by rw [he])).trans h
theorem qf (l : List Adr) : (qd l).length = l.length * 2 := by
 induction l with
 | nil => rfl
 | cons x l ih => simp only [qd, List.map_cons, List.flatten_cons, List.length_append, List.length_cons, List.length_nil] at *; omega
theorem je8 (l : List Adr) (x : Adr) : qd (l ++ [x]) = qd l ++ [.string (S x.1), .string (S x.2)] := by simp [qd]
theorem jcM {l : List Adr} {i : Nat} {x : Adr} (h : l[i]? = some x) : (qd l)[i * 2]? = some (.string (S x.1)) ∧ (qd l)[i * 2 + 1]? = some (.string (S x.2)) := by
 induction l generalizing i with
 | nil => simp at h
 | cons g l ih =>
   cases i with
   | zero => simp at h; subst h; simp [qd]
   | succ i =>
     have := ih (i := i) (by simpa using h); have e1 : (i + 1) * 2 = i * 2 + 2 := by omega
     rw [e1]
     simpa [qd] using this
theorem OwnL.slice {w : World} {B : Nat} {v : Value} {l : List Adr} (h : OwnL w B v l) : ∃ a c, v = .slice a l.length c := by
 rcases h.2 with ⟨rfl, hn⟩ | ⟨g, cap, cur, rfl, _⟩
 · exact ⟨none, 0, by rw [hn]⟩
 · exact ⟨_, _, rfl⟩
theorem OwnL.row {w : World} {B : Nat} {v : Value} {l : List Adr} (h : OwnL w B v l) (hm : l.length ≤ maxLen) : AdrsM (B ≤ ·) w v l := by
 obtain ⟨a, c, rfl⟩ := h.slice; refine ⟨a, c, rfl, hm, fun i x hx => ?_⟩; have hi : i < l.length := (List.getElem?_eq_some_iff.1 hx).1; obtain ⟨g, cap, e, hb, hg⟩ := World.ownsRow.form h (by omega); simp only [Value.slice.injEq, true_and] at e; obtain ⟨rfl, rfl⟩ := e; obtain ⟨h1, h2⟩ := jcM hx; refine ⟨g, 0, _, rfl, hg, hb, rfl, ?_, rfl⟩; intro j u hj
 match j, hj with
 | 0, hj =>
   simp only [List.getElem?_cons_zero, Option.some.injEq] at hj; subst hj; rw [show 0 + i * 2 + 0 = i * 2 by omega, World.ownsRow.cellAt h (i * 2) (by omega)]; exact h1
 | 1, hj =>
   simp only [List.getElem?_cons_succ, List.getElem?_cons_zero, Option.some.injEq] at hj; subst hj; rw [show 0 + i * 2 + 1 = i * 2 + 1 by omega, World.ownsRow.cellAt h (i * 2 + 1) (by omega)]; exact h2
theorem OwnL.nil (w : World) (B : Nat) : OwnL w B (.slice none 0 0) [] := World.ownsRow_nil _ _ _ _
theorem jfZ {A : Type} [DecidableEq A] {l : List A} {i : Nat} {x y : A} (h : l[i]? = some y) : (l.drop i).any (fun z => decide (x = z)) = (decide (x = y) || (l.drop (i + 1)).any (fun z => decide (x = z))) := by
 have hi : i < l.length := (List.getElem?_eq_some_iff.1 h).1; have e : l[i] = y := (List.getElem?_eq_some_iff.1 h).2; rw [List.drop_eq_getElem_cons hi, e]; rfl
theorem jh3 {A : Type} [BEq A] [LawfulBEq A] [DecidableEq A] (l : List A) (x : A) : l.any (fun z => decide (x = z)) = l.contains x := by
 induction l with
 | nil => rfl
 | cons y l ih =>
   rw [List.any_cons, ih, List.contains_cons]
   by_cases h : x = y
   · subst h; simp
   · simp [h]
def IxP (w : World) (q : Bool) (e : Ending) (w' : World) : Prop := ∃ z : Int, e = .returned (.int .i64 z) ∧ decide (0 ≤ z) = q ∧ Below w.heap.size w w'
theorem jgX (Q : Nat → Prop) (l : List Adr) (x : Adr) (a : Option Addr) (c : Nat) (w : World) (h : AdrsM Q w (.slice a l.length c) l) :
 Calls Tryz.prog 213 #[.slice a l.length c, .agg #[.string (S x.1), .string (S x.2)]] w (IxP w (l.any fun z => decide (x = z))) := by
 have hm : l.length ≤ maxLen := by obtain ⟨_, _, _, hm, _⟩ := h; exact hm
 unfold maxLen at hm; obtain ⟨W1, hW1⟩ : ∃ W1, W1 = w.alloc (.cells #[.string (S x.1), .string (S x.2)] 76) := ⟨_, rfl⟩; have HWE := hid hW1; have HB1 := hid (show Below w.heap.size w W1 by rw [hW1]; exact nb0 _ _); have c0 : W1.cell? ⟨w.heap.size, 0, none⟩ = some (.string (S x.1)) := by rw [hW1]; simp
 have c1 : W1.cell? ⟨w.heap.size, 1, none⟩ = some (.string (S x.2)) := by rw [hW1]; simp
 have HL := hid (h.next HB1.out); clear hW1 h; have HN : Hid ((l.any fun z => decide (x = z)) = (l.drop 0).any fun z => decide (x = z)) := rfl; obtain ⟨q, hq⟩ : ∃ q, q = l.any fun z => decide (x = z) := ⟨_, rfl⟩
 rw [← hq] at HN ⊢; clear hq; have HEQ := hid (jhT x); go_enter Tryz.func213, Tryz.ntmps213; go_wp2_with fail; rw [← HWE.out]; go_wp2
 go_loopw [8] (fun v wr => ∃ i : Nat, i ≤ l.length ∧ v = .int .i64 i ∧ Hid (wr.heap = W1.heap) ∧ Hid (Below w.heap.size w wr) ∧ Hid (q = (l.drop i).any fun z => decide (x = z))) (fun v _ => l.length - (intOf v).toNat)
 case atStart => exact ⟨0, Nat.zero_le _, rfl, rfl, HB1, HN⟩
 case round =>
  obtain ⟨i, hi, rfl, HW, HB, HI⟩ := hrel; have d0 := jiN c0 HW.out; have d1 := jiN c1 HW.out; have HLR := hid (HL.out.same HW.out)
  by_cases hlt : i < l.length
  · have i1 : (i : Int) < (l.length : Int) := by omega
    have i0 : (0 : Int) ≤ (i : Int) := by omega
    obtain ⟨y, hy⟩ : ∃ y, l[i]? = some y := ⟨_, List.getElem?_eq_getElem hlt⟩; have HS := hid (jfZ (x := x) hy); obtain ⟨b, o, rfl, _, _, e0, e1⟩ := jdd HLR.out hy; have eq1 : ∀ w : World, (binOp .eql 76 (.agg #[.string (S x.1), .string (S x.2)]) (.agg #[.string (S y.1), .string (S y.2)])).run Tryz.prog w = .ok (.bool (decide (x = y))) w := HEQ.out y; clear hy
    by_cases hp : x = y
    · have HE := hid (show q = true by rw [HI.out, HS.out]; simp [hp]); have ed : decide (x = y) = true := by simp [hp]
      rw [ed] at eq1; clear hp ed; go_wp2
      go_quiet (fail)
      go_wp2; go_ret; exact ⟨_, rfl, by rw [HE.out]; simp, qa HB.out _⟩
    · have HE := hid (show q = (l.drop (i + 1)).any fun z => decide (x = z) by rw [HI.out, HS.out]; simp [hp]); have ed : decide (x = y) = false := by simp [hp]
      rw [ed] at eq1; clear hp ed; go_wp2
      go_quiet (fail)
      go_wp2
      go_roundw
      case rel => first | exact ⟨i + 1, by omega, by go_num, HW, qa HB.out _, HE⟩ | ((repeat apply Exists.intro); exact ⟨⟨i + 1, by omega, by go_num, HW, qa HB.out _, HE⟩, rfl⟩) | (refine ⟨trivial, ?_⟩; (repeat apply Exists.intro); exact ⟨⟨i + 1, by omega, by go_num, HW, qa HB.out _, HE⟩, rfl⟩)
      case measure => simp [intOf]; omega
  · have i1 : ¬ (i : Int) < (l.length : Int) := by omega
    have HE := hid (show q = false by rw [HI.out, List.drop_eq_nil_of_le (by omega)]; rfl); go_wp2; go_ret; exact ⟨_, rfl, by rw [HE.out]; rfl, HB.out⟩
theorem jgY (Q : Nat → Prop) (l : List (List UInt8)) (x : List UInt8) (a : Option Addr) (c : Nat) (w : World) (h : TxtsM Q w (.slice a l.length c) l) :
 Calls Tryz.prog 64 #[.slice a l.length c, .string (S x)] w (IxP w (l.any fun z => decide (x = z))) := by
 have hm : l.length ≤ maxLen := by obtain ⟨_, _, _, hm, _⟩ := h; exact hm
 unfold maxLen at hm; have HL := hid h; clear h; have HN : Hid ((l.any fun z => decide (x = z)) = (l.drop 0).any fun z => decide (x = z)) := rfl; obtain ⟨q, hq⟩ : ∃ q, q = l.any fun z => decide (x = z) := ⟨_, rfl⟩
 rw [← hq] at HN ⊢; clear hq; go_enter Tryz.func64, Tryz.ntmps64; go_wp2
 go_loopw [8] (fun v wr => ∃ i : Nat, i ≤ l.length ∧ v = .int .i64 i ∧ wr = w ∧ Hid (q = (l.drop i).any fun z => decide (x = z))) (fun v _ => l.length - (intOf v).toNat)
 case atStart => exact ⟨0, Nat.zero_le _, rfl, rfl, HN⟩
 case round =>
  obtain ⟨i, hi, rfl, rfl, HI⟩ := hrel
  by_cases hlt : i < l.length
  · have i1 : (i : Int) < (l.length : Int) := by omega
    have i0 : (0 : Int) ≤ (i : Int) := by omega
    obtain ⟨y, hy⟩ : ∃ y, l[i]? = some y := ⟨_, List.getElem?_eq_getElem hlt⟩; have HS := hid (jfZ (x := x) hy); obtain ⟨b, o, rfl, _, _, e0⟩ := jjG HL.out hy; have eq1 := jlA x y; clear hy
    by_cases hp : x = y
    · have HE := hid (show q = true by rw [HI.out, HS.out]; simp [hp]); have ed : decide (x = y) = true := by simp [hp]
      rw [ed] at eq1; clear hp ed; go_wp2; go_ret; exact ⟨_, rfl, by rw [HE.out]; simp, Below.refl _ _⟩
    · have HE := hid (show q = (l.drop (i + 1)).any fun z => decide (x = z) by rw [HI.out, HS.out]; simp [hp]); have ed : decide (x = y) = false := by simp [hp]
      rw [ed] at eq1; clear hp ed; go_wp2
      go_roundw
      case rel => first | exact ⟨i + 1, by omega, by go_num, by first | rfl | trivial, HE⟩ | ((repeat apply Exists.intro); exact ⟨⟨i + 1, by omega, by go_num, by first | rfl | trivial, HE⟩, rfl⟩) | (refine ⟨trivial, ?_⟩; (repeat apply Exists.intro); exact ⟨⟨i + 1, by omega, by go_num, by first | rfl | trivial, HE⟩, rfl⟩)
      case measure => simp [intOf]; omega
  · have i1 : ¬ (i : Int) < (l.length : Int) := by omega
    have HE := hid (show q = false by rw [HI.out, List.drop_eq_nil_of_le (by omega)]; rfl); go_wp2; go_ret; exact ⟨_, rfl, by rw [HE.out]; rfl, Below.refl _ _⟩
theorem jav (Q : Nat → Prop) (l : List Adr) (x : Adr) (a : Option Addr) (c : Nat) (w : World) (h : AdrsM Q w (.slice a l.length c) l) :
 Calls Tryz.prog 179 #[.slice a l.length c, .agg #[.string (S x.1), .string (S x.2)]] w fun e w' => e = .returned (.bool (l.contains x)) ∧ Below w.heap.size w w' := by
 have HB1 := hid (show Below w.heap.size w (w.alloc (.cells #[.string (S x.1), .string (S x.2)] 76)) from nb0 _ _); have HX := hid (jgX Q l x a c _ (h.next HB1.out)); rw [← jh3]; clear h; go_enter Tryz.func179, Tryz.ntmps179; go_wp2_with fail; refine HX.out.mono ?_; rintro e u ⟨z, rfl, hz, hb⟩; have HZ := hid hz; have HB := hid hb; clear hz hb; go_wp2; go_ret; exact ⟨jb (by rw [← HZ.out]), jfQ HB1.out HB.out (Nat.le_refl _)⟩
theorem jaw (Q : Nat → Prop) (l : List (List UInt8)) (x : List UInt8) (a : Option Addr) (c : Nat) (w : World) (h : TxtsM Q w (.slice a l.length c) l) :
 Calls Tryz.prog 35 #[.slice a l.length c, .string (S x)] w fun e w' => e = .returned (.bool (l.contains x)) ∧ Below w.heap.size w w' := by
 have HX := hid (jgY Q l x a c _ h); rw [← jh3]; clear h; go_enter Tryz.func35, Tryz.ntmps35; go_wp2_with fail; refine HX.out.mono ?_; rintro e u ⟨z, rfl, hz, hb⟩; have HZ := hid hz; have HB := hid hb; clear hz hb; go_wp2; go_ret; exact ⟨jb (by rw [← HZ.out]), HB.out⟩
theorem jlR (l : List Adr) : ∀ u ∈ qd l, u.oneCell' = true := by
 intro u hu; obtain ⟨cs, hcs, hu⟩ := List.mem_flatten.1 hu; obtain ⟨m, _, rfl⟩ := List.mem_map.1 hcs; simp only [List.mem_cons, List.not_mem_nil, or_false] at hu
 rcases hu with rfl | rfl <;> rfl
theorem jf6 : (Tryz.prog.info? 76).map (fun i => (i.zero, i.size, i.bytes)) = some (some (.agg #[.string ByteArray.empty, .string ByteArray.empty]), 2, 32) := by kernel_rfl
theorem je7 {Q : Nat → Prop} {w : World} {b o c : Nat} {l : List Adr} (h : AdrsM Q w (.slice (some ⟨b, o, none⟩) l.length c) l) : ∀ j u, (qd l)[j]? = some u → w.cell? ((⟨b, o, none⟩ : Addr).add j) = some u := by
 intro j u hj; have hlen : j < l.length * 2 := by rw [← qf]; exact (List.getElem?_eq_some_iff.1 hj).1
 obtain ⟨x, hx⟩ : ∃ x, l[j / 2]? = some x := ⟨_, List.getElem?_eq_getElem (by omega)⟩; obtain ⟨b', o', e, _, _, e0, e1⟩ := jdd h hx; simp only [Option.some.injEq, Addr.mk.injEq, and_true] at e; obtain ⟨rfl, rfl⟩ := e; obtain ⟨g0, g1⟩ := jcM hx; rw [Addr.add_lit]
 rcases Nat.mod_two_eq_zero_or_one j with hm | hm
 · have ej : j = j / 2 * 2 := by omega
   rw [← ej] at g0 e0; rw [g0] at hj; rw [← hj]; exact e0
 · have ej : j = j / 2 * 2 + 1 := by omega
   rw [← ej] at g1; rw [show o + j / 2 * 2 + 1 = o + j by omega] at e1; rw [g1] at hj; rw [← hj]; exact e1
theorem jgF (Q : Nat → Prop) (l : List Adr) (v : Value) (w : World) (h : AdrsM Q w v l) (hn : l.length ≤ 1000) :
 Calls Tryz.prog 137 #[v] w fun e w' => ∃ v', e = .returned v' ∧ OwnL w' w.heap.size v' l ∧ Below w.heap.size w w' := by
 obtain ⟨i0, hi, hz0, hz1, hz2⟩ := info_parts jf6; have q22 : ∀ (w : World) (a : Option Addr) (n c n' c' : Nat), (binOp .eql 77 (.slice a n c) (.slice none n' c')).run Tryz.prog w = .ok (.bool a.isNone) w := fun w a n c n' c' => Lib.run_eql_slice_nil w _ _ a n c n' c' Tryz.underlying77
 obtain ⟨a, c, rfl, hm, hr⟩ := h; cases a with
 | none =>
   have hl : l = [] := by
    cases l with
    | nil => rfl
    | cons x t => obtain ⟨_, _, _, e, _⟩ := hr 0 x rfl; cases e
   subst hl; clear hr; go_enter Tryz.func137, Tryz.ntmps137; go_wp2; go_ret; exact ⟨_, rfl, OwnL.nil _ _, Below.refl _ _⟩
 | some ad =>
   have hc : ∀ j u, (qd l)[j]? = some u → w.cell? (ad.add j) = some u := by
    intro j u hj; have hlen : j < l.length * 2 := by rw [← qf]; exact (List.getElem?_eq_some_iff.1 hj).1
    obtain ⟨x, hx⟩ : ∃ x, l[0]? = some x := ⟨_, List.getElem?_eq_getElem (by omega)⟩; obtain ⟨b, o, cs, e, _⟩ := hr 0 x hx; simp only [Option.some.injEq] at e; subst e; exact je7 (c := c) (show AdrsM Q w (.slice (some ⟨b, o, none⟩) l.length c) l from ⟨some ⟨b, o, none⟩, c, rfl, hm, hr⟩) j u hj
   have HC := hid hc; have H1 := hid (jlR l); have HL := hid (qf l); clear hc hr; go_enter Tryz.func137, Tryz.ntmps137
   go_wp2_with (at_builtin; refine wpList_append_own _ rfl _ _ 77 rfl w.heap.size 76 i0 _ 2 32 Tryz.underlying77 hi hz0 hz1 hz2 rfl (by decide) _ _ _ rfl (World.ownsRow_made w #[] 0 (Nat.le_refl _) (Nat.zero_le _) rfl) ad l.length c (qd l) rfl ?qc1 ?qc2 ?qc3 ?qc4 ?qc5 ?qc6 ?_)
   case qc1 => exact HL.out
   case qc2 => exact fun j u hj => Lib.cell?_alloc_some _ (HC.out j u hj)
   case qc3 => exact H1.out
   case qc4 => unfold maxLen; omega
   case qc5 => omega
   case qc6 => simp
   intro v' w1 hown hgrow hnil; have HO := hid hown; have HB := hid (show Below w.heap.size w w1 from ((Below.refl _ w).alloc (Nat.le_refl _) _).grown hgrow (by simp) (by intro k hk; simp [Value.ownBlock] at hk; omega)); clear hown hgrow hnil; go_wp2; go_ret; exact ⟨v', rfl, by unfold OwnL; simpa using HO.out, HB.out⟩
def RmB (w : World) (b : Nat) (cs : List Value) : Prop := w.heap[b]? = some (.cells cs.toArray 85) ∧ cs.length = 38
theorem RmB.cell {w : World} {b : Nat} {cs : List Value} (h : RmB w b cs) {j : Nat} {v : Value} (hj : cs[j]? = some v) : w.cell? ⟨b, j, none⟩ = some v := by
 simp only [World.cell?, h.1]
 simpa using hj
theorem RmB.next {w w' : World} {b : Nat} {cs : List Value} (h : RmB w b cs) (hb : Below w.heap.size w w') : RmB w' b cs := ⟨(hb.block b (Array.getElem?_eq_some_iff.1 h.1).1).trans h.1, h.2⟩
def AdE (w : World) (r : Int) (e : Ending) (w' : World) : Prop := e = .returned (.int .i64 r) ∧ Below w.heap.size w w'
def OpE (w : World) (r : Int) (e : Ending) (w' : World) : Prop := e = .returned (.tuple #[.pointer none, .int .i64 r]) ∧ Below w.heap.size w w'
theorem jng (a : Option Addr) (c : Nat) (w : World) : Calls Tryz.prog 13 #[.slice a 0 c] w (OpE w 1) := by
 go_enter Tryz.func13, Tryz.ntmps13; go_wp2; go_ret2; exact ⟨rfl, Below.refl _ _⟩
theorem jnf (a : Option Addr) (c : Nat) (w : World) : Calls Tryz.prog 13 #[.slice a 4 c] w (OpE w 1) := by
 go_enter Tryz.func13, Tryz.ntmps13; go_wp2; go_ret2; exact ⟨rfl, Below.refl _ _⟩
structure MRow where
 e : TypeId
 k : Nat
 v : Value
 n : Nat
 xs : List Value
def mB (M : List MRow) : List Nat := M.filterMap (·.v.ownBlock)
def Av (b : Nat) (G : List Nat) (k : Nat) : Prop := k ≠ b ∧ k ∉ G
structure Stp (b : Nat) (G : List Nat) (w : World) (G' : List Nat) (w' : World) : Prop where
 os : w'.os = w.os
 tape : w'.tape = w.tape
 output : w'.output = w.output
 size : w.heap.size ≤ w'.heap.size
 block : ∀ k, k < w.heap.size → Av b G k → w'.heap[k]? = w.heap[k]?
 row : ∀ k ∈ G', k ∈ G ∨ w.heap.size ≤ k
theorem Stp.of {b : Nat} {G : List Nat} {w w' : World} (h : Below w.heap.size w w') : Stp b G w G w' := ⟨h.os, h.tape, h.output, h.size, fun k hk _ => h.block k hk, fun _ h => .inl h⟩
theorem Stp.refl (b : Nat) (G : List Nat) (w : World) : Stp b G w G w := .of (Below.refl _ _)
theorem Stp.trans {b : Nat} {G G' G'' : List Nat} {x y z : World} (h : Stp b G x G' y) (k : Stp b G' y G'' z) : Stp b G x G'' z := by
 refine ⟨k.os.trans h.os, k.tape.trans h.tape, k.output.trans h.output, Nat.le_trans h.size k.size, fun i hi hA => ?_, fun i hi => ?_⟩
 · refine (k.block i (Nat.lt_of_lt_of_le hi h.size) ⟨hA.1, fun e => ?_⟩).trans (h.block i hi hA)
   rcases h.row i e with q | q
   · exact hA.2 q
   · omega
 · rcases k.row i hi with q | q
   · exact h.row i q
   · exact .inr (Nat.le_trans h.size q)
theorem Stp.below {b B : Nat} {G G' : List Nat} {w w' : World} (h : Stp b G w G' w') (hB : B ≤ b) (hw : B ≤ w.heap.size) (hG : ∀ k ∈ G, B ≤ k) : Below B w w' :=
 ⟨h.os, h.tape, h.output, h.size, fun k hk => h.block k (by omega) ⟨by omega, fun e => by have := hG k e; omega⟩⟩
theorem Stp.keeps {b : Nat} {G G' : List Nat} {w w' : World} (h : Stp b G w G' w') : Keeps (Av b G) w w' := ⟨h.size, h.block⟩
theorem Stp.av {b : Nat} {G G' : List Nat} {w w' : World} (h : Stp b G w G' w') {k : Nat} (hk : k < w.heap.size) (hA : Av b G k) : Av b G' k :=
 ⟨hA.1, fun e => by rcases h.row k e with q | q; exact hA.2 q; omega⟩
theorem RowM.stp {A : Type} {b : Nat} {G G' : List Nat} {k : Nat} {P P' : A → List Value → Prop} {w w' : World} {v : Value} {l : List A} (h : RowM (Av b G) k P w v l) (hs : Stp b G w G' w') (hp : ∀ x cs, P x cs → P' x cs) : RowM (Av b G') k P' w' v l := by
 obtain ⟨a, c, hv, hm, hx⟩ := h; refine ⟨a, c, hv, hm, fun i x hi => ?_⟩; obtain ⟨g, o, cs, ha, hg, hQ, hl, hc, hP⟩ := hx i x hi; exact ⟨g, o, cs, ha, Nat.lt_of_lt_of_le hg hs.size, hs.av hg hQ, hl, fun j u hj => (World.cell?_of_block (hs.block g hg hQ)).trans (hc j u hj), hp x cs hP⟩
def AvN (N b : Nat) (G : List Nat) (k : Nat) : Prop := N ≤ k ∧ Av b G k
theorem RowM.stpN {A : Type} {N b : Nat} {G G' : List Nat} {k : Nat} {P P' : A → List Value → Prop} {w w' : World} {v : Value} {l : List A} (h : RowM (AvN N b G) k P w v l) (hs : Stp b G w G' w') (hp : ∀ x cs, P x cs → P' x cs) : RowM (AvN N b G') k P' w' v l := by
 obtain ⟨a, c, hv, hm, hx⟩ := h; refine ⟨a, c, hv, hm, fun i x hx' => ?_⟩; obtain ⟨g, o, cs, ha, hg, hQ, hl, hc, hP⟩ := hx i x hx'; exact ⟨g, o, cs, ha, Nat.lt_of_lt_of_le hg hs.size, ⟨hQ.1, hs.av hg hQ.2⟩, hl, fun j u hj => (World.cell?_of_block (hs.block g hg hQ.2)).trans (hc j u hj), hp x cs hP⟩
theorem TxtsM.stp {N b : Nat} {G G' : List Nat} {w w' : World} {v : Value} {l : List (List UInt8)} (h : TxtsM (AvN N b G) w v l) (hs : Stp b G w G' w') : TxtsM (AvN N b G') w' v l := RowM.stpN h hs fun _ _ h => h
structure MOk (w : World) (B b : Nat) (M : List MRow) : Prop where
 own : ∀ r ∈ M, w.ownsRow B r.e r.k r.v r.n r.xs
 nd : (mB M).Nodup
 far : b ∉ mB M
 lt : b < w.heap.size
theorem jna {M : List MRow} {k : Nat} (h : k ∈ mB M) : ∃ r ∈ M, r.v.ownBlock = some k := List.mem_filterMap.1 h
theorem MOk.rng {w : World} {B b : Nat} {M : List MRow} (h : MOk w B b M) : ∀ k ∈ mB M, B ≤ k ∧ k < w.heap.size := fun k hk => by
 obtain ⟨r, hr, e⟩ := jna hk; exact World.ownsRow.lt (h.own r hr) k e
theorem MOk.next {w w' : World} {B b : Nat} {M : List MRow} (h : MOk w B b M) (hb : Below w.heap.size w w') : MOk w' B b M := ⟨fun r hr => j2 (h.own r hr) hb, h.nd, h.far, Nat.lt_of_lt_of_le h.lt hb.size⟩
theorem MOk.box {w : World} {B b : Nat} {M : List MRow} (h : MOk w B b M) (j : Nat) (u : Value) : MOk (w.setCell ⟨b, j, none⟩ u) B b M := by
 refine ⟨fun r hr => ?_, h.nd, h.far, by have := h.lt; simpa [World.setCell] using this⟩; obtain ⟨h1, h2⟩ := h.own r hr; refine ⟨h1, h2.imp id ?_⟩; rintro ⟨g, cap, cur, hv, hB, hg, hx⟩; refine ⟨g, cap, cur, hv, hB, (Below.heap_setCell _ _ _ _ (show g ≠ b from fun e => h.far ?_)).trans hg, hx⟩; exact List.mem_filterMap.2 ⟨r, hr, by rw [hv]; exact congrArg some e⟩
theorem jkE {w w' : World} {row : Option Nat} {B e k : Nat} {v : Value} {n : Nat} {xs : List Value} (h : w.ownsRow B e k v n xs) (hg : w.grownBy w' row) (hne : ∀ g, v.ownBlock = some g → row ≠ some g) : w'.ownsRow B e k v n xs := by
 obtain ⟨h1, h2⟩ := h; refine ⟨h1, h2.imp id ?_⟩; rintro ⟨g, cap, cur, rfl, hB, hg', hr⟩; exact ⟨g, cap, cur, rfl, hB, (hg.block g (Array.getElem?_eq_some_iff.1 hg').1 (fun e => hne g rfl e.symm)).trans hg', hr⟩
theorem jb3 (A Z : List MRow) : mB (A ++ Z) = mB A ++ mB Z := List.filterMap_append
theorem ja2 (r : MRow) (Z : List MRow) : mB (r :: Z) = r.v.ownBlock.toList ++ mB Z := by
 unfold mB; rw [List.filterMap_cons]; cases r.v.ownBlock <;> rfl
theorem MOk.grow {w w' : World} {B b H : Nat} {A Z : List MRow} {r r' : MRow} (h : MOk w B b (A ++ r :: Z)) (hg : w.grownBy w' r.v.ownBlock) (ho : w'.ownsRow B r'.e r'.k r'.v r'.n r'.xs) (hH : w.heap.size ≤ H)
 (hat : ∀ g, r'.v.ownBlock = some g → r.v.ownBlock = some g ∨ H ≤ g) : MOk w' B b (A ++ r' :: Z) ∧ Stp b (mB (A ++ r :: Z)) w (mB (A ++ r' :: Z)) w' := by
 have hlt := h.rng; have hd := h.nd; have hf := h.far; have hbl := h.lt; rw [jb3, ja2] at hd hlt hf; have hd1 := List.nodup_append.1 hd; have hd2 := List.nodup_append.1 hd1.2.1; have hrA : ∀ g, r.v.ownBlock = some g → g ∉ mB A := fun g e hA => hd1.2.2 g hA g (by simp [e]) rfl
 have hrB : ∀ g, r.v.ownBlock = some g → g ∉ mB Z := fun g e hB => hd2.2.2 g (by simp [e]) g hB rfl
 have ho' : ∀ x ∈ A ++ Z, w'.ownsRow B x.e x.k x.v x.n x.xs := fun x hx => by
  refine jkE (h.own x (by rcases List.mem_append.1 hx with q | q <;> simp [q])) hg fun g e e' => ?_
  have hm : g ∈ mB (A ++ Z) := List.mem_filterMap.2 ⟨x, hx, e⟩; rw [jb3] at hm
  rcases List.mem_append.1 hm with q | q
  · exact hrA g e' q
  · exact hrB g e' q
 have hnew : ∀ g, r'.v.ownBlock = some g → g ∉ mB A ∧ g ∉ mB Z := fun g e => by
  rcases hat g e with q | q
  · exact ⟨hrA g q, hrB g q⟩
  · exact ⟨fun hA => by have := hlt g (by simp [hA]); omega, fun hB => by have := hlt g (by simp [hB]); omega⟩
 refine ⟨⟨fun x hx => ?_, ?_, ?_, Nat.lt_of_lt_of_le hbl hg.size⟩, hg.os, hg.tape, hg.output, hg.size, fun k hk hA => hg.block k hk fun e => hA.2 ?_, fun k hk => ?_⟩
 · rcases List.mem_append.1 hx with q | q
   · exact ho' x (by simp [q])
   · rcases List.mem_cons.1 q with rfl | q
     · exact ho
     · exact ho' x (by simp [q])
 · rw [jb3, ja2]; refine List.nodup_append.2 ⟨hd1.1, List.nodup_append.2 ⟨by cases r'.v.ownBlock <;> simp, hd2.2.1, ?_⟩, ?_⟩
   · intro a ha c hc e; subst e; exact (hnew a (by simpa using ha)).2 hc
   · intro a ha c hc e; subst e
     rcases List.mem_append.1 hc with q | q
     · exact (hnew a (by simpa using q)).1 ha
     · exact hd1.2.2 a ha a (by simp [q]) rfl
 · rw [jb3, ja2]; intro hc
   rcases List.mem_append.1 hc with q | q
   · exact hf (by simp [q])
   · rcases List.mem_append.1 q with q | q
     · have q : r'.v.ownBlock = some b := by simpa using q
       rcases hat b q with e | e
       · exact hf (by simp [e])
       · omega
     · exact hf (by simp [q])
 · rw [jb3, ja2]
   simp [e]
 · rw [jb3, ja2] at hk ⊢
   rcases List.mem_append.1 hk with q | q
   · exact .inl (by simp [q])
   · rcases List.mem_append.1 q with q | q
     · have q : r'.v.ownBlock = some k := by simpa using q
       rcases hat k q with e | e
       · exact .inl (by simp [e])
       · exact .inr (by omega)
     · exact .inl (by simp [q])
theorem Stp.box {b : Nat} {G G' : List Nat} {w w' : World} (h : Stp b G w G' w') (j : Nat) (u : Value) : Stp b G w G' (w'.setCell ⟨b, j, none⟩ u) :=
 ⟨h.os, h.tape, h.output, by have := h.size; simpa [World.setCell] using this, fun k hk hA => (Below.heap_setCell _ _ _ _ hA.1).trans (h.block k hk hA), h.row⟩
theorem jam {A : Type} {B : Nat} {e : TypeId} {w : World} {v : Value} {l : List A} {f : A → Value} {Q : Nat → Prop} (h : w.ownsRow B e 1 v l.length (l.map f)) (hs : l.length ≤ maxLen) (hQ : ∀ g, v.ownBlock = some g → Q g) : RowM Q 1 (fun x cs => cs = [f x]) w v l := by
 rcases h.2 with ⟨rfl, h0⟩ | ⟨g, cap, cur, rfl, hB, hg, hnc, hcm, hcs, htk⟩
 · obtain rfl : l = [] := List.length_eq_zero_iff.1 h0; exact jg _ _ _ _ _ _
 · refine ⟨some ⟨g, 0, none⟩, cap, rfl, hs, fun i x hx => ⟨g, 0, [f x], rfl, (Array.getElem?_eq_some_iff.1 hg).1, hQ g rfl, rfl, fun j u hj => ?_, rfl⟩⟩; have hi : i < l.length := (List.getElem?_eq_some_iff.1 hx).1
   match j, hj with
   | 0, hj =>
     cases hj; have h1 : cur.toList[i]? = some (f x) := by
        rw [← List.getElem?_take_of_lt (show i < l.length * 1 by omega), htk, List.getElem?_map, hx]; rfl
     simp only [World.cell?, hg, Nat.zero_add, Nat.mul_one, Nat.add_zero]
     simpa using h1
end Go.Proofs.YtmgdnhjemhhleaaGreatDoor
