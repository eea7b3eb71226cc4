/-
  What newLedger does: the walk.
  What addUser does with a user that is refused: the walks.
  What post.Run and open do with users that are refused: the walks.
  A box beside rows of its own that are written: how these stay apart, and what stays as it was.
  Drawn regions whose last operations write what others of them load: a condition T is to be kept by every operation but the late ones, and an operation for which all late ones wait may be taken first under T.
-/
import Derived.Test.YtlfgemnmfhknfaaGreatDoorZQTokMark6
import Derived.Test.YtlfgemnmfhknfaaGreatDoorZQLmGo8
import Derived.Deep.AppendLies
import Derived.Test.YtlfgemnmfhknfaaGreatDoorZQScrCard11
import Derived.Test.YtlfgemnmfhknfaaGreatDoorZQLmMem8
import Derived.Test.YtlfgemnmfhknfaaGreatDoorZQScrRd135
import Derived.Test.YtlfgemnmfhknfaaGreatDoorZQPure5
import Derived.Test.YtlfgemnmfhknfaaGreatDoorRows
import Derived.Deep.RegionHeld3
namespace Go.Proofs.YtlfgemnmfhknfaaGreatDoor
open Go.RowKit Go.Proofs
def inbC (bs : List Nat) : List Value := bs.flatMap fun b => [.slice (some ⟨b, 0, none⟩) 1 1, .slice none 0 0]
def inbB (w : World) (B : Nat) (bs : List Nat) : Prop := ∀ b ∈ bs, B ≤ b ∧ w.heap[b]? = some (.cells #[.string ⟨#[73, 78, 66, 79, 88]⟩, .int .i64 1, .slice none 0 0] 73)
theorem zE (w : World) (cs : List Value) (t : TypeId) : ∀ j u, cs[j]? = some u → (w.alloc (.cells cs.toArray t)).cell? ((⟨w.heap.size, 0, none⟩ : Addr).add j) = some u := by
  intro j u hj; rw [Addr.add_lit]; have := heap_alloc_new w (.cells cs.toArray t); simp only [World.cell?, this, Nat.zero_add]
  simpa using hj
theorem But.lowB' {b B : Nat} {w w' : World} (h : But b w w') (hb : B ≤ b) (hB : B ≤ w.heap.size) : Below B w w' := ⟨h.os, h.tape, h.output, h.size, fun k hk => h.block k (by omega) (by omega)⟩
theorem put6 {w : World} {b : Nat} {t : TypeId} (v0 v1 v2 v3 v4 v5 : Value) {u0 u1 u2 u3 u4 u5 : Value} (h : w.heap[b]? = some (.cells #[u0, u1, u2, u3, u4, u5] t)) : (w.setCells b 0 [v0, v1, v2, v3, v4, v5]).heap[b]? = some (.cells #[v0, v1, v2, v3, v4, v5] t) := by
  have h := heap_setCell_same _ b 0 _ t v0 h; have h := heap_setCell_same _ b 1 _ t v1 h; have h := heap_setCell_same _ b 2 _ t v2 h; have h := heap_setCell_same _ b 3 _ t v3 h; have h := heap_setCell_same _ b 4 _ t v4 h; have h := heap_setCell_same _ b 5 _ t v5 h; simp only [World.setCells, Nat.reduceAdd]
  simpa using h
theorem jeA {b k : Nat} (hn : k ≠ b) : ∀ (vs : List Value) (o : Nat) (w : World), (w.setCells b o vs).heap[k]? = w.heap[k]? := by
  intro vs
  induction vs with
  | nil => intro o w; rfl
  | cons v vs ih => intro o w; exact (ih (o + 1) _).trans (Below.heap_setCell _ _ _ _ hn)
theorem jh1 {B b : Nat} {w w2 : World} {vs : List Value} {o : Nat} (hb : B ≤ b) (h : Below B w w2) : Below B w (w2.setCells b o vs) := by
  induction vs generalizing w2 o with
  | nil => exact h
  | cons v vs ih => exact ih (h.setCell hb v)
theorem jfW (bs : List Nat) : (inbC bs).length = bs.length * 2 := by
  induction bs with
  | nil => rfl
  | cons b bs ih => rw [inbC, List.flatMap_cons, List.length_append, show (bs.flatMap fun b => [Value.slice (some ⟨b, 0, none⟩) 1 1, .slice none 0 0]) = inbC bs from rfl, ih]; simp; omega
theorem jiq (bs : List Nat) (b : Nat) : inbC (bs ++ [b]) = inbC bs ++ [.slice (some ⟨b, 0, none⟩) 1 1, .slice none 0 0] := by simp [inbC]
theorem jjA (bs : List Nat) : ∀ u ∈ inbC bs, u.oneCell' = true := by
  intro u hu; obtain ⟨b, _, h⟩ := List.mem_flatMap.1 hu
  simp at h
  rcases h with rfl | rfl <;> rfl
def NlP (w : World) (n : Nat) (e : Ending) (w' : World) : Prop :=
  ∃ (bs : List Nat) (sa ta : Option Addr) (cs cst : Nat), e = .returned (.agg #[.slice none 0 0, .int .i64 0, .int .i64 0, .int .i64 0, .slice sa n cs, .slice ta n cst]) ∧ bs.length = n ∧ inbB w' w.heap.size bs ∧
    w'.ownsRow w.heap.size 55 2 (.slice sa n cs) n (inbC bs) ∧ w'.ownsRow w.heap.size 55 2 (.slice ta n cst) n (inbC bs) ∧ (∀ q, (Value.slice sa n cs).ownBlock = some q → (Value.slice ta n cst).ownBlock ≠ some q) ∧ Below w.heap.size w w'
set_option maxHeartbeats 1000000 in
set_option maxRecDepth 100000 in
theorem jdt (n : Nat) (hn : 0 < n ∧ n ≤ 3) (w : World) : Calls Tryz.prog 25 #[.int .i64 n] w (NlP w n) := by
  obtain ⟨i0, hi, hz0, hz1, hz2⟩ := info_parts jkI; obtain ⟨W0, hW0⟩ : ∃ W0, W0 = (w.alloc (.cells #[.slice none 0 0, .int .i64 0, .int .i64 0, .int .i64 0, .slice none 0 0, .slice none 0 0] 79)).alloc (.cells #[.slice none 0 0, .int .i64 0, .int .i64 0, .int .i64 0, .slice none 0 0, .slice none 0 0] 79) := ⟨_, rfl⟩; have hB0 : Below w.heap.size w W0 := by rw [hW0]; exact ((Below.refl _ _).alloc (Nat.le_refl _) _).alloc (by simp) _
  have hz : W0.heap.size = w.heap.size + 2 := by rw [hW0]; simp
  have hr0 : W0.heap[w.heap.size]? = some (.cells #[.slice none 0 0, .int .i64 0, .int .i64 0, .int .i64 0, .slice none 0 0, .slice none 0 0] 79) := by
    rw [hW0]; exact (((Below.refl _ _).alloc (Nat.le_refl _) _).block w.heap.size (by simp)).trans (heap_alloc_new w _)
  have hl0 : W0.heap[w.heap.size + 1]? = some (.cells #[.slice none 0 0, .int .i64 0, .int .i64 0, .int .i64 0, .slice none 0 0, .slice none 0 0] 79) := by
    rw [hW0]; have := heap_alloc_new (w.alloc (.cells #[.slice none 0 0, .int .i64 0, .int .i64 0, .int .i64 0, .slice none 0 0, .slice none 0 0] 79)) (.cells #[.slice none 0 0, .int .i64 0, .int .i64 0, .int .i64 0, .slice none 0 0, .slice none 0 0] 79)
    simpa using this
  have HWE := hid hW0; have HB0 := hid hB0; have HR0 := hid hr0; have HL0 := hid hl0; clear hW0 hB0 hr0 hl0; go_enter Tryz.func25, Tryz.ntmps25; go_wp2; rw [← HWE.out]
  go_loopw [8] (fun i wr => ∃ (k : Nat) (bs : List Nat) (a9 : Option Addr) (c9 : Nat), k ≤ n ∧ i = .int .i64 k ∧ bs.length = k ∧ Hid (wr.heap[w.heap.size + 1]? = some (.cells #[.slice none 0 0, .int .i64 0, .int .i64 0, .int .i64 0, .slice none 0 0, .slice a9 k c9] 79)) ∧ Hid (wr.ownsRow W0.heap.size 55 2 (.slice a9 k c9) k (inbC bs)) ∧ Hid (inbB wr W0.heap.size bs) ∧ Hid (∀ q ∈ bs, (Value.slice a9 k c9).ownBlock ≠ some q) ∧ Hid (But (w.heap.size + 1) W0 wr)) (fun i _ => n - (intOf i).toNat)
  case atStart => exact ⟨0, [], none, 0, Nat.zero_le _, rfl, rfl, HL0, hid (World.ownsRow_nil _ _ _ _), hid (fun b hb => by cases hb), hid (fun b hb => by cases hb), hid (But.refl _ _)⟩
  case round =>
    obtain ⟨k, bs, a9, c9, hk, rfl, hbl, HX, HO, HI, HAP, HBT⟩ := hrel
    by_cases hlt : k < n
    · have k1 : (k : Int) < (n : Int) := by omega
      have k0 : (0 : Int) ≤ (k : Int) := by omega
      go_wp2_with fail; refine (jfr k (by omega) wr).mono ?_; rintro e w2 ⟨b, rfl, hbx, hbw, hb2⟩; have hnb : w.heap.size + 1 < wr.heap.size := by have := HBT.out.size; omega
      obtain ⟨W3, hW3⟩ : ∃ W3, W3 = w2.alloc (.cells #[.slice (some ⟨b, 0, none⟩) 1 1, .slice none 0 0] 55) := ⟨_, rfl⟩; have HWE3 := hid hW3; have hB3 : Below wr.heap.size wr W3 := by rw [hW3]; exact hb2.alloc hb2.size _
      have hX3 : W3.heap[w2.heap.size]? = some (.cells #[.slice (some ⟨b, 0, none⟩) 1 1, .slice none 0 0] 55) := by rw [hW3]; exact heap_alloc_new w2 _
      have x0 : W3.cell? ⟨w2.heap.size, 0, none⟩ = some (.slice (some ⟨b, 0, none⟩) 1 1) := by simp [World.cell?, hX3]
      have x1 : W3.cell? ⟨w2.heap.size, 1, none⟩ = some (.slice none 0 0) := by simp [World.cell?, hX3]
      have hL3 := (hB3.block _ hnb).trans HX.out; have y5 : W3.cell? ⟨w.heap.size + 1, 5, none⟩ = some (.slice a9 k c9) := by simp [World.cell?, hL3]
      have HL3 := hid hL3; have HO3 := hid (jR HO.out fun g hg => hB3.block g (World.ownsRow.lt HO.out g hg).2); have hlb : b < w2.heap.size := (Array.getElem?_eq_some_iff.1 hbx).1; have HI3 := hid (show inbB W3 W0.heap.size (bs ++ [b]) from fun q hq => by
        rcases List.mem_append.1 hq with h | h
        · obtain ⟨h1, h2⟩ := HI.out q h; exact ⟨h1, (hB3.block q (Array.getElem?_eq_some_iff.1 h2).1).trans h2⟩
        · rw [show q = b by simpa using h]; refine ⟨by have := HBT.out.size; omega, ?_⟩; rw [hW3]; exact (((Below.refl _ _).alloc (Nat.le_refl _) _).block b hlb).trans hbx)
      have HB3 := hid (HBT.out.trans (But.of hB3)); have hz3 := HB3.out.size; clear hb2 hB3 hW3 hX3 hbx hL3; go_upto_region 6 with fail
      rw [← HWE3.out]
      go_wp2_with (first
        | (at_builtin; refine wpList_append_lies _ rfl _ _ 35 rfl W0.heap.size 55 i0 _ 2 48 Tryz.underlying35 hi hz0 hz1 hz2 rfl (by omega) (.slice a9 k c9) k (inbC bs) rfl (World.ownsRow.alloc HO3.out _) ⟨W3.heap.size, 0, none⟩ 1 1 [.slice (some ⟨b, 0, none⟩) 1 1, .slice none 0 0] rfl rfl (zE W3 [.slice (some ⟨b, 0, none⟩) 1 1, .slice none 0 0] _) ?c1 (by omega) ?c2 ?c3 ?c4 _ rfl ?_)
        | fail)
      case c1 => simp [Value.oneCell']
      case c2 => unfold maxLen; omega
      case c3 => omega
      case c4 => simp; omega
      intro gm cap w4 hown hgrow hat hlt4; have hW3z : w2.heap.size < W3.heap.size := by rw [HWE3.out]; simp
      have hne : ∀ q ∈ bs ++ [b], (Value.slice a9 k c9).ownBlock ≠ some q := fun q hq e => by
        rcases List.mem_append.1 hq with h | h
        · exact HAP.out q h e
        · have h1 := (World.ownsRow.lt HO.out q e).2; rw [show q = b by simpa using h] at h1; omega
      have hoL : (Value.slice a9 k c9).ownBlock ≠ some (w.heap.size + 1) := fun e => by have := (World.ownsRow.lt HO3.out _ e).1; omega
      have al : ∀ q x, W3.heap[q]? = some x → (Value.slice a9 k c9).ownBlock ≠ some q → w4.heap[q]? = some x := fun q x hx hq => by
        have hql := (Array.getElem?_eq_some_iff.1 hx).1; exact (hgrow.block q (by simp; omega) (fun e => hq e.symm)).trans ((((Below.refl _ W3).alloc (Nat.le_refl _) _).block q hql).trans hx)
      have hL4 := al _ _ HL3.out hoL; have z5 : w4.cell? ⟨w.heap.size + 1, 5, none⟩ = some (.slice a9 k c9) := by simp [World.cell?, hL4]
      have zf : w4.frozen? ⟨w.heap.size + 1, 5, none⟩ = false := by simp [World.frozen?, hL4]
      have hgm : W0.heap.size ≤ gm := by
        rcases hat with e | e
        · exact (World.ownsRow.lt HO3.out gm e).1
        · have e' : gm = W3.heap.size + 1 := by simpa using e
          omega
      obtain ⟨W5, hW5⟩ : ∃ W5, W5 = w4.setCell ⟨w.heap.size + 1, 5, none⟩ (.slice (some ⟨gm, 0, none⟩) (k + 1) cap) := ⟨_, rfl⟩; have HW5 := hid hW5; have st : ∀ q, q ≠ w.heap.size + 1 → W5.heap[q]? = w4.heap[q]? := fun q hq => by rw [hW5]; exact Below.heap_setCell _ _ _ _ hq
      have HX5 := hid (show W5.heap[w.heap.size + 1]? = some (.cells #[.slice none 0 0, .int .i64 0, .int .i64 0, .int .i64 0, .slice none 0 0, .slice (some ⟨gm, 0, none⟩) (k + 1) cap] 79) by
        rw [hW5]; have := heap_setCell_same w4 (w.heap.size + 1) 5 _ _ (.slice (some ⟨gm, 0, none⟩) (k + 1) cap) hL4
        simpa using this)
      have HO5 := hid (show W5.ownsRow W0.heap.size 55 2 (.slice (some ⟨gm, 0, none⟩) (k + 1) cap) (k + 1) (inbC (bs ++ [b])) from jR (by rw [jiq, hz]; exact hown) fun g hg => st g (fun e => by have : gm = g := Option.some.inj hg; omega)); have HI5 := hid (show inbB W5 W0.heap.size (bs ++ [b]) from fun q hq => ⟨(HI3.out q hq).1, (st q (fun e => by have := (HI3.out q hq).1; omega)).trans (al _ _ (HI3.out q hq).2 (hne q hq))⟩); have HAP5 := hid (show ∀ q ∈ bs ++ [b], (Value.slice (some (⟨gm, 0, none⟩ : Addr)) (k + 1) cap).ownBlock ≠ some q from fun q hq e => by
        have e1 : gm = q := Option.some.inj e; have hql := (Array.getElem?_eq_some_iff.1 (HI3.out q hq).2).1
        rcases hat with h | h
        · exact hne q hq (by rw [h, e1])
        · have e' : gm = W3.heap.size + 1 := by simpa using h
          omega)
      have HBT5 := hid (show But (w.heap.size + 1) W0 W5 by
        refine ⟨?_, ?_, ?_, ?_, fun q hq hn => ?_⟩
        · rw [hW5]; exact hgrow.os.trans HB3.out.os
        · rw [hW5]; exact hgrow.tape.trans HB3.out.tape
        · rw [hW5]; exact hgrow.output.trans HB3.out.output
        · rw [hW5]; have := hgrow.size; simp [World.setCell] at this ⊢; omega
        · rw [st q hn]; have hx : W0.heap[q]? = some W0.heap[q] := Array.getElem?_eq_getElem hq; rw [hx]; exact al q _ ((HB3.out.block q hq hn).trans hx) (fun e => by have := (World.ownsRow.lt HO3.out _ e).1; omega))
      clear hown hgrow hat al st hW5; go_wp2; rw [← HW5.out]
      go_roundw
      case rel => first | exact ⟨k + 1, bs ++ [b], _, cap, by omega, by go_num, by simp [hbl], HX5, HO5, HI5, HAP5, HBT5⟩ | ((repeat apply Exists.intro); exact ⟨⟨k + 1, bs ++ [b], _, cap, by omega, by go_num, by simp [hbl], HX5, HO5, HI5, HAP5, HBT5⟩, rfl⟩)
      case measure => simp [intOf]; omega
    · have k1 : ¬ (k : Int) < (n : Int) := by omega
      obtain rfl : k = n := by omega
      obtain ⟨g, rfl⟩ : ∃ g, a9 = some ⟨g, 0, none⟩ := by
        rcases HO.out.2 with ⟨_, h0⟩ | ⟨g, cap, cur, hv, _⟩
        · omega
        · simp only [Value.slice.injEq] at hv; exact ⟨g, hv.1⟩
      have hgl := World.ownsRow.lt HO.out g rfl; go_wp2_with fail; refine (jg8 (w.heap.size + 1) (.slice none 0 0) (.int .i64 0) (.slice none 0 0) 0 0 ⟨g, 0, none⟩ k c9 (inbC bs) wr HX.out (by omega) (by omega) (by rw [jfW, hbl]) (by omega) (fun j u hj => by
        have hj2 : j < (inbC bs).length := (List.getElem?_eq_some_iff.1 hj).1; rw [Addr.add_lit, Nat.zero_add, World.ownsRow.cellAt HO.out j (by rw [jfW, hbl] at hj2; omega)]; exact hj) (jjA bs) (by show g ≠ w.heap.size + 1; omega)).mono ?_
      rintro e w2 ⟨⟨v, rfl⟩, v', hx2, ho2, hbt2⟩; obtain ⟨sa, cs, rfl⟩ := jbp ho2; have hs2 := hbt2.size; have hbz := HBT.out.size; have hr2 : w2.heap[w.heap.size]? = some (.cells #[.slice none 0 0, .int .i64 0, .int .i64 0, .int .i64 0, .slice none 0 0, .slice none 0 0] 79) := (hbt2.block _ (by omega) (by omega)).trans ((HBT.out.block _ (by omega) (by omega)).trans HR0.out); have HO2 := hid (jR HO.out fun q hq => hbt2.block q (World.ownsRow.lt HO.out q hq).2 (fun e => by have := (World.ownsRow.lt HO.out q hq).1; omega)); have HI2 := hid (show inbB w2 W0.heap.size bs from fun q hq => ⟨(HI.out q hq).1, (hbt2.block q (Array.getElem?_eq_some_iff.1 (HI.out q hq).2).1 (fun e => by have := (HI.out q hq).1; omega)).trans (HI.out q hq).2⟩); have HS2 := hid ho2; have HB2 := hid (show Below w.heap.size w w2 from HB0.out.trans ((HBT.out.trans hbt2).lowB' (by omega) (by omega))); obtain ⟨x0, x1, x2, x3, x4, x5⟩ := bx6 hx2; obtain ⟨r0, r1, r2, r3, r4, r5⟩ := bx6 hr2; have zf : ∀ o, w2.frozen? ⟨w.heap.size, o, none⟩ = false := fun o => by simp [World.frozen?, hr2]
      have HR2 := hid hr2; clear hx2 ho2 hbt2 hr2; go_wp2; have hput := put6 (w := w2) (b := w.heap.size) (.slice none 0 0) (.int .i64 0) (.int .i64 0) (.int .i64 0) (.slice sa k cs) (.slice (some ⟨g, 0, none⟩) k c9) HR2.out; have hst : ∀ q, q ≠ w.heap.size → (w2.setCells w.heap.size 0 [.slice none 0 0, .int .i64 0, .int .i64 0, .int .i64 0, .slice sa k cs, .slice (some ⟨g, 0, none⟩) k c9]).heap[q]? = w2.heap[q]? := fun q hq => jeA hq _ _ _
      have hlow := jh1 (b := w.heap.size) (o := 0) (vs := [.slice none 0 0, .int .i64 0, .int .i64 0, .int .i64 0, .slice sa k cs, .slice (some ⟨g, 0, none⟩) k c9]) (Nat.le_refl _) HB2.out; simp only [World.setCells, Nat.reduceAdd] at hput hst hlow; have m0 := hput; have c0 : ∀ (W : World), W.heap[w.heap.size]? = some (.cells #[.slice none 0 0, .int .i64 0, .int .i64 0, .int .i64 0, .slice sa k cs, .slice (some ⟨g, 0, none⟩) k c9] 79) → W.cell? ⟨w.heap.size, 0, none⟩ = some (.slice none 0 0) ∧ W.cell? ⟨w.heap.size, 1, none⟩ = some (.int .i64 0) ∧ W.cell? ⟨w.heap.size, 2, none⟩ = some (.int .i64 0) ∧ W.cell? ⟨w.heap.size, 3, none⟩ = some (.int .i64 0) ∧ W.cell? ⟨w.heap.size, 4, none⟩ = some (.slice sa k cs) ∧ W.cell? ⟨w.heap.size, 5, none⟩ = some (.slice (some ⟨g, 0, none⟩) k c9) := fun W h => by
        refine ⟨?_, ?_, ?_, ?_, ?_, ?_⟩ <;> simp [World.cell?, h]
      obtain ⟨m0, m1, m2, m3, m4, m5⟩ := c0 _ hput; refine bodyPost_ret (v := .agg #[.slice none 0 0, .int .i64 0, .int .i64 0, .int .i64 0, .slice sa k cs, .slice (some ⟨g, 0, none⟩) k c9]) (by simp only [results, Tryz.results25]; simp [go_sem, m0, m1, m2, m3, m4, m5]) rfl ?_; refine ⟨bs, sa, some ⟨g, 0, none⟩, cs, c9, rfl, hbl, ?_, ?_, ?_, fun q hq e => ?_, hlow⟩
      · exact fun q hq => ⟨by have := (HI2.out q hq).1; omega, (hst q (fun e => by have := (HI2.out q hq).1; omega)).trans (HI2.out q hq).2⟩
      · exact jb8 (jR HS2.out fun q hq => hst q (fun e => by have := (World.ownsRow.lt HS2.out q hq).1; omega)) (by omega)
      · exact jb8 (jR HO2.out fun q hq => hst q (fun e => by have := (World.ownsRow.lt HO2.out q hq).1; omega)) (by omega)
      · have h1 := (World.ownsRow.lt HS2.out q hq).1; have h2 : g = q := Option.some.inj e; omega
end Go.Proofs.YtlfgemnmfhknfaaGreatDoor
namespace Go.Proofs.YtlfgemnmfhknfaaGreatDoor
open Go.RowKit Go.Proofs
def RmB (w : World) (b : Nat) (cs : List Value) : Prop := w.heap[b]? = some (.cells cs.toArray 91) ∧ cs.length = 38
theorem RmB.cell {w : World} {b : Nat} {cs : List Value} (h : RmB w b cs) {j : Nat} {v : Value} (hj : cs[j]? = some v) : w.cell? ⟨b, j, none⟩ = some v := by
  simp only [World.cell?, h.1]
  simpa using hj
theorem RmB.next {w w' : World} {b : Nat} {cs : List Value} (h : RmB w b cs) (hb : Below w.heap.size w w') : RmB w' b cs := ⟨(hb.block b (Array.getElem?_eq_some_iff.1 h.1).1).trans h.1, h.2⟩
def AdE (w : World) (r : Int) (e : Ending) (w' : World) : Prop := e = .returned (.int .i64 r) ∧ Below w.heap.size w w'
end Go.Proofs.YtlfgemnmfhknfaaGreatDoor
namespace Go.Proofs.YtlfgemnmfhknfaaGreatDoor
open Go.RowKit Go.Proofs
def OpE (w : World) (r : Int) (e : Ending) (w' : World) : Prop := e = .returned (.tuple #[.pointer none, .int .i64 r]) ∧ Below w.heap.size w w'
set_option maxHeartbeats 1000000 in
theorem jl3 (a : Option Addr) (c : Nat) (w : World) : Calls Tryz.prog 17 #[.slice a 0 c] w (OpE w 1) := by
  go_enter Tryz.func17, Tryz.ntmps17; go_wp2; go_ret2; exact ⟨rfl, Below.refl _ _⟩
set_option maxHeartbeats 1000000 in
theorem jlW (a : Option Addr) (c : Nat) (w : World) : Calls Tryz.prog 17 #[.slice a 4 c] w (OpE w 1) := by
  go_enter Tryz.func17, Tryz.ntmps17; go_wp2; go_ret2; exact ⟨rfl, Below.refl _ _⟩
end Go.Proofs.YtlfgemnmfhknfaaGreatDoor
namespace Go.Proofs.YtlfgemnmfhknfaaGreatDoor
open Go.RowKit Go.Proofs
structure MRow where
  e : TypeId
  k : Nat
  v : Value
  n : Nat
  xs : List Value
def mB (M : List MRow) : List Nat := M.filterMap (·.v.ownBlock)
def Av (b : Nat) (G : List Nat) (k : Nat) : Prop := k ≠ b ∧ k ∉ G
structure Stp (b : Nat) (G : List Nat) (w : World) (G' : List Nat) (w' : World) : Prop where
  os : w'.os = w.os
  tape : w'.tape = w.tape
  output : w'.output = w.output
  size : w.heap.size ≤ w'.heap.size
  block : ∀ k, k < w.heap.size → Av b G k → w'.heap[k]? = w.heap[k]?
  row : ∀ k ∈ G', k ∈ G ∨ w.heap.size ≤ k
theorem Stp.of {b : Nat} {G : List Nat} {w w' : World} (h : Below w.heap.size w w') : Stp b G w G w' := ⟨h.os, h.tape, h.output, h.size, fun k hk _ => h.block k hk, fun _ h => .inl h⟩
theorem Stp.refl (b : Nat) (G : List Nat) (w : World) : Stp b G w G w := .of (Below.refl _ _)
theorem Stp.trans {b : Nat} {G G' G'' : List Nat} {x y z : World} (h : Stp b G x G' y) (k : Stp b G' y G'' z) : Stp b G x G'' z := by
  refine ⟨k.os.trans h.os, k.tape.trans h.tape, k.output.trans h.output, Nat.le_trans h.size k.size, fun i hi hA => ?_, fun i hi => ?_⟩
  · refine (k.block i (Nat.lt_of_lt_of_le hi h.size) ⟨hA.1, fun e => ?_⟩).trans (h.block i hi hA)
    rcases h.row i e with q | q
    · exact hA.2 q
    · omega
  · rcases k.row i hi with q | q
    · exact h.row i q
    · exact .inr (Nat.le_trans h.size q)
theorem Stp.below {b B : Nat} {G G' : List Nat} {w w' : World} (h : Stp b G w G' w') (hB : B ≤ b) (hw : B ≤ w.heap.size) (hG : ∀ k ∈ G, B ≤ k) : Below B w w' :=
  ⟨h.os, h.tape, h.output, h.size, fun k hk => h.block k (by omega) ⟨by omega, fun e => by have := hG k e; omega⟩⟩
theorem Stp.keeps {b : Nat} {G G' : List Nat} {w w' : World} (h : Stp b G w G' w') : Keeps (Av b G) w w' := ⟨h.size, h.block⟩
theorem Stp.av {b : Nat} {G G' : List Nat} {w w' : World} (h : Stp b G w G' w') {k : Nat} (hk : k < w.heap.size) (hA : Av b G k) : Av b G' k :=
  ⟨hA.1, fun e => by rcases h.row k e with q | q; exact hA.2 q; omega⟩
theorem RowM.stp {A : Type} {b : Nat} {G G' : List Nat} {k : Nat} {P P' : A → List Value → Prop} {w w' : World} {v : Value} {l : List A} (h : RowM (Av b G) k P w v l) (hs : Stp b G w G' w') (hp : ∀ x cs, P x cs → P' x cs) : RowM (Av b G') k P' w' v l := by
  obtain ⟨a, c, hv, hm, hx⟩ := h; refine ⟨a, c, hv, hm, fun i x hi => ?_⟩; obtain ⟨g, o, cs, ha, hg, hQ, hl, hc, hP⟩ := hx i x hi; exact ⟨g, o, cs, ha, Nat.lt_of_lt_of_le hg hs.size, hs.av hg hQ, hl, fun j u hj => (World.cell?_of_block (hs.block g hg hQ)).trans (hc j u hj), hp x cs hP⟩
def AvN (N b : Nat) (G : List Nat) (k : Nat) : Prop := N ≤ k ∧ Av b G k
theorem RowM.stpN {A : Type} {N b : Nat} {G G' : List Nat} {k : Nat} {P P' : A → List Value → Prop} {w w' : World} {v : Value} {l : List A} (h : RowM (AvN N b G) k P w v l) (hs : Stp b G w G' w') (hp : ∀ x cs, P x cs → P' x cs) : RowM (AvN N b G') k P' w' v l := by
  obtain ⟨a, c, hv, hm, hx⟩ := h; refine ⟨a, c, hv, hm, fun i x hx' => ?_⟩; obtain ⟨g, o, cs, ha, hg, hQ, hl, hc, hP⟩ := hx i x hx'; exact ⟨g, o, cs, ha, Nat.lt_of_lt_of_le hg hs.size, ⟨hQ.1, hs.av hg hQ.2⟩, hl, fun j u hj => (World.cell?_of_block (hs.block g hg hQ.2)).trans (hc j u hj), hp x cs hP⟩
theorem TxtsM.stp {N b : Nat} {G G' : List Nat} {w w' : World} {v : Value} {l : List (List UInt8)} (h : TxtsM (AvN N b G) w v l) (hs : Stp b G w G' w') : TxtsM (AvN N b G') w' v l := RowM.stpN h hs fun _ _ h => h
structure MOk (w : World) (B b : Nat) (M : List MRow) : Prop where
  own : ∀ r ∈ M, w.ownsRow B r.e r.k r.v r.n r.xs
  nd : (mB M).Nodup
  far : b ∉ mB M
  lt : b < w.heap.size
theorem jmq {M : List MRow} {k : Nat} (h : k ∈ mB M) : ∃ r ∈ M, r.v.ownBlock = some k := List.mem_filterMap.1 h
theorem MOk.rng {w : World} {B b : Nat} {M : List MRow} (h : MOk w B b M) : ∀ k ∈ mB M, B ≤ k ∧ k < w.heap.size := fun k hk => by
  obtain ⟨r, hr, e⟩ := jmq hk; exact World.ownsRow.lt (h.own r hr) k e
theorem MOk.next {w w' : World} {B b : Nat} {M : List MRow} (h : MOk w B b M) (hb : Below w.heap.size w w') : MOk w' B b M := ⟨fun r hr => j9 (h.own r hr) hb, h.nd, h.far, Nat.lt_of_lt_of_le h.lt hb.size⟩
theorem MOk.box {w : World} {B b : Nat} {M : List MRow} (h : MOk w B b M) (j : Nat) (u : Value) : MOk (w.setCell ⟨b, j, none⟩ u) B b M := by
  refine ⟨fun r hr => ?_, h.nd, h.far, by have := h.lt; simpa [World.setCell] using this⟩; obtain ⟨h1, h2⟩ := h.own r hr; refine ⟨h1, h2.imp id ?_⟩; rintro ⟨g, cap, cur, hv, hB, hg, hx⟩; refine ⟨g, cap, cur, hv, hB, (Below.heap_setCell _ _ _ _ (show g ≠ b from fun e => h.far ?_)).trans hg, hx⟩; exact List.mem_filterMap.2 ⟨r, hr, by rw [hv]; exact congrArg some e⟩
theorem jjQ {w w' : World} {row : Option Nat} {B e k : Nat} {v : Value} {n : Nat} {xs : List Value} (h : w.ownsRow B e k v n xs) (hg : w.grownBy w' row) (hne : ∀ g, v.ownBlock = some g → row ≠ some g) : w'.ownsRow B e k v n xs := by
  obtain ⟨h1, h2⟩ := h; refine ⟨h1, h2.imp id ?_⟩; rintro ⟨g, cap, cur, rfl, hB, hg', hr⟩; exact ⟨g, cap, cur, rfl, hB, (hg.block g (Array.getElem?_eq_some_iff.1 hg').1 (fun e => hne g rfl e.symm)).trans hg', hr⟩
theorem jbC (A Z : List MRow) : mB (A ++ Z) = mB A ++ mB Z := List.filterMap_append
theorem ja2 (r : MRow) (Z : List MRow) : mB (r :: Z) = r.v.ownBlock.toList ++ mB Z := by
  unfold mB; rw [List.filterMap_cons]; cases r.v.ownBlock <;> rfl
theorem MOk.grow {w w' : World} {B b H : Nat} {A Z : List MRow} {r r' : MRow} (h : MOk w B b (A ++ r :: Z)) (hg : w.grownBy w' r.v.ownBlock) (ho : w'.ownsRow B r'.e r'.k r'.v r'.n r'.xs) (hH : w.heap.size ≤ H)
    (hat : ∀ g, r'.v.ownBlock = some g → r.v.ownBlock = some g ∨ H ≤ g) : MOk w' B b (A ++ r' :: Z) ∧ Stp b (mB (A ++ r :: Z)) w (mB (A ++ r' :: Z)) w' := by
  have hlt := h.rng; have hd := h.nd; have hf := h.far; have hbl := h.lt; rw [jbC, ja2] at hd hlt hf; have hd1 := List.nodup_append.1 hd; have hd2 := List.nodup_append.1 hd1.2.1; have hrA : ∀ g, r.v.ownBlock = some g → g ∉ mB A := fun g e hA => hd1.2.2 g hA g (by simp [e]) rfl
  have hrB : ∀ g, r.v.ownBlock = some g → g ∉ mB Z := fun g e hB => hd2.2.2 g (by simp [e]) g hB rfl
  have ho' : ∀ x ∈ A ++ Z, w'.ownsRow B x.e x.k x.v x.n x.xs := fun x hx => by
    refine jjQ (h.own x (by rcases List.mem_append.1 hx with q | q <;> simp [q])) hg fun g e e' => ?_
    have hm : g ∈ mB (A ++ Z) := List.mem_filterMap.2 ⟨x, hx, e⟩; rw [jbC] at hm
    rcases List.mem_append.1 hm with q | q
    · exact hrA g e' q
    · exact hrB g e' q
  have hnew : ∀ g, r'.v.ownBlock = some g → g ∉ mB A ∧ g ∉ mB Z := fun g e => by
    rcases hat g e with q | q
    · exact ⟨hrA g q, hrB g q⟩
    · exact ⟨fun hA => by have := hlt g (by simp [hA]); omega, fun hB => by have := hlt g (by simp [hB]); omega⟩
  refine ⟨⟨fun x hx => ?_, ?_, ?_, Nat.lt_of_lt_of_le hbl hg.size⟩, hg.os, hg.tape, hg.output, hg.size, fun k hk hA => hg.block k hk fun e => hA.2 ?_, fun k hk => ?_⟩
  · rcases List.mem_append.1 hx with q | q
    · exact ho' x (by simp [q])
    · rcases List.mem_cons.1 q with rfl | q
      · exact ho
      · exact ho' x (by simp [q])
  · rw [jbC, ja2]; refine List.nodup_append.2 ⟨hd1.1, List.nodup_append.2 ⟨by cases r'.v.ownBlock <;> simp, hd2.2.1, ?_⟩, ?_⟩
    · intro a ha c hc e; subst e; exact (hnew a (by simpa using ha)).2 hc
    · intro a ha c hc e; subst e
      rcases List.mem_append.1 hc with q | q
      · exact (hnew a (by simpa using q)).1 ha
      · exact hd1.2.2 a ha a (by simp [q]) rfl
  · rw [jbC, ja2]; intro hc
    rcases List.mem_append.1 hc with q | q
    · exact hf (by simp [q])
    · rcases List.mem_append.1 q with q | q
      · have q : r'.v.ownBlock = some b := by simpa using q
        rcases hat b q with e | e
        · exact hf (by simp [e])
        · omega
      · exact hf (by simp [q])
  · rw [jbC, ja2]
    simp [e]
  · rw [jbC, ja2] at hk ⊢
    rcases List.mem_append.1 hk with q | q
    · exact .inl (by simp [q])
    · rcases List.mem_append.1 q with q | q
      · have q : r'.v.ownBlock = some k := by simpa using q
        rcases hat k q with e | e
        · exact .inl (by simp [e])
        · exact .inr (by omega)
      · exact .inl (by simp [q])
theorem Stp.box {b : Nat} {G G' : List Nat} {w w' : World} (h : Stp b G w G' w') (j : Nat) (u : Value) : Stp b G w G' (w'.setCell ⟨b, j, none⟩ u) :=
  ⟨h.os, h.tape, h.output, by have := h.size; simpa [World.setCell] using this, fun k hk hA => (Below.heap_setCell _ _ _ _ hA.1).trans (h.block k hk hA), h.row⟩
theorem jaN {A : Type} {B : Nat} {e : TypeId} {w : World} {v : Value} {l : List A} {f : A → Value} {Q : Nat → Prop} (h : w.ownsRow B e 1 v l.length (l.map f)) (hs : l.length ≤ maxLen) (hQ : ∀ g, v.ownBlock = some g → Q g) : RowM Q 1 (fun x cs => cs = [f x]) w v l := by
  rcases h.2 with ⟨rfl, h0⟩ | ⟨g, cap, cur, rfl, hB, hg, hnc, hcm, hcs, htk⟩
  · obtain rfl : l = [] := List.length_eq_zero_iff.1 h0; exact jh _ _ _ _ _ _
  · refine ⟨some ⟨g, 0, none⟩, cap, rfl, hs, fun i x hx => ⟨g, 0, [f x], rfl, (Array.getElem?_eq_some_iff.1 hg).1, hQ g rfl, rfl, fun j u hj => ?_, rfl⟩⟩; have hi : i < l.length := (List.getElem?_eq_some_iff.1 hx).1
    match j, hj with
    | 0, hj =>
      cases hj; have h1 : cur.toList[i]? = some (f x) := by
        rw [← List.getElem?_take_of_lt (show i < l.length * 1 by omega), htk, List.getElem?_map, hx]; rfl
      simp only [World.cell?, hg, Nat.zero_add, Nat.mul_one, Nat.add_zero]
      simpa using h1
end Go.Proofs.YtlfgemnmfhknfaaGreatDoor
namespace Go.Proofs.YtlfgemnmfhknfaaGreatDoor
open Go.Proofs
section
variable {P : Program} {ops : Array Oper} {Q : Exit → Act → World → Prop} {md : Region.Mode} {T : World → Prop} {late : Nat → Bool}
def jD (P : Program) (md : Region.Mode) (ops : Array Oper) (Q : Exit → Act → World → Prop) (late : Nat → Bool) (T : World → Prop) : Nat → Array Bool → Act → World → Prop
  | 0, listed, a, w => Region.ready md ops listed = [] ∧ Q .normal a w
  | fuel + 1, listed, a, w =>
    (Region.ready md ops listed = [] → Q .normal a w) ∧
    ∀ i ∈ Region.ready md ops listed, wpOp P ops Q i (fun a' w' => (late i = false → T w → T w') ∧ jD P md ops Q late T fuel (listed.setIfInBounds i true) a' w') a w
theorem jaw : ∀ (fuel : Nat) (listed : Array Bool) (a : Act) (w : World), jD P md ops Q late T fuel listed a w → wpAny P md ops Q fuel listed a w
  | 0, _, _, _, h => h
  | fuel + 1, _, _, _, h => ⟨h.1, fun i hi => wpOp_mono (fun a' w' h' => jaw fuel _ a' w' h'.2) (h.2 i hi)⟩
def waits (md : Region.Mode) (ops : Array Oper) (late : Nat → Bool) (i : Nat) : Bool :=
  (List.range ops.size).all fun j => !late j || match ops[j]? with
    | some o => o.after.toList.any fun e => Region.binds md e && e.on == i
    | none => true
theorem jgV {i : Nat} (h : waits md ops late i = true) (j : Nat) (oj : Oper) (hj : ops[j]? = some oj) (hl : late j = true) : ∃ e ∈ oj.after, Region.binds md e = true ∧ e.on = i := by
  have hs : j < ops.size := (Array.getElem?_eq_some_iff.1 hj).1; have := List.all_eq_true.1 h j (List.mem_range.2 hs); rw [hl, hj] at this; simp only [Bool.not_true, Bool.false_or, List.any_eq_true, Bool.and_eq_true, beq_iff_eq] at this; obtain ⟨e, he, h1, h2⟩ := this; exact ⟨e, by simpa using he, h1, h2⟩
theorem jef {i : Nat} {oi : Oper} {v : Value} (hi : ops[i]? = some oi) (hsel : ∀ (j : Nat) (o : Oper) cs b, ops[j]? = some o → o.op ≠ .select cs b)
    (hQ : ∀ c a w, Q (.panic c) (a.put oi.dst v) w → Q (.panic c) a w) (hwt : waits md ops late i = true) :
    ∀ (fuel : Nat) (listed : Array Bool) (a : Act) (w : World),
      (∀ j oj, ops[j]? = some oj → j ≠ i → listed.getD j true = false → (∀ e ∈ oj.after, Region.binds md e = true → e.on ≠ i) → oi.apart ops oj = true) →
      i ∈ Region.ready md ops listed → YieldsIf P ops T oi v a → T w →
      jD P md ops Q late T fuel (listed.setIfInBounds i true) (a.put oi.dst v) w → jD P md ops Q late T (fuel + 1) listed a w := by
  intro fuel
  induction fuel with
  | zero =>
    intro listed a w _ hr hy hS H; refine ⟨fun h => (by rw [h] at hr; cases hr), fun j hj => ?_⟩
    by_cases hji : j = i
    · subst hji; exact hy.wpOp hi hS ⟨fun _ h => h, H⟩
    · have := ready_mono hj hji; rw [H.1] at this; cases this
  | succ fuel ih =>
    intro listed a w hfree hr hy hS H; refine ⟨fun h => (by rw [h] at hr; cases hr), fun j hj => ?_⟩
    by_cases hji : j = i
    · subst hji; exact hy.wpOp hi hS ⟨fun _ h => h, H⟩
    · have h1 := H.2 j (ready_mono hj hji); obtain ⟨hjun, oj, hoj, hall⟩ := mem_ready.1 hj; have hnot : ∀ e ∈ oj.after, Region.binds md e = true → e.on ≠ i := fun e he hb heq => by
        have h1 := hall e he hb; have h0 := (mem_ready.1 hr).1; rw [heq] at h1
        rcases Nat.lt_or_ge i listed.size with h' | h'
        · simp [h'] at h0 h1; rw [h0] at h1; cases h1
        · simp [Array.getElem?_eq_none h'] at h1
      have hlt : late j = false := by
        cases hl : late j with
        | false => rfl
        | true => obtain ⟨e, he, hb, hon⟩ := jgV hwt j oj hoj hl; exact absurd hon (hnot e he hb)
      have h2 := wpOp_putIf hoj (hfree j oj hoj hji hjun hnot) (fun cs b => hsel i oi cs b hi) (fun cs b => hsel j oj cs b hoj) hQ hy h1; have hfree' : ∀ k ok, ops[k]? = some ok → k ≠ i → (listed.setIfInBounds j true).getD k true = false →
          (∀ e ∈ ok.after, Region.binds md e = true → e.on ≠ i) → oi.apart ops ok = true := fun k ok hk hki hun hno => by
        refine hfree k ok hk hki ?_ hno
        by_cases hjk : j = k
        · subst hjk; exact hjun
        · rw [getD_set_ne true hjk] at hun; exact hun
      refine wpOp_mono (fun a' w' h3 => ⟨h3.2.1, ih (listed.setIfInBounds j true) a' w' hfree' (ready_mono hr (Ne.symm hji)) h3.1 (h3.2.1 hlt hS) ?_⟩) h2; rw [Array.setIfInBounds_comm _ _ hji]; exact h3.2.2
theorem jag {i : Nat} {oi : Oper} {v : Value} {fuel : Nat} {listed : Array Bool} {a : Act} {w : World} (hi : ops[i]? = some oi)
    (hs : Region.noSelect ops = true) (hf : Region.free md ops listed i = true) (hr : (Region.ready md ops listed).contains i = true) (hwt : waits md ops late i = true)
    (hQ : ∀ c a w, Q (.panic c) (a.put oi.dst v) w → Q (.panic c) a w) (hy : YieldsIf P ops T oi v a) (hS : T w)
    (h : jD P md ops Q late T fuel (listed.setIfInBounds i true) (a.put oi.dst v) w) : jD P md ops Q late T (fuel + 1) listed a w :=
  jef hi (Region.noSelect_spec hs) hQ hwt fuel listed a w (Region.free_spec hi hf) (by simpa using hr) hy hS h
theorem jgb {i : Nat} {oi : Oper} {v : Value} (hi : ops[i]? = some oi) (hsel : ∀ (j : Nat) (o : Oper) cs b, ops[j]? = some o → o.op ≠ .select cs b)
    (hQ : ∀ c a w, Q (.panic c) (a.put oi.dst v) w → Q (.panic c) a w) :
    ∀ (fuel : Nat) (listed : Array Bool) (a : Act) (w : World),
      (∀ j oj, ops[j]? = some oj → j ≠ i → listed.getD j true = false → (∀ e ∈ oj.after, Region.binds md e = true → e.on ≠ i) → oi.apart ops oj = true) →
      i ∈ Region.ready md ops listed → YieldsIf P ops (fun _ => True) oi v a →
      jD P md ops Q late T fuel (listed.setIfInBounds i true) (a.put oi.dst v) w → jD P md ops Q late T (fuel + 1) listed a w := by
  intro fuel
  induction fuel with
  | zero =>
    intro listed a w _ hr hy H; refine ⟨fun h => (by rw [h] at hr; cases hr), fun j hj => ?_⟩
    by_cases hji : j = i
    · subst hji; exact hy.wpOp hi trivial ⟨fun _ h => h, H⟩
    · have := ready_mono hj hji; rw [H.1] at this; cases this
  | succ fuel ih =>
    intro listed a w hfree hr hy H; refine ⟨fun h => (by rw [h] at hr; cases hr), fun j hj => ?_⟩
    by_cases hji : j = i
    · subst hji; exact hy.wpOp hi trivial ⟨fun _ h => h, H⟩
    · have h1 := H.2 j (ready_mono hj hji); obtain ⟨hjun, oj, hoj, hall⟩ := mem_ready.1 hj; have hnot : ∀ e ∈ oj.after, Region.binds md e = true → e.on ≠ i := fun e he hb heq => by
        have h1 := hall e he hb; have h0 := (mem_ready.1 hr).1; rw [heq] at h1
        rcases Nat.lt_or_ge i listed.size with h' | h'
        · simp [h'] at h0 h1; rw [h0] at h1; cases h1
        · simp [Array.getElem?_eq_none h'] at h1
      have h2 := wpOp_putIf hoj (hfree j oj hoj hji hjun hnot) (fun cs b => hsel i oi cs b hi) (fun cs b => hsel j oj cs b hoj) hQ hy h1; have hfree' : ∀ k ok, ops[k]? = some ok → k ≠ i → (listed.setIfInBounds j true).getD k true = false →
          (∀ e ∈ ok.after, Region.binds md e = true → e.on ≠ i) → oi.apart ops ok = true := fun k ok hk hki hun hno => by
        refine hfree k ok hk hki ?_ hno
        by_cases hjk : j = k
        · subst hjk; exact hjun
        · rw [getD_set_ne true hjk] at hun; exact hun
      refine wpOp_mono (fun a' w' h3 => ⟨h3.2.1, ih (listed.setIfInBounds j true) a' w' hfree' (ready_mono hr (Ne.symm hji)) h3.1 ?_⟩) h2; rw [Array.setIfInBounds_comm _ _ hji]; exact h3.2.2
theorem jq {i : Nat} {oi : Oper} {v : Value} {fuel : Nat} {listed : Array Bool} {a : Act} {w : World} (hi : ops[i]? = some oi)
    (hs : Region.noSelect ops = true) (hf : Region.free md ops listed i = true) (hr : (Region.ready md ops listed).contains i = true)
    (hQ : ∀ c a w, Q (.panic c) (a.put oi.dst v) w → Q (.panic c) a w) (hy : YieldsIf P ops (fun _ => True) oi v a)
    (h : jD P md ops Q late T fuel (listed.setIfInBounds i true) (a.put oi.dst v) w) : jD P md ops Q late T (fuel + 1) listed a w :=
  jgb hi (Region.noSelect_spec hs) hQ fuel listed a w (Region.free_spec hi hf) (by simpa using hr) hy h
theorem jgq {rs : List Nat} {fuel : Nat} {listed : Array Bool} {a : Act} {w : World} (hr : Region.ready md ops listed = rs) (hne : rs ≠ [])
    (h : ∀ i ∈ rs, wpOp P ops Q i (fun a' w' => (late i = false → T w → T w') ∧ jD P md ops Q late T fuel (listed.setIfInBounds i true) a' w') a w) : jD P md ops Q late T (fuel + 1) listed a w :=
  ⟨fun h0 => absurd (hr ▸ h0) hne, hr ▸ h⟩
theorem jaj {listed : Array Bool} {a : Act} {w : World} (hr : Region.ready md ops listed = []) (h : Q .normal a w) :
    ∀ fuel, jD P md ops Q late T fuel listed a w
  | 0 => ⟨hr, h⟩
  | _ + 1 => ⟨fun _ => h, by rw [hr]; simp⟩
def AllL (P : Program) (md : Region.Mode) (ops : Array Oper) (Q : Exit → Act → World → Prop) (late : Nat → Bool) (T : World → Prop) (fuel : Nat) (listed : Array Bool) (a : Act) (w : World) (rs : List Nat) : Prop :=
  ∀ i ∈ rs, wpOp P ops Q i (fun a' w' => (late i = false → T w → T w') ∧ jD P md ops Q late T fuel (listed.setIfInBounds i true) a' w') a w
theorem j8 {fuel : Nat} {listed : Array Bool} {a : Act} {w : World} : AllL P md ops Q late T fuel listed a w [] := fun _ h => by cases h
theorem jO {fuel : Nat} {listed : Array Bool} {a : Act} {w : World} {i : Nat} {o : Oper} {rs : List Nat} (ho : ops[i]? = some o)
    (h : ∀ K' : Act → World → Prop, Shut (∀ a' w', (late i = false → T w → T w') → jD P md ops Q late T fuel (listed.setIfInBounds i true) a' w' → K' a' w') → if Region.wanted o (yielded ops a.tmps) = true then Oper.wp P o a w K' Q else K' (a.put o.dst undef) w)
    (hs : AllL P md ops Q late T fuel listed a w rs) : AllL P md ops Q late T fuel listed a w (i :: rs) := fun j hj => by
  rcases List.mem_cons.1 hj with rfl | hj
  · exact wpOp_step ho (fun K' hK => h K' (fun a' w' hS hW => hK a' w' ⟨hS, hW⟩))
  · exact hs j hj
theorem jy {rs : List Nat} {fuel : Nat} {listed : Array Bool} {a : Act} {w : World} (hr : Region.ready md ops listed = rs) (hne : rs ≠ [])
    (h : AllL P md ops Q late T fuel listed a w rs) : jD P md ops Q late T (fuel + 1) listed a w := jgq hr hne h
theorem jca {id : Nat} {a : Act} {w : World} (hm : P.follows .mixedOrders = true)
    (h : jD P .any ops Q late T ops.size (Array.replicate ops.size false) a w.drew) : (Code.region id ops true).wp P Q a w :=
  wp_region_any hm (jaw _ _ _ _ h)
end
end Go.Proofs.YtlfgemnmfhknfaaGreatDoor
