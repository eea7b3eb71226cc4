/-
  What newLedger does: the walk.
-/
import Derived.Test.YtepfniiojjefhaaGreatDoorQBoxKp5
import Derived.Deep.AppendLies
namespace Go.Proofs.YtepfniiojjefhaaGreatDoor
open Go.RowKit Go.Proofs

/-- The cells of states that have an empty inbox alone, each in a block of its own. -/
def inbC (bs : List Nat) : List Value := bs.flatMap fun b => [.slice (some ⟨b, 0, none⟩) 1 1, .slice none 0 0]
def inbB (w : World) (B : Nat) (bs : List Nat) : Prop := ∀ b ∈ bs, B ≤ b ∧ w.heap[b]? = some (.cells #[.string ⟨#[73, 78, 66, 79, 88]⟩, .int .i64 1, .slice none 0 0] 110)
theorem new_cells (w : World) (cs : List Value) (t : TypeId) : ∀ j u, cs[j]? = some u → (w.alloc (.cells cs.toArray t)).cell? ((⟨w.heap.size, 0, none⟩ : Addr).add j) = some u := by
  intro j u hj
  rw [Addr.add_lit]
  have := heap_alloc_new w (.cells cs.toArray t)
  simp only [World.cell?, this, Nat.zero_add]
  simpa using hj
theorem But.lowB' {b B : Nat} {w w' : World} (h : But b w w') (hb : B ≤ b) (hB : B ≤ w.heap.size) : Below B w w' := ⟨h.os, h.tape, h.output, h.size, fun k hk => h.block k (by omega) (by omega)⟩
theorem put6 {w : World} {b : Nat} {t : TypeId} (v0 v1 v2 v3 v4 v5 : Value) {u0 u1 u2 u3 u4 u5 : Value} (h : w.heap[b]? = some (.cells #[u0, u1, u2, u3, u4, u5] t)) : (w.setCells b 0 [v0, v1, v2, v3, v4, v5]).heap[b]? = some (.cells #[v0, v1, v2, v3, v4, v5] t) := by
  have h := heap_setCell_same _ b 0 _ t v0 h
  have h := heap_setCell_same _ b 1 _ t v1 h
  have h := heap_setCell_same _ b 2 _ t v2 h
  have h := heap_setCell_same _ b 3 _ t v3 h
  have h := heap_setCell_same _ b 4 _ t v4 h
  have h := heap_setCell_same _ b 5 _ t v5 h
  simp only [World.setCells, Nat.reduceAdd]
  simpa using h
theorem cells_other {b k : Nat} (hn : k ≠ b) : ∀ (vs : List Value) (o : Nat) (w : World), (w.setCells b o vs).heap[k]? = w.heap[k]? := by
  intro vs
  induction vs with
  | nil => intro o w; rfl
  | cons v vs ih => intro o w; exact (ih (o + 1) _).trans (Below.heap_setCell _ _ _ _ hn)
theorem cells_low {B b : Nat} {w w2 : World} {vs : List Value} {o : Nat} (hb : B ≤ b) (h : Below B w w2) : Below B w (w2.setCells b o vs) := by
  induction vs generalizing w2 o with
  | nil => exact h
  | cons v vs ih => exact ih (h.setCell hb v)
theorem inbC_len (bs : List Nat) : (inbC bs).length = bs.length * 2 := by
  induction bs with
  | nil => rfl
  | cons b bs ih => rw [inbC, List.flatMap_cons, List.length_append, show (bs.flatMap fun b => [Value.slice (some ⟨b, 0, none⟩) 1 1, .slice none 0 0]) = inbC bs from rfl, ih]; simp; omega
theorem inbC_snoc (bs : List Nat) (b : Nat) : inbC (bs ++ [b]) = inbC bs ++ [.slice (some ⟨b, 0, none⟩) 1 1, .slice none 0 0] := by simp [inbC]
theorem inbC_one (bs : List Nat) : ∀ u ∈ inbC bs, u.oneCell' = true := by
  intro u hu
  obtain ⟨b, _, h⟩ := List.mem_flatMap.1 hu
  simp at h
  rcases h with rfl | rfl <;> rfl
/-- What newLedger hands back. -/
def NlP (w : World) (n : Nat) (e : Ending) (w' : World) : Prop :=
  ∃ (bs : List Nat) (sa ta : Option Addr) (cs cst : Nat), e = .returned (.agg #[.slice none 0 0, .int .i64 0, .int .i64 0, .int .i64 0, .slice sa n cs, .slice ta n cst]) ∧ bs.length = n ∧ inbB w' w.heap.size bs ∧
    w'.ownsRow w.heap.size 85 2 (.slice sa n cs) n (inbC bs) ∧ w'.ownsRow w.heap.size 85 2 (.slice ta n cst) n (inbC bs) ∧ (∀ q, (Value.slice sa n cs).ownBlock = some q → (Value.slice ta n cst).ownBlock ≠ some q) ∧ Below w.heap.size w w'
set_option maxHeartbeats 1000000 in
set_option maxRecDepth 100000 in
theorem newLedger_any (n : Nat) (hn : 0 < n ∧ n ≤ 3) (w : World) : Calls Tryz.prog 14 #[.int .i64 n] w (NlP w n) := by
  obtain ⟨i0, hi, hz0, hz1, hz2⟩ := info_parts infoSt
  obtain ⟨W0, hW0⟩ : ∃ W0, W0 = (w.alloc (.cells #[.slice none 0 0, .int .i64 0, .int .i64 0, .int .i64 0, .slice none 0 0, .slice none 0 0] 56)).alloc (.cells #[.slice none 0 0, .int .i64 0, .int .i64 0, .int .i64 0, .slice none 0 0, .slice none 0 0] 56) := ⟨_, rfl⟩
  have hB0 : Below w.heap.size w W0 := by rw [hW0]; exact ((Below.refl _ _).alloc (Nat.le_refl _) _).alloc (by simp) _
  have hz : W0.heap.size = w.heap.size + 2 := by rw [hW0]; simp
  have hr0 : W0.heap[w.heap.size]? = some (.cells #[.slice none 0 0, .int .i64 0, .int .i64 0, .int .i64 0, .slice none 0 0, .slice none 0 0] 56) := by
    rw [hW0]; exact (((Below.refl _ _).alloc (Nat.le_refl _) _).block w.heap.size (by simp)).trans (heap_alloc_new w _)
  have hl0 : W0.heap[w.heap.size + 1]? = some (.cells #[.slice none 0 0, .int .i64 0, .int .i64 0, .int .i64 0, .slice none 0 0, .slice none 0 0] 56) := by
    rw [hW0]
    have := heap_alloc_new (w.alloc (.cells #[.slice none 0 0, .int .i64 0, .int .i64 0, .int .i64 0, .slice none 0 0, .slice none 0 0] 56)) (.cells #[.slice none 0 0, .int .i64 0, .int .i64 0, .int .i64 0, .slice none 0 0, .slice none 0 0] 56)
    simpa using this
  have HWE := hid hW0
  have HB0 := hid hB0
  have HR0 := hid hr0
  have HL0 := hid hl0
  clear hW0 hB0 hr0 hl0
  go_enter Tryz.func14, Tryz.ntmps14
  go_wp2
  rw [← HWE.out]
  go_loopw [8] (fun i wr => ∃ (k : Nat) (bs : List Nat) (a9 : Option Addr) (c9 : Nat), k ≤ n ∧ i = .int .i64 k ∧ bs.length = k ∧ Hid (wr.heap[w.heap.size + 1]? = some (.cells #[.slice none 0 0, .int .i64 0, .int .i64 0, .int .i64 0, .slice none 0 0, .slice a9 k c9] 56)) ∧ Hid (wr.ownsRow W0.heap.size 85 2 (.slice a9 k c9) k (inbC bs)) ∧ Hid (inbB wr W0.heap.size bs) ∧ Hid (∀ q ∈ bs, (Value.slice a9 k c9).ownBlock ≠ some q) ∧ Hid (But (w.heap.size + 1) W0 wr)) (fun i _ => n - (intOf i).toNat)
  case atStart => exact ⟨0, [], none, 0, Nat.zero_le _, rfl, rfl, HL0, hid (World.ownsRow_nil _ _ _ _), hid (fun b hb => by cases hb), hid (fun b hb => by cases hb), hid (But.refl _ _)⟩
  case round =>
    obtain ⟨k, bs, a9, c9, hk, rfl, hbl, HX, HO, HI, HAP, HBT⟩ := hrel
    by_cases hlt : k < n
    · have k1 : (k : Int) < (n : Int) := by omega
      have k0 : (0 : Int) ≤ (k : Int) := by omega
      go_wp2_with fail
      refine (fold_nil k (by omega) wr).mono ?_
      rintro e w2 ⟨b, rfl, hbx, hbw, hb2⟩
      have hnb : w.heap.size + 1 < wr.heap.size := by have := HBT.out.size; omega
      obtain ⟨W3, hW3⟩ : ∃ W3, W3 = w2.alloc (.cells #[.slice (some ⟨b, 0, none⟩) 1 1, .slice none 0 0] 85) := ⟨_, rfl⟩
      have HWE3 := hid hW3
      have hB3 : Below wr.heap.size wr W3 := by rw [hW3]; exact hb2.alloc hb2.size _
      have hX3 : W3.heap[w2.heap.size]? = some (.cells #[.slice (some ⟨b, 0, none⟩) 1 1, .slice none 0 0] 85) := by rw [hW3]; exact heap_alloc_new w2 _
      have x0 : W3.cell? ⟨w2.heap.size, 0, none⟩ = some (.slice (some ⟨b, 0, none⟩) 1 1) := by simp [World.cell?, hX3]
      have x1 : W3.cell? ⟨w2.heap.size, 1, none⟩ = some (.slice none 0 0) := by simp [World.cell?, hX3]
      have hL3 := (hB3.block _ hnb).trans HX.out
      have y5 : W3.cell? ⟨w.heap.size + 1, 5, none⟩ = some (.slice a9 k c9) := by simp [World.cell?, hL3]
      have HL3 := hid hL3
      have HO3 := hid (owns_keep HO.out fun g hg => hB3.block g (World.ownsRow.lt HO.out g hg).2)
      have hlb : b < w2.heap.size := (Array.getElem?_eq_some_iff.1 hbx).1
      have HI3 := hid (show inbB W3 W0.heap.size (bs ++ [b]) from fun q hq => by
        rcases List.mem_append.1 hq with h | h
        · obtain ⟨h1, h2⟩ := HI.out q h
          exact ⟨h1, (hB3.block q (Array.getElem?_eq_some_iff.1 h2).1).trans h2⟩
        · rw [show q = b by simpa using h]
          refine ⟨by have := HBT.out.size; omega, ?_⟩
          rw [hW3]
          exact (((Below.refl _ _).alloc (Nat.le_refl _) _).block b hlb).trans hbx)
      have HB3 := hid (HBT.out.trans (But.of hB3))
      have hz3 := HB3.out.size
      clear hb2 hB3 hW3 hX3 hbx hL3
      go_upto_region 6 with fail
      rw [← HWE3.out]
      go_wp2_with (first
        | (at_builtin; refine wpList_append_lies _ rfl _ _ 31 rfl W0.heap.size 85 i0 _ 2 48 Tryz.underlying31 hi hz0 hz1 hz2 rfl (by omega) (.slice a9 k c9) k (inbC bs) rfl (World.ownsRow.alloc HO3.out _) ⟨W3.heap.size, 0, none⟩ 1 1 [.slice (some ⟨b, 0, none⟩) 1 1, .slice none 0 0] rfl rfl (new_cells W3 [.slice (some ⟨b, 0, none⟩) 1 1, .slice none 0 0] _) ?c1 (by omega) ?c2 ?c3 ?c4 _ rfl ?_)
        | fail)
      case c1 => simp [Value.oneCell']
      case c2 => unfold maxLen; omega
      case c3 => omega
      case c4 => simp; omega
      intro gm cap w4 hown hgrow hat hlt4
      have hW3z : w2.heap.size < W3.heap.size := by rw [HWE3.out]; simp
      have hne : ∀ q ∈ bs ++ [b], (Value.slice a9 k c9).ownBlock ≠ some q := fun q hq e => by
        rcases List.mem_append.1 hq with h | h
        · exact HAP.out q h e
        · have h1 := (World.ownsRow.lt HO.out q e).2
          rw [show q = b by simpa using h] at h1
          omega
      have hoL : (Value.slice a9 k c9).ownBlock ≠ some (w.heap.size + 1) := fun e => by have := (World.ownsRow.lt HO3.out _ e).1; omega
      have al : ∀ q x, W3.heap[q]? = some x → (Value.slice a9 k c9).ownBlock ≠ some q → w4.heap[q]? = some x := fun q x hx hq => by
        have hql := (Array.getElem?_eq_some_iff.1 hx).1
        exact (hgrow.block q (by simp; omega) (fun e => hq e.symm)).trans ((((Below.refl _ W3).alloc (Nat.le_refl _) _).block q hql).trans hx)
      have hL4 := al _ _ HL3.out hoL
      have z5 : w4.cell? ⟨w.heap.size + 1, 5, none⟩ = some (.slice a9 k c9) := by simp [World.cell?, hL4]
      have zf : w4.frozen? ⟨w.heap.size + 1, 5, none⟩ = false := by simp [World.frozen?, hL4]
      have hgm : W0.heap.size ≤ gm := by
        rcases hat with e | e
        · exact (World.ownsRow.lt HO3.out gm e).1
        · have e' : gm = W3.heap.size + 1 := by simpa using e
          omega
      obtain ⟨W5, hW5⟩ : ∃ W5, W5 = w4.setCell ⟨w.heap.size + 1, 5, none⟩ (.slice (some ⟨gm, 0, none⟩) (k + 1) cap) := ⟨_, rfl⟩
      have HW5 := hid hW5
      have st : ∀ q, q ≠ w.heap.size + 1 → W5.heap[q]? = w4.heap[q]? := fun q hq => by rw [hW5]; exact Below.heap_setCell _ _ _ _ hq
      have HX5 := hid (show W5.heap[w.heap.size + 1]? = some (.cells #[.slice none 0 0, .int .i64 0, .int .i64 0, .int .i64 0, .slice none 0 0, .slice (some ⟨gm, 0, none⟩) (k + 1) cap] 56) by
        rw [hW5]
        have := heap_setCell_same w4 (w.heap.size + 1) 5 _ _ (.slice (some ⟨gm, 0, none⟩) (k + 1) cap) hL4
        simpa using this)
      have HO5 := hid (show W5.ownsRow W0.heap.size 85 2 (.slice (some ⟨gm, 0, none⟩) (k + 1) cap) (k + 1) (inbC (bs ++ [b])) from owns_keep (by rw [inbC_snoc, hz]; exact hown) fun g hg => st g (fun e => by have : gm = g := Option.some.inj hg; omega))
      have HI5 := hid (show inbB W5 W0.heap.size (bs ++ [b]) from fun q hq => ⟨(HI3.out q hq).1, (st q (fun e => by have := (HI3.out q hq).1; omega)).trans (al _ _ (HI3.out q hq).2 (hne q hq))⟩)
      have HAP5 := hid (show ∀ q ∈ bs ++ [b], (Value.slice (some (⟨gm, 0, none⟩ : Addr)) (k + 1) cap).ownBlock ≠ some q from fun q hq e => by
        have e1 : gm = q := Option.some.inj e
        have hql := (Array.getElem?_eq_some_iff.1 (HI3.out q hq).2).1
        rcases hat with h | h
        · exact hne q hq (by rw [h, e1])
        · have e' : gm = W3.heap.size + 1 := by simpa using h
          omega)
      have HBT5 := hid (show But (w.heap.size + 1) W0 W5 by
        refine ⟨?_, ?_, ?_, ?_, fun q hq hn => ?_⟩
        · rw [hW5]; exact hgrow.os.trans HB3.out.os
        · rw [hW5]; exact hgrow.tape.trans HB3.out.tape
        · rw [hW5]; exact hgrow.output.trans HB3.out.output
        · rw [hW5]; have := hgrow.size; simp [World.setCell] at this ⊢; omega
        · rw [st q hn]
          have hx : W0.heap[q]? = some W0.heap[q] := Array.getElem?_eq_getElem hq
          rw [hx]
          exact al q _ ((HB3.out.block q hq hn).trans hx) (fun e => by have := (World.ownsRow.lt HO3.out _ e).1; omega))
      clear hown hgrow hat al st hW5
      go_wp2
      rw [← HW5.out]
      go_roundw
      case rel => first | exact ⟨k + 1, bs ++ [b], _, cap, by omega, by go_num, by simp [hbl], HX5, HO5, HI5, HAP5, HBT5⟩ | ((repeat apply Exists.intro); exact ⟨⟨k + 1, bs ++ [b], _, cap, by omega, by go_num, by simp [hbl], HX5, HO5, HI5, HAP5, HBT5⟩, rfl⟩)
      case measure => simp [intOf]; omega
    · have k1 : ¬ (k : Int) < (n : Int) := by omega
      obtain rfl : k = n := by omega
      obtain ⟨g, rfl⟩ : ∃ g, a9 = some ⟨g, 0, none⟩ := by
        rcases HO.out.2 with ⟨_, h0⟩ | ⟨g, cap, cur, hv, _⟩
        · omega
        · simp only [Value.slice.injEq] at hv
          exact ⟨g, hv.1⟩
      have hgl := World.ownsRow.lt HO.out g rfl
      go_wp2_with fail
      refine (settle_any (w.heap.size + 1) (.slice none 0 0) (.int .i64 0) (.slice none 0 0) 0 0 ⟨g, 0, none⟩ k c9 (inbC bs) wr HX.out (by omega) (by omega) (by rw [inbC_len, hbl]) (by omega) (fun j u hj => by
        have hj2 : j < (inbC bs).length := (List.getElem?_eq_some_iff.1 hj).1
        rw [Addr.add_lit, Nat.zero_add, World.ownsRow.cellAt HO.out j (by rw [inbC_len, hbl] at hj2; omega)]
        exact hj) (inbC_one bs) (by show g ≠ w.heap.size + 1; omega)).mono ?_
      rintro e w2 ⟨⟨v, rfl⟩, v', hx2, ho2, hbt2⟩
      obtain ⟨sa, cs, rfl⟩ := own_form ho2
      have hs2 := hbt2.size
      have hbz := HBT.out.size
      have hr2 : w2.heap[w.heap.size]? = some (.cells #[.slice none 0 0, .int .i64 0, .int .i64 0, .int .i64 0, .slice none 0 0, .slice none 0 0] 56) := (hbt2.block _ (by omega) (by omega)).trans ((HBT.out.block _ (by omega) (by omega)).trans HR0.out)
      have HO2 := hid (owns_keep HO.out fun q hq => hbt2.block q (World.ownsRow.lt HO.out q hq).2 (fun e => by have := (World.ownsRow.lt HO.out q hq).1; omega))
      have HI2 := hid (show inbB w2 W0.heap.size bs from fun q hq => ⟨(HI.out q hq).1, (hbt2.block q (Array.getElem?_eq_some_iff.1 (HI.out q hq).2).1 (fun e => by have := (HI.out q hq).1; omega)).trans (HI.out q hq).2⟩)
      have HS2 := hid ho2
      have HB2 := hid (show Below w.heap.size w w2 from HB0.out.trans ((HBT.out.trans hbt2).lowB' (by omega) (by omega)))
      have x0 : w2.cell? ⟨w.heap.size + 1, 0, none⟩ = some (.slice none 0 0) := by simp [World.cell?, hx2]
      have x1 : w2.cell? ⟨w.heap.size + 1, 1, none⟩ = some (.int .i64 0) := by simp [World.cell?, hx2]
      have x2 : w2.cell? ⟨w.heap.size + 1, 2, none⟩ = some (.int .i64 0) := by simp [World.cell?, hx2]
      have x3 : w2.cell? ⟨w.heap.size + 1, 3, none⟩ = some (.int .i64 0) := by simp [World.cell?, hx2]
      have x4 : w2.cell? ⟨w.heap.size + 1, 4, none⟩ = some (.slice sa k cs) := by simp [World.cell?, hx2]
      have x5 : w2.cell? ⟨w.heap.size + 1, 5, none⟩ = some (.slice (some ⟨g, 0, none⟩) k c9) := by simp [World.cell?, hx2]
      have r0 : w2.cell? ⟨w.heap.size, 0, none⟩ = some (.slice none 0 0) := by simp [World.cell?, hr2]
      have r1 : w2.cell? ⟨w.heap.size, 1, none⟩ = some (.int .i64 0) := by simp [World.cell?, hr2]
      have r2 : w2.cell? ⟨w.heap.size, 2, none⟩ = some (.int .i64 0) := by simp [World.cell?, hr2]
      have r3 : w2.cell? ⟨w.heap.size, 3, none⟩ = some (.int .i64 0) := by simp [World.cell?, hr2]
      have r4 : w2.cell? ⟨w.heap.size, 4, none⟩ = some (.slice none 0 0) := by simp [World.cell?, hr2]
      have r5 : w2.cell? ⟨w.heap.size, 5, none⟩ = some (.slice none 0 0) := by simp [World.cell?, hr2]
      have zf : ∀ o, w2.frozen? ⟨w.heap.size, o, none⟩ = false := fun o => by simp [World.frozen?, hr2]
      have HR2 := hid hr2
      clear hx2 ho2 hbt2 hr2
      go_wp2
      have hput := put6 (w := w2) (b := w.heap.size) (.slice none 0 0) (.int .i64 0) (.int .i64 0) (.int .i64 0) (.slice sa k cs) (.slice (some ⟨g, 0, none⟩) k c9) HR2.out
      have hst : ∀ q, q ≠ w.heap.size → (w2.setCells w.heap.size 0 [.slice none 0 0, .int .i64 0, .int .i64 0, .int .i64 0, .slice sa k cs, .slice (some ⟨g, 0, none⟩) k c9]).heap[q]? = w2.heap[q]? := fun q hq => cells_other hq _ _ _
      have hlow := cells_low (b := w.heap.size) (o := 0) (vs := [.slice none 0 0, .int .i64 0, .int .i64 0, .int .i64 0, .slice sa k cs, .slice (some ⟨g, 0, none⟩) k c9]) (Nat.le_refl _) HB2.out
      simp only [World.setCells, Nat.reduceAdd] at hput hst hlow
      have m0 := hput
      have c0 : ∀ (W : World), W.heap[w.heap.size]? = some (.cells #[.slice none 0 0, .int .i64 0, .int .i64 0, .int .i64 0, .slice sa k cs, .slice (some ⟨g, 0, none⟩) k c9] 56) → W.cell? ⟨w.heap.size, 0, none⟩ = some (.slice none 0 0) ∧ W.cell? ⟨w.heap.size, 1, none⟩ = some (.int .i64 0) ∧ W.cell? ⟨w.heap.size, 2, none⟩ = some (.int .i64 0) ∧ W.cell? ⟨w.heap.size, 3, none⟩ = some (.int .i64 0) ∧ W.cell? ⟨w.heap.size, 4, none⟩ = some (.slice sa k cs) ∧ W.cell? ⟨w.heap.size, 5, none⟩ = some (.slice (some ⟨g, 0, none⟩) k c9) := fun W h => by
        refine ⟨?_, ?_, ?_, ?_, ?_, ?_⟩ <;> simp [World.cell?, h]
      obtain ⟨m0, m1, m2, m3, m4, m5⟩ := c0 _ hput
      refine bodyPost_ret (v := .agg #[.slice none 0 0, .int .i64 0, .int .i64 0, .int .i64 0, .slice sa k cs, .slice (some ⟨g, 0, none⟩) k c9]) (by simp only [results, Tryz.results14]; simp [go_sem, m0, m1, m2, m3, m4, m5]) rfl ?_
      refine ⟨bs, sa, some ⟨g, 0, none⟩, cs, c9, rfl, hbl, ?_, ?_, ?_, fun q hq e => ?_, hlow⟩
      · exact fun q hq => ⟨by have := (HI2.out q hq).1; omega, (hst q (fun e => by have := (HI2.out q hq).1; omega)).trans (HI2.out q hq).2⟩
      · exact lg_base (owns_keep HS2.out fun q hq => hst q (fun e => by have := (World.ownsRow.lt HS2.out q hq).1; omega)) (by omega)
      · exact lg_base (owns_keep HO2.out fun q hq => hst q (fun e => by have := (World.ownsRow.lt HO2.out q hq).1; omega)) (by omega)
      · have h1 := (World.ownsRow.lt HS2.out q hq).1
        have h2 : g = q := Option.some.inj e
        omega
end Go.Proofs.YtepfniiojjefhaaGreatDoor
