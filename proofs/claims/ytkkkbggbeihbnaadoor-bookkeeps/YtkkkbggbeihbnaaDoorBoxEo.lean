/-
  The entries of raw numbers, at most so many: the walk of the laws' entriesOf.
-/
import Derived.Test.YtkkkbggbeihbnaaDoorBoxSg
namespace Go.Proofs.YtkkkbggbeihbnaaDoor
open Go.RowKit Go.Proofs

/-- What entriesOf hands back. -/
def EoP (w : World) (l : List Ent) (e : Ending) (w' : World) : Prop := ∃ a c, e = .returned (.slice a l.length c) ∧ EntsM (fun _ => True) w' (.slice a l.length c) l ∧ Below w.heap.size w w'
/-- The same, in memory that is new. -/
def EoN (w : World) (l : List Ent) (e : Ending) (w' : World) : Prop := ∃ a c, e = .returned (.slice a l.length c) ∧ EntsM (fun k => w.heap.size ≤ k) w' (.slice a l.length c) l ∧ Below w.heap.size w w'
def entsK (l : List Chr) (k : Nat) : List Ent := (l.take k).map entP
theorem map_step {l : List Chr} {k : Nat} {c : Chr} (h : l[k]? = some c) : entsK l (k + 1) = entsK l k ++ [entP c] := by
  unfold entsK
  have hk : k < l.length := (List.getElem?_eq_some_iff.1 h).1
  rw [List.take_succ_eq_append_getElem hk, (List.getElem?_eq_some_iff.1 h).2, List.map_append]
  rfl
set_option maxHeartbeats 1000000 in
set_option maxRecDepth 100000 in
theorem entriesOf_new (l : List Chr) (a : Option Addr) (c n : Nat) (w : World) (Q : Nat → Prop) (hL : ChsM Q w (.slice a l.length c) l) (hW : ∀ x ∈ l, chrW x) (hn : n ≤ 1000) :
    Calls Tryd.prog 30 #[.slice a l.length c, .int .i64 n] w (EoN w (entsK l n)) := by
  have hm := RowM.small hL
  unfold maxLen at hm
  have HL := hid hL
  have HCW := hid hW
  obtain ⟨i0, hi, hz0, hz1, hz2⟩ := info_parts infoEn
  clear hL hW
  go_enter Tryd.func30, Tryd.ntmps30
  go_wp2
  go_loopw [5, 6] (fun q v wr => ∃ (k : Nat) (a9 : Option Addr) (c9 : Nat), k ≤ l.length ∧ k ≤ n ∧ v = .int .i64 k ∧ q = .slice a9 k c9 ∧ Hid (wr.ownsRow w.heap.size 70 6 (.slice a9 k c9) k ((entsK l k).map entC).flatten) ∧ Hid (Below w.heap.size w wr)) (fun _ v _ => l.length - (intOf v).toNat)
  case atStart => exact ⟨0, none, 0, Nat.zero_le _, Nat.zero_le _, rfl, rfl, World.ownsRow_nil _ _ _ _, Below.refl _ _⟩
  case round =>
    obtain ⟨k, a9, c9, hk, hkn, rfl, rfl, HO, HB⟩ := hrel
    by_cases hlt : k < l.length ∧ k < n
    · obtain ⟨hl1, hl2⟩ := hlt
      have k1 : (k : Int) < (l.length : Int) := by omega
      have k2 : (k : Int) < (n : Int) := by omega
      have k0 : (0 : Int) ≤ (k : Int) := by omega
      obtain ⟨x, hx⟩ : ∃ x, l[k]? = some x := ⟨_, List.getElem?_eq_getElem hl1⟩
      obtain ⟨b, o, rfl, e0, e1, e2, e3, e4, e5⟩ := (HL.out.next HB.out).at hx
      have HEN := hid (entry_any x wr (HCW.out x (List.mem_of_getElem? hx)))
      have HMS := hid (map_step hx)
      obtain ⟨E, hE⟩ : ∃ E, E = entP x := ⟨_, rfl⟩
      rw [← hE] at HEN HMS
      clear hx hE
      go_wp2_with fail
      refine HEN.out.mono ?_
      rintro e w2 ⟨rfl, hb2⟩
      simp only
      obtain ⟨W3, hW3⟩ : ∃ W3, W3 = w2.alloc (.cells #[.int .i64 E.kind, .string (S E.box), .int .i64 E.uid, .int .i64 E.flags, .string (S E.goal), .string (S E.text)] 70) := ⟨_, rfl⟩
      have HWE3 := hid hW3
      have hB3 : Below wr.heap.size wr W3 := by rw [hW3]; exact hb2.alloc hb2.size _
      have hX3 : W3.heap[w2.heap.size]? = some (.cells #[.int .i64 E.kind, .string (S E.box), .int .i64 E.uid, .int .i64 E.flags, .string (S E.goal), .string (S E.text)] 70) := by rw [hW3]; exact heap_alloc_new w2 _
      obtain ⟨x0, x1, x2, x3, x4, x5⟩ := box6' hX3
      have HO3 := hid (owns_keep HO.out fun g hg => hB3.block g (World.ownsRow.lt HO.out g hg).2)
      have HB3 := hid (show Below w.heap.size w W3 from HB.out.trans (hB3.mono HB.out.size))
      have hz3 := HB3.out.size
      clear hb2 hB3 hW3 hX3
      go_upto_region 6 with fail
      rw [← HWE3.out]
      go_wp2_with (first
        | (at_builtin; refine wpList_append_lies _ rfl _ _ 27 rfl w.heap.size 70 i0 _ 6 72 Tryd.underlying27 hi hz0 hz1 hz2 rfl (by omega) (.slice a9 k c9) k (((entsK l k).map entC).flatten) rfl (World.ownsRow.alloc HO3.out _) ⟨W3.heap.size, 0, none⟩ 1 1 (entC E) rfl rfl (hex_new W3 _ _ _ _ _ _ _) ?c1 (by omega) ?c2 ?c3 ?c4 _ rfl ?_)
        | fail)
      case c1 => simp [entC, Value.oneCell']
      case c2 => unfold maxLen; omega
      case c3 => omega
      case c4 => simp; omega
      intro gm cap w4 hown hgrow hat hlt4
      have HB4 := hid (show Below w.heap.size w w4 from (HB3.out.alloc hz3 _).grown hgrow (by simp; omega) (fun j hj => (World.ownsRow.lt HO3.out j hj).1))
      have HO4 := hid (show w4.ownsRow w.heap.size 70 6 (.slice (some ⟨gm, 0, none⟩) (k + 1) cap) (k + 1) ((entsK l (k + 1)).map entC).flatten by
        rw [HMS.out, own_app]; exact hown)
      clear hown hgrow hat
      go_wp2
      go_roundw
      case rel => first | exact ⟨k + 1, _, cap, by omega, by omega, by go_num, rfl, HO4, HB4⟩ | ((repeat apply Exists.intro); exact ⟨⟨k + 1, _, cap, by omega, by omega, by go_num, rfl, HO4, HB4⟩, rfl⟩)
      case measure => simp [intOf]; omega
    · have hE : entsK l k = entsK l n := by
        unfold entsK
        by_cases h4 : k = n
        · rw [h4]
        · rw [List.take_of_length_le (by omega), List.take_of_length_le (by omega)]
      have hlen : (entsK l n).length = k := by rw [← hE]; unfold entsK; simp; omega
      have HF := hid (show EoN w (entsK l n) (.returned (.slice a9 k c9)) wr from by
        have h1 : EntsM (fun k => w.heap.size ≤ k) wr (.slice a9 k c9) (entsK l n) := own_row (hE ▸ HO.out) hlen.symm (by unfold maxLen; omega) (by simp) (map_flat_len (k := 6) entC (fun _ => rfl) _) (fun q y cs hy hc => by rw [List.getElem?_map, hy] at hc; cases hc; rfl) (fun g hg => (World.ownsRow.lt HO.out g hg).1)
        exact ⟨a9, c9, by rw [hlen], by rw [hlen]; exact h1, HB.out⟩)
      clear hE hlen
      by_cases hkl : k < l.length
      · have k1 : (k : Int) < (l.length : Int) := by omega
        have k2 : ¬ (k : Int) < (n : Int) := by omega
        go_wp2
        go_ret
        exact HF.out
      · have k1 : ¬ (k : Int) < (l.length : Int) := by omega
        go_wp2
        go_ret
        exact HF.out
theorem entriesOf_any (l : List Chr) (a : Option Addr) (c n : Nat) (w : World) (Q : Nat → Prop) (hL : ChsM Q w (.slice a l.length c) l) (hW : ∀ x ∈ l, chrW x) (hn : n ≤ 1000) :
    Calls Tryd.prog 30 #[.slice a l.length c, .int .i64 n] w (EoP w (entsK l n)) := by
  refine (entriesOf_new l a c n w Q hL hW hn).mono ?_
  rintro e w' ⟨a1, c1, h1, h2, h3⟩
  exact ⟨a1, c1, h1, h2.imp (fun _ _ => trivial) (Keeps.refl _ _), h3⟩
end Go.Proofs.YtkkkbggbeihbnaaDoor
