/-
  The first token that is none is told by its place: walked.
-/
import Derived.Test.YtfdkeodfkapncabDoorTokKeep
import Derived.Test.YtfdkeodfkapncabDoorTokJoin
import Derived.Test.YtfdkeodfkapncabDoorTokCut
import Derived.Test.YtfdkeodfkapncabDoorTokMore
import Derived.Test.YtfdkeodfkapncabDoorPcsFlat
namespace Go.Proofs.YtfdkeodfkapncabDoor
open Go.RowKit Go.Proofs

def badAt (k : Nat) : List UInt8 := (badsT.getD k ([], 0)).1
def errAt (k : Nat) : Int := (badsT.getD k ([], 0)).2
def badsV : Array Value := #[.string ⟨#[64]⟩, .string ⟨#[34, 97]⟩, .string ⟨#[58, 32, 97]⟩, .string ⟨#[57, 57, 57, 57, 57, 57, 57, 57, 57, 57, 57, 57, 57, 57, 57, 57, 57, 57, 57, 57]⟩, .string ⟨#[49, 120]⟩, .string ⟨#[47]⟩, .string ⟨#[34, 92]⟩, .string ⟨#[0]⟩, .string ⟨#[45, 49]⟩, .string ⟨#[92]⟩]
def errsV : Array Value := #[.int .i64 3, .int .i64 4, .int .i64 3, .int .i64 6, .int .i64 3, .int .i64 3, .int .i64 4, .int .i64 3, .int .i64 3, .int .i64 3]
theorem bads_cell (w : World) (t : TypeId) (k : Nat) (h : k < 10) : (w.alloc (.cells badsV t)).cell? ⟨w.heap.size, k, none⟩ = some (.string (S (badAt k))) := by
  have : k = 0 ∨ k = 1 ∨ k = 2 ∨ k = 3 ∨ k = 4 ∨ k = 5 ∨ k = 6 ∨ k = 7 ∨ k = 8 ∨ k = 9 := by omega
  rcases this with rfl | rfl | rfl | rfl | rfl | rfl | rfl | rfl | rfl | rfl <;> simp [badsV] <;> rfl
theorem errs_cell (w : World) (t : TypeId) (k : Nat) (h : k < 10) : (w.alloc (.cells errsV t)).cell? ⟨w.heap.size, k, none⟩ = some (.int .i64 (errAt k)) := by
  have : k = 0 ∨ k = 1 ∨ k = 2 ∨ k = 3 ∨ k = 4 ∨ k = 5 ∨ k = 6 ∨ k = 7 ∨ k = 8 ∨ k = 9 := by omega
  rcases this with rfl | rfl | rfl | rfl | rfl | rfl | rfl | rfl | rfl | rfl <;> simp [errsV] <;> rfl
theorem bad_mem {k : Nat} (h : k < 10) : (badAt k, errAt k) ∈ badsT := by
  have hl : k < badsT.length := h
  have e : (badAt k, errAt k) = badsT[k] := by
    unfold badAt errAt
    simp [List.getD, hl]
  rw [e]; exact List.getElem_mem hl
theorem bad_len {k : Nat} (h : k < 10) : (badAt k).length ≤ 20 := by
  have : ∀ x ∈ badsT, x.1.length ≤ 20 := by decide
  exact this _ (bad_mem h)

set_option maxHeartbeats 16000000 in
set_option maxRecDepth 100000 in
theorem tokenPlace_walk (w : World) (hE : Env w) (a : Option Addr) (c : Nat) (ps : List Pce) (hF : PcsAt w a ps) (_ : ps.length ≤ maxLen) (hX : ∀ x ∈ ps, PceOk x) (n : Int) (hn : (Lit.int .i64 n).wf = true) :
    Calls Tryd.prog 3 #[.slice a ps.length c, .int .i64 n] w fun e w' => e = .returned (.bool true) ∧ Below w.heap.size w w' := by
  have HX : Hid _ := hX
  have HF : Hid (PcsAt w a ps) := hF
  have HE : Hid (Env w) := hE
  have HN : Hid _ := hn
  obtain ⟨T, hT⟩ : ∃ T, T = pcsT ps 15 := ⟨_, rfl⟩
  obtain ⟨s, hs⟩ : ∃ s, s = flatT (T.map fun t => (t, [32])) := ⟨_, rfl⟩
  have hsl : s.length ≤ 945 := by rw [hs, hT]; have := pcs_flat ps 15; omega
  have HJ : Hid (joinV (joinM T) = .tuple #[.string (S s), .int .i64 0]) := by unfold Hid joinV; rw [hs, hT, pcs_join ps 15 (by decide)]
  obtain ⟨k, hk⟩ : ∃ k, k = pickN n 10 := ⟨_, rfl⟩
  have hk10 : k < 10 := by rw [hk]; exact pickN_lt n 10 (by decide)
  have hbl := bad_len hk10
  have HC : Hid (cutM (s ++ badAt k) = ([], (s.length : Int), errAt k)) := by
    unfold Hid
    rw [hs]
    refine cut_bad (xs := T.map fun t => (t, [32])) ?_ ?_ ?_ ?_
    · intro x hx
      obtain ⟨t, ht, rfl⟩ := List.mem_map.1 hx
      rw [hT] at ht
      exact ⟨pcsT_ok ps 15 t ht, between_blank⟩
    · rw [hT, List.length_map]; unfold pcsT; rw [List.length_map, List.length_take]; omega
    · intro q hq; exact bads_cut _ (bad_mem hk10) q hq
    · rw [← hs, List.length_append]; omega
  have HTX : Hid (∀ t ∈ T, t.text.length ≤ maxLen) := by
    unfold Hid; rw [hT]; intro t ht; have := pcsT_text ps 15 t ht; unfold maxLen; omega
  have HS : Hid (S s ++ S (badAt k) = S (s ++ badAt k)) := S_app s (badAt k)
  have hsz : (S s).size ≤ 945 := by rw [size_S]; exact hsl
  have hbz : (S (badAt k)).size ≤ 20 := by rw [size_S]; exact hbl
  have HSZ : Hid ((s.length : Int) = ((S s).size : Int)) := by unfold Hid; rw [size_S]
  have HT : Hid _ := hT
  have HK : Hid _ := hk
  have i1 : (0 : Int) ≤ (k : Int) := by omega
  have i2 : (k : Int) < 10 := by omega
  clear hX hF hE hT hs hn hk
  go_enter Tryd.func3, Tryd.ntmps3
  go_wp2_with fail
  refine (tokens_any a c ps 15 _ HF.out HX.out (by decide)).mono ?_
  rw [← HT.out]
  rintro e w1 ⟨a1, c1, rfl, _, hA1, hb1⟩
  have HB1 : Hid (Below w.heap.size w w1) := hb1
  have HA1 : Hid (ToksAt w1 a1 T) := hA1
  have HE1 : Hid (Env w1) := HE.out.below hb1
  clear hA1 hb1
  go_wp2_with fail
  refine (tjoin_any a1 c1 T _ HE1.out HA1.out HTX.out).mono ?_
  rintro e w2 ⟨rfl, hb2⟩
  rw [HJ.out]
  have HB2 : Hid (Below w.heap.size w w2) := HB1.out.trans (hb2.mono HB1.out.size)
  have HE2 : Hid (Env w2) := HE1.out.below hb2
  clear hb2
  obtain ⟨w3, hw3⟩ : ∃ w3, w3 = w2.alloc (.cells badsV 9) := ⟨_, rfl⟩
  obtain ⟨w4, hw4⟩ : ∃ w4, w4 = w3.alloc (.cells errsV 23) := ⟨_, rfl⟩
  have z3 : w3.heap.size = w2.heap.size + 1 := by rw [hw3]; simp
  have b3 : Below w2.heap.size w2 w3 := by rw [hw3]; exact (Below.refl _ _).alloc (Nat.le_refl _) _
  have b4 : Below w3.heap.size w3 w4 := by rw [hw4]; exact (Below.refl _ _).alloc (Nat.le_refl _) _
  have x3 : w3.cell? ⟨w2.heap.size, k, none⟩ = some (.string (S (badAt k))) := by rw [hw3]; exact bads_cell w2 _ k hk10
  have x4 : w4.cell? ⟨w2.heap.size, k, none⟩ = some (.string (S (badAt k))) := wcell_next x3 b4
  have y4 : w4.cell? ⟨w2.heap.size + 1, k, none⟩ = some (.int .i64 (errAt k)) := by rw [hw4, ← z3]; exact errs_cell w3 _ k hk10
  have HW4 : Hid (w4 = (w2.alloc (.cells #[.string ⟨#[64]⟩, .string ⟨#[34, 97]⟩, .string ⟨#[58, 32, 97]⟩, .string ⟨#[57, 57, 57, 57, 57, 57, 57, 57, 57, 57, 57, 57, 57, 57, 57, 57, 57, 57, 57, 57]⟩, .string ⟨#[49, 120]⟩, .string ⟨#[47]⟩, .string ⟨#[34, 92]⟩, .string ⟨#[0]⟩, .string ⟨#[45, 49]⟩, .string ⟨#[92]⟩] 9)).alloc (.cells #[.int .i64 3, .int .i64 4, .int .i64 3, .int .i64 6, .int .i64 3, .int .i64 3, .int .i64 4, .int .i64 3, .int .i64 3, .int .i64 3] 23)) := by unfold Hid; rw [hw4, hw3]; rfl
  have HB4 : Hid (Below w.heap.size w w4) := (HB2.out.trans (b3.mono HB2.out.size)).trans (b4.mono (Nat.le_trans HB2.out.size b3.size))
  have HE4 : Hid (Env w4) := (HE2.out.below b3).below b4
  clear hw3 hw4 b3 b4 x3 z3
  go_wp2_with fail
  rw [← HW4.out]
  refine (picked_any n 10 _ HN.out (by decide) (by decide)).mono ?_
  rintro e u ⟨rfl, hu⟩
  have hu' := hu.symm
  subst hu'
  rw [← HK.out]
  go_wp2_with fail
  rw [HS.out]
  refine (tcut_any _ _ HE4.out.1).mono ?_
  rw [HC.out]
  rintro e w5 ⟨a5, c5, rfl, _, hb5⟩
  have y5 := wcell_next y4 hb5
  have HB5 : Hid (Below w.heap.size w w5) := HB4.out.trans (hb5.mono HB4.out.size)
  clear hb5 x4 y4
  simp only
  rw [HSZ.out]
  go_wp2
  go_ret
  exact ⟨ret_bool (by first | rfl | simp), HB5.out⟩
end Go.Proofs.YtfdkeodfkapncabDoor
