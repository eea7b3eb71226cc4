/-
  What the laws' maker of a token does: the walk.
-/
import Derived.Test.YtfdkeodfkapncaaDoorTokMem
import Derived.Test.YtfdkeodfkapncaaDoorTokLaws
import Derived.Test.YtfdkeodfkapncaaDoorKeepPick
import Derived.Test.YtfdkeodfkapncaaDoorCut
import Derived.Test.YtfdkeodfkapncaaDoorWord
import Derived.Deep.RegionHeld3
namespace Go.Proofs.YtfdkeodfkapncaaDoor
open Go.RowKit Go.Proofs

/-- A piece: what a token is made of. -/
structure Pce where
  kind : Int
  num : Int
  text : List UInt8
def pieceT (p : Pce) : Tok :=
  if pickN p.kind 5 + 1 = 3 then { kind := 3, text := [], num := (pickN p.num 2147483648 : Nat) }
  else if pickN p.kind 5 + 1 = 4 then { kind := 4, text := p.text.take 30, num := 0 }
  else if pickN p.kind 5 + 1 = 5 then { kind := 5, text := (markL.drop (pickN p.num 8)).take 1, num := 0 }
  else { kind := (pickN p.kind 5 + 1 : Nat), text := wordL p.text, num := 0 }
theorem markL_at {n : Nat} (h : n < 8) : ∃ c, (markL.drop n).take 1 = [c] ∧ markC c = true := by
  have : n = 0 ∨ n = 1 ∨ n = 2 ∨ n = 3 ∨ n = 4 ∨ n = 5 ∨ n = 6 ∨ n = 7 := by omega
  rcases this with rfl | rfl | rfl | rfl | rfl | rfl | rfl | rfl <;> exact ⟨_, rfl, by decide⟩
theorem wordC_letter (c : UInt8) : letterC (wordC c) = true := by
  have h := wordC_nat c
  unfold letterC
  have h1 : 97 ≤ (wordC c).toNat := by omega
  have h2 : (wordC c).toNat ≤ 122 := by omega
  simp [h1, h2]
theorem wordL_word (l : List UInt8) : wordB (wordL l) = true := by
  unfold wordL
  cases l with
  | nil => decide
  | cons c t =>
    rw [if_neg (by simp)]
    unfold wordK wordB
    rw [show (c :: t).take 8 = c :: t.take 7 from rfl, List.map_cons]
    simp only [List.head?_cons, Option.map_some, Option.getD_some, wordC_letter, Bool.true_and, List.all_cons]
    have hw : ∀ x, wordyC (wordC x) = true := fun x => by unfold wordyC; rw [wordC_letter]; rfl
    rw [hw, Bool.true_and, List.all_eq_true]
    intro x hx
    obtain ⟨y, _, rfl⟩ := List.mem_map.1 hx
    exact hw y
theorem pieceT_ok (p : Pce) : faultT (pieceT p) = 0 := by
  unfold pieceT
  have h5 := pickN_lt p.kind 5 (by decide)
  split
  · have := pickN_lt p.num 2147483648 (by decide)
    unfold faultT
    simp only
    rw [if_neg (by omega), if_pos trivial, if_neg (by omega)]
    rfl
  · split
    · rfl
    · split
      · obtain ⟨c, hc, hm⟩ := markL_at (pickN_lt p.num 8 (by decide))
        unfold faultT
        simp only [hc]
        simp [hm]
      · have hk : pickN p.kind 5 + 1 = 1 ∨ pickN p.kind 5 + 1 = 2 := by omega
        unfold faultT
        simp only
        rw [if_neg (by omega), if_neg (by omega), if_neg (by simp), if_neg (by omega), if_neg (by omega), wordL_word]
        rfl
theorem pieceT_size (p : Pce) : (textT (pieceT p)).length ≤ 62 := by
  have h5 := pickN_lt p.kind 5 (by decide)
  unfold pieceT
  split
  · have h := pickN_lt p.num 2147483648 (by decide)
    have := decL_len (pickN p.num 2147483648) 9 (by omega)
    unfold textT
    simp only [if_true]
    show (decL ((pickN p.num 2147483648 : Nat) : Int).toNat).length ≤ 62
    rw [Int.toNat_natCast]
    omega
  · split
    · unfold textT
      have := quoteL_len (p.text.take 30)
      rw [List.length_take] at this
      simp; omega
    · split
      · unfold textT; simp; omega
      · have := wordL_len p.text
        unfold textT
        simp only
        split
        · omega
        · split
          · simp; omega
          · split
            · omega
            · omega
theorem pieceT_text (p : Pce) : (pieceT p).text.length ≤ 30 := by
  unfold pieceT
  split
  · simp
  · split
    · simp; omega
    · split
      · simp; omega
      · have := wordL_len p.text; simp only; omega
theorem S_cut (l : List UInt8) (n : Nat) : cutB (S l) n = S (l.take n) := by
  unfold cutB
  rw [S_take]
  congr 1
  rw [size_S]
  rcases Nat.le_total l.length n with h | h
  · rw [Nat.min_eq_left h, List.take_of_length_le (Nat.le_refl _), List.take_of_length_le h]
  · rw [Nat.min_eq_right h]

set_option maxHeartbeats 8000000 in
set_option maxRecDepth 100000 in
theorem token_any (p : Pce) (w : World) (hk : (Lit.int .i64 p.kind).wf = true) (hn : (Lit.int .i64 p.num).wf = true) (hx : p.text.length ≤ maxLen) :
    Calls Tryd.prog 23 #[.agg #[.int .i64 p.kind, .int .i64 p.num, .string (S p.text)]] w fun e w' => e = .returned (tokV (pieceT p)) ∧ Below w.heap.size w w' := by
  obtain ⟨W1, hW1⟩ : ∃ W1, W1 = w.alloc (.cells #[.int .i64 p.kind, .int .i64 p.num, .string (S p.text)] 56) := ⟨_, rfl⟩
  obtain ⟨W0, hW0⟩ : ∃ W0, W0 = W1.alloc (.cells #[.int .i64 0, .string ⟨#[]⟩, .int .i64 0] 34) := ⟨_, rfl⟩
  have z1 : W1.heap.size = w.heap.size + 1 := by rw [hW1]; simp
  have hT0 : TokB W0 (w.heap.size + 1) zeroT := by rw [hW0, ← z1]; exact tokB_new W1 zeroT
  have HB0 : Hid (Below w.heap.size w W0) := by unfold Hid; rw [hW0, hW1]; exact ((Below.refl _ _).alloc (Nat.le_refl _) _).alloc (by simp) _
  have p0 : W0.cell? ⟨w.heap.size, 0, none⟩ = some (.int .i64 p.kind) := by rw [hW0, hW1]; simp
  have p1 : W0.cell? ⟨w.heap.size, 1, none⟩ = some (.int .i64 p.num) := by rw [hW0, hW1]; simp
  have p2 : W0.cell? ⟨w.heap.size, 2, none⟩ = some (.string (S p.text)) := by rw [hW0, hW1]; simp
  have f0 := hT0.free 0
  have f1 := hT0.free 1
  have f2 := hT0.free 2
  have k0 : W0.cell? ⟨w.heap.size + 1, 0, none⟩ = some (.int .i64 0) := hT0.c0
  have k1 : W0.cell? ⟨w.heap.size + 1, 1, none⟩ = some (.string ⟨#[]⟩) := hT0.c1
  have k2 : W0.cell? ⟨w.heap.size + 1, 2, none⟩ = some (.int .i64 0) := hT0.c2
  have HT0 : Hid (TokB W0 (w.heap.size + 1) zeroT) := hT0
  have HW : Hid (W0 = (w.alloc (.cells #[.int .i64 p.kind, .int .i64 p.num, .string (S p.text)] 56)).alloc (.cells #[.int .i64 0, .string ⟨#[]⟩, .int .i64 0] 34)) := by unfold Hid; rw [hW0, hW1]
  have HK : Hid _ := hk
  have HN : Hid _ := hn
  have HX : Hid ((S p.text).size ≤ maxLen) := by unfold Hid; rw [size_S]; exact hx
  have h5 := pickN_lt p.kind 5 (by decide)
  obtain ⟨q, hq⟩ : ∃ q, q = pickN p.kind 5 := ⟨_, rfl⟩
  rw [← hq] at h5
  have HQ : Hid _ := hq
  clear hW0 hW1 z1 hT0 hk hn hx
  go_enter Tryd.func23, Tryd.ntmps23
  go_wp2_with fail
  rw [← HW.out]
  refine (picked_any p.kind 5 _ HK.out (by decide) (by decide)).mono ?_
  rintro e u ⟨rfl, hu⟩
  have hu' := hu.symm
  subst hu'
  rw [← HQ.out]
  have hcase : q = 2 ∨ q = 3 ∨ q = 4 ∨ q = 0 ∨ q = 1 := by omega
  rcases hcase with rfl | rfl | rfl | h01
  · have HP : Hid (pieceT p = { kind := 3, text := [], num := (pickN p.num 2147483648 : Nat) }) := by unfold Hid pieceT; rw [← hq, if_pos rfl]
    obtain ⟨n, hn⟩ : ∃ n, n = pickN p.num 2147483648 := ⟨_, rfl⟩
    have HNN : Hid _ := hn
    clear hq hn
    go_wp2_with fail
    refine (picked_any p.num 2147483648 _ HN.out (by decide) (by decide)).mono ?_
    rintro e u ⟨rfl, hu⟩
    have hu' := hu.symm
    subst hu'
    rw [← HNN.out]
    go_wp2
    exact bodyPost_ret (v := .agg #[.int .i64 3, .string ⟨#[]⟩, .int .i64 (n : Nat)]) (by simp [results, Tryd.results23, go_sem, k0, k1, k2]) rfl ⟨by rw [HP.out, HNN.out]; rfl, by first | exact HB0.out | (repeat (first | exact HB0.out | refine Below.setCell ?_ (by simp) _))⟩
  · have HP : Hid (pieceT p = { kind := 4, text := p.text.take 30, num := 0 }) := by unfold Hid pieceT; rw [← hq, if_neg (by decide), if_pos rfl]
    have HC : Hid (cutB (S p.text) 30 = S (p.text.take 30)) := S_cut _ _
    clear hq
    go_wp2_with fail
    refine (cut_any (S p.text) 30 _ HX.out (by decide)).mono ?_
    rintro e u ⟨rfl, hu⟩
    have hu' := hu.symm
    subst hu'
    rw [HC.out]
    go_wp2
    exact bodyPost_ret (v := .agg #[.int .i64 4, .string (S (p.text.take 30)), .int .i64 0]) (by simp [results, Tryd.results23, go_sem, k0, k1, k2]) rfl ⟨by rw [HP.out]; rfl, by first | exact HB0.out | (repeat (first | exact HB0.out | refine Below.setCell ?_ (by simp) _))⟩
  · have HP : Hid (pieceT p = { kind := 5, text := (markL.drop (pickN p.num 8)).take 1, num := 0 }) := by unfold Hid pieceT; rw [← hq, if_neg (by decide), if_neg (by decide), if_pos rfl]
    obtain ⟨n, hn⟩ : ∃ n, n = pickN p.num 8 := ⟨_, rfl⟩
    have hn8 : n < 8 := by rw [hn]; exact pickN_lt p.num 8 (by decide)
    have HNN : Hid _ := hn
    have i1 : (0 : Int) ≤ (n : Int) := by omega
    have i2 : (n : Int) ≤ (n : Int) + 1 := by omega
    have i3 : (n : Int) + 1 ≤ ((⟨#[123, 125, 40, 41, 91, 93, 59, 44]⟩ : ByteArray).size : Int) := by show (n : Int) + 1 ≤ 8; omega
    have i4 : (n : Int) + 1 ≤ 8 := by omega
    have hw1 : IntKind.i64.wrap ((n : Int) + 1) = (n : Int) + 1 := by simp only [IntKind.wrap_i64]; omega
    have HX2 : Hid ((⟨#[123, 125, 40, 41, 91, 93, 59, 44]⟩ : ByteArray).extract n (n + 1) = S ((markL.drop n).take 1)) := by
      unfold Hid
      have e : (⟨#[123, 125, 40, 41, 91, 93, 59, 44]⟩ : ByteArray) = S markL := rfl
      rw [e, Lib.extract_eq, list_S, Nat.add_sub_cancel_left]
      rfl
    clear hq hn
    go_wp2
    go_region_held3 (fun w' => w'.cell? ⟨w.heap.size, 1, none⟩ = some (.int .i64 p.num)) (go_keep)
      (first
         | (go_at_call 14
            refine (picked_any p.num 8 _ HN.out (by decide) (by decide)).mono ?_
            rintro e u ⟨rfl, hu⟩
            have hu' := hu.symm
            subst hu'
            rw [← HNN.out]))
    rw [HX2.out]
    go_wp2
    exact bodyPost_ret (v := .agg #[.int .i64 5, .string (S ((markL.drop n).take 1)), .int .i64 0]) (by simp [results, Tryd.results23, go_sem, k0, k1, k2]) rfl ⟨by rw [HP.out, HNN.out]; rfl, by first | exact HB0.out.drew | exact (((HB0.out.setCell (by simp) _).setCell (by simp) _).setCell (by simp) _).drew⟩
  · have HP : Hid (pieceT p = { kind := (q + 1 : Nat), text := wordL p.text, num := 0 }) := by unfold Hid pieceT; rw [← hq, if_neg (by omega), if_neg (by omega), if_neg (by omega)]
    have q3 : ((1 : Int) + (q : Int) == 3) = false := by simp; omega
    have q4 : ((1 : Int) + (q : Int) == 4) = false := by simp; omega
    have q5 : ((1 : Int) + (q : Int) == 5) = false := by simp; omega
    have HL : Hid (wordL (S p.text).data.toList = wordL p.text) := by unfold Hid; rw [list_S]
    clear hq h01
    go_wp2_with fail
    refine (word_any (S p.text) _ HX.out).mono ?_
    rintro e u ⟨rfl, hb⟩
    rw [HL.out]
    have hT := HT0.out.next hb
    have f0 := hT.free 0
    have f1 := hT.free 1
    have f2 := hT.free 2
    have k0 : u.cell? ⟨w.heap.size + 1, 0, none⟩ = some (.int .i64 0) := hT.c0
    have k1 : u.cell? ⟨w.heap.size + 1, 1, none⟩ = some (.string ⟨#[]⟩) := hT.c1
    have k2 : u.cell? ⟨w.heap.size + 1, 2, none⟩ = some (.int .i64 0) := hT.c2
    have HB1 : Hid (Below w.heap.size w u) := HB0.out.trans (hb.mono HB0.out.size)
    clear hb hT
    go_wp2
    exact bodyPost_ret (v := .agg #[.int .i64 (1 + (q : Int)), .string (S (wordL p.text)), .int .i64 0]) (by simp [results, Tryd.results23, go_sem, k0, k1, k2]) rfl ⟨by rw [HP.out]; unfold tokV; simp only; rw [show ((q + 1 : Nat) : Int) = 1 + (q : Int) by omega], by first | exact HB1.out | (repeat (first | exact HB1.out | refine Below.setCell ?_ (by simp) _))⟩
end Go.Proofs.YtfdkeodfkapncaaDoor
