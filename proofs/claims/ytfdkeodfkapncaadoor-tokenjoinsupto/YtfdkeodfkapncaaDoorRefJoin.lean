/-
  What postroomref's Dec, tokenText and TokensJoined do: the walks.
-/
import Derived.Test.YtfdkeodfkapncaaDoorRefTok
import Derived.Test.YtfdkeodfkapncaaDoorTokLaws
import Derived.Test.YtfdkeodfkapncaaDoorTokRows
import Derived.Test.YtfdkeodfkapncaaDoorBytes
import Derived.Test.YtfdkeodfkapncaaDoorTokText
namespace Go.Proofs.YtfdkeodfkapncaaDoor
open Go.RowKit Go.Proofs

theorem conv_one (w : World) (c : UInt8) : (convert 42 9 (.slice (some ⟨w.heap.size, 0, none⟩) 1 1)).run Tryd.prog (w.alloc (.cells #[.int .u8 c.toNat] 5)) = .ok (.string (S [c])) (w.alloc (.cells #[.int .u8 c.toNat] 5)) := by
  have := run_convert_bytes_back (P := Tryd.prog) (w.alloc (.cells #[.int .u8 c.toNat] 5)) 42 9 5 ⟨w.heap.size, 0, none⟩ 1 [c] Tryd.underlying42 Tryd.underlying5 Tryd.underlying9 (fun j hj => by
    have e : j = 0 := by simpa using hj
    subst e
    simp [Addr.add])
  exact this
theorem conv_at (u : World) (g : Nat) (c : UInt8) (x : Int) (hx : (c.toNat : Int) = x) (h : u.cell? ⟨g, 0, none⟩ = some (.int .u8 x)) : (convert 42 9 (.slice (some ⟨g, 0, none⟩) 1 1)).run Tryd.prog u = .ok (.string (S [c])) u :=
  run_convert_bytes_back (P := Tryd.prog) u 42 9 5 ⟨g, 0, none⟩ 1 [c] Tryd.underlying42 Tryd.underlying5 Tryd.underlying9 (fun j hj => by
    have e : j = 0 := by simpa using hj
    subst e
    rw [hx.symm] at h
    simpa [Addr.add] using h)
theorem cell0_new (w : World) (x : Value) (t : TypeId) : (w.drew.alloc (.cells #[x] t)).cell? ⟨w.heap.size, 0, none⟩ = some x := by
  show (w.alloc (.cells #[x] t)).cell? ⟨w.heap.size, 0, none⟩ = some x
  simp
theorem dig_nat {n : Nat} (h : n < 10) : ((UInt8.ofNat (48 + n)).toNat : Int) = 48 + (n : Int) := by
  rw [UInt8.toNat_ofNat_of_lt' (by show 48 + n < 256; omega)]; omega

set_option maxHeartbeats 8000000 in
set_option maxRecDepth 100000 in
theorem rdec_any (n : Nat) : ∀ (_ : n ≤ 2147483647) (w : World), Calls Tryd.prog 38 #[.int .i64 n] w fun e w' => e = .returned (.string (S (decL n))) ∧ Below w.heap.size w w' := by
  induction n using Nat.strongRecOn with
  | _ n ih =>
    intro hn w
    by_cases h10 : n < 10
    · have hi : (n : Int) < 10 := by omega
      obtain ⟨c, hc0⟩ : ∃ c, c = UInt8.ofNat (48 + n) := ⟨_, rfl⟩
      have HD : Hid (decL n = [c]) := by unfold Hid; rw [decL_eq, if_pos h10, hc0]
      have hc := conv_one w c
      have hcn : (c.toNat : Int) = 48 + (n : Int) := by rw [hc0]; exact dig_nat h10
      rw [hcn] at hc
      clear ih hc0 hcn
      go_enter Tryd.func38, Tryd.ntmps38
      go_wp2
      go_ret
      exact ⟨by rw [HD.out]; rfl, (Below.refl _ _).alloc (Nat.le_refl _) _⟩
    · have hi : ¬ (n : Int) < 10 := by omega
      obtain ⟨c, hc0⟩ : ∃ c, c = UInt8.ofNat (48 + n % 10) := ⟨_, rfl⟩
      obtain ⟨q, hq0⟩ : ∃ q, q = n / 10 := ⟨_, rfl⟩
      have HD : Hid (decL n = decL q ++ [c]) := by unfold Hid; rw [decL_eq, if_neg h10, hc0, hq0]
      have hq1 : (n : Int) / 10 = (q : Int) := by omega
      have hq3 : (n : Int).tdiv 10 = (q : Int) := by rw [Int.tdiv_eq_ediv_of_nonneg (by omega)]; exact hq1
      obtain ⟨m, hm0⟩ : ∃ m, m = n % 10 := ⟨_, rfl⟩
      have hm9 : m < 10 := by omega
      have hcn : (c.toNat : Int) = 48 + (m : Int) := by rw [hc0, dig_nat (Nat.mod_lt _ (by decide)), hm0]
      have hm1 : (n : Int).tmod 10 = (m : Int) := by rw [Int.tmod_eq_emod_of_nonneg (by omega)]; omega
      have hw1 : IntKind.i64.wrap (q : Int) = (q : Int) := by simp only [IntKind.wrap_i64]; omega
      have hw2 : IntKind.i64.wrap (48 + (m : Int)) = 48 + (m : Int) := by simp only [IntKind.wrap_i64]; omega
      have hw3 : IntKind.u8.wrap (48 + (m : Int)) = 48 + (m : Int) := by simp only [IntKind.wrap_u8]; omega
      have hc : ∀ (u : World) (g : Nat), u.cell? ⟨g, 0, none⟩ = some (.int .u8 (48 + (m : Int))) → (convert 42 9 (.slice (some ⟨g, 0, none⟩) 1 1)).run Tryd.prog u = .ok (.string (S [c])) u := fun u g h => conv_at u g c _ hcn h
      have HI : Hid _ := ih q (by omega) (by omega)
      have hl := decL_len q 9 (by omega)
      have hz : (S (decL q)).size ≤ 10 := by rw [size_S]; exact hl
      have hadd : ¬ 9223372036854775807 < (S (decL q)).size + (S [c]).size := by have : (S [c]).size = 1 := rfl; omega
      have HA : Hid (S (decL q) ++ S [c] = S (decL q ++ [c])) := S_app _ _
      clear ih hc0 hq0 hcn h10 hm0
      go_enter Tryd.func38, Tryd.ntmps38
      go_wp2
      go_region_with (first
        | (go_at_call 38
           refine (HI.out _).mono ?_
           rintro e u ⟨rfl, hb⟩
           first
             | (have hx := wcell_next (cell0_new w (.int .u8 (48 + (m : Int))) 5) hb; have hcv := hc u w.heap.size hx)
             | skip))
      all_goals go_wp2
      all_goals go_ret
      all_goals refine ⟨by rw [HD.out, ← HA.out]; rfl, ?_⟩
      · exact ((Below.refl _ w).drew.trans hb).alloc hb.size _
      · exact (((Below.refl _ w).alloc (Nat.le_refl _) _).drew).trans (hb.mono (by show w.heap.size ≤ (w.heap.push _).size; simp))
      · exact (((Below.refl _ w).alloc (Nat.le_refl _) _).drew).trans (hb.mono (by show w.heap.size ≤ (w.heap.push _).size; simp))

/- The text of a token. -/
def quoteK (l : List UInt8) (k : Nat) : List UInt8 := quoteL (l.take k)
theorem quoteK_step {l : List UInt8} {k : Nat} (h : k < l.length) : quoteK l (k + 1) = quoteK l k ++ (if l[k] = 34 ∨ l[k] = 92 then [92, l[k]] else [l[k]]) := by
  unfold quoteK
  rw [List.take_succ_eq_append_getElem h]
  unfold quoteL
  rw [List.flatMap_append, List.flatMap_cons, List.flatMap_nil, List.append_nil]
theorem quoteK_len (l : List UInt8) (k : Nat) : (quoteK l k).length ≤ 2 * k := by
  unfold quoteK
  have := quoteL_len (l.take k)
  rw [List.length_take] at this; omega
set_option maxHeartbeats 16000000 in
set_option maxRecDepth 100000 in
theorem rtext_any (t : Tok) (w : World) (hf : faultT t = 0) (hl : t.text.length ≤ 1048576) :
    Calls Tryd.prog 22 #[.agg #[.int .i64 t.kind, .string (S t.text), .int .i64 t.num]] w fun e w' => e = .returned (.string (S (textT t))) ∧ Below w.heap.size w w' := by
  obtain ⟨i0, hi, hz0, hz1, hz2⟩ := info_parts infoB8
  obtain ⟨W0, hW0⟩ : ∃ W0, W0 = w.alloc (.cells #[.int .i64 t.kind, .string (S t.text), .int .i64 t.num] 34) := ⟨_, rfl⟩
  have hT : TokB W0 w.heap.size t := by rw [hW0]; exact tokB_new w t
  have HB0 : Hid (Below w.heap.size w W0) := by unfold Hid; rw [hW0]; exact (Below.refl _ _).alloc (Nat.le_refl _) _
  have HW : Hid _ := hW0
  have HWZ : Hid (W0.heap.size = w.heap.size + 1) := by unfold Hid; rw [hW0]; simp
  have HT0 : Hid (TokB W0 w.heap.size t) := hT
  have k0 := hT.c0
  have k1 := hT.c1
  have k2 := hT.c2
  have hz : (S t.text).size ≤ 1048576 := by rw [size_S]; exact hl
  have HLN : Hid ((S t.text).size = t.text.length) := size_S _
  clear hW0 hT
  have hkc := kind_cases hf
  by_cases h3 : t.kind = 3
  · have hn : 0 ≤ t.num ∧ t.num ≤ 2147483647 := by
      rcases hkc with ⟨k, _⟩ | ⟨k, _⟩ | ⟨_, a, b, _⟩ | ⟨k, _⟩ | ⟨k, _⟩
      · omega
      · omega
      · exact ⟨a, b⟩
      · omega
      · omega
    obtain ⟨n, hn0⟩ : ∃ n : Nat, t.num = (n : Int) := ⟨t.num.toNat, by omega⟩
    have HT : Hid (textT t = decL n) := by unfold Hid textT; rw [if_pos h3, hn0]; rfl
    have hq : (t.kind == 3) = true := by simp [h3]
    rw [hn0] at k2
    have HN : Hid (n ≤ 2147483647) := by unfold Hid; omega
    have HNN : Hid _ := hn0
    clear hkc hf h3 hn hn0
    go_enter Tryd.func22, Tryd.ntmps22
    go_wp2_with fail
    rw [← HW.out]
    rw [HNN.out]
    refine (rdec_any n HN.out _).mono ?_
    rintro e u ⟨rfl, hb⟩
    go_wp2
    go_ret
    exact ⟨by rw [HT.out]; rfl, HB0.out.trans (hb.mono HB0.out.size)⟩
  have q3 : (t.kind == 3) = false := by simp [h3]
  by_cases h2 : t.kind = 2
  · have HT : Hid (textT t = 58 :: t.text) := by unfold Hid textT; rw [if_neg h3, if_pos h2]
    have q2 : (t.kind == 2) = true := by simp [h2]
    have HC : Hid ((⟨#[58]⟩ : ByteArray) ++ S t.text = S (58 :: t.text)) := S_app [58] t.text
    clear hkc hf h3 h2
    go_enter Tryd.func22, Tryd.ntmps22
    go_wp2
    go_ret
    refine ⟨?_, by first | exact HB0.out | (rw [← HW.out]; exact HB0.out) | exact (Below.refl _ _).alloc (Nat.le_refl _) _⟩
    rw [HT.out, ← HC.out]
    rfl
  have q2 : (t.kind == 2) = false := by simp [h2]
  by_cases h4 : t.kind = 4
  · have HT : Hid (textT t = 34 :: (quoteL t.text ++ [34])) := by unfold Hid textT; rw [if_neg h3, if_neg h2, if_pos h4]
    have q4 : (t.kind == 4) = true := by simp [h4]
    have q4' : (t.kind != 4) = false := by simp [h4]
    clear hkc hf h3 h2 h4
    go_enter Tryd.func22, Tryd.ntmps22
    go_wp2
    rw [← HW.out]
    go_loopw [3, 4] (fun v i wr => ∃ (k : Nat) (a0 : Option Addr) (c0 : Nat), k ≤ t.text.length ∧ i = .int .i64 k ∧ v = .slice a0 (quoteK t.text k).length c0 ∧ Hid (wr.ownsRow (w.heap.size + 1) 5 1 (.slice a0 (quoteK t.text k).length c0) (quoteK t.text k).length (bytesC (quoteK t.text k))) ∧ Hid (Below (w.heap.size + 1) W0 wr)) (fun _ i _ => t.text.length - (intOf i).toNat)
    case atStart => exact ⟨0, none, 0, Nat.zero_le _, rfl, rfl, World.ownsRow_nil _ _ _ _, Below.refl _ _⟩
    case round =>
      obtain ⟨k, a0, c0, hk, rfl, rfl, HO, HB⟩ := hrel
      have d1 : wr.cell? ⟨w.heap.size, 1, none⟩ = some (.string (S t.text)) := (HT0.out.below HB.out (Nat.lt_succ_self _)).c1
      have hzr : w.heap.size + 1 ≤ wr.heap.size := by have h1 := HB.out.size; have h2 := HWZ.out; omega
      have hql := quoteK_len t.text k
      by_cases hlt : k < t.text.length
      · have hks : k < (S t.text).size := by have := HLN.out; omega
        have hki : (k : Int) < ((S t.text).size : Int) := by omega
        have hg : (S t.text)[k]'hks = t.text[k]'hlt := S_get _ _ hks hlt
        obtain ⟨c, hc⟩ : ∃ c, c = t.text[k]'hlt := ⟨_, rfl⟩
        have HST0 : Hid (quoteK t.text (k + 1) = quoteK t.text k ++ (if c = 34 ∨ c = 92 then [92, c] else [c])) := by unfold Hid; rw [quoteK_step hlt, hc]
        rw [← hc] at hg
        have HG : Hid _ := hg
        clear hc
        have hb34 : ((((S t.text)[k]'hks).toNat : Int) = 34) ↔ c = 34 := by rw [hg]; exact ⟨fun e => UInt8.toNat_inj.1 (by show c.toNat = 34; omega), fun e => by rw [e]; rfl⟩
        have hb92 : ((((S t.text)[k]'hks).toNat : Int) = 92) ↔ c = 92 := by rw [hg]; exact ⟨fun e => UInt8.toNat_inj.1 (by show c.toNat = 92; omega), fun e => by rw [e]; rfl⟩
        have hcn : (((S t.text)[k]'hks).toNat : Int) = (c.toNat : Int) := by rw [hg]
        by_cases h34 : c = 34
        · have q34 := hb34.2 h34
          have HST : Hid (quoteK t.text (k + 1) = quoteK t.text k ++ [92, c]) := by unfold Hid; rw [HST0.out, if_pos (Or.inl h34)]
          have hcc : (c.toNat : Int) = 34 := by rw [h34]; rfl
          clear hb34 hb92 h34 hg hcn
          go_wp2_with (at_builtin; refine wpList_append_own _ rfl _ _ 42 rfl (w.heap.size + 1) 5 i0 (.int .u8 0) 1 1 Tryd.underlying42 hi hz0 hz1 hz2 rfl (by decide) _ _ _ rfl (World.ownsRow.alloc HO.out _) ⟨wr.heap.size, 0, none⟩ 1 1 [.int .u8 92] rfl rfl (cell_one_fresh _ _ _) ?c2px ?c3px ?c4px ?c5px ?_)
          case c2px => intro u hu; simp at hu; subst hu; rfl
          case c3px => unfold maxLen; omega
          case c4px => omega
          case c5px => simp; omega
          intro vpx upx ownpx growpx _
          have hb1 : Below (w.heap.size + 1) W0 upx := (HB.out.alloc hzr _).grown growpx (by simp; omega) (fun j hj => (World.ownsRow.lt HO.out j hj).1)
          obtain ⟨a1, c1, rfl⟩ := own_form ownpx
          have HO1 : Hid (upx.ownsRow (w.heap.size + 1) 5 1 (.slice a1 ((quoteK t.text k).length + 1) c1) ((quoteK t.text k).length + 1) (bytesC (quoteK t.text k) ++ [.int .u8 92])) := ownpx
          have HB1 : Hid (Below (w.heap.size + 1) W0 upx) := hb1
          have d2 : upx.cell? ⟨w.heap.size, 1, none⟩ = some (.string (S t.text)) := (HT0.out.below hb1 (Nat.lt_succ_self _)).c1
          have hz1' : w.heap.size + 1 ≤ upx.heap.size := by have h1 := hb1.size; have h2 := HWZ.out; omega
          clear ownpx growpx hb1
          go_wp2_with (at_builtin; refine wpList_append_own _ rfl _ _ 42 rfl (w.heap.size + 1) 5 i0 (.int .u8 0) 1 1 Tryd.underlying42 hi hz0 hz1 hz2 rfl (by decide) _ _ _ rfl (World.ownsRow.alloc HO1.out _) ⟨upx.heap.size, 0, none⟩ 1 1 [.int .u8 34] rfl rfl (cell_one_fresh _ _ _) ?c2py ?c3py ?c4py ?c5py ?_)
          case c2py => intro u hu; simp at hu; subst hu; rfl
          case c3py => unfold maxLen; omega
          case c4py => omega
          case c5py => simp; omega
          intro vpy upy ownpy growpy _
          have hb2 : Below (w.heap.size + 1) W0 upy := (HB1.out.alloc hz1' _).grown growpy (by simp; omega) (fun j hj => (World.ownsRow.lt HO1.out j hj).1)
          obtain ⟨a2, c2, rfl⟩ := own_form ownpy
          have HLL : Hid ((quoteK t.text (k + 1)).length = (quoteK t.text k).length + 1 + 1) := by unfold Hid; rw [HST.out]; simp
          have HO2 : Hid (upy.ownsRow (w.heap.size + 1) 5 1 (.slice a2 (quoteK t.text (k + 1)).length c2) (quoteK t.text (k + 1)).length (bytesC (quoteK t.text (k + 1)))) := by
            unfold Hid
            rw [HLL.out, HST.out]
            have e : bytesC (quoteK t.text k ++ [92, c]) = bytesC (quoteK t.text k) ++ [.int .u8 92, .int .u8 34] := by simp [bytesC, hcc]
            rw [e]
            exact ownpy
          have HB2 : Hid (Below (w.heap.size + 1) W0 upy) := hb2
          clear ownpy growpy hb2
          go_wp2
          go_roundw
          case rel => exact ⟨k + 1, a2, c2, by omega, by go_num, by rw [HLL.out], HO2, HB2⟩
          case measure => simp [intOf]; omega
        · have q34 : ¬ (((S t.text)[k]'hks).toNat : Int) = 34 := fun e => h34 (hb34.1 e)
          by_cases h92 : c = 92
          · have q92 := hb92.2 h92
            have HST : Hid (quoteK t.text (k + 1) = quoteK t.text k ++ [92, c]) := by unfold Hid; rw [HST0.out, if_pos (Or.inr h92)]
            have hcc : (c.toNat : Int) = 92 := by rw [h92]; rfl
            clear hb34 hb92 h34 h92 hg hcn
            go_wp2_with (at_builtin; refine wpList_append_own _ rfl _ _ 42 rfl (w.heap.size + 1) 5 i0 (.int .u8 0) 1 1 Tryd.underlying42 hi hz0 hz1 hz2 rfl (by decide) _ _ _ rfl (World.ownsRow.alloc HO.out _) ⟨wr.heap.size, 0, none⟩ 1 1 [.int .u8 92] rfl rfl (cell_one_fresh _ _ _) ?c2rx ?c3rx ?c4rx ?c5rx ?_)
            case c2rx => intro u hu; simp at hu; subst hu; rfl
            case c3rx => unfold maxLen; omega
            case c4rx => omega
            case c5rx => simp; omega
            intro vrx urx ownrx growrx _
            have hb1 : Below (w.heap.size + 1) W0 urx := (HB.out.alloc hzr _).grown growrx (by simp; omega) (fun j hj => (World.ownsRow.lt HO.out j hj).1)
            obtain ⟨a1, c1, rfl⟩ := own_form ownrx
            have HO1 : Hid (urx.ownsRow (w.heap.size + 1) 5 1 (.slice a1 ((quoteK t.text k).length + 1) c1) ((quoteK t.text k).length + 1) (bytesC (quoteK t.text k) ++ [.int .u8 92])) := ownrx
            have HB1 : Hid (Below (w.heap.size + 1) W0 urx) := hb1
            have d2 : urx.cell? ⟨w.heap.size, 1, none⟩ = some (.string (S t.text)) := (HT0.out.below hb1 (Nat.lt_succ_self _)).c1
            have hz1' : w.heap.size + 1 ≤ urx.heap.size := by have h1 := hb1.size; have h2 := HWZ.out; omega
            clear ownrx growrx hb1
            go_wp2_with (at_builtin; refine wpList_append_own _ rfl _ _ 42 rfl (w.heap.size + 1) 5 i0 (.int .u8 0) 1 1 Tryd.underlying42 hi hz0 hz1 hz2 rfl (by decide) _ _ _ rfl (World.ownsRow.alloc HO1.out _) ⟨urx.heap.size, 0, none⟩ 1 1 [.int .u8 92] rfl rfl (cell_one_fresh _ _ _) ?c2ry ?c3ry ?c4ry ?c5ry ?_)
            case c2ry => intro u hu; simp at hu; subst hu; rfl
            case c3ry => unfold maxLen; omega
            case c4ry => omega
            case c5ry => simp; omega
            intro vry ury ownry growry _
            have hb2 : Below (w.heap.size + 1) W0 ury := (HB1.out.alloc hz1' _).grown growry (by simp; omega) (fun j hj => (World.ownsRow.lt HO1.out j hj).1)
            obtain ⟨a2, c2, rfl⟩ := own_form ownry
            have HLL : Hid ((quoteK t.text (k + 1)).length = (quoteK t.text k).length + 1 + 1) := by unfold Hid; rw [HST.out]; simp
            have HO2 : Hid (ury.ownsRow (w.heap.size + 1) 5 1 (.slice a2 (quoteK t.text (k + 1)).length c2) (quoteK t.text (k + 1)).length (bytesC (quoteK t.text (k + 1)))) := by
              unfold Hid
              rw [HLL.out, HST.out]
              have e : bytesC (quoteK t.text k ++ [92, c]) = bytesC (quoteK t.text k) ++ [.int .u8 92, .int .u8 92] := by simp [bytesC, hcc]
              rw [e]
              exact ownry
            have HB2 : Hid (Below (w.heap.size + 1) W0 ury) := hb2
            clear ownry growry hb2
            go_wp2
            go_roundw
            case rel => exact ⟨k + 1, a2, c2, by omega, by go_num, by rw [HLL.out], HO2, HB2⟩
            case measure => simp [intOf]; omega
          · have q92 : ¬ (((S t.text)[k]'hks).toNat : Int) = 92 := fun e => h92 (hb92.1 e)
            have b34 : ((((S t.text)[k]'hks).toNat : Int) == 34) = false := by simpa using q34
            have b92 : ((((S t.text)[k]'hks).toNat : Int) == 92) = false := by simpa using q92
            have HST : Hid (quoteK t.text (k + 1) = quoteK t.text k ++ [c]) := by unfold Hid; rw [HST0.out, if_neg (fun h => h.elim h34 h92)]
            clear hb34 hb92 h34 h92 hg hcn
            go_wp2_with (at_builtin; refine wpList_append_own _ rfl _ _ 42 rfl (w.heap.size + 1) 5 i0 (.int .u8 0) 1 1 Tryd.underlying42 hi hz0 hz1 hz2 rfl (by decide) _ _ _ rfl (World.ownsRow.alloc HO.out _) ⟨wr.heap.size, 0, none⟩ 1 1 [.int .u8 (((S t.text)[k]'hks).toNat : Int)] rfl rfl (cell_one_fresh _ _ _) ?c2z ?c3z ?c4z ?c5z ?_)
            case c2z => intro u hu; simp at hu; subst hu; rfl
            case c3z => unfold maxLen; omega
            case c4z => omega
            case c5z => simp; omega
            intro vz uz ownz growz _
            have hb1 : Below (w.heap.size + 1) W0 uz := (HB.out.alloc hzr _).grown growz (by simp; omega) (fun j hj => (World.ownsRow.lt HO.out j hj).1)
            obtain ⟨a2, c2, rfl⟩ := own_form ownz
            have HLL : Hid ((quoteK t.text (k + 1)).length = (quoteK t.text k).length + 1) := by unfold Hid; rw [HST.out]; simp
            have HO2 : Hid (uz.ownsRow (w.heap.size + 1) 5 1 (.slice a2 (quoteK t.text (k + 1)).length c2) (quoteK t.text (k + 1)).length (bytesC (quoteK t.text (k + 1)))) := by
              unfold Hid
              rw [HLL.out, HST.out, bytesC_snoc _ c _ rfl, ← HG.out]
              exact ownz
            have HB2 : Hid (Below (w.heap.size + 1) W0 uz) := hb1
            clear ownz growz hb1
            go_wp2
            go_roundw
            case rel => exact ⟨k + 1, a2, c2, by omega, by go_num, by rw [HLL.out], HO2, HB2⟩
            case measure => simp [intOf]; omega
      · have hkl : k = t.text.length := by omega
        have hki : ¬ (k : Int) < ((S t.text).size : Int) := by have := HLN.out; omega
        have HQ : Hid (quoteK t.text k = quoteL t.text) := by unfold Hid quoteK; rw [hkl, List.take_of_length_le (Nat.le_refl _)]
        have hconv := bytesC_back HO.out
        have hqz : (S (quoteK t.text k)).size ≤ 2097152 := by rw [size_S]; omega
        have HC1 : Hid ((⟨#[34]⟩ : ByteArray) ++ S (quoteK t.text k) ++ (⟨#[34]⟩ : ByteArray) = S (34 :: (quoteL t.text ++ [34]))) := by
          unfold Hid
          have e1 : (⟨#[34]⟩ : ByteArray) = S [34] := rfl
          rw [e1, S_app, S_app, HQ.out]
          rfl
        have HBF : Hid (Below w.heap.size w wr) := HB0.out.trans (HB.out.mono (by omega))
        clear hkl
        go_wp2
        go_ret
        exact ⟨by rw [HT.out, ← HC1.out]; rfl, HBF.out⟩
  have q4 : (t.kind == 4) = false := by simp [h4]
  have q4' : (t.kind != 4) = true := by simp [h4]
  have HT : Hid (textT t = t.text) := by unfold Hid textT; rw [if_neg h3, if_neg h2, if_neg h4]
  clear hkc hf h3 h2 h4
  go_enter Tryd.func22, Tryd.ntmps22
  go_wp2
  go_ret
  exact ⟨by rw [HT.out]; rfl, by first | exact HB0.out | (rw [← HW.out]; exact HB0.out) | exact (Below.refl _ _).alloc (Nat.le_refl _) _⟩
end Go.Proofs.YtfdkeodfkapncaaDoor
