/-
  What the laws' makers of a word and of an address do: the walks.
-/
import Derived.Test.YtjcffjokhjechaaDoorWhoPart
import Derived.Test.YtjcffjokhjechaaDoorWhoLaws
import Derived.Deep.RegionHeld3
namespace Go.Proofs.YtjcffjokhjechaaDoor
open Go.RowKit

theorem infoB8 : (Tryd.prog.info? 5).map (fun i => (i.zero, i.size, i.bytes)) = some (some (.int .u8 0), 1, 1) := by kernel_rfl
def bytesC (l : List UInt8) : List Value := l.map fun c => .int .u8 c.toNat
theorem bytesC_snoc (l : List UInt8) (c : UInt8) (x : Int) (hx : (c.toNat : Int) = x) : bytesC (l ++ [c]) = bytesC l ++ [.int .u8 x] := by
  simp [bytesC, ← hx]
theorem bytesC_back {w : World} {base n : Nat} {v : Value} {l : List UInt8} (h : w.ownsRow base 5 1 v n (bytesC l)) :
    (convert 32 9 v).run Tryd.prog w = .ok (.string (S l)) w := by
  have hl : l.length = n := by have := h.1; simpa [bytesC] using this
  rcases h.2 with ⟨rfl, hn⟩ | ⟨g, cap, cur, rfl, _⟩
  · rw [run_convert_bytes_nil w 32 5 Tryd.underlying32 Tryd.underlying5 0 0 9 Tryd.underlying9]
    have : l = [] := List.length_eq_zero_iff.1 (by omega)
    subst this
    rfl
  · have := run_convert_bytes_back (P := Tryd.prog) w 32 9 5 ⟨g, 0, none⟩ cap l Tryd.underlying32 Tryd.underlying5 Tryd.underlying9 (fun j hj => by
      have e : (⟨g, 0, none⟩ : Addr).add j = ⟨g, j, none⟩ := by simp [Addr.add]; omega
      rw [e, h.cellAt j (by omega)]
      simp [bytesC, hj])
    rw [hl] at this
    exact this

theorem own_form {w : World} {base : Nat} {e : TypeId} {size : Nat} {v : Value} {n : Nat} {xs : List Value} (h : w.ownsRow base e size v n xs) : ∃ a c, v = .slice a n c := by
  rcases h.2 with ⟨hv, rfl⟩ | ⟨g, cap, cur, hv, _⟩
  · exact ⟨_, _, hv⟩
  · exact ⟨_, _, hv⟩
theorem cell_one_fresh (w : World) (x : Value) (t : TypeId) : ∀ (j : Nat) u, [x][j]? = some u → (w.alloc (.cells #[x] t)).cell? ((⟨w.heap.size, 0, none⟩ : Addr).add j) = some u := by
  intro j u hj
  rw [Addr.add_lit, Nat.zero_add]
  match j, hj with
  | 0, hj => simp at hj; subst hj; simp
def wordC (c : UInt8) : UInt8 := UInt8.ofNat (97 + c.toNat % 26)
theorem wordC_nat (c : UInt8) : ((wordC c).toNat : Int) = 97 + (c.toNat : Int) % 26 := by
  unfold wordC
  have h : 97 + c.toNat % 26 < 256 := by omega
  rw [UInt8.toNat_ofNat_of_lt' (by simpa using h)]
  omega
def wordK (l : List UInt8) (k : Nat) : List UInt8 := (l.take k).map wordC
def wordL (l : List UInt8) : List UInt8 := if l = [] then [120] else wordK l 8
theorem wordL_len (l : List UInt8) : (wordL l).length ≤ 8 := by unfold wordL wordK; split <;> simp; omega
theorem word_step (s : ByteArray) (k : Nat) (hk : k < s.size) : bytesC (wordK s.data.toList (k + 1)) = bytesC (wordK s.data.toList k) ++ [.int .u8 (97 + (s[k].toNat : Int) % 26)] := by
  unfold wordK
  rw [take_snoc s k hk, List.map_append]
  exact bytesC_snoc _ _ _ (wordC_nat _)

set_option maxHeartbeats 1000000 in
set_option maxRecDepth 100000 in
theorem word_any (s : ByteArray) (w : World) (hs : s.size ≤ maxLen) :
    Calls Tryd.prog 8 #[.string s] w fun e w' => e = .returned (.string (S (wordL s.data.toList))) ∧ Below w.heap.size w w' := by
  unfold maxLen at hs
  obtain ⟨i0, hi, hz0, hz1, hz2⟩ := info_parts infoB8
  go_enter Tryd.func8, Tryd.ntmps8
  go_wp2
  go_loopw [3, 4] (fun v i wr => ∃ k : Nat, k ≤ s.size ∧ k ≤ 8 ∧ i = .int .i64 k ∧ wr.ownsRow w.heap.size 5 1 v k (bytesC (wordK s.data.toList k)) ∧ Below w.heap.size w wr) (fun _ i _ => 8 - (intOf i).toNat)
  case atStart => exact ⟨0, Nat.zero_le _, Nat.zero_le _, rfl, World.ownsRow_nil _ _ _ _, Below.refl _ _⟩
  case round =>
    obtain ⟨k, hk, hk8, rfl, hown, hB⟩ := hrel
    by_cases hlt : k < s.size ∧ k < 8
    · obtain ⟨hl1, hl2⟩ := hlt
      have hu := s[k].toNat_lt
      have hu0 : (0 : Int) ≤ (s[k].toNat : Int) := by omega
      have hu1 : (s[k].toNat : Int) ≤ 255 := by omega
      have HS : Hid _ := word_step s k hl1
      go_wp2_with (at_builtin; refine wpList_append_own _ rfl _ _ 32 rfl w.heap.size 5 i0 (.int .u8 0) 1 1 Tryd.underlying32 hi hz0 hz1 hz2 rfl (by decide) _ _ _ rfl (hown.alloc _) ⟨wr.heap.size, 0, none⟩ 1 1 [.int .u8 (97 + (s[k].toNat : Int) % 26)] rfl rfl (cell_one_fresh _ _ _) ?c2 ?c3 ?c4 ?c5 ?_)
      case c2 => intro u hu; simp at hu; subst hu; rfl
      case c3 => unfold maxLen; omega
      case c4 => omega
      case c5 => have := hB.size; simp; omega
      intro v' w2 hown' hgrow _
      have hsz := hB.size
      have hB2 : Below w.heap.size w w2 := (hB.alloc hsz _).grown hgrow (by simp; omega) (fun j hj => (hown.lt j hj).1)
      rw [← HS.out] at hown'
      clear hgrow hown
      go_wp2
      go_roundw
      case rel => first | exact ⟨k + 1, by omega, by omega, by go_num, hown', hB2⟩ | ((repeat apply Exists.intro); exact ⟨⟨k + 1, by omega, by omega, by go_num, hown', hB2⟩, rfl⟩) | (refine ⟨trivial, ?_⟩; (repeat apply Exists.intro); exact ⟨⟨k + 1, by omega, by omega, by go_num, hown', hB2⟩, rfl⟩)
      case measure => simp [intOf]; omega
    · by_cases h0 : s.size = 0
      · have hk0 : k = 0 := by omega
        subst hk0
        have HW : Hid (wordL s.data.toList = [120]) := by
          have : s.data.toList = [] := List.length_eq_zero_iff.1 (by rw [size_list]; exact h0)
          unfold Hid wordL; rw [if_pos this]
        obtain ⟨a0, c0, rfl⟩ := own_form hown
        go_wp2
        go_ret
        exact ⟨by rw [HW.out]; rfl, hB⟩
      · have HT : Hid (wordL s.data.toList = wordK s.data.toList k) := by
          have hne : s.data.toList ≠ [] := fun e => by have := size_list s; rw [e] at this; simp at this; omega
          unfold Hid wordL
          rw [if_neg hne]
          by_cases h8 : k = 8
          · rw [h8]
          · unfold wordK
            rw [List.take_of_length_le (by rw [size_list]; omega), List.take_of_length_le (by rw [size_list]; omega)]
        have hkp : (k : Int) ≠ 0 := by omega
        have hkb : ((k : Int) == 0) = false := by simpa using hkp
        have hrun := bytesC_back hown
        obtain ⟨a0, c0, rfl⟩ := own_form hown
        by_cases h8 : k < s.size
        · have hk8' : ¬ k < 8 := fun h => hlt ⟨h8, h⟩
          go_wp2
          go_ret
          exact ⟨by rw [HT.out]; rfl, hB⟩
        · go_wp2
          go_ret
          exact ⟨by rw [HT.out]; rfl, hB⟩

theorem word_wordy (l : List UInt8) : wordy (wordL l) := by
  refine ⟨?_, wordL_len l, ?_⟩
  · unfold wordL wordK
    split
    · simp
    · rename_i h
      cases l with
      | nil => exact absurd rfl h
      | cons c t => simp
  · intro c hc
    unfold wordL at hc
    split at hc
    · simp at hc; subst hc; decide
    · obtain ⟨x, _, rfl⟩ := List.mem_map.1 hc
      have := wordC_nat x
      omega
/-- The address that a law makes of raw texts. -/
def adrOf (l d : List UInt8) : Adr := (wordL l, wordL d ++ orgL)
theorem adrOf_lawful (l d : List UInt8) : lawful (adrOf l d) := ⟨word_wordy l, _, word_wordy d, rfl⟩
theorem org_text (l : List UInt8) : S l ++ ⟨#[46, 111, 114, 103]⟩ = S (l ++ orgL) := by
  rw [← S_list (S l ++ ⟨#[46, 111, 114, 103]⟩)]
  simp [list_S, orgL]

set_option maxHeartbeats 8000000 in
set_option maxRecDepth 100000 in
theorem address_any (l d g : ByteArray) (w : World) (hl : l.size ≤ maxLen) (hd : d.size ≤ maxLen) :
    Calls Tryd.prog 15 #[.agg #[.string l, .string d, .string g]] w fun e w' => e = .returned (.agg #[.string (S (adrOf l.data.toList d.data.toList).1), .string (S (adrOf l.data.toList d.data.toList).2)]) ∧ Below w.heap.size w w' := by
  have HL : Hid _ := hl
  have HD : Hid _ := hd
  clear hl hd
  obtain ⟨x, hx⟩ : ∃ x, x = wordL l.data.toList := ⟨_, rfl⟩
  obtain ⟨y, hy⟩ : ∃ y, y = wordL d.data.toList := ⟨_, rfl⟩
  have sx : (S x).size ≤ 8 := by rw [size_S, hx]; exact wordL_len _
  have sy : (S y).size ≤ 8 := by rw [size_S, hy]; exact wordL_len _
  have HA : Hid (adrOf l.data.toList d.data.toList = (x, y ++ orgL)) := by unfold Hid adrOf; rw [hx, hy]
  have HO : Hid (S y ++ ⟨#[46, 111, 114, 103]⟩ = S (y ++ orgL)) := org_text y
  have HX : Hid _ := hx
  have HY : Hid _ := hy
  clear hx hy
  obtain ⟨W0, hW0⟩ : ∃ W0, W0 = (w.alloc (.cells #[.string l, .string d, .string g] 44)).alloc (.cells #[.string ⟨#[]⟩, .string ⟨#[]⟩] 46) := ⟨_, rfl⟩
  have hB0 : Below w.heap.size w W0 := by rw [hW0]; exact ((Below.refl _ _).alloc (Nat.le_refl _) _).alloc (by simp) _
  have hz0 : w.heap.size + 2 = W0.heap.size := by rw [hW0]; simp
  have c0 : W0.cell? ⟨w.heap.size, 0, none⟩ = some (.string l) := by rw [hW0]; simp
  have c1 : W0.cell? ⟨w.heap.size, 1, none⟩ = some (.string d) := by rw [hW0]; simp
  have r0 : W0.cell? ⟨w.heap.size + 1, 0, none⟩ = some (.string ⟨#[]⟩) := by rw [hW0]; simp
  have r1 : W0.cell? ⟨w.heap.size + 1, 1, none⟩ = some (.string ⟨#[]⟩) := by rw [hW0]; simp
  have f0 : W0.frozen? ⟨w.heap.size + 1, 0, none⟩ = false := by rw [hW0]; simp
  have f1 : W0.frozen? ⟨w.heap.size + 1, 1, none⟩ = false := by rw [hW0]; simp
  have HW : Hid _ := hW0
  clear hW0
  go_enter Tryd.func15, Tryd.ntmps15
  go_wp2
  rw [← HW.out]
  have cD0 : W0.drew.cell? ⟨w.heap.size, 0, none⟩ = some (.string l) := c0
  have cD1 : W0.drew.cell? ⟨w.heap.size, 1, none⟩ = some (.string d) := c1
  have hadd : ¬ 9223372036854775807 < (S y).size + 4 := by omega
  have hne : w.heap.size ≠ w.heap.size + 1 := by omega
  have hne' : w.heap.size + 1 ≠ w.heap.size := by omega
  go_region_held3 (fun w' => w'.cell? ⟨w.heap.size, 0, none⟩ = some (.string l) ∧ w'.cell? ⟨w.heap.size, 1, none⟩ = some (.string d)) (go_keep)
    (first
       | (go_at_call_of 8 (Value.string l)
          refine (word_any l _ HL.out).mono ?_
          rintro e w1 ⟨rfl, hb1⟩
          rw [← HX.out]
          have e0 : w1.cell? ⟨w.heap.size, 0, none⟩ = some (.string l) := wcell_next (w := W0.drew) c0 hb1
          have e1 : w1.cell? ⟨w.heap.size, 1, none⟩ = some (.string d) := wcell_next (w := W0.drew) c1 hb1
          have s1 : w.heap.size + 1 < w1.heap.size := by have := hb1.size; have h2 : W0.drew.heap.size = W0.heap.size := rfl; omega)
       | (go_at_call_of 8 (Value.string d)
          refine (word_any d _ HD.out).mono ?_
          rintro e w2 ⟨rfl, hb2⟩
          rw [← HY.out]
          have hz2 := hb2.size
          have i0 : w2.cell? ⟨w.heap.size, 0, none⟩ = some (.string l) := wcell_next e0 hb2
          have i1 : w2.cell? ⟨w.heap.size, 1, none⟩ = some (.string d) := wcell_next e1 hb2
          have g0 : w2.cell? ⟨w.heap.size + 1, 0, none⟩ = some (.string ⟨#[]⟩) := wcell_next (wcell_next (w := W0.drew) r0 hb1) hb2
          have g1 : w2.cell? ⟨w.heap.size + 1, 1, none⟩ = some (.string ⟨#[]⟩) := wcell_next (wcell_next (w := W0.drew) r1 hb1) hb2
          have k0 : w2.frozen? ⟨w.heap.size + 1, 0, none⟩ = false := (hb2.frozen s1).trans ((hb1.frozen (by show w.heap.size + 1 < W0.heap.size; omega)).trans f0)
          have k1 : w2.frozen? ⟨w.heap.size + 1, 1, none⟩ = false := (hb2.frozen s1).trans ((hb1.frozen (by show w.heap.size + 1 < W0.heap.size; omega)).trans f1)))
  rw [HO.out]
  have hB2 : Below w.heap.size w ((w2.setCell ⟨w.heap.size + 1, 0, none⟩ (.string (S x))).setCell ⟨w.heap.size + 1, 1, none⟩ (.string (S (y ++ orgL)))) :=
    ((wnext (wnext hB0.drew hb1 (Nat.le_refl _)) hb2 (Nat.le_refl _)).setCell (by simp) _).setCell (by simp) _
  have HB2 : Hid _ := hB2
  clear hB2
  go_wp2
  refine bodyPost_ret (v := .agg #[.string (S x), .string (S (y ++ orgL))]) (by simp [results, Tryd.results15, go_sem, g0, g1]) rfl ⟨?_, HB2.out⟩
  rw [HA.out]
end Go.Proofs.YtjcffjokhjechaaDoor
