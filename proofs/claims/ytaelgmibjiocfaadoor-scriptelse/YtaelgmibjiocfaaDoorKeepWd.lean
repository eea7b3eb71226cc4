/-
  What the laws' maker of words does: the walk.
-/
import Derived.Test.YtaelgmibjiocfaaDoorRows
import Derived.Test.YtaelgmibjiocfaaDoorPure
namespace Go.Proofs.YtaelgmibjiocfaaDoor
open Go.RowKit

theorem infoB8 : (Tryd.prog.info? 5).map (fun i => (i.zero, i.size, i.bytes)) = some (some (.int .u8 0), 1, 1) := by kernel_rfl
def bytesC (l : List UInt8) : List Value := l.map fun c => .int .u8 c.toNat
theorem bytesC_snoc (l : List UInt8) (c : UInt8) (x : Int) (hx : (c.toNat : Int) = x) : bytesC (l ++ [c]) = bytesC l ++ [.int .u8 x] := by
  simp [bytesC, ← hx]
theorem bytesC_back {w : World} {base n : Nat} {v : Value} {l : List UInt8} (h : w.ownsRow base 5 1 v n (bytesC l)) :
    (convert 45 9 v).run Tryd.prog w = .ok (.string (S l)) w := by
  have hl : l.length = n := by have := h.1; simpa [bytesC] using this
  rcases h.2 with ⟨rfl, hn⟩ | ⟨g, cap, cur, rfl, _⟩
  · rw [run_convert_bytes_nil w 45 5 Tryd.underlying45 Tryd.underlying5 0 0 9 Tryd.underlying9]
    have : l = [] := List.length_eq_zero_iff.1 (by omega)
    subst this
    rfl
  · have := run_convert_bytes_back (P := Tryd.prog) w 45 9 5 ⟨g, 0, none⟩ cap l Tryd.underlying45 Tryd.underlying5 Tryd.underlying9 (fun j hj => by
      have e : (⟨g, 0, none⟩ : Addr).add j = ⟨g, j, none⟩ := by simp [Addr.add]; omega
      rw [e, h.cellAt j (by omega)]
      simp [bytesC, hj])
    rw [hl] at this
    exact this

theorem own_form {w : World} {base : Nat} {e : TypeId} {size : Nat} {v : Value} {n : Nat} {xs : List Value} (h : w.ownsRow base e size v n xs) : ∃ a c, v = .slice a n c := by
  rcases h.2 with ⟨hv, rfl⟩ | ⟨g, cap, cur, hv, _⟩
  · exact ⟨_, _, hv⟩
  · exact ⟨_, _, hv⟩
theorem cell_one_fresh (w : World) (x : Value) (t : TypeId) : ∀ (j : Nat) u, [x][j]? = some u → (w.alloc (.cells #[x] t)).cell? ((⟨w.heap.size, 0, none⟩ : Addr).add j) = some u := by
  intro j u hj
  rw [Addr.add_lit, Nat.zero_add]
  match j, hj with
  | 0, hj => simp at hj; subst hj; simp
def wordC (c : UInt8) : UInt8 := UInt8.ofNat (97 + c.toNat % 26)
theorem wordC_nat (c : UInt8) : ((wordC c).toNat : Int) = 97 + (c.toNat : Int) % 26 := by
  unfold wordC
  have h : 97 + c.toNat % 26 < 256 := by omega
  rw [UInt8.toNat_ofNat_of_lt' (by simpa using h)]
  omega
def wordK (l : List UInt8) (k : Nat) : List UInt8 := (l.take k).map wordC
def wordL (l : List UInt8) : List UInt8 := if l = [] then [120] else wordK l 8
theorem wordL_len (l : List UInt8) : (wordL l).length ≤ 8 := by unfold wordL wordK; split <;> simp; omega
theorem word_step (s : ByteArray) (k : Nat) (hk : k < s.size) : bytesC (wordK s.data.toList (k + 1)) = bytesC (wordK s.data.toList k) ++ [.int .u8 (97 + (s[k].toNat : Int) % 26)] := by
  unfold wordK
  rw [take_snoc s k hk, List.map_append]
  exact bytesC_snoc _ _ _ (wordC_nat _)

set_option maxHeartbeats 1000000 in
set_option maxRecDepth 100000 in
theorem word_any (s : ByteArray) (w : World) (hs : s.size ≤ maxLen) :
    Calls Tryd.prog 8 #[.string s] w fun e w' => e = .returned (.string (S (wordL s.data.toList))) ∧ Below w.heap.size w w' := by
  unfold maxLen at hs
  obtain ⟨i0, hi, hz0, hz1, hz2⟩ := info_parts infoB8
  go_enter Tryd.func8, Tryd.ntmps8
  go_wp2
  go_loopw [3, 4] (fun v i wr => ∃ k : Nat, k ≤ s.size ∧ k ≤ 8 ∧ i = .int .i64 k ∧ wr.ownsRow w.heap.size 5 1 v k (bytesC (wordK s.data.toList k)) ∧ Below w.heap.size w wr) (fun _ i _ => 8 - (intOf i).toNat)
  case atStart => exact ⟨0, Nat.zero_le _, Nat.zero_le _, rfl, World.ownsRow_nil _ _ _ _, Below.refl _ _⟩
  case round =>
    obtain ⟨k, hk, hk8, rfl, hown, hB⟩ := hrel
    by_cases hlt : k < s.size ∧ k < 8
    · obtain ⟨hl1, hl2⟩ := hlt
      have hu := s[k].toNat_lt
      have hu0 : (0 : Int) ≤ (s[k].toNat : Int) := by omega
      have hu1 : (s[k].toNat : Int) ≤ 255 := by omega
      have HS : Hid _ := word_step s k hl1
      go_wp2_with (at_builtin; refine wpList_append_own _ rfl _ _ 45 rfl w.heap.size 5 i0 (.int .u8 0) 1 1 Tryd.underlying45 hi hz0 hz1 hz2 rfl (by decide) _ _ _ rfl (hown.alloc _) ⟨wr.heap.size, 0, none⟩ 1 1 [.int .u8 (97 + (s[k].toNat : Int) % 26)] rfl rfl (cell_one_fresh _ _ _) ?c2 ?c3 ?c4 ?c5 ?_)
      case c2 => intro u hu; simp at hu; subst hu; rfl
      case c3 => unfold maxLen; omega
      case c4 => omega
      case c5 => have := hB.size; simp; omega
      intro v' w2 hown' hgrow _
      have hsz := hB.size
      have hB2 : Below w.heap.size w w2 := (hB.alloc hsz _).grown hgrow (by simp; omega) (fun j hj => (hown.lt j hj).1)
      rw [← HS.out] at hown'
      clear hgrow hown
      go_wp2
      go_roundw
      case rel => first | exact ⟨k + 1, by omega, by omega, by go_num, hown', hB2⟩ | ((repeat apply Exists.intro); exact ⟨⟨k + 1, by omega, by omega, by go_num, hown', hB2⟩, rfl⟩) | (refine ⟨trivial, ?_⟩; (repeat apply Exists.intro); exact ⟨⟨k + 1, by omega, by omega, by go_num, hown', hB2⟩, rfl⟩)
      case measure => simp [intOf]; omega
    · by_cases h0 : s.size = 0
      · have hk0 : k = 0 := by omega
        subst hk0
        have HW : Hid (wordL s.data.toList = [120]) := by
          have : s.data.toList = [] := List.length_eq_zero_iff.1 (by rw [size_list]; exact h0)
          unfold Hid wordL; rw [if_pos this]
        obtain ⟨a0, c0, rfl⟩ := own_form hown
        go_wp2
        go_ret
        exact ⟨by rw [HW.out]; rfl, hB⟩
      · have HT : Hid (wordL s.data.toList = wordK s.data.toList k) := by
          have hne : s.data.toList ≠ [] := fun e => by have := size_list s; rw [e] at this; simp at this; omega
          unfold Hid wordL
          rw [if_neg hne]
          by_cases h8 : k = 8
          · rw [h8]
          · unfold wordK
            rw [List.take_of_length_le (by rw [size_list]; omega), List.take_of_length_le (by rw [size_list]; omega)]
        have hkp : (k : Int) ≠ 0 := by omega
        have hkb : ((k : Int) == 0) = false := by simpa using hkp
        have hrun := bytesC_back hown
        obtain ⟨a0, c0, rfl⟩ := own_form hown
        by_cases h8 : k < s.size
        · have hk8' : ¬ k < 8 := fun h => hlt ⟨h8, h⟩
          go_wp2
          go_ret
          exact ⟨by rw [HT.out]; rfl, hB⟩
        · go_wp2
          go_ret
          exact ⟨by rw [HT.out]; rfl, hB⟩

end Go.Proofs.YtaelgmibjiocfaaDoor
