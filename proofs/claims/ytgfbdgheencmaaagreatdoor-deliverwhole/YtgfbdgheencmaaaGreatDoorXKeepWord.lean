/-
  What the laws' makers of plain texts do (value): the walk.
-/
import Derived.Test.YtgfbdgheencmaaaGreatDoorXQScrCard6
namespace Go.Proofs.YtgfbdgheencmaaaGreatDoor
open Go.RowKit
def valC (n i : Nat) (c : UInt8) : UInt8 := if c = 13 ∨ c = 10 ∨ ((c = 32 ∨ c = 9) ∧ (i = 0 ∨ i + 1 = n ∨ i = 39)) then 121 else c
def valK (l : List UInt8) : Nat → List UInt8
 | 0 => []
 | k + 1 => valK l k ++ [valC l.length k (l[k]?.getD 0)]
def valL (l : List UInt8) : List UInt8 := valK l (min l.length 40)
theorem jgK (l : List UInt8) (k : Nat) : (valK l k).length = k := by
 induction k with
 | zero => rfl
 | succ k ih => simp [valK, ih]
theorem jmj (l : List UInt8) : (valL l).length ≤ 40 := by unfold valL; rw [jgK]; omega
theorem jkQ (c : UInt8) (n : Nat) (hn : n < 256) : ((c.toNat : Int) == (n : Int)) = decide (c = UInt8.ofNat n) := by
 rw [Bool.eq_iff_iff, beq_iff_eq, decide_eq_true_iff]
 constructor
 · intro h; exact UInt8.toNat_inj.1 (by rw [UInt8.toNat_ofNat_of_lt' (by simpa using hn)]; omega)
 · rintro rfl; rw [UInt8.toNat_ofNat_of_lt' (by simpa using hn)]
theorem jih (c : UInt8) (n k : Nat) :
 (((c.toNat : Int) == 13) = true ∧ Hid (valC n k c = 121)) ∨
 (((c.toNat : Int) == 13) = false ∧ ((c.toNat : Int) == 10) = true ∧ Hid (valC n k c = 121)) ∨
 (((c.toNat : Int) == 13) = false ∧ ((c.toNat : Int) == 10) = false ∧ ((c.toNat : Int) == 32) = false ∧ ((c.toNat : Int) == 9) = false ∧ Hid (valC n k c = c)) ∨
 (((c.toNat : Int) == 13) = false ∧ ((c.toNat : Int) == 10) = false ∧ (((c.toNat : Int) == 32) = true ∨ (((c.toNat : Int) == 32) = false ∧ ((c.toNat : Int) == 9) = true)) ∧
   ((((k : Int) == 0) = true ∧ Hid (valC n k c = 121)) ∨ (((k : Int) == 0) = false ∧ ((k : Int) == (n : Int) - 1) = true ∧ Hid (valC n k c = 121)) ∨
    (((k : Int) == 0) = false ∧ ((k : Int) == (n : Int) - 1) = false ∧ ((k : Int) == 39) = true ∧ Hid (valC n k c = 121)) ∨
    (((k : Int) == 0) = false ∧ ((k : Int) == (n : Int) - 1) = false ∧ ((k : Int) == 39) = false ∧ Hid (valC n k c = c)))) := by
 have b13 := jkQ c 13 (by omega); have b10 := jkQ c 10 (by omega); have b32 := jkQ c 32 (by omega); have b9 := jkQ c 9 (by omega); simp only [Int.cast_ofNat_Int] at b13 b10 b32 b9; rw [b13, b10, b32, b9]; have e0 : ((k : Int) == 0) = decide (k = 0) := by rw [Bool.eq_iff_iff]; simp
 have e1 : ((k : Int) == (n : Int) - 1) = decide (k + 1 = n) := by rw [Bool.eq_iff_iff]; simp; omega
 have e2 : ((k : Int) == 39) = decide (k = 39) := by rw [Bool.eq_iff_iff]; simp; omega
 rw [e0, e1, e2]; unfold Hid valC; have f13 : (UInt8.ofNat 13) = 13 := rfl; have f10 : (UInt8.ofNat 10) = 10 := rfl; have f32 : (UInt8.ofNat 32) = 32 := rfl; have f9 : (UInt8.ofNat 9) = 9 := rfl; rw [f13, f10, f32, f9]
 by_cases g1 : c = 13
 · left; simp [g1]
 · by_cases g2 : c = 10
   · right; left; simp [g2]
   · by_cases g3 : c = 32
     · right; right; right
       by_cases g5 : k = 0
       · simp [g3, g5]
       · by_cases g6 : k + 1 = n
         · simp [g3, g5, g6]
         · by_cases g7 : k = 39
           · simp [g3, g7]; omega
           · simp [g3, g5, g6, g7]
     · by_cases g4 : c = 9
       · right; right; right
         by_cases g5 : k = 0
         · simp [g4, g5]
         · by_cases g6 : k + 1 = n
           · simp [g4, g5, g6]
           · by_cases g7 : k = 39
             · simp [g4, g7]; omega
             · simp [g4, g5, g6, g7]
       · right; right; left; simp [g1, g2, g3, g4]
theorem jgL (s : ByteArray) (k : Nat) (hk : k < s.size) (x : Int) (hx : ((valC s.size k s[k]).toNat : Int) = x) : vy (valK s.data.toList (k + 1)) = vy (valK s.data.toList k) ++ [.int .u8 x] := by
 have e : valK s.data.toList (k + 1) = valK s.data.toList k ++ [valC s.size k s[k]] := by
  show _ ++ [valC _ k (s.data.toList[k]?.getD 0)] = _
  rw [qG s k hk, size_list]; rfl
 rw [e]; exact jb0 _ _ _ hx
set_option maxHeartbeats 4000000 in
set_option maxRecDepth 100000 in
theorem jky (s : ByteArray) (w : World) (hs : s.size ≤ maxLen) :
 Calls Tryz.prog 29 #[.string s] w fun e w' => e = .returned (.string (S (valL s.data.toList))) ∧ Below w.heap.size w w' := by
 unfold maxLen at hs; obtain ⟨i0, hi, hz0, hz1, hz2⟩ := info_parts jmv; go_enter Tryz.func29, Tryz.ntmps29; go_wp2
 go_loopw [3, 4] (fun v i wr => ∃ k : Nat, k ≤ s.size ∧ k ≤ 40 ∧ i = .int .i64 k ∧ wr.ownsRow w.heap.size 5 1 v k (vy (valK s.data.toList k)) ∧ Below w.heap.size w wr) (fun _ i _ => 40 - (intOf i).toNat)
 case atStart => exact ⟨0, Nat.zero_le _, Nat.zero_le _, rfl, World.ownsRow_nil _ _ _ _, Below.refl _ _⟩
 case round =>
  obtain ⟨k, hk, hk8, rfl, hown, hB⟩ := hrel
  by_cases hlt : k < s.size ∧ k < 40
  · obtain ⟨hl1, hl2⟩ := hlt; have hcs := jih s[k] s.size k
    rcases hcs with ⟨h1, HV⟩ | ⟨h1, h2, HV⟩ | ⟨h1, h2, h3, h4, HV⟩ | ⟨h1, h2, h3 | ⟨h3, h3'⟩, ⟨h4, HV⟩ | ⟨h4, h5, HV⟩ | ⟨h4, h5, h6, HV⟩ | ⟨h4, h5, h6, HV⟩⟩
    all_goals
        first
         | (have HS : Hid _ := jgL s k hl1 121 (by rw [HV.out]; rfl)
            go_wp2_with (at_builtin; refine wpList_append_own _ rfl _ _ 98 rfl w.heap.size 5 i0 (.int .u8 0) 1 1 Tryz.underlying98 hi hz0 hz1 hz2 rfl (by decide) _ _ _ rfl (hown.alloc _) ⟨wr.heap.size, 0, none⟩ 1 1 [.int .u8 121] rfl rfl (zn _ _ _) ?c2 ?c3 ?c4 ?c5 ?_)
            case c2 => intro u hu; simp at hu; subst hu; rfl
            case c3 => unfold maxLen; omega
            case c4 => omega
            case c5 => have := hB.size; simp; omega
            intro v' w2 hown' hgrow _; have hsz := hB.size; have hB2 : Below w.heap.size w w2 := (hB.alloc hsz _).grown hgrow (by simp; omega) (fun j hj => (hown.lt j hj).1); rw [← HS.out] at hown'; clear hgrow hown; go_wp2
            go_roundw
            case rel => first | exact ⟨k + 1, by omega, by omega, by go_num, hown', hB2⟩ | ((repeat apply Exists.intro); exact ⟨⟨k + 1, by omega, by omega, by go_num, hown', hB2⟩, rfl⟩) | (refine ⟨trivial, ?_⟩; (repeat apply Exists.intro); exact ⟨⟨k + 1, by omega, by omega, by go_num, hown', hB2⟩, rfl⟩)
            case measure => simp [intOf]; omega)
         | (have HS : Hid _ := jgL s k hl1 (s[k].toNat : Int) (by rw [HV.out])
            go_wp2_with (at_builtin; refine wpList_append_own _ rfl _ _ 98 rfl w.heap.size 5 i0 (.int .u8 0) 1 1 Tryz.underlying98 hi hz0 hz1 hz2 rfl (by decide) _ _ _ rfl (hown.alloc _) ⟨wr.heap.size, 0, none⟩ 1 1 [.int .u8 (s[k].toNat : Int)] rfl rfl (zn _ _ _) ?c2 ?c3 ?c4 ?c5 ?_)
            case c2 => intro u hu; simp at hu; subst hu; rfl
            case c3 => unfold maxLen; omega
            case c4 => omega
            case c5 => have := hB.size; simp; omega
            intro v' w2 hown' hgrow _; have hsz := hB.size; have hB2 : Below w.heap.size w w2 := (hB.alloc hsz _).grown hgrow (by simp; omega) (fun j hj => (hown.lt j hj).1); rw [← HS.out] at hown'; clear hgrow hown; go_wp2
            go_roundw
            case rel => first | exact ⟨k + 1, by omega, by omega, by go_num, hown', hB2⟩ | ((repeat apply Exists.intro); exact ⟨⟨k + 1, by omega, by omega, by go_num, hown', hB2⟩, rfl⟩) | (refine ⟨trivial, ?_⟩; (repeat apply Exists.intro); exact ⟨⟨k + 1, by omega, by omega, by go_num, hown', hB2⟩, rfl⟩)
            case measure => simp [intOf]; omega)
  · have HT : Hid (valL s.data.toList = valK s.data.toList k) := by
        unfold Hid valL; rw [size_list]; congr 1; omega
    have hrun := jbZ hown; obtain ⟨a0, c0, rfl⟩ := jdP hown
    by_cases h8 : k < s.size
    · have hk8' : ¬ k < 40 := fun h => hlt ⟨h8, h⟩
      go_wp2; go_ret; exact ⟨by rw [HT.out]; rfl, hB⟩
    · go_wp2; go_ret; exact ⟨by rw [HT.out]; rfl, hB⟩
set_option maxRecDepth 100000 in
theorem jmh {l : List UInt8} {k : Nat} {x : UInt8} (h : x ∈ valK l k) : ∃ i c, i < k ∧ x = valC l.length i c := by
 induction k with
 | zero => cases h
 | succ k ih =>
   rcases List.mem_append.1 h with h | h
   · obtain ⟨i, c, hi, e⟩ := ih h; exact ⟨i, c, by omega, e⟩
   · simp only [List.mem_singleton] at h; exact ⟨k, _, by omega, h⟩
set_option maxRecDepth 100000 in
theorem jii (n i : Nat) (c : UInt8) : valC n i c ≠ 13 := by
 unfold valC; split
 · decide
 · rename_i h; intro e; exact h (.inl e)
set_option maxRecDepth 100000 in
theorem jmi (l : List UInt8) : jL (valL l) = false := by
 refine jev fun h => ?_
 obtain ⟨i, c, _, e⟩ := jmh h; exact jii _ _ _ e.symm
end Go.Proofs.YtgfbdgheencmaaaGreatDoor
