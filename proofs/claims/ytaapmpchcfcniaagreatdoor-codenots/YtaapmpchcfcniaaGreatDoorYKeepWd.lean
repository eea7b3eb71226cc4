/-
  What the laws' maker of words does: the walk.
-/
import Derived.Test.YtaapmpchcfcniaaGreatDoorRows
import Derived.Test.YtaapmpchcfcniaaGreatDoorYQPure2
namespace Go.Proofs.YtaapmpchcfcniaaGreatDoor
open Go.RowKit
theorem jkE : (Tryz.prog.info? 5).map (fun i => (i.zero, i.size, i.bytes)) = some (some (.int .u8 0), 1, 1) := by kernel_rfl
def vc (l : List UInt8) : List Value := l.map fun c => .int .u8 c.toNat
theorem jbu (l : List UInt8) (c : UInt8) (x : Int) (hx : (c.toNat : Int) = x) : vc (l ++ [c]) = vc l ++ [.int .u8 x] := by
  simp [vc, ← hx]
theorem jbt {w : World} {base n : Nat} {v : Value} {l : List UInt8} (h : w.ownsRow base 5 1 v n (vc l)) :
    (convert 95 9 v).run Tryz.prog w = .ok (.string (S l)) w := by
  have hl : l.length = n := by have := h.1; simpa [vc] using this
  rcases h.2 with ⟨rfl, hn⟩ | ⟨g, cap, cur, rfl, _⟩
  · rw [run_convert_bytes_nil w 95 5 Tryz.underlying95 Tryz.underlying5 0 0 9 Tryz.underlying9]; have : l = [] := List.length_eq_zero_iff.1 (by omega); subst this; rfl
  · have := run_convert_bytes_back (P := Tryz.prog) w 95 9 5 ⟨g, 0, none⟩ cap l Tryz.underlying95 Tryz.underlying5 Tryz.underlying9 (fun j hj => by
      have e : (⟨g, 0, none⟩ : Addr).add j = ⟨g, j, none⟩ := by simp [Addr.add]; omega
      rw [e, h.cellAt j (by omega)]
      simp [vc, hj])
    rw [hl] at this; exact this
theorem jcZ {w : World} {base : Nat} {e : TypeId} {size : Nat} {v : Value} {n : Nat} {xs : List Value} (h : w.ownsRow base e size v n xs) : ∃ a c, v = .slice a n c := by
  rcases h.2 with ⟨hv, rfl⟩ | ⟨g, cap, cur, hv, _⟩
  · exact ⟨_, _, hv⟩
  · exact ⟨_, _, hv⟩
theorem zc (w : World) (x : Value) (t : TypeId) : ∀ (j : Nat) u, [x][j]? = some u → (w.alloc (.cells #[x] t)).cell? ((⟨w.heap.size, 0, none⟩ : Addr).add j) = some u := by
  intro j u hj; rw [Addr.add_lit, Nat.zero_add]
  match j, hj with
  | 0, hj => simp at hj; subst hj; simp
def jgL (c : UInt8) : UInt8 := UInt8.ofNat (97 + c.toNat % 26)
theorem jb0 (c : UInt8) : ((jgL c).toNat : Int) = 97 + (c.toNat : Int) % 26 := by
  unfold jgL; have h : 97 + c.toNat % 26 < 256 := by omega
  rw [UInt8.toNat_ofNat_of_lt' (by simpa using h)]; omega
def jba (l : List UInt8) (k : Nat) : List UInt8 := (l.take k).map jgL
def zN (l : List UInt8) : List UInt8 := if l = [] then [120] else jba l 8
theorem zn (l : List UInt8) : (zN l).length ≤ 8 := by unfold zN jba; split <;> simp; omega
theorem jiQ (s : ByteArray) (k : Nat) (hk : k < s.size) : vc (jba s.data.toList (k + 1)) = vc (jba s.data.toList k) ++ [.int .u8 (97 + (s[k].toNat : Int) % 26)] := by
  unfold jba; rw [jdU s k hk, List.map_append]; exact jbu _ _ _ (jb0 _)
end Go.Proofs.YtaapmpchcfcniaaGreatDoor
