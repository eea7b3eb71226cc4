/-
  What the laws' maker of words does: the walk.
-/
import Derived.Test.YtaapmpchcfcniaaGreatDoorRows
import Derived.Test.YtaapmpchcfcniaaGreatDoorXQPure2
namespace Go.Proofs.YtaapmpchcfcniaaGreatDoor
open Go.RowKit
theorem jly : (Tryz.prog.info? 5).map (fun i => (i.zero, i.size, i.bytes)) = some (some (.int .u8 0), 1, 1) := by kernel_rfl
def vz (l : List UInt8) : List Value := l.map fun c => .int .u8 c.toNat
theorem jbN (l : List UInt8) (c : UInt8) (x : Int) (hx : (c.toNat : Int) = x) : vz (l ++ [c]) = vz l ++ [.int .u8 x] := by
 simp [vz, ← hx]
theorem jbM {w : World} {base n : Nat} {v : Value} {l : List UInt8} (h : w.ownsRow base 5 1 v n (vz l)) :
 (convert 95 9 v).run Tryz.prog w = .ok (.string (S l)) w := by
 have hl : l.length = n := by have := h.1; simpa [vz] using this
 rcases h.2 with ⟨rfl, hn⟩ | ⟨g, cap, cur, rfl, _⟩
 · rw [run_convert_bytes_nil w 95 5 Tryz.underlying95 Tryz.underlying5 0 0 9 Tryz.underlying9]; have : l = [] := List.length_eq_zero_iff.1 (by omega); subst this; rfl
 · have := run_convert_bytes_back (P := Tryz.prog) w 95 9 5 ⟨g, 0, none⟩ cap l Tryz.underlying95 Tryz.underlying5 Tryz.underlying9 (fun j hj => by
    have e : (⟨g, 0, none⟩ : Addr).add j = ⟨g, j, none⟩ := by simp [Addr.add]; omega
    rw [e, h.cellAt j (by omega)]
    simp [vz, hj])
   rw [hl] at this; exact this
theorem jds {w : World} {base : Nat} {e : TypeId} {size : Nat} {v : Value} {n : Nat} {xs : List Value} (h : w.ownsRow base e size v n xs) : ∃ a c, v = .slice a n c := by
 rcases h.2 with ⟨hv, rfl⟩ | ⟨g, cap, cur, hv, _⟩
 · exact ⟨_, _, hv⟩
 · exact ⟨_, _, hv⟩
theorem zo (w : World) (x : Value) (t : TypeId) : ∀ (j : Nat) u, [x][j]? = some u → (w.alloc (.cells #[x] t)).cell? ((⟨w.heap.size, 0, none⟩ : Addr).add j) = some u := by
 intro j u hj; rw [Addr.add_lit, Nat.zero_add]
 match j, hj with
 | 0, hj => simp at hj; subst hj; simp
def jhq (c : UInt8) : UInt8 := UInt8.ofNat (97 + c.toNat % 26)
theorem jcl (c : UInt8) : ((jhq c).toNat : Int) = 97 + (c.toNat : Int) % 26 := by
 unfold jhq; have h : 97 + c.toNat % 26 < 256 := by omega
 rw [UInt8.toNat_ofNat_of_lt' (by simpa using h)]; omega
def jbv (l : List UInt8) (k : Nat) : List UInt8 := (l.take k).map jhq
def zW (l : List UInt8) : List UInt8 := if l = [] then [120] else jbv l 8
theorem zy (l : List UInt8) : (zW l).length ≤ 8 := by unfold zW jbv; split <;> simp; omega
theorem jjH (s : ByteArray) (k : Nat) (hk : k < s.size) : vz (jbv s.data.toList (k + 1)) = vz (jbv s.data.toList k) ++ [.int .u8 (97 + (s[k].toNat : Int) % 26)] := by
 unfold jbv; rw [jey s k hk, List.map_append]; exact jbN _ _ _ (jcl _)
end Go.Proofs.YtaapmpchcfcniaaGreatDoor
