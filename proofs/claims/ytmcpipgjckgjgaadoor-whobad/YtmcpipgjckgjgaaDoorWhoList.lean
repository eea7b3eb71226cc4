/-
  What who.readList does: the walk. The addresses are a row that the call has made.
-/
import Derived.Test.YtmcpipgjckgjgaaDoorWhoAdr
namespace Go.Proofs.YtmcpipgjckgjgaaDoor
open Go.RowKit

theorem infoAdr : (Tryd.prog.info? 31).map (fun i => (i.zero, i.size, i.bytes)) = some (some (.agg #[.string ByteArray.empty, .string ByteArray.empty]), 2, 32) := by kernel_rfl
/-- The addresses' cells. -/
def cellsA (l : List Adr) : List Value := l.flatMap fun a => [.string (S a.1), .string (S a.2)]
theorem cellsA_snoc (l : List Adr) (a : Adr) : cellsA (l ++ [a]) = cellsA l ++ [.string (S a.1), .string (S a.2)] := by simp [cellsA]
theorem cellsA_get {l : List Adr} {i : Nat} {a : Adr} (h : l[i]? = some a) : (cellsA l)[i * 2]? = some (.string (S a.1)) ∧ (cellsA l)[i * 2 + 1]? = some (.string (S a.2)) := by
  induction l generalizing i with
  | nil => simp at h
  | cons g l ih =>
    cases i with
    | zero => simp at h; subst h; simp [cellsA]
    | succ i =>
      have := ih (i := i) (by simpa using h)
      have e1 : (i + 1) * 2 = i * 2 + 2 := by omega
      rw [e1]
      simpa [cellsA] using this
def OwnA (w : World) (B : Nat) (v : Value) (l : List Adr) : Prop := w.ownsRow B 31 2 v l.length (cellsA l)
/-- The addresses lie in memory from a place on. -/
def AdrsAt (w : World) (a : Option Addr) (l : List Adr) : Prop :=
  ∀ (i : Nat) x, l[i]? = some x → ∃ b, a = some ⟨b, 0, none⟩ ∧ b < w.heap.size ∧ w.cell? ⟨b, i * 2, none⟩ = some (.string (S x.1)) ∧ w.cell? ⟨b, i * 2 + 1, none⟩ = some (.string (S x.2))
theorem AdrsAt.below {w w' : World} {a : Option Addr} {l : List Adr} (h : AdrsAt w a l) (hb : Below w.heap.size w w') : AdrsAt w' a l := by
  intro i x hx
  obtain ⟨b, ha, hlt, h1, h2⟩ := h i x hx
  exact ⟨b, ha, Nat.lt_of_lt_of_le hlt hb.size, wcell_next h1 hb, wcell_next h2 hb⟩
theorem OwnA.any {w : World} {B : Nat} {v : Value} {l : List Adr} (h : OwnA w B v l) : ∃ a cap, v = .slice a l.length cap := by
  rcases h.2 with ⟨rfl, hn⟩ | ⟨g, cap, cur, rfl, _⟩
  · exact ⟨none, 0, by rw [hn]⟩
  · exact ⟨_, _, rfl⟩
theorem OwnA.at {w : World} {B : Nat} {a : Option Addr} {c : Nat} {l : List Adr} (h : OwnA w B (.slice a l.length c) l) : AdrsAt w a l := by
  intro i x hx
  have hi : i < l.length := (List.getElem?_eq_some_iff.1 hx).1
  rcases h.2 with ⟨_, hn⟩ | ⟨g, cap, cur, hv, hb, hg, q⟩
  · omega
  · simp only [Value.slice.injEq, true_and] at hv
    obtain ⟨rfl, rfl⟩ := hv
    have hgl : g < w.heap.size := by
      rcases Nat.lt_or_ge g w.heap.size with h' | h'
      · exact h'
      · rw [Array.getElem?_eq_none h'] at hg; cases hg
    obtain ⟨h1, h2⟩ := cellsA_get hx
    refine ⟨g, rfl, hgl, ?_, ?_⟩
    · rw [World.ownsRow.cellAt h (i * 2) (by omega)]; exact h1
    · rw [World.ownsRow.cellAt h (i * 2 + 1) (by omega)]; exact h2
/-- They lie in a row that was made from a block on. -/
def AdrFar (B : Nat) (a : Option Addr) (l : List Adr) : Prop := ∀ (i : Nat) x, l[i]? = some x → ∃ b, a = some ⟨b, 0, none⟩ ∧ B ≤ b
theorem OwnA.from {w : World} {B : Nat} {a : Option Addr} {c : Nat} {l : List Adr} (h : OwnA w B (.slice a l.length c) l) : AdrFar B a l := by
  intro i x hx
  have hi : i < l.length := (List.getElem?_eq_some_iff.1 hx).1
  rcases h.2 with ⟨_, hn⟩ | ⟨g, cap, cur, hv, hb, hg, q⟩
  · omega
  · simp only [Value.slice.injEq, true_and] at hv
    obtain ⟨rfl, rfl⟩ := hv
    exact ⟨g, rfl, hb⟩
theorem AdrsAt.set {w : World} {B : Nat} {a : Option Addr} {l : List Adr} (h : AdrsAt w a l) (hf : AdrFar B a l) {p : Addr} (hp : p.block < B) (v : Value) : AdrsAt (w.setCell p v) a l := by
  intro i x hx
  obtain ⟨b, ha, hlt, h1, h2⟩ := h i x hx
  obtain ⟨b', ha', hB⟩ := hf i x hx
  obtain rfl : b = b' := by rw [ha] at ha'; simpa using ha'
  have hh : (w.setCell p v).heap[b]? = w.heap[b]? := Below.heap_setCell _ _ _ _ (by omega)
  exact ⟨b, ha, by simpa [World.setCell] using hlt, (World.cell?_of_block (w := w) (a := ⟨b, i * 2, none⟩) hh).trans h1, (World.cell?_of_block (w := w) (a := ⟨b, i * 2 + 1, none⟩) hh).trans h2⟩
theorem pair_new (w : World) (x y : Value) (t : TypeId) : ∀ (j : Nat) u, [x, y][j]? = some u → (w.alloc (.cells #[x, y] t)).cell? ((⟨w.heap.size, 0, none⟩ : Addr).add j) = some u := by
  intro j u hj
  rw [Addr.add_lit, Nat.zero_add]
  match j, hj with
  | 0, hj => simp at hj; subst hj; simp
  | 1, hj => simp at hj; subst hj; simp
theorem rb_new (w : World) (s : List UInt8) : RB (w.alloc (.cells #[.string (S s)] 48)) w.heap.size s := by
  unfold RB
  show (w.heap.push _)[w.heap.size]? = _
  rw [Array.getElem?_push_size]

/-- What reading a list does: its addresses, or a panic. -/
def Ls (w : World) (o : Option (List Adr)) (e : Ending) (w' : World) : Prop :=
  match o with
  | some l => ∃ a c, e = .returned (.slice a l.length c) ∧ AdrsAt w' a l ∧ AdrFar w.heap.size a l ∧ Below w.heap.size w w'
  | none => e = .panicked formPanic ∧ Below w.heap.size w w'

set_option maxHeartbeats 8000000 in
set_option maxRecDepth 100000 in
theorem readList_any (s : List UInt8) (w : World) (hs : s.length ≤ 2000) :
    Calls Tryd.prog 16 #[.string (S s)] w (Ls w (listP s)) := by
  obtain ⟨i0, hi, hz0, hz1, hz2⟩ := info_parts infoAdr
  obtain ⟨W0, hW0⟩ : ∃ W0, W0 = w.alloc (.cells #[.string (S s)] 48) := ⟨_, rfl⟩
  have HR0 : Hid (RB W0 w.heap.size s) := by rw [hW0]; exact rb_new w s
  have HB0 : Hid (Below w.heap.size w W0) := by rw [hW0]; exact (Below.refl _ _).alloc (Nat.le_refl _) _
  have hz : w.heap.size + 1 ≤ W0.heap.size := by rw [hW0]; simp
  have HW : Hid _ := hW0
  clear hW0
  go_enter Tryd.func16, Tryd.ntmps16
  go_wp2
  rw [← HW.out]
  go_loopw [4] (fun v wr => ∃ (done : List Adr) (t : List UInt8) (a0 : Option Addr) (c0 : Nat), v = .slice a0 done.length c0 ∧ OwnA wr (w.heap.size + 1) (.slice a0 done.length c0) done ∧ RB wr w.heap.size t ∧ done.length + t.length ≤ 2000 ∧
      Hid (listP s = (listP t).map (done ++ ·)) ∧ Below w.heap.size w wr ∧ w.heap.size + 1 ≤ wr.heap.size) (fun _ wr => restOf w.heap.size wr)
  case atStart => exact ⟨[], s, none, 0, rfl, World.ownsRow_nil _ _ _ _, HR0.out, by simpa using hs, by unfold Hid; simp, HB0.out, hz⟩
  case round =>
    obtain ⟨done, t, a0, c0, rfl, hO, hRr, hlen, HQ, hBr, hzr⟩ := hrel
    have HRr : Hid (RB wr w.heap.size t) := hRr
    have hO' : wr.ownsRow (w.heap.size + 1) 31 2 (.slice a0 done.length c0) done.length (cellsA done) := hO
    have HO : Hid _ := hO'
    clear hRr hO hO' hz
    go_wp2_with fail
    refine (radr_any w.heap.size t _ HRr.out (by omega)).mono ?_
    cases ha : addressP t with
    | none =>
      have HE : Hid (listP s = none) := by unfold Hid; rw [HQ.out, listP_none ha]; rfl
      clear ha
      rintro e w1 ⟨rfl, hB⟩
      go_wp2
      rw [HE.out]
      exact ⟨rfl, rfl, hBr.trans (hB.below (Nat.le_refl _) (by omega))⟩
    | some x =>
      obtain ⟨a, r⟩ := x
      have hrl := addressP_len ha
      rintro e w1 ⟨rfl, hR1, hB⟩
      rw [adrV]
      have hO1 : w1.ownsRow (w.heap.size + 1) 31 2 (.slice a0 done.length c0) done.length (cellsA done) := own_but HO.out hB (by omega)
      have hz1' : w.heap.size + 1 ≤ w1.heap.size := Nat.le_trans hzr hB.size
      have hBw1 : Below w.heap.size w w1 := hBr.trans (hB.below (Nat.le_refl _) (by omega))
      have HR1 : Hid (RB w1 w.heap.size r) := hR1
      have HA : Hid _ := ha
      clear ha hR1 hB
      go_wp2_with (at_builtin; refine wpList_append_own _ rfl _ _ 22 rfl (w.heap.size + 1) 31 i0 _ 2 32 Tryd.underlying22 hi hz0 hz1 hz2 rfl (by decide) (.slice a0 done.length c0) done.length (cellsA done) rfl (World.ownsRow.alloc hO1 _) ⟨w1.heap.size, 0, none⟩ 1 1 [.string (S a.1), .string (S a.2)] rfl rfl (pair_new _ _ _ _) ?c2 ?c3 ?c4 ?c5 ?_)
      case c2 => intro u hu; simp at hu; rcases hu with rfl | rfl <;> rfl
      case c3 => unfold maxLen; omega
      case c4 => omega
      case c5 => simp; omega
      intro v' w2 hown' hgrow _
      have hBb : Below (w.heap.size + 1) w1 w2 := ((Below.refl _ _).alloc hz1' _).grown hgrow (by simp; omega) (fun j hj => (World.ownsRow.lt hO1 j hj).1)
      have HR2 : Hid (RB w2 w.heap.size r) := (hBb.block _ (Nat.lt_succ_self _)).trans HR1.out
      have hB2 : Below w.heap.size w w2 := hBw1.trans (hBb.mono (Nat.le_succ _))
      have hz2' : w.heap.size + 1 ≤ w2.heap.size := Nat.le_trans hz1' hBb.size
      have hO2 : OwnA w2 (w.heap.size + 1) v' (done ++ [a]) := by unfold OwnA; rw [cellsA_snoc, List.length_append]; exact hown'
      obtain ⟨a2, c2, hv2⟩ := hO2.any
      subst hv2
      have HO2 : Hid (OwnA w2 (w.heap.size + 1) (.slice a2 (done ++ [a]).length c2) (done ++ [a])) := hO2
      have c1 := HR2.out.cell
      clear hO2 hown' hgrow hBb hBw1 hO1
      cases r with
      | nil =>
        have HE : Hid (listP s = some (done ++ [a])) := by unfold Hid; rw [HQ.out, listP_one HA.out]; rfl
        have he := S_none
        go_wp2
        go_ret
        rw [HE.out]
        exact ⟨a2, c2, rfl, HO2.out.at, fun i x hx => by obtain ⟨b, h1, h2⟩ := HO2.out.from i x hx; exact ⟨b, h1, by omega⟩, hB2⟩
      | cons c u =>
        have he := S_some c u
        go_wp2_with fail
        refine (take_any w.heap.size 44 (c :: u) _ HR2.out).mono ?_
        cases ht : takeP 44 (c :: u) with
        | none =>
          have HE : Hid (listP s = none) := by unfold Hid; rw [HQ.out, listP_odd HA.out (by simp) ht]; rfl
          clear ht
          rintro e w3 ⟨rfl, hB3⟩
          go_wp2
          rw [HE.out]
          exact ⟨rfl, rfl, hB2.trans (hB3.below (Nat.le_refl _) (by omega))⟩
        | some r' =>
          have hcu := takeP_some ht
          have HE : Hid (listP s = (listP r').map ((done ++ [a]) ++ ·)) := by
            unfold Hid
            have hh := HA.out
            rw [hcu] at hh
            rw [HQ.out, listP_more hh, Option.map_map]
            congr 1
            funext z
            simp
          have hul : u.length = r'.length := by have := congrArg List.length hcu; simpa using this
          clear ht hcu
          rintro e w3 ⟨rfl, hR3, hB3⟩
          have HD : Hid (restOf w.heap.size w3 < restOf w.heap.size wr) := by
            unfold Hid
            rw [restOf_is hR3, restOf_is HRr.out]
            simp at hrl; omega
          have HR3 : Hid (RB w3 w.heap.size r') := hR3
          have HO3 : Hid (OwnA w3 (w.heap.size + 1) (.slice a2 (done ++ [a]).length c2) (done ++ [a])) := own_but HO2.out hB3 (by omega)
          have HB3 : Hid (Below w.heap.size w w3) := hB2.trans (hB3.below (Nat.le_refl _) (by omega))
          have hz3 : w.heap.size + 1 ≤ w3.heap.size := Nat.le_trans hz2' hB3.size
          have hl3 : (done ++ [a]).length + r'.length ≤ 2000 := by simp at hrl ⊢; omega
          clear hR3 hB3
          go_wp2
          go_roundw
          case rel => exact ⟨done ++ [a], r', a2, c2, by first | rfl | simp, HO3.out, HR3.out, hl3, HE, HB3.out, hz3⟩
          case measure => exact HD.out
end Go.Proofs.YtmcpipgjckgjgaaDoor
