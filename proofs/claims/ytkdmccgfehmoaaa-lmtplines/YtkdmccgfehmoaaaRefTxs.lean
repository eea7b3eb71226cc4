/-
  What the laws' texts does: a copy of texts. The walk.
-/
import Derived.Test.YtkdmccgfehmoaaaRefSam
namespace Go.Proofs.Ytkdmccgfehmoaaa
open Go.RowKit Go.Proofs

theorem infoTx : (Try.prog.info? 9).map (fun i => (i.zero, i.size, i.bytes)) = some (some (.string ByteArray.empty), 1, 16) := by kernel_rfl
def cellsTx (l : List (List UInt8)) : List Value := l.map fun x => .string (S x)
theorem cellsTx_len (l : List (List UInt8)) : (cellsTx l).length = l.length * 1 := by simp [cellsTx]
theorem tx_one (l : List (List UInt8)) : ∀ u ∈ cellsTx l, u.oneCell' = true := by
  intro u hu
  obtain ⟨x, _, rfl⟩ := List.mem_map.1 hu
  rfl
theorem cellsTx_lies {Q : Nat → Prop} {w : World} {b o c : Nat} {l : List (List UInt8)} (h : TxtsM Q w (.slice (some ⟨b, o, none⟩) l.length c) l) : ∀ j u, (cellsTx l)[j]? = some u → w.cell? ((⟨b, o, none⟩ : Addr).add j) = some u := by
  intro j u hj
  have hl : j < l.length := by
    have := (List.getElem?_eq_some_iff.1 hj).1
    simpa [cellsTx] using this
  obtain ⟨x, hx⟩ : ∃ x, l[j]? = some x := ⟨_, List.getElem?_eq_getElem hl⟩
  obtain ⟨b', o', e, _, _, h0⟩ := txt_get h hx
  simp only [Option.some.injEq, Addr.mk.injEq, and_true] at e
  obtain ⟨rfl, rfl⟩ := e
  rw [Addr.add_lit, h0]
  simp only [cellsTx, List.getElem?_map, hx, Option.map_some] at hj
  exact hj
theorem ownTx_row {w : World} {B : Nat} {v : Value} {l : List (List UInt8)} (h : w.ownsRow B 9 1 v l.length (cellsTx l)) (hm : l.length ≤ maxLen) : TxtsM anyB w v l := by
  rcases h.2 with ⟨rfl, hn⟩ | ⟨g, cap, cur, rfl, hB, hg, _⟩
  · have : l = [] := List.length_eq_zero_iff.1 hn
    subst this
    exact txt_none _
  · refine ⟨_, _, rfl, hm, fun i x hx => ?_⟩
    have hi : i < l.length := (List.getElem?_eq_some_iff.1 hx).1
    refine ⟨g, 0, [.string (S x)], rfl, (Array.getElem?_eq_some_iff.1 hg).1, trivial, rfl, fun j u hj => ?_, rfl⟩
    match j, hj with
    | 0, hj =>
      cases hj
      rw [show 0 + i * 1 + 0 = i by omega, World.ownsRow.cellAt h i (by omega)]
      simp [cellsTx, hx]
/-- What texts hands back. -/
def CoT (w : World) (l : List (List UInt8)) (e : Ending) (w' : World) : Prop := ∃ v, e = .returned v ∧ TxtsM anyB w' v l ∧ Below w.heap.size w w'
set_option maxHeartbeats 1000000 in
set_option maxRecDepth 100000 in
theorem texts_any (l : List (List UInt8)) (a : Option Addr) (k : Nat) (w : World) (h : TxtsM anyB w (.slice a l.length k) l) (hl : l.length ≤ 8796093022208) :
    Calls Try.prog 9 #[.slice a l.length k] w (CoT w l) := by
  obtain ⟨i0, hi, hz0, hz1, hz2⟩ := info_parts infoTx
  by_cases h0 : l = []
  · subst h0
    clear h hl
    cases a
    all_goals
      go_enter Try.func9, Try.ntmps9
      go_wp2
      go_ret
      exact ⟨.slice none 0 0, rfl, txt_none _, Below.refl _ _⟩
  · have hpos : 0 < l.length := List.length_pos_iff.2 h0
    obtain ⟨ab, ao, rfl⟩ : ∃ ab ao, a = some ⟨ab, ao, none⟩ := by
      cases l with
      | nil => exact absurd rfl h0
      | cons x r => obtain ⟨b, o, e, _⟩ := txt_get h (i := 0) (x := x) rfl; exact ⟨_, _, e⟩
    have HC := hid (cellsTx_lies h)
    have H1 := hid (tx_one l)
    have HL := hid (cellsTx_len l)
    clear h h0
    go_enter Try.func9, Try.ntmps9
    go_wp2_with (first | (at_builtin; refine wpList_append_lies _ rfl _ _ 31 rfl w.heap.size 9 i0 _ 1 16 Try.underlying31 hi hz0 hz1 hz2 rfl (by decide) (.slice none 0 0) 0 [] rfl (World.ownsRow_nil _ _ _ _) ⟨ab, ao, none⟩ l.length k (cellsTx l) rfl HL.out HC.out H1.out hpos ?k3 ?k4 ?k5 _ rfl ?_) | fail)
    case k3 => unfold maxLen; omega
    case k4 => omega
    case k5 => exact Nat.le_refl _
    intro g cap w3 hown hgrow hat hlt
    have HG := hid (show w3.ownsRow w.heap.size 9 1 (.slice (some ⟨g, 0, none⟩) l.length cap) l.length (cellsTx l) by simpa using hown)
    have HB3 := hid (show Below w.heap.size w w3 from (Below.refl _ _).grown hgrow (Nat.le_refl _) (fun j hj => by cases hj))
    clear hown hgrow hat hlt
    go_wp2
    go_ret
    exact ⟨_, by first | rfl | simp, ownTx_row HG.out (by unfold maxLen; omega), HB3.out⟩
end Go.Proofs.Ytkdmccgfehmoaaa
