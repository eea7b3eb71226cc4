/-
  What the laws' tokens does: the walk; how pieces lie in memory.
-/
import Derived.Test.YtfdkeodfkapncaaDoorTokPiece
import Derived.Test.YtfdkeodfkapncaaDoorTokRows
namespace Go.Proofs.YtfdkeodfkapncaaDoor
open Go.RowKit Go.Proofs

/-- The pieces lie in memory from a place on: two numbers and a text each. -/
def PcsAt (w : World) (a : Option Addr) (ps : List Pce) : Prop :=
  ∀ (i : Nat) p, ps[i]? = some p → ∃ b o, a = some ⟨b, o, none⟩ ∧ b < w.heap.size ∧ w.cell? ⟨b, o + i * 3, none⟩ = some (.int .i64 p.kind) ∧ w.cell? ⟨b, o + i * 3 + 1, none⟩ = some (.int .i64 p.num) ∧ w.cell? ⟨b, o + i * 3 + 2, none⟩ = some (.string (S p.text))
theorem PcsAt.below {w w' : World} {a : Option Addr} {ps : List Pce} (h : PcsAt w a ps) (hb : Below w.heap.size w w') : PcsAt w' a ps := by
  intro i x hx
  obtain ⟨b, o, ha, hlt, h1, h2, h3⟩ := h i x hx
  exact ⟨b, o, ha, Nat.lt_of_lt_of_le hlt hb.size, wcell_next h1 hb, wcell_next h2 hb, wcell_next h3 hb⟩
/-- A piece as Go can hold it. -/
def PceOk (p : Pce) : Prop := (Lit.int .i64 p.kind).wf = true ∧ (Lit.int .i64 p.num).wf = true ∧ p.text.length ≤ maxLen
def pcsT (ps : List Pce) (n : Nat) : List Tok := (ps.take n).map pieceT
theorem pcsT_step {ps : List Pce} {k : Nat} {p : Pce} (h : ps[k]? = some p) : pcsT ps (k + 1) = pcsT ps k ++ [pieceT p] := by
  unfold pcsT; rw [take_some h, List.map_append]; rfl
theorem pcsT_len {ps : List Pce} {k : Nat} (h : k ≤ ps.length) : (pcsT ps k).length = k := by simp [pcsT]; omega
theorem pcsT_ok (ps : List Pce) (n : Nat) : ∀ t ∈ pcsT ps n, faultT t = 0 := by
  intro t ht
  obtain ⟨p, _, rfl⟩ := List.mem_map.1 ht
  exact pieceT_ok p
theorem pcsT_text (ps : List Pce) (n : Nat) : ∀ t ∈ pcsT ps n, t.text.length ≤ 30 := by
  intro t ht
  obtain ⟨p, _, rfl⟩ := List.mem_map.1 ht
  exact pieceT_text p

/-- What making tokens does: a row of them. -/
def Tks (w : World) (l : List Tok) (e : Ending) (w' : World) : Prop := ∃ a c, e = .returned (.slice a l.length c) ∧ l.length ≤ c ∧ ToksAt w' a l ∧ Below w.heap.size w w'
set_option maxHeartbeats 8000000 in
set_option maxRecDepth 100000 in
theorem tokens_any (a : Option Addr) (c : Nat) (ps : List Pce) (m : Nat) (w : World) (hF : PcsAt w a ps) (hP : ∀ p ∈ ps, PceOk p) (hm : m ≤ 1000) :
    Calls Tryd.prog 11 #[.slice a ps.length c, .int .i64 m] w (Tks w (pcsT ps m)) := by
  obtain ⟨i0, hi, hz0, hz1, hz2⟩ := info_parts infoTok
  have HF : Hid (PcsAt w a ps) := hF
  have HP : Hid _ := hP
  obtain ⟨n, hn⟩ : ∃ n, n = min ps.length m := ⟨_, rfl⟩
  have hn1 : n ≤ ps.length := by omega
  have hn2 : n ≤ m := by omega
  have HE : Hid (pcsT ps m = pcsT ps n) := by
    unfold Hid pcsT
    congr 1
    rcases Nat.le_total ps.length m with h | h
    · rw [hn, Nat.min_eq_left h, List.take_of_length_le h, List.take_of_length_le (Nat.le_refl _)]
    · rw [hn, Nat.min_eq_right h]
  have HD : Hid (n = ps.length ∨ n = m) := by unfold Hid; omega

  clear hF hP hn
  go_enter Tryd.func11, Tryd.ntmps11
  go_wp2
  go_loopw [5, 6] (fun v i wr => ∃ (k : Nat) (a0 : Option Addr) (c0 : Nat), k ≤ n ∧ i = .int .i64 k ∧ v = .slice a0 k c0 ∧ Hid (wr.ownsRow w.heap.size 34 3 (.slice a0 k c0) k (cellsT (pcsT ps k))) ∧ Hid (Below w.heap.size w wr)) (fun _ i _ => n - (intOf i).toNat)
  case atStart => exact ⟨0, none, 0, Nat.zero_le _, rfl, rfl, World.ownsRow_nil _ _ _ _, Below.refl _ _⟩
  case round =>
    obtain ⟨k, a0, c0, hk, rfl, rfl, HO, HB⟩ := hrel
    by_cases hlt : k < n
    · have i1 : (k : Int) < (ps.length : Int) := by omega
      have i2 : (k : Int) < (m : Int) := by omega
      have i3 : (0 : Int) ≤ (k : Int) := by omega
      obtain ⟨p, hp⟩ : ∃ p, ps[k]? = some p := ⟨_, List.getElem?_eq_getElem (by omega)⟩
      obtain ⟨b, o, rfl, hbl, c0', c1', c2'⟩ := (HF.out.below HB.out) k p hp
      have HPk : Hid (PceOk p) := HP.out p (List.mem_of_getElem? hp)
      have HS : Hid (cellsT (pcsT ps (k + 1)) = cellsT (pcsT ps k) ++ [.int .i64 (pieceT p).kind, .string (S (pieceT p).text), .int .i64 (pieceT p).num]) := by
        unfold Hid; rw [pcsT_step hp, cellsT_snoc]
      clear hp
      go_wp2_with fail
      refine (token_any p _ HPk.out.1 HPk.out.2.1 HPk.out.2.2).mono ?_
      rintro e u ⟨rfl, hb⟩
      obtain ⟨t, ht⟩ : ∃ t, t = pieceT p := ⟨_, rfl⟩
      rw [← ht]
      have HTT : Hid _ := ht
      have HB1 : Hid (Below w.heap.size w u) := HB.out.trans (hb.mono HB.out.size)
      have HO1 : Hid (u.ownsRow w.heap.size 34 3 (.slice a0 k c0) k (cellsT (pcsT ps k))) := own_next HO.out hb
      have hz := HB1.out.size
      clear hb ht c0' c1' c2'
      unfold tokV
      go_wp2_with (at_builtin; refine wpList_append_own _ rfl _ _ 22 rfl w.heap.size 34 i0 _ 3 32 Tryd.underlying22 hi hz0 hz1 hz2 rfl (by decide) (.slice a0 k c0) k (cellsT (pcsT ps k)) rfl (World.ownsRow.alloc (World.ownsRow.alloc HO1.out _) _) ⟨u.heap.size + 1, 0, none⟩ 1 1 [.int .i64 t.kind, .string (S t.text), .int .i64 t.num] rfl rfl (tri_at _ _ (by simp) _ _ _ _) ?c2 ?c3 ?c4 ?c5 ?_)
      case c2 => intro u hu; simp at hu; rcases hu with rfl | rfl | rfl <;> rfl
      case c3 => unfold maxLen; omega
      case c4 => omega
      case c5 => simp; omega
      intro v' w4 hown' hgrow _
      have hB4 : Below w.heap.size w w4 := ((HB1.out.alloc hz _).alloc (by simp; omega) _).grown hgrow (by simp; omega) (fun j hj => (World.ownsRow.lt HO1.out j hj).1)
      obtain ⟨a2, c2, hv2⟩ := own_form hown'
      subst hv2
      have HO4 : Hid (w4.ownsRow w.heap.size 34 3 (.slice a2 (k + 1) c2) (k + 1) (cellsT (pcsT ps (k + 1)))) := by
        unfold Hid; rw [HS.out, ← HTT.out]; exact hown'
      have HB4 : Hid (Below w.heap.size w w4) := hB4
      clear hown' hgrow hB4
      go_wp2
      go_roundw
      case rel => exact ⟨k + 1, a2, c2, by omega, by go_num, by first | rfl | simp, HO4, HB4⟩
      case measure => simp [intOf]; omega
    · have hkn : k = n := by omega
      subst hkn
      have HL : Hid ((pcsT ps m).length = k) := by unfold Hid; rw [HE.out]; exact pcsT_len hn1
      have HCap : Hid (k ≤ c0) := by
        unfold Hid
        rcases HO.out.2 with ⟨hv, h0⟩ | ⟨g, cap, cur, hv, _, _, q, _⟩
        · omega
        · simp only [Value.slice.injEq, true_and] at hv; rw [hv.2]; exact q
      have HA : Hid (ToksAt wr a0 (pcsT ps m)) := by
        unfold Hid
        refine OwnT.at (B := w.heap.size) (c := c0) ?_
        unfold OwnT
        rw [HL.out, HE.out]
        exact HO.out
      by_cases h1 : k < ps.length
      · have i1 : (k : Int) < (ps.length : Int) := by omega
        have i2 : ¬ (k : Int) < (m : Int) := by have := HD.out; omega
        go_wp2
        go_ret
        exact ⟨a0, c0, by rw [HL.out]; rfl, by rw [HL.out]; exact HCap.out, HA.out, HB.out⟩
      · have i1 : ¬ (k : Int) < (ps.length : Int) := by omega
        go_wp2
        go_ret
        exact ⟨a0, c0, by rw [HL.out]; rfl, by rw [HL.out]; exact HCap.out, HA.out, HB.out⟩
end Go.Proofs.YtfdkeodfkapncaaDoor
