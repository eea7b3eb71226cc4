/-
  A row of commands that a call makes, and another one behind it: append as a law.
-/
import Derived.Test.YtaelgmibjiocfaaDoorRowGw
import Derived.Test.YtaelgmibjiocfaaDoorRulPur
namespace Go.Proofs.YtaelgmibjiocfaaDoor
open Go.RowKit Go.Proofs

theorem OwnRow.join {A : Type} {B k : Nat} {ty : TypeId} {P : (Nat → Prop) → World → A → List Value → Prop} (hP : Firm P) {w w' : World} {v v' : Value} {l L : List A} {css dss : List (List Value)} {H : Nat}
    (h2 : css.length = l.length) (h3 : ∀ cs ∈ css, cs.length = k) (h4 : ∀ (i : Nat) (x : A) (cs : List Value), l[i]? = some x → css[i]? = some cs → P (rowQ B w v) w x cs)
    (d2 : dss.length = L.length) (d3 : ∀ cs ∈ dss, cs.length = k) (d4 : ∀ (i : Nat) (x : A) (cs : List Value), L[i]? = some x → dss[i]? = some cs → P (rowQ B w v) w x cs)
    (how : w'.ownsRow B ty k v' (l.length + L.length) (css.flatten ++ dss.flatten)) (hg : w.grownBy w' v.ownBlock) (hat : v'.ownBlock = v.ownBlock ∨ v'.ownBlock = some H) (hH : w.heap.size ≤ H) : OwnRow B k ty P w' v' (l ++ L) := by
  have hq : ∀ b, rowQ B w v b → rowQ B w' v' b := by
    rintro b ⟨q1, q2, q3⟩
    refine ⟨q1, Nat.lt_of_lt_of_le q2 hg.size, ?_⟩
    rcases hat with e | e
    · rw [e]; exact q3
    · rw [e]; intro e'; cases e'; omega
  have hkp : Keeps (rowQ B w v) w w' := ⟨hg.size, fun b hb hq => hg.block b hb hq.2.2⟩
  refine ⟨css ++ dss, by simpa [List.length_append] using how, by simp [h2, d2], ?_, ?_⟩
  · intro c hc
    cases List.mem_append.1 hc with
    | inl h => exact h3 c h
    | inr h => exact d3 c h
  · intro i y c hy hc
    rcases Nat.lt_or_ge i l.length with hi | hi
    · rw [List.getElem?_append_left hi] at hy
      rw [List.getElem?_append_left (by omega)] at hc
      exact hP _ _ _ _ _ _ hq hkp (h4 i y c hy hc)
    · rw [List.getElem?_append_right hi] at hy
      rw [List.getElem?_append_right (by omega), h2] at hc
      exact hP _ _ _ _ _ _ hq hkp (d4 _ y c hy hc)
theorem app_cmds {ops : Array Oper} {rest : List Oper} {o : Oper} {a : Act} {Q : Exit → Act → World → Prop} (w : World) (hgd : o.guard = none) (s x : Operand)
    (ho : o.op = .call { callee := .builtin .append, args := #[s, x], argTypes := #[30, 30] })
    (base M : Nat) (v : Value) (acc L : List Cmd) (hs : a.eval s = v) (hO : OwnCs base M w v acc) (b2 o2 c2 : Nat) (Q2 : Nat → Prop) (hx : a.eval x = .slice (some ⟨b2, o2, none⟩) L.length c2)
    (hL : CmdsM Q2 M w (.slice (some ⟨b2, o2, none⟩) L.length c2) L) (hq : ∀ b, Q2 b → base ≤ b ∧ some b ≠ v.ownBlock) (hpos : 0 < L.length) (h63 : acc.length + L.length ≤ 1000) (hbase : base ≤ w.heap.size) (H : Nat) (hH : w.heap.size = H)
    (h : ∀ g cap w', OwnCs base M w' (.slice (some ⟨g, 0, none⟩) (acc.length + L.length) cap) (acc ++ L) → acc.length + L.length ≤ cap → w.grownBy w' v.ownBlock → (v.ownBlock = some g ∨ g = H) → g < w'.heap.size → wpList Tryd.prog ops Q rest (a.put o.dst (.slice (some ⟨g, 0, none⟩) (acc.length + L.length) cap)) w') : wpList Tryd.prog ops Q (o :: rest) a w := by
  obtain ⟨i0, hi, hz0, hz1, hz2⟩ := info_parts infoCmd
  obtain ⟨css, h1, h2, h3, h4⟩ := hO
  obtain ⟨dss, n1, n2, n3, n4⟩ := row_cells (RowM.both hL (CmdM.both M)) L.length (Nat.le_refl _)
  have hone : ∀ u ∈ dss.flatten, u.oneCell' = true := fun u hu => by
    obtain ⟨cs, hcs, hu2⟩ := List.mem_flatten.1 hu
    obtain ⟨q, hq, hqe⟩ := List.getElem_of_mem hcs
    have hq2 : dss[q]? = some cs := by rw [List.getElem?_eq_getElem hq, hqe]
    exact cmd_one (n3 q _ cs (List.getElem?_eq_getElem (by omega)) hq2) u hu2
  refine wpList_append_lies w hgd s x 30 ho base 32 i0 _ 12 192 Tryd.underlying30 hi hz0 hz1 hz2 rfl (by decide) v acc.length css.flatten hs h1 ⟨b2, o2, none⟩ L.length c2 dss.flatten hx (by rw [flat_cells n2, n1]) (fun j u hj => by rw [Addr.add_lit]; exact n4 j u hj) hone hpos (by unfold maxLen; omega) (by omega) hbase H hH ?_
  intro g cap w' hown hgrow hat hlt
  refine h g cap w' ?_ ?_ hgrow hat hlt
  · refine OwnRow.join (firm_cmd M) (H := H) h2 h3 h4 n1 n2 (fun i y cs hy hcs => CmdM.imp (fun b hb => ?_) (Keeps.refl _ _) _ _ _ (n3 i y cs hy hcs)) hown hgrow ?_ (by omega)
    · exact ⟨(hq b hb.1).1, hb.2, (hq b hb.1).2⟩
    · rcases hat with e | e
      · exact .inl e.symm
      · exact .inr (by rw [e]; rfl)
  · rcases hown.2 with ⟨e, _⟩ | ⟨_, _, _, e, _, _, e2, _⟩
    · cases e
    · simp only [Value.slice.injEq] at e; omega
/-- A row of one command, in a box of its own. -/
theorem own_one {B M : Nat} {w : World} {p : Nat} {c : Cmd} {cs : List Value} {Q2 : Nat → Prop} (h : w.heap[p]? = some (.cells cs.toArray 32)) (hC : CmdM Q2 M w c cs) (hq : ∀ b, Q2 b → B ≤ b ∧ b < w.heap.size ∧ b ≠ p) (hB : B ≤ p) : OwnCs B M w (.slice (some ⟨p, 0, none⟩) 1 1) [c] := by
  have hlen : cs.length = 12 := by
    obtain ⟨_, _, _, _, _, _, _, _, _, _, _, _, _, _, rfl, _⟩ := cmd_form hC
    rfl
  have htk : List.take 12 cs = cs := List.take_of_length_le (by omega)
  refine ⟨[cs], ⟨by simp [hlen], .inr ⟨p, 1, _, rfl, hB, h, Nat.le_refl _, by unfold maxLen; omega, by simp [hlen], by simp [htk]⟩⟩, rfl, fun d hd => by simp at hd; rw [hd]; exact hlen, fun i y d hy hd => ?_⟩
  cases i with
  | succ i => simp at hy
  | zero =>
    simp at hy hd
    subst hy
    subst hd
    exact CmdM.imp (fun b hb => ⟨(hq b hb).1, (hq b hb).2.1, fun e => (hq b hb).2.2 (Option.some.inj e)⟩) (Keeps.refl _ _) _ _ _ hC
theorem OwnRow.nextC {B M : Nat} {w w' : World} {v : Value} {l : List Cmd} (h : OwnCs B M w v l) (hb : Below w.heap.size w w') : OwnCs B M w' v l := OwnRow.next' (firm_cmd M) h hb
end Go.Proofs.YtaelgmibjiocfaaDoor
