/-
  What token.Join does: the walk.
-/
import Derived.Test.YtfdkeodfkapncaaDoorTokText
import Derived.Test.YtfdkeodfkapncaaDoorTokChk
import Derived.Test.YtfdkeodfkapncaaDoorTokRows
import Derived.Test.YtfdkeodfkapncaaDoorBuild
namespace Go.Proofs.YtfdkeodfkapncaaDoor
open Go.RowKit Go.Proofs

theorem builder_next {T e : TypeId} {B b : Nat} {bs : List Value} {w w' : World} (h : Lib.IsBuilderF T e B b bs w) (hb : Below w.heap.size w w') : Lib.IsBuilderF T e B b bs w' := by
  have key : ∀ {p : Value}, Lib.BuilderAtF T e B b p bs w → Lib.BuilderAtF T e B b p bs w' := by
    intro p k
    have hlt := k.lt
    obtain ⟨h1, v, h2, h3, h4⟩ := k
    refine ⟨h1, v, (hb.block b hlt).trans h2, ?_, h4⟩
    exact h3.kept (row := none) ⟨hb.os, hb.tape, hb.output, hb.size, fun k hk _ => hb.block k hk⟩ (Classical.em _)
  rcases h with h | h
  · exact .inl (key h)
  · exact .inr (key h)
theorem textT_le {t : Tok} (h : faultT t = 0) : t.text.length ≤ (textT t).length := by
  rcases kind_cases h with ⟨k, _⟩ | ⟨k, _⟩ | ⟨k, _, _, e⟩ | ⟨k, _⟩ | ⟨k, _⟩
  · unfold textT; rw [k]; simp
  · unfold textT; rw [k]; simp
  · rw [e]; simp
  · unfold textT; rw [k]
    have : ∀ l : List UInt8, l.length ≤ (quoteL l).length := by
      intro l
      induction l with
      | nil => simp
      | cons c l ih =>
        have e : quoteL (c :: l) = (if c = 34 ∨ c = 92 then [92, c] else [c]) ++ quoteL l := by simp [quoteL]
        rw [e]
        split <;> simp <;> omega
    have := this t.text
    simp; omega
  · unfold textT; rw [k]; simp
theorem textT_max {t : Tok} (h : faultT t = 0) (hl : t.text.length ≤ 2000) : (textT t).length ≤ 4010 := by
  rcases kind_cases h with ⟨k, _⟩ | ⟨k, _⟩ | ⟨k, a, b, e⟩ | ⟨k, _⟩ | ⟨k, _⟩
  · unfold textT; rw [k]; simp; omega
  · unfold textT; rw [k]; simp; omega
  · unfold textT; rw [k]; simp only [if_true]
    have := decL_len t.num.toNat 9 (by omega)
    omega
  · unfold textT; rw [k]; have := quoteL_len t.text; simp; omega
  · unfold textT; rw [k]; simp; omega

/-- What joining does: a text and an error. -/
def joinV (r : List UInt8 × Int) : Value := .tuple #[.string (S r.1), .int .i64 r.2]

set_option maxHeartbeats 8000000 in
set_option maxRecDepth 100000 in
theorem tjoin_any (a : Option Addr) (c : Nat) (ts : List Tok) (w : World) (hE : Env w) (hF : ToksAt w a ts) (hT : ∀ t ∈ ts, t.text.length ≤ maxLen) :
    Calls Tryd.prog 8 #[.slice a ts.length c] w fun e w' => e = .returned (joinV (joinM ts)) ∧ Below w.heap.size w w' := by
  by_cases h4 : 400 < ts.length
  · have HR : Hid (joinV (joinM ts) = .tuple #[.string ⟨#[]⟩, .int .i64 5]) := by unfold Hid joinV joinM; rw [if_pos h4]; rfl
    have hq : (400 : Int) < (ts.length : Int) := by omega
    clear h4 hE hF hT
    go_enter Tryd.func8, Tryd.ntmps8
    go_wp2
    go_ret2
    exact ⟨by rw [HR.out]; rfl, Below.refl _ _⟩
  have hq : ¬ (400 : Int) < (ts.length : Int) := by omega
  have HR : Hid (joinM ts = match joinP [] ts with | .ok s => (s, 0) | .error e => ([], e)) := by unfold Hid joinM; rw [if_neg h4]; rfl
  have hn4 : ts.length ≤ 400 := by omega
  have HE : Hid (Env w) := hE
  have HF : Hid (ToksAt w a ts) := hF
  have HT : Hid _ := hT
  clear hE hF hT h4
  obtain ⟨W0, hW0⟩ : ∃ W0, W0 = w.alloc (.cells #[.pointer none, .slice none 0 0] 44) := ⟨_, rfl⟩
  have HI0 : Hid (Lib.IsBuilderF 44 5 w.heap.size w.heap.size (Lib.byteCells []) W0) := by
    unfold Hid; rw [hW0]; exact Lib.IsBuilderF.of (Lib.fresh_isBuilder 44 5 w)
  have HB0 : Hid (Below w.heap.size w W0) := by unfold Hid; rw [hW0]; exact (Below.refl _ _).alloc (Nat.le_refl _) _
  have HW : Hid _ := hW0
  clear hW0
  go_enter Tryd.func8, Tryd.ntmps8
  go_wp2
  rw [← HW.out]
  go_loopw [13] (fun i wr => ∃ (k : Nat) (acc : List UInt8), k ≤ ts.length ∧ i = .int .i64 k ∧ acc.length ≤ 2000 ∧ Hid (Lib.IsBuilderF 44 5 w.heap.size w.heap.size (Lib.byteCells acc) wr) ∧ Hid (joinP [] ts = joinP acc (ts.drop k)) ∧ Hid (Below w.heap.size w wr)) (fun i _ => ts.length - (intOf i).toNat)
  case atStart => exact ⟨0, [], Nat.zero_le _, rfl, by simp, HI0, rfl, HB0⟩
  case round =>
    obtain ⟨k, acc, hk, rfl, hacc, HI, HQ, HB⟩ := hrel
    by_cases hlt : k < ts.length
    · obtain ⟨t, ht⟩ : ∃ t, ts[k]? = some t := ⟨_, List.getElem?_eq_getElem hlt⟩
      obtain ⟨b, o, rfl, hbl, c0, c1, c2⟩ := (HF.out.below HB.out) k t ht
      have HTL : Hid (t.text.length ≤ maxLen) := HT.out t (List.mem_of_getElem? ht)
      have hdr : ts.drop k = t :: ts.drop (k + 1) := by
        rw [List.drop_eq_getElem_cons hlt]
        congr 1
        rw [List.getElem?_eq_getElem hlt] at ht
        exact Option.some.inj ht
      have HP : Hid (joinP [] ts = if faultT t ≠ 0 then .error (faultT t) else if 2000 < (acc ++ textT t ++ [32]).length then .error 1 else joinP (acc ++ textT t ++ [32]) (ts.drop (k + 1))) := by
        unfold Hid; rw [HQ.out, hdr, joinP]
      obtain ⟨u0, hu0⟩ : ∃ u0, u0 = wr.alloc (.cells #[.int .i64 t.kind, .string (S t.text), .int .i64 t.num] 34) := ⟨_, rfl⟩
      have HTB : Hid (TokB u0 wr.heap.size t) := by unfold Hid; rw [hu0]; exact tokB_new wr t
      have HBu : Hid (Below wr.heap.size wr u0) := by unfold Hid; rw [hu0]; exact (Below.refl _ _).alloc (Nat.le_refl _) _
      have HU : Hid _ := hu0
      clear ht hdr hu0
      obtain ⟨x, hx⟩ : ∃ x, x = faultT t := ⟨_, rfl⟩
      have HX : Hid _ := hx
      go_wp2_with fail
      rw [← HU.out]
      refine (tcheck_any t _ HTL.out).mono ?_
      rintro e u1 ⟨rfl, hb1⟩
      rw [← HX.out]
      have HT1 : Hid (TokB u1 wr.heap.size t) := HTB.out.next hb1
      have HB1 : Hid (Below wr.heap.size wr u1) := HBu.out.trans (hb1.mono HBu.out.size)
      have d0 := HT1.out.c0
      have d1 := HT1.out.c1
      have d2 := HT1.out.c2
      clear hb1
      by_cases hx0 : x = 0
      · by_cases hlong : 2000 < t.text.length
        · have HG : Hid (joinV (joinM ts) = .tuple #[.string ⟨#[]⟩, .int .i64 1]) := by
            unfold Hid joinV
            have e1 := textT_le (t := t) (by rw [← hx]; exact hx0)
            rw [HR.out, HP.out, if_neg (by rw [← hx]; simpa using hx0), if_pos (by simp; omega)]
            rfl
          have hlz : (2000 : Int) < ((S t.text).size : Int) := by rw [size_S]; omega
          subst hx0
          clear hx
          go_wp2
          go_ret2
          exact ⟨by rw [HG.out]; rfl, HB.out.trans (HB1.out.mono HB.out.size)⟩
        · have hf0 : faultT t = 0 := by rw [← hx]; exact hx0
          have HF0 : Hid _ := hf0
          have HTL2 : Hid (t.text.length ≤ 2000) := by unfold Hid; omega
          have hlz : ¬ (2000 : Int) < ((S t.text).size : Int) := by rw [size_S]; omega
          have htm := textT_max hf0 (by omega)
          have HE1 : Hid (Env u1) := (HE.out.below HB.out).below HB1.out
          subst hx0
          clear hx hf0
          go_wp2_with fail
          refine (textOf_any t _ HE1.out HF0.out HTL2.out).mono ?_
          rintro e u2 ⟨rfl, hb2⟩
          have HB2 : Hid (Below wr.heap.size wr u2) := HB1.out.trans (hb2.mono HB1.out.size)
          have HI2 : Hid (Lib.IsBuilderF 44 5 w.heap.size w.heap.size (Lib.byteCells acc) u2) := builder_next HI.out HB2.out
          have HZ2 : Hid (w.heap.size ≤ u2.heap.size) := Nat.le_trans HB.out.size HB2.out.size
          clear hb2
          go_wp2_with fail
          refine (writeString_any w.heap.size w.heap.size _ (S (textT t)) _ HI2.out ?hl HZ2.out).mono ?_
          case hl => rw [Lib.byteCells_length, size_S]; omega
          rintro e u3 ⟨rfl, hI3, hb3, _⟩
          rw [Lib.strCells_eq, list_S, ← Lib.byteCells_append] at hI3
          have HI3 : Hid _ := hI3
          have HB3 : Hid (Below w.heap.size w u3) := (HB.out.trans (HB2.out.mono HB.out.size)).trans hb3
          clear hI3 hb3
          go_wp2_with fail
          refine (writeByte_any w.heap.size w.heap.size _ 32 _ HI3.out ?hl2 HB3.out.size).mono ?_
          case hl2 => rw [Lib.byteCells_length]; simp; omega
          rintro e u4 ⟨rfl, hI4, hb4, _⟩
          have hI4' : Lib.IsBuilderF 44 5 w.heap.size w.heap.size (Lib.byteCells (acc ++ textT t ++ [32])) u4 := by
            rw [Lib.byteCells_append]; exact hI4
          have HI4 : Hid (Lib.IsBuilderF 44 5 w.heap.size w.heap.size (Lib.byteCells (acc ++ textT t ++ [32])) u4) := hI4'
          have HB4 : Hid (Below w.heap.size w u4) := HB3.out.trans hb4
          obtain ⟨m, hm⟩ : ∃ m, m = (acc ++ textT t ++ [32]).length := ⟨_, rfl⟩
          have HM : Hid ((Lib.byteCells (acc ++ textT t ++ [32])).length = m) := by unfold Hid; rw [Lib.byteCells_length, hm]
          have HP2 : Hid (joinP [] ts = if 2000 < m then .error 1 else joinP (acc ++ textT t ++ [32]) (ts.drop (k + 1))) := by
            unfold Hid; rw [HP.out, if_neg (by rw [HF0.out]; simp), hm]
          have HMM : Hid _ := hm
          clear hI4 hI4' hb4 hm
          go_wp2_with fail
          refine (builderLen_any w.heap.size w.heap.size _ _ HI4.out).mono ?_
          rintro e u5 ⟨rfl, hu5⟩
          have hu5' := hu5.symm
          subst hu5'
          rw [HM.out]
          by_cases hm2 : 2000 < m
          · have HG : Hid (joinV (joinM ts) = .tuple #[.string ⟨#[]⟩, .int .i64 1]) := by
              unfold Hid joinV; rw [HR.out, HP2.out, if_pos hm2]; rfl
            have hmi : (2000 : Int) < (m : Int) := by omega
            go_wp2
            go_ret2
            exact ⟨by rw [HG.out]; rfl, HB4.out⟩
          · have HQ2 : Hid (joinP [] ts = joinP (acc ++ textT t ++ [32]) (ts.drop (k + 1))) := by unfold Hid; rw [HP2.out, if_neg hm2]
            have hmi : ¬ (2000 : Int) < (m : Int) := by omega
            have hml : (acc ++ textT t ++ [32]).length ≤ 2000 := by rw [← HMM.out]; omega
            go_wp2
            go_roundw
            case rel => exact ⟨k + 1, acc ++ textT t ++ [32], by omega, by go_num, hml, HI4, HQ2, HB4⟩
            case measure => simp [intOf]; omega
      · have HG : Hid (joinV (joinM ts) = .tuple #[.string ⟨#[]⟩, .int .i64 x]) := by
          unfold Hid joinV
          rw [HR.out, HP.out, if_pos (by rw [← hx]; exact hx0), hx]
          rfl
        clear hx
        go_wp2
        go_ret2
        exact ⟨by rw [HG.out]; rfl, HB.out.trans (HB1.out.mono HB.out.size)⟩
    · have HG : Hid (joinV (joinM ts) = .tuple #[.string (S acc), .int .i64 0]) := by
        unfold Hid joinV
        rw [HR.out, HQ.out, List.drop_of_length_le (by omega), joinP]
      go_wp2_with fail
      refine (Tryd.Builder_String_any_k w.heap.size w.heap.size acc _ HI.out HB.out.size).mono ?_
      rintro e u1 ⟨rfl, _, hb1, _⟩
      go_wp2
      go_ret2
      exact ⟨by rw [HG.out]; rfl, HB.out.trans hb1⟩
end Go.Proofs.YtfdkeodfkapncaaDoor
