/-
  What letter.trimValues and letter.Parse do: the walks.
-/
import Derived.Test.YtgbhaphgojlhaaaDoorLetTake
namespace Go.Proofs.YtgbhaphgojlhaaaDoor
open Go.RowKit

theorem own_below {w w' : World} {base : Nat} {e : TypeId} {size : Nat} {v : Value} {n : Nat} {xs : List Value} (h : w.ownsRow base e size v n xs) (hb : Below w.heap.size w w') : w'.ownsRow base e size v n xs := by
  refine ⟨h.1, ?_⟩
  rcases h.2 with h' | ⟨g, cap, cur, h1, h2, hg, r⟩
  · exact .inl h'
  · refine .inr ⟨g, cap, cur, h1, h2, ?_, r⟩
    rw [hb.block g (by
      rcases Nat.lt_or_ge g w.heap.size with h' | h'
      · exact h'
      · rw [Array.getElem?_eq_none h'] at hg; cases hg)]
    exact hg
theorem OwnF.below {w w' : World} {B : Nat} {v : Value} {fs : List F} (h : OwnF w B v fs) (hb : Below w.heap.size w w') : OwnF w' B v fs := own_below h hb
theorem OwnF.far {w : World} {B : Nat} {v : Value} {fs : List F} (h : OwnF w B v fs) {p : Addr} (hp : p.block < B) (u : Value) : OwnF (w.setCell p u) B v fs := ownsRow_setCell_below h hp u
theorem OwnF.nil (w : World) (B : Nat) : OwnF w B (.slice none 0 0) [] := World.ownsRow_nil _ _ _ _

def trimmedTo (fs : List F) (k : Nat) : List F := (fs.take k).map trimF ++ fs.drop k
theorem trimmedTo_length (fs : List F) (k : Nat) : (trimmedTo fs k).length = fs.length := by simp [trimmedTo]; omega
theorem trimmedTo_get {fs : List F} {k : Nat} {f : F} (h : fs[k]? = some f) : (trimmedTo fs k)[k]? = some f := by
  have hk : k < fs.length := (List.getElem?_eq_some_iff.1 h).1
  unfold trimmedTo
  rw [List.getElem?_append_right (by simp; omega)]
  have : k - ((fs.take k).map trimF).length = 0 := by simp; omega
  rw [this, List.getElem?_drop]
  simpa using h
theorem trimmedTo_step {fs : List F} {k : Nat} {f : F} (h : fs[k]? = some f) : (trimmedTo fs k).set k (trimF f) = trimmedTo fs (k + 1) := by
  have hk : k < fs.length := (List.getElem?_eq_some_iff.1 h).1
  unfold trimmedTo
  rw [List.set_append_right _ _ (by simp; omega)]
  have e : k - ((fs.take k).map trimF).length = 0 := by simp; omega
  have ed : fs.drop k = f :: fs.drop (k + 1) := by
    rw [List.drop_eq_getElem_cons hk]
    congr 1
    exact (List.getElem?_eq_some_iff.1 h).2
  rw [e, ed, take_some h]
  simp

set_option maxHeartbeats 2000000 in
theorem trimValues_any (B : Nat) (v : Value) (fs : List F) (w : World) (hO : OwnF w B v fs) (hn : fs.length ≤ 30) (hb : ∀ f ∈ fs, f.2.length ≤ 5000) :
    Calls Tryd.prog 37 #[v] w fun e w' => e = .returned (.tuple #[]) ∧ OwnF w' B v (fs.map trimF) ∧ Below B w w' ∧ w.heap.size ≤ w'.heap.size := by
  obtain ⟨a, cap, rfl⟩ := hO.any
  have HB : Hid _ := hb
  clear hb
  go_enter Tryd.func37, Tryd.ntmps37
  go_wp2
  go_loopw [5] (fun i wr => ∃ k : Nat, k ≤ fs.length ∧ i = .int .i64 k ∧ OwnF wr B (.slice a fs.length cap) (trimmedTo fs k) ∧ Below B w wr ∧ w.heap.size ≤ wr.heap.size) (fun i _ => fs.length - (intOf i).toNat)
  case atStart => exact ⟨0, Nat.zero_le _, rfl, by simpa [trimmedTo] using hO, Below.refl _ _, Nat.le_refl _⟩
  case round =>
    obtain ⟨k, hk, rfl, hO2, hB, hz⟩ := hrel
    by_cases hlt : k < fs.length
    · obtain ⟨f, hf⟩ : ∃ f, fs[k]? = some f := ⟨_, List.getElem?_eq_getElem hlt⟩
      have hfl := HB.out f (List.mem_of_getElem? hf)
      have hg := trimmedTo_get hf
      have hO3 : OwnF wr B (.slice a (trimmedTo fs k).length cap) (trimmedTo fs k) := by rw [trimmedTo_length]; exact hO2
      obtain ⟨g, off, rfl, hgl, h1, h2⟩ := (OwnF.fields hO3) k f hg
      obtain ⟨g', cap', e, hBg, _⟩ := hO3.form (by rintro e0; rw [e0] at hg; simp at hg)
      simp only [Value.slice.injEq, Option.some.injEq, Addr.mk.injEq, and_true] at e
      obtain ⟨⟨rfl, rfl⟩, -, rfl⟩ := e
      rw [Nat.zero_add] at h1 h2
      have hs2 : (S f.2).size ≤ 5000 := by rw [size_S]; exact hfl
      have HS : Hid (∀ u : World, Below wr.heap.size wr u → ∀ x : ByteArray, x = S (trimW f.2) → OwnF (u.setCell ⟨g, k * 2 + 1, none⟩ (.string x)) B (.slice (some ⟨g, 0, none⟩) fs.length cap) (trimmedTo fs (k + 1))) := by
        intro u hu x hx
        have := own_set (hO3.below hu) (k * 2 + 1) (.string x)
        rw [hx, cellsF_set hg] at this
        have e2 : (f.1, trimW f.2) = trimF f := rfl
        rw [e2, trimmedTo_step hf] at this
        unfold OwnF
        rw [trimmedTo_length] at this ⊢
        rw [hx]
        exact this
      have HF : Hid (w.heap.size ≤ wr.heap.size) := hz
      have HZ : Hid (∀ u : World, Below wr.heap.size wr u → u.cell? ⟨g, k * 2 + 1, none⟩ = some (.string (S f.2)) ∧ u.frozen? ⟨g, k * 2 + 1, none⟩ = false) := by
        intro u hu
        exact ⟨cell_next h2 hu, (hu.frozen (p := ⟨g, k * 2 + 1, none⟩) hgl).trans (World.ownsRow.frozenAt hO3 _)⟩
      clear hf hg hO2 hO3
      go_wp2_with fail
      refine (trim_any _ _ (by omega)).mono ?_
      rintro e u ⟨rfl, hu⟩
      obtain ⟨z1, z2⟩ := HZ.out u hu
      have HX : Hid ((⟨(Lib.trimS (S f.2).data.toList [32, 9]).toArray⟩ : ByteArray) = S (trimW f.2)) := by unfold Hid; rw [list_S]; rfl
      rw [HX.out]
      go_wp2
      go_roundw
      case rel => first | exact ⟨k + 1, by omega, by go_num, HS.out u hu _ rfl, ((hB.trans (hu.mono (by have := hB.size; omega))).setCell hBg _), by have := hu.size; have := HF.out; simp; omega⟩ | ((repeat apply Exists.intro); exact ⟨⟨k + 1, by omega, by go_num, HS.out u hu _ rfl, ((hB.trans (hu.mono (by have := hB.size; omega))).setCell hBg _), by have := hu.size; have := HF.out; simp; omega⟩, rfl⟩) | (refine ⟨trivial, ?_⟩; (repeat apply Exists.intro); exact ⟨⟨k + 1, by omega, by go_num, HS.out u hu _ rfl, ((hB.trans (hu.mono (by have := hB.size; omega))).setCell hBg _), by have := hu.size; have := HF.out; simp; omega⟩, rfl⟩)
      case measure => simp [intOf]; omega
    · have HT : Hid (trimmedTo fs k = fs.map trimF) := by
        unfold Hid trimmedTo
        rw [List.take_of_length_le (by omega), List.drop_of_length_le (by omega)]; simp
      go_wp2
      go_end0
      exact ⟨rfl, by rw [← HT.out]; exact hO2, hB, hz⟩

/-- takeLine, where the line is taken. -/
theorem take_ok (B : Nat) (v : Value) (fs : List F) (l : List UInt8) (w : World) (hO : OwnF w B v fs) (hBw : B ≤ w.heap.size) (hm : maxLenCell w) (h0 : l ≠ []) (hl : l.length ≤ 2000) (hb : ∀ f ∈ fs, f.2.length ≤ 5000) (hn : fs.length ≤ 30) (h : (takeF fs l).2 = 0) :
    Calls Tryd.prog 38 #[v, .string (S l)] w fun e w' => ∃ v', e = .returned (.tuple #[v', .int .i64 0]) ∧ OwnF w' B v' (takeF fs l).1 ∧ Below B w w' := by
  have hp : 0 < (S l).size := by rw [size_S]; exact List.length_pos_iff.2 h0
  have hl2 : (S l).size ≤ 5000 := by rw [size_S]; omega
  cases hg : goesOn fs l with
  | true =>
    have e : takeF fs l = (addLast fs l, 0) := by unfold takeF; rw [if_pos hg]
    rw [e]
    refine (take_on B v fs (S l) w hO hl2 hb hn (by rw [list_S]; exact hg)).mono ?_
    rintro e w' ⟨rfl, h1, h2⟩
    rw [list_S] at h1
    exact ⟨v, rfl, h1, h2⟩
  | false =>
    unfold takeF at h ⊢
    rw [hg] at h ⊢
    simp only [Bool.false_eq_true, if_false] at h ⊢
    by_cases h1 : (Lib.cut l [58]).2.2 = false ∨ nameB (Lib.cut l [58]).1 = false
    · rw [if_pos h1] at h; cases h
    · rw [if_neg h1] at h ⊢
      by_cases h2 : fs.length = 30
      · rw [if_pos h2] at h; cases h
      · rw [if_neg h2]
        simp only [not_or, Bool.not_eq_false] at h1
        have hc : Lib.cut (S l).data.toList [58] = ((Lib.cut l [58]).1, (Lib.cut l [58]).2.1, true) := by
          rw [list_S]; rw [← h1.1]
        have hle : (Lib.cut l [58]).1.length ≤ 5000 := by
          unfold Lib.cut; split <;> simp <;> omega
        exact take_new B v fs (S l) w hO hBw hm hp hl2 (by omega) (by rw [list_S]; exact hg) _ _ hc h1.2 hle
/-- takeLine, where the line is refused. -/
theorem take_bad (B : Nat) (v : Value) (fs : List F) (l : List UInt8) (w : World) (hO : OwnF w B v fs) (hm : maxLenCell w) (h0 : l ≠ []) (hl : l.length ≤ 2000) (hn : fs.length ≤ 30) (n : Int) (h : (takeF fs l).2 = n) (hne : n ≠ 0) :
    Calls Tryd.prog 38 #[v, .string (S l)] w fun e w' => e = .returned (.tuple #[.slice none 0 0, .int .i64 n]) ∧ Below w.heap.size w w' := by
  have hp : 0 < (S l).size := by rw [size_S]; exact List.length_pos_iff.2 h0
  have hl2 : (S l).size ≤ 5000 := by rw [size_S]; omega
  have hle : (Lib.cut l [58]).1.length ≤ 5000 := by
    unfold Lib.cut; split <;> simp <;> omega
  cases hg : goesOn fs l with
  | true => unfold takeF at h; rw [if_pos hg] at h; exact absurd h.symm hne
  | false =>
    have hg' : goesOn fs (S l).data.toList = false := by rw [list_S]; exact hg
    unfold takeF at h
    rw [hg] at h
    simp only [Bool.false_eq_true, if_false] at h
    cases hc1 : (Lib.cut l [58]).2.2 with
    | false =>
      rw [if_pos (.inl hc1)] at h
      subst h
      exact take_nocolon B v fs (S l) w hO hm hp hl2 hn hg' (Lib.cut l [58]).1 (Lib.cut l [58]).2.1 (by rw [list_S, ← hc1])
    | true =>
      cases hc2 : nameB (Lib.cut l [58]).1 with
      | false =>
        rw [if_pos (.inr hc2)] at h
        subst h
        exact take_noname B v fs (S l) w hO hm hp hl2 hn hg' (Lib.cut l [58]).1 (Lib.cut l [58]).2.1 (by rw [list_S, ← hc1]) hc2 hle
      | true =>
        rw [if_neg (by rw [hc1, hc2]; simp)] at h
        by_cases h2 : fs.length = 30
        · rw [if_pos h2] at h
          subst h
          exact take_full B v fs (S l) w hO hm hp hl2 h2 hg' (Lib.cut l [58]).1 (Lib.cut l [58]).2.1 (by rw [list_S, ← hc1]) hc2 hle
        · rw [if_neg h2] at h; exact absurd h.symm hne
end Go.Proofs.YtgbhaphgojlhaaaDoor
