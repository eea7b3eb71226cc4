/-
  What token.readString does: the walk. Its closure gathers bytes in a row of the call's own, and keeps in mind whether a backslash is ahead.
  What token.readString does, whole: the walk.
-/
import Derived.Test.YtepfniiojjefhaaGreatDoorQPure6
import Derived.Test.YtepfniiojjefhaaGreatDoorQTokGap8
import Derived.WalkKit
import Derived.WalkSpells
import Derived.WalkLawsBesides
import Derived.Laws.IdiomStrings
namespace Go.Proofs.YtepfniiojjefhaaGreatDoor
open Go.RowKit Go.Proofs

/- Plain facts. -/
def stepS (x : Bool × List UInt8) (c : UInt8) : Bool × List UInt8 := if x.1 then (false, x.2 ++ [c]) else if c = 92 then (true, x.2) else (false, x.2 ++ [c])
def runS : Bool → List UInt8 → Nat
  | _, [] => 0
  | true, _ :: t => runS false t + 1
  | false, c :: t => if c = 34 then 0 else if c = 92 then runS true t + 1 else runS false t + 1
theorem runS_le (l : List UInt8) : ∀ b, runS b l ≤ l.length := by
  induction l with
  | nil => intro b; cases b <;> simp [runS]
  | cons c t ih =>
    intro b
    cases b with
    | true => simp only [runS, List.length_cons]; have := ih false; omega
    | false =>
      simp only [runS, List.length_cons]
      split
      · omega
      · split
        · have := ih true; omega
        · have := ih false; omega
theorem runS_yes (l : List UInt8) : ∀ b acc k (h : k < l.length), k < runS b l → ((l.take k).foldl stepS (b, acc)).1 = true ∨ l[k] ≠ 34 := by
  induction l with
  | nil => intro b acc k h; simp at h
  | cons c t ih =>
    intro b acc k h hk
    cases k with
    | zero =>
      cases b with
      | true => exact Or.inl rfl
      | false =>
        simp only [runS] at hk
        split at hk
        · omega
        · rename_i hc; exact Or.inr hc
    | succ k =>
      have h' : k < t.length := by simpa using h
      simp only [List.take_succ_cons, List.foldl_cons, List.getElem_cons_succ]
      cases b with
      | true =>
        simp only [runS] at hk
        have e : stepS (true, acc) c = (false, acc ++ [c]) := rfl
        rw [e]
        exact ih false _ k h' (by omega)
      | false =>
        simp only [runS] at hk
        split at hk
        · omega
        · split at hk
          · rename_i h2
            have e : stepS (false, acc) c = (true, acc) := by simp [stepS, h2]
            rw [e]
            exact ih true _ k h' (by omega)
          · rename_i h2
            have e : stepS (false, acc) c = (false, acc ++ [c]) := by simp [stepS, h2]
            rw [e]
            exact ih false _ k h' (by omega)
theorem runS_no (l : List UInt8) : ∀ b acc (h : runS b l < l.length), ((l.take (runS b l)).foldl stepS (b, acc)).1 = false ∧ l[runS b l] = 34 := by
  induction l with
  | nil => intro b acc h; simp at h
  | cons c t ih =>
    intro b acc h
    cases b with
    | true =>
      simp only [runS, List.length_cons] at h
      have e : stepS (true, acc) c = (false, acc ++ [c]) := rfl
      simp only [runS, List.take_succ_cons, List.foldl_cons, List.getElem_cons_succ]
      rw [e]
      exact ih false _ (by omega)
    | false =>
      by_cases h1 : c = 34
      · have e0 : runS false (c :: t) = 0 := by simp [runS, h1]
        simp only [e0, List.take_zero, List.foldl_nil, List.getElem_cons_zero]
        exact ⟨trivial, h1⟩
      · by_cases h2 : c = 92
        · have e0 : runS false (c :: t) = runS true t + 1 := by simp [runS, h2]
          have e : stepS (false, acc) c = (true, acc) := by simp [stepS, h2]
          simp only [e0, List.length_cons] at h
          simp only [e0, List.take_succ_cons, List.foldl_cons, List.getElem_cons_succ]
          rw [e]
          exact ih true _ (by omega)
        · have e0 : runS false (c :: t) = runS false t + 1 := by simp [runS, h1, h2]
          have e : stepS (false, acc) c = (false, acc ++ [c]) := by simp [stepS, h2]
          simp only [e0, List.length_cons] at h
          simp only [e0, List.take_succ_cons, List.foldl_cons, List.getElem_cons_succ]
          rw [e]
          exact ih false _ (by omega)
theorem strM_run (l : List UInt8) : ∀ b, match strM b l with
    | none => runS b l = l.length
    | some (x, r) => runS b l < l.length ∧ r = l.drop (runS b l + 1) ∧ ∀ acc, ((l.take (runS b l)).foldl stepS (b, acc)).2 = acc ++ x := by
  induction l with
  | nil => intro b; cases b <;> simp [strM, runS]
  | cons c t ih =>
    intro b
    have more : ∀ (b' : Bool) (g : List UInt8 → List UInt8), runS b (c :: t) = runS b' t + 1 → strM b (c :: t) = (strM b' t).map (fun x => (g x.1, x.2)) → (∀ acc, ∃ acc', stepS (b, acc) c = (b', acc') ∧ ∀ x, acc' ++ x = acc ++ g x) →
        (match strM b (c :: t) with
        | none => runS b (c :: t) = (c :: t).length
        | some (x, r) => runS b (c :: t) < (c :: t).length ∧ r = (c :: t).drop (runS b (c :: t) + 1) ∧ ∀ acc, (((c :: t).take (runS b (c :: t))).foldl stepS (b, acc)).2 = acc ++ x) := by
      intro b' g h1 h2 h3
      have hh := ih b'
      rw [h2, h1]
      cases hs : strM b' t with
      | none => rw [hs] at hh; simp only at hh; simp [hh]
      | some x =>
        rw [hs] at hh
        obtain ⟨q1, q2, q3⟩ := hh
        simp only [Option.map_some]
        refine ⟨by simp; omega, by rw [q2]; rfl, fun acc => ?_⟩
        obtain ⟨acc', e1, e2⟩ := h3 acc
        rw [List.take_succ_cons, List.foldl_cons, e1, q3, e2]
    cases b with
    | true => exact more false (c :: ·) (by simp [runS]) (by simp [strM]) (fun acc => ⟨acc ++ [c], rfl, by simp⟩)
    | false =>
      by_cases h1 : c = 34
      · have e0 : runS false (c :: t) = 0 := by simp [runS, h1]
        have e1 : strM false (c :: t) = some ([], t) := by simp [strM, h1]
        rw [e1, e0]
        exact ⟨by simp, rfl, by simp⟩
      · by_cases h2 : c = 92
        · exact more true id (by simp [runS, h2]) (by simp [strM, h2]) (fun acc => ⟨acc, by simp [stepS, h2], by simp⟩)
        · exact more false (c :: ·) (by simp [runS, h1, h2]) (by simp [strM, h1, h2]) (fun acc => ⟨acc ++ [c], by simp [stepS, h2], by simp⟩)
def stS (l : List UInt8) (k : Nat) : Bool × List UInt8 := (l.take k).foldl stepS (false, [])
theorem stS_succ {l : List UInt8} {k : Nat} (h : k < l.length) : stS l (k + 1) = stepS (stS l k) l[k] := by
  unfold stS
  rw [List.take_succ_eq_append_getElem h, List.foldl_append]
  rfl
theorem stS_len (l : List UInt8) (k : Nat) : (stS l k).2.length ≤ k := by
  induction k with
  | zero => simp [stS]
  | succ k ih =>
    by_cases h : k < l.length
    · rw [stS_succ h]
      unfold stepS
      split
      · simp; omega
      · split
        · simp only; omega
        · simp; omega
    · have : stS l (k + 1) = stS l k := by unfold stS; rw [List.take_of_length_le (by omega), List.take_of_length_le (by omega)]
      rw [this]; omega

/- The closure. -/
/-- What the closure's two variables hold: whether a backslash is ahead, and the bytes so far. -/
def StrI (h : Nat) (x : Bool × List UInt8) (u : World) : Prop :=
  Box u (h + 2) (.bool x.1) 4 ∧ (∃ a c, Box u (h + 1) (.slice a x.2.length c) 52 ∧ u.ownsRow (h + 3) 5 1 (.slice a x.2.length c) x.2.length (bytesC x.2)) ∧ h + 3 ≤ u.heap.size

set_option maxHeartbeats 2000000 in
theorem strStep_no (h : Nat) (c : UInt8) (l : List UInt8) (w : World) (hI : StrI h (false, l) w) (hc : c = 34) :
    Calls Tryz.prog 159 #[.int .u8 c.toNat, .pointer (some ⟨h + 2, 0, none⟩), .pointer (some ⟨h + 1, 0, none⟩)] w fun e w' => e = .returned (.bool false) ∧ w' = w := by
  have h1 := hI.1.cell
  have hq : (c.toNat : Int) = 34 := by rw [hc]; rfl
  clear hc hI
  go_enter Tryz.func159, Tryz.ntmps159
  go_wp2
  go_ret
  exact ⟨rfl, rfl⟩

set_option maxHeartbeats 2000000 in
theorem strStep_back (h : Nat) (c : UInt8) (l : List UInt8) (w : World) (hI : StrI h (false, l) w) (hc : c = 92) :
    Calls Tryz.prog 159 #[.int .u8 c.toNat, .pointer (some ⟨h + 2, 0, none⟩), .pointer (some ⟨h + 1, 0, none⟩)] w fun e w' => e = .returned (.bool true) ∧ StrI h (true, l) w' ∧ Below (h + 1) w w' := by
  obtain ⟨hP, ⟨a, cp, hT, hO⟩, hz⟩ := hI
  have h1 := hP.cell
  have h2 := hP.free
  have hq : (c.toNat : Int) = 92 := by rw [hc]; rfl
  have HP : Hid _ := hP
  have HT : Hid _ := hT
  have HO : Hid _ := hO
  clear hc hP hT hO
  go_enter Tryz.func159, Tryz.ntmps159
  go_wp2
  go_ret
  refine ⟨rfl, ⟨Box.set HP.out _, ⟨a, cp, Box.but HT.out (But.set _ _) (by omega), own_but HO.out (But.set _ _) (by omega)⟩, by simpa [World.setCell] using hz⟩, (But.set _ _).below (by omega) (by omega)⟩

theorem cell_one_at (W : World) (n : Nat) (hn : W.heap.size = n) (x : Value) (t : TypeId) : ∀ (j : Nat) u, [x][j]? = some u → (W.alloc (.cells #[x] t)).cell? ((⟨n, 0, none⟩ : Addr).add j) = some u := by
  subst hn; exact cell_one_fresh W x t

set_option maxHeartbeats 4000000 in
set_option maxRecDepth 100000 in
theorem strStep_put (h : Nat) (c : UInt8) (b : Bool) (l : List UInt8) (w : World) (hI : StrI h (b, l) w) (hl : l.length ≤ 2000) (hc : b = true ∨ (c ≠ 34 ∧ c ≠ 92)) :
    Calls Tryz.prog 159 #[.int .u8 c.toNat, .pointer (some ⟨h + 2, 0, none⟩), .pointer (some ⟨h + 1, 0, none⟩)] w fun e w' => e = .returned (.bool true) ∧ StrI h (false, l ++ [c]) w' ∧ Below (h + 1) w w' := by
  obtain ⟨i0, hi, hz0, hz1, hz2⟩ := info_parts infoB8
  obtain ⟨hP, ⟨a, cp, hT, hO⟩, hz⟩ := hI
  simp only at hP hT hO
  have h1 := hP.cell
  have h2 := hP.free
  have h3 := hT.cell
  have h4 := hT.free
  have HP : Hid _ := hP
  have HT : Hid _ := hT
  have HO : Hid _ := hO
  have hO1 : (w.setCell ⟨h + 2, 0, none⟩ (.bool false)).ownsRow (h + 3) 5 1 (.slice a l.length cp) l.length (bytesC l) := own_but HO.out (But.set _ _) (by omega)
  have HO1 : Hid _ := hO1
  have hzw : h + 3 ≤ (w.setCell ⟨h + 2, 0, none⟩ (.bool false)).heap.size := by simpa [World.setCell] using hz
  have HZW : Hid _ := hzw
  have HPs : Hid (Box (w.setCell ⟨h + 2, 0, none⟩ (.bool false)) (h + 2) (.bool false) 4) := Box.set HP.out _
  have HTs : Hid (Box (w.setCell ⟨h + 2, 0, none⟩ (.bool false)) (h + 1) (.slice a l.length cp) 52) := Box.but HT.out (But.set _ _) (by omega)
  have HBs : Hid (Below (h + 1) w (w.setCell ⟨h + 2, 0, none⟩ (.bool false))) := (But.set _ _).below (by omega) (by omega)
  have hc' : (b = true) ∨ (b = false ∧ ¬ (c.toNat : Int) = 34 ∧ ¬ (c.toNat : Int) = 92) := by
    rcases hc with hc | ⟨q1, q2⟩
    · exact Or.inl hc
    · cases b with
      | true => exact Or.inl rfl
      | false => exact Or.inr ⟨rfl, fun e => q1 (UInt8.toNat_inj.1 (by show c.toNat = 34; omega)), fun e => q2 (UInt8.toNat_inj.1 (by show c.toNat = 92; omega))⟩
  clear hc hP hT hO hO1 hzw
  have fin : ∀ (v' : Value) (w2 : World), w2.ownsRow (h + 3) 5 1 v' (l.length + 1) (bytesC l ++ [.int .u8 c.toNat]) → Below (h + 3) (w.setCell ⟨h + 2, 0, none⟩ (.bool false)) w2 → ∃ a2 c2, v' = .slice a2 (l.length + 1) c2 ∧ w2.cell? ⟨h + 1, 0, none⟩ = some (.slice a l.length cp) ∧ w2.frozen? ⟨h + 1, 0, none⟩ = false ∧ StrI h (false, l ++ [c]) (w2.setCell ⟨h + 1, 0, none⟩ v') ∧ Below (h + 1) w (w2.setCell ⟨h + 1, 0, none⟩ v') := by
    intro v' w2 hown hbel
    obtain ⟨a2, c2, rfl⟩ := own_form hown
    have hTb := HTs.out.below hbel (by omega)
    have hPb := HPs.out.below hbel (by omega)
    have e : (l ++ [c]).length = l.length + 1 := by simp
    refine ⟨a2, c2, rfl, hTb.cell, hTb.free, ⟨Box.but hPb (But.set _ _) (by omega), ⟨a2, c2, ?_, ?_⟩, ?_⟩, ?_⟩
    · simp only [e]; exact Box.set hTb _
    · simp only [e]; rw [bytesC_snoc l c _ rfl]; exact own_but hown (But.set _ _) (by omega)
    · have := hbel.size; have hz3 := HZW.out; simp only [World.setCell] at this hz3 ⊢; simp at this hz3 ⊢; omega
    · exact (HBs.out.trans (hbel.mono (by omega))).setCell (by simp) _
  have FIN : Hid _ := fin
  clear fin
  rcases hc' with hb | ⟨hb, q1, q2⟩
  · subst hb
    go_enter Tryz.func159, Tryz.ntmps159
    go_wp2_with (at_builtin; refine wpList_append_own _ rfl _ _ 52 rfl (h + 3) 5 i0 (.int .u8 0) 1 1 Tryz.underlying52 hi hz0 hz1 hz2 rfl (by decide) _ _ _ rfl (World.ownsRow.alloc HO1.out _) ⟨w.heap.size, 0, none⟩ 1 1 [.int .u8 c.toNat] rfl rfl (cell_one_at _ _ (by simp [World.setCell]) _ _) ?c2a ?c3a ?c4a ?c5a ?_)
    case c2a => intro u hu; simp at hu; subst hu; rfl
    case c3a => unfold maxLen; omega
    case c4a => omega
    case c5a => have := HZW.out; simp at this ⊢; omega
    intro v' w2 hown' hgrow _
    have hB2 : Below (h + 3) (w.setCell ⟨h + 2, 0, none⟩ (.bool false)) w2 := ((Below.refl _ _).alloc HZW.out _).grown hgrow (by have := HZW.out; simp at this ⊢; omega) (fun j hj => (World.ownsRow.lt HO1.out j hj).1)
    obtain ⟨a2, c2, rfl, d1, d2, d3, d4⟩ := FIN.out v' w2 hown' hB2
    have D3 : Hid _ := d3
    have D4 : Hid _ := d4
    clear hown' hgrow hB2 d3 d4
    go_wp2
    go_ret
    exact ⟨rfl, D3.out, D4.out⟩
  · subst hb
    go_enter Tryz.func159, Tryz.ntmps159
    go_wp2_with (at_builtin; refine wpList_append_own _ rfl _ _ 52 rfl (h + 3) 5 i0 (.int .u8 0) 1 1 Tryz.underlying52 hi hz0 hz1 hz2 rfl (by decide) _ _ _ rfl (World.ownsRow.alloc HO1.out _) ⟨w.heap.size, 0, none⟩ 1 1 [.int .u8 c.toNat] rfl rfl (cell_one_at _ _ (by simp [World.setCell]) _ _) ?c2b ?c3b ?c4b ?c5b ?_)
    case c2b => intro u hu; simp at hu; subst hu; rfl
    case c3b => unfold maxLen; omega
    case c4b => omega
    case c5b => have := HZW.out; simp at this ⊢; omega
    intro v' w2 hown' hgrow _
    have hB2 : Below (h + 3) (w.setCell ⟨h + 2, 0, none⟩ (.bool false)) w2 := ((Below.refl _ _).alloc HZW.out _).grown hgrow (by have := HZW.out; simp at this ⊢; omega) (fun j hj => (World.ownsRow.lt HO1.out j hj).1)
    obtain ⟨a2, c2, rfl, d1, d2, d3, d4⟩ := FIN.out v' w2 hown' hB2
    have D3 : Hid _ := d3
    have D4 : Hid _ := d4
    clear hown' hgrow hB2 d3 d4
    go_wp2
    go_ret
    exact ⟨rfl, D3.out, D4.out⟩
end Go.Proofs.YtepfniiojjefhaaGreatDoor
namespace Go.Proofs.YtepfniiojjefhaaGreatDoor
open Go.RowKit Go.Proofs

/-- What a text in quotes is cut into. -/
def strOne (t : List UInt8) : Cutting := match strM false t with | none => .error 4 | some x => .ok ({ kind := 4, text := x.1, num := 0 }, x.2)
theorem entersStr : ∀ args w, (callFunc 159 args).run Tryz.prog w = .ok (.enter 159 args) w := enters_of Tryz.func159 (by kernel_rfl) rfl

theorem span_str (t : List UInt8) (h : Nat) (w : World) (ht : t.length ≤ 2000) (hI : StrI h (false, []) w) :
    Calls Tryz.prog 109 #[.string (S t), .func (.func 159) #[] #[.pointer (some ⟨h + 2, 0, none⟩), .pointer (some ⟨h + 1, 0, none⟩)]] w fun e w' => e = .returned (.int .i64 (runS false t : Nat)) ∧ StrI h (stS t (runS false t)) w' ∧ Below (h + 1) w w' := by
  have hle : runS false t ≤ (S t).size := by rw [size_S]; exact runS_le t false
  refine span_any (S t) 159 _ entersStr (runS false t) (fun k u => StrI h (stS t k) u ∧ Below (h + 1) w u) w (by rw [size_S]; unfold maxLen; omega) hle ?_ ?_ ⟨hI, Below.refl _ _⟩
  · intro k hk u hlt ⟨hB, hU⟩
    have hk' : k < t.length := by rw [size_S] at hk; exact hk
    have hg : (S t)[k] = t[k] := S_get t k hk hk'
    have hy := runS_yes t false [] k hk' hlt
    have hl := stS_len t k
    show Calls Tryz.prog _ #[.int .u8 (S t)[k].toNat, .pointer (some ⟨h + 2, 0, none⟩), .pointer (some ⟨h + 1, 0, none⟩)] u _
    rw [hg, stS_succ hk']
    obtain ⟨⟨b, l⟩, hx⟩ : ∃ x, x = stS t k := ⟨_, rfl⟩
    have hy' : b = true ∨ t[k] ≠ 34 := by
      have e : ((t.take k).foldl stepS (false, [])).1 = b := by show (stS t k).1 = b; rw [← hx]
      rw [e] at hy; exact hy
    rw [← hx] at hB hl ⊢
    by_cases h2 : b = false ∧ t[k] = 92
    · obtain ⟨rfl, h2⟩ := h2
      refine (strStep_back h t[k] l u hB h2).mono ?_
      rintro e u' ⟨rfl, q1, q2⟩
      have e : stepS (false, l) t[k] = (true, l) := by simp [stepS, h2]
      rw [e]
      exact ⟨rfl, q1, hU.trans q2⟩
    · refine (strStep_put h t[k] b l u hB (by simp only at hl; omega) ?_).mono ?_
      · cases b with
        | true => exact Or.inl rfl
        | false => exact Or.inr ⟨hy'.resolve_left (by simp), fun e => h2 ⟨rfl, e⟩⟩
      · rintro e u' ⟨rfl, q1, q2⟩
        have e : stepS (b, l) t[k] = (false, l ++ [t[k]]) := by
          cases b with
          | true => rfl
          | false => simp only [stepS, Bool.false_eq_true, if_false]; rw [if_neg (fun e => h2 ⟨rfl, e⟩)]
        rw [e]
        exact ⟨rfl, q1, hU.trans q2⟩
  · intro hn u ⟨hB, hU⟩
    have hn' : runS false t < t.length := by rw [size_S] at hn; exact hn
    have hg : (S t)[runS false t] = t[runS false t] := S_get t _ hn hn'
    obtain ⟨q1, q2⟩ := runS_no t false [] hn'
    obtain ⟨⟨b, l⟩, hx⟩ : ∃ x, x = stS t (runS false t) := ⟨_, rfl⟩
    have hb : b = false := by
      have e : ((t.take (runS false t)).foldl stepS (false, [])).1 = b := by show (stS t (runS false t)).1 = b; rw [← hx]
      rw [e] at q1; exact q1
    subst hb
    show Calls Tryz.prog _ #[.int .u8 (S t)[runS false t].toNat, .pointer (some ⟨h + 2, 0, none⟩), .pointer (some ⟨h + 1, 0, none⟩)] u _
    rw [hg]
    refine (strStep_no h t[runS false t] l u (by rw [hx]; exact hB) q2).mono ?_
    rintro e u' ⟨rfl, rfl⟩
    exact ⟨rfl, hB, hU⟩

set_option maxHeartbeats 8000000 in
set_option maxRecDepth 100000 in
theorem readString_any (t : List UInt8) (w : World) (hs : t.length < 2000) :
    Calls Tryz.prog 118 #[.string (S (34 :: t))] w (Tk w (34 :: t) (strOne t)) := by
  have hrun := strM_run t false
  obtain ⟨n, hn⟩ : ∃ n, n = runS false t := ⟨_, rfl⟩
  have hnl : n ≤ t.length := by rw [hn]; exact runS_le t false
  have HZ : Hid (t.length ≤ 2000) := by unfold Hid; omega
  have HX : Hid ((S (34 :: t)).extract 1 (S (34 :: t)).size = S t) := by unfold Hid; rw [S_drop]; rfl
  have hsz : (S (34 :: t)).size = t.length + 1 := by rw [size_S]; rfl
  have hz1 : (1 : Int) ≤ ((S (34 :: t)).size : Int) := by omega
  have hz2 : (S (34 :: t)).size ≤ 2000 := by omega
  have hn2 : n ≤ 2000 := by omega
  have HSZ : Hid _ := hsz
  have HN : Hid _ := hn
  obtain ⟨W1, hW1⟩ : ∃ W1, W1 = w.alloc (.cells #[.int .i64 0, .string ⟨#[]⟩, .int .i64 0] 149) := ⟨_, rfl⟩
  obtain ⟨W2, hW2⟩ : ∃ W2, W2 = W1.alloc (.cells #[.slice none 0 0] 52) := ⟨_, rfl⟩
  obtain ⟨W0, hW0⟩ : ∃ W0, W0 = W2.alloc (.cells #[.bool false] 4) := ⟨_, rfl⟩
  have z1 : W1.heap.size = w.heap.size + 1 := by rw [hW1]; simp
  have z2 : W2.heap.size = w.heap.size + 2 := by rw [hW2]; simp [z1]
  have z0 : W0.heap.size = w.heap.size + 3 := by rw [hW0]; simp [z2]
  have b1 : Below W1.heap.size W1 W2 := by rw [hW2]; exact (Below.refl _ _).alloc (Nat.le_refl _) _
  have b2 : Below W2.heap.size W2 W0 := by rw [hW0]; exact (Below.refl _ _).alloc (Nat.le_refl _) _
  have HT0 : Hid (TokB W0 w.heap.size zeroT) := by
    unfold Hid
    have h1 : TokB W1 w.heap.size zeroT := by rw [hW1]; exact tokB_new w zeroT
    exact (h1.next b1).next b2
  have HI0 : Hid (StrI w.heap.size (false, []) W0) := by
    unfold Hid
    refine ⟨?_, ⟨none, 0, ?_, World.ownsRow_nil _ _ _ _⟩, by omega⟩
    · have := Box.new W2 (.bool false) 4; rw [z2] at this; rw [hW0]; exact this
    · have := Box.new W1 (.slice none 0 0) 52; rw [z1, ← hW2] at this; exact this.below b2 (by omega)
  have HE0 : Hid (Below w.heap.size w W0) := by
    unfold Hid
    have h1 : Below w.heap.size w W1 := by rw [hW1]; exact (Below.refl _ _).alloc (Nat.le_refl _) _
    exact (h1.trans (b1.mono (by omega))).trans (b2.mono (by omega))
  have HW : Hid (W0 = ((w.alloc (.cells #[.int .i64 0, .string ⟨#[]⟩, .int .i64 0] 149)).alloc (.cells #[.slice none 0 0] 52)).alloc (.cells #[.bool false] 4)) := by unfold Hid; rw [hW0, hW2, hW1]
  clear hn hs hW0 hW1 hW2 z0 z1 z2 b1 b2 hsz
  go_enter Tryz.func118, Tryz.ntmps118
  go_wp2_with fail
  rw [← HW.out, HX.out]
  refine (span_str t w.heap.size _ HZ.out HI0.out).mono ?_
  rintro e u ⟨rfl, hI, hB⟩
  rw [← HN.out] at hI
  rw [← HN.out]
  obtain ⟨hP, ⟨a, cp, hT, hO⟩, hz⟩ := hI
  have hTk : TokB u w.heap.size zeroT := HT0.out.below hB (by omega)
  have HE : Hid (Below w.heap.size w u) := HE0.out.trans (hB.mono (by omega))
  have f0 := hTk.free 0
  have f1 := hTk.free 1
  have f2 := hTk.free 2
  have k0 : u.cell? ⟨w.heap.size, 0, none⟩ = some (.int .i64 0) := hTk.c0
  have k1 : u.cell? ⟨w.heap.size, 1, none⟩ = some (.string ⟨#[]⟩) := hTk.c1
  have k2 : u.cell? ⟨w.heap.size, 2, none⟩ = some (.int .i64 0) := hTk.c2
  have ct := hT.cell
  have hconv := bytesC_back hO
  cases hs : strM false t with
  | none =>
    rw [hs] at hrun
    have hq : (1 : Int) + (n : Int) = ((S (34 :: t)).size : Int) := by rw [HSZ.out]; have := HN.out; omega
    have HM : Hid (strOne t = .error 4) := by unfold Hid strOne; rw [hs]
    clear hrun hs hP hT hO hTk hB hconv
    go_wp2
    exact bodyPost_ret (v := .tuple #[.agg #[.int .i64 0, .string ⟨#[]⟩, .int .i64 0], .int .i64 0, .int .i64 4]) (by simp [results, Tryz.results118, go_sem, k0, k1, k2]) rfl (by rw [HM.out]; exact ⟨rfl, by first | exact HE.out | (repeat (first | exact HE.out | refine Below.setCell ?_ (by simp) _))⟩)
  | some y =>
    obtain ⟨x, r⟩ := y
    rw [hs] at hrun
    obtain ⟨g1, g2, g3⟩ := hrun
    rw [← HN.out] at g1 g2 g3
    have hq : ¬ (1 : Int) + (n : Int) = ((S (34 :: t)).size : Int) := by rw [HSZ.out]; omega
    have e2 : (stS t n).2 = x := by have := g3 []; simpa [stS] using this
    rw [e2] at hconv ct
    have HR : Hid (((34 :: t).length - r.length : Nat) = 1 + n + 1) := by unfold Hid; rw [g2]; simp; omega
    have HM : Hid (strOne t = .ok ({ kind := 4, text := x, num := 0 }, r)) := by unfold Hid strOne; rw [hs]
    clear hs hP hT hO hTk hB g1 g2 g3 e2
    go_wp2
    exact bodyPost_ret (v := .tuple #[.agg #[.int .i64 4, .string (S x), .int .i64 0], .int .i64 (1 + (n : Int) + 1), .int .i64 0]) (by simp [results, Tryz.results118, go_sem, k0, k1, k2]) rfl (by rw [HM.out]; exact ⟨by rw [HR.out]; rfl, by first | exact HE.out | (repeat (first | exact HE.out | refine Below.setCell ?_ (by simp) _))⟩)
end Go.Proofs.YtepfniiojjefhaaGreatDoor
