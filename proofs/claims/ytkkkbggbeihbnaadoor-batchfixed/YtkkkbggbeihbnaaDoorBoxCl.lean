/-
  Rows are copied into memory of the call's own: the walks.
-/
import Derived.Test.YtkkkbggbeihbnaaDoorBoxRd
import Derived.Deep.RegionHeld3
import Derived.Deep.RegionLaw
import Derived.Deep.DeepCutAuto
import Derived.Lib.SliceRun
namespace Go.Proofs.YtkkkbggbeihbnaaDoor
open Go.RowKit Go.Proofs

theorem flat_get {k : Nat} : ∀ {css : List (List Value)} {j : Nat} {u : Value}, (∀ c ∈ css, c.length = k) → css.flatten[j]? = some u → ∃ i r cs, j = i * k + r ∧ r < k ∧ css[i]? = some cs ∧ cs[r]? = some u := by
  intro css
  induction css with
  | nil => intro j u _ h; simp at h
  | cons c css ih =>
    intro j u hk h
    have hc : c.length = k := hk c (by simp)
    simp only [List.flatten_cons] at h
    rcases Nat.lt_or_ge j k with hj | hj
    · rw [List.getElem?_append_left (by omega)] at h
      exact ⟨0, j, c, by omega, hj, rfl, h⟩
    · rw [List.getElem?_append_right (by omega), hc] at h
      obtain ⟨i, r, cs, e, hr, h1, h2⟩ := ih (fun c hc => hk c (by simp [hc])) h
      exact ⟨i + 1, r, cs, by rw [Nat.add_mul]; omega, hr, by simpa using h1, h2⟩
theorem flat_len {k : Nat} : ∀ {css : List (List Value)}, (∀ c ∈ css, c.length = k) → css.flatten.length = css.length * k := by
  intro css
  induction css with
  | nil => intro _; simp
  | cons c css ih =>
    intro h
    rw [List.flatten_cons, List.length_append, ih fun c hc => h c (by simp [hc]), h c (by simp), List.length_cons, Nat.add_mul]
    omega
theorem mail_one (l : List Mail) : ∀ u ∈ (l.map mailC).flatten, u.oneCell' = true := by
  intro u hu
  obtain ⟨cs, hcs, hu⟩ := List.mem_flatten.1 hu
  obtain ⟨m, _, rfl⟩ := List.mem_map.1 hcs
  simp only [mailC, List.mem_cons, List.not_mem_nil, or_false] at hu
  rcases hu with rfl | rfl | rfl <;> rfl
theorem ent_one (l : List Ent) : ∀ u ∈ (l.map entC).flatten, u.oneCell' = true := by
  intro u hu
  obtain ⟨cs, hcs, hu⟩ := List.mem_flatten.1 hu
  obtain ⟨m, _, rfl⟩ := List.mem_map.1 hcs
  simp only [entC, List.mem_cons, List.not_mem_nil, or_false] at hu
  rcases hu with rfl | rfl | rfl | rfl | rfl | rfl <;> rfl
theorem infoMl : (Tryd.prog.info? 73).map (fun i => (i.zero, i.size, i.bytes)) = some (some (.agg #[.int .i64 0, .int .i64 0, .string ByteArray.empty]), 3, 32) := by kernel_rfl
theorem infoBx : (Tryd.prog.info? 65).map (fun i => (i.zero, i.size, i.bytes)) = some (some (.agg #[.string ByteArray.empty, .int .i64 0, .slice none 0 0]), 3, 48) := by kernel_rfl
theorem infoEn : (Tryd.prog.info? 70).map (fun i => (i.zero, i.size, i.bytes)) = some (some (.agg #[.int .i64 0, .string ByteArray.empty, .int .i64 0, .int .i64 0, .string ByteArray.empty, .string ByteArray.empty]), 6, 72) := by kernel_rfl
set_option maxHeartbeats 1000000 in
set_option maxRecDepth 100000 in
theorem cloneMl (ad : Addr) (n c : Nat) (news : List Value) (w : World) (hl : news.length = n * 3) (hn : n ≤ 1000) (hc : ∀ j u, news[j]? = some u → w.cell? (ad.add j) = some u) (h1 : ∀ u ∈ news, u.oneCell' = true) :
    Calls Tryd.prog 40 #[.slice (some ad) n c] w fun e w' => ∃ v', e = .returned v' ∧ (w'.ownsRow w.heap.size 73 3 v' n news) ∧ Below w.heap.size w w' := by
  obtain ⟨i0, hi, hz0, hz1, hz2⟩ := info_parts infoMl
  have q22 : ∀ (w : World) (a : Option Addr) (n c n' c' : Nat), (binOp .eql 63 (.slice a n c) (.slice none n' c')).run Tryd.prog w = .ok (.bool a.isNone) w := fun w a n c n' c' => Lib.run_eql_slice_nil w _ _ a n c n' c' Tryd.underlying63
  have HC := hid hc
  have H1 := hid h1
  have HL := hid hl
  clear hc h1 hl
  go_enter Tryd.func40, Tryd.ntmps40
  go_wp2_with (at_builtin; refine wpList_append_own _ rfl _ _ 63 rfl w.heap.size 73 i0 _ 3 32 Tryd.underlying63 hi hz0 hz1 hz2 rfl (by decide) _ _ _ rfl (World.ownsRow_made w #[] 0 (Nat.le_refl _) (Nat.zero_le _) rfl) ad n c news rfl ?qc1 ?qc2 ?qc3 ?qc4 ?qc5 ?qc6 ?_)
  case qc1 => exact HL.out
  case qc2 => exact fun j u hj => Lib.cell?_alloc_some _ (HC.out j u hj)
  case qc3 => exact H1.out
  case qc4 => unfold maxLen; omega
  case qc5 => omega
  case qc6 => simp
  intro v' w1 hown hgrow hnil
  have HO := hid hown
  have HB := hid (show Below w.heap.size w w1 from ((Below.refl _ w).alloc (Nat.le_refl _) _).grown hgrow (by simp) (by intro k hk; simp [Value.ownBlock] at hk; omega))
  clear hown hgrow hnil
  go_wp2
  go_ret
  exact ⟨v', rfl, by simpa using HO.out, HB.out⟩
set_option maxHeartbeats 1000000 in
theorem cloneMl_nil (n c : Nat) (w : World) :
    Calls Tryd.prog 40 #[.slice none n c] w fun e w' => e = .returned (.slice none 0 0) ∧ w' = w := by
  have q22 : ∀ (w : World) (a : Option Addr) (n c n' c' : Nat), (binOp .eql 63 (.slice a n c) (.slice none n' c')).run Tryd.prog w = .ok (.bool a.isNone) w := fun w a n c n' c' => Lib.run_eql_slice_nil w _ _ a n c n' c' Tryd.underlying63
  go_enter Tryd.func40, Tryd.ntmps40
  go_wp2
  go_ret
  exact ⟨rfl, rfl⟩
set_option maxHeartbeats 1000000 in
set_option maxRecDepth 100000 in
theorem cloneBx (ad : Addr) (n c : Nat) (news : List Value) (w : World) (hl : news.length = n * 3) (hn : n ≤ 1000) (hc : ∀ j u, news[j]? = some u → w.cell? (ad.add j) = some u) (h1 : ∀ u ∈ news, u.oneCell' = true) :
    Calls Tryd.prog 38 #[.slice (some ad) n c] w fun e w' => ∃ v', e = .returned v' ∧ (w'.ownsRow w.heap.size 65 3 v' n news) ∧ Below w.heap.size w w' := by
  obtain ⟨i0, hi, hz0, hz1, hz2⟩ := info_parts infoBx
  have q22 : ∀ (w : World) (a : Option Addr) (n c n' c' : Nat), (binOp .eql 26 (.slice a n c) (.slice none n' c')).run Tryd.prog w = .ok (.bool a.isNone) w := fun w a n c n' c' => Lib.run_eql_slice_nil w _ _ a n c n' c' Tryd.underlying26
  have HC := hid hc
  have H1 := hid h1
  have HL := hid hl
  clear hc h1 hl
  go_enter Tryd.func38, Tryd.ntmps38
  go_wp2_with (at_builtin; refine wpList_append_own _ rfl _ _ 26 rfl w.heap.size 65 i0 _ 3 48 Tryd.underlying26 hi hz0 hz1 hz2 rfl (by decide) _ _ _ rfl (World.ownsRow_made w #[] 0 (Nat.le_refl _) (Nat.zero_le _) rfl) ad n c news rfl ?qc1 ?qc2 ?qc3 ?qc4 ?qc5 ?qc6 ?_)
  case qc1 => exact HL.out
  case qc2 => exact fun j u hj => Lib.cell?_alloc_some _ (HC.out j u hj)
  case qc3 => exact H1.out
  case qc4 => unfold maxLen; omega
  case qc5 => omega
  case qc6 => simp
  intro v' w1 hown hgrow hnil
  have HO := hid hown
  have HB := hid (show Below w.heap.size w w1 from ((Below.refl _ w).alloc (Nat.le_refl _) _).grown hgrow (by simp) (by intro k hk; simp [Value.ownBlock] at hk; omega))
  clear hown hgrow hnil
  go_wp2
  go_ret
  exact ⟨v', rfl, by simpa using HO.out, HB.out⟩
set_option maxHeartbeats 1000000 in
theorem cloneBx_nil (n c : Nat) (w : World) :
    Calls Tryd.prog 38 #[.slice none n c] w fun e w' => e = .returned (.slice none 0 0) ∧ w' = w := by
  have q22 : ∀ (w : World) (a : Option Addr) (n c n' c' : Nat), (binOp .eql 26 (.slice a n c) (.slice none n' c')).run Tryd.prog w = .ok (.bool a.isNone) w := fun w a n c n' c' => Lib.run_eql_slice_nil w _ _ a n c n' c' Tryd.underlying26
  go_enter Tryd.func38, Tryd.ntmps38
  go_wp2
  go_ret
  exact ⟨rfl, rfl⟩
set_option maxHeartbeats 1000000 in
set_option maxRecDepth 100000 in
theorem cloneEn (ad : Addr) (n c : Nat) (news : List Value) (w : World) (hl : news.length = n * 6) (hn : n ≤ 1000) (hc : ∀ j u, news[j]? = some u → w.cell? (ad.add j) = some u) (h1 : ∀ u ∈ news, u.oneCell' = true) :
    Calls Tryd.prog 39 #[.slice (some ad) n c] w fun e w' => ∃ v', e = .returned v' ∧ (w'.ownsRow w.heap.size 70 6 v' n news) ∧ Below w.heap.size w w' := by
  obtain ⟨i0, hi, hz0, hz1, hz2⟩ := info_parts infoEn
  have q22 : ∀ (w : World) (a : Option Addr) (n c n' c' : Nat), (binOp .eql 27 (.slice a n c) (.slice none n' c')).run Tryd.prog w = .ok (.bool a.isNone) w := fun w a n c n' c' => Lib.run_eql_slice_nil w _ _ a n c n' c' Tryd.underlying27
  have HC := hid hc
  have H1 := hid h1
  have HL := hid hl
  clear hc h1 hl
  go_enter Tryd.func39, Tryd.ntmps39
  go_wp2_with (at_builtin; refine wpList_append_own _ rfl _ _ 27 rfl w.heap.size 70 i0 _ 6 72 Tryd.underlying27 hi hz0 hz1 hz2 rfl (by decide) _ _ _ rfl (World.ownsRow_made w #[] 0 (Nat.le_refl _) (Nat.zero_le _) rfl) ad n c news rfl ?qc1 ?qc2 ?qc3 ?qc4 ?qc5 ?qc6 ?_)
  case qc1 => exact HL.out
  case qc2 => exact fun j u hj => Lib.cell?_alloc_some _ (HC.out j u hj)
  case qc3 => exact H1.out
  case qc4 => unfold maxLen; omega
  case qc5 => omega
  case qc6 => simp
  intro v' w1 hown hgrow hnil
  have HO := hid hown
  have HB := hid (show Below w.heap.size w w1 from ((Below.refl _ w).alloc (Nat.le_refl _) _).grown hgrow (by simp) (by intro k hk; simp [Value.ownBlock] at hk; omega))
  clear hown hgrow hnil
  go_wp2
  go_ret
  exact ⟨v', rfl, by simpa using HO.out, HB.out⟩
set_option maxHeartbeats 1000000 in
theorem cloneEn_nil (n c : Nat) (w : World) :
    Calls Tryd.prog 39 #[.slice none n c] w fun e w' => e = .returned (.slice none 0 0) ∧ w' = w := by
  have q22 : ∀ (w : World) (a : Option Addr) (n c n' c' : Nat), (binOp .eql 27 (.slice a n c) (.slice none n' c')).run Tryd.prog w = .ok (.bool a.isNone) w := fun w a n c n' c' => Lib.run_eql_slice_nil w _ _ a n c n' c' Tryd.underlying27
  go_enter Tryd.func39, Tryd.ntmps39
  go_wp2
  go_ret
  exact ⟨rfl, rfl⟩
/- What comes of it. -/
def ClM (w : World) (l : List Mail) (e : Ending) (w' : World) : Prop := ∃ v', e = .returned v' ∧ (w'.ownsRow w.heap.size 73 3 v' l.length (l.map mailC).flatten) ∧ Below w.heap.size w w'
def ClE (w : World) (l : List Ent) (e : Ending) (w' : World) : Prop := ∃ v', e = .returned v' ∧ (w'.ownsRow w.heap.size 70 6 v' l.length (l.map entC).flatten) ∧ Below w.heap.size w w'
def ClB (Q : Nat → Prop) (w : World) (l : List Bx) (e : Ending) (w' : World) : Prop := ∃ v' vm, e = .returned v' ∧ (w'.ownsRow w.heap.size 65 3 v' l.length (bxCs l vm).flatten) ∧ vm.length = l.length ∧ (∀ (i : Nat) b v, l[i]? = some b → vm[i]? = some v → MailsM Q w v b.mails) ∧ Below w.heap.size w w'
theorem cloneM (l : List Mail) (v : Value) (w : World) (Q : Nat → Prop) (h : MailsM Q w v l) (hm : l.length ≤ 1000) : Calls Tryd.prog 40 #[v] w (ClM w l) := by
  obtain ⟨a, c, rfl⟩ := RowM.slice h
  cases a with
  | none =>
    have hl : l = [] := by
      cases l with
      | nil => rfl
      | cons x r => obtain ⟨_, _, e, _⟩ := h.at (i := 0) (x := x) rfl; cases e
    subst hl
    refine (cloneMl_nil 0 c w).mono ?_
    rintro e w' ⟨rfl, rfl⟩
    exact ⟨_, rfl, World.ownsRow_nil _ _ _ _, Below.refl _ _⟩
  | some ad =>
    refine (cloneMl ad l.length c ((l.map mailC).flatten) w ?_ hm ?_ (mail_one l)).mono ?_
    · rw [flat_len (map_flat_len (k := 3) mailC (fun _ => rfl) l), List.length_map]
    · intro j u hj
      obtain ⟨i, r, cs, rfl, hr, h1, h2⟩ := flat_get (map_flat_len (k := 3) mailC (fun _ => rfl) l) hj
      rw [List.getElem?_map] at h1
      obtain ⟨x, hx, rfl⟩ := Option.map_eq_some_iff.1 h1
      obtain ⟨b, o, e, _, c0, c1, c2⟩ := h.at hx
      cases e
      rw [Addr.add_lit]
      match r, hr, h2 with
      | 0, _, h2 => cases h2; simpa using c0
      | 1, _, h2 => cases h2; simpa [Nat.add_assoc] using c1
      | 2, _, h2 => cases h2; simpa [Nat.add_assoc] using c2
    · rintro e w' ⟨v', rfl, ho, hb⟩
      exact ⟨v', rfl, ho, hb⟩
theorem cloneE (l : List Ent) (v : Value) (w : World) (Q : Nat → Prop) (h : EntsM Q w v l) (hm : l.length ≤ 1000) : Calls Tryd.prog 39 #[v] w (ClE w l) := by
  obtain ⟨a, c, rfl⟩ := RowM.slice h
  cases a with
  | none =>
    have hl : l = [] := by
      cases l with
      | nil => rfl
      | cons x r => obtain ⟨_, _, e, _⟩ := h.at (i := 0) (x := x) rfl; cases e
    subst hl
    refine (cloneEn_nil 0 c w).mono ?_
    rintro e w' ⟨rfl, rfl⟩
    exact ⟨_, rfl, World.ownsRow_nil _ _ _ _, Below.refl _ _⟩
  | some ad =>
    refine (cloneEn ad l.length c ((l.map entC).flatten) w ?_ hm ?_ (ent_one l)).mono ?_
    · rw [flat_len (map_flat_len (k := 6) entC (fun _ => rfl) l), List.length_map]
    · intro j u hj
      obtain ⟨i, r, cs, rfl, hr, h1, h2⟩ := flat_get (map_flat_len (k := 6) entC (fun _ => rfl) l) hj
      rw [List.getElem?_map] at h1
      obtain ⟨x, hx, rfl⟩ := Option.map_eq_some_iff.1 h1
      obtain ⟨b, o, e, _, c0, c1, c2, c3, c4, c5⟩ := h.at hx
      cases e
      rw [Addr.add_lit]
      match r, hr, h2 with
      | 0, _, h2 => cases h2; simpa using c0
      | 1, _, h2 => cases h2; simpa [Nat.add_assoc] using c1
      | 2, _, h2 => cases h2; simpa [Nat.add_assoc] using c2
      | 3, _, h2 => cases h2; simpa [Nat.add_assoc] using c3
      | 4, _, h2 => cases h2; simpa [Nat.add_assoc] using c4
      | 5, _, h2 => cases h2; simpa [Nat.add_assoc] using c5
    · rintro e w' ⟨v', rfl, ho, hb⟩
      exact ⟨v', rfl, ho, hb⟩
theorem cloneB (l : List Bx) (v : Value) (w : World) (Q : Nat → Prop) (h : BoxsM Q w v l) (hm : l.length ≤ 1000) : Calls Tryd.prog 38 #[v] w (ClB Q w l) := by
  obtain ⟨a, c, rfl⟩ := RowM.slice h
  cases a with
  | none =>
    have hl : l = [] := by
      cases l with
      | nil => rfl
      | cons x r => obtain ⟨_, _, _, e, _⟩ := h.at (i := 0) (x := x) rfl; cases e
    subst hl
    refine (cloneBx_nil 0 c w).mono ?_
    rintro e w' ⟨rfl, rfl⟩
    exact ⟨_, [], rfl, World.ownsRow_nil _ _ _ _, rfl, fun i b v hb => by simp at hb, Below.refl _ _⟩
  | some ad =>
    have hvm : ∀ (i : Nat) x, l[i]? = some x → ∃ v, ((List.range l.length).map fun i => (w.cell? (ad.add (i * 3 + 2))).getD (.slice none 0 0))[i]? = some v ∧ MailsM Q w v x.mails ∧ ∀ r u, (boxC x v)[r]? = some u → w.cell? (ad.add (i * 3 + r)) = some u := by
      intro i x hx
      have hi : i < l.length := (List.getElem?_eq_some_iff.1 hx).1
      obtain ⟨b, o, v, e, _, c0, c1, c2, hM⟩ := h.at hx
      cases e
      refine ⟨v, ?_, hM, ?_⟩
      · rw [List.getElem?_map, List.getElem?_range hi]
        simp only [Option.map_some, Addr.add_lit]
        rw [← Nat.add_assoc, c2]; rfl
      · intro r u hu
        have hr : r < 3 := (List.getElem?_eq_some_iff.1 hu).1
        rw [Addr.add_lit]
        match r, hr, hu with
        | 0, _, h2 => cases h2; simpa using c0
        | 1, _, h2 => cases h2; simpa [Nat.add_assoc] using c1
        | 2, _, h2 => cases h2; simpa [Nat.add_assoc] using c2
    have hlen : ((List.range l.length).map fun i => (w.cell? (ad.add (i * 3 + 2))).getD (.slice none 0 0)).length = l.length := by simp
    generalize ((List.range l.length).map fun i => (w.cell? (ad.add (i * 3 + 2))).getD (.slice none 0 0)) = vm at hvm hlen
    have hcs : ∀ (i : Nat) cs, (bxCs l vm)[i]? = some cs → ∃ x v, l[i]? = some x ∧ vm[i]? = some v ∧ cs = boxC x v := by
      intro i cs hc
      have hi : i < l.length := by rw [← bxCs_len l vm hlen]; exact (List.getElem?_eq_some_iff.1 hc).1
      have hx : l[i]? = some l[i] := List.getElem?_eq_getElem hi
      obtain ⟨v, hv, _⟩ := hvm i _ hx
      rw [bxCs_at l vm i _ v hx hv] at hc
      cases hc
      exact ⟨_, v, hx, hv, rfl⟩
    refine (cloneBx ad l.length c ((bxCs l vm).flatten) w ?_ hm ?_ ?_).mono ?_
    · rw [flat_len (bxCs_each l vm), bxCs_len l vm hlen]
    · intro j u hj
      obtain ⟨i, r, cs, rfl, hr, h1, h2⟩ := flat_get (bxCs_each l vm) hj
      obtain ⟨x, v, hx, hv, rfl⟩ := hcs i cs h1
      obtain ⟨v', hv', _, hc⟩ := hvm i x hx
      rw [hv] at hv'
      cases hv'
      exact hc r u h2
    · intro u hu
      obtain ⟨cs, hcs', hu⟩ := List.mem_flatten.1 hu
      obtain ⟨i, hi, rfl⟩ := List.getElem_of_mem hcs'
      obtain ⟨x, v, hx, hv, e⟩ := hcs i _ (List.getElem?_eq_getElem hi)
      obtain ⟨v', hv', hM, _⟩ := hvm i x hx
      rw [hv] at hv'
      cases hv'
      obtain ⟨a, c, rfl⟩ := RowM.slice hM
      rw [e] at hu
      simp only [boxC, List.mem_cons, List.not_mem_nil, or_false] at hu
      rcases hu with rfl | rfl | rfl <;> rfl
    · rintro e w' ⟨v', rfl, ho, hb⟩
      refine ⟨v', vm, rfl, ho, hlen, ?_, hb⟩
      intro i b v hb' hv
      obtain ⟨v', hv', hM, _⟩ := hvm i b hb'
      rw [hv] at hv'
      cases hv'
      exact hM
end Go.Proofs.YtkkkbggbeihbnaaDoor
