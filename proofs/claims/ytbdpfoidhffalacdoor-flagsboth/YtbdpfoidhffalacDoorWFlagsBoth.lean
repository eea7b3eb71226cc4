/-
  Flags of two lists together are those of both: walked.
-/
import Derived.Test.YtbdpfoidhffalacDoorRulFlag
import Derived.Test.YtbdpfoidhffalacDoorKeepPick
import Derived.Test.YtbdpfoidhffalacDoorTokNums
import Derived.Deep.AppendLies
namespace Go.Proofs.YtbdpfoidhffalacDoor
open Go.RowKit Go.Proofs

theorem infoStr : (Tryd.prog.info? 9).map (fun i => (i.zero, i.size, i.bytes)) = some (some (.string ByteArray.empty), 1, 16) := by kernel_rfl
def cellsX (l : List (List UInt8)) : List Value := l.map fun x => .string (S x)
theorem own_txts' {w : World} {base n : Nat} {v : Value} {l : List (List UInt8)} {Q : Nat → Prop} (h : w.ownsRow base 9 1 v n (cellsX l)) (hn : n = l.length) (hq : ∀ b, base ≤ b → Q b) (hl : l.length ≤ maxLen) : TxtsM Q w v l := by
  subst hn
  rcases h.2 with ⟨rfl, hn⟩ | ⟨g, cap, cur, rfl, hb, hg, hcap, hcm, hcs, htk⟩
  · have : l = [] := List.length_eq_zero_iff.1 hn
    subst this
    exact rowM_nil _ _ _ _ _ _
  · refine ⟨some ⟨g, 0, none⟩, cap, rfl, hl, fun i x hx => ?_⟩
    refine ⟨g, 0, [.string (S x)], rfl, (Array.getElem?_eq_some_iff.1 hg).1, hq g hb, rfl, fun j u hj => ?_, rfl⟩
    cases j with
    | succ j => simp at hj
    | zero =>
      simp at hj
      subst hj
      have := World.ownsRow.cells h (g := g) rfl i (.string (S x)) (by unfold cellsX; rw [List.getElem?_map, hx]; rfl)
      rw [Addr.add_lit] at this
      simpa using this
theorem cellsX_snoc (l : List (List UInt8)) (x : List UInt8) : cellsX (l ++ [x]) = cellsX l ++ [.string (S x)] := by simp [cellsX]
theorem cell_one_fresh (w : World) (x : Value) (t : TypeId) : ∀ (j : Nat) u, [x][j]? = some u → (w.alloc (.cells #[x] t)).cell? ((⟨w.heap.size, 0, none⟩ : Addr).add j) = some u := by
  intro j u hj
  rw [Addr.add_lit, Nat.zero_add]
  match j, hj with
  | 0, hj => simp at hj; subst hj; simp
/-- The first k of the names that numbers pick. -/
def pickF (ns : List Int) (k : Nat) : List (List UInt8) := (ns.take k).map fun z => flagN (pickN z 5)
theorem pickF_step {ns : List Int} {k : Nat} {z : Int} (h : ns[k]? = some z) : pickF ns (k + 1) = pickF ns k ++ [flagN (pickN z 5)] := by
  have hk : k < ns.length := (List.getElem?_eq_some_iff.1 h).1
  have e : ns[k] = z := (List.getElem?_eq_some_iff.1 h).2
  unfold pickF
  rw [List.take_succ_eq_append_getElem hk, List.map_append, e]; rfl
theorem pickF_len {ns : List Int} {k : Nat} (h : k ≤ ns.length) : (pickF ns k).length = k := by simp [pickF]; omega
theorem flagN_ok {i : Nat} (h : i < 5) : flagP (flagN i) ≠ 0 := by
  match i, h with
  | 0, _ | 1, _ | 2, _ | 3, _ | 4, _ => decide
theorem pickF_ok (ns : List Int) (k : Nat) : ∀ s ∈ pickF ns k, flagP s ≠ 0 := by
  intro s hs
  obtain ⟨z, _, rfl⟩ := List.mem_map.1 hs
  exact flagN_ok (pickN_lt z 5 (by omega))
def orF (l : List (List UInt8)) : Nat := l.foldl (fun a s => a ||| flagP s) 0
theorem flagsP_all {l : List (List UInt8)} (h : ∀ s ∈ l, flagP s ≠ 0) : flagsP l = some (orF l) := by
  unfold flagsP orF; rw [flagsG_all l 0 h, Nat.zero_or]
theorem orF_append (a b : List (List UInt8)) : orF (a ++ b) = orF a ||| orF b := by
  unfold orF
  rw [List.foldl_append]
  have e : ∀ (l : List (List UInt8)) (k : Nat), l.foldl (fun a s => a ||| flagP s) k = k ||| l.foldl (fun a s => a ||| flagP s) 0 := by
    intro l
    induction l with
    | nil => intro k; simp
    | cons x l ih => intro k; rw [List.foldl_cons, List.foldl_cons, ih (k ||| flagP x), ih (0 ||| flagP x), Nat.zero_or, Nat.or_assoc]
  rw [e b]
theorem orF_lt (l : List (List UInt8)) (h : ∀ s ∈ l, flagP s ≠ 0) : orF l < 32 := flagsG_lt l 0 _ (by omega) (flagsP_all h)
def allF : List (List UInt8) := [flagN 0, flagN 1, flagN 2, flagN 3, flagN 4]
theorem allF_is : flagsP allF = some 31 := by decide
theorem own_next' {w w' : World} {base : Nat} {e : TypeId} {size : Nat} {v : Value} {n : Nat} {xs : List Value} (h : w.ownsRow base e size v n xs) (hb : Below w.heap.size w w') : w'.ownsRow base e size v n xs :=
  h.kept (row := none) ⟨hb.os, hb.tape, hb.output, hb.size, fun k hk _ => hb.block k hk⟩ (by cases hv : v.ownBlock <;> simp)
theorem cellsX_len (l : List (List UInt8)) : (cellsX l).length = l.length := by simp [cellsX]
theorem cellsX_append (a b : List (List UInt8)) : cellsX (a ++ b) = cellsX a ++ cellsX b := by simp [cellsX]
theorem cellsX_one (l : List (List UInt8)) : ∀ u ∈ cellsX l, u.oneCell' = true := by
  intro u hu
  obtain ⟨x, _, rfl⟩ := List.mem_map.1 hu
  rfl
theorem row_news {w : World} {base : Nat} {g n c : Nat} {xs : List Value} (h : w.ownsRow base 9 1 (.slice (some ⟨g, 0, none⟩) n c) n xs) : ∀ (j : Nat) u, xs[j]? = some u → w.cell? ((⟨g, 0, none⟩ : Addr).add j) = some u := fun j u hj => World.ownsRow.cells h (g := g) rfl j u hj
theorem all_row {w : World} {b : Nat} (h : w.heap[b]? = some (.cells #[.string ⟨#[92, 83, 101, 101, 110]⟩, .string ⟨#[92, 65, 110, 115, 119, 101, 114, 101, 100]⟩, .string ⟨#[92, 70, 108, 97, 103, 103, 101, 100]⟩, .string ⟨#[92, 68, 101, 108, 101, 116, 101, 100]⟩, .string ⟨#[92, 68, 114, 97, 102, 116]⟩] 9)) : TxtsM anyB w (.slice (some ⟨b, 0, none⟩) allF.length 5) allF := by
  refine ⟨_, 5, rfl, by unfold maxLen; decide, fun i x hx => ?_⟩
  have hi : i < 5 := (List.getElem?_eq_some_iff.1 hx).1
  refine ⟨b, 0, [.string (S x)], rfl, (Array.getElem?_eq_some_iff.1 h).1, trivial, rfl, fun j u hj => ?_, rfl⟩
  cases j with
  | succ j => simp at hj
  | zero =>
    simp at hj
    subst hj
    rw [Nat.zero_add, Nat.mul_one, Nat.add_zero]
    simp only [World.cell?, h]
    match i, hi with
    | 0, _ | 1, _ | 2, _ | 3, _ | 4, _ => cases hx; rfl
theorem own_cap' {w : World} {base : Nat} {e : TypeId} {size : Nat} {a : Option Addr} {n m c : Nat} {xs : List Value} (h : w.ownsRow base e size (.slice a n c) m xs) : n ≤ c := by
  rcases h.2 with ⟨hv, _⟩ | ⟨g, cap, cur, hv, _, _, hc, _⟩
  · cases hv; exact Nat.le_refl _
  · cases hv; exact hc
theorem fl_at {pb : Nat} (h : pb < 5) : ∀ h', ([Value.string { data := #[92, 83, 101, 101, 110] }, Value.string { data := #[92, 65, 110, 115, 119, 101, 114, 101, 100] }, Value.string { data := #[92, 70, 108, 97, 103, 103, 101, 100] }, Value.string { data := #[92, 68, 101, 108, 101, 116, 101, 100] }, Value.string { data := #[92, 68, 114, 97, 102, 116] }] : List Value)[pb]'h' = .string (S (flagN pb)) := by
  match pb, h with
  | 0, _ | 1, _ | 2, _ | 3, _ | 4, _ => exact fun _ => rfl

set_option maxHeartbeats 16000000 in
set_option maxRecDepth 100000 in
theorem flagsBoth_walk (w : World) (hm : FlagsAt w) (a : Option Addr) (c : Nat) (ns : List Int) (hF : NumsAt w a ns) (_hL : ns.length ≤ maxLen) (hB : ∀ z ∈ ns, (Lit.int .i64 z).wf = true) (a' : Option Addr) (c' : Nat) (ms : List Int) (hF' : NumsAt w a' ms) (_hL' : ms.length ≤ maxLen) (hB' : ∀ z ∈ ms, (Lit.int .i64 z).wf = true) :
    Calls Tryd.prog 3 #[.slice a ns.length c, .slice a' ms.length c'] w fun e w' => e = .returned (.bool true) ∧ Below w.heap.size w w' := by
  obtain ⟨i0, hi, hz0, hz1, hz2⟩ := info_parts infoStr
  have HM := hid hm
  have HF := hid hF
  have HB := hid hB
  have HF' := hid hF'
  have HB' := hid hB'
  clear hm hF hB hF' hB'
  go_enter Tryd.func3, Tryd.ntmps3
  go_wp2
  go_loopw [6, 8] (fun v i wr => ∃ (k : Nat) (a0 : Option Addr) (c0 : Nat), k ≤ ns.length ∧ k ≤ 6 ∧ i = .int .i64 k ∧ v = .slice a0 k c0 ∧ Hid (wr.ownsRow (w.heap.size + 1) 9 1 (.slice a0 k c0) k (cellsX (pickF ns k))) ∧ Hid (Below w.heap.size w wr) ∧ Hid (wr.heap[w.heap.size]? = some (.cells #[.string ⟨#[92, 83, 101, 101, 110]⟩, .string ⟨#[92, 65, 110, 115, 119, 101, 114, 101, 100]⟩, .string ⟨#[92, 70, 108, 97, 103, 103, 101, 100]⟩, .string ⟨#[92, 68, 101, 108, 101, 116, 101, 100]⟩, .string ⟨#[92, 68, 114, 97, 102, 116]⟩] 9)) ∧ Hid (k = 0 → a0 = none ∧ c0 = 0) ∧ Hid (0 < k → ∃ g, a0 = some ⟨g, 0, none⟩)) (fun _ i _ => 6 - (intOf i).toNat)
  case atStart => exact ⟨0, none, 0, Nat.zero_le _, Nat.zero_le _, rfl, rfl, World.ownsRow_nil _ _ _ _, (Below.refl _ _).alloc (Nat.le_refl _) _, heap_alloc_new w _, (fun _ => ⟨rfl, rfl⟩), (fun h => by omega)⟩
  case round =>
    obtain ⟨k, a0, c0, hk, hk6, rfl, rfl, HO, HBw, HA, HE0, HE1⟩ := hrel
    by_cases hlt : k < ns.length ∧ k < 6
    · obtain ⟨hl, h6⟩ := hlt
      have i1 : (k : Int) < (ns.length : Int) := by omega
      have i2 : (k : Int) < 6 := by omega
      have i3 : (0 : Int) ≤ (k : Int) := by omega
      obtain ⟨z, hz⟩ : ∃ z, ns[k]? = some z := ⟨_, List.getElem?_eq_getElem hl⟩
      have HZ := hid (HB.out z (List.mem_of_getElem? hz))
      obtain ⟨b, o, rfl, hbl, e0⟩ := (HF.out.below HBw.out) k z hz
      obtain ⟨q, hqq⟩ : ∃ q, q = pickN z 5 := ⟨_, rfl⟩
      have HQQ := hid hqq
      have HS2 := hid (show pickF ns (k + 1) = pickF ns k ++ [flagN q] by rw [hqq]; exact pickF_step hz)
      have hq : q < 5 := by rw [hqq]; exact pickN_lt z 5 (by omega)
      have q1 : (q : Int) < 5 := by omega
      have q0 : (0 : Int) ≤ (q : Int) := by omega
      have e5 : wr.cell? ⟨w.heap.size, q, none⟩ = some (.string (S (flagN q))) := by
        have hh := HA.out
        have hf := fl_at hq
        simp only [World.cell?, hh]
        rw [List.getElem?_toArray, List.getElem?_eq_getElem (by simpa using hq), hf]
        rfl
      clear hqq
      have hsz := HBw.out.size
      have hown := HO.out
      clear hz
      go_wp2_with fail
      refine (picked_any z 5 _ HZ.out (by omega) (by omega)).mono ?_
      rintro e u ⟨rfl, hu⟩
      have hu' := hu.symm
      subst hu'
      rw [← HQQ.out]
      go_wp2_with (at_builtin; refine wpList_append_lies _ rfl _ _ 23 rfl (w.heap.size + 1) 9 i0 _ 1 16 Tryd.underlying23 hi hz0 hz1 hz2 rfl (by decide) (.slice a0 k c0) k (cellsX (pickF ns k)) rfl (World.ownsRow.alloc hown _) ⟨wr.heap.size, 0, none⟩ 1 1 [.string (S (flagN q))] rfl rfl (cell_one_fresh _ _ _) ?c2 (by omega) ?c3 ?c4 ?c5 _ rfl ?_)
      case c2 => intro u hu; simp at hu; subst hu; rfl
      case c3 => unfold maxLen; omega
      case c4 => omega
      case c5 => simp; have := (Array.getElem?_eq_some_iff.1 HA.out).1; omega
      intro g cap w3 hown3 hgrow hat hlt3
      have HO3 := hid (show w3.ownsRow (w.heap.size + 1) 9 1 (.slice (some ⟨g, 0, none⟩) (k + 1) cap) (k + 1) (cellsX (pickF ns (k + 1))) by rw [HS2.out, cellsX_snoc]; exact hown3)
      have hge : ∀ j, (Value.slice a0 k c0).ownBlock = some j → w.heap.size + 1 ≤ j := fun j hj => (World.ownsRow.lt hown j hj).1
      have HB3 := hid (show Below w.heap.size w w3 from (HBw.out.alloc hsz _).grown hgrow (by simp; omega) (fun j hj => by have := hge j hj; omega))
      have HA3 := hid (show w3.heap[w.heap.size]? = some (.cells #[.string ⟨#[92, 83, 101, 101, 110]⟩, .string ⟨#[92, 65, 110, 115, 119, 101, 114, 101, 100]⟩, .string ⟨#[92, 70, 108, 97, 103, 103, 101, 100]⟩, .string ⟨#[92, 68, 101, 108, 101, 116, 101, 100]⟩, .string ⟨#[92, 68, 114, 97, 102, 116]⟩] 9) from (hgrow.block _ (by have := (Array.getElem?_eq_some_iff.1 HA.out).1; simp; omega) (fun e => by have := hge _ e.symm; omega)).trans (by
        have hh := HA.out
        show (wr.heap.push _)[w.heap.size]? = _
        rw [Array.getElem?_push_lt (Array.getElem?_eq_some_iff.1 hh).1, ← Array.getElem?_eq_getElem (Array.getElem?_eq_some_iff.1 hh).1]; exact hh))
      clear hgrow hown hown3 hat hge
      go_wp2
      go_roundw
      case rel =>
        have R := (⟨k + 1, some ⟨g, 0, none⟩, cap, by omega, by omega, by go_num, rfl, HO3, HB3, HA3, fun e => by omega, fun _ => ⟨g, rfl⟩⟩ : ∃ (k' : Nat) (a0 : Option Addr) (c0 : Nat), k' ≤ ns.length ∧ k' ≤ 6 ∧ Value.int .i64 ((k : Int) + 1) = .int .i64 k' ∧ Value.slice (some ⟨g, 0, none⟩) (k + 1) cap = .slice a0 k' c0 ∧ Hid (w3.ownsRow (w.heap.size + 1) 9 1 (.slice a0 k' c0) k' (cellsX (pickF ns k'))) ∧ Hid (Below w.heap.size w w3) ∧ Hid (w3.heap[w.heap.size]? = some (.cells #[.string ⟨#[92, 83, 101, 101, 110]⟩, .string ⟨#[92, 65, 110, 115, 119, 101, 114, 101, 100]⟩, .string ⟨#[92, 70, 108, 97, 103, 103, 101, 100]⟩, .string ⟨#[92, 68, 101, 108, 101, 116, 101, 100]⟩, .string ⟨#[92, 68, 114, 97, 102, 116]⟩] 9)) ∧ Hid (k' = 0 → a0 = none ∧ c0 = 0) ∧ Hid (0 < k' → ∃ g, a0 = some ⟨g, 0, none⟩))
        first | exact R | ((repeat apply Exists.intro); exact ⟨R, rfl⟩) | (refine ⟨trivial, ?_⟩; (repeat apply Exists.intro); exact ⟨R, rfl⟩)
      case measure => simp [intOf]; omega
    · have hstop1 : ¬ k < ns.length ∨ (k < ns.length ∧ k = 6) := by omega
      obtain ⟨wo, hwo⟩ : ∃ wo, wo = wr := ⟨_, rfl⟩
      subst hwo
      obtain ⟨k1, hk1⟩ : ∃ k1, k1 = k := ⟨_, rfl⟩
      subst hk1
      obtain ⟨a1, ha1⟩ : ∃ a1, a1 = a0 := ⟨_, rfl⟩
      subst ha1
      obtain ⟨c1, hc1⟩ : ∃ c1, c1 = c0 := ⟨_, rfl⟩
      subst hc1
      have HBo := HBw
      have HAo := HA
      have HX := HO
      have HX0 := HE0
      have HX1 := HE1
      have hso : w.heap.size < wo.heap.size := (Array.getElem?_eq_some_iff.1 HA.out).1
      have hkx := hk
      have hkx6 := hk6
      clear hlt HBw HA HO HE0 HE1
      rcases hstop1 with hst | ⟨hst, hst6⟩
      case' inl => have i1 : ¬ (k1 : Int) < (ns.length : Int) := by omega
      case' inr => have i1 : (k1 : Int) < (ns.length : Int) := by omega
      case' inr => have i2 : ¬ (k1 : Int) < 6 := by omega
      case' inr => clear hst6
      all_goals
        clear hst
        go_wp2
        clear i1
        (try clear i2)
        go_loopw [7, 9] (fun v i wr => ∃ (k : Nat) (a0 : Option Addr) (c0 : Nat), k ≤ ms.length ∧ k ≤ 6 ∧ i = .int .i64 k ∧ v = .slice a0 k c0 ∧ Hid (wr.ownsRow wo.heap.size 9 1 (.slice a0 k c0) k (cellsX (pickF ms k))) ∧ Hid (Below w.heap.size w wr) ∧ Hid (wr.heap[w.heap.size]? = some (.cells #[.string ⟨#[92, 83, 101, 101, 110]⟩, .string ⟨#[92, 65, 110, 115, 119, 101, 114, 101, 100]⟩, .string ⟨#[92, 70, 108, 97, 103, 103, 101, 100]⟩, .string ⟨#[92, 68, 101, 108, 101, 116, 101, 100]⟩, .string ⟨#[92, 68, 114, 97, 102, 116]⟩] 9)) ∧ Hid (k = 0 → a0 = none ∧ c0 = 0) ∧ Hid (0 < k → ∃ g, a0 = some ⟨g, 0, none⟩) ∧ Hid (Below wo.heap.size wo wr)) (fun _ i _ => 6 - (intOf i).toNat)
        case atStart => exact ⟨0, none, 0, Nat.zero_le _, Nat.zero_le _, rfl, rfl, World.ownsRow_nil _ _ _ _, HBo, HAo, (fun _ => ⟨rfl, rfl⟩), (fun h => by omega), Below.refl _ _⟩
        case round =>
          obtain ⟨k, a0, c0, hk, hk6, rfl, rfl, HO, HBw, HA, HE0, HE1, HBo2⟩ := hrel
          by_cases hlt : k < ms.length ∧ k < 6
          · obtain ⟨hl, h6⟩ := hlt
            have i1 : (k : Int) < (ms.length : Int) := by omega
            have i2 : (k : Int) < 6 := by omega
            have i3 : (0 : Int) ≤ (k : Int) := by omega
            obtain ⟨z, hz⟩ : ∃ z, ms[k]? = some z := ⟨_, List.getElem?_eq_getElem hl⟩
            have HZ := hid (HB'.out z (List.mem_of_getElem? hz))
            obtain ⟨b, o, rfl, hbl, e0⟩ := (HF'.out.below HBw.out) k z hz
            obtain ⟨q, hqq⟩ : ∃ q, q = pickN z 5 := ⟨_, rfl⟩
            have HQQ := hid hqq
            have HS2 := hid (show pickF ms (k + 1) = pickF ms k ++ [flagN q] by rw [hqq]; exact pickF_step hz)
            have hq : q < 5 := by rw [hqq]; exact pickN_lt z 5 (by omega)
            have q1 : (q : Int) < 5 := by omega
            have q0 : (0 : Int) ≤ (q : Int) := by omega
            have e5 : wr.cell? ⟨w.heap.size, q, none⟩ = some (.string (S (flagN q))) := by
              have hh := HA.out
              have hf := fl_at hq
              simp only [World.cell?, hh]
              rw [List.getElem?_toArray, List.getElem?_eq_getElem (by simpa using hq), hf]
              rfl
            clear hqq
            have hsz := HBw.out.size
            have hown := HO.out
            clear hz
            go_wp2_with fail
            refine (picked_any z 5 _ HZ.out (by omega) (by omega)).mono ?_
            rintro e u ⟨rfl, hu⟩
            have hu' := hu.symm
            subst hu'
            rw [← HQQ.out]
            go_wp2_with (at_builtin; refine wpList_append_lies _ rfl _ _ 23 rfl wo.heap.size 9 i0 _ 1 16 Tryd.underlying23 hi hz0 hz1 hz2 rfl (by decide) (.slice a0 k c0) k (cellsX (pickF ms k)) rfl (World.ownsRow.alloc hown _) ⟨wr.heap.size, 0, none⟩ 1 1 [.string (S (flagN q))] rfl rfl (cell_one_fresh _ _ _) ?c2 (by omega) ?c3 ?c4 ?c5 _ rfl ?_)
            case c2 => intro u hu; simp at hu; subst hu; rfl
            case c3 => unfold maxLen; omega
            case c4 => omega
            case c5 => have := HBo2.out.size; simp; omega
            intro g cap w3 hown3 hgrow hat hlt3
            have HO3 := hid (show w3.ownsRow wo.heap.size 9 1 (.slice (some ⟨g, 0, none⟩) (k + 1) cap) (k + 1) (cellsX (pickF ms (k + 1))) by rw [HS2.out, cellsX_snoc]; exact hown3)
            have hge : ∀ j, (Value.slice a0 k c0).ownBlock = some j → wo.heap.size ≤ j := fun j hj => (World.ownsRow.lt hown j hj).1
            have HB3 := hid (show Below w.heap.size w w3 from (HBw.out.alloc hsz _).grown hgrow (by simp; omega) (fun j hj => by have := hge j hj; have := hso; omega))
            have HA3 := hid (show w3.heap[w.heap.size]? = some (.cells #[.string ⟨#[92, 83, 101, 101, 110]⟩, .string ⟨#[92, 65, 110, 115, 119, 101, 114, 101, 100]⟩, .string ⟨#[92, 70, 108, 97, 103, 103, 101, 100]⟩, .string ⟨#[92, 68, 101, 108, 101, 116, 101, 100]⟩, .string ⟨#[92, 68, 114, 97, 102, 116]⟩] 9) from (hgrow.block _ (by have := (Array.getElem?_eq_some_iff.1 HA.out).1; simp; omega) (fun e => by have := hge _ e.symm; have := hso; omega)).trans (by
              have hh := HA.out
              show (wr.heap.push _)[w.heap.size]? = _
              rw [Array.getElem?_push_lt (Array.getElem?_eq_some_iff.1 hh).1, ← Array.getElem?_eq_getElem (Array.getElem?_eq_some_iff.1 hh).1]; exact hh))
            have HBo3 := hid (show Below wo.heap.size wo w3 from (HBo2.out.alloc HBo2.out.size _).grown hgrow (by have := HBo2.out.size; simp; omega) (fun j hj => hge j hj))
            clear hgrow hown hown3 hat hge
            go_wp2
            go_roundw
            case rel =>
              have R := (⟨k + 1, some ⟨g, 0, none⟩, cap, by omega, by omega, by go_num, rfl, HO3, HB3, HA3, fun e => by omega, fun _ => ⟨g, rfl⟩, HBo3⟩ : ∃ (k' : Nat) (a0 : Option Addr) (c0 : Nat), k' ≤ ms.length ∧ k' ≤ 6 ∧ Value.int .i64 ((k : Int) + 1) = .int .i64 k' ∧ Value.slice (some ⟨g, 0, none⟩) (k + 1) cap = .slice a0 k' c0 ∧ Hid (w3.ownsRow wo.heap.size 9 1 (.slice a0 k' c0) k' (cellsX (pickF ms k'))) ∧ Hid (Below w.heap.size w w3) ∧ Hid (w3.heap[w.heap.size]? = some (.cells #[.string ⟨#[92, 83, 101, 101, 110]⟩, .string ⟨#[92, 65, 110, 115, 119, 101, 114, 101, 100]⟩, .string ⟨#[92, 70, 108, 97, 103, 103, 101, 100]⟩, .string ⟨#[92, 68, 101, 108, 101, 116, 101, 100]⟩, .string ⟨#[92, 68, 114, 97, 102, 116]⟩] 9)) ∧ Hid (k' = 0 → a0 = none ∧ c0 = 0) ∧ Hid (0 < k' → ∃ g, a0 = some ⟨g, 0, none⟩) ∧ Hid (Below wo.heap.size wo w3))
              first | exact R | ((repeat apply Exists.intro); exact ⟨R, rfl⟩) | (refine ⟨trivial, ?_⟩; (repeat apply Exists.intro); exact ⟨R, rfl⟩)
            case measure => simp [intOf]; omega
          · have hstop2 : ¬ k < ms.length ∨ (k < ms.length ∧ k = 6) := by omega
            rcases hstop2 with hst | ⟨hst, hst6⟩
            case' inl => have i1 : ¬ (k : Int) < (ms.length : Int) := by omega
            case' inr => have i1 : (k : Int) < (ms.length : Int) := by omega
            case' inr => have i2 : ¬ (k : Int) < 6 := by omega
            case' inr => clear hst6
            all_goals
              clear hst hlt
              have HX2 := hid (own_next' HX.out HBo2.out)
              have c1' := hid (show Calls Tryd.prog 5 #[.slice a1 k1 c1] wr fun e w' => e = .returned (.tuple #[.int .i64 (orF (pickF ns k1) : Nat), .int .i64 0]) ∧ Below wr.heap.size wr w' by
                have := flags_any (pickF ns k1) a1 c1 wr (HM.out.next HBw.out) (by rw [pickF_len hkx]; exact own_txts' HX2.out (pickF_len hkx).symm (fun _ _ => trivial) (by rw [pickF_len hkx]; unfold maxLen; omega))
                rw [pickF_len hkx, flagsP_all (pickF_ok _ _)] at this
                exact this)
              go_wp2_with fail
              clear i1
              (try clear i2)
              refine c1'.out.mono ?_
              rintro e w3 ⟨rfl, hb3⟩
              have HB3 := hid (HBw.out.trans (hb3.mono HBw.out.size))
              have HX3 := hid (own_next' HX2.out hb3)
              have HY3 := hid (own_next' HO.out hb3)
              have HA3 := hid (show w3.heap[w.heap.size]? = some (.cells #[.string ⟨#[92, 83, 101, 101, 110]⟩, .string ⟨#[92, 65, 110, 115, 119, 101, 114, 101, 100]⟩, .string ⟨#[92, 70, 108, 97, 103, 103, 101, 100]⟩, .string ⟨#[92, 68, 101, 108, 101, 116, 101, 100]⟩, .string ⟨#[92, 68, 114, 97, 102, 116]⟩] 9) from (hb3.block _ (Array.getElem?_eq_some_iff.1 HA.out).1).trans HA.out)
              clear hb3
              have c2' := hid (show Calls Tryd.prog 5 #[.slice a0 k c0] w3 fun e w' => e = .returned (.tuple #[.int .i64 (orF (pickF ms k) : Nat), .int .i64 0]) ∧ Below w3.heap.size w3 w' by
                have := flags_any (pickF ms k) a0 c0 w3 (HM.out.next HB3.out) (by rw [pickF_len hk]; exact own_txts' HY3.out (pickF_len hk).symm (fun _ _ => trivial) (by rw [pickF_len hk]; unfold maxLen; omega))
                rw [pickF_len hk, flagsP_all (pickF_ok _ _)] at this
                exact this)
              go_wp2_with fail
              refine c2'.out.mono ?_
              rintro e w4 ⟨rfl, hb4⟩
              have HB4 := hid (HB3.out.trans (hb4.mono HB3.out.size))
              have HX4 := hid (own_next' HX3.out hb4)
              have HY4 := hid (own_next' HY3.out hb4)
              have HA4 := hid (show w4.heap[w.heap.size]? = some (.cells #[.string ⟨#[92, 83, 101, 101, 110]⟩, .string ⟨#[92, 65, 110, 115, 119, 101, 114, 101, 100]⟩, .string ⟨#[92, 70, 108, 97, 103, 103, 101, 100]⟩, .string ⟨#[92, 68, 101, 108, 101, 116, 101, 100]⟩, .string ⟨#[92, 68, 114, 97, 102, 116]⟩] 9) from (hb4.block _ (Array.getElem?_eq_some_iff.1 HA3.out).1).trans HA3.out)
              have hs4 := HB4.out.size
              have hw4 : w.heap.size < w4.heap.size := (Array.getElem?_eq_some_iff.1 HA4.out).1
              clear hb4 c1' c2'
              obtain ⟨X, hX⟩ : ∃ X, X = pickF ns k1 := ⟨_, rfl⟩
              obtain ⟨Y, hY⟩ : ∃ Y, Y = pickF ms k := ⟨_, rfl⟩
              have HOX := hid (show ∀ s ∈ X, flagP s ≠ 0 by rw [hX]; exact pickF_ok _ _)
              have HOY := hid (show ∀ s ∈ Y, flagP s ≠ 0 by rw [hY]; exact pickF_ok _ _)
              have hlx : X.length = k1 := by rw [hX]; exact pickF_len hkx
              have hly : Y.length = k := by rw [hY]; exact pickF_len hk
              have HX4 := hid (show w4.ownsRow (w.heap.size + 1) 9 1 (.slice a1 k1 c1) k1 (cellsX X) by rw [hX]; exact HX4.out)
              have HY4 := hid (show w4.ownsRow wo.heap.size 9 1 (.slice a0 k c0) k (cellsX Y) by rw [hY]; exact HY4.out)
              rw [← hX, ← hY]
              have HLX := hid hlx
              have HLY := hid hly
              clear hX hY hlx hly
              by_cases h1 : k1 = 0
              · obtain ⟨rfl, rfl⟩ := HX0.out h1
                have HX00 := hid (show X = [] from List.length_eq_zero_iff.1 (by rw [HLX.out]; exact h1))
                by_cases h2 : k = 0
                · obtain ⟨rfl, rfl⟩ := HE0.out h2
                  have HY00 := hid (show Y = [] from List.length_eq_zero_iff.1 (by rw [HLY.out]; exact h2))
                  subst h1
                  subst h2
                  have HF := hid (show flagsP (X ++ Y) = some (orF X ||| orF Y) by rw [flagsP_all (fun s hs => by rcases List.mem_append.1 hs with e | e; exact HOX.out s e; exact HOY.out s e), orF_append])
                  have ox := orF_lt X HOX.out
                  have oy := orF_lt Y HOY.out
                  have HBIT := hid (bits_or ox oy)
                  have HZB := hid (show Below w.heap.size w w4 from HB4.out)
                  have HZA := hid (show (w4).heap[w.heap.size]? = some (.cells #[.string ⟨#[92, 83, 101, 101, 110]⟩, .string ⟨#[92, 65, 110, 115, 119, 101, 114, 101, 100]⟩, .string ⟨#[92, 70, 108, 97, 103, 103, 101, 100]⟩, .string ⟨#[92, 68, 101, 108, 101, 116, 101, 100]⟩, .string ⟨#[92, 68, 114, 97, 102, 116]⟩] 9) from HA4.out)
                  have c3' := hid (show Calls Tryd.prog 5 #[.slice none 0 0] w4 fun e w' => e = .returned (.tuple #[.int .i64 ((orF X ||| orF Y : Nat) : Int), .int .i64 0]) ∧ Below (w4).heap.size w4 w' by
                    have := flags_any (X ++ Y) none 0 w4 (HM.out.next HZB.out) (by rw [show (X ++ Y).length = 0 by rw [HX00.out, HY00.out]; rfl]; rw [HX00.out, HY00.out]; exact rowM_nil _ _ _ _ _ _)
                    rw [HF.out] at this
                    rw [show (X ++ Y).length = 0 by rw [HX00.out, HY00.out]; rfl] at this
                    exact this)
                  go_wp2_with fail
                  refine c3'.out.mono ?_
                  rintro e w7 ⟨rfl, hb7⟩
                  have HB7 := hid (HZB.out.trans (hb7.mono HZB.out.size))
                  have HA7 := hid (show w7.heap[w.heap.size]? = some (.cells #[.string ⟨#[92, 83, 101, 101, 110]⟩, .string ⟨#[92, 65, 110, 115, 119, 101, 114, 101, 100]⟩, .string ⟨#[92, 70, 108, 97, 103, 103, 101, 100]⟩, .string ⟨#[92, 68, 101, 108, 101, 116, 101, 100]⟩, .string ⟨#[92, 68, 114, 97, 102, 116]⟩] 9) from (hb7.block _ (Array.getElem?_eq_some_iff.1 HZA.out).1).trans HZA.out)
                  clear hb7
                  have c4' := hid (show Calls Tryd.prog 5 #[.slice (some ⟨w.heap.size, 0, none⟩) 5 5] w7 fun e w' => e = .returned (.tuple #[.int .i64 31, .int .i64 0]) ∧ Below w7.heap.size w7 w' by
                    have := flags_any allF (some ⟨w.heap.size, 0, none⟩) 5 w7 (HM.out.next HB7.out) (all_row HA7.out)
                    rw [allF_is] at this
                    exact this)
                  go_wp2_with fail
                  refine c4'.out.mono ?_
                  rintro e w8 ⟨rfl, hb8⟩
                  have HB8 := hid (HB7.out.trans (hb8.mono HB7.out.size))
                  clear hb8 c3' c4'
                  generalize orF X = nx at *
                  generalize orF Y = ny at *
                  have hbit := HBIT.out
                  go_wp2
                  go_ret
                  exact ⟨rfl, HB8.out⟩
                · obtain ⟨g2, rfl⟩ := HE1.out (by omega)
                  subst h1
                  go_wp2_with (at_builtin; (refine wpList_append_lies _ rfl _ _ 23 rfl w4.heap.size 9 i0 _ 1 16 Tryd.underlying23 hi hz0 hz1 hz2 rfl (by decide) (.slice none 0 0) 0 [] rfl (World.ownsRow_nil _ _ _ _) ⟨g2, 0, none⟩ k c0 (cellsX Y) rfl (by simp [cellsX_len, HLY.out]) (row_news HY4.out) (cellsX_one _) (by omega) ?c3 ?c4 ?c5 _ rfl ?_))
                  case c3 => unfold maxLen; omega
                  case c4 => omega
                  case c5 => first | omega | exact Nat.le_refl _
                  intro g3 cap3 w5 hown5 hgrow5 hat5 hlt5
                  have HB5 := hid (show Below w.heap.size w w5 from HB4.out.grown hgrow5 hs4 (fun j hj => by cases hj))
                  have HA5 := hid (show w5.heap[w.heap.size]? = some (.cells #[.string ⟨#[92, 83, 101, 101, 110]⟩, .string ⟨#[92, 65, 110, 115, 119, 101, 114, 101, 100]⟩, .string ⟨#[92, 70, 108, 97, 103, 103, 101, 100]⟩, .string ⟨#[92, 68, 101, 108, 101, 116, 101, 100]⟩, .string ⟨#[92, 68, 114, 97, 102, 116]⟩] 9) from (hgrow5.block _ hw4 (by simp [Value.ownBlock])).trans HA4.out)
                  have hs5 := hgrow5.size
                  have HO5 := hid hown5
                  clear hgrow5 hat5 hown5
                  have HF := hid (show flagsP (X ++ Y) = some (orF X ||| orF Y) by rw [flagsP_all (fun s hs => by rcases List.mem_append.1 hs with e | e; exact HOX.out s e; exact HOY.out s e), orF_append])
                  have ox := orF_lt X HOX.out
                  have oy := orF_lt Y HOY.out
                  have HBIT := hid (bits_or ox oy)
                  have HZB := hid (show Below w.heap.size w w5 from HB5.out)
                  have HZA := hid (show (w5).heap[w.heap.size]? = some (.cells #[.string ⟨#[92, 83, 101, 101, 110]⟩, .string ⟨#[92, 65, 110, 115, 119, 101, 114, 101, 100]⟩, .string ⟨#[92, 70, 108, 97, 103, 103, 101, 100]⟩, .string ⟨#[92, 68, 101, 108, 101, 116, 101, 100]⟩, .string ⟨#[92, 68, 114, 97, 102, 116]⟩] 9) from HA5.out)
                  have c3' := hid (show Calls Tryd.prog 5 #[.slice (some ⟨g3, 0, none⟩) k cap3] w5 fun e w' => e = .returned (.tuple #[.int .i64 ((orF X ||| orF Y : Nat) : Int), .int .i64 0]) ∧ Below (w5).heap.size w5 w' by
                    have := flags_any (X ++ Y) (some ⟨g3, 0, none⟩) cap3 w5 (HM.out.next HZB.out) (by rw [show (X ++ Y).length = k by rw [HX00.out, List.nil_append, HLY.out]]; exact own_txts' (by rw [HX00.out, List.nil_append]; exact HO5.out) (by rw [HX00.out, List.nil_append, HLY.out]) (fun _ _ => trivial) (by rw [HX00.out, List.nil_append, HLY.out]; unfold maxLen; omega))
                    rw [HF.out] at this
                    rw [show (X ++ Y).length = k by rw [HX00.out, List.nil_append, HLY.out]] at this
                    exact this)
                  go_wp2_with fail
                  refine c3'.out.mono ?_
                  rintro e w7 ⟨rfl, hb7⟩
                  have HB7 := hid (HZB.out.trans (hb7.mono HZB.out.size))
                  have HA7 := hid (show w7.heap[w.heap.size]? = some (.cells #[.string ⟨#[92, 83, 101, 101, 110]⟩, .string ⟨#[92, 65, 110, 115, 119, 101, 114, 101, 100]⟩, .string ⟨#[92, 70, 108, 97, 103, 103, 101, 100]⟩, .string ⟨#[92, 68, 101, 108, 101, 116, 101, 100]⟩, .string ⟨#[92, 68, 114, 97, 102, 116]⟩] 9) from (hb7.block _ (Array.getElem?_eq_some_iff.1 HZA.out).1).trans HZA.out)
                  clear hb7
                  have c4' := hid (show Calls Tryd.prog 5 #[.slice (some ⟨w.heap.size, 0, none⟩) 5 5] w7 fun e w' => e = .returned (.tuple #[.int .i64 31, .int .i64 0]) ∧ Below w7.heap.size w7 w' by
                    have := flags_any allF (some ⟨w.heap.size, 0, none⟩) 5 w7 (HM.out.next HB7.out) (all_row HA7.out)
                    rw [allF_is] at this
                    exact this)
                  go_wp2_with fail
                  refine c4'.out.mono ?_
                  rintro e w8 ⟨rfl, hb8⟩
                  have HB8 := hid (HB7.out.trans (hb8.mono HB7.out.size))
                  clear hb8 c3' c4'
                  generalize orF X = nx at *
                  generalize orF Y = ny at *
                  have hbit := HBIT.out
                  go_wp2
                  go_ret
                  exact ⟨rfl, HB8.out⟩
              · obtain ⟨g1, rfl⟩ := HX1.out (by omega)
                by_cases h2 : k = 0
                · obtain ⟨rfl, rfl⟩ := HE0.out h2
                  have HY00 := hid (show Y = [] from List.length_eq_zero_iff.1 (by rw [HLY.out]; exact h2))
                  subst h2
                  go_wp2_with (at_builtin; (refine wpList_append_lies _ rfl _ _ 23 rfl w4.heap.size 9 i0 _ 1 16 Tryd.underlying23 hi hz0 hz1 hz2 rfl (by decide) (.slice none 0 0) 0 [] rfl (World.ownsRow_nil _ _ _ _) ⟨g1, 0, none⟩ k1 c1 (cellsX X) rfl (by simp [cellsX_len, HLX.out]) (row_news HX4.out) (cellsX_one _) (by omega) ?c3 ?c4 ?c5 _ rfl ?_))
                  case c3 => unfold maxLen; omega
                  case c4 => omega
                  case c5 => first | omega | exact Nat.le_refl _
                  intro g3 cap3 w5 hown5 hgrow5 hat5 hlt5
                  have HB5 := hid (show Below w.heap.size w w5 from HB4.out.grown hgrow5 hs4 (fun j hj => by cases hj))
                  have HA5 := hid (show w5.heap[w.heap.size]? = some (.cells #[.string ⟨#[92, 83, 101, 101, 110]⟩, .string ⟨#[92, 65, 110, 115, 119, 101, 114, 101, 100]⟩, .string ⟨#[92, 70, 108, 97, 103, 103, 101, 100]⟩, .string ⟨#[92, 68, 101, 108, 101, 116, 101, 100]⟩, .string ⟨#[92, 68, 114, 97, 102, 116]⟩] 9) from (hgrow5.block _ hw4 (by simp [Value.ownBlock])).trans HA4.out)
                  have hs5 := hgrow5.size
                  have hcp5 : k1 ≤ cap3 := own_cap' hown5
                  have HO5 := hid hown5
                  clear hgrow5 hat5 hown5
                  have HF := hid (show flagsP (X ++ Y) = some (orF X ||| orF Y) by rw [flagsP_all (fun s hs => by rcases List.mem_append.1 hs with e | e; exact HOX.out s e; exact HOY.out s e), orF_append])
                  have ox := orF_lt X HOX.out
                  have oy := orF_lt Y HOY.out
                  have HBIT := hid (bits_or ox oy)
                  have HZB := hid (show Below w.heap.size w w5 from HB5.out)
                  have HZA := hid (show (w5).heap[w.heap.size]? = some (.cells #[.string ⟨#[92, 83, 101, 101, 110]⟩, .string ⟨#[92, 65, 110, 115, 119, 101, 114, 101, 100]⟩, .string ⟨#[92, 70, 108, 97, 103, 103, 101, 100]⟩, .string ⟨#[92, 68, 101, 108, 101, 116, 101, 100]⟩, .string ⟨#[92, 68, 114, 97, 102, 116]⟩] 9) from HA5.out)
                  have c3' := hid (show Calls Tryd.prog 5 #[.slice (some ⟨g3, 0, none⟩) k1 cap3] w5 fun e w' => e = .returned (.tuple #[.int .i64 ((orF X ||| orF Y : Nat) : Int), .int .i64 0]) ∧ Below (w5).heap.size w5 w' by
                    have := flags_any (X ++ Y) (some ⟨g3, 0, none⟩) cap3 w5 (HM.out.next HZB.out) (by rw [show (X ++ Y).length = k1 by rw [HY00.out, List.append_nil, HLX.out]]; exact own_txts' (by rw [HY00.out, List.append_nil]; exact HO5.out) (by rw [HY00.out, List.append_nil, HLX.out]) (fun _ _ => trivial) (by rw [HY00.out, List.append_nil, HLX.out]; unfold maxLen; omega))
                    rw [HF.out] at this
                    rw [show (X ++ Y).length = k1 by rw [HY00.out, List.append_nil, HLX.out]] at this
                    exact this)
                  go_wp2_with fail
                  refine c3'.out.mono ?_
                  rintro e w7 ⟨rfl, hb7⟩
                  have HB7 := hid (HZB.out.trans (hb7.mono HZB.out.size))
                  have HA7 := hid (show w7.heap[w.heap.size]? = some (.cells #[.string ⟨#[92, 83, 101, 101, 110]⟩, .string ⟨#[92, 65, 110, 115, 119, 101, 114, 101, 100]⟩, .string ⟨#[92, 70, 108, 97, 103, 103, 101, 100]⟩, .string ⟨#[92, 68, 101, 108, 101, 116, 101, 100]⟩, .string ⟨#[92, 68, 114, 97, 102, 116]⟩] 9) from (hb7.block _ (Array.getElem?_eq_some_iff.1 HZA.out).1).trans HZA.out)
                  clear hb7
                  have c4' := hid (show Calls Tryd.prog 5 #[.slice (some ⟨w.heap.size, 0, none⟩) 5 5] w7 fun e w' => e = .returned (.tuple #[.int .i64 31, .int .i64 0]) ∧ Below w7.heap.size w7 w' by
                    have := flags_any allF (some ⟨w.heap.size, 0, none⟩) 5 w7 (HM.out.next HB7.out) (all_row HA7.out)
                    rw [allF_is] at this
                    exact this)
                  go_wp2_with fail
                  refine c4'.out.mono ?_
                  rintro e w8 ⟨rfl, hb8⟩
                  have HB8 := hid (HB7.out.trans (hb8.mono HB7.out.size))
                  clear hb8 c3' c4'
                  generalize orF X = nx at *
                  generalize orF Y = ny at *
                  have hbit := HBIT.out
                  go_wp2
                  go_ret
                  exact ⟨rfl, HB8.out⟩
                · obtain ⟨g2, rfl⟩ := HE1.out (by omega)
                  go_wp2_with (at_builtin; (refine wpList_append_lies _ rfl _ _ 23 rfl w4.heap.size 9 i0 _ 1 16 Tryd.underlying23 hi hz0 hz1 hz2 rfl (by decide) (.slice none 0 0) 0 [] rfl (World.ownsRow_nil _ _ _ _) ⟨g1, 0, none⟩ k1 c1 (cellsX X) rfl (by simp [cellsX_len, HLX.out]) (row_news HX4.out) (cellsX_one _) (by omega) ?c3 ?c4 ?c5 _ rfl ?_))
                  case c3 => unfold maxLen; omega
                  case c4 => omega
                  case c5 => first | omega | exact Nat.le_refl _
                  intro g3 cap3 w5 hown5 hgrow5 hat5 hlt5
                  have HB5 := hid (show Below w.heap.size w w5 from HB4.out.grown hgrow5 hs4 (fun j hj => by cases hj))
                  have HY5 := hid (show w5.ownsRow wo.heap.size 9 1 (.slice (some ⟨g2, 0, none⟩) k c0) k (cellsX Y) from HY4.out.kept hgrow5 (Or.inr (by simp [Value.ownBlock])))
                  have HA5 := hid (show w5.heap[w.heap.size]? = some (.cells #[.string ⟨#[92, 83, 101, 101, 110]⟩, .string ⟨#[92, 65, 110, 115, 119, 101, 114, 101, 100]⟩, .string ⟨#[92, 70, 108, 97, 103, 103, 101, 100]⟩, .string ⟨#[92, 68, 101, 108, 101, 116, 101, 100]⟩, .string ⟨#[92, 68, 114, 97, 102, 116]⟩] 9) from (hgrow5.block _ hw4 (by simp [Value.ownBlock])).trans HA4.out)
                  have hs5 := hgrow5.size
                  have HO5 := hid hown5
                  clear hgrow5 hat5 hown5
                  go_wp2_with (at_builtin; (refine wpList_append_lies _ rfl _ _ 23 rfl w4.heap.size 9 i0 _ 1 16 Tryd.underlying23 hi hz0 hz1 hz2 rfl (by decide) (.slice (some ⟨g3, 0, none⟩) k1 cap3) k1 (cellsX X) rfl HO5.out ⟨g2, 0, none⟩ k c0 (cellsX Y) rfl (by simp [cellsX_len, HLY.out]) (row_news HY5.out) (cellsX_one _) (by omega) ?c3 ?c4 ?c5 _ rfl ?_))
                  case c3 => unfold maxLen; omega
                  case c4 => omega
                  case c5 => first | omega | exact Nat.le_refl _
                  intro g4 cap4 w6 hown6 hgrow6 hat6 hlt6
                  have hge6 : w4.heap.size ≤ g3 := (World.ownsRow.lt HO5.out g3 rfl).1
                  have HB6 := hid (show Below w.heap.size w w6 from HB5.out.grown hgrow6 HB5.out.size (fun j hj => by simp [Value.ownBlock] at hj; omega))
                  have HA6 := hid (show w6.heap[w.heap.size]? = some (.cells #[.string ⟨#[92, 83, 101, 101, 110]⟩, .string ⟨#[92, 65, 110, 115, 119, 101, 114, 101, 100]⟩, .string ⟨#[92, 70, 108, 97, 103, 103, 101, 100]⟩, .string ⟨#[92, 68, 101, 108, 101, 116, 101, 100]⟩, .string ⟨#[92, 68, 114, 97, 102, 116]⟩] 9) from (hgrow6.block _ (by omega) (fun e => by simp [Value.ownBlock] at e; omega)).trans HA5.out)
                  have HO6 := hid hown6
                  clear hgrow6 hat6 hown6
                  have HF := hid (show flagsP (X ++ Y) = some (orF X ||| orF Y) by rw [flagsP_all (fun s hs => by rcases List.mem_append.1 hs with e | e; exact HOX.out s e; exact HOY.out s e), orF_append])
                  have ox := orF_lt X HOX.out
                  have oy := orF_lt Y HOY.out
                  have HBIT := hid (bits_or ox oy)
                  have HZB := hid (show Below w.heap.size w w6 from HB6.out)
                  have HZA := hid (show (w6).heap[w.heap.size]? = some (.cells #[.string ⟨#[92, 83, 101, 101, 110]⟩, .string ⟨#[92, 65, 110, 115, 119, 101, 114, 101, 100]⟩, .string ⟨#[92, 70, 108, 97, 103, 103, 101, 100]⟩, .string ⟨#[92, 68, 101, 108, 101, 116, 101, 100]⟩, .string ⟨#[92, 68, 114, 97, 102, 116]⟩] 9) from HA6.out)
                  have c3' := hid (show Calls Tryd.prog 5 #[.slice (some ⟨g4, 0, none⟩) (k1 + k) cap4] w6 fun e w' => e = .returned (.tuple #[.int .i64 ((orF X ||| orF Y : Nat) : Int), .int .i64 0]) ∧ Below (w6).heap.size w6 w' by
                    have := flags_any (X ++ Y) (some ⟨g4, 0, none⟩) cap4 w6 (HM.out.next HZB.out) (by rw [show (X ++ Y).length = k1 + k by rw [List.length_append, HLX.out, HLY.out]]; exact own_txts' (by rw [cellsX_append]; exact HO6.out) (by rw [List.length_append, HLX.out, HLY.out]) (fun _ _ => trivial) (by rw [List.length_append, HLX.out, HLY.out]; unfold maxLen; omega))
                    rw [HF.out] at this
                    rw [show (X ++ Y).length = k1 + k by rw [List.length_append, HLX.out, HLY.out]] at this
                    exact this)
                  go_wp2_with fail
                  refine c3'.out.mono ?_
                  rintro e w7 ⟨rfl, hb7⟩
                  have HB7 := hid (HZB.out.trans (hb7.mono HZB.out.size))
                  have HA7 := hid (show w7.heap[w.heap.size]? = some (.cells #[.string ⟨#[92, 83, 101, 101, 110]⟩, .string ⟨#[92, 65, 110, 115, 119, 101, 114, 101, 100]⟩, .string ⟨#[92, 70, 108, 97, 103, 103, 101, 100]⟩, .string ⟨#[92, 68, 101, 108, 101, 116, 101, 100]⟩, .string ⟨#[92, 68, 114, 97, 102, 116]⟩] 9) from (hb7.block _ (Array.getElem?_eq_some_iff.1 HZA.out).1).trans HZA.out)
                  clear hb7
                  have c4' := hid (show Calls Tryd.prog 5 #[.slice (some ⟨w.heap.size, 0, none⟩) 5 5] w7 fun e w' => e = .returned (.tuple #[.int .i64 31, .int .i64 0]) ∧ Below w7.heap.size w7 w' by
                    have := flags_any allF (some ⟨w.heap.size, 0, none⟩) 5 w7 (HM.out.next HB7.out) (all_row HA7.out)
                    rw [allF_is] at this
                    exact this)
                  go_wp2_with fail
                  refine c4'.out.mono ?_
                  rintro e w8 ⟨rfl, hb8⟩
                  have HB8 := hid (HB7.out.trans (hb8.mono HB7.out.size))
                  clear hb8 c3' c4'
                  generalize orF X = nx at *
                  generalize orF Y = ny at *
                  have hbit := HBIT.out
                  go_wp2
                  go_ret
                  exact ⟨rfl, HB8.out⟩
end Go.Proofs.YtbdpfoidhffalacDoor
