/-
  How a course ends: plain meanings, memory, and what judge.End and the reference's Ended do: the walks.
-/
import Derived.Test.YthmjkhjpekncmaaRows
import Derived.Test.YthmjkhjpekncmaaTxt
import Derived.Test.YthmjkhjpekncmaaScrMem
import Derived.WalkKit
import Derived.Laws.AppendOwn
import Derived.Deep.AppendLies
import Derived.Deep.QuietTactic
import Derived.BigQuiet
import Derived.Lib.SliceRun
import Derived.OwnWalk
import Derived.Deep.RegionHeld3
import Derived.Deep.RegionLaw
import Derived.Deep.DeepCutAuto
namespace Go.Proofs.Ythmjkhjpekncmaa
open Go.RowKit Go.Proofs

structure Atn where
  kind : Int
  text : List UInt8
  flags : Int
structure Crs where
  acts : List Atn
  flags : Int
  asked : Bool
  fault : Int
/-- P7.5. -/
def mayC (c : Crs) : Bool := decide (c.acts.length ≤ 6) && (decide (0 ≤ c.flags) && decide (c.flags ≤ 31))
def endC (c : Crs) : List Atn := if c.fault ≠ 0 then [⟨3, [], 0⟩] else if c.asked then c.acts else [⟨3, [], c.flags⟩]

/- Memory. -/
def atnC (a : Atn) : List Value := [.int .i64 a.kind, .string (S a.text), .int .i64 a.flags]
def AtnM (a : Atn) (cs : List Value) : Prop := cs = atnC a
abbrev AtnsM (Q : Nat → Prop) (w : World) (v : Value) (l : List Atn) : Prop := RowM Q 3 AtnM w v l
theorem AtnsM.next {Q : Nat → Prop} {w w' : World} {v : Value} {l : List Atn} (h : AtnsM Q w v l) (hb : Below w.heap.size w w') : AtnsM Q w' v l := RowM.imp h (fun _ h => h) (Keeps.of_below hb) fun _ _ h => h
theorem atn_at {Q : Nat → Prop} {w : World} {a : Option Addr} {n c : Nat} {l : List Atn} (h : AtnsM Q w (.slice a n c) l) {i : Nat} {x : Atn} (hx : l[i]? = some x) : ∃ b o, a = some ⟨b, o, none⟩ ∧ w.cell? ⟨b, o + i * 3, none⟩ = some (.int .i64 x.kind) ∧ w.cell? ⟨b, o + i * 3 + 1, none⟩ = some (.string (S x.text)) ∧ w.cell? ⟨b, o + i * 3 + 2, none⟩ = some (.int .i64 x.flags) := by
  obtain ⟨a', c', hv, _, hr⟩ := h
  simp only [Value.slice.injEq] at hv
  obtain ⟨rfl, _, rfl⟩ := hv
  obtain ⟨b, o, cs, rfl, _, _, _, hc, hP⟩ := hr i x hx
  have hcs : cs = _ := hP
  subst hcs
  exact ⟨b, o, rfl, by simpa using hc 0 _ rfl, hc 1 _ rfl, hc 2 _ rfl⟩
theorem box3 {w : World} {p : Nat} {v0 v1 v2 : Value} {t : TypeId} (h : w.heap[p]? = some (.cells #[v0, v1, v2] t)) : w.cell? ⟨p, 0, none⟩ = some v0 ∧ w.cell? ⟨p, 1, none⟩ = some v1 ∧ w.cell? ⟨p, 2, none⟩ = some v2 := by
  refine ⟨?_, ?_, ?_⟩ <;> simp [World.cell?, h]
theorem box4 {w : World} {p : Nat} {v0 v1 v2 v3 : Value} {t : TypeId} (h : w.heap[p]? = some (.cells #[v0, v1, v2, v3] t)) : w.cell? ⟨p, 0, none⟩ = some v0 ∧ w.cell? ⟨p, 1, none⟩ = some v1 ∧ w.cell? ⟨p, 2, none⟩ = some v2 ∧ w.cell? ⟨p, 3, none⟩ = some v3 := by
  refine ⟨?_, ?_, ?_, ?_⟩ <;> simp [World.cell?, h]
theorem flatten_nth {k : Nat} : ∀ {css : List (List Value)} {i j : Nat} {cs : List Value}, (∀ c ∈ css, c.length = k) → css[i]? = some cs → j < k → css.flatten[i * k + j]? = cs[j]? := by
  intro css
  induction css with
  | nil => intro i j cs _ h _; simp at h
  | cons c css ih =>
    intro i j cs hk h hj
    have hc : c.length = k := hk c (by simp)
    cases i with
    | zero =>
      simp at h
      subst h
      simp only [Nat.zero_mul, Nat.zero_add, List.flatten_cons]
      rw [List.getElem?_append_left (by omega)]
    | succ i =>
      have := ih (j := j) (fun c hc => hk c (by simp [hc])) (by simpa using h) hj
      simp only [List.flatten_cons]
      rw [List.getElem?_append_right (by rw [hc, Nat.add_mul]; omega), ← this]
      congr 1
      rw [hc, Nat.add_mul]
      omega
theorem owns_keep {w w' : World} {B n k : Nat} {e : TypeId} {v : Value} {xs : List Value} (h : w.ownsRow B e k v n xs) (hk : ∀ g, v.ownBlock = some g → w'.heap[g]? = w.heap[g]?) : w'.ownsRow B e k v n xs := by
  refine ⟨h.1, ?_⟩
  rcases h.2 with hn | ⟨g, cap, cur, rfl, hb, hgg, rest⟩
  · exact .inl hn
  · exact .inr ⟨g, cap, cur, rfl, hb, (hk g rfl).trans hgg, rest⟩
theorem map_flat_len {A : Type} {k : Nat} (f : A → List Value) (hf : ∀ x, (f x).length = k) (l : List A) : ∀ cs ∈ l.map f, cs.length = k := by
  intro cs h; obtain ⟨x, _, rfl⟩ := List.mem_map.1 h; exact hf x

theorem flat_get {k : Nat} : ∀ {css : List (List Value)} {j : Nat} {u : Value}, (∀ c ∈ css, c.length = k) → css.flatten[j]? = some u → ∃ i r cs, j = i * k + r ∧ r < k ∧ css[i]? = some cs ∧ cs[r]? = some u := by
  intro css
  induction css with
  | nil => intro j u _ h; simp at h
  | cons c css ih =>
    intro j u hk h
    have hc : c.length = k := hk c (by simp)
    simp only [List.flatten_cons] at h
    rcases Nat.lt_or_ge j k with hj | hj
    · rw [List.getElem?_append_left (by omega)] at h
      exact ⟨0, j, c, by omega, hj, rfl, h⟩
    · rw [List.getElem?_append_right (by omega), hc] at h
      obtain ⟨i, r, cs, e, hr, h1, h2⟩ := ih (fun c hc => hk c (by simp [hc])) h
      exact ⟨i + 1, r, cs, by rw [Nat.add_mul]; omega, hr, by simpa using h1, h2⟩
theorem flat_len {k : Nat} : ∀ {css : List (List Value)}, (∀ c ∈ css, c.length = k) → css.flatten.length = css.length * k := by
  intro css
  induction css with
  | nil => intro _; simp
  | cons c css ih =>
    intro h
    rw [List.flatten_cons, List.length_append, ih fun c hc => h c (by simp [hc]), h c (by simp), List.length_cons, Nat.add_mul]
    omega
theorem tri_new (w : World) (a b c : Value) (t : TypeId) : ∀ j u, [a, b, c][j]? = some u → (w.alloc (.cells #[a, b, c] t)).cell? ((⟨w.heap.size, 0, none⟩ : Addr).add j) = some u := by
  intro j u hj
  rw [Addr.add_lit]
  have := heap_alloc_new w (.cells #[a, b, c] t)
  simp only [World.cell?, this, Nat.zero_add]
  simpa using hj
theorem own_app {A : Type} (f : A → List Value) (l : List A) (x : A) : ((l ++ [x]).map f).flatten = (l.map f).flatten ++ f x := by simp
theorem own_row {A : Type} {B n k : Nat} {e : TypeId} {w : World} {v : Value} {l : List A} {css : List (List Value)} {P : A → List Value → Prop} {Q : Nat → Prop} (h : w.ownsRow B e k v n css.flatten) (hn : n = l.length) (hm : n ≤ maxLen) (hl : css.length = l.length) (he : ∀ cs ∈ css, cs.length = k)
    (hP : ∀ (i : Nat) x cs, l[i]? = some x → css[i]? = some cs → P x cs) (hQ : ∀ g, v.ownBlock = some g → Q g) : RowM Q k P w v l := by
  subst hn
  rcases h.2 with ⟨rfl, h0⟩ | ⟨g, cap, cur, rfl, hb, hg, h1, h2, h3, ht⟩
  · have : l = [] := List.length_eq_zero_iff.1 h0
    subst this
    exact rowM_nil _ _ _ _ _ _
  · refine ⟨some ⟨g, 0, none⟩, cap, rfl, hm, fun i x hx => ?_⟩
    have hi : i < l.length := (List.getElem?_eq_some_iff.1 hx).1
    have hc : css[i]? = some css[i] := List.getElem?_eq_getElem (by omega)
    refine ⟨g, 0, css[i], rfl, (Array.getElem?_eq_some_iff.1 hg).1, hQ g rfl, he _ (List.mem_of_getElem? hc), ?_, hP i x _ hx hc⟩
    intro j u hj
    have hjk : j < k := by rw [← he _ (List.mem_of_getElem? hc)]; exact (List.getElem?_eq_some_iff.1 hj).1
    have := World.ownsRow.cells h (g := g) rfl (i * k + j) u (by rw [flatten_nth he hc hjk]; exact hj)
    rw [Addr.add_lit] at this
    simpa [Nat.add_assoc] using this
theorem atn_one (l : List Atn) : ∀ u ∈ (l.map atnC).flatten, u.oneCell' = true := by
  intro u hu
  obtain ⟨cs, hcs, hu⟩ := List.mem_flatten.1 hu
  obtain ⟨m, _, rfl⟩ := List.mem_map.1 hcs
  simp only [atnC, List.mem_cons, List.not_mem_nil, or_false] at hu
  rcases hu with rfl | rfl | rfl <;> rfl
theorem atn_len (l : List Atn) : (l.map atnC).flatten.length = l.length * 3 := by rw [flat_len (map_flat_len (k := 3) atnC (fun _ => rfl) l), List.length_map]
theorem atn_cells {Q : Nat → Prop} {w : World} {ad : Addr} {n c : Nat} {l : List Atn} (h : AtnsM Q w (.slice (some ad) n c) l) : ∀ j u, (l.map atnC).flatten[j]? = some u → w.cell? (ad.add j) = some u := by
  intro j u hj
  obtain ⟨i, r, cs, rfl, hr, h1, h2⟩ := flat_get (map_flat_len (k := 3) atnC (fun _ => rfl) l) hj
  rw [List.getElem?_map] at h1
  obtain ⟨x, hx, rfl⟩ := Option.map_eq_some_iff.1 h1
  obtain ⟨b, o, e, c0, c1, c2⟩ := atn_at h hx
  cases e
  rw [Addr.add_lit]
  match r, hr, h2 with
  | 0, _, h2 => cases h2; simpa using c0
  | 1, _, h2 => cases h2; simpa [Nat.add_assoc] using c1
  | 2, _, h2 => cases h2; simpa [Nat.add_assoc] using c2
theorem own_atns {B n : Nat} {w : World} {v : Value} {l : List Atn} (h : w.ownsRow B 32 3 v n (l.map atnC).flatten) (hn : n = l.length) (hm : n ≤ maxLen) : AtnsM anyB w v l :=
  own_row h hn hm (by simp) (map_flat_len atnC (fun _ => rfl) _) (fun i x cs hx hc => by
    rw [List.getElem?_map, hx] at hc
    exact (Option.some.inj hc).symm) (fun _ _ => trivial)
theorem infoAtn : (Try.prog.info? 32).map (fun i => (i.zero, i.size, i.bytes)) = some (some (.agg #[.int .i64 0, .string ByteArray.empty, .int .i64 0]), 3, 32) := by kernel_rfl
theorem one_atn (w : World) (k f : Int) (t : List UInt8) : AtnsM anyB (w.alloc (.cells #[.int .i64 k, .string (S t), .int .i64 f] 32)) (.slice (some ⟨w.heap.size, 0, none⟩) 1 1) [⟨k, t, f⟩] := by
  refine ⟨_, _, rfl, by unfold maxLen; simp, fun i x hx => ?_⟩
  have h0 : i = 0 := by
    rcases Nat.eq_zero_or_pos i with h | h
    · exact h
    · rw [List.getElem?_eq_none (by simp; omega)] at hx; cases hx
  subst h0
  cases hx
  refine ⟨w.heap.size, 0, atnC ⟨k, t, f⟩, rfl, by simp, trivial, rfl, fun j u hj => ?_, rfl⟩
  have := tri_new w (.int .i64 k) (.string (S t)) (.int .i64 f) 32 j u hj
  rw [Addr.add_lit] at this
  simpa using this
theorem S_nil : S [] = ByteArray.empty := rfl

set_option maxHeartbeats 4000000 in
set_option maxRecDepth 100000 in
theorem sameActs_any (a a' : Option Addr) (c c' : Nat) (l : List Atn) (w : World) (h1 : AtnsM anyB w (.slice a l.length c) l) (h2 : AtnsM anyB w (.slice a' l.length c') l) (hl : l.length ≤ 1000) :
    Calls Try.prog 7 #[.slice a l.length c, .slice a' l.length c'] w fun e w' => e = .returned (.bool true) ∧ Below w.heap.size w w' := by
  have H1 := hid h1
  have H2 := hid h2
  clear h1 h2
  go_enter Try.func7, Try.ntmps7
  go_wp2
  go_loopw [5] (fun i wr => ∃ (k n : Nat), k ≤ l.length ∧ i = .int .i64 k ∧ wr = w.drewN n) (fun i _ => l.length - (intOf i).toNat)
  case atStart => exact ⟨0, 0, Nat.zero_le _, rfl, rfl⟩
  case round =>
    obtain ⟨k, n, hk, rfl, rfl⟩ := hrel
    by_cases hlt : k < l.length
    · have i1 : (k : Int) < (l.length : Int) := by omega
      have i3 : (0 : Int) ≤ (k : Int) := by omega
      obtain ⟨t, ht⟩ : ∃ t, l[k]? = some t := ⟨_, List.getElem?_eq_getElem hlt⟩
      obtain ⟨b, o, rfl, d0, d1, d2⟩ := atn_at H1.out ht
      obtain ⟨b', o', rfl, e0, e1, e2⟩ := atn_at H2.out ht
      clear ht
      go_wp2
      go_quiet (fail)
      go_wp2
      go_roundw
      case rel => exact ⟨k + 1, n + nq, by omega, by go_num, by first | rfl | rw [World.drewN_drewN]⟩
      case measure => simp [intOf]; omega
    · have i1 : ¬ (k : Int) < (l.length : Int) := by omega
      go_wp2
      go_ret
      exact ⟨rfl, wdrew (Below.refl _ _) n⟩
set_option maxHeartbeats 1000000 in
set_option maxRecDepth 100000 in
theorem mayBe_any (c : Crs) (a : Option Addr) (k : Nat) (w : World) :
    Calls Try.prog 8 #[.agg #[.slice a c.acts.length k, .int .i64 c.flags, .bool c.asked, .int .i64 c.fault]] w fun e w' => e = .returned (.bool (decide (c.acts.length ≤ 6) && (decide (0 ≤ c.flags) && decide (c.flags ≤ 31)))) ∧ Below w.heap.size w w' := by
  have HB := hid (show Below w.heap.size w (w.alloc (.cells #[.slice a c.acts.length k, .int .i64 c.flags, .bool c.asked, .int .i64 c.fault] 25)) from (Below.refl _ _).alloc (Nat.le_refl _) _)
  by_cases h1 : c.acts.length ≤ 6
  · have h1' : (c.acts.length : Int) ≤ 6 := by omega
    by_cases h2 : 0 ≤ c.flags
    · by_cases h3 : c.flags ≤ 31
      all_goals
        have HE := hid (show (decide (c.acts.length ≤ 6) && (decide (0 ≤ c.flags) && decide (c.flags ≤ 31))) = decide (c.flags ≤ 31) by simp [h1, h2])
        rw [HE.out]
        go_enter Try.func8, Try.ntmps8
        go_wp2
        go_ret
        exact ⟨ret_bool (by simp [h3]), HB.out⟩
    · have HE := hid (show (decide (c.acts.length ≤ 6) && (decide (0 ≤ c.flags) && decide (c.flags ≤ 31))) = false by simp [h2])
      rw [HE.out]
      go_enter Try.func8, Try.ntmps8
      go_wp2
      go_ret
      exact ⟨ret_bool (by simp), HB.out⟩
  · have h1' : ¬ (c.acts.length : Int) ≤ 6 := by omega
    have HE := hid (show (decide (c.acts.length ≤ 6) && (decide (0 ≤ c.flags) && decide (c.flags ≤ 31))) = false by simp [h1])
    rw [HE.out]
    go_enter Try.func8, Try.ntmps8
    go_wp2
    go_ret
    exact ⟨ret_bool (by simp), HB.out⟩

/-- What hands back a row of actions. -/
def AcP (w : World) (l : List Atn) (e : Ending) (w' : World) : Prop := ∃ a c, e = .returned (.slice a l.length c) ∧ AtnsM anyB w' (.slice a l.length c) l ∧ Below w.heap.size w w'
set_option maxHeartbeats 1000000 in
set_option maxRecDepth 100000 in
theorem clone_any (l : List Atn) (a : Option Addr) (c : Nat) (w : World) (h : AtnsM anyB w (.slice a l.length c) l) (hl : l.length ≤ 6) :
    Calls Try.prog 9 #[.slice a l.length c] w (AcP w l) := by
  obtain ⟨i0, hi, hz0, hz1, hz2⟩ := info_parts infoAtn
  have q22 : ∀ (w : World) (a : Option Addr) (n c n' c' : Nat), (binOp .eql 22 (.slice a n c) (.slice none n' c')).run Try.prog w = .ok (.bool a.isNone) w := fun w a n c n' c' => Lib.run_eql_slice_nil w _ _ a n c n' c' Try.underlying22
  cases a with
  | none =>
    have hl0 : l = [] := by
      cases l with
      | nil => rfl
      | cons x r => obtain ⟨_, _, e, _⟩ := atn_at h (i := 0) (x := x) rfl; cases e
    subst hl0
    clear h
    go_enter Try.func9, Try.ntmps9
    go_wp2
    go_ret
    exact ⟨none, 0, rfl, rowM_nil _ _ _ _ _ _, Below.refl _ _⟩
  | some ad =>
    have HC := hid (atn_cells h)
    have H1 := hid (atn_one l)
    have HL := hid (atn_len l)
    clear h
    go_enter Try.func9, Try.ntmps9
    go_wp2_with (at_builtin; refine wpList_append_own _ rfl _ _ 22 rfl w.heap.size 32 i0 _ 3 32 Try.underlying22 hi hz0 hz1 hz2 rfl (by decide) _ _ _ rfl (World.ownsRow_made w #[] 0 (Nat.le_refl _) (Nat.zero_le _) rfl) ad l.length c ((l.map atnC).flatten) rfl ?qc1 ?qc2 ?qc3 ?qc4 ?qc5 ?qc6 ?_)
    case qc1 => exact HL.out
    case qc2 => exact fun j u hj => Lib.cell?_alloc_some _ (HC.out j u hj)
    case qc3 => exact H1.out
    case qc4 => unfold maxLen; omega
    case qc5 => omega
    case qc6 => simp
    intro v' w1 hown hgrow hnil
    have HO := hid (own_atns (n := l.length) (by simpa using hown) rfl (by unfold maxLen; omega))
    have HB := hid (show Below w.heap.size w w1 from ((Below.refl _ w).alloc (Nat.le_refl _) _).grown hgrow (by simp) (by intro k hk; simp [Value.ownBlock] at hk; omega))
    clear hown hgrow hnil
    go_wp2
    go_ret
    obtain ⟨a', c', rfl⟩ := RowM.slice HO.out
    exact ⟨a', c', rfl, HO.out, HB.out⟩
set_option maxHeartbeats 1000000 in
set_option maxRecDepth 100000 in
theorem copy_any (l : List Atn) (a : Option Addr) (c : Nat) (w : World) (h : AtnsM anyB w (.slice a l.length c) l) (hl : l.length ≤ 6) :
    Calls Try.prog 13 #[.slice a l.length c] w (AcP w l) := by
  obtain ⟨i0, hi, hz0, hz1, hz2⟩ := info_parts infoAtn
  have HL := hid h
  clear h
  go_enter Try.func13, Try.ntmps13
  go_wp2
  go_loopw [3, 4] (fun q v wr => ∃ (k : Nat) (a9 : Option Addr) (c9 : Nat), k ≤ l.length ∧ v = .int .i64 k ∧ q = .slice a9 k c9 ∧ Hid (wr.ownsRow w.heap.size 32 3 (.slice a9 k c9) k ((l.take k).map atnC).flatten) ∧ Hid (Below w.heap.size w wr)) (fun _ v _ => l.length - (intOf v).toNat)
  case atStart => exact ⟨0, none, 0, Nat.zero_le _, rfl, rfl, World.ownsRow_nil _ _ _ _, Below.refl _ _⟩
  case round =>
    obtain ⟨k, a9, c9, hk, rfl, rfl, HO, HB⟩ := hrel
    by_cases hlt : k < l.length
    · have k1 : (k : Int) < (l.length : Int) := by omega
      have k0 : (0 : Int) ≤ (k : Int) := by omega
      obtain ⟨x, hx⟩ : ∃ x, l[k]? = some x := ⟨_, List.getElem?_eq_getElem hlt⟩
      obtain ⟨b, o, rfl, e0, e1, e2⟩ := atn_at (HL.out.next HB.out) hx
      have HMS := hid (show l.take (k + 1) = l.take k ++ [x] by rw [List.take_succ_eq_append_getElem hlt, (List.getElem?_eq_some_iff.1 hx).2])
      have hz := HB.out.size
      clear hx
      go_wp2_with (first
        | (at_builtin; refine wpList_append_lies _ rfl _ _ 22 rfl w.heap.size 32 i0 _ 3 32 Try.underlying22 hi hz0 hz1 hz2 rfl (by omega) (.slice a9 k c9) k (((l.take k).map atnC).flatten) rfl (World.ownsRow.alloc HO.out _) ⟨wr.heap.size, 0, none⟩ 1 1 (atnC x) rfl rfl (tri_new wr _ _ _ _) ?c1 (by omega) ?c2 ?c3 ?c4 _ rfl ?_)
        | fail)
      case c1 => simp [atnC, Value.oneCell']
      case c2 => unfold maxLen; omega
      case c3 => omega
      case c4 => simp; omega
      intro gm cap w4 hown hgrow hat hlt4
      have HB4 := hid (show Below w.heap.size w w4 from (HB.out.alloc hz _).grown hgrow (by simp; omega) (fun j hj => (World.ownsRow.lt HO.out j hj).1))
      have HO4 := hid (show w4.ownsRow w.heap.size 32 3 (.slice (some ⟨gm, 0, none⟩) (k + 1) cap) (k + 1) ((l.take (k + 1)).map atnC).flatten by
        rw [HMS.out, own_app, List.map_take]; exact hown)
      clear hown hgrow hat
      go_wp2
      go_roundw
      case rel => first | exact ⟨k + 1, _, cap, by omega, by go_num, rfl, HO4, HB4⟩ | ((repeat apply Exists.intro); exact ⟨⟨k + 1, _, cap, by omega, by go_num, rfl, HO4, HB4⟩, rfl⟩)
      case measure => simp [intOf]; omega
    · have hE : k = l.length := by omega
      subst hE
      have HR := hid (own_atns (l := l) (by have := HO.out; rwa [List.take_length] at this) rfl (by unfold maxLen; omega))
      have i1 : ¬ (l.length : Int) < (l.length : Int) := by omega
      go_wp2
      go_ret
      exact ⟨_, _, rfl, HR.out, HB.out⟩

/- A course as a value, and in a box. -/
abbrev crsA (a : Option Addr) (k : Nat) (c : Crs) : Array Value := #[.slice a c.acts.length k, .int .i64 c.flags, .bool c.asked, .int .i64 c.fault]
set_option maxHeartbeats 1000000 in
theorem in_any (n lo hi : Int) (w : World) : Calls Try.prog 12 #[.int .i64 n, .int .i64 lo, .int .i64 hi] w fun e w' => e = .returned (.bool (decide (lo ≤ n) && decide (n ≤ hi))) ∧ w' = w := by
  by_cases h1 : lo ≤ n <;> by_cases h2 : n ≤ hi
  all_goals
    go_enter Try.func12, Try.ntmps12
    go_wp2
    go_ret
    exact ⟨ret_bool (by simp [h1, h2]), rfl⟩
set_option maxHeartbeats 1000000 in
set_option maxRecDepth 100000 in
theorem courseFault_any (c : Crs) (a : Option Addr) (k : Nat) (w : World) :
    Calls Try.prog 10 #[.agg #[.slice a c.acts.length k, .int .i64 c.flags, .bool c.asked, .int .i64 c.fault]] w fun e w' => e = .returned (.int .i64 (if mayC c = true then 0 else 11)) ∧ Below w.heap.size w w' := by
  have HB := hid (show Below w.heap.size w (w.alloc (.cells #[.slice a c.acts.length k, .int .i64 c.flags, .bool c.asked, .int .i64 c.fault] 25)) from (Below.refl _ _).alloc (Nat.le_refl _) _)
  by_cases h1 : 6 < (c.acts.length : Int)
  · have HE := hid (show mayC c = false by unfold mayC; rw [decide_eq_false (by omega)]; rfl)
    rw [HE.out]
    go_enter Try.func10, Try.ntmps10
    go_wp2
    go_ret
    exact ⟨rfl, HB.out⟩
  · obtain ⟨m, hm⟩ : ∃ m, m = (decide (0 ≤ c.flags) && decide (c.flags ≤ 31)) := ⟨_, rfl⟩
    have HE := hid (show mayC c = m by unfold mayC; rw [decide_eq_true (show c.acts.length ≤ 6 by omega), hm]; rfl)
    have HI : ∀ u, Hid (Calls Try.prog 12 #[.int .i64 c.flags, .int .i64 0, .int .i64 31] u fun e w' => e = .returned (.bool m) ∧ w' = u) := fun u => hid (by have := in_any c.flags 0 31 u; rwa [← hm] at this)
    rw [HE.out]
    clear hm
    cases m
    all_goals
      go_enter Try.func10, Try.ntmps10
      go_wp2_with fail
      refine (HI _).out.mono ?_
      rintro e w1 ⟨rfl, rfl⟩
      go_wp2
      go_ret
      exact ⟨rfl, HB.out⟩
set_option maxHeartbeats 1000000 in
set_option maxRecDepth 100000 in
theorem ended_any (c : Crs) (a : Option Addr) (k : Nat) (w : World) (h : AtnsM anyB w (.slice a c.acts.length k) c.acts) (hl : c.acts.length ≤ 6) :
    Calls Try.prog 11 #[.agg #[.slice a c.acts.length k, .int .i64 c.flags, .bool c.asked, .int .i64 c.fault]] w (AcP w (endC c)) := by
  obtain ⟨W0, hW0⟩ : ∃ W0, W0 = w.alloc (.cells #[.slice a c.acts.length k, .int .i64 c.flags, .bool c.asked, .int .i64 c.fault] 25) := ⟨_, rfl⟩
  have HWE := hid hW0
  have HB := hid (show Below w.heap.size w W0 by rw [hW0]; exact (Below.refl _ _).alloc (Nat.le_refl _) _)
  have HH := hid (show W0.heap[w.heap.size]? = some (.cells #[.slice a c.acts.length k, .int .i64 c.flags, .bool c.asked, .int .i64 c.fault] 25) by rw [hW0]; exact heap_alloc_new w _)
  have HC := hid (copy_any c.acts a k W0 (AtnsM.next h HB.out) hl)
  have H3 := fun (f : Int) => hid (one_atn W0 3 f [])
  clear h hW0
  by_cases hf : c.fault = 0
  · cases hk : c.asked with
    | true =>
      have HE := hid (show endC c = c.acts by unfold endC; rw [if_neg (by simp [hf]), if_pos hk])
      rw [hf, hk] at HWE HH
      rw [HE.out]
      go_enter Try.func11, Try.ntmps11
      go_upto_region 1 with fail
      rw [← HWE.out]
      obtain ⟨c0, c1, c2, c3⟩ := box4 HH.out
      go_wp2_with fail
      refine HC.out.mono ?_
      rintro e w1 ⟨a1, k1, rfl, hr, hb⟩
      have HR := hid hr
      have HB1 := hid (HB.out.trans (hb.mono HB.out.size))
      clear hr hb
      go_wp2
      go_ret
      exact ⟨a1, k1, rfl, HR.out, HB1.out⟩
    | false =>
      have HE := hid (show endC c = [⟨3, [], c.flags⟩] by unfold endC; rw [if_neg (by simp [hf]), if_neg (by simp [hk])])
      rw [hf, hk] at HWE HH
      rw [HE.out]
      go_enter Try.func11, Try.ntmps11
      go_upto_region 1 with fail
      rw [← HWE.out]
      obtain ⟨c0, c1, c2, c3⟩ := box4 HH.out
      go_wp2
      go_ret
      exact ⟨_, _, rfl, (H3 c.flags).out, HB.out.alloc HB.out.size _⟩
  · have HE := hid (show endC c = [⟨3, [], 0⟩] by unfold endC; rw [if_pos hf])
    rw [HE.out]
    go_enter Try.func11, Try.ntmps11
    go_upto_region 1 with fail
    rw [← HWE.out]
    obtain ⟨c0, c1, c2, c3⟩ := box4 HH.out
    go_wp2
    go_ret
    exact ⟨_, _, rfl, (H3 0).out, HB.out.alloc HB.out.size _⟩
/-- What End and Ended hand back. -/
def enL (c : Crs) : List Atn := if mayC c = true then endC c else []
def enE (c : Crs) : Int := if mayC c = true then 0 else 11
def EnP (w : World) (c : Crs) (e : Ending) (w' : World) : Prop := ∃ a k, e = .returned (.tuple #[.slice a (enL c).length k, .int .i64 (enE c)]) ∧ AtnsM anyB w' (.slice a (enL c).length k) (enL c) ∧ Below w.heap.size w w'
theorem mayC_len {c : Crs} (h : mayC c = true) : c.acts.length ≤ 6 := by
  unfold mayC at h
  simp only [Bool.and_eq_true, decide_eq_true_eq] at h
  exact h.1
set_option maxHeartbeats 1000000 in
set_option maxRecDepth 100000 in
theorem Ended_any (c : Crs) (a : Option Addr) (k : Nat) (w : World) (h : AtnsM anyB w (.slice a c.acts.length k) c.acts) :
    Calls Try.prog 6 #[.agg #[.slice a c.acts.length k, .int .i64 c.flags, .bool c.asked, .int .i64 c.fault]] w (EnP w c) := by
  obtain ⟨W0, hW0⟩ : ∃ W0, W0 = w.alloc (.cells #[.slice a c.acts.length k, .int .i64 c.flags, .bool c.asked, .int .i64 c.fault] 25) := ⟨_, rfl⟩
  have HWE := hid hW0
  have HB := hid (show Below w.heap.size w W0 by rw [hW0]; exact (Below.refl _ _).alloc (Nat.le_refl _) _)
  have HH := hid (show W0.heap[w.heap.size]? = some (.cells #[.slice a c.acts.length k, .int .i64 c.flags, .bool c.asked, .int .i64 c.fault] 25) by rw [hW0]; exact heap_alloc_new w _)
  have HL := hid (AtnsM.next h HB.out)
  have HF := hid (courseFault_any c a k W0)
  clear h hW0
  by_cases hm : mayC c = true
  · have HE := hid (show enL c = endC c ∧ enE c = 0 by unfold enL enE; rw [if_pos hm, if_pos hm]; exact ⟨rfl, rfl⟩)
    rw [if_pos hm] at HF
    have HG := hid (fun u (hu : Below W0.heap.size W0 u) => ended_any c a k u (AtnsM.next HL.out hu) (mayC_len hm))
    clear hm
    unfold EnP
    rw [HE.out.1, HE.out.2]
    go_enter Try.func6, Try.ntmps6
    go_wp2_with fail
    rw [← HWE.out]
    refine HF.out.mono ?_
    rintro e w1 ⟨rfl, hb⟩
    obtain ⟨c0, c1, c2, c3⟩ := box4 ((hb.block _ (Array.getElem?_eq_some_iff.1 HH.out).1).trans HH.out)
    have HB1 := hid (HB.out.trans (hb.mono HB.out.size))
    have HG1 := hid (HG.out w1 hb)
    clear hb
    go_wp2_with fail
    refine HG1.out.mono ?_
    rintro e w2 ⟨a1, k1, rfl, hr, hb⟩
    have HR := hid hr
    have HB2 := hid (HB1.out.trans (hb.mono HB1.out.size))
    clear hr hb
    go_wp2
    go_ret2
    exact ⟨a1, k1, rfl, HR.out, HB2.out⟩
  · have HE := hid (show enL c = [] ∧ enE c = 11 by unfold enL enE; rw [if_neg hm, if_neg hm]; exact ⟨rfl, rfl⟩)
    rw [if_neg hm] at HF
    clear hm
    unfold EnP
    rw [HE.out.1, HE.out.2]
    go_enter Try.func6, Try.ntmps6
    go_wp2_with fail
    rw [← HWE.out]
    refine HF.out.mono ?_
    rintro e w1 ⟨rfl, hb⟩
    have HB1 := hid (HB.out.trans (hb.mono HB.out.size))
    clear hb
    go_wp2
    go_ret2
    exact ⟨none, 0, rfl, rowM_nil _ _ _ _ _ _, HB1.out⟩
set_option maxHeartbeats 1000000 in
set_option maxRecDepth 100000 in
theorem End_any (c : Crs) (a : Option Addr) (k : Nat) (w : World) (h : AtnsM anyB w (.slice a c.acts.length k) c.acts) :
    Calls Try.prog 4 #[.agg #[.slice a c.acts.length k, .int .i64 c.flags, .bool c.asked, .int .i64 c.fault]] w (EnP w c) := by
  obtain ⟨W0, hW0⟩ : ∃ W0, W0 = w.alloc (.cells #[.slice a c.acts.length k, .int .i64 c.flags, .bool c.asked, .int .i64 c.fault] 25) := ⟨_, rfl⟩
  have HWE := hid hW0
  have HB := hid (show Below w.heap.size w W0 by rw [hW0]; exact (Below.refl _ _).alloc (Nat.le_refl _) _)
  have HH := hid (show W0.heap[w.heap.size]? = some (.cells #[.slice a c.acts.length k, .int .i64 c.flags, .bool c.asked, .int .i64 c.fault] 25) by rw [hW0]; exact heap_alloc_new w _)
  have HL := hid (AtnsM.next h HB.out)
  have HF := hid (show Calls Try.prog 8 #[.agg #[.slice a c.acts.length k, .int .i64 c.flags, .bool c.asked, .int .i64 c.fault]] W0 fun e w' => e = .returned (.bool (mayC c)) ∧ Below W0.heap.size W0 w' from mayBe_any c a k W0)
  clear h hW0
  by_cases hm : mayC c = true
  · have HE := hid (show enL c = endC c ∧ enE c = 0 by unfold enL enE; rw [if_pos hm, if_pos hm]; exact ⟨rfl, rfl⟩)
    rw [hm] at HF
    have HG := hid (fun u (hu : Below W0.heap.size W0 u) => clone_any c.acts a k u (AtnsM.next HL.out hu) (mayC_len hm))
    clear hm
    unfold EnP
    rw [HE.out.1, HE.out.2]
    go_enter Try.func4, Try.ntmps4
    go_wp2_with fail
    rw [← HWE.out]
    refine HF.out.mono ?_
    rintro e w1 ⟨rfl, hb⟩
    obtain ⟨c0, c1, c2, c3⟩ := box4 ((hb.block _ (Array.getElem?_eq_some_iff.1 HH.out).1).trans HH.out)
    have HB1 := hid (HB.out.trans (hb.mono HB.out.size))
    have HG1 := hid (HG.out w1 hb)
    have H3 := fun (f : Int) => hid (one_atn w1 3 f [])
    clear hb
    by_cases hf : c.fault = 0
    · cases hk : c.asked with
      | true =>
        have HQ := hid (show endC c = c.acts by unfold endC; rw [if_neg (by simp [hf]), if_pos hk])
        rw [hf] at c3
        rw [hk] at c2
        go_wp2_with fail
        refine HG1.out.mono ?_
        rintro e w2 ⟨a1, k1, rfl, hr, hb⟩
        have HR := hid hr
        have HB2 := hid (HB1.out.trans (hb.mono HB1.out.size))
        clear hr hb
        go_wp2
        go_ret2
        rw [HQ.out]
        exact ⟨a1, k1, rfl, HR.out, HB2.out⟩
      | false =>
        have HQ := hid (show endC c = [⟨3, [], c.flags⟩] by unfold endC; rw [if_neg (by simp [hf]), if_neg (by simp [hk])])
        rw [hf] at c3
        rw [hk] at c2
        go_wp2
        go_ret2
        rw [HQ.out]
        exact ⟨_, _, rfl, (H3 c.flags).out, HB1.out.alloc HB1.out.size _⟩
    · have HQ := hid (show endC c = [⟨3, [], 0⟩] by unfold endC; rw [if_pos hf])
      go_wp2
      go_ret2
      rw [HQ.out]
      exact ⟨_, _, rfl, (H3 0).out, HB1.out.alloc HB1.out.size _⟩
  · have hm' : mayC c = false := by simpa using hm
    have HE := hid (show enL c = [] ∧ enE c = 11 by unfold enL enE; rw [if_neg hm, if_neg hm]; exact ⟨rfl, rfl⟩)
    rw [hm'] at HF
    clear hm hm'
    unfold EnP
    rw [HE.out.1, HE.out.2]
    go_enter Try.func4, Try.ntmps4
    go_wp2_with fail
    rw [← HWE.out]
    refine HF.out.mono ?_
    rintro e w1 ⟨rfl, hb⟩
    have HB1 := hid (HB.out.trans (hb.mono HB.out.size))
    clear hb
    go_wp2
    go_ret2
    exact ⟨none, 0, rfl, rowM_nil _ _ _ _ _ _, HB1.out⟩
end Go.Proofs.Ythmjkhjpekncmaa
