/-
  Batches that the laws make of raw numbers: plain facts. No program is named here but types.
  Batches that the laws make of raw numbers: the walks of batchOf and batchesOf.
  Batches that the laws make of raw numbers, up to three entries each: the walk of batchesOf.
-/
import Derived.Test.YtneikogloopodaaDoorBoxEo
import Derived.Test.YtneikogloopodaaDoorBkPur
import Derived.Test.YtneikogloopodaaDoorBkAz
import Derived.Test.YtneikogloopodaaDoorBkBz
namespace Go.Proofs.YtneikogloopodaaDoor
open Go.RowKit Go.Proofs

/-- The entry that stands where there is none. -/
def xpE : Ent := ⟨4, [73, 78, 66, 79, 88], 0, 0, [], []⟩
theorem xpE_formed : Formed xpE := ⟨by decide, ⟨fun _ => ⟨rfl, rfl, rfl, rfl⟩, fun h => by simp [xpE] at h, fun h => by simp [xpE] at h, fun h => by simp [xpE] at h, fun h => by simp [xpE] at h⟩, by decide, by decide, by decide, fun h => by simp [xpE] at h, fun _ => rfl, fun h => by simp [xpE] at h⟩
def batP (l : List Chr) (u : Int) : Bat := ⟨(pickN u 3 : Nat), if l = [] then [xpE] else entsK l 10⟩
theorem entsK_len (l : List Chr) (k : Nat) : (entsK l k).length = min k l.length := by unfold entsK; rw [List.length_map, List.length_take]
theorem entsK_mem {l : List Chr} {k : Nat} {x : Ent} (h : x ∈ entsK l k) : ∃ c, x = entP c := by
  unfold entsK at h; obtain ⟨c, _, rfl⟩ := List.mem_map.1 h; exact ⟨c, rfl⟩
theorem entP_len (c : Chr) : (entB (entP c)).length ≤ 321 := by
  rw [entB_len]
  have hb : ∀ n, (boxN n).length ≤ 5 := by
    intro n
    have h := pickN_lt n 6 (by decide)
    unfold boxN
    generalize pickN n 6 = k at h
    match k, h with
    | 0, _ => decide
    | 1, _ => decide
    | 2, _ => decide
    | 3, _ => decide
    | 4, _ => decide
    | 5, _ => decide
  have h1 := hb c.box
  have h2 := hb c.goal
  have h3 := cutL_len c.text 300
  have h4 := cutL_len c.text 100
  unfold entP
  split <;> simp only [List.length_nil, abc, List.length_cons] <;> omega
theorem batP_ok (l : List Chr) (u : Int) : BatOk (batP l u) := by
  have hu := pickN_lt u 3 (by decide)
  unfold batP
  refine ⟨by simp only; omega, ?_, ?_⟩
  · by_cases h : l = []
    · simp [h]
    · simp only [if_neg h, entsK_len]
      have : l.length ≠ 0 := fun e => h (List.length_eq_zero_iff.1 e)
      omega
  · intro x hx
    by_cases h : l = []
    · simp only [if_pos h, List.mem_singleton] at hx
      rw [hx]; exact xpE_formed
    · simp only [if_neg h] at hx
      obtain ⟨c, rfl⟩ := entsK_mem hx
      exact entP_formed c
theorem batP_len (l : List Chr) (u : Int) : (batB (batP l u)).length ≤ 2 + 321 * (batP l u).ents.length := by
  rw [batB_len]
  have := entsB_le 321 (batP l u).ents fun x hx => by
    unfold batP at hx
    by_cases h : l = []
    · simp only [if_pos h, List.mem_singleton] at hx
      rw [hx]; decide
    · simp only [if_neg h] at hx
      obtain ⟨c, rfl⟩ := entsK_mem hx
      exact entP_len c
  omega
/-- The batches of raw entries, from the i-th one on. -/
def batsG : Nat → Nat → List Chr → List Bat
  | 0, _, _ => []
  | _ + 1, _, [] => []
  | f + 1, i, x :: r => if i < 24 then batP ((x :: r).take (min (1 + pickN x.flags 3) (x :: r).length)) x.goal :: batsG f (i + min (1 + pickN x.flags 3) (x :: r).length) ((x :: r).drop (min (1 + pickN x.flags 3) (x :: r).length)) else []
def batsP (l : List Chr) : List Bat := batsG 25 0 l
theorem batsG_len : ∀ (f i : Nat) (r : List Chr), (batsG f i r).length ≤ 24 - i := by
  intro f
  induction f with
  | zero => intro i r; simp [batsG]
  | succ f ih =>
    intro i r
    cases r with
    | nil => simp [batsG]
    | cons x r =>
      unfold batsG
      by_cases h : i < 24
      · rw [if_pos h, List.length_cons]
        have := ih (i + min (1 + pickN x.flags 3) (x :: r).length) ((x :: r).drop (min (1 + pickN x.flags 3) (x :: r).length))
        have h2 : 1 ≤ min (1 + pickN x.flags 3) (x :: r).length := by simp only [List.length_cons]; omega
        omega
      · rw [if_neg h]; simp
theorem batsG_each : ∀ (f i : Nat) (r : List Chr) (b : Bat), b ∈ batsG f i r → BatOk b ∧ (frB b).length ≤ 968 := by
  intro f
  induction f with
  | zero => intro i r b h; simp [batsG] at h
  | succ f ih =>
    intro i r b hb
    cases r with
    | nil => simp [batsG] at hb
    | cons x r =>
      unfold batsG at hb
      by_cases h : i < 24
      · rw [if_pos h, List.mem_cons] at hb
        rcases hb with rfl | hb
        · refine ⟨batP_ok _ _, ?_⟩
          rw [frB_len]
          have h1 := batP_len ((x :: r).take (min (1 + pickN x.flags 3) (x :: r).length)) x.goal
          have h3 := pickN_lt x.flags 3 (by decide)
          have h2 : (batP ((x :: r).take (min (1 + pickN x.flags 3) (x :: r).length)) x.goal).ents.length ≤ 3 := by
            unfold batP
            by_cases hn : (x :: r).take (min (1 + pickN x.flags 3) (x :: r).length) = []
            · rw [if_pos hn]; show 1 ≤ 3; decide
            · simp only [if_neg hn, entsK_len, List.length_take]
              omega
          omega
        · exact ih _ _ b hb
      · rw [if_neg h] at hb; cases hb
theorem tapeB_le (m : Nat) : ∀ (l : List Bat), (∀ b ∈ l, (frB b).length ≤ m) → (tapeB l).length ≤ m * l.length := by
  intro l
  induction l with
  | nil => intro _; simp [tapeB]
  | cons x l ih =>
    intro h
    have h1 := ih fun y hy => h y (by simp [hy])
    have h2 := h x (by simp)
    simp only [tapeB, List.length_append, List.length_cons, Nat.mul_succ]
    omega
theorem batsP_ok (l : List Chr) : ∀ b ∈ batsP l, BatOk b := fun b hb => (batsG_each 25 0 l b hb).1
theorem batsP_many (l : List Chr) : (batsP l).length ≤ 24 := batsG_len 25 0 l
theorem batsP_tape (l : List Chr) : (tapeB (batsP l)).length ≤ 23232 := by
  have h1 := tapeB_le 968 (batsP l) fun b hb => (batsG_each 25 0 l b hb).2
  have h2 := batsP_many l
  have : 968 * (batsP l).length ≤ 968 * 24 := Nat.mul_le_mul_left _ h2
  omega
theorem batsG_end {f i : Nat} {l : List Chr} (h : l.length ≤ i ∨ 24 ≤ i) : batsG f i (l.drop i) = [] := by
  cases f with
  | zero => rfl
  | succ f =>
    cases hd : l.drop i with
    | nil => rfl
    | cons x r =>
      rcases h with h | h
      · rw [List.drop_of_length_le h] at hd; cases hd
      · unfold batsG; rw [if_neg (by omega)]
theorem batsG_step {f i n : Nat} {l : List Chr} {x : Chr} (hx : l[i]? = some x) (hi : i < 24) (hn : n = min (1 + pickN x.flags 3) (l.length - i)) : batsG (f + 1) i (l.drop i) = batP ((l.drop i).take n) x.goal :: batsG f (i + n) (l.drop (i + n)) := by
  have hil : i < l.length := (List.getElem?_eq_some_iff.1 hx).1
  have hd : l.drop i = x :: l.drop (i + 1) := by rw [List.drop_eq_getElem_cons hil, (List.getElem?_eq_some_iff.1 hx).2]
  have hll : (x :: l.drop (i + 1)).length = l.length - i := by rw [← hd, List.length_drop]
  have key : batsG (f + 1) i (x :: l.drop (i + 1)) = if i < 24 then batP ((x :: l.drop (i + 1)).take (min (1 + pickN x.flags 3) (x :: l.drop (i + 1)).length)) x.goal :: batsG f (i + min (1 + pickN x.flags 3) (x :: l.drop (i + 1)).length) ((x :: l.drop (i + 1)).drop (min (1 + pickN x.flags 3) (x :: l.drop (i + 1)).length)) else [] := by rw [batsG]
  rw [if_pos hi, hll, ← hn] at key
  rw [show l.drop (i + n) = (l.drop i).drop n by rw [List.drop_drop], hd, key]
end Go.Proofs.YtneikogloopodaaDoor

namespace Go.Proofs.YtneikogloopodaaDoor
open Go.RowKit Go.Proofs

/-- What batchOf hands back. -/
def BoP (w : World) (b : Bat) (e : Ending) (w' : World) : Prop := ∃ a c, e = .returned (.agg #[.int .i64 b.user, .slice a b.ents.length c]) ∧ EntsM (fun k => w.heap.size ≤ k) w' (.slice a b.ents.length c) b.ents ∧ Below w.heap.size w w'
theorem ent_row1 (w : World) (x : Ent) (p B : Nat) (hB : B ≤ p) (h : w.heap[p]? = some (.cells #[.int .i64 x.kind, .string (S x.box), .int .i64 x.uid, .int .i64 x.flags, .string (S x.goal), .string (S x.text)] 63)) : EntsM (fun k => B ≤ k) w (.slice (some ⟨p, 0, none⟩) 1 1) [x] := by
  refine ⟨some ⟨p, 0, none⟩, 1, rfl, by simp [maxLen], fun i y hy => ?_⟩
  cases i with
  | succ i => simp at hy
  | zero =>
    simp at hy
    subst hy
    refine ⟨p, 0, entC x, rfl, (Array.getElem?_eq_some_iff.1 h).1, hB, rfl, fun j u hj => ?_, rfl⟩
    simp only [Nat.zero_mul, Nat.zero_add, World.cell?, h]
    simpa [entC] using hj
set_option maxHeartbeats 1000000 in
set_option maxRecDepth 100000 in
theorem batchOf_any (l : List Chr) (a : Option Addr) (c : Nat) (u : Int) (w : World) (Q : Nat → Prop) (hL : ChsM Q w (.slice a l.length c) l) (hW : ∀ x ∈ l, chrW x) (hu : (Lit.int .i64 u).wf = true) :
    Calls Tryd.prog 13 #[.slice a l.length c, .int .i64 u] w (BoP w (batP l u)) := by
  obtain ⟨W1, hW1⟩ : ∃ W1, W1 = w.alloc (.cells #[.int .i64 0, .slice none 0 0] 34) := ⟨_, rfl⟩
  have HWE := hid hW1
  have hB1 : Below w.heap.size w W1 := by rw [hW1]; exact (Below.refl _ _).alloc (Nat.le_refl _) _
  have hp : W1.heap[w.heap.size]? = some (.cells #[.int .i64 0, .slice none 0 0] 34) := by rw [hW1]; exact heap_alloc_new w _
  have HP := hid hp
  have HB1 := hid hB1
  have HZ := hid (show W1.heap.size = w.heap.size + 1 by rw [hW1]; simp)
  have HPK := hid (fun v => picked_any u 3 v hu (by decide) (by decide))
  have HEO := hid (entriesOf_new l a c 10 W1 Q (hL.next hB1) hW (by decide))
  obtain ⟨bt, hbt⟩ : ∃ bt, bt = batP l u := ⟨_, rfl⟩
  have HBT := hid hbt
  rw [← hbt]
  obtain ⟨E, hE⟩ : ∃ E, E = entsK l 10 := ⟨_, rfl⟩
  rw [← hE] at HEO
  have HEE := hid hE
  have HEL := hid (show E.length = min 10 l.length by rw [hE]; exact entsK_len _ _)
  have hE10 : E.length ≤ 10 := by rw [HEL.out]; omega
  obtain ⟨pk, hpk⟩ : ∃ pk, pk = pickN u 3 := ⟨_, rfl⟩
  rw [← hpk] at HPK
  have HPE := hid hpk
  clear hL hW hu hW1 hB1 hp hbt hE hpk
  go_enter Tryd.func13, Tryd.ntmps13
  go_wp2_with fail
  rw [← HWE.out]
  refine (HPK.out _).mono ?_
  rintro e v ⟨rfl, hv⟩
  have hv' := hv.symm
  subst hv'
  clear hv
  go_wp2_with fail
  refine HEO.out.mono ?_
  rintro e w2 ⟨a2, c2, rfl, hE2, hb2⟩
  obtain ⟨W3, hW3⟩ : ∃ W3, W3 = w2.alloc (.cells #[.int .i64 pk, .slice a2 E.length c2] 34) := ⟨_, rfl⟩
  have HWE3 := hid hW3
  have hB3 : Below w2.heap.size w2 W3 := by rw [hW3]; exact (Below.refl _ _).alloc (Nat.le_refl _) _
  have hq : W3.heap[w2.heap.size]? = some (.cells #[.int .i64 pk, .slice a2 E.length c2] 34) := by rw [hW3]; exact heap_alloc_new w2 _
  have hb13 : Below W1.heap.size W1 W3 := hb2.trans (hB3.mono hb2.size)
  have hp3 := bk_low hb13 HP.out
  have HP3 := hid hp3
  have HQ3 := hid hq
  have HE3 := hid (hE2.next hB3)
  have HB3 := hid (show Below w.heap.size w W3 from HB1.out.trans (hb13.mono HB1.out.size))
  have HS3 := hid (show w.heap.size < w2.heap.size by have := HZ.out; have := hb2.size; omega)
  obtain ⟨x0, x1, f0, f1⟩ := bk_box2 hq
  obtain ⟨y0, y1, g0, g1⟩ := bk_box2 hp3
  clear hW3 hB3 hq hb13 hp3 hE2 hb2
  go_upto_region 2 with fail
  rw [← HWE3.out]
  by_cases h0 : l = []
  · have hE0 : E.length = 0 := by rw [HEL.out, h0]; simp
    have HB0 := hid (show bt = ⟨(pk : Nat), [xpE]⟩ by rw [HBT.out, HPE.out]; unfold batP; rw [if_pos h0])
    have hw23 : w2.heap.size < W3.heap.size := (Array.getElem?_eq_some_iff.1 HQ3.out).1
    obtain ⟨W4, hW4⟩ : ∃ W4, W4 = W3.setCell ⟨w2.heap.size, 1, none⟩ (.slice (some ⟨W3.heap.size, 0, none⟩) 1 1) := ⟨_, rfl⟩
    have hz4 : W4.heap.size = W3.heap.size := by rw [hW4]; simp [World.setCell]
    have hq4' : W4.heap[w2.heap.size]? = some (.cells #[.int .i64 pk, .slice (some ⟨W3.heap.size, 0, none⟩) 1 1] 34) := by rw [hW4]; exact bk_put1 HQ3.out
    have hp4' : W4.heap[w.heap.size]? = some (.cells #[.int .i64 0, .slice none 0 0] 34) := by rw [hW4]; exact (bk_other (by have := HS3.out; omega)).trans HP3.out
    have hb4' : Below w.heap.size w W4 := by rw [hW4]; exact HB3.out.setCell (Nat.le_of_lt HS3.out) _
    obtain ⟨W5, hW5⟩ : ∃ W5, W5 = W4.alloc (.cells #[.int .i64 4, .string ⟨#[73, 78, 66, 79, 88]⟩, .int .i64 0, .int .i64 0, .string ⟨#[]⟩, .string ⟨#[]⟩] 63) := ⟨_, rfl⟩
    have HWE5 := hid (show W5 = (W3.setCell ⟨w2.heap.size, 1, none⟩ (.slice (some ⟨W3.heap.size, 0, none⟩) 1 1)).alloc (.cells #[.int .i64 4, .string ⟨#[73, 78, 66, 79, 88]⟩, .int .i64 0, .int .i64 0, .string ⟨#[]⟩, .string ⟨#[]⟩] 63) by rw [hW5, hW4])
    have hB4 : Below W4.heap.size W4 W5 := by rw [hW5]; exact (Below.refl _ _).alloc (Nat.le_refl _) _
    have hx5 : W5.heap[W3.heap.size]? = some (.cells #[.int .i64 4, .string ⟨#[73, 78, 66, 79, 88]⟩, .int .i64 0, .int .i64 0, .string ⟨#[]⟩, .string ⟨#[]⟩] 63) := by rw [hW5, ← hz4]; exact heap_alloc_new W4 _
    have hq4 := bk_low hB4 hq4'
    have hp4 := bk_low hB4 hp4'
    have hb5 : Below w.heap.size w W5 := hb4'.trans (hB4.mono (by have := hb4'.size; omega))
    have HB5 := hid hb5
    obtain ⟨m0, m1, _, _⟩ := bk_box2 hq4
    obtain ⟨n0, n1, r0, r1⟩ := bk_box2 hp4
    obtain ⟨s0, s1, _, _⟩ := bk_box2 (bk_put (u0 := .int .i64 pk) (u1 := .slice (some ⟨W3.heap.size, 0, none⟩) 1 1) hp4)
    have HX5 := hid hx5
    have HE := hid (show BoP w bt (.returned (.agg #[.int .i64 pk, .slice (some ⟨W3.heap.size, 0, none⟩) 1 1])) ((W5.setCell ⟨w.heap.size, 0, none⟩ (.int .i64 pk)).setCell ⟨w.heap.size, 1, none⟩ (.slice (some ⟨W3.heap.size, 0, none⟩) 1 1)) by
      rw [HB0.out]
      have hs := HS3.out
      refine ⟨_, _, rfl, ?_, (HB5.out.setCell (Nat.le_refl _) _).setCell (Nat.le_refl _) _⟩
      refine ent_row1 _ xpE W3.heap.size w.heap.size (by omega) ?_
      exact (bk_other (by omega)).trans ((bk_other (by omega)).trans HX5.out))
    clear hW4 hz4 hq4' hp4' hb4' hq4 hp4 hW5 hx5 hB4 hb5
    rw [hE0]
    rw [hE0] at x1
    go_upto_region 4 with fail
    rw [← HWE5.out]
    go_wp2
    refine bodyPost_ret (v := .agg #[.int .i64 pk, .slice (some ⟨W3.heap.size, 0, none⟩) 1 1]) (by simp [results, Tryd.results13, go_sem, *]) rfl ?_
    exact HE.out
  · have hEn : ¬ (E.length : Int) = 0 := by
      have : l.length ≠ 0 := fun e => h0 (List.length_eq_zero_iff.1 e)
      have := HEL.out
      omega
    have hEb : ((E.length : Int) == 0) = false := by rw [beq_eq_false_iff_ne]; exact hEn
    have HB0 := hid (show bt = ⟨(pk : Nat), E⟩ by rw [HBT.out, HPE.out, HEE.out]; unfold batP; rw [if_neg h0])
    obtain ⟨s0, s1, _, _⟩ := bk_box2 (bk_put (u0 := .int .i64 pk) (u1 := .slice a2 E.length c2) HP3.out)
    have HE := hid (show BoP w bt (.returned (.agg #[.int .i64 pk, .slice a2 E.length c2])) ((W3.setCell ⟨w.heap.size, 0, none⟩ (.int .i64 pk)).setCell ⟨w.heap.size, 1, none⟩ (.slice a2 E.length c2)) by
      rw [HB0.out]
      have hz := HZ.out
      refine ⟨_, _, rfl, ?_, (HB3.out.setCell (Nat.le_refl _) _).setCell (Nat.le_refl _) _⟩
      exact HE3.out.imp (fun k (hk : W1.heap.size ≤ k) => (by omega : w.heap.size ≤ k)) ⟨by simp [World.setCell], fun k _ hk => (bk_other (by omega)).trans (bk_other (by omega))⟩)
    go_wp2
    refine bodyPost_ret (v := .agg #[.int .i64 pk, .slice a2 E.length c2]) (by simp [results, Tryd.results13, go_sem, *]) rfl ?_
    exact HE.out
end Go.Proofs.YtneikogloopodaaDoor

namespace Go.Proofs.YtneikogloopodaaDoor
open Go.RowKit Go.Proofs

/-- A batch that a call has handed back, in its variable. -/
def BtB (wr : World) (x : Bat) (p : Value) (wx : World) : Prop := ∃ pn a c, p = .pointer (some ⟨pn, 0, none⟩) ∧ wx.heap[pn]? = some (.cells #[.int .i64 x.user, .slice a x.ents.length c] 34) ∧ wr.heap.size ≤ pn ∧ EntsM (fun k => wr.heap.size ≤ k) wx (.slice a x.ents.length c) x.ents ∧ Below wr.heap.size wr wx
theorem btb_call {wr u w3 : World} {x : Bat} {a : Option Addr} {c : Nat} (hu : Below wr.heap.size wr u) (hO : EntsM (fun k => u.heap.size ≤ k) w3 (.slice a x.ents.length c) x.ents) (hb : Below u.heap.size u w3) :
    BtB wr x (.pointer (some ⟨w3.heap.size, 0, none⟩)) (w3.alloc (.cells #[.int .i64 x.user, .slice a x.ents.length c] 34)) := by
  have hb' := hu.trans (hb.mono hu.size)
  have h1 := hu.size
  have h2 := hb.size
  have ha : Below w3.heap.size w3 (w3.alloc (.cells #[.int .i64 x.user, .slice a x.ents.length c] 34)) := (Below.refl _ _).alloc (Nat.le_refl _) _
  exact ⟨w3.heap.size, a, c, rfl, heap_alloc_new w3 _, by omega, (hO.next ha).imp (fun k (hk : u.heap.size ≤ k) => (by omega : wr.heap.size ≤ k)) (Keeps.refl _ _), hb'.alloc hb'.size _⟩
theorem btb_set {wr u w3 : World} {x : Bat} {a : Option Addr} {c : Nat} {v0 v1 : Value} (hu : Below wr.heap.size wr u) (hp : wr.heap.size < u.heap.size) (hO : EntsM (fun k => u.heap.size ≤ k) w3 (.slice a x.ents.length c) x.ents) (hb : Below u.heap.size u w3) (h3 : w3.heap[wr.heap.size]? = some (.cells #[v0, v1] 34)) :
    BtB wr x (.pointer (some ⟨wr.heap.size, 0, none⟩)) ((w3.setCell ⟨wr.heap.size, 0, none⟩ (.int .i64 x.user)).setCell ⟨wr.heap.size, 1, none⟩ (.slice a x.ents.length c)) := by
  have hb' := hu.trans (hb.mono hu.size)
  exact ⟨wr.heap.size, a, c, rfl, bk_put h3, Nat.le_refl _, hO.imp (fun k (hk : u.heap.size ≤ k) => (by omega : wr.heap.size ≤ k)) ⟨by simp [World.setCell], fun k _ hk => (bk_other (by omega)).trans (bk_other (by omega))⟩, (hb'.setCell (Nat.le_refl _) _).setCell (Nat.le_refl _) _⟩
theorem ChsM.sub {Q : Nat → Prop} {w : World} {b o n c : Nat} {l : List Chr} (h : ChsM Q w (.slice (some ⟨b, o, none⟩) n c) l) (i k c' : Nat) (hk : i + k ≤ l.length) : ChsM Q w (.slice (some ⟨b, o + i * 6, none⟩) k c') ((l.drop i).take k) := by
  obtain ⟨a', c'', hv, hm, hr⟩ := h
  simp only [Value.slice.injEq] at hv
  obtain ⟨rfl, _, rfl⟩ := hv
  have hl : ((l.drop i).take k).length = k := by rw [List.length_take, List.length_drop]; omega
  refine ⟨_, c', by rw [hl], by omega, fun j x hx => ?_⟩
  have hj : j < k := by have := (List.getElem?_eq_some_iff.1 hx).1; omega
  rw [List.getElem?_take_of_lt hj, List.getElem?_drop] at hx
  obtain ⟨b', o', cs, e, h1, h2, h3, h4, h5⟩ := hr (i + j) x hx
  simp only [Option.some.injEq, Addr.mk.injEq, and_true] at e
  obtain ⟨rfl, rfl⟩ := e
  refine ⟨b, o + i * 6, cs, rfl, h1, h2, h3, fun q u hq => ?_, h5⟩
  have := h4 q u hq
  rw [show o + i * 6 + j * 6 + q = o + (i + j) * 6 + q by omega]
  exact this
/-- What batchesOf hands back. -/
def BsP (w : World) (l : List Bat) (e : Ending) (w' : World) : Prop := ∃ a c, e = .returned (.slice a l.length c) ∧ l.length ≤ c ∧ BatsM (fun _ => True) w' (.slice a l.length c) l ∧ Below w.heap.size w w'
set_option maxHeartbeats 1000000 in
set_option maxRecDepth 100000 in
theorem batchesOf_any (l : List Chr) (a : Option Addr) (c : Nat) (w : World) (Q : Nat → Prop) (hL : ChsM Q w (.slice a l.length c) l) (hW : ∀ x ∈ l, chrW x) (hc : l.length ≤ c) :
    Calls Tryd.prog 5 #[.slice a l.length c] w (BsP w (batsP l)) := by
  obtain ⟨i0, hi, hz0, hz1, hz2⟩ := info_parts infoBt
  have hm := RowM.small hL
  unfold maxLen at hm
  have HL := hid hL
  have HCW := hid hW
  have HBP := hid (batsP_many l)
  obtain ⟨bs, hbs⟩ : ∃ bs, bs = batsP l := ⟨_, rfl⟩
  rw [← hbs] at HBP ⊢
  have HBS := hid hbs
  clear hL hW hbs
  go_enter Tryd.func5, Tryd.ntmps5
  go_wp2
  go_loopw [3, 4] (fun q v wr => ∃ (i f : Nat) (done : List Bat) (a9 : Option Addr) (c9 : Nat), i ≤ l.length ∧ i ≤ 26 ∧ 25 ≤ f + i ∧ done.length ≤ 24 ∧ v = .int .i64 i ∧ q = .slice a9 done.length c9 ∧ Hid (bs = done ++ batsG f i (l.drop i)) ∧ Hid (OwnBs w.heap.size (fun k => w.heap.size ≤ k) wr (.slice a9 done.length c9) done) ∧ Hid (Below w.heap.size w wr)) (fun _ v _ => l.length - (intOf v).toNat)
  case atStart => exact ⟨0, 25, [], none, 0, Nat.zero_le _, by omega, by omega, by simp, rfl, rfl, HBS, OwnBs.nil _ _ _, Below.refl _ _⟩
  case round =>
    obtain ⟨i, f, done, a9, c9, hil, hi26, hf, hdn, rfl, rfl, HD, HO, HB⟩ := hrel
    by_cases hlt : i < l.length ∧ i < 24
    · obtain ⟨hl1, hl2⟩ := hlt
      have k1 : (i : Int) < (l.length : Int) := by omega
      have k2 : (i : Int) < 24 := by omega
      have k0 : (0 : Int) ≤ (i : Int) := by omega
      obtain ⟨x, hx⟩ : ∃ x, l[i]? = some x := ⟨_, List.getElem?_eq_getElem hl1⟩
      obtain ⟨b, o, rfl, e0, e1, e2, e3, e4, e5⟩ := (HL.out.next HB.out).at hx
      have HXW := hid (HCW.out x (List.mem_of_getElem? hx))
      have hp3 := pickN_lt x.flags 3 (by decide)
      have HPK := hid (fun v => picked_any x.flags 3 v HXW.out.2.2.2.1 (by decide) (by decide))
      obtain ⟨f', rfl⟩ : ∃ f', f = f' + 1 := ⟨f - 1, by omega⟩
      obtain ⟨pk, hpk⟩ : ∃ pk, pk = pickN x.flags 3 := ⟨_, rfl⟩
      obtain ⟨n, hn⟩ : ∃ n, n = min (1 + pickN x.flags 3) (l.length - i) := ⟨_, rfl⟩
      have HST := hid (batsG_step (f := f') hx hl2 hn)
      rw [← hpk] at HPK hn hp3
      have hn1 : 1 ≤ n ∧ n ≤ 3 ∧ i + n ≤ l.length := by omega
      obtain ⟨X, hX⟩ : ∃ X, X = batP ((l.drop i).take n) x.goal := ⟨_, rfl⟩
      have HBO := hid (fun u (hu : Below wr.heap.size wr u) => batchOf_any ((l.drop i).take n) (some ⟨b, o + i * 6, none⟩) (c - i) x.goal u Q (by
        have := ((HL.out.next HB.out).next hu).sub i n (c - i) hn1.2.2
        rw [show ((l.drop i).take n).length = n by rw [List.length_take, List.length_drop]; omega]
        exact this) (fun y hy => HCW.out y (List.mem_of_mem_drop (List.mem_of_mem_take hy))) HXW.out.2.2.2.2.1)
      rw [show ((l.drop i).take n).length = n by rw [List.length_take, List.length_drop]; omega, ← hX] at HBO
      rw [← hX] at HST
      have HBA := hid (show Below wr.heap.size wr (wr.alloc (.cells #[.int .i64 0, .slice none 0 0] 34)).drew from ((Below.refl wr.heap.size wr).alloc (Nat.le_refl _) _).drew)
      have HNA := hid (show (wr.alloc (.cells #[.int .i64 0, .slice none 0 0] 34)).drew.heap[wr.heap.size]? = some (.cells #[.int .i64 0, .slice none 0 0] 34) from heap_alloc_new wr _)
      have hneb : b ≠ wr.heap.size := Nat.ne_of_lt (World.block_lt_of_cell? _ _ e0)
      clear hx hpk hX
      have HNV := hid (show min (1 + (pk : Int)) ((l.length : Int) - (i : Int)) = (n : Int) by omega)
      clear hn
      go_wp2_with fail
      refine (HPK.out _).mono ?_
      rintro e v ⟨rfl, hv⟩
      have hv' := hv.symm
      subst hv'
      clear hv
      go_upto_region 5 with fail
      rw [HNV.out]
      have m1 : (i : Int) ≤ (i : Int) + (n : Int) := by omega
      have m2 : (i : Int) + (n : Int) ≤ (c : Int) := by omega
      have m3 : IntKind.i64.wrap ((i : Int) + (n : Int)) = (i : Int) + (n : Int) := by rw [IntKind.wrap_i64]; omega
      have m6 : i ≤ ((i : Int) + (n : Int)).toNat := by omega
      have m8 : (0 : Int) ≤ (i : Int) + (n : Int) := by omega
      have m4 : ¬ c = i := by omega
      have HBO2 := hid (show ∀ u, Below wr.heap.size wr u → Calls Tryd.prog 13 #[.slice (some ⟨b, o + i * 6, none⟩) (((i : Int) + (n : Int)).toNat - i) (c - i), .int .i64 x.goal] u (BoP u X) by
        have e : ((i : Int) + (n : Int)).toNat - i = n := by omega
        rw [e]
        exact HBO.out)
      clear HBO
      go_cut [6] (fun p wx => BtB wr X p wx)
      case first =>
        go_region_held3 (fun w' => w'.cell? ⟨b, o + i * 6 + 4, none⟩ = some (.int .i64 x.goal))
          (first | (go_keep; done) | exact far2 hneb r0 | fail)
          (first
            | (go_at_call 13
               with_reducible refine (HBO2.out wr.drew ((Below.refl _ _).drew)).mono ?_
               rintro e w3 ⟨a3, c3, rfl, hO3, hb3⟩
               have hb := (Below.refl wr.heap.size wr).drew.trans hb3
               have HAR := hid (btb_call ((Below.refl wr.heap.size wr).drew) hO3 hb3)
               have r0 := wcell_next e4 hb
               clear hO3 hb3 hb)
            | (go_at_call 13
               with_reducible refine (HBO2.out ((wr.alloc (.cells #[.int .i64 0, .slice none 0 0] 34)).drew) HBA.out).mono ?_
               rintro e w3 ⟨a3, c3, rfl, hO3, hb3⟩
               have hb := HBA.out.trans (hb3.mono HBA.out.size)
               have HPe := bk_low hb3 HNA.out
               have HAR := hid (btb_set HBA.out (Array.getElem?_eq_some_iff.1 HNA.out).1 hO3 hb3 HPe)
               obtain ⟨t0', t1', f0', f1'⟩ := bk_box2 HPe
               have r0 := wcell_next e4 hb
               clear hO3 hb3 hb HPe)
            | fail)
        all_goals
          go_wp2_with fail
          go_meet
          exact HAR.out
      case rest =>
        obtain ⟨pn, a4, c4, rfl, hp, hpn, hE4, hb⟩ := hcut
        obtain ⟨y0, y1, _, _⟩ := bk_box2 hp
        have HO4 := hid (HO.out.keep hb)
        have HB4 := hid (show Below w.heap.size w wc from HB.out.trans (hb.mono HB.out.size))
        have HE4 := hid hE4
        have hws : w.heap.size ≤ wc.heap.size := HB4.out.size
        have hwr : wr.heap.size ≤ wc.heap.size := hb.size
        have hww : w.heap.size ≤ wr.heap.size := HB.out.size
        have HOW := hid (show ∀ q, (Value.slice a9 done.length c9).ownBlock = some q → q < wr.heap.size from fun q hq => by
          obtain ⟨vs', q1, q2, q3⟩ := HO.out
          exact (World.ownsRow.lt q2 q hq).2)
        obtain ⟨vs, hv1, hv2, hv3⟩ := HO4.out
        have HV1 := hid hv1
        have HV2 := hid hv2
        have HV3 := hid hv3
        have HDD := hid (show bs = (done ++ [X]) ++ batsG f' (i + n) (l.drop (i + n)) by rw [HD.out, HST.out]; simp)
        have hdl : (done ++ [X]).length = done.length + 1 := by simp
        have HDL := hid hdl
        have hd24 : done.length + 1 ≤ 24 := by
          have h1 := HBP.out
          rw [HDD.out, List.length_append, hdl] at h1
          omega
        clear hp hE4 hb hv1 hv2 hv3 hdl
        go_wp2_with (first
          | (at_builtin; refine wpList_append_lies _ rfl _ _ 23 rfl w.heap.size 34 i0 _ 2 32 Tryd.underlying23 hi hz0 hz1 hz2 rfl (by omega) (.slice a9 done.length c9) done.length ((btCs done vs).flatten) rfl (World.ownsRow.alloc HV2.out _) ⟨wc.heap.size, 0, none⟩ 1 1 [.int .i64 X.user, .slice a4 X.ents.length c4] rfl rfl (bk_two_new wc _ _ _) ?c1 (by omega) ?c2 ?c3 ?c4 _ rfl ?_)
          | fail)
        case c1 => simp [Value.oneCell']
        case c2 => unfold maxLen; omega
        case c3 => omega
        case c4 => first | omega | (simp; omega)
        intro gm cap w6 hown hgrow hat hlt6
        have hal : Below wc.heap.size wc (wc.alloc (.cells #[.int .i64 X.user, .slice a4 X.ents.length c4] 34)) := (Below.refl _ _).alloc (Nat.le_refl _) _
        have HO6 := hid (show OwnBs w.heap.size (fun k => w.heap.size ≤ k) w6 (.slice (some ⟨gm, 0, none⟩) (done ++ [X]).length cap) (done ++ [X]) by
          rw [HDL.out]
          refine OwnBs.app HV1.out rfl (fun i b u hb hu => ?_) hown hgrow (by simpa using hat) ?_
          · obtain ⟨a', c', e, h⟩ := HV3.out i b u hb hu
            exact ⟨a', c', e, h.next hal⟩
          · refine (HE4.out.next hal).imp (fun q (hq : wr.heap.size ≤ q) => ⟨fun e => ?_, ?_⟩) (Keeps.refl _ _)
            · have := HOW.out q e.symm; omega
            · omega)
        have HB6 := hid (show Below w.heap.size w w6 from (HB4.out.alloc hws _).grown hgrow (by simp; omega) (fun j hj => (World.ownsRow.lt HV2.out j hj).1))
        clear hown hgrow hat hal
        go_wp2
        go_roundw
        case rel => first | exact ⟨i + n, f', done ++ [X], _, cap, by omega, by omega, by omega, by rw [HDL.out]; exact hd24, by go_num, by rw [HDL.out], HDD, HO6, HB6⟩ | ((repeat apply Exists.intro); exact ⟨⟨i + n, f', done ++ [X], _, cap, by omega, by omega, by omega, by rw [HDL.out]; exact hd24, by go_num, by rw [HDL.out], HDD, HO6, HB6⟩, rfl⟩)
        case measure => simp [intOf]; omega
    · have HFN := hid (show bs = done by rw [HD.out, batsG_end (by omega), List.append_nil])
      have HE := hid (show BsP w bs (.returned (.slice a9 done.length c9)) wr by
        rw [HFN.out]
        obtain ⟨vs, h1, h2, h3⟩ := HO.out
        refine ⟨a9, c9, rfl, ?_, HO.out.bats (by omega), HB.out⟩
        obtain ⟨a', c', e, h4⟩ := bk_slice h2
        simp only [Value.slice.injEq] at e
        omega)
      by_cases hkl : i < l.length
      · have k1 : (i : Int) < (l.length : Int) := by omega
        have k2 : ¬ (i : Int) < 24 := by omega
        go_wp2
        go_ret
        exact HE.out
      · have k1 : ¬ (i : Int) < (l.length : Int) := by omega
        go_wp2
        go_ret
        exact HE.out
end Go.Proofs.YtneikogloopodaaDoor
