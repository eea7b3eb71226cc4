/-
  Tags may come in any order, or be left out: plain facts, and the walk.
-/
import Derived.Test.YtdmiidbncpgfpabDoorScrRead
import Derived.Test.YtdmiidbncpgfpabDoorScrRd13
import Derived.Test.YtdmiidbncpgfpabDoorScrSame2
import Derived.Test.YtdmiidbncpgfpabDoorTokCut
import Derived.Test.YtdmiidbncpgfpabDoorKeepPick
namespace Go.Proofs.YtdmiidbncpgfpabDoor
open Go.RowKit Go.Proofs

def tagHead : List UInt8 := [105, 102, 32, 97, 100, 100, 114, 101, 115, 115, 32]
def tagTail : List UInt8 := [32, 34, 97, 34, 32, 34, 98, 34, 32, 123, 32, 125]
def tagTxt (x : List UInt8) : List UInt8 := tagHead ++ x ++ tagTail
def twoTags (x y : List UInt8) : List UInt8 := [58] ++ x ++ [32, 58] ++ y
def tagsL (x : List UInt8) : List Tok := (cutM (tagTxt x)).1
def tagsC (x : List UInt8) : List Cmd := (parseS (tagsL x)).1
/-- What is cut out of such a text, and parsed. -/
def TagsOk (x : List UInt8) (cs : List Cmd) (i e : Int) : Prop := x.length ≤ 30 ∧ ∃ L : List Tok, cutM (tagTxt x) = (L, 0, 0) ∧ parseS L = (cs, i, e) ∧ L.length ≤ 400 ∧ ∀ t ∈ L, t.kind = 1 ∨ t.kind = 2 → t.text.length ≤ maxLen
theorem tags_of {x : List UInt8} {cs : List Cmd} {i e : Int} (h0 : x.length ≤ 30) (h1 : cutM (tagTxt x) = (tagsL x, 0, 0)) (h2 : parseS (tagsL x) = (cs, i, e)) (h3 : (tagsL x).length ≤ 400) (h4 : ∀ t ∈ tagsL x, t.text.length ≤ 30) : TagsOk x cs i e :=
  ⟨h0, tagsL x, h1, h2, h3, fun t ht _ => by have := h4 t ht; unfold maxLen; omega⟩
def matW (i : Nat) : List UInt8 := wordOf 2 (i + 1)
def partW (i : Nat) : List UInt8 := wordOf 3 (i + 1)
theorem tags_facts (i j : Nat) (hi : i < 3) (hj : j < 3) : ∃ c1 c3 : List Cmd, TagsOk (twoTags (matW i) (partW j)) c1 0 0 ∧ TagsOk (twoTags (partW j) (matW i)) c1 0 0 ∧ TagsOk [] c3 0 0 ∧ TagsOk [58, 97, 108, 108, 32, 58, 105, 115] c3 0 0 ∧ TagsOk (twoTags (matW i) (matW i)) [] 3 3 ∧ c1.length = 1 ∧ c3.length = 1 ∧ (matW i).length ≤ 10 ∧ (partW j).length ≤ 10 := by
  refine ⟨tagsC (twoTags (matW i) (partW j)), tagsC [], ?_⟩
  have e3 : TagsOk [] (tagsC []) 0 0 := tags_of (by decide) (by kernel_rfl) (by kernel_rfl) (by decide +kernel) (by decide +kernel)
  have e4 : TagsOk [58, 97, 108, 108, 32, 58, 105, 115] (tagsC []) 0 0 := tags_of (by decide) (by kernel_rfl) (by kernel_rfl) (by decide +kernel) (by decide +kernel)
  have e5 : (tagsC []).length = 1 := by kernel_rfl
  match i, hi with
  | 0, _ | 1, _ | 2, _ =>
    refine ⟨?_, ?_, e3, e4, tags_of (by decide) (by kernel_rfl) (by kernel_rfl) (by decide +kernel) (by decide +kernel), ?_, e5, by decide, ?_⟩
    all_goals match j, hj with
      | 0, _ | 1, _ | 2, _ => first | exact tags_of (by decide) (by kernel_rfl) (by kernel_rfl) (by decide +kernel) (by decide +kernel) | decide | kernel_rfl

theorem S_two (a b : List UInt8) : S a ++ S b = S (a ++ b) := by
  rw [← S_list (S a ++ S b)]
  simp [list_S]
def WordsAnd (w : World) : Prop := WordsAt w ∧ maxLenCell w
/-- What the law's own function does with such a text. -/
def Tx (w : World) (L : List Tok) (e : Ending) (w' : World) : Prop := ∃ a c, e = .returned (.slice a L.length c) ∧ ToksAt w' a L ∧ Below w.heap.size w w'

set_option maxHeartbeats 8000000 in
set_option maxRecDepth 100000 in
theorem tagText_any (x : List UInt8) (L : List Tok) (w : World) (hm : maxLenCell w) (hx : x.length ≤ 30) (hc : cutM (tagTxt x) = (L, 0, 0)) :
    Calls Tryd.prog 8 #[.string (S x)] w (Tx w L) := by
  have HC := hid hc
  have HM := hid hm
  have hsz : (S x).size ≤ 30 := by rw [size_S]; exact hx
  have HS := hid (show (⟨#[105, 102, 32, 97, 100, 100, 114, 101, 115, 115, 32]⟩ : ByteArray) ++ S x ++ ⟨#[32, 34, 97, 34, 32, 34, 98, 34, 32, 123, 32, 125]⟩ = S (tagTxt x) by
    show S tagHead ++ S x ++ S tagTail = _
    rw [S_two, S_two]
    rfl)
  clear hc hm hx
  go_enter Tryd.func8, Tryd.ntmps8
  go_wp2_with fail
  rw [HS.out]
  refine (tcut_any (tagTxt x) _ HM.out).mono ?_
  rw [HC.out]
  rintro e w1 ⟨a, c, rfl, hA, hb⟩
  simp only
  have HA := hid hA
  have HB := hid hb
  clear hA hb
  go_wp2
  go_ret
  exact ⟨a, c, rfl, HA.out, HB.out⟩

def matsV : Array Value := #[.string ⟨#[105, 115]⟩, .string ⟨#[99, 111, 110, 116, 97, 105, 110, 115]⟩, .string ⟨#[109, 97, 116, 99, 104, 101, 115]⟩]
def partsV : Array Value := #[.string ⟨#[97, 108, 108]⟩, .string ⟨#[108, 111, 99, 97, 108, 112, 97, 114, 116]⟩, .string ⟨#[100, 111, 109, 97, 105, 110]⟩]
theorem mats_at (k : Nat) (h : k < 3) : matsV[k]? = some (.string (S (matW k))) := by
  match k, h with
  | 0, _ | 1, _ | 2, _ => rfl
theorem parts_at (k : Nat) (h : k < 3) : partsV[k]? = some (.string (S (partW k))) := by
  match k, h with
  | 0, _ | 1, _ | 2, _ => rfl

set_option maxHeartbeats 16000000 in
set_option maxRecDepth 100000 in
theorem scriptTags_walk (w : World) (hE : WordsAnd w) (k0 a b : Int) (s t : ByteArray) (ai : Option Addr) (li ci : Nat) (ha : (Lit.int .i64 a).wf = true) (hb : (Lit.int .i64 b).wf = true) :
    Calls Tryd.prog 4 #[.agg #[.int .i64 k0, .int .i64 a, .int .i64 b, .string s, .string t, .slice ai li ci]] w fun e w' => e = .returned (.bool true) ∧ Below w.heap.size w w' := by
  have HE := hid hE.1
  have HM := hid hE.2
  have HNA := hid ha
  have HNB := hid hb
  obtain ⟨k, hk⟩ : ∃ k, k = pickN a 3 := ⟨_, rfl⟩
  obtain ⟨j, hj⟩ : ∃ j, j = pickN b 3 := ⟨_, rfl⟩
  have hk3 : k < 3 := by rw [hk]; exact pickN_lt a 3 (by decide)
  have hj3 : j < 3 := by rw [hj]; exact pickN_lt b 3 (by decide)
  have HK := hid hk
  have HJ := hid hj
  obtain ⟨c1, c3, ⟨z1, L1, q1, p1, l1, s1⟩, ⟨z2, L2, q2, p2, l2, s2⟩, ⟨z3, L3, q3, p3, l3, s3⟩, ⟨z4, L4, q4, p4, l4, s4⟩, ⟨z5, L5, q5, p5, l5, s5⟩, n1, n3, m10, p10⟩ := tags_facts k j hk3 hj3
  obtain ⟨m, hmw⟩ : ∃ m, m = matW k := ⟨_, rfl⟩
  obtain ⟨p, hpw⟩ : ∃ p, p = partW j := ⟨_, rfl⟩
  have HMW := hid hmw
  have HPW := hid hpw
  rw [← hmw, ← hpw] at z1 q1 z2 q2
  rw [← hmw] at z5 q5 m10
  rw [← hpw] at p10
  have Q1 := hid q1
  have Q2 := hid q2
  have Q3 := hid q3
  have Q4 := hid q4
  have Q5 := hid q5
  have P1 := hid p1
  have P2 := hid p2
  have P3 := hid p3
  have P4 := hid p4
  have P5 := hid p5
  have Z1 := hid z1
  have Z2 := hid z2
  have Z3 := hid z3
  have Z4 := hid z4
  have Z5 := hid z5
  have S1 := hid s1
  have S2 := hid s2
  have S3 := hid s3
  have S4 := hid s4
  have S5 := hid s5
  have G1 := hid (show L1.length ≤ maxLen by unfold maxLen; omega)
  have G2 := hid (show L2.length ≤ maxLen by unfold maxLen; omega)
  have G3 := hid (show L3.length ≤ maxLen by unfold maxLen; omega)
  have G4 := hid (show L4.length ≤ maxLen by unfold maxLen; omega)
  have G5 := hid (show L5.length ≤ maxLen by unfold maxLen; omega)
  have hms : (S m).size ≤ 10 := by rw [size_S]; exact m10
  have hps : (S p).size ≤ 10 := by rw [size_S]; exact p10
  have T1 := hid (show (⟨#[58]⟩ : ByteArray) ++ S m ++ ⟨#[32, 58]⟩ ++ S p = S (twoTags m p) by
    show S [58] ++ S m ++ S [32, 58] ++ S p = _
    rw [S_two, S_two, S_two]; rfl)
  have T2 := hid (show (⟨#[58]⟩ : ByteArray) ++ S p ++ ⟨#[32, 58]⟩ ++ S m = S (twoTags p m) by
    show S [58] ++ S p ++ S [32, 58] ++ S m = _
    rw [S_two, S_two, S_two]; rfl)
  have T5 := hid (show (⟨#[58]⟩ : ByteArray) ++ S m ++ ⟨#[32, 58]⟩ ++ S m = S (twoTags m m) by
    show S [58] ++ S m ++ S [32, 58] ++ S m = _
    rw [S_two, S_two, S_two]; rfl)
  have n1' : ((c1.length : Int) == 1) = true := by rw [n1]; rfl
  have n3' : ((c3.length : Int) == 1) = true := by rw [n3]; rfl
  have i1 : (0 : Int) ≤ (k : Int) := by omega
  have i2 : (k : Int) < 3 := by omega
  have i3 : (0 : Int) ≤ (j : Int) := by omega
  have i4 : (j : Int) < 3 := by omega
  obtain ⟨W1, hW1⟩ : ∃ W1, W1 = (w.alloc (.cells #[.int .i64 k0, .int .i64 a, .int .i64 b, .string s, .string t, .slice ai li ci] 35)).alloc (.cells matsV 9) := ⟨_, rfl⟩
  have hz : (w.alloc (.cells #[.int .i64 k0, .int .i64 a, .int .i64 b, .string s, .string t, .slice ai li ci] 35)).heap.size = w.heap.size + 1 := by simp
  have hzW : W1.heap.size = w.heap.size + 1 + 1 := by rw [hW1]; simp
  have hB1 : Below w.heap.size w W1 := by rw [hW1]; exact ((Below.refl _ _).alloc (Nat.le_refl _) _).alloc (by simp) _
  have e0 : W1.heap[w.heap.size]? = some (.cells #[.int .i64 k0, .int .i64 a, .int .i64 b, .string s, .string t, .slice ai li ci] 35) := by rw [hW1, heap_low _ _ (by rw [hz]; omega)]; exact heap_alloc_new w _
  have e1 : W1.heap[w.heap.size + 1]? = some (.cells matsV 9) := by rw [hW1, ← hz]; exact heap_alloc_new _ _
  have x1 : W1.cell? ⟨w.heap.size + 1, k, none⟩ = some (.string (S m)) := by rw [cell_of e1, mats_at k hk3, ← HMW.out]
  have y1 : W1.cell? ⟨w.heap.size, 2, none⟩ = some (.int .i64 b) := by rw [cell_of e0]; rfl
  have x0 : W1.cell? ⟨w.heap.size, 1, none⟩ = some (.int .i64 a) := by rw [cell_of e0]; rfl
  obtain ⟨W2, hW2⟩ : ∃ W2, W2 = W1.alloc (.cells partsV 9) := ⟨_, rfl⟩
  have hB2a : Below W1.heap.size W1 W2 := by rw [hW2]; exact (Below.refl _ _).alloc (Nat.le_refl _) _
  have e2 : W2.heap[w.heap.size + 1 + 1]? = some (.cells partsV 9) := by rw [hW2, ← hzW]; exact heap_alloc_new _ _
  have x2 : W2.cell? ⟨w.heap.size + 1 + 1, j, none⟩ = some (.string (S p)) := by rw [cell_of e2, parts_at j hj3, ← HPW.out]
  have y2 : W2.cell? ⟨w.heap.size, 2, none⟩ = some (.int .i64 b) := wcell_next y1 hB2a
  have HB2 := hid (hB1.trans (hB2a.mono hB1.size))
  have HW1 := hid (show W1 = (w.alloc (.cells #[.int .i64 k0, .int .i64 a, .int .i64 b, .string s, .string t, .slice ai li ci] 35)).alloc (.cells #[.string ⟨#[105, 115]⟩, .string ⟨#[99, 111, 110, 116, 97, 105, 110, 115]⟩, .string ⟨#[109, 97, 116, 99, 104, 101, 115]⟩] 9) from hW1)
  have HW2 := hid (show W2 = W1.alloc (.cells #[.string ⟨#[97, 108, 108]⟩, .string ⟨#[108, 111, 99, 97, 108, 112, 97, 114, 116]⟩, .string ⟨#[100, 111, 109, 97, 105, 110]⟩] 9) from hW2)
  have HZW := hid hzW
  have hlt1 : w.heap.size < W1.heap.size := by omega
  have hne1 : w.heap.size ≠ W1.heap.size := by omega
  have HE2 := hid (HE.out.next HB2.out)
  have HM2 := hid (maxLenCell_below HM.out HB2.out)
  clear hE ha hb hk hj q1 q2 q3 q4 q5 p1 p2 p3 p4 p5 z1 z2 z3 z4 z5 s1 s2 s3 s4 s5 l1 l2 l3 l4 l5 n1 n3 m10 p10 hmw hpw hW1 hW2 hz hzW hB1 hB2a e0 e1 e2
  go_enter Tryd.func4, Tryd.ntmps4
  go_wp2_with fail
  rw [← HW1.out]
  refine (picked_any a 3 _ HNA.out (by decide) (by decide)).mono ?_
  rintro e u ⟨rfl, hu⟩
  have hu' := hu.symm
  subst hu'
  rw [← HK.out]
  go_wp2_with fail
  rw [← HW2.out]
  refine (picked_any b 3 _ HNB.out (by decide) (by decide)).mono ?_
  rintro e u ⟨rfl, hu⟩
  have hu' := hu.symm
  subst hu'
  rw [← HJ.out]
  try rw [HZW.out]
  go_wp2_with fail
  rw [T1.out]
  refine (tagText_any _ L1 _ HM2.out Z1.out Q1.out).mono ?_
  rintro e u1 ⟨a1, d1, rfl, hA, hb⟩
  have HBu1 := hid (HB2.out.trans (hb.mono HB2.out.size))
  have HEu1 := hid (HE2.out.next hb)
  have HMu1 := hid (maxLenCell_below HM2.out hb)
  have HA1 := hid hA
  clear hA hb
  go_wp2_with fail
  refine (parse_any a1 d1 L1 u1 HA1.out G1.out S1.out HEu1.out).mono ?_
  rw [P1.out]
  rintro e v1 ⟨b1, f1, rfl, hR, hb⟩
  simp only at hR ⊢
  have HBv1 := hid (HBu1.out.trans (hb.mono HBu1.out.size))
  have HEv1 := hid (HEu1.out.next hb)
  have HMv1 := hid (maxLenCell_below HMu1.out hb)
  have R1v1 := hid (show CmdsM anyB (L1.length + 3) v1 (.slice b1 c1.length f1) c1 from RowM.imp hR (fun _ _ => trivial) (Keeps.refl _ _) (fun _ _ h => CmdM.imp (fun _ _ => trivial) (Keeps.refl _ _) _ _ _ h))
  clear hR hb
  go_wp2_with fail
  rw [T2.out]
  refine (tagText_any _ L2 _ HMv1.out Z2.out Q2.out).mono ?_
  rintro e u2 ⟨a2, d2, rfl, hA, hb⟩
  have HBu2 := hid (HBv1.out.trans (hb.mono HBv1.out.size))
  have HEu2 := hid (HEv1.out.next hb)
  have HMu2 := hid (maxLenCell_below HMv1.out hb)
  have HA2 := hid hA
  have R1u2 := hid (R1v1.out.next hb)
  clear hA hb
  go_wp2_with fail
  refine (parse_any a2 d2 L2 u2 HA2.out G2.out S2.out HEu2.out).mono ?_
  rw [P2.out]
  rintro e v2 ⟨b2, f2, rfl, hR, hb⟩
  simp only at hR ⊢
  have HBv2 := hid (HBu2.out.trans (hb.mono HBu2.out.size))
  have HEv2 := hid (HEu2.out.next hb)
  have HMv2 := hid (maxLenCell_below HMu2.out hb)
  have R1v2 := hid (R1u2.out.next hb)
  have R2v2 := hid (show CmdsM anyB (L2.length + 3) v2 (.slice b2 c1.length f2) c1 from RowM.imp hR (fun _ _ => trivial) (Keeps.refl _ _) (fun _ _ h => CmdM.imp (fun _ _ => trivial) (Keeps.refl _ _) _ _ _ h))
  clear hR hb
  go_wp2_with fail
  refine (tagText_any [] L3 _ HMv2.out Z3.out Q3.out).mono ?_
  rintro e u3 ⟨a3, d3, rfl, hA, hb⟩
  have HBu3 := hid (HBv2.out.trans (hb.mono HBv2.out.size))
  have HEu3 := hid (HEv2.out.next hb)
  have HMu3 := hid (maxLenCell_below HMv2.out hb)
  have HA3 := hid hA
  have R1u3 := hid (R1v2.out.next hb)
  have R2u3 := hid (R2v2.out.next hb)
  clear hA hb
  go_wp2_with fail
  refine (parse_any a3 d3 L3 u3 HA3.out G3.out S3.out HEu3.out).mono ?_
  rw [P3.out]
  rintro e v3 ⟨b3, f3, rfl, hR, hb⟩
  simp only at hR ⊢
  have HBv3 := hid (HBu3.out.trans (hb.mono HBu3.out.size))
  have HEv3 := hid (HEu3.out.next hb)
  have HMv3 := hid (maxLenCell_below HMu3.out hb)
  have R1v3 := hid (R1u3.out.next hb)
  have R2v3 := hid (R2u3.out.next hb)
  have R3v3 := hid (show CmdsM anyB (L3.length + 3) v3 (.slice b3 c3.length f3) c3 from RowM.imp hR (fun _ _ => trivial) (Keeps.refl _ _) (fun _ _ h => CmdM.imp (fun _ _ => trivial) (Keeps.refl _ _) _ _ _ h))
  clear hR hb
  go_wp2_with fail
  refine (tagText_any [58, 97, 108, 108, 32, 58, 105, 115] L4 _ HMv3.out Z4.out Q4.out).mono ?_
  rintro e u4 ⟨a4, d4, rfl, hA, hb⟩
  have HBu4 := hid (HBv3.out.trans (hb.mono HBv3.out.size))
  have HEu4 := hid (HEv3.out.next hb)
  have HMu4 := hid (maxLenCell_below HMv3.out hb)
  have HA4 := hid hA
  have R1u4 := hid (R1v3.out.next hb)
  have R2u4 := hid (R2v3.out.next hb)
  have R3u4 := hid (R3v3.out.next hb)
  clear hA hb
  go_wp2_with fail
  refine (parse_any a4 d4 L4 u4 HA4.out G4.out S4.out HEu4.out).mono ?_
  rw [P4.out]
  rintro e v4 ⟨b4, f4, rfl, hR, hb⟩
  simp only at hR ⊢
  have HBv4 := hid (HBu4.out.trans (hb.mono HBu4.out.size))
  have HEv4 := hid (HEu4.out.next hb)
  have HMv4 := hid (maxLenCell_below HMu4.out hb)
  have R1v4 := hid (R1u4.out.next hb)
  have R2v4 := hid (R2u4.out.next hb)
  have R3v4 := hid (R3u4.out.next hb)
  have R4v4 := hid (show CmdsM anyB (L4.length + 3) v4 (.slice b4 c3.length f4) c3 from RowM.imp hR (fun _ _ => trivial) (Keeps.refl _ _) (fun _ _ h => CmdM.imp (fun _ _ => trivial) (Keeps.refl _ _) _ _ _ h))
  clear hR hb
  go_wp2_with fail
  rw [T5.out]
  refine (tagText_any _ L5 _ HMv4.out Z5.out Q5.out).mono ?_
  rintro e u5 ⟨a5, d5, rfl, hA, hb⟩
  have HBu5 := hid (HBv4.out.trans (hb.mono HBv4.out.size))
  have HEu5 := hid (HEv4.out.next hb)
  have HMu5 := hid (maxLenCell_below HMv4.out hb)
  have HA5 := hid hA
  have R1u5 := hid (R1v4.out.next hb)
  have R2u5 := hid (R2v4.out.next hb)
  have R3u5 := hid (R3v4.out.next hb)
  have R4u5 := hid (R4v4.out.next hb)
  clear hA hb
  go_wp2_with fail
  refine (parse_any a5 d5 L5 u5 HA5.out G5.out S5.out HEu5.out).mono ?_
  rw [P5.out]
  rintro e v5 ⟨b5, f5, rfl, hR, hb⟩
  simp only at hR ⊢
  have HBv5 := hid (HBu5.out.trans (hb.mono HBu5.out.size))
  have HEv5 := hid (HEu5.out.next hb)
  have HMv5 := hid (maxLenCell_below HMu5.out hb)
  have R1v5 := hid (R1u5.out.next hb)
  have R2v5 := hid (R2u5.out.next hb)
  have R3v5 := hid (R3u5.out.next hb)
  have R4v5 := hid (R4u5.out.next hb)
  clear hR hb
  go_wp2_with fail
  have C1 := hid (show CmdsM anyB (L1.length + L2.length + 3) v5 (.slice b1 c1.length f1) c1 from RowM.imp R1v5.out (fun _ h => h) (Keeps.refl _ _) (fun _ _ h => CmdM.more _ _ _ _ (by omega) h))
  have C2 := hid (show CmdsM anyB (L1.length + L2.length + 3) v5 (.slice b2 c1.length f2) c1 from RowM.imp R2v5.out (fun _ h => h) (Keeps.refl _ _) (fun _ _ h => CmdM.more _ _ _ _ (by omega) h))
  refine (sameCmd_any _ c1 v5 b1 b2 f1 f2 C1.out C2.out).mono ?_
  rintro e x1 ⟨rfl, hb⟩
  have HBx := hid (HBv5.out.trans (hb.mono HBv5.out.size))
  have C3 := hid (show CmdsM anyB (L3.length + L4.length + 3) x1 (.slice b3 c3.length f3) c3 from RowM.imp (R3v5.out.next hb) (fun _ h => h) (Keeps.refl _ _) (fun _ _ h => CmdM.more _ _ _ _ (by omega) h))
  have C4 := hid (show CmdsM anyB (L3.length + L4.length + 3) x1 (.slice b4 c3.length f4) c3 from RowM.imp (R4v5.out.next hb) (fun _ h => h) (Keeps.refl _ _) (fun _ _ h => CmdM.more _ _ _ _ (by omega) h))
  clear hb
  go_wp2_with fail
  refine (sameCmd_any _ c3 x1 b3 b4 f3 f4 C3.out C4.out).mono ?_
  rintro e x2 ⟨rfl, hb⟩
  have HBy := hid (HBx.out.trans (hb.mono HBx.out.size))
  clear hb
  go_wp2
  go_ret
  exact ⟨ret_bool (by first | rfl | simp), HBy.out⟩
end Go.Proofs.YtdmiidbncpgfpabDoor
