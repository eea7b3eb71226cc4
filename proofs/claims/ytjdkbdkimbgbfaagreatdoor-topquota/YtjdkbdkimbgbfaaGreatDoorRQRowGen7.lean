/-
  Rows and boxes in memory: what no function is named in.
-/
import Derived.Test.YtjdkbdkimbgbfaaGreatDoorRows
import Derived.Test.YtjdkbdkimbgbfaaGreatDoorRQWhoRd2
import Derived.Maps.OwnOps
import Derived.Maps.Views
import Derived.Maps.OwnSet
import Derived.Test.YtjdkbdkimbgbfaaGreatDoorCards
import Derived.Test.YtjdkbdkimbgbfaaGreatDoorTie
import Derived.ChangeOld
import Derived.Deep.DeepHandedRow
import Derived.Lib.LaidTab
import Derived.LaidSub
set_option maxHeartbeats 8000000
set_option maxRecDepth 100000
namespace Go.Proofs.YtjdkbdkimbgbfaaGreatDoor
open Go.RowKit
variable {Hs l : List (List UInt8)} {b s x : List UInt8} {N c g i k n : Nat} {Q : Nat -> Prop} {a : Option Addr} {A : Type} {w w' : World}
theorem RowM.takeR {P : A -> List Value -> Prop} {l : List A} (h : RowM Q k P w (.slice a l.length c) l) (m c' : Nat) (hm : m <= l.length) : RowM Q k P w (.slice a m c') (l.take m) := by
 obtain ⟨a', c0, hv, hs, hx⟩ := h; simp only [aE, true_and] at hv; obtain ⟨rfl, rfl⟩ := hv; have hl : (l.take m).length = m := by rw [bp]; omega
 refine ⟨a, c', by rw [hl], by omega, fun i x hi => ?_⟩; have hi' : i < m := by rw [<- hl]; exact (au.1 hi).1
 rw [List.getElem?_take_of_lt hi'] at hi; exact hx i x hi
theorem RowM.dropR {P : A -> List Value -> Prop} {b o : Nat} {l : List A} (h : RowM Q k P w (.slice (some ⟨b, o, none⟩) l.length c) l) (m n c' : Nat) (hn : n = l.length - m) : RowM Q k P w (.slice (some ⟨b, o + m * k, none⟩) n c') (l.drop m) := by
 obtain ⟨a', c0, hv, hs, hx⟩ := h; simp only [aE, true_and] at hv; obtain ⟨rfl, rfl⟩ := hv; have hl : (l.drop m).length = n := by rw [List.length_drop]; omega
 refine ⟨_, c', by rw [hl], by omega, fun i x hi => ?_⟩; rw [List.getElem?_drop] at hi; obtain ⟨b', o', cs, ha, h1, h2, h3, h4, h5⟩ := hx _ x hi; cases ha; refine ⟨_, _, cs, rfl, h1, h2, h3, fun j u hj => ?_, h5⟩; rw [show o + m * k + i * k + j = o + (m + i) * k + j by rw [Nat.add_mul]; omega]; exact h4 j u hj
theorem jco (o : Obj) {b : Nat} {x : Obj} (h : w.heap[b]? = some x) : (w.alloc o).heap[b]? = some x := by
 have hb := (aj.1 h).1
 show (w.heap.push o)[b]? = _
 rw [bm hb, <- aY hb]; exact h
theorem jgC (o : Obj) {b : Nat} (h : b = w.heap.size) : (w.alloc o).heap[b]? = some o := by rw [h]; exact az w o
open Go.Proofs
def TabAt (w : World) (g : Nat) (l : List (List UInt8)) : Prop := ∀ (i : Nat) x, l[i]? = some x -> w.cell? ⟨g, i, none⟩ = some (.string (S x))
theorem TabAt.next (h : TabAt w g l) (hb : Below w.heap.size w w') : TabAt w' g l := fun i x hx => ja (h i x hx) hb
def extT : List (List UInt8) := [jkv, rejW, envW, flgW]
def partT : List (List UInt8) := [jpy, toW]
def needT : List (List UInt8) := [[], [], [], [], [], jkv, [], rejW, flgW, flgW, []]
theorem jl3 {a : List UInt8} (h : a ≠ b) : ((S a).toList == (S b).toList) = false := by rw [aW, aW, ji, ji]; simpa using h
theorem jkq (i : Nat) (s : List UInt8) : (extT.drop i).contains s = match extT[i]? with
 | some x => decide (x = s) || (extT.drop (i + 1)).contains s
 | none => false := by
 match i with
 | 0 | 1 | 2 | 3 => simp [extT, eq_comm]
 | i + 4 => simp [extT]
theorem jpt (s : List UInt8) : extP s = (extT.drop 0).contains s := by
 simp [extP, extT, Bool.or_assoc]
theorem jjj (i : Nat) (s : List UInt8) : (partT.drop i).contains s = match partT[i]? with
 | some x => decide (x = s) || (partT.drop (i + 1)).contains s
 | none => false := by
 match i with
 | 0 | 1 => simp [partT, eq_comm]
 | i + 2 => simp [partT]
theorem jnK (s : List UInt8) : vv s = (partT.drop 0).contains s := by
 simp [vv, partT]
theorem jkO (s : List UInt8) (w : World) (hw : TabAt w 0 extT) :
 Calls Tryz.prog 121 #[.string (S s)] w fun e w' => e = .returned (.bool (extP s)) /\ w' = w := by
 have a0 := hw 0 _ rfl; have a1 := hw 1 _ rfl; have a2 := hw 2 _ rfl; have a3 := hw 3 _ rfl; have HN := hid (jpt s); clear hw; go_enter Tryz.func121, Tryz.ntmps121; go_wp2
 go_loopw [6] (fun v wr => ∃ i : Nat, i <= 4 /\ v = .int .i64 i /\ wr = w /\ Hid (extP s = (extT.drop i).contains s)) (fun v _ => 4 - (intOf v).toNat)
 case atStart => exact ⟨0, by omega, rfl, rfl, HN⟩
 case round =>
  obtain ⟨i, hi, rfl, rfl, hN⟩ := hrel
  by_cases hlt : i < 4
  . have i1 : (i : Int) < 4 := by omega
    obtain ⟨nm, gL⟩ : ∃ nm, extT[i]? = some nm := ⟨_, aw (by simpa [extT] using hlt)⟩; have fD : ∀ w : World, (Instr.index 238 (.agg #[.string (S jkv), .string (S rejW), .string (S envW), .string (S flgW)]) (.int .i64 i)).run Tryz.prog w = .ok (.string (S nm)) w := by
        intro w
        match i, hlt with
        | 0, _ | 1, _ | 2, _ | 3, _ => cases gL; rfl
    have HS := jkq i s; rw [gL] at HS; simp only at HS
    by_cases hs : nm = s
    . have HE := hid (show extP s = true by rw [hN.out, HS]; simp [hs]); have hq : ((S nm).toList == (S s).toList) = true := by rw [hs]; simp
      clear HS hs gL; go_wp2; go_ret; exact ⟨jc HE.out.symm, rfl⟩
    . have HE := hid (show extP s = (extT.drop (i + 1)).contains s by rw [hN.out, HS]; simp [hs]); have hq : ((S nm).toList == (S s).toList) = false := jl3 hs; clear HS hs gL; go_wp2
      case roundEnd => exact ⟨⟨i + 1, by omega, by go_num, trivial, HE⟩, by simp [intOf]; omega⟩
  . have i1 : ¬ (i : Int) < 4 := by omega
    have HE := hid (show extP s = false by rw [hN.out, aZ (by simp [extT]; omega)]; rfl); go_wp2; go_ret; exact ⟨jc HE.out.symm, rfl⟩
theorem jiX (s : List UInt8) (w : World) (hw : TabAt w 5 partT) :
 Calls Tryz.prog 251 #[.string (S s)] w fun e w' => e = .returned (.bool (vv s)) /\ w' = w := by
 have a0 := hw 0 _ rfl; have a1 := hw 1 _ rfl; have HN := hid (jnK s); clear hw; go_enter Tryz.func251, Tryz.ntmps251; go_wp2
 go_loopw [6] (fun v wr => ∃ i : Nat, i <= 2 /\ v = .int .i64 i /\ wr = w /\ Hid (vv s = (partT.drop i).contains s)) (fun v _ => 2 - (intOf v).toNat)
 case atStart => exact ⟨0, by omega, rfl, rfl, HN⟩
 case round =>
  obtain ⟨i, hi, rfl, rfl, hN⟩ := hrel
  by_cases hlt : i < 2
  . have i1 : (i : Int) < 2 := by omega
    obtain ⟨nm, gL⟩ : ∃ nm, partT[i]? = some nm := ⟨_, aw (by simpa [partT] using hlt)⟩; have fD : ∀ w : World, (Instr.index 340 (.agg #[.string (S jpy), .string (S toW)]) (.int .i64 i)).run Tryz.prog w = .ok (.string (S nm)) w := by
        intro w
        match i, hlt with
        | 0, _ | 1, _ => cases gL; rfl
    have HS := jjj i s; rw [gL] at HS; simp only at HS
    by_cases hs : nm = s
    . have HE := hid (show vv s = true by rw [hN.out, HS]; simp [hs]); have hq : ((S nm).toList == (S s).toList) = true := by rw [hs]; simp
      clear HS hs gL; go_wp2; go_ret; exact ⟨jc HE.out.symm, rfl⟩
    . have HE := hid (show vv s = (partT.drop (i + 1)).contains s by rw [hN.out, HS]; simp [hs]); have hq : ((S nm).toList == (S s).toList) = false := jl3 hs; clear HS hs gL; go_wp2
      case roundEnd => exact ⟨⟨i + 1, by omega, by go_num, trivial, HE⟩, by simp [intOf]; omega⟩
  . have i1 : ¬ (i : Int) < 2 := by omega
    have HE := hid (show vv s = false by rw [hN.out, aZ (by simp [partT]; omega)]; rfl); go_wp2; go_ret; exact ⟨jc HE.out.symm, rfl⟩
theorem ji8 (h : l[i]? = some x) : qo (l.drop i) = (decide (100 < x.length) || qo (l.drop (i + 1))) := by
 have hi : i < l.length := (au.1 h).1; have e : l[i] = x := (au.1 h).2; rw [aT hi, e]; rfl
theorem jaL (l : List (List UInt8)) (a : Option Addr) (c : Nat) (w : World) (hT : TxtsM anyB w (.slice a l.length c) l) :
 Calls Tryz.prog 231 #[.slice a l.length c] w fun e w' => e = .returned (.bool (qo l)) /\ w' = w := by
 have HT := hid hT; have ks := hT.small; unfold maxLen at ks; have HN : Hid (qo l = qo (l.drop 0)) := rfl; clear hT; go_enter Tryz.func231, Tryz.ntmps231; go_wp2
 go_loopw [7] (fun v wr => ∃ i : Nat, i <= l.length /\ v = .int .i64 i /\ wr = w /\ Hid (qo l = qo (l.drop i))) (fun v _ => l.length - (intOf v).toNat)
 case atStart => exact ⟨0, by omega, rfl, rfl, HN⟩
 case round =>
  obtain ⟨i, hi, rfl, rfl, hN⟩ := hrel
  by_cases hlt : i < l.length
  . have i1 : (i : Int) < (l.length : Int) := by omega
    have i0 : (0 : Int) <= (i : Int) := by omega
    obtain ⟨x, hx⟩ : ∃ x, l[i]? = some x := ⟨_, aw hlt⟩; have HS := hid (ji8 hx); obtain ⟨a', c', hv, _, hr⟩ := HT.out; simp only [aE, true_and] at hv; obtain ⟨rfl, rfl⟩ := hv; obtain ⟨b, o, cs, rfl, hbl, _, _, hc, hP⟩ := hr i x hx; have hcs : cs = [.string (S x)] := hP; subst hcs; have e0 : wr.cell? ⟨b, o + i, none⟩ = some (.string (S x)) := by simpa using hc 0 _ rfl
    have hsz : (S x).size = x.length := jb x; clear hc hr hP hx
    by_cases hf : 100 < x.length
    . have HE := hid (show qo l = true by rw [hN.out, HS.out]; simp [hf]); have j1 : (100 : Int) < ((S x).size : Int) := by rw [hsz]; omega
      clear hsz; go_wp2; go_ret; exact ⟨jc HE.out.symm, rfl⟩
    . have HE := hid (show qo l = qo (l.drop (i + 1)) by rw [hN.out, HS.out]; simp [hf]); have j1 : ¬ (100 : Int) < ((S x).size : Int) := by rw [hsz]; omega
      clear hsz; go_wp2
      case roundEnd => exact ⟨⟨i + 1, by omega, by go_num, trivial, HE⟩, by simp [intOf]; omega⟩
  . have i1 : ¬ (i : Int) < (l.length : Int) := by omega
    have HE := hid (show qo l = false by rw [hN.out, aZ (by omega)]; rfl); go_wp2; go_ret; exact ⟨jc HE.out.symm, rfl⟩
def oneA (s : List UInt8) : Bool := decide (s.length <= 100) && decide (qF s = s) && decide (vC s = 64 :: (vC s).drop 1) && decide (wrun ((vC s).drop 1) = (vC s).drop 1) && decide (vC ((vC s).drop 1) = []) && decide (jP (wrun s) ((vC s).drop 1) = 0) && decide (jiP s = 0)
theorem jlj (h : oneA s = true) : One s (wrun s) ((vC s).drop 1) /\ jiP s = 0 := by
 unfold oneA at h; simp only [aX, decide_eq_true_eq] at h; obtain ⟨⟨⟨⟨⟨⟨h1, h2⟩, h3⟩, h4⟩, h5⟩, h6⟩, h7⟩ := h; exact ⟨⟨by omega, h2, rfl, h3, h4, h5, h6⟩, h7⟩
theorem jnb (s : List UInt8) (w : World) (hs : oneA s = true) :
 Calls Tryz.prog 164 #[.string (S s)] w fun e w' => e = .returned (.int .i64 (jiP s)) /\ Below w.heap.size w w' := by
 have HL := hid (jnq s _ _ w (jlj hs).1); rw [(jlj hs).2]; clear hs; go_enter Tryz.func164, Tryz.ntmps164; go_wp2_with fail; refine HL.out.mono ?_; rintro e w1 ⟨⟨g, c, rfl⟩, hb1⟩; have bX := hid hb1; clear hb1; simp only; go_wp2; go_ret; exact ⟨rfl, bX.out⟩
open Go.Maps
theorem jk6 : Keyed Tryz.prog 9 := string_keyed Tryz.underlying9
theorem jk7 (w : World) : (zeroValue 3).run Tryz.prog w = .ok (.int .i64 0) w := by kernel_rfl
def ReqM (w : World) (B N : Nat) (Hs : List (List UInt8)) : Prop :=
 ∃ D : DataW Unit, w.ownsMap Tryz.prog 9 (plainElem Tryz.prog 3) B N D /\ ∀ s : List UInt8, ∃ c : Int, D.atKey (.string s) (.lit (.int .i64 0)) = .lit (.int .i64 c) /\ 0 <= c /\ c <= N /\ (0 < c ↔ s ∈ Hs)
theorem ReqM.next {B : Nat} (h : ReqM w B N Hs) (hb : Below w.heap.size w w') : ReqM w' B N Hs := by
 obtain ⟨D, ⟨es, clock, h1, h2⟩, h3⟩ := h; exact ⟨D, ⟨es, clock, (hb.block _ (aj.1 h1).1).trans h1, h2⟩, h3⟩
theorem ReqM.made (w : World) : ReqM (w.alloc (.map #[] 0)) w.heap.size 0 [] :=
 ⟨.map [], World.ownsMap_made _ _ _ _, fun s => ⟨0, rfl, Int.le_refl _, Int.le_refl _, by simp⟩⟩
theorem jkD (s : List UInt8) (hs : s.length <= maxLen) (w : World) (B N : Nat) (Hs : List (List UInt8)) (h : ReqM w B N Hs) :
 Calls Tryz.prog 162 #[.map (some B), .string (S s)] w fun e w' => e = .returned (.bool (hasP Hs s)) /\ w' = w := by
 obtain ⟨D, hown, hD⟩ := h; obtain ⟨c, hc, hc0, Dc, lH⟩ := hD s
 by_cases h0 : s = []
 . subst h0; have HR := hid (show hasP Hs [] = true from rfl); have uA : (S ([] : List UInt8)).toList = [] := by rw [aW, ji]
   go_enter Tryz.func162, Tryz.ntmps162; go_wp2; go_ret; exact ⟨jc HR.out.symm, rfl⟩
 . have hkey : keyOf Tryz.prog 9 (.string (S s)) = some (.string s) := by
    have := Go.WideMaps.keyOf_string_mk Tryz.underlying9 (s := S s) (by rw [jb]; exact hs); rw [ji] at this; exact this
   obtain ⟨c', hrun, hat, _⟩ := hown.lookup_int jk6 Tryz.underlying156 Tryz.underlying3 (jk7 _) hkey; have hcc : c' = c := by
    rw [hc] at hat
    simpa using hat.symm
   subst hcc; have oy : ¬ (S s).toList = [] := by rw [aW, ji]; exact h0
   have Du : (S s).toList.isEmpty = false := by rw [aW, ji]; cases s with
    | nil => exact absurd rfl h0
    | cons a r => rfl
   by_cases hm : s ∈ Hs
   . have hp : 0 < c' := lH.2 hm; have HR := hid (show hasP Hs s = true by unfold hasP; simp [hm]); clear hD hown hc lH hat hkey; go_enter Tryz.func162, Tryz.ntmps162; go_wp2; go_ret; exact ⟨jc HR.out.symm, rfl⟩
   . have hp : ¬ 0 < c' := fun h => hm (lH.1 h)
     have HR := hid (show hasP Hs s = false by unfold hasP; simp [hm, h0]); clear hD hown hc lH hat hkey; go_enter Tryz.func162, Tryz.ntmps162; go_wp2; go_ret; exact ⟨jc HR.out.symm, rfl⟩
theorem jig {l : List Cmd} {x : Cmd} (h : l[i]? = some x) : zx (l.drop i) = if x.kind = 1 then zx (l.drop (i + 1)) + 1 else 0 := by
 have hi : i < l.length := (au.1 h).1; have e : l[i] = x := (au.1 h).2; rw [aT hi, e]; rfl
theorem jeZ (n : Nat) (l : List Cmd) (a : Option Addr) (k : Nat) (w : World) (h : CmdsM anyB n w (.slice a l.length k) l) :
 Calls Tryz.prog 75 #[.slice a l.length k] w fun e w' => e = .returned (.int .i64 (zx l : Nat)) /\ Below w.heap.size w w' := by
 have H3 := hid h; have hmx := h.small; unfold maxLen at hmx; have HR := hid (show zx l = 0 + zx (l.drop 0) by simp); clear h; go_enter Tryz.func75, Tryz.ntmps75; go_wp2
 go_loopw [7] (fun v wr => ∃ i : Nat, i <= l.length /\ v = .int .i64 i /\ Hid (Below w.heap.size w wr) /\ Hid (zx l = i + zx (l.drop i))) (fun v _ => l.length - (intOf v).toNat)
 case atStart => exact ⟨0, aQ _, rfl, ay _ _, HR⟩
 case round =>
  obtain ⟨i, hi, rfl, HB, hN⟩ := hrel
  by_cases hlt : i < l.length
  . have i1 : (i : Int) < (l.length : Int) := by omega
    have i3 : (0 : Int) <= (i : Int) := by omega
    obtain ⟨x, hx⟩ : ∃ x, l[i]? = some x := ⟨_, aw hlt⟩; have HS := hid (jig hx); obtain ⟨b, o, ax, cx, an, cn, ak, ck, at', ct, aa, ca, ae, ce, rfl, hbl, e0, e1, e2, e3, e4, e5, e6, e7, e8, e9, e10, e11, hT⟩ := jaX (H3.out.next HB.out) hx; have cu := hid (HB.out.alloc (o := .cells #[.int .i64 x.kind, .slice ax x.texts.length cx, .int .i64 x.test.kind, .int .i64 x.test.mat, .int .i64 x.test.part, .slice an x.test.names.length cn, .slice ak x.test.keys.length ck, .bool x.test.over, .int .i64 x.test.limit, .slice at' x.test.tests.length ct, .slice aa x.thn.length ca, .slice ae x.els.length ce] 201) HB.out.size); clear hx hT
    by_cases hk : x.kind = 1
    . have cY := hid (show zx l = (i + 1) + zx (l.drop (i + 1)) by rw [hN.out, HS.out, if_pos hk]; omega); have hkb : (x.kind == 1) = true := by simpa using hk
      clear hk; go_wp2
      case roundEnd => exact ⟨⟨i + 1, by omega, by go_num, cu, cY⟩, by simp [intOf]; omega⟩
    . have cY := hid (show zx l = i by rw [hN.out, HS.out, if_neg hk]; omega); have hkb : (x.kind == 1) = false := by simpa using hk
      clear hk; go_wp2; go_ret; exact ⟨jd (by rw [cY.out]), cu.out⟩
  . have i1 : ¬ (i : Int) < (l.length : Int) := by omega
    have HE := hid (show zx l = l.length by rw [hN.out, aZ (by omega)]; show i + 0 = _; omega); go_wp2; go_ret; exact ⟨jd (by rw [HE.out]), HB.out⟩
theorem ReqM.count {D : DataW Unit} (hM : IsMap D) (h : ∀ s : List UInt8, ∃ c : Int, D.atKey (.string s) (.lit (.int .i64 0)) = .lit (.int .i64 c) /\ 0 <= c /\ c <= N /\ (0 < c ↔ s ∈ Hs)) (x : List UInt8) (c : Int) (hc : D.atKey (.string x) (.lit (.int .i64 0)) = .lit (.int .i64 c)) (hx : WideAt.IsKeyLit (.string x)) :
 ∀ s : List UInt8, ∃ c' : Int, (D.put (.string x) (.lit (.int .i64 (c + 1)))).atKey (.string s) (.lit (.int .i64 0)) = .lit (.int .i64 c') /\ 0 <= c' /\ c' <= ((N + 1 : Nat) : Int) /\ (0 < c' ↔ s ∈ Hs ++ [x]) := by
 intro s
 by_cases hs : s = x
 . subst hs; obtain ⟨c1, h1, h2, h3, h4⟩ := h s; have e : c1 = c := by rw [hc] at h1; simpa using h1.symm
   subst e; exact ⟨c1 + 1, atKey_put_same hM hx _ _, by omega, by omega, by simp; omega⟩
 . obtain ⟨c1, h1, h2, h3, h4⟩ := h s; refine ⟨c1, (atKey_put_other (by simpa using hs) _ _).trans h1, h2, by omega, ?_⟩; rw [h4]; simp [hs]
def jf9 (w : World) (l : List Cmd) (e : Ending) (w' : World) : Prop :=
 if (l.flatMap (·.texts)).all extP = true then (∃ N, e = .returned (.tuple #[.map (some w.heap.size), .int .i64 0]) /\ ReqM w' w.heap.size N (l.flatMap (·.texts))) /\ Below w.heap.size w w'
 else e = .returned (.tuple #[.map none, .int .i64 7]) /\ Below w.heap.size w w'
theorem jcF {l : List Cmd} {x : Cmd} (h : l[i]? = some x) : (l.take (i + 1)).flatMap (·.texts) = (l.take i).flatMap (·.texts) ++ x.texts := by
 have hi : i < l.length := (au.1 h).1; have e : l[i] = x := (au.1 h).2; rw [aU hi, List.flatMap_append, e]
 simp
theorem jl9 (h : l[i]? = some x) : l.take (i + 1) = l.take i ++ [x] := by
 have hi : i < l.length := (au.1 h).1; have e : l[i] = x := (au.1 h).2; rw [aU hi, e]
theorem jfg {l : List Cmd} {j : Nat} {x : Cmd} (h : l[i]? = some x) (hj : j <= x.texts.length) : ((l.take i).flatMap (·.texts) ++ x.texts.take j).length <= (l.flatMap (·.texts)).length := by
 have hi : i < l.length := (au.1 h).1; have h1 : l.flatMap (·.texts) = (l.take (i + 1)).flatMap (·.texts) ++ (l.drop (i + 1)).flatMap (·.texts) := by rw [<- List.flatMap_append, List.take_append_drop]
 rw [h1, jcF h]
 simp
 omega
theorem jkr (h : extP s = true) : s.length <= maxLen := by
 unfold maxLen; simp only [extP, Bool.or_eq_true, decide_eq_true_eq] at h
 rcases h with ((rfl | rfl) | rfl) | rfl <;> decide
theorem jfJ (n : Nat) (l : List Cmd) (a : Option Addr) (k : Nat) (w : World) (hl : (l.flatMap (·.texts)).length <= 400) (hw : TabAt w 0 extT) (h : CmdsM anyB n w (.slice a l.length k) l) :
 Calls Tryz.prog 76 #[.slice a l.length k] w (jf9 w l) := by
 have H3 := hid h; have HW := hid hw; have hmx := h.small; unfold maxLen at hmx; have mu := @run_makeMap Tryz.prog; clear h hw; go_enter Tryz.func76, Tryz.ntmps76; go_wp2; clear mu
 go_loopw [12] (fun v wr => ∃ i : Nat, i <= l.length /\ v = .int .i64 i /\ Hid (Below w.heap.size w wr) /\ Hid (ReqM wr w.heap.size ((l.take i).flatMap (·.texts)).length ((l.take i).flatMap (·.texts))) /\ Hid (((l.take i).flatMap (·.texts)).all extP = true)) (fun v _ => l.length - (intOf v).toNat)
 case atStart => exact ⟨0, aQ _, rfl, nb0 _ _, ReqM.made w, rfl⟩
 case round =>
  obtain ⟨i, hi, rfl, HB, HM, HA⟩ := hrel
  by_cases hlt : i < l.length
  . have i1 : (i : Int) < (l.length : Int) := by omega
    have i3 : (0 : Int) <= (i : Int) := by omega
    obtain ⟨x, hx⟩ : ∃ x, l[i]? = some x := ⟨_, aw hlt⟩; have HX := hid hx; obtain ⟨b, o, ax, cx, an, cn, ak, ck, at', ct, aa, ca, ae, ce, rfl, hbl, e0, e1, e2, e3, e4, e5, e6, e7, e8, e9, e10, e11, hT⟩ := jaX H3.out hx; obtain ⟨_, _, _, _, _, _, _, _, _, _, _, _, m, hm, he, eR, _, _, _⟩ := zN hT; simp only [List.cons.injEq, aE, true_and, and_true] at he; obtain ⟨⟨rfl, rfl⟩, -⟩ := he; have eW := hid eR; clear hT hm eR hx; replace e0 := ja e0 HB.out; replace e1 := ja e1 HB.out; replace e2 := ja e2 HB.out; replace e3 := ja e3 HB.out; replace e4 := ja e4 HB.out; replace e5 := ja e5 HB.out; replace e6 := ja e6 HB.out; replace e7 := ja e7 HB.out; replace e8 := ja e8 HB.out; replace e9 := ja e9 HB.out; replace e10 := ja e10 HB.out; replace e11 := ja e11 HB.out; obtain ⟨wo, CP⟩ : ∃ wo, wo = wr := ⟨_, rfl⟩; subst CP; obtain ⟨W1, hW1⟩ : ∃ W1, W1 = wo.alloc (.cells #[.int .i64 x.kind, .slice ax x.texts.length cx, .int .i64 x.test.kind, .int .i64 x.test.mat, .int .i64 x.test.part, .slice an x.test.names.length cn, .slice ak x.test.keys.length ck, .bool x.test.over, .int .i64 x.test.limit, .slice at' x.test.tests.length ct, .slice aa x.thn.length ca, .slice ae x.els.length ce] 201) := ⟨_, rfl⟩; have bX := hid (show Below wo.heap.size wo W1 by rw [hW1]; exact nb0 _ _); have b9 := hid hW1; clear hW1; have Cw := eW.out.small; unfold maxLen at Cw; go_wp2; rw [<- b9.out]; clear b9 e0 e1 e2 e3 e4 e5 e6 e7 e8 e9 e10 e11
    go_loopw [19] (fun v wr => ∃ j : Nat, j <= x.texts.length /\ v = .int .i64 j /\ Hid (Below w.heap.size w wr) /\ Hid (ReqM wr w.heap.size ((l.take i).flatMap (·.texts) ++ x.texts.take j).length ((l.take i).flatMap (·.texts) ++ x.texts.take j)) /\ Hid (((l.take i).flatMap (·.texts) ++ x.texts.take j).all extP = true)) (fun v _ => x.texts.length - (intOf v).toNat)
    case atStart => exact ⟨0, aQ _, rfl, HB.out.trans (bX.out.mono HB.out.size), by unfold Hid; simp only [List.take_zero, bO]; exact HM.out.next bX.out, by unfold Hid; simp only [List.take_zero, bO]; exact HA.out⟩
    case round =>
        obtain ⟨j, hj, rfl, bY, tr, lZ⟩ := hrel
        by_cases su : j < x.texts.length
        . have j1 : (j : Int) < (x.texts.length : Int) := by omega
          have j3 : (0 : Int) <= (j : Int) := by omega
          obtain ⟨s, hs⟩ : ∃ s, x.texts[j]? = some s := ⟨_, aw su⟩; have HST := hid (jl9 hs); have Bk := hid (jfg HX.out (j := j + 1) (by omega)); obtain ⟨a', c', hv, _, hr⟩ := eW.out.next bY.out; simp only [aE, true_and] at hv; obtain ⟨rfl, rfl⟩ := hv; obtain ⟨bt, ot, cs, rfl, Da, _, _, hc, hP⟩ := hr j s hs; have hcs : cs = [.string (S s)] := hP; subst hcs; have d0 : wr.cell? ⟨bt, ot + j, none⟩ = some (.string (S s)) := by simpa using hc 0 _ rfl
          have Bq := hid hs; clear hc hr hP hs; go_wp2_with fail; refine (jkO s wr (HW.out.next bY.out)).mono ?_; rintro e u ⟨rfl, hu⟩; have b6 := hu.symm; subst b6; clear hu
          by_cases hx : extP s = true
          . have i6 := hid hx; rw [hx]; clear hx; obtain ⟨D, hown, hD⟩ := tr.out; have HD := hid hD; have hkey : keyOf Tryz.prog 9 (.string (S s)) = some (.string s) := by
             have := Go.WideMaps.keyOf_string_mk Tryz.underlying9 (s := S s) (by rw [jb]; exact jkr i6.out); rw [ji] at this; exact this
            have BV : ((l.take i).flatMap (·.texts) ++ x.texts.take j).length < maxLen := by
             have := jfg HX.out (j := j) (by omega); unfold maxLen; omega
            generalize hN : ((l.take i).flatMap (·.texts) ++ x.texts.take j).length = N at *; clear hD
            go_wp2_with (first
             | (at_lookup; refine wpList_lookup_own_int _ rfl _ _ 156 rfl 9 3 .i64 jk6 Tryz.underlying156 Tryz.underlying3 (jk7 _) w.heap.size N D rfl hown _ _ rfl hkey ?_; intro c hat hwc)
             | (at_mapUpdate; refine wpList_mapUpdate_own _ rfl _ _ _ 156 rfl 9 3 jk6 Tryz.underlying156 _ w.heap.size N D rfl hown BV _ _ _ rfl rfl hkey _ [] (plainElem_int Tryz.underlying3 (wrap64_wf _)) ?_; intro w1 hown1 cN)
             | go_in)
            case roundEnd =>
             obtain ⟨c', h1, h2, h3, h4⟩ := HD.out s; have hcc : c = c' := by rw [hat] at h1; simpa using h1
             subst hcc; have pA : ((l.take i).flatMap (·.texts) ++ x.texts.take (j + 1)).length = N + 1 := by rw [HST.out, <- aH, aB, hN]; rfl
             have C5 : N + 1 <= 400 := by have := Bk.out; rw [pA] at this; omega
             have hwr : wrap64 (c + 1) = c + 1 := by
              unfold wrap64; omega
             rw [hwr] at hown1; have A2 := hid (show ReqM w1 w.heap.size ((l.take i).flatMap (·.texts) ++ x.texts.take (j + 1)).length ((l.take i).flatMap (·.texts) ++ x.texts.take (j + 1)) by
              rw [pA, HST.out, <- aH]; exact ⟨_, hown1, ReqM.count hown.isMap HD.out s c hat trivial⟩)
             exact ⟨⟨j + 1, by omega, by go_num, bY.out.grown cN bY.out.size (fun j hj => by cases hj; exact ai _), A2, by unfold Hid; rw [HST.out, <- aH, List.all_append, lZ.out]; simp [i6.out]⟩, by simp [intOf]; omega⟩
          . have hx : extP s = false := by simpa using hx
            have HE := hid (show jf9 w l (.returned (.tuple #[.map none, .int .i64 7])) wr by
             unfold jf9; rw [if_neg ?_]
             . exact ⟨rfl, bY.out⟩
             . intro hall; have := List.all_eq_true.1 hall s (List.mem_flatMap.2 ⟨x, aF HX.out, aF Bq.out⟩); rw [hx] at this; cases this)
            rw [hx]; clear hx; go_wp2; go_ret2; exact HE.out
        . have j1 : ¬ (j : Int) < (x.texts.length : Int) := by omega
          have uY : j = x.texts.length := by omega
          have A1 := hid (show ReqM wr w.heap.size ((l.take (i + 1)).flatMap (·.texts)).length ((l.take (i + 1)).flatMap (·.texts)) by
            rw [jcF HX.out]; rw [uY, aV (ai _)] at tr; exact tr.out)
          have Aj := hid (show ((l.take (i + 1)).flatMap (·.texts)).all extP = true by
            rw [jcF HX.out]; rw [uY, aV (ai _)] at lZ; exact lZ.out)
          clear uY; go_wp2
          go_roundw
          case rel => exact ⟨i + 1, by omega, by go_num, bY, A1, Aj⟩
          case measure => simp [intOf]; omega
  . have i1 : ¬ (i : Int) < (l.length : Int) := by omega
    have pN : i = l.length := by omega
    have HE := hid (show jf9 w l (.returned (.tuple #[.map (some w.heap.size), .int .i64 0])) wr by
        rw [pN, aV (ai _)] at HM HA; unfold jf9; rw [if_pos HA.out]; exact ⟨⟨_, rfl, HM.out⟩, HB.out⟩)
    clear pN; go_wp2; go_ret2; exact HE.out
def jbO (i : Nat) : List UInt8 := (flagTab.getD i ([], 0)).1
def jbP (i : Nat) : Nat := (flagTab.getD i ([], 0)).2
def FlagsAt (w : World) : Prop := ∀ i : Nat, i < 5 -> w.cell? ⟨4, i * 2, none⟩ = some (.string (S (jbO i))) /\ w.cell? ⟨4, i * 2 + 1, none⟩ = some (.int .i64 (jbP i : Nat))
theorem FlagsAt.next (h : FlagsAt w) (hb : Below w.heap.size w w') : FlagsAt w' := fun i hi => ⟨ja (h i hi).1 hb, ja (h i hi).2 hb⟩
def jae (i : Nat) (s : List UInt8) : Nat := jfd (flagTab.drop i) s
theorem jc9 (i : Nat) (s : List UInt8) (h : i < 5) : jae i s = if (jbO i) = s then (jbP i) else jae (i + 1) s := by
 match i, h with
 | 0, _ | 1, _ | 2, _ | 3, _ | 4, _ => rfl
theorem jm5 {a : List UInt8} (h : a ≠ b) : ((S a).toList == (S b).toList) = false := by rw [aW, aW, ji, ji]; simpa using h
theorem jiN (s : List UInt8) (w : World) (hw : FlagsAt w) :
 Calls Tryz.prog 202 #[.string (S s)] w fun e w' => e = .returned (.int .i64 (jce s : Nat)) /\ Below w.heap.size w w' := by
 have a0 := (hw 0 (by omega)).1; have a1 := (hw 1 (by omega)).1; have a2 := (hw 2 (by omega)).1; have a3 := (hw 3 (by omega)).1; have a4 := (hw 4 (by omega)).1; have b0 := (hw 0 (by omega)).2; have b1 := (hw 1 (by omega)).2; have b2 := (hw 2 (by omega)).2; have b3 := (hw 3 (by omega)).2; have b4 := (hw 4 (by omega)).2; simp only [Nat.zero_mul, bc, Nat.one_mul, Nat.reduceMul, Nat.reduceAdd] at a0 a1 a2 a3 a4 b0 b1 b2 b3 b4; have HN : Hid (jce s = jae 0 s) := rfl; clear hw; go_enter Tryz.func202, Tryz.ntmps202; go_wp2
 go_loopw [6] (fun v wr => ∃ i : Nat, i <= 5 /\ v = .int .i64 i /\ Hid (Below w.heap.size w wr) /\ Hid (jce s = jae i s)) (fun v _ => 5 - (intOf v).toNat)
 case atStart => exact ⟨0, by omega, rfl, ay _ _, HN⟩
 case round =>
  obtain ⟨i, hi, rfl, HB, hN⟩ := hrel
  by_cases hlt : i < 5
  . have i1 : (i : Int) < 5 := by omega
    obtain ⟨nm, gL⟩ : ∃ nm, nm = (jbO i) := ⟨_, rfl⟩; obtain ⟨fl, ff⟩ : ∃ fl, fl = (jbP i) := ⟨_, rfl⟩; have fD : ∀ w : World, (Instr.index 304 (.agg #[.string (S (jbO 0)), .int .i64 (jbP 0 : Nat), .string (S (jbO 1)), .int .i64 (jbP 1 : Nat), .string (S (jbO 2)), .int .i64 (jbP 2 : Nat), .string (S (jbO 3)), .int .i64 (jbP 3 : Nat), .string (S (jbO 4)), .int .i64 (jbP 4 : Nat)]) (.int .i64 i)).run Tryz.prog w = .ok (.agg #[.string (S nm), .int .i64 (fl : Nat)]) w := by
        intro w; rw [gL, ff]
        match i, hlt with
        | 0, _ | 1, _ | 2, _ | 3, _ | 4, _ => rfl
    have HS := jc9 i s hlt; rw [<- gL, <- ff] at HS; have iK := hid (HB.out.alloc (o := .cells #[.string (S nm), .int .i64 (fl : Nat)] 303) HB.out.size)
    by_cases hs : nm = s
    . have HE : Hid (jce s = fl) := by unfold Hid; rw [hN.out, HS, if_pos hs]
      have hq : ((S nm).toList == (S s).toList) = true := by rw [hs]; simp
      clear HS hs gL ff; go_wp2; go_ret; exact ⟨jd (by rw [HE.out]), iK.out⟩
    . have HE : Hid (jce s = jae (i + 1) s) := by unfold Hid; rw [hN.out, HS, if_neg hs]
      have hq : ((S nm).toList == (S s).toList) = false := jm5 hs; clear HS hs gL ff; go_wp2
      case roundEnd => exact ⟨⟨i + 1, by omega, by go_num, iK, HE⟩, by simp [intOf]; omega⟩
  . have i1 : ¬ (i : Int) < 5 := by omega
    have HE : Hid (jce s = 0) := by
        have h5 : i = 5 := by omega
        unfold Hid; rw [hN.out, h5]; rfl
    go_wp2; go_ret; exact ⟨jd (by rw [HE.out]; rfl), HB.out⟩
theorem jmJ : ∀ n : Fin 32, ∀ f : Fin 32, bits .or .i64 ((n.val : Nat) : Int) ((f.val : Nat) : Int) = ((n.val ||| f.val : Nat) : Int) := by decide +kernel
theorem jo8 {f : Nat} (hn : n < 32) (hf : f < 32) : bits .or .i64 (n : Int) (f : Int) = ((n ||| f : Nat) : Int) := jmJ ⟨n, hn⟩ ⟨f, hf⟩
def jfe (o : Option Nat) : Value := match o with
 | some n => .tuple #[.int .i64 (n : Nat), .int .i64 0]
 | none => .tuple #[.int .i64 0, .int .i64 7]
theorem jgz (h : l[i]? = some x) : jcE n (l.drop i) = if jce x = 0 then none else jcE (n ||| jce x) (l.drop (i + 1)) := by
 have hi : i < l.length := (au.1 h).1; have e : l[i] = x := (au.1 h).2; rw [aT hi, e]; rfl
theorem jff (l : List (List UInt8)) (a : Option Addr) (c : Nat) (w : World) (hw : FlagsAt w) (hT : TxtsM anyB w (.slice a l.length c) l) :
 Calls Tryz.prog 163 #[.slice a l.length c] w fun e w' => e = .returned (jfe (vT l)) /\ Below w.heap.size w w' := by
 have HW := hid hw; have HT := hid hT; have ks := hT.small; unfold maxLen at ks; have HN : Hid (vT l = jcE 0 (l.drop 0)) := rfl; clear hw hT; go_enter Tryz.func163, Tryz.ntmps163; go_wp2
 go_loopw [4, 10] (fun f v wr => ∃ (i n : Nat), i <= l.length /\ n < 32 /\ f = .int .i64 (n : Nat) /\ v = .int .i64 i /\ Hid (Below w.heap.size w wr) /\ Hid (vT l = jcE n (l.drop i))) (fun _ v _ => l.length - (intOf v).toNat)
 case atStart => exact ⟨0, 0, by omega, by omega, rfl, rfl, ay _ _, HN⟩
 case round =>
  obtain ⟨i, n, hi, hn, rfl, rfl, HB, hN⟩ := hrel
  by_cases hlt : i < l.length
  . have i1 : (i : Int) < (l.length : Int) := by omega
    have i0 : (0 : Int) <= (i : Int) := by omega
    obtain ⟨x, hx⟩ : ∃ x, l[i]? = some x := ⟨_, aw hlt⟩; have HS := hid (jgz (n := n) hx); obtain ⟨a', c', hv, _, hr⟩ := HT.out.next HB.out; simp only [aE, true_and] at hv; obtain ⟨rfl, rfl⟩ := hv; obtain ⟨b, o, cs, rfl, hbl, _, _, hc, hP⟩ := hr i x hx; have hcs : cs = [.string (S x)] := hP; subst hcs; have e0 : wr.cell? ⟨b, o + i, none⟩ = some (.string (S x)) := by simpa using hc 0 _ rfl
    have dZ := hid (HW.out.next HB.out); clear hc hr hP hx; go_wp2_with fail; refine (jiN x wr dZ.out).mono ?_; rintro e w2 ⟨rfl, hb2⟩; have bY := hid (HB.out.trans (hb2.mono HB.out.size)); have ff := jm4 x; clear hb2; generalize jce x = f at *
    by_cases hf : f = 0
    . subst hf; have HE := hid (show vT l = none by rw [hN.out, HS.out, if_pos rfl]); go_wp2; go_ret2; exact ⟨by rw [HE.out]; rfl, bY.out⟩
    . have HE := hid (show vT l = jcE (n ||| f) (l.drop (i + 1)) by rw [hN.out, HS.out, if_neg hf]); have dI : ((f : Int) == 0) = false := by simpa using hf
      have CC := jqP hn ff; go_wp2
      case roundEnd => exact ⟨⟨i + 1, n ||| f, by omega, CC, by rw [jo8 hn ff], by go_num, bY, HE⟩, by simp [intOf]; omega⟩
  . have i1 : ¬ (i : Int) < (l.length : Int) := by omega
    have HE := hid (show vT l = some n by rw [hN.out, aZ (by omega)]; rfl); go_wp2; go_ret2; exact ⟨by rw [HE.out]; rfl, HB.out⟩
theorem jfD (h : l[i]? = some x) : (l.drop i).all vv = (vv x && (l.drop (i + 1)).all vv) := by
 have hi : i < l.length := (au.1 h).1; have e : l[i] = x := (au.1 h).2; rw [aT hi, e]; rfl
theorem je3 (t : Tst) (w : World) (an ak at' : Option Addr) (cn ck ct B N : Nat) (H : List (List UInt8)) (hM : ReqM w B N H) (hw : TabAt w 5 partT)
 (hT : TxtsM anyB w (.slice an t.names.length cn) t.names) :
 Calls Tryz.prog 230 #[.map (some B), .agg #[.int .i64 t.kind, .int .i64 t.mat, .int .i64 t.part, .slice an t.names.length cn, .slice ak t.keys.length ck, .bool t.over, .int .i64 t.limit, .slice at' t.tests.length ct]] w
  fun e w' => e = .returned (.int .i64 (envP H t)) /\ Below w.heap.size w w' := by
 have ks := hT.small; unfold maxLen at ks; obtain ⟨W0, hW0⟩ : ∃ W0, W0 = w.alloc (.cells #[.int .i64 t.kind, .int .i64 t.mat, .int .i64 t.part, .slice an t.names.length cn, .slice ak t.keys.length ck, .bool t.over, .int .i64 t.limit, .slice at' t.tests.length ct] 199) := ⟨_, rfl⟩; have cj := hid (show Below w.heap.size w W0 by rw [hW0]; exact nb0 _ _); have hH : W0.heap[w.heap.size]? = some (.cells #[.int .i64 t.kind, .int .i64 t.mat, .int .i64 t.part, .slice an t.names.length cn, .slice ak t.keys.length ck, .bool t.over, .int .i64 t.limit, .slice at' t.tests.length ct] 199) := by rw [hW0]; exact az w _
 have b9 := hid hW0; have g3 : W0.cell? ⟨w.heap.size, 3, none⟩ = some (.slice an t.names.length cn) := by simp [World.cell?, hH]
 have HM := hid (hM.next cj.out); have HP := hid (hw.next cj.out); have HT := hid (hT.next cj.out); have HN := hid (show t.names.all vv = (t.names.drop 0).all vv from rfl); clear hM hw hT hH hW0; go_enter Tryz.func230, Tryz.ntmps230; go_wp2_with fail; rw [<- b9.out]; refine (jkD envW (by decide) W0 B N H HM.out).mono ?_; rintro e u ⟨rfl, rfl⟩; simp only
 by_cases hh : hasP H envW = true
 . rw [hh]; have HE := hid (show envP H t = if t.names.all vv then 0 else 7 by unfold envP; simp [hh]); clear hh; go_wp2
   go_loopw [13] (fun v wr => ∃ i : Nat, i <= t.names.length /\ v = .int .i64 i /\ wr = u /\ Hid (t.names.all vv = (t.names.drop i).all vv)) (fun v _ => t.names.length - (intOf v).toNat)
   case atStart => exact ⟨0, by omega, rfl, rfl, HN⟩
   case round =>
    obtain ⟨i, hi, rfl, rfl, hN⟩ := hrel
    by_cases hlt : i < t.names.length
    . have i1 : (i : Int) < (t.names.length : Int) := by omega
      have i0 : (0 : Int) <= (i : Int) := by omega
      obtain ⟨x, hx⟩ : ∃ x, t.names[i]? = some x := ⟨_, aw hlt⟩; have HS := hid (jfD hx); obtain ⟨a', c', hv, _, hr⟩ := HT.out; simp only [aE, true_and] at hv; obtain ⟨rfl, rfl⟩ := hv; obtain ⟨b, o, cs, rfl, hbl, _, _, hc, hP⟩ := hr i x hx; have hcs : cs = [.string (S x)] := hP; subst hcs; have e0 : wr.cell? ⟨b, o + i, none⟩ = some (.string (S x)) := by simpa using hc 0 _ rfl
      clear hc hr hP hx; go_wp2_with fail; refine (jiX x wr HP.out).mono ?_; rintro e u ⟨rfl, rfl⟩; simp only
      by_cases hf : vv x = true
      . have dq := hid (show t.names.all vv = (t.names.drop (i + 1)).all vv by rw [hN.out, HS.out]; simp [hf]); rw [hf]; clear hf; go_wp2
        case roundEnd => exact ⟨⟨i + 1, by omega, by go_num, trivial, dq⟩, by simp [intOf]; omega⟩
      . have hf : vv x = false := by simpa using hf
        have dq := hid (show envP H t = 7 by rw [HE.out, hN.out, HS.out]; simp [hf]); rw [hf]; clear hf; go_wp2; go_ret; exact ⟨jd dq.out.symm, cj.out⟩
    . have i1 : ¬ (i : Int) < (t.names.length : Int) := by omega
      have dq := hid (show envP H t = 0 by rw [HE.out, hN.out, aZ (by omega)]; rfl); go_wp2; go_ret; exact ⟨jd dq.out.symm, cj.out⟩
 . have hh : hasP H envW = false := by simpa using hh
   rw [hh]; have HE := hid (show envP H t = 8 by unfold envP; simp [hh]); clear hh; go_wp2; go_ret; exact ⟨jd HE.out.symm, cj.out⟩
theorem jlS (n : Nat) : ∀ (t : Tst) (w : World) (an ak at' : Option Addr) (cn ck ct B N : Nat) (H : List (List UInt8)), ReqM w B N H -> TabAt w 5 partT ->
 TstM anyB n w t [.int .i64 t.kind, .int .i64 t.mat, .int .i64 t.part, .slice an t.names.length cn, .slice ak t.keys.length ck, .bool t.over, .int .i64 t.limit, .slice at' t.tests.length ct] ->
 Calls Tryz.prog 203 #[.map (some B), .agg #[.int .i64 t.kind, .int .i64 t.mat, .int .i64 t.part, .slice an t.names.length cn, .slice ak t.keys.length ck, .bool t.over, .int .i64 t.limit, .slice at' t.tests.length ct]] w
  fun e w' => e = .returned (.int .i64 (tstA H n t)) /\ Below w.heap.size w w' := by
 induction n with
 | zero => intro t w an ak at' cn ck ct B N H _ _ h; exact h.elim
 | succ n ih =>
   intro t w an ak at' cn ck ct B N H hM hw hT; obtain ⟨_, _, _, _, _, _, m, hm, he, h1, h2, h3⟩ := zV hT; simp only [List.cons.injEq, aE, true_and, and_true] at he; obtain ⟨⟨rfl, rfl⟩, ⟨rfl, rfl⟩, rfl, rfl⟩ := he; obtain rfl : n = m := by omega
   clear hm hT; have H1 := hid h1; have H2 := hid h2; have H3 : Hid (TstsM anyB n w (.slice at' t.tests.length ct) t.tests) := h3; have cR : Hid _ := ih; clear h1 h2 h3 ih; obtain ⟨W0, hW0⟩ : ∃ W0, W0 = w.alloc (.cells #[.int .i64 t.kind, .int .i64 t.mat, .int .i64 t.part, .slice an t.names.length cn, .slice ak t.keys.length ck, .bool t.over, .int .i64 t.limit, .slice at' t.tests.length ct] 199) := ⟨_, rfl⟩; have cj := hid (show Below w.heap.size w W0 by rw [hW0]; exact nb0 _ _); have hH : W0.heap[w.heap.size]? = some (.cells #[.int .i64 t.kind, .int .i64 t.mat, .int .i64 t.part, .slice an t.names.length cn, .slice ak t.keys.length ck, .bool t.over, .int .i64 t.limit, .slice at' t.tests.length ct] 199) := by rw [hW0]; exact az w _
   have HM := hid (hM.next cj.out); have HP := hid (hw.next cj.out); have b9 : Hid _ := hW0; clear hW0 hM hw; obtain ⟨g0, g1, g2, g3, g4, g5, g6, g7⟩ := bx8 hH; clear hH; go_enter Tryz.func203, Tryz.ntmps203
   by_cases hk : t.kind = 8
   . have hkb : (t.kind == 8) = true := by simpa using hk
     have HK := hid hk; clear hk; go_wp2_with fail; rw [<- b9.out]; refine (je3 t W0 an ak at' cn ck ct B N H HM.out HP.out (H1.out.next cj.out)).mono ?_; rintro e u2 ⟨rfl, hb⟩; simp only; have HB := hid hb; have bY : Hid (Below w.heap.size w u2) := cj.out.trans (hb.mono cj.out.size); clear hb; obtain ⟨q, hq⟩ : ∃ q, q = envP H t := ⟨_, rfl⟩; rw [<- hq]
     by_cases ir : q = 0
     . have dj := hid (show tstA H (n + 1) t = if qo t.names ∨ qo t.keys then 1 else jj (tstA H n) t.tests by
        show (if t.kind = 8 /\ envP H t ≠ 0 then envP H t else _) = _
        rw [<- hq, if_neg (by simp [ir])])
       subst ir; have d3 : u2.cell? ⟨w.heap.size, 3, none⟩ = some (.slice an t.names.length cn) := ja g3 HB.out; have d4 : u2.cell? ⟨w.heap.size, 4, none⟩ = some (.slice ak t.keys.length ck) := ja g4 HB.out; have d7 : u2.cell? ⟨w.heap.size, 7, none⟩ = some (.slice at' t.tests.length ct) := ja g7 HB.out; have tz := hid (HM.out.next HB.out); have tG := hid (HP.out.next HB.out); clear hq hkb g0 g1 g2 g3 g4 g5 g6 g7 b9 cj HM HP HB; have iA := hid (H1.out.next bY.out); have gX := hid (H2.out.next bY.out); have kP : Hid (TstsM anyB n u2 (.slice at' t.tests.length ct) t.tests) := RowM.imp H3.out (fun _ h => h) (Keeps.of_below bY.out) fun _ _ h => TstM.imp (fun _ h => h) (Keeps.of_below bY.out) _ _ _ h
       have hmx := kP.out.small; unfold maxLen at hmx; clear H1 H2 H3; go_wp2_with fail; refine (jaL t.names an cn u2 iA.out).mono ?_; rintro e u ⟨rfl, hu⟩; obtain rfl := hu.symm; clear hu; simp only
       by_cases dy : qo t.names = true
       . have HE := hid (show tstA H (n + 1) t = 1 by rw [dj.out, if_pos (Or.inl dy)]); rw [dy]; clear dy; go_wp2; go_ret; exact ⟨jd HE.out.symm, bY.out⟩
       . have eM : qo t.names = false := by simpa using dy
         rw [eM]; go_wp2_with fail; refine (jaL t.keys ak ck u2 gX.out).mono ?_; rintro e u ⟨rfl, hu⟩; obtain rfl := hu.symm; clear hu; simp only
         by_cases hl2 : qo t.keys = true
         . have HE := hid (show tstA H (n + 1) t = 1 by rw [dj.out, if_pos (Or.inr hl2)]); rw [hl2]; clear dy eM hl2; go_wp2; go_ret; exact ⟨jd HE.out.symm, bY.out⟩
         . have fG : qo t.keys = false := by simpa using hl2
           rw [fG]; have HR := hid (show tstA H (n + 1) t = jj (tstA H n) t.tests by rw [dj.out, if_neg (by simp [eM, fG])]); clear dy eM hl2 fG iA gX dj; go_wp2
           go_loopw [29] (fun v wr => ∃ i : Nat, i <= t.tests.length /\ v = .int .i64 i /\ Below w.heap.size w wr /\ Below u2.heap.size u2 wr /\ Hid (tstA H (n + 1) t = jj (tstA H n) (t.tests.drop i))) (fun v _ => t.tests.length - (intOf v).toNat)
           case atStart => exact ⟨0, aQ _, rfl, bY.out, ay _ _, HR⟩
           case round =>
             obtain ⟨i, hi, rfl, cS, fU, hN⟩ := hrel; have dA : Hid _ := cS; have l5 : Hid _ := fU
             by_cases hlt : i < t.tests.length
             . have i1 : (i : Int) < (t.tests.length : Int) := by omega
               have i3 : (0 : Int) <= (i : Int) := by omega
               obtain ⟨x, hx⟩ : ∃ x, t.tests[i]? = some x := ⟨_, aw hlt⟩; obtain ⟨b, o, an', cn', ak', ck', at2, ct2, rfl, hbl, e0, e1, e2, e3, e4, e5, e6, e7, hT⟩ := jf2 (kP.out.next fU) hx; have cY : Hid (tstA H (n + 1) t = if tstA H n x = 0 then jj (tstA H n) (t.tests.drop (i + 1)) else tstA H n x) := by
                 unfold Hid; rw [hN.out, aT hlt]; rw [aw hlt] at hx; cases hx; rfl
               have HT : Hid _ := hT; have tw := hid (tz.out.next fU); have tF := hid (tG.out.next fU); clear hx hT hN cS fU; have cw : Below wr.heap.size wr (wr.alloc (.cells #[.int .i64 x.kind, .int .i64 x.mat, .int .i64 x.part, .slice an' x.names.length cn', .slice ak' x.keys.length ck', .bool x.over, .int .i64 x.limit, .slice at2 x.tests.length ct2] 199)) := nb0 _ _; have cu : Hid _ := cw; clear cw; go_wp2_with fail; refine (cR.out x _ _ _ _ _ _ _ _ _ _ (tw.out.next cu.out) (tF.out.next cu.out) (HT.out.next cu.out)).mono ?_; rintro e w2 ⟨rfl, hb2⟩; have dd : Below wr.heap.size wr w2 := cu.out.trans (hb2.mono cu.out.size); have bZ : Hid (Below w.heap.size w w2) := dA.out.trans (dd.mono dA.out.size); have ch : Hid (Below u2.heap.size u2 w2) := l5.out.trans (dd.mono l5.out.size); obtain ⟨y, hy⟩ : ∃ y, y = tstA H n x := ⟨_, rfl⟩; rw [<- hy]; have fm : Hid (tstA H (n + 1) t = if y = 0 then jj (tstA H n) (t.tests.drop (i + 1)) else y) := by unfold Hid; rw [cY.out, <- hy]
               clear hy cY hb2 dd e0 e1 e2 e3 e4 e5 e6 e7
               by_cases hy : y = 0
               . have dY : Hid (tstA H (n + 1) t = jj (tstA H n) (t.tests.drop (i + 1))) := by unfold Hid; rw [fm.out, if_pos hy]
                 subst hy; go_wp2; exact ⟨⟨i + 1, by omega, by go_num, bZ.out, ch.out, dY⟩, by simp [intOf]; omega⟩
               . have dY : Hid (tstA H (n + 1) t = y) := by unfold Hid; rw [fm.out, if_neg hy]
                 go_wp2; go_ret; exact ⟨jd dY.out.symm, bZ.out⟩
             . have i1 : ¬ (i : Int) < (t.tests.length : Int) := by omega
               have HE : Hid (tstA H (n + 1) t = 0) := by unfold Hid; rw [hN.out, aZ (by omega)]; rfl
               go_wp2; go_ret; exact ⟨jd HE.out.symm, dA.out⟩
     . have dj := hid (show tstA H (n + 1) t = q by
        show (if t.kind = 8 /\ envP H t ≠ 0 then envP H t else _) = _
        rw [<- hq, if_pos ⟨HK.out, ir⟩])
       clear hq; go_wp2; go_ret; exact ⟨jd dj.out.symm, bY.out⟩
   . have hkb : (t.kind == 8) = false := by simpa using hk
     have dj := hid (show tstA H (n + 1) t = if qo t.names ∨ qo t.keys then 1 else jj (tstA H n) t.tests by
        show (if t.kind = 8 /\ envP H t ≠ 0 then envP H t else _) = _
        rw [if_neg (by simp [hk])])
     have bY := cj; obtain ⟨u2, rfl⟩ : ∃ u2, u2 = W0 := ⟨_, rfl⟩; have d3 := g3; have d4 := g4; have d7 := g7; have tz := HM; have tG := HP; clear hk g1 g2 g3 g4 g5 g6 g7 HM HP; have iA := hid (H1.out.next bY.out); have gX := hid (H2.out.next bY.out); have kP : Hid (TstsM anyB n u2 (.slice at' t.tests.length ct) t.tests) := RowM.imp H3.out (fun _ h => h) (Keeps.of_below bY.out) fun _ _ h => TstM.imp (fun _ h => h) (Keeps.of_below bY.out) _ _ _ h
     have hmx := kP.out.small; unfold maxLen at hmx; clear H1 H2 H3; go_wp2_with fail; rw [<- b9.out]; refine (jaL t.names an cn u2 iA.out).mono ?_; rintro e u ⟨rfl, hu⟩; obtain rfl := hu.symm; clear hu; simp only
     by_cases dy : qo t.names = true
     . have HE := hid (show tstA H (n + 1) t = 1 by rw [dj.out, if_pos (Or.inl dy)]); rw [dy]; clear dy; go_wp2; go_ret; exact ⟨jd HE.out.symm, bY.out⟩
     . have eM : qo t.names = false := by simpa using dy
       rw [eM]; go_wp2_with fail; refine (jaL t.keys ak ck u2 gX.out).mono ?_; rintro e u ⟨rfl, hu⟩; obtain rfl := hu.symm; clear hu; simp only
       by_cases hl2 : qo t.keys = true
       . have HE := hid (show tstA H (n + 1) t = 1 by rw [dj.out, if_pos (Or.inr hl2)]); rw [hl2]; clear dy eM hl2; go_wp2; go_ret; exact ⟨jd HE.out.symm, bY.out⟩
       . have fG : qo t.keys = false := by simpa using hl2
         rw [fG]; have HR := hid (show tstA H (n + 1) t = jj (tstA H n) t.tests by rw [dj.out, if_neg (by simp [eM, fG])]); clear dy eM hl2 fG iA gX dj; go_wp2
         go_loopw [29] (fun v wr => ∃ i : Nat, i <= t.tests.length /\ v = .int .i64 i /\ Below w.heap.size w wr /\ Below u2.heap.size u2 wr /\ Hid (tstA H (n + 1) t = jj (tstA H n) (t.tests.drop i))) (fun v _ => t.tests.length - (intOf v).toNat)
         case atStart => exact ⟨0, aQ _, rfl, bY.out, ay _ _, HR⟩
         case round =>
            obtain ⟨i, hi, rfl, cS, fU, hN⟩ := hrel; have dA : Hid _ := cS; have l5 : Hid _ := fU
            by_cases hlt : i < t.tests.length
            . have i1 : (i : Int) < (t.tests.length : Int) := by omega
              have i3 : (0 : Int) <= (i : Int) := by omega
              obtain ⟨x, hx⟩ : ∃ x, t.tests[i]? = some x := ⟨_, aw hlt⟩; obtain ⟨b, o, an', cn', ak', ck', at2, ct2, rfl, hbl, e0, e1, e2, e3, e4, e5, e6, e7, hT⟩ := jf2 (kP.out.next fU) hx; have cY : Hid (tstA H (n + 1) t = if tstA H n x = 0 then jj (tstA H n) (t.tests.drop (i + 1)) else tstA H n x) := by
               unfold Hid; rw [hN.out, aT hlt]; rw [aw hlt] at hx; cases hx; rfl
              have HT : Hid _ := hT; have tw := hid (tz.out.next fU); have tF := hid (tG.out.next fU); clear hx hT hN cS fU; have cw : Below wr.heap.size wr (wr.alloc (.cells #[.int .i64 x.kind, .int .i64 x.mat, .int .i64 x.part, .slice an' x.names.length cn', .slice ak' x.keys.length ck', .bool x.over, .int .i64 x.limit, .slice at2 x.tests.length ct2] 199)) := nb0 _ _; have cu : Hid _ := cw; clear cw; go_wp2_with fail; refine (cR.out x _ _ _ _ _ _ _ _ _ _ (tw.out.next cu.out) (tF.out.next cu.out) (HT.out.next cu.out)).mono ?_; rintro e w2 ⟨rfl, hb2⟩; have dd : Below wr.heap.size wr w2 := cu.out.trans (hb2.mono cu.out.size); have bZ : Hid (Below w.heap.size w w2) := dA.out.trans (dd.mono dA.out.size); have ch : Hid (Below u2.heap.size u2 w2) := l5.out.trans (dd.mono l5.out.size); obtain ⟨y, hy⟩ : ∃ y, y = tstA H n x := ⟨_, rfl⟩; rw [<- hy]; have fm : Hid (tstA H (n + 1) t = if y = 0 then jj (tstA H n) (t.tests.drop (i + 1)) else y) := by unfold Hid; rw [cY.out, <- hy]
              clear hy cY hb2 dd e0 e1 e2 e3 e4 e5 e6 e7
              by_cases hy : y = 0
              . have dY : Hid (tstA H (n + 1) t = jj (tstA H n) (t.tests.drop (i + 1))) := by unfold Hid; rw [fm.out, if_pos hy]
                subst hy; go_wp2; exact ⟨⟨i + 1, by omega, by go_num, bZ.out, ch.out, dY⟩, by simp [intOf]; omega⟩
              . have dY : Hid (tstA H (n + 1) t = y) := by unfold Hid; rw [fm.out, if_neg hy]
                go_wp2; go_ret; exact ⟨jd dY.out.symm, bZ.out⟩
            . have i1 : ¬ (i : Int) < (t.tests.length : Int) := by omega
              have HE : Hid (tstA H (n + 1) t = 0) := by unfold Hid; rw [hN.out, aZ (by omega)]; rfl
              go_wp2; go_ret; exact ⟨jd HE.out.symm, dA.out⟩
def RulW (w : World) (B N : Nat) (H : List (List UInt8)) : Prop := ReqM w B N H /\ TabAt w 5 partT /\ TabAt w 1 needT /\ FlagsAt w
theorem RulW.next {w w' : World} {B N : Nat} {H : List (List UInt8)} (h : RulW w B N H) (hb : Below w.heap.size w w') : RulW w' B N H := ⟨h.1.next hb, h.2.1.next hb, h.2.2.1.next hb, h.2.2.2.next hb⟩
def PutC : Nat -> Cmd -> Prop
 | 0, _ => True
 | n + 1, c => (0 <= c.kind /\ c.kind <= 10) /\ (c.kind = 5 ∨ c.kind = 6 -> c.texts ≠ []) /\ (c.kind = 6 -> oneA (c.texts.getD 0 []) = true) /\ (c.kind = 2 -> (∀ x ∈ c.thn, PutC n x) /\ ∀ x ∈ c.els, PutC n x)
def RChk (n : Nat) : Prop := ∀ (c : Cmd) (w : World) (B N : Nat) (H : List (List UInt8)) (ax an ak at' aa ae : Option Addr) (cx cn ck ct ca ce : Nat), PutC n c -> RulW w B N H -> CmdM anyB n w c [.int .i64 c.kind, .slice ax c.texts.length cx, .int .i64 c.test.kind, .int .i64 c.test.mat, .int .i64 c.test.part, .slice an c.test.names.length cn, .slice ak c.test.keys.length ck, .bool c.test.over, .int .i64 c.test.limit, .slice at' c.test.tests.length ct, .slice aa c.thn.length ca, .slice ae c.els.length ce] ->
    Calls Tryz.prog 122 #[.map (some B), .agg #[.int .i64 c.kind, .slice ax c.texts.length cx, .int .i64 c.test.kind, .int .i64 c.test.mat, .int .i64 c.test.part, .slice an c.test.names.length cn, .slice ak c.test.keys.length ck, .bool c.test.over, .int .i64 c.test.limit, .slice at' c.test.tests.length ct, .slice aa c.thn.length ca, .slice ae c.els.length ce]] w fun e w' => e = .returned (.int .i64 (cmdA H n c)) /\ Below w.heap.size w w'
theorem jbr (n : Nat) (ih : RChk n) (l : List Cmd) (w : World) (B N : Nat) (H : List (List UInt8)) (a : Option Addr) (k : Nat) (hl : ∀ x ∈ l, PutC n x) (hw : RulW w B N H) (h : CmdsM anyB n w (.slice a l.length k) l) :
 Calls Tryz.prog 77 #[.map (some B), .slice a l.length k] w fun e w' => e = .returned (.int .i64 (jj (cmdA H n) l)) /\ Below w.heap.size w w' := by
 have H3 : Hid (CmdsM anyB n w (.slice a l.length k) l) := h; have cR : Hid (RChk n) := ih; have HW : Hid (RulW w B N H) := hw; have hmx := h.small; unfold maxLen at hmx; have lr := hid hl; clear h ih hw hl; have HR : Hid (jj (cmdA H n) l = jj (cmdA H n) (l.drop 0)) := rfl; go_enter Tryz.func77, Tryz.ntmps77; go_wp2
 go_loopw [10] (fun v wr => ∃ i : Nat, i <= l.length /\ v = .int .i64 i /\ Below w.heap.size w wr /\ Hid (jj (cmdA H n) l = jj (cmdA H n) (l.drop i))) (fun v _ => l.length - (intOf v).toNat)
 case atStart => exact ⟨0, aQ _, rfl, ay _ _, HR⟩
 case round =>
  obtain ⟨i, hi, rfl, cS, hN⟩ := hrel; have dA : Hid _ := cS
  by_cases hlt : i < l.length
  . have i1 : (i : Int) < (l.length : Int) := by omega
    have i3 : (0 : Int) <= (i : Int) := by omega
    obtain ⟨x, hx⟩ : ∃ x, l[i]? = some x := ⟨_, aw hlt⟩; obtain ⟨b, o, ax, cx, an, cn, ak, ck, at', ct, aa, ca, ae, ce, rfl, hbl, e0, e1, e2, e3, e4, e5, e6, e7, e8, e9, e10, e11, hT⟩ := jaX (H3.out.next cS) hx; have cY : Hid (jj (cmdA H n) l = if cmdA H n x = 0 then jj (cmdA H n) (l.drop (i + 1)) else cmdA H n x) := by
        unfold Hid; rw [hN.out, aT hlt]; rw [aw hlt] at hx; cases hx; rfl
    have HQ := hid (lr.out x (aF hx)); have HT : Hid _ := hT; have dZ : Hid (RulW wr B N H) := HW.out.next cS; have cw : Below wr.heap.size wr (wr.alloc (.cells #[.int .i64 x.kind, .slice ax x.texts.length cx, .int .i64 x.test.kind, .int .i64 x.test.mat, .int .i64 x.test.part, .slice an x.test.names.length cn, .slice ak x.test.keys.length ck, .bool x.test.over, .int .i64 x.test.limit, .slice at' x.test.tests.length ct, .slice aa x.thn.length ca, .slice ae x.els.length ce] 201)) := nb0 _ _; have cu : Hid _ := cw; clear hx hT hN cS cw; go_wp2_with fail; refine (cR.out x _ _ _ _ _ _ _ _ _ _ _ _ _ _ _ _ HQ.out (dZ.out.next cu.out) (HT.out.next cu.out)).mono ?_; rintro e w2 ⟨rfl, hb2⟩; have dd : Below wr.heap.size wr w2 := cu.out.trans (hb2.mono cu.out.size); have bZ : Hid (Below w.heap.size w w2) := dA.out.trans (dd.mono dA.out.size); obtain ⟨y, hy⟩ : ∃ y, y = cmdA H n x := ⟨_, rfl⟩; rw [<- hy]; have fm : Hid (jj (cmdA H n) l = if y = 0 then jj (cmdA H n) (l.drop (i + 1)) else y) := by unfold Hid; rw [cY.out, <- hy]
    clear hy cY hb2 dd e0 e1 e2 e3 e4 e5 e6 e7 e8 e9 e10 e11
    by_cases hy : y = 0
    . have dY : Hid (jj (cmdA H n) l = jj (cmdA H n) (l.drop (i + 1))) := by unfold Hid; rw [fm.out, if_pos hy]
      subst hy; go_wp2; exact ⟨⟨i + 1, by omega, by go_num, bZ.out, dY⟩, by simp [intOf]; omega⟩
    . have dY : Hid (jj (cmdA H n) l = y) := by unfold Hid; rw [fm.out, if_neg hy]
      go_wp2; go_ret; exact ⟨jd dY.out.symm, bZ.out⟩
  . have i1 : ¬ (i : Int) < (l.length : Int) := by omega
    have HE : Hid (jj (cmdA H n) l = 0) := by unfold Hid; rw [hN.out, aZ (by omega)]; rfl
    go_wp2; go_ret; exact ⟨jd HE.out.symm, dA.out⟩
theorem jrc (n : Nat) (ih : RChk n) (c : Cmd) (w : World) (B N : Nat) (H : List (List UInt8)) (ax an ak at' aa ae : Option Addr) (cx cn ck ct ca ce : Nat) (dy : ∀ x ∈ c.thn, PutC n x) (hl2 : ∀ x ∈ c.els, PutC n x) (hw : RulW w B N H)
 (h2 : TstM anyB n w c.test [.int .i64 c.test.kind, .int .i64 c.test.mat, .int .i64 c.test.part, .slice an c.test.names.length cn, .slice ak c.test.keys.length ck, .bool c.test.over, .int .i64 c.test.limit, .slice at' c.test.tests.length ct])
 (h3 : CmdsM anyB n w (.slice aa c.thn.length ca) c.thn) (h4 : CmdsM anyB n w (.slice ae c.els.length ce) c.els) :
 Calls Tryz.prog 165 #[.map (some B), .agg #[.int .i64 c.kind, .slice ax c.texts.length cx, .int .i64 c.test.kind, .int .i64 c.test.mat, .int .i64 c.test.part, .slice an c.test.names.length cn, .slice ak c.test.keys.length ck, .bool c.test.over, .int .i64 c.test.limit, .slice at' c.test.tests.length ct, .slice aa c.thn.length ca, .slice ae c.els.length ce]] w fun e w' => e = .returned (.int .i64 (if tstA H n c.test ≠ 0 then tstA H n c.test else if jj (cmdA H n) c.thn ≠ 0 then jj (cmdA H n) c.thn else jj (cmdA H n) c.els)) /\ Below w.heap.size w w' := by
 have H2 := hid h2; have H3 := hid h3; have H4 := hid h4; have cR := hid ih; have di := hid dy; have dl := hid hl2; obtain ⟨W0, hW0⟩ : ∃ W0, W0 = w.alloc (.cells #[.int .i64 c.kind, .slice ax c.texts.length cx, .int .i64 c.test.kind, .int .i64 c.test.mat, .int .i64 c.test.part, .slice an c.test.names.length cn, .slice ak c.test.keys.length ck, .bool c.test.over, .int .i64 c.test.limit, .slice at' c.test.tests.length ct, .slice aa c.thn.length ca, .slice ae c.els.length ce] 201) := ⟨_, rfl⟩; have cj := hid (show Below w.heap.size w W0 by rw [hW0]; exact nb0 _ _); have hH : W0.heap[w.heap.size]? = some (.cells #[.int .i64 c.kind, .slice ax c.texts.length cx, .int .i64 c.test.kind, .int .i64 c.test.mat, .int .i64 c.test.part, .slice an c.test.names.length cn, .slice ak c.test.keys.length ck, .bool c.test.over, .int .i64 c.test.limit, .slice at' c.test.tests.length ct, .slice aa c.thn.length ca, .slice ae c.els.length ce] 201) := by rw [hW0]; exact az w _
 have b9 := hid hW0; have HW := hid (hw.next cj.out); have g10 : W0.cell? ⟨w.heap.size, 10, none⟩ = some (.slice aa c.thn.length ca) := by simp [World.cell?, hH]
 have g11 : W0.cell? ⟨w.heap.size, 11, none⟩ = some (.slice ae c.els.length ce) := by simp [World.cell?, hH]
 obtain ⟨r, hr⟩ : ∃ r, r = (if tstA H n c.test ≠ 0 then tstA H n c.test else if jj (cmdA H n) c.thn ≠ 0 then jj (cmdA H n) c.thn else jj (cmdA H n) c.els) := ⟨_, rfl⟩; rw [<- hr]; have HR := hid hr; clear h2 h3 h4 ih dy hl2 hH hW0 hw hr; go_enter Tryz.func165, Tryz.ntmps165; go_wp2_with fail; rw [<- b9.out]; refine (jlS n c.test W0 an ak at' cn ck ct B N H HW.out.1 HW.out.2.1 (TstM.imp (fun _ h => h) (Keeps.of_below cj.out) _ _ _ H2.out)).mono ?_; rintro e w3 ⟨rfl, hb3⟩; simp only; have cP := hid (HW.out.next hb3); have bZ : Hid (Below w.heap.size w w3) := cj.out.trans (hb3.mono cj.out.size); have k10 := ja g10 hb3; have k11 := ja g11 hb3; clear b9 g10 g11 hb3 HW; obtain ⟨y, hy⟩ : ∃ y, y = tstA H n c.test := ⟨_, rfl⟩; rw [<- hy]; rw [<- hy] at HR; clear hy
 by_cases hy : y = 0
 . rw [if_neg (by simpa using hy)] at HR; subst hy; go_wp2_with fail; refine (jbr n cR.out c.thn w3 B N H aa ca di.out cP.out (RowM.imp H3.out (fun _ h => h) (Keeps.of_below bZ.out) fun _ _ h => CmdM.imp (fun _ h => h) (Keeps.of_below bZ.out) _ _ _ h)).mono ?_; rintro e w4 ⟨rfl, hb4⟩; simp only; have lA := hid (cP.out.next hb4); have ch : Hid (Below w.heap.size w w4) := bZ.out.trans (hb4.mono bZ.out.size); have m11 := ja k11 hb4; clear k10 k11 hb4; obtain ⟨z, hz⟩ : ∃ z, z = jj (cmdA H n) c.thn := ⟨_, rfl⟩; rw [<- hz]; rw [<- hz] at HR; clear hz
   by_cases hz : z = 0
   . rw [if_neg (by simpa using hz)] at HR; subst hz; go_wp2_with fail; refine (jbr n cR.out c.els w4 B N H ae ce dl.out lA.out (RowM.imp H4.out (fun _ h => h) (Keeps.of_below ch.out) fun _ _ h => CmdM.imp (fun _ h => h) (Keeps.of_below ch.out) _ _ _ h)).mono ?_; rintro e w5 ⟨rfl, cV⟩; simp only; have dh : Hid (Below w.heap.size w w5) := ch.out.trans (cV.mono ch.out.size); go_wp2; go_ret; exact ⟨jd HR.out.symm, dh.out⟩
   . rw [if_pos (by simpa using hz)] at HR; go_wp2; go_ret; exact ⟨jd HR.out.symm, ch.out⟩
 . rw [if_pos (by simpa using hy)] at HR; go_wp2; go_ret; exact ⟨jd HR.out.symm, bZ.out⟩
theorem jdO (h : TxtsM anyB w (.slice a l.length c) l) (h0 : l ≠ []) :
 ∃ b o, a = some ⟨b, o, none⟩ /\ w.cell? ⟨b, o, none⟩ = some (.string (S (l.getD 0 []))) := by
 cases l with
 | nil => exact absurd rfl h0
 | cons x r =>
   obtain ⟨a', c', hv, _, hr⟩ := h; simp only [aE, true_and] at hv; obtain ⟨rfl, rfl⟩ := hv; obtain ⟨b, o, cs, rfl, hbl, _, _, hc, hP⟩ := hr 0 x rfl; have hcs : cs = [.string (S x)] := hP; subst hcs; exact ⟨b, o, rfl, by simpa using hc 0 _ rfl⟩
theorem jeq (n : Nat) : RChk n := by
 induction n with
 | zero => intro c w B N H ax an ak at' aa ae cx cn ck ct ca ce _ _ h; exact h.elim
 | succ n ih =>
   intro c w B N H ax an ak at' aa ae cx cn ck ct ca ce hput hw hC; obtain ⟨_, _, _, _, _, _, _, _, _, _, _, _, m, hm, he, h1, h2, h3, h4⟩ := zN hC; simp only [List.cons.injEq, aE, true_and, and_true] at he; obtain ⟨⟨rfl, rfl⟩, ⟨rfl, rfl⟩, ⟨rfl, rfl⟩, ⟨rfl, rfl⟩, ⟨rfl, rfl⟩, rfl, rfl⟩ := he; obtain rfl : n = m := by omega
   clear hm hC; obtain ⟨⟨fF, uZ⟩, wv, yI, mz⟩ := hput; have H1 := hid h1; have H2 := hid h2; have H3 := hid h3; have H4 := hid h4; have cR := hid ih; have fS := hid wv; have o4 := hid yI; have dN := hid mz; have hmx := h1.small; unfold maxLen at hmx; clear h1 h2 h3 h4 ih wv yI mz; have HR := hid (show cmdA H (n + 1) c = (if hasP H (jgR c.kind) = false then 8
    else if c.kind = 1 then 3
    else if c.kind = 5 then vu (c.texts.getD 0 [])
    else if c.kind = 8 ∨ c.kind = 9 then (if vT c.texts = none then 7 else 0)
    else if c.kind = 6 then jiP (c.texts.getD 0 [])
    else if c.kind = 2 then
        (if tstA H n c.test ≠ 0 then tstA H n c.test
         else if jj (cmdA H n) c.thn ≠ 0 then jj (cmdA H n) c.thn
         else jj (cmdA H n) c.els)
    else 0) from rfl)
   obtain ⟨r, hr⟩ : ∃ r, r = cmdA H (n + 1) c := ⟨_, rfl⟩; rw [<- hr]; rw [<- hr] at HR; clear hr; have oS := hid (fun (hk : c.kind = 2) (w : World) (hw : RulW w B N H) => jrc n cR.out c w B N H ax an ak at' aa ae cx cn ck ct ca ce (dN.out hk).1 (dN.out hk).2 hw); obtain ⟨kd, lh⟩ : ∃ kd, kd = c.kind := ⟨_, rfl⟩; rw [<- lh] at HR fS o4 oS fF uZ ⊢; clear lh dN cR; obtain ⟨W0, hW0⟩ : ∃ W0, W0 = w.alloc (.cells #[.int .i64 kd, .slice ax c.texts.length cx, .int .i64 c.test.kind, .int .i64 c.test.mat, .int .i64 c.test.part, .slice an c.test.names.length cn, .slice ak c.test.keys.length ck, .bool c.test.over, .int .i64 c.test.limit, .slice at' c.test.tests.length ct, .slice aa c.thn.length ca, .slice ae c.els.length ce] 201) := ⟨_, rfl⟩; have cj := hid (show Below w.heap.size w W0 by rw [hW0]; exact nb0 _ _); have hH : W0.heap[w.heap.size]? = some (.cells #[.int .i64 kd, .slice ax c.texts.length cx, .int .i64 c.test.kind, .int .i64 c.test.mat, .int .i64 c.test.part, .slice an c.test.names.length cn, .slice ak c.test.keys.length ck, .bool c.test.over, .int .i64 c.test.limit, .slice at' c.test.tests.length ct, .slice aa c.thn.length ca, .slice ae c.els.length ce] 201) := by rw [hW0]; exact az w _
   have b9 := hid hW0; have HW := hid (hw.next cj.out); clear hw hW0; obtain ⟨g0, g1, g2, g3, g4, g5, g6, g7, g8, g9, g10, g11⟩ := bx12 hH; clear hH; go_enter Tryz.func122, Tryz.ntmps122; have q := HW.out.2.2.1 kd.toNat (jgR kd) (by
    have eD : kd = 0 ∨ kd = 1 ∨ kd = 2 ∨ kd = 3 ∨ kd = 4 ∨ kd = 5 ∨ kd = 6 ∨ kd = 7 ∨ kd = 8 ∨ kd = 9 ∨ kd = 10 := by omega
    rcases eD with rfl | rfl | rfl | rfl | rfl | rfl | rfl | rfl | rfl | rfl | rfl <;> rfl)
   have q2 := q; rw [b9.out] at q2; go_wp2_with fail; rw [<- b9.out]; refine (jkD (jgR kd) ?hl W0 B N H HW.out.1).mono ?_
   case hl => unfold jgR; split <;> (try split) <;> (try split) <;> decide
   rintro e u ⟨rfl, hu⟩; obtain rfl := hu.symm; clear hu q q2 b9; simp only
   by_cases hh : hasP H (jgR kd) = true
   . rw [if_neg (by rw [hh]; simp)] at HR; rw [hh]; clear hh; have eD : kd = 0 ∨ kd = 1 ∨ kd = 2 ∨ kd = 3 ∨ kd = 4 ∨ kd = 5 ∨ kd = 6 ∨ kd = 7 ∨ kd = 8 ∨ kd = 9 ∨ kd = 10 := by omega
     clear fF uZ
     rcases eD with rfl | rfl | rfl | rfl | rfl | rfl | rfl | rfl | rfl | rfl | rfl
     . have HE := hid (show r = 0 by rw [HR.out]; rfl); clear HR; go_wp2; go_ret; exact ⟨jd HE.out.symm, cj.out⟩
     . have HE := hid (show r = 3 by rw [HR.out]; rfl); clear HR; go_wp2; go_ret; exact ⟨jd HE.out.symm, cj.out⟩
     . have HE := hid (show r = if tstA H n c.test ≠ 0 then tstA H n c.test else if jj (cmdA H n) c.thn ≠ 0 then jj (cmdA H n) c.thn else jj (cmdA H n) c.els by rw [HR.out]; rfl); clear HR; have tc := hid (oS.out rfl); clear oS; go_wp2_with fail; refine (tc.out W0 HW.out (TstM.imp (fun _ h => h) (Keeps.of_below cj.out) _ _ _ H2.out) (RowM.imp H3.out (fun _ h => h) (Keeps.of_below cj.out) fun _ _ h => CmdM.imp (fun _ h => h) (Keeps.of_below cj.out) _ _ _ h) (RowM.imp H4.out (fun _ h => h) (Keeps.of_below cj.out) fun _ _ h => CmdM.imp (fun _ h => h) (Keeps.of_below cj.out) _ _ _ h)).mono ?_; rintro e u ⟨rfl, hb⟩; simp only; have bY := hid (cj.out.trans (hb.mono cj.out.size)); clear hb; rw [<- HE.out]; go_wp2; go_ret; exact ⟨rfl, bY.out⟩
     . have HE := hid (show r = 0 by rw [HR.out]; rfl); clear HR; go_wp2; go_ret; exact ⟨jd HE.out.symm, cj.out⟩
     . have HE := hid (show r = 0 by rw [HR.out]; rfl); clear HR; go_wp2; go_ret; exact ⟨jd HE.out.symm, cj.out⟩
     . have HE := hid (show r = vu (c.texts.getD 0 []) by rw [HR.out]; rfl); clear HR; obtain ⟨b, o, rfl, e0⟩ := jdO (H1.out.next cj.out) (fS.out (by decide)); have HZ := hid (o4.out); clear o4 oS; obtain ⟨x, hx⟩ : ∃ x, x = c.texts.getD 0 [] := ⟨_, rfl⟩; rw [<- hx] at e0 HE HZ; clear hx; have fi : 0 < c.texts.length := List.length_pos_iff.2 (fS.out (by decide)); have j1 : (0 : Int) < (c.texts.length : Int) := by omega
       go_wp2_with fail; refine (jcQ (S x) W0).mono ?_; rintro e u ⟨rfl, hu⟩; obtain rfl := hu.symm; clear hu; rw [ji]; simp only; go_wp2; go_ret; exact ⟨jd HE.out.symm, cj.out⟩
     . have HE := hid (show r = jiP (c.texts.getD 0 []) by rw [HR.out]; rfl); clear HR; obtain ⟨b, o, rfl, e0⟩ := jdO (H1.out.next cj.out) (fS.out (by decide)); have HZ := hid (o4.out); clear o4 oS; obtain ⟨x, hx⟩ : ∃ x, x = c.texts.getD 0 [] := ⟨_, rfl⟩; rw [<- hx] at e0 HE HZ; clear hx; have fi : 0 < c.texts.length := List.length_pos_iff.2 (fS.out (by decide)); have eI := hid (HZ.out rfl); clear HZ; have j1 : (0 : Int) < (c.texts.length : Int) := by omega
       go_wp2_with fail; refine (jnb x W0 (eI.out)).mono ?_; rintro e u ⟨rfl, hb⟩; simp only; have bY := hid (cj.out.trans (hb.mono cj.out.size)); clear hb; go_wp2; go_ret; exact ⟨jd HE.out.symm, bY.out⟩
     . have HE := hid (show r = 0 by rw [HR.out]; rfl); clear HR; go_wp2; go_ret; exact ⟨jd HE.out.symm, cj.out⟩
     . have HE := hid (show r = if vT c.texts = none then 7 else 0 by rw [HR.out]; rfl); clear HR; go_wp2_with fail; refine (jff c.texts ax cx W0 HW.out.2.2.2 (H1.out.next cj.out)).mono ?_; rintro e u ⟨rfl, hb⟩; simp only; have bY := hid (cj.out.trans (hb.mono cj.out.size)); clear hb; cases hf : vT c.texts with
       | none =>
         have dq := hid (show r = 7 by rw [HE.out, hf]; rfl); clear hf; unfold jfe; simp only; go_wp2; go_ret; exact ⟨jd dq.out.symm, bY.out⟩
       | some v =>
         have dq := hid (show r = 0 by rw [HE.out, hf]; rfl); clear hf; unfold jfe; simp only; go_wp2; go_ret; exact ⟨jd dq.out.symm, bY.out⟩
     . have HE := hid (show r = if vT c.texts = none then 7 else 0 by rw [HR.out]; rfl); clear HR; go_wp2_with fail; refine (jff c.texts ax cx W0 HW.out.2.2.2 (H1.out.next cj.out)).mono ?_; rintro e u ⟨rfl, hb⟩; simp only; have bY := hid (cj.out.trans (hb.mono cj.out.size)); clear hb; cases hf : vT c.texts with
       | none =>
         have dq := hid (show r = 7 by rw [HE.out, hf]; rfl); clear hf; unfold jfe; simp only; go_wp2; go_ret; exact ⟨jd dq.out.symm, bY.out⟩
       | some v =>
         have dq := hid (show r = 0 by rw [HE.out, hf]; rfl); clear hf; unfold jfe; simp only; go_wp2; go_ret; exact ⟨jd dq.out.symm, bY.out⟩
     . have HE := hid (show r = 0 by rw [HR.out]; rfl); clear HR; go_wp2; go_ret; exact ⟨jd HE.out.symm, cj.out⟩
   . have hh : hasP H (jgR kd) = false := by simpa using hh
     rw [if_pos hh] at HR; rw [hh]; clear hh fF uZ; go_wp2; go_ret; exact ⟨jd HR.out.symm, cj.out⟩
def vQ : Nat -> Cmd -> Prop
 | 0, _ => True
 | n + 1, c => (c.kind = 6 -> oneA (c.texts.getD 0 []) = true) /\ (∀ x ∈ c.thn, vQ n x) /\ ∀ x ∈ c.els, vQ n x
theorem jqY : ∀ (n d : Nat) (c : Cmd), jp n d c = 0 -> vQ n c -> PutC n c := by
 intro n
 induction n with
 | zero => intro d c _ _; trivial
 | succ n ih =>
   intro d c h hs; obtain ⟨hk, _, hf, h2⟩ := jac h; obtain ⟨s1, s2, s3⟩ := hs; refine ⟨⟨by omega, hk.2⟩, fun h5 => ?_, s1, fun hk2 => ?_⟩
   . unfold jad at hf; intro ht; rw [ht] at hf; split at hf
     . cases hf
     . rcases h5 with h5 | h5 <;> simp [h5] at hf
   . obtain ⟨_, q2, q3⟩ := h2 hk2; refine ⟨fun x hx => ih (d + 1) x (qz q2 x hx) (s2 x hx), fun x hx => ?_⟩; cases he : zt c.els with
     | none =>
       rw [he] at q3; exact ih (d + 1) x (qz q3 x hx) (s3 x hx)
     | some y =>
       rw [he] at q3; have hy : c.els = [y] := by
        unfold zt at he; split at he
        . split at he
          . cases he; assumption
          . cases he
        . cases he
       rw [hy] at hx; have := List.mem_singleton.1 hx; subst this; exact ih d x q3 (s3 x (by rw [hy]; simp))
theorem jqc (l : List (List UInt8)) : l.length <= (sepT (fun x => [strT x]) l).length := by
 cases l with
 | nil => exact ai _
 | cons x r =>
   have : ∀ r : List (List UInt8), r.length <= (r.flatMap fun y => [jT 44, strT y]).length := by
    intro r
    induction r with
    | nil => exact ai _
    | cons y r ih => simp only [List.flatMap_cons, aB, aI, aJ]; omega
   have := this r
   show r.length + 1 <= ([strT x] ++ r.flatMap fun y => [jT 44, strT y]).length
   simp only [aB, aI, aJ]; omega
theorem jnp (l : List (List UInt8)) : l.length <= (jcg l).length := by
 unfold jcg; split
 . exact ai _
 . have := jqc l; simp only [aI, aB, aJ]; omega
theorem jp9 (n : Nat) (c : Cmd) (hk : c.kind = 1) : c.texts.length <= (cmdT (n + 1) c).length := by
 unfold cmdT jaU; rw [if_neg (by rw [hk]; decide)]; have := jnp c.texts; split
 . omega
 . simp only [aI, aB, aJ]; omega
theorem jnT (n : Nat) : ∀ l : List Cmd, (jjq l).length <= (zp (n + 1) l).length := by
 intro l
 induction l with
 | nil => exact ai _
 | cons c l ih =>
   unfold jjq at ih ⊢; unfold zx
   by_cases hk : c.kind = 1
   . rw [if_pos hk, List.take_succ_cons, List.flatMap_cons, aB]; have h1 := jp9 n c hk; have h2 : (zp (n + 1) (c :: l)).length = (cmdT (n + 1) c).length + (zp (n + 1) l).length := by simp [zp]
     omega
   . rw [if_neg hk]; exact aQ _
theorem jhv : ∀ l : List Cmd, zx l <= l.length := by
 intro l
 induction l with
 | nil => exact ai _
 | cons c l ih =>
   unfold zx; split
   . rw [aI]; omega
   . exact aQ _
def Tabs (w : World) : Prop := WordsAt w /\ TabAt w 0 extT /\ TabAt w 5 partT /\ TabAt w 1 needT /\ FlagsAt w
theorem Tabs.next {w w' : World} (h : Tabs w) (hb : Below w.heap.size w w') : Tabs w' := ⟨h.1.next hb, h.2.1.next hb, h.2.2.1.next hb, h.2.2.2.1.next hb, h.2.2.2.2.next hb⟩
theorem jgZ (n : Nat) (l : List Cmd) (b o k : Nat) (w : World) (hw : Tabs w) (hk : l.length <= k) (hs : ∀ x ∈ l, vQ (n + 1) x) (h : CmdsM anyB (n + 1) w (.slice (some ⟨b, o, none⟩) l.length k) l) :
 Calls Tryz.prog 50 #[.slice (some ⟨b, o, none⟩) l.length k] w fun e w' => e = .returned (.int .i64 (jbY (n + 1) l)) /\ Below w.heap.size w w' := by
 have HT := hid h; have HW := hid hw; have HS := hid hs; have hmx := h.small; unfold maxLen at hmx; obtain ⟨L1, eY⟩ : ∃ L1, L1 = l.take (zx l) := ⟨_, rfl⟩; obtain ⟨L2, hL2⟩ : ∃ L2, L2 = l.drop (zx l) := ⟨_, rfl⟩; have HA := hid (show zx l = L1.length by rw [eY, bp]; have := jhv l; omega); have hle : L1.length <= l.length := by have := jhv l; rw [<- HA.out]; exact this
 have dl := hid (show L2.length = l.length - L1.length by rw [hL2, List.length_drop, HA.out]); have eW := hid (show ∀ w', Below w.heap.size w w' -> CmdsM anyB (n + 1) w' (.slice (some ⟨b, o, none⟩) L1.length k) L1 from fun w' hb => by
  have := RowM.takeR (CmdsM.next HT.out hb) L1.length k hle; rw [<- HA.out, <- eY, HA.out] at this; exact this)
 have fx := hid (show ∀ w', Below w.heap.size w w' -> CmdsM anyB (n + 1) w' (.slice (some ⟨b, o + L1.length * 12, none⟩) L2.length (k - L1.length)) L2 from fun w' hb => by
  have := RowM.dropR (CmdsM.next HT.out hb) L1.length L2.length (k - L1.length) dl.out; rw [show l.drop L1.length = L2 by rw [hL2, HA.out]] at this; exact this)
 have HR := hid (show jbY (n + 1) l = if qh (n + 1) l ≠ 0 then qh (n + 1) l else if (L1.flatMap (·.texts)).all extP = false then 7 else jj (cmdA (L1.flatMap (·.texts)) (n + 1)) L2 by unfold jbY jjq; rw [<- eY, <- hL2]); have eo := hid (show qh (n + 1) l = 0 -> (L1.flatMap (·.texts)).length <= 400 from fun hc => by
  have h1 := (je4 hc).2; have h2 := jnT n l; unfold jjq at h2; rw [<- eY] at h2; omega)
 have o7 := hid (show qh (n + 1) l = 0 -> ∀ x ∈ L2, PutC (n + 1) x from fun hc x hx => by
  have hm : x ∈ l := by rw [hL2] at hx; exact List.mem_of_mem_drop hx
  exact jqY (n + 1) 0 x ((je4 hc).1 x hm) (HS.out x hm))
 clear h hw hs eY hL2; go_enter Tryz.func50, Tryz.ntmps50; go_wp2_with fail; refine (jdL (n + 1) l (some ⟨b, o, none⟩) k w HW.out.1 HT.out).mono ?_; rintro e w1 ⟨rfl, hb1⟩; have bX := hid hb1; obtain ⟨x, hx⟩ : ∃ x, x = qh (n + 1) l := ⟨_, rfl⟩; rw [<- hx]; rw [<- hx] at HR eo o7; clear hx hb1
 by_cases hx : x = 0
 . rw [if_neg (by simpa using hx)] at HR; replace eo := hid (eo.out hx); replace o7 := hid (o7.out hx); subst hx; go_wp2_with fail; refine (jeZ (n + 1) l (some ⟨b, o, none⟩) k w1 (CmdsM.next HT.out bX.out)).mono ?_; rintro e w2 ⟨rfl, hb2⟩; have bY := hid (bX.out.trans (hb2.mono bX.out.size)); clear hb2; rw [HA.out]; have i0 : (0 : Int) <= (L1.length : Int) := by omega
   have i1 : (L1.length : Int) <= (k : Int) := by omega
   have i2 : (L1.length : Int) <= (l.length : Int) := by omega
   go_wp2_with fail; refine (jfJ (n + 1) L1 (some ⟨b, o, none⟩) k w2 eo.out (HW.out.2.1.next bY.out) (eW.out w2 bY.out)).mono ?_; intro e w3 hq; unfold jf9 at hq
   by_cases hall : (L1.flatMap (·.texts)).all extP = true
   . rw [if_pos hall] at hq; rw [if_neg (by rw [hall]; simp)] at HR; obtain ⟨⟨N, rfl, hM⟩, hb3⟩ := hq; have HM := hid hM; have bZ := hid (bY.out.trans (hb3.mono bY.out.size)); clear hall hM hb3; go_wp2_with fail
     . rw [<- dl.out]; have fo := hid (show CmdsM anyB (n + 1) w3 (.slice (some ⟨b, o, none⟩) L2.length 0) L2 by
         have : L2 = [] := bh.1 (by rw [dl.out]; omega); subst this; exact jh _ _ _ _ _ _)
       refine (jbr (n + 1) (jeq (n + 1)) L2 w3 w2.heap.size N (L1.flatMap (·.texts)) (some ⟨b, o, none⟩) 0 o7.out ⟨HM.out, HW.out.2.2.1.next bZ.out, HW.out.2.2.2.1.next bZ.out, HW.out.2.2.2.2.next bZ.out⟩ fo.out).mono ?_; rintro e w4 ⟨rfl, hb4⟩; simp only; have ch := hid (bZ.out.trans (hb4.mono bZ.out.size)); clear hb4; go_wp2; go_ret; exact ⟨jd HR.out.symm, ch.out⟩
     . rw [<- dl.out]; refine (jbr (n + 1) (jeq (n + 1)) L2 w3 w2.heap.size N (L1.flatMap (·.texts)) (some ⟨b, o + L1.length * 12, none⟩) (k - L1.length) o7.out ⟨HM.out, HW.out.2.2.1.next bZ.out, HW.out.2.2.2.1.next bZ.out, HW.out.2.2.2.2.next bZ.out⟩ (fx.out w3 bZ.out)).mono ?_; rintro e w4 ⟨rfl, hb4⟩; simp only; have ch := hid (bZ.out.trans (hb4.mono bZ.out.size)); clear hb4; go_wp2; go_ret; exact ⟨jd HR.out.symm, ch.out⟩
   . rw [if_neg hall] at hq; rw [if_pos (by simpa using hall)] at HR; obtain ⟨rfl, hb3⟩ := hq; have bZ := hid (bY.out.trans (hb3.mono bY.out.size)); clear hall hb3; go_wp2; go_ret; exact ⟨jd HR.out.symm, bZ.out⟩
 . rw [if_pos (by simpa using hx)] at HR; go_wp2; go_ret; exact ⟨jd HR.out.symm, bX.out⟩
theorem jjn (n : Nat) (w : World) (hw : Tabs w) :
 Calls Tryz.prog 50 #[.slice none 0 0] w fun e w' => e = .returned (.int .i64 0) /\ Below w.heap.size w w' := by
 have HW := hid hw; have HT := hid (show ∀ w', CmdsM anyB n w' (.slice none ([] : List Cmd).length 0) [] from fun w' => jh _ _ _ _ _ _); clear hw; go_enter Tryz.func50, Tryz.ntmps50; go_wp2_with fail; refine (jdL n [] none 0 w HW.out.1 (HT.out w)).mono ?_; rintro e w1 ⟨rfl, hb1⟩; have bX := hid hb1; have HC := hid (show qh n [] = 0 from rfl); rw [HC.out]; clear hb1; go_wp2_with fail; refine (jeZ n [] none 0 w1 (HT.out w1)).mono ?_; rintro e w2 ⟨rfl, hb2⟩; have bY := hid (bX.out.trans (hb2.mono bX.out.size)); clear hb2; have HA := hid (show zx ([] : List Cmd) = 0 from rfl); rw [HA.out]; go_wp2_with fail; refine (jfJ n [] none 0 w2 (by simp) (HW.out.2.1.next bY.out) (HT.out w2)).mono ?_; intro e w3 hq; unfold jf9 at hq; rw [if_pos (show (([] : List Cmd).flatMap (·.texts)).all extP = true from rfl)] at hq; obtain ⟨⟨N, rfl, hM⟩, hb3⟩ := hq; have HM := hid hM; have bZ := hid (bY.out.trans (hb3.mono bY.out.size)); clear hM hb3; go_wp2_with fail; refine (jbr n (jeq n) [] w3 w2.heap.size N [] none 0 (by intro x hx; cases hx) ⟨HM.out, HW.out.2.2.1.next bZ.out, HW.out.2.2.2.1.next bZ.out, HW.out.2.2.2.2.next bZ.out⟩ (HT.out w3)).mono ?_; rintro e w4 ⟨rfl, hb4⟩; have ch := hid (bZ.out.trans (hb4.mono bZ.out.size)); have HZ := hid (show jj (cmdA [] n) [] = 0 from rfl); rw [HZ.out]; clear hb4; go_wp2; go_ret; exact ⟨rfl, ch.out⟩
theorem jdI (n : Nat) (l : List Cmd) (a : Option Addr) (k : Nat) (w : World) (hw : Tabs w) (hk : l.length <= k) (hn : l = [] -> a = none /\ k = 0) (hs : ∀ x ∈ l, vQ (n + 1) x) (h : CmdsM anyB (n + 1) w (.slice a l.length k) l) :
 Calls Tryz.prog 50 #[.slice a l.length k] w fun e w' => e = .returned (.int .i64 (jbY (n + 1) l)) /\ Below w.heap.size w w' := by
 cases l with
 | nil =>
   obtain ⟨rfl, rfl⟩ := hn rfl; exact jjn n w hw
 | cons x r =>
   obtain ⟨a', c', hv, _, hr⟩ := h; obtain ⟨b, o, _, ha, _⟩ := hr 0 x rfl; have ha' : a = a' := by
    simp only [aE, true_and] at hv; exact hv.1
   subst ha'; subst ha; exact jgZ n (x :: r) b o k w hw hk hs ⟨_, c', hv, by assumption, hr⟩
open Go.ChangeShapes Go.WideShapes Go.ChangeAt
theorem own : ownKnob Tryz.prog.godebug = none := by kernel_rfl
theorem laidOut : laidOutB Tryz.prog = true := by kernel_rfl
def layCells (cs : Array Value) : Obj -> Obj
 | .cells _ t frozen => .cells cs t frozen
 | o => o
def wordCells : Array Value := (wTabs.flatMap fun r => r.map fun s => Value.string (S s)).toArray
def joY : DataW Unit := .agg (wTabs.map fun r => .agg (r.map fun s => .lit (.string s)))
theorem ji1 : (Rows.laid_postroom_script_words : DataW Unit) = joY := by kernel_rfl
theorem words_of (W : World) (h : laidMetH Tryz.prog [("postroom/script.words", Rows.laid_postroom_script_words)] W) : WordsAt W := by
 have h1 : laidMet Tryz.prog [("postroom/script.words", Rows.laid_postroom_script_words)] W := h; rw [ji1] at h1; obtain ⟨ps, ⟨g', t', cs, fuel, p, q, gv, re, iv, hd, _, _⟩, _⟩ := h1; have hg : Tryz.prog.globalNamed "postroom/script.words" = some 3 := by kernel_rfl
 have rf : (Tryz.prog.globals[3]?).map (·.type) = some 276 := by kernel_rfl
 obtain rfl := bk (hg.symm.trans gv); obtain rfl := bk (rf.symm.trans re); have c11 : Tryz.prog.cellsOf 239 = 11 := by kernel_rfl
 have c1 : Tryz.prog.cellsOf 9 = 1 := by kernel_rfl
 obtain ⟨xs, m, _, ex, _, mD, hx⟩ := DataW.trod_array Tryz.underlying276 hd; have exs : xs.map (·.1) = wTabs.map fun r => (.agg (r.map fun s => .lit (.string s)) : DataW Unit) := by
  have := congrArg Prod.fst ex
  simpa [joY] using this.symm
 intro k n hk hn; have eN := hx k hk; rw [c11] at eN; obtain ⟨y, hy⟩ : ∃ y, xs[k]? = some y := ⟨_, aw (by omega)⟩; rw [hy] at eN; have Aa : wTabs[k]? = some (wTabs.getD k []) := by
  match k, hk with
  | 0, _ | 1, _ | 2, _ | 3, _ => rfl
 have ey : y.1 = .agg ((wTabs.getD k []).map fun s => .lit (.string s)) := by
  have := congrArg (·[k]?) exs; simp only [ba, hy, Aa, Option.map_some, aS] at this; exact this
 obtain ⟨ys, m', _, ez, _, DF, hz⟩ := DataW.trod_array Tryz.underlying239 eN; have eys : ys.map (·.1) = (wTabs.getD k []).map fun s => (.lit (.string s) : DataW Unit) := by
  have := congrArg Prod.fst ez; rw [ey] at this
  simpa using this.symm
 have hz' := hz n hn; rw [c1] at hz'; obtain ⟨u, hu⟩ : ∃ u, ys[n]? = some u := ⟨_, aw (by omega)⟩; rw [hu] at hz'; obtain ⟨s, e1, e2, _⟩ := DataW.trod_string Tryz.underlying9 hz'; have CO : (wTabs.getD k [])[n]? = some (jN k n) := by
  have hlen := jlP k hk; rw [aw (by omega), joT k n (by omega)]
 have e3 : u.1 = .lit (.string (jN k n)) := by
  have := congrArg (·[n]?) eys; simp only [ba, hu, CO, Option.map_some, aS] at this; exact this
 have e4 : s.data.toList = jN k n := by
  rw [e2] at e3
  simpa using e3
 have e5 : cs[k * 11 + n]? = some (.string s) := by
  have := congrArg (·[0]?) e1; simp only [List.getElem?_take, List.getElem?_drop] at this
  simpa [hn, Nat.add_assoc] using this
 rw [World.var?_cell hg iv (k * 11 + n)]; rw [<- e4, jhq]
 simpa using e5
def flagCells : Array Value := (flagTab.flatMap fun x => [Value.string (S x.1), .int .i64 (x.2 : Nat)]).toArray
def joD : DataW Unit := .agg (flagTab.map fun x => .agg [.lit (.string x.1), .lit (.int .i64 (x.2 : Nat))])
theorem ji0 : (Rows.laid_postroom_rule_flagNames : DataW Unit) = joD := by kernel_rfl
theorem flags_of (W : World) (h : laidMetH Tryz.prog [("postroom/rule.flagNames", Rows.laid_postroom_rule_flagNames)] W) : FlagsAt W := by
 have h1 : laidMet Tryz.prog [("postroom/rule.flagNames", Rows.laid_postroom_rule_flagNames)] W := h; rw [ji0] at h1; obtain ⟨ps, ⟨g', t', cs, fuel, p, q, gv, re, iv, hd, _, _⟩, _⟩ := h1; have hg : Tryz.prog.globalNamed "postroom/rule.flagNames" = some 4 := by kernel_rfl
 have rf : (Tryz.prog.globals[4]?).map (·.type) = some 304 := by kernel_rfl
 obtain rfl := bk (hg.symm.trans gv); obtain rfl := bk (rf.symm.trans re); have c2 : Tryz.prog.cellsOf 303 = 2 := by kernel_rfl
 have c1 : Tryz.prog.cellsOf 9 = 1 := by kernel_rfl
 have ci : Tryz.prog.cellsOf 3 = 1 := by kernel_rfl
 obtain ⟨xs, m, _, ex, _, mD, hx⟩ := DataW.trod_array Tryz.underlying304 hd; have exs : xs.map (·.1) = flagTab.map fun x => (.agg [.lit (.string x.1), .lit (.int .i64 (x.2 : Nat))] : DataW Unit) := by
  have := congrArg Prod.fst ex
  simpa [joD] using this.symm
 intro i hi; have eN := hx i hi; rw [c2] at eN; obtain ⟨y, hy⟩ : ∃ y, xs[i]? = some y := ⟨_, aw (by omega)⟩; rw [hy] at eN; have pM : flagTab[i]? = some (jbO i, jbP i) := by
  match i, hi with
  | 0, _ | 1, _ | 2, _ | 3, _ | 4, _ => rfl
 have ey : y.1 = .agg [.lit (.string (jbO i)), .lit (.int .i64 (jbP i : Nat))] := by
  have := congrArg (·[i]?) exs; simp only [ba, hy, pM, Option.map_some, aS] at this; exact this
 obtain ⟨zs, m', _, ez, _, hzl, hz⟩ := DataW.trod_struct Tryz.underlying303 eN; have ezs : zs.map (·.1) = [(.lit (.string (jbO i)) : DataW Unit), .lit (.int .i64 (jbP i : Nat))] := by
  have := congrArg Prod.fst ez; rw [ey] at this
  simpa using this.symm
 obtain ⟨z0, z1, rfl⟩ : ∃ z0 z1, zs = [z0, z1] := by
  match zs, hzl with
  | [z0, z1], _ => exact ⟨z0, z1, rfl⟩
 have e0 : z0.1 = .lit (.string (jbO i)) := (List.cons.inj ezs).1; have e1 : z1.1 = .lit (.int .i64 (jbP i : Nat)) := (List.cons.inj (List.cons.inj ezs).2).1; have h0 := (hz 0 _ rfl).trans (show [z0, z1][0]? = some z0 from rfl); have pp := (hz 1 _ rfl).trans (show [z0, z1][1]? = some z1 from rfl); obtain ⟨s, q0, q1, _⟩ := DataW.trod_string Tryz.underlying9 h0; obtain ⟨v, r0, r1, _⟩ := DataW.trod_int Tryz.underlying3 pp; have q0 : List.take (Tryz.prog.cellsOf 9) (List.drop 0 (List.take 2 (List.drop (i * 2) cs.toList))) = [.string s] := q0; have r0 : List.take (Tryz.prog.cellsOf 3) (List.drop 1 (List.take 2 (List.drop (i * 2) cs.toList))) = [.int .i64 v] := r0; rw [c1] at q0; rw [ci] at r0; have es : s.data.toList = jbO i := by
  rw [q1] at e0
  simpa using e0
 have ev : v = (jbP i : Nat) := by
  rw [r1] at e1
  simpa using e1
 have f0 : cs[i * 2]? = some (.string s) := by
  have := congrArg (·[0]?) q0; simp only [List.getElem?_take, List.getElem?_drop] at this
  simpa using this
 have f1 : cs[i * 2 + 1]? = some (.int .i64 v) := by
  have := congrArg (·[0]?) r0; simp only [List.getElem?_take, List.getElem?_drop] at this
  simpa using this
 refine ⟨?_, ?_⟩
 . rw [World.var?_cell hg iv (i * 2), <- es, jhq]
   simpa using f0
 . rw [World.var?_cell hg iv (i * 2 + 1), <- ev]
   simpa using f1
def litC : DataW Unit -> List Value
 | .lit (.int k n) => [.int k n]
 | .lit (.string s) => [.string (S s)]
 | _ => []
def jrt : DataW Unit -> List Value
 | .agg l => l.flatMap litC
 | d => litC d
def cellsD : DataW Unit -> Array Value
 | .agg l => (l.flatMap jrt).toArray
 | _ => #[]
theorem jcZ {W : World} {nm : String} {t : TypeId} (hg : Tryz.prog.globalNamed nm = some g) (rf : (Tryz.prog.globals[g]?).map (·.type) = some t) (hu : Tryz.prog.underlying t = some (.array n 9)) (hn : l.length = n)
 (h : laidMet Tryz.prog [(nm, (.agg (l.map fun s => .lit (.string s)) : DataW Unit))] W) : TabAt W g l := by
 obtain ⟨ps, ⟨g', t', cs, fuel, p, q, gv, re, iv, hd, _, _⟩, _⟩ := h; obtain rfl := bk (hg.symm.trans gv); obtain rfl := bk (rf.symm.trans re); have c1 : Tryz.prog.cellsOf 9 = 1 := by kernel_rfl
 obtain ⟨xs, m, _, ex, _, mD, hx⟩ := DataW.trod_array hu hd; have exs : xs.map (·.1) = l.map fun s => (.lit (.string s) : DataW Unit) := by
  have := congrArg Prod.fst ex
  simpa using this.symm
 intro i s hs; have hi : i < l.length := (au.1 hs).1; have eN := hx i (by omega); rw [c1] at eN; obtain ⟨y, hy⟩ : ∃ y, xs[i]? = some y := ⟨_, aw (by omega)⟩; rw [hy] at eN; obtain ⟨b, e1, e2, _⟩ := DataW.trod_string Tryz.underlying9 eN; have e3 : y.1 = .lit (.string s) := by
  have := congrArg (·[i]?) exs; simp only [ba, hy, hs, Option.map_some, aS] at this; exact this
 have e4 : b.data.toList = s := by
  rw [e2] at e3
  simpa using e3
 have e5 : cs[i]? = some (.string b) := by
  have := congrArg (·[0]?) e1; simp only [List.getElem?_take, List.getElem?_drop] at this
  simpa using this
 rw [World.var?_cell hg iv i, <- e4, jhq]
 simpa using e5
def one (nm : String) (L : List (String × DataW Unit)) : List (String × DataW Unit) := L.filter fun x => x.1 == nm
def TabsM (w : World) : Prop := Tabs w /\ maxLenCell w
theorem TabsM.next {w w' : World} (h : TabsM w) (hb : Below w.heap.size w w') : TabsM w' := ⟨h.1.next hb, maxLenCell_below h.2 hb⟩
theorem tabs_of (W : World) (L : List (String × DataW Unit)) (sG : W.ShapedOpen Tryz.prog) (hL : laidMet Tryz.prog L W)
 (h1 : one "postroom/script.words" L = [("postroom/script.words", Rows.laid_postroom_script_words)]) (h2 : one "postroom/rule.flagNames" L = [("postroom/rule.flagNames", Rows.laid_postroom_rule_flagNames)])
 (h3 : one "postroom/rule.requirable" L = [("postroom/rule.requirable", .agg (extT.map fun s => .lit (.string s)))])
 (h4 : one "postroom/rule.envelopeParts" L = [("postroom/rule.envelopeParts", .agg (partT.map fun s => .lit (.string s)))])
 (h5 : one "postroom/rule.neededFor" L = [("postroom/rule.neededFor", .agg (needT.map fun s => .lit (.string s)))]) : TabsM W := by
 have f : ∀ nm, laidMet Tryz.prog (one nm L) W := fun nm => laidMet.filter (fun x => x.1 == nm) hL
 refine ⟨⟨words_of W ?_, ?_, ?_, ?_, flags_of W ?_⟩, maxLenCell_shaped W sG⟩
 . have := f "postroom/script.words"; rw [h1] at this; exact this
 . have := f "postroom/rule.requirable"; rw [h3] at this; exact jcZ (n := 4) (by kernel_rfl) (by kernel_rfl) Tryz.underlying238 rfl this
 . have := f "postroom/rule.envelopeParts"; rw [h4] at this; exact jcZ (n := 2) (by kernel_rfl) (by kernel_rfl) Tryz.underlying340 rfl this
 . have := f "postroom/rule.neededFor"; rw [h5] at this; exact jcZ (n := 11) (by kernel_rfl) (by kernel_rfl) Tryz.underlying239 rfl this
 . have := f "postroom/rule.flagNames"; rw [h2] at this; exact this
def jie : Nat -> Tst -> Prop
 | 0, _ => False
 | n + 1, t => ∀ x ∈ t.tests, jie n x
def jct : Nat -> Cmd -> Prop
 | 0, _ => False
 | n + 1, c => jie n c.test /\ (∀ x ∈ c.thn, jct n x) /\ ∀ x ∈ c.els, jct n x
theorem RowM.impM {P P' : A -> List Value -> Prop} {v : Value} {l : List A} (h : RowM Q k P w v l) (hp : ∀ x ∈ l, ∀ cs, P x cs -> P' x cs) : RowM Q k P' w v l := by
 obtain ⟨a, c, hv, hm, hx⟩ := h; refine ⟨a, c, hv, hm, fun i x hi => ?_⟩; obtain ⟨b, o, cs, ha, hb, hQ, hl, hc, hP⟩ := hx i x hi; exact ⟨b, o, cs, ha, hb, hQ, hl, hc, hp x (aF hi) cs hP⟩
theorem TstM.less : ∀ (n m : Nat) (t : Tst) (cs : List Value), jie n t -> TstM Q m w t cs -> TstM Q n w t cs := by
 intro n
 induction n with
 | zero => intro m t cs h; exact h.elim
 | succ n ih =>
   intro m t cs hd h; cases m with
   | zero => exact h.elim
   | succ m =>
     obtain ⟨vn, vk, vt, h0, h1, h2, h3⟩ := h; exact ⟨vn, vk, vt, h0, h1, h2, RowM.impM h3 fun x hx cs hc => ih m x cs (hd x hx) hc⟩
theorem CmdM.less {Q : Nat -> Prop} {w : World} : ∀ (n m : Nat) (t : Cmd) (cs : List Value), jct n t -> CmdM Q m w t cs -> CmdM Q n w t cs := by
 intro n
 induction n with
 | zero => intro m t cs h; exact h.elim
 | succ n ih =>
   intro m t cs hd h; cases m with
   | zero => exact h.elim
   | succ m =>
     obtain ⟨vx, vn, vk, vt, va, ve, h0, h1, h2, h3, h4⟩ := h; exact ⟨vx, vn, vk, vt, va, ve, h0, h1, TstM.less n m _ _ hd.1 h2, RowM.impM h3 fun x hx cs hc => ih m x cs (hd.2.1 x hx) hc, RowM.impM h4 fun x hx cs hc => ih m x cs (hd.2.2 x hx) hc⟩
theorem CmdsM.less {Q : Nat -> Prop} {n m : Nat} {w : World} {v : Value} {l : List Cmd} (hd : ∀ x ∈ l, jct n x) (h : CmdsM Q m w v l) : CmdsM Q n w v l := RowM.impM h fun x hx cs hc => CmdM.less n m x cs (hd x hx) hc
def rdM (n : Nat) (s : List UInt8) : List Cmd × Int :=
 if (cutM s).2.2 ≠ 0 then ([], (cutM s).2.2)
 else if (j7 (cutM s).1).2.2 ≠ 0 then ([], (j7 (cutM s).1).2.2)
 else if jbY n (j7 (cutM s).1).1 ≠ 0 then ([], jbY n (j7 (cutM s).1).1)
 else ((j7 (cutM s).1).1, 0)
def RdP (w : World) (n : Nat) (r : List Cmd × Int) (e : Ending) (w' : World) : Prop :=
 ∃ a c, e = .returned (.tuple #[.slice a r.1.length c, .int .i64 r.2]) /\ CmdsM (newB w.heap.size) n w' (.slice a r.1.length c) r.1 /\ Below w.heap.size w w' /\ jcc a r.1.length c
theorem jlH {r : List Cmd × Int} {x : Int} (h : r = ([], x)) (hb : Below w.heap.size w w') : RdP w n r (.returned (.tuple #[.slice none 0 0, .int .i64 x])) w' := by
 subst h; exact ⟨none, 0, rfl, jh _ _ _ _ _ _, hb, jbv⟩
theorem jbu (n : Nat) (s : List UInt8) (w : World) (hm : TabsM w) (ht : ∀ t ∈ (cutM s).1, t.kind = 1 ∨ t.kind = 2 -> t.text.length <= maxLen) (hl : (cutM s).1.length <= 400)
 (hs : (j7 (cutM s).1).2.2 = 0 -> ∀ x ∈ (j7 (cutM s).1).1, vQ (n + 1) x /\ jct (n + 1) x) :
 Calls Tryz.prog 31 #[.string (S s)] w (RdP w (n + 1) (rdM (n + 1) s)) := by
 have HM := hid hm; obtain ⟨C, hC⟩ : ∃ C, C = cutM s := ⟨_, rfl⟩; have iz := hid (show rdM (n + 1) s = if C.2.2 ≠ 0 then ([], C.2.2) else if (j7 C.1).2.2 ≠ 0 then ([], (j7 C.1).2.2) else if jbY (n + 1) (j7 C.1).1 ≠ 0 then ([], jbY (n + 1) (j7 C.1).1) else ((j7 C.1).1, 0) by rw [hC]; rfl); rw [<- hC] at ht hl hs; obtain ⟨ts, p, x⟩ := C; simp only at ht hl hs iz; obtain ⟨P, hP⟩ : ∃ P, P = j7 ts := ⟨_, rfl⟩; rw [<- hP] at hs iz; obtain ⟨cs, q, y⟩ := P; simp only at hs iz; have HC := hid hC; have HP := hid hP; have HT := hid ht; have HS := hid hs; clear hm ht hs hC hP; go_enter Tryz.func31, Tryz.ntmps31; go_wp2_with fail; refine (joc s w HM.out.2).mono ?_; rw [<- HC.out]; rintro e w1 ⟨a1, c1, rfl, eR, hb1⟩; simp only at eR ⊢; have eW := hid eR; have bX := hid hb1; clear eR hb1
 by_cases hx : x = 0
 . subst hx; go_wp2_with fail; refine (jji a1 c1 ts w1 eW.out (by unfold maxLen; omega) HT.out (HM.out.next bX.out).1.1).mono ?_; rw [<- HP.out]; rintro e w2 ⟨a2, c2, rfl, nj, hb2, hr2⟩; simp only at nj hr2 ⊢; have fZ := hid nj; have bY := hid (bX.out.trans (hb2.mono bX.out.size)); have cY := hid (show CmdsM (newB w.heap.size) (ts.length + 3) w2 (.slice a2 cs.length c2) cs from RowM.imp nj (fun k hk => aN bX.out.size hk) (Keeps.refl _ _) fun _ _ h => CmdM.imp (fun k hk => aN bX.out.size hk) (Keeps.refl _ _) _ _ _ h); have cD := hid hr2; clear nj hb2 hr2
   by_cases hy : y = 0
   . have iW := hid (HS.out hy); clear HS; subst hy; obtain ⟨z, hz⟩ : ∃ z, z = jbY (n + 1) cs := ⟨_, rfl⟩; rw [<- hz] at iz; have HZ := hid hz; clear hz; go_wp2_with fail; refine (jdI n cs a2 c2 w2 (HM.out.next bY.out).1 cD.out.1 (fun h => cD.out.2 (by rw [h]; rfl)) (fun x hx => (iW.out x hx).1) (CmdsM.less (fun x hx => (iW.out x hx).2) fZ.out.any)).mono ?_; rw [<- HZ.out]; rintro e w3 ⟨rfl, hb3⟩; have bZ := hid (bY.out.trans (hb3.mono bY.out.size)); have fm := hid (CmdsM.less (fun x hx => (iW.out x hx).2) (CmdsM.next cY.out hb3)); clear hb3
     by_cases hz : z = 0
     . have HE := hid (show RdP w (n + 1) (rdM (n + 1) s) (.returned (.tuple #[.slice a2 cs.length c2, .int .i64 0])) w3 by
         rw [iz.out, if_neg (by simp), if_neg (by simp), if_neg (by simpa using hz)]; exact ⟨a2, c2, rfl, fm.out, bZ.out, cD.out⟩)
       subst hz; go_wp2; go_ret2; exact HE.out
     . have HE := hid (show RdP w (n + 1) (rdM (n + 1) s) (.returned (.tuple #[.slice none 0 0, .int .i64 z])) w3 from jlH (by rw [iz.out, if_neg (by simp), if_neg (by simp), if_pos hz]) bZ.out); go_wp2; go_ret2; exact HE.out
   . have HE := hid (show RdP w (n + 1) (rdM (n + 1) s) (.returned (.tuple #[.slice none 0 0, .int .i64 y])) w2 from jlH (by rw [iz.out, if_neg (by simp), if_pos hy]) bY.out); go_wp2; go_ret2; exact HE.out
 . have HE := hid (show RdP w (n + 1) (rdM (n + 1) s) (.returned (.tuple #[.slice none 0 0, .int .i64 x])) w1 from jlH (by rw [iz.out, if_pos hx]) bX.out); go_wp2; go_ret2; exact HE.out
def tokB : List Tok := [⟨1, [114, 101, 113, 117, 105, 114, 101], 0⟩, ⟨5, [91], 0⟩, ⟨4, [102, 105, 108, 101, 105, 110, 116, 111], 0⟩, ⟨5, [44], 0⟩, ⟨4, [105, 109, 97, 112, 52, 102, 108, 97, 103, 115], 0⟩, ⟨5, [93], 0⟩, ⟨5, [59], 0⟩, ⟨1, [105, 102], 0⟩, ⟨1, [104, 101, 97, 100, 101, 114], 0⟩, ⟨2, [99, 111, 110, 116, 97, 105, 110, 115], 0⟩, ⟨4, [115, 117, 98, 106, 101, 99, 116], 0⟩, ⟨4, [119, 111, 114, 107], 0⟩, ⟨5, [123], 0⟩, ⟨1, [115, 101, 116, 102, 108, 97, 103], 0⟩, ⟨4, [92, 83, 101, 101, 110], 0⟩, ⟨5, [59], 0⟩, ⟨1, [102, 105, 108, 101, 105, 110, 116, 111], 0⟩, ⟨4, [119, 111, 114, 107], 0⟩, ⟨5, [59], 0⟩, ⟨5, [125], 0⟩, ⟨1, [101, 108, 115, 105, 102], 0⟩, ⟨1, [115, 105, 122, 101], 0⟩, ⟨2, [111, 118, 101, 114], 0⟩, ⟨3, [], 300⟩, ⟨5, [123], 0⟩, ⟨1, [100, 105, 115, 99, 97, 114, 100], 0⟩, ⟨5, [59], 0⟩, ⟨5, [125], 0⟩]
def tokC : List Tok := [⟨1, [114, 101, 113, 117, 105, 114, 101], 0⟩, ⟨5, [91], 0⟩, ⟨4, [114, 101, 106, 101, 99, 116], 0⟩, ⟨5, [44], 0⟩, ⟨4, [101, 110, 118, 101, 108, 111, 112, 101], 0⟩, ⟨5, [93], 0⟩, ⟨5, [59], 0⟩, ⟨1, [105, 102], 0⟩, ⟨1, [101, 110, 118, 101, 108, 111, 112, 101], 0⟩, ⟨2, [108, 111, 99, 97, 108, 112, 97, 114, 116], 0⟩, ⟨4, [102, 114, 111, 109], 0⟩, ⟨4, [115, 112, 97, 109], 0⟩, ⟨5, [123], 0⟩, ⟨1, [114, 101, 106, 101, 99, 116], 0⟩, ⟨4, [110, 111], 0⟩, ⟨5, [59], 0⟩, ⟨5, [125], 0⟩, ⟨1, [101, 108, 115, 105, 102], 0⟩, ⟨1, [101, 120, 105, 115, 116, 115], 0⟩, ⟨4, [108, 105, 115, 116], 0⟩, ⟨5, [123], 0⟩, ⟨1, [114, 101, 100, 105, 114, 101, 99, 116], 0⟩, ⟨4, [97, 110, 110, 64, 120, 46, 121], 0⟩, ⟨5, [59], 0⟩, ⟨1, [107, 101, 101, 112], 0⟩, ⟨5, [59], 0⟩, ⟨5, [125], 0⟩]
def cmdB : List Cmd := [⟨1, [[102, 105, 108, 101, 105, 110, 116, 111], [105, 109, 97, 112, 52, 102, 108, 97, 103, 115]], jZ, [], []⟩, ⟨2, [], ⟨6, 2, 0, [[115, 117, 98, 106, 101, 99, 116]], [[119, 111, 114, 107]], false, 0, []⟩, [⟨8, [[92, 83, 101, 101, 110]], jZ, [], []⟩, ⟨5, [[119, 111, 114, 107]], jZ, [], []⟩], [⟨2, [], ⟨10, 0, 0, [], [], true, 300, []⟩, [⟨4, [], jZ, [], []⟩], []⟩]⟩]
def cmdC : List Cmd := [⟨1, [[114, 101, 106, 101, 99, 116], [101, 110, 118, 101, 108, 111, 112, 101]], jZ, [], []⟩, ⟨2, [], ⟨8, 1, 2, [[102, 114, 111, 109]], [[115, 112, 97, 109]], false, 0, []⟩, [⟨7, [[110, 111]], jZ, [], []⟩], [⟨2, [], ⟨9, 0, 0, [[108, 105, 115, 116]], [], false, 0, []⟩, [⟨6, [[97, 110, 110, 64, 120, 46, 121]], jZ, [], []⟩, ⟨3, [], jZ, [], []⟩], []⟩]⟩]
def scrF : List UInt8 := [102, 105, 108, 101, 105, 110, 116, 111, 32, 34, 97, 34, 59]
def scrK : List UInt8 := [107, 101, 101, 112]
def tokF : List Tok := [⟨1, [102, 105, 108, 101, 105, 110, 116, 111], 0⟩, ⟨4, [97], 0⟩, ⟨5, [59], 0⟩]
def cmdF : List Cmd := [⟨5, [[97]], jZ, [], []⟩]
theorem jmP : cutM scrB = (tokB, 0, 0) := by kernel_rfl
theorem jmQ : cutM scrC = (tokC, 0, 0) := by kernel_rfl
theorem jmR : cutM scrF = (tokF, 0, 0) := by kernel_rfl
theorem jmS : cutM scrK = ([⟨1, [107, 101, 101, 112], 0⟩], 0, 0) := by kernel_rfl
theorem jmO : cutM [] = ([], 0, 0) := by kernel_rfl
theorem jlt : j7 tokB = (cmdB, 0, 0) := by kernel_rfl
theorem jlu : j7 tokC = (cmdC, 0, 0) := by kernel_rfl
theorem jlv : j7 tokF = (cmdF, 0, 0) := by kernel_rfl
theorem jlw : j7 [⟨1, [107, 101, 101, 112], 0⟩] = ([], 1, 4) := by kernel_rfl
theorem jp4 : j7 [] = ([], 0, 0) := by kernel_rfl
theorem jre : jbY 5 cmdB = 0 := by kernel_rfl
theorem jrf : jbY 5 cmdC = 0 := by kernel_rfl
theorem jrg : jbY 5 cmdF = 8 := by kernel_rfl
theorem jrd : jbY 5 [] = 0 := by kernel_rfl
theorem jpX : oneA [97, 110, 110, 64, 120, 46, 121] = true := by kernel_rfl
theorem joA : (∀ t ∈ tokB, t.kind = 1 ∨ t.kind = 2 -> t.text.length <= maxLen) /\ ∀ x ∈ cmdB, vQ 5 x /\ jct 5 x := by
 refine ⟨fun t ht _ => ?_, ?_⟩
 . have h : ∀ t ∈ tokB, t.text.length <= 20 := by decide
   have := h t ht; unfold maxLen; omega
 . simp [cmdB, vQ, jct, jie, jZ]
theorem joB : (∀ t ∈ tokC, t.kind = 1 ∨ t.kind = 2 -> t.text.length <= maxLen) /\ ∀ x ∈ cmdC, vQ 5 x /\ jct 5 x := by
 refine ⟨fun t ht _ => ?_, ?_⟩
 . have h : ∀ t ∈ tokC, t.text.length <= 20 := by decide
   have := h t ht; unfold maxLen; omega
 . simp [cmdC, vQ, jct, jie, jZ, jpX]
theorem joC : (∀ t ∈ tokF, t.kind = 1 ∨ t.kind = 2 -> t.text.length <= maxLen) /\ ∀ x ∈ cmdF, vQ 5 x /\ jct 5 x := by
 refine ⟨fun t ht _ => ?_, ?_⟩
 . have h : ∀ t ∈ tokF, t.text.length <= 20 := by decide
   have := h t ht; unfold maxLen; omega
 . simp [cmdF, vQ, jct, jie, jZ]
theorem jra (w : World) (hm : TabsM w) : Calls Tryz.prog 31 #[.string (S scrB)] w (RdP w 5 (cmdB, 0)) := by
 have h := jbu 4 scrB w hm (by rw [jmP]; exact joA.1) (by rw [jmP]; decide) (by rw [jmP]; simp only; rw [jlt]; exact fun _ => joA.2); rw [show rdM (4 + 1) scrB = (cmdB, 0) by unfold rdM; rw [jmP]; simp only; rw [jlt]; simp only; rw [jre]; simp] at h; exact h
theorem jrb (w : World) (hm : TabsM w) : Calls Tryz.prog 31 #[.string (S scrC)] w (RdP w 5 (cmdC, 0)) := by
 have h := jbu 4 scrC w hm (by rw [jmQ]; exact joB.1) (by rw [jmQ]; decide) (by rw [jmQ]; simp only; rw [jlu]; exact fun _ => joB.2); rw [show rdM (4 + 1) scrC = (cmdC, 0) by unfold rdM; rw [jmQ]; simp only; rw [jlu]; simp only; rw [jrf]; simp] at h; exact h
theorem jrz (w : World) (hm : TabsM w) : Calls Tryz.prog 31 #[.string (S scrF)] w (RdP w 5 ([], 8)) := by
 have h := jbu 4 scrF w hm (by rw [jmR]; exact joC.1) (by rw [jmR]; decide) (by rw [jmR]; simp only; rw [jlv]; exact fun _ => joC.2); rw [show rdM (4 + 1) scrF = ([], 8) by unfold rdM; rw [jmR]; simp only; rw [jlv]; simp only; rw [jrg]; simp] at h; exact h
theorem jrA (w : World) (hm : TabsM w) : Calls Tryz.prog 31 #[.string (S scrK)] w (RdP w 5 ([], 4)) := by
 have h := jbu 4 scrK w hm (by rw [jmS]; intro t ht _; simp at ht; subst ht; simp [maxLen]) (by rw [jmS]; decide) (by rw [jmS]; simp only; rw [jlw]; exact fun e => by simp at e); rw [show rdM (4 + 1) scrK = ([], 4) by unfold rdM; rw [jmS]; simp only; rw [jlw]; simp] at h; exact h
theorem jq9 (w : World) (hm : TabsM w) : Calls Tryz.prog 31 #[.string (S [])] w (RdP w 5 ([], 0)) := by
 have h := jbu 4 [] w hm (by rw [jmO]; exact fun t ht => by cases ht) (by rw [jmO]; decide) (by rw [jmO]; exact fun _ x hx => by cases hx); rw [show rdM (4 + 1) [] = ([], 0) by unfold rdM; rw [jmO]; simp only; rw [jp4]; simp only; rw [jrd]; simp] at h; exact h
end Go.Proofs.YtjdkbdkimbgbfaaGreatDoor
