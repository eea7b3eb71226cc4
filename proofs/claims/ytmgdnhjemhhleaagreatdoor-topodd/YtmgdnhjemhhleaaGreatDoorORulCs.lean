/-
  The tables of package rule in memory, and what its small functions do: the walks.
-/
import Derived.Test.YtmgdnhjemhhleaaGreatDoorRows
import Derived.Test.YtmgdnhjemhhleaaGreatDoorOWhoRd
import Derived.Maps.OwnOps
import Derived.Maps.Views
import Derived.Maps.OwnSet
import Derived.Test.YtmgdnhjemhhleaaGreatDoorOScrW
import Derived.Test.YtmgdnhjemhhleaaGreatDoorORowGen
set_option maxHeartbeats 8000000
set_option maxRecDepth 100000
namespace Go.Proofs.YtmgdnhjemhhleaaGreatDoor
open Go.RowKit Go.Proofs
def TabAt (w : World) (g : Nat) (l : List (List UInt8)) : Prop := ∀ (i : Nat) x, l[i]? = some x → w.cell? ⟨g, i, none⟩ = some (.string (S x))
theorem TabAt.next {w w' : World} {g : Nat} {l : List (List UInt8)} (h : TabAt w g l) (hb : Below w.heap.size w w') : TabAt w' g l := fun i x hx => ja (h i x hx) hb
def extT : List (List UInt8) := [jim, rejW, envW, flgW]
def partT : List (List UInt8) := [jmb, toW]
def needT : List (List UInt8) := [[], [], [], [], [], jim, [], rejW, flgW, flgW, []]
theorem jjr {a b : List UInt8} (h : a ≠ b) : ((S a).toList == (S b).toList) = false := by rw [Lib.toList_data, Lib.toList_data, jj, jj]; simpa using h
theorem jih (i : Nat) (s : List UInt8) : (extT.drop i).contains s = match extT[i]? with
 | some x => decide (x = s) || (extT.drop (i + 1)).contains s
 | none => false := by
 match i with
 | 0 | 1 | 2 | 3 => simp [extT, eq_comm]
 | i + 4 => simp [extT]
theorem jma (s : List UInt8) : extP s = (extT.drop 0).contains s := by
 simp [extP, extT, Bool.or_assoc]
theorem jho (i : Nat) (s : List UInt8) : (partT.drop i).contains s = match partT[i]? with
 | some x => decide (x = s) || (partT.drop (i + 1)).contains s
 | none => false := by
 match i with
 | 0 | 1 => simp [partT, eq_comm]
 | i + 2 => simp [partT]
theorem jkI (s : List UInt8) : qK s = (partT.drop 0).contains s := by
 simp [qK, partT]
theorem jiC (s : List UInt8) (w : World) (hw : TabAt w 0 extT) :
 Calls Tryz.prog 131 #[.string (S s)] w fun e w' => e = .returned (.bool (extP s)) ∧ w' = w := by
 have a0 := hw 0 _ rfl; have a1 := hw 1 _ rfl; have a2 := hw 2 _ rfl; have a3 := hw 3 _ rfl; have HN := hid (jma s); clear hw; go_enter Tryz.func131, Tryz.ntmps131; go_wp2
 go_loopw [6] (fun v wr => ∃ i : Nat, i ≤ 4 ∧ v = .int .i64 i ∧ wr = w ∧ Hid (extP s = (extT.drop i).contains s)) (fun v _ => 4 - (intOf v).toNat)
 case atStart => exact ⟨0, by omega, rfl, rfl, HN⟩
 case round =>
  obtain ⟨i, hi, rfl, rfl, hN⟩ := hrel
  by_cases hlt : i < 4
  · have i1 : (i : Int) < 4 := by omega
    obtain ⟨nm, hnm⟩ : ∃ nm, extT[i]? = some nm := ⟨_, List.getElem?_eq_getElem (by simpa [extT] using hlt)⟩; have hidx : ∀ w : World, (Instr.index 239 (.agg #[.string (S jim), .string (S rejW), .string (S envW), .string (S flgW)]) (.int .i64 i)).run Tryz.prog w = .ok (.string (S nm)) w := by
        intro w
        match i, hlt with
        | 0, _ | 1, _ | 2, _ | 3, _ => cases hnm; rfl
    have HS := jih i s; rw [hnm] at HS; simp only at HS
    by_cases hs : nm = s
    · have HE := hid (show extP s = true by rw [hN.out, HS]; simp [hs]); have hq : ((S nm).toList == (S s).toList) = true := by rw [hs]; simp
      clear HS hs hnm; go_wp2; go_ret; exact ⟨jb HE.out.symm, rfl⟩
    · have HE := hid (show extP s = (extT.drop (i + 1)).contains s by rw [hN.out, HS]; simp [hs]); have hq : ((S nm).toList == (S s).toList) = false := jjr hs; clear HS hs hnm; go_wp2
      case roundEnd => exact ⟨⟨i + 1, by omega, by go_num, trivial, HE⟩, by simp [intOf]; omega⟩
  · have i1 : ¬ (i : Int) < 4 := by omega
    have HE := hid (show extP s = false by rw [hN.out, List.drop_eq_nil_of_le (by simp [extT]; omega)]; rfl); go_wp2; go_ret; exact ⟨jb HE.out.symm, rfl⟩
theorem jg2 (s : List UInt8) (w : World) (hw : TabAt w 5 partT) :
 Calls Tryz.prog 258 #[.string (S s)] w fun e w' => e = .returned (.bool (qK s)) ∧ w' = w := by
 have a0 := hw 0 _ rfl; have a1 := hw 1 _ rfl; have HN := hid (jkI s); clear hw; go_enter Tryz.func258, Tryz.ntmps258; go_wp2
 go_loopw [6] (fun v wr => ∃ i : Nat, i ≤ 2 ∧ v = .int .i64 i ∧ wr = w ∧ Hid (qK s = (partT.drop i).contains s)) (fun v _ => 2 - (intOf v).toNat)
 case atStart => exact ⟨0, by omega, rfl, rfl, HN⟩
 case round =>
  obtain ⟨i, hi, rfl, rfl, hN⟩ := hrel
  by_cases hlt : i < 2
  · have i1 : (i : Int) < 2 := by omega
    obtain ⟨nm, hnm⟩ : ∃ nm, partT[i]? = some nm := ⟨_, List.getElem?_eq_getElem (by simpa [partT] using hlt)⟩; have hidx : ∀ w : World, (Instr.index 345 (.agg #[.string (S jmb), .string (S toW)]) (.int .i64 i)).run Tryz.prog w = .ok (.string (S nm)) w := by
        intro w
        match i, hlt with
        | 0, _ | 1, _ => cases hnm; rfl
    have HS := jho i s; rw [hnm] at HS; simp only at HS
    by_cases hs : nm = s
    · have HE := hid (show qK s = true by rw [hN.out, HS]; simp [hs]); have hq : ((S nm).toList == (S s).toList) = true := by rw [hs]; simp
      clear HS hs hnm; go_wp2; go_ret; exact ⟨jb HE.out.symm, rfl⟩
    · have HE := hid (show qK s = (partT.drop (i + 1)).contains s by rw [hN.out, HS]; simp [hs]); have hq : ((S nm).toList == (S s).toList) = false := jjr hs; clear HS hs hnm; go_wp2
      case roundEnd => exact ⟨⟨i + 1, by omega, by go_num, trivial, HE⟩, by simp [intOf]; omega⟩
  · have i1 : ¬ (i : Int) < 2 := by omega
    have HE := hid (show qK s = false by rw [hN.out, List.drop_eq_nil_of_le (by simp [partT]; omega)]; rfl); go_wp2; go_ret; exact ⟨jb HE.out.symm, rfl⟩
theorem jhd {l : List (List UInt8)} {i : Nat} {x : List UInt8} (h : l[i]? = some x) : zY (l.drop i) = (decide (100 < x.length) || zY (l.drop (i + 1))) := by
 have hi : i < l.length := (List.getElem?_eq_some_iff.1 h).1; have e : l[i] = x := (List.getElem?_eq_some_iff.1 h).2; rw [List.drop_eq_getElem_cons hi, e]; rfl
theorem vY (l : List (List UInt8)) (a : Option Addr) (c : Nat) (w : World) (hT : TxtsM anyB w (.slice a l.length c) l) :
 Calls Tryz.prog 236 #[.slice a l.length c] w fun e w' => e = .returned (.bool (zY l)) ∧ w' = w := by
 have HT := hid hT; have hlm := hT.small; unfold maxLen at hlm; have HN : Hid (zY l = zY (l.drop 0)) := rfl; clear hT; go_enter Tryz.func236, Tryz.ntmps236; go_wp2
 go_loopw [7] (fun v wr => ∃ i : Nat, i ≤ l.length ∧ v = .int .i64 i ∧ wr = w ∧ Hid (zY l = zY (l.drop i))) (fun v _ => l.length - (intOf v).toNat)
 case atStart => exact ⟨0, by omega, rfl, rfl, HN⟩
 case round =>
  obtain ⟨i, hi, rfl, rfl, hN⟩ := hrel
  by_cases hlt : i < l.length
  · have i1 : (i : Int) < (l.length : Int) := by omega
    have i0 : (0 : Int) ≤ (i : Int) := by omega
    obtain ⟨x, hx⟩ : ∃ x, l[i]? = some x := ⟨_, List.getElem?_eq_getElem hlt⟩; have HS := hid (jhd hx); obtain ⟨a', c', hv, _, hr⟩ := HT.out; simp only [Value.slice.injEq, true_and] at hv; obtain ⟨rfl, rfl⟩ := hv; obtain ⟨b, o, cs, rfl, hbl, _, _, hc, hP⟩ := hr i x hx; have hcs : cs = [.string (S x)] := hP; subst hcs; have e0 : wr.cell? ⟨b, o + i, none⟩ = some (.string (S x)) := by simpa using hc 0 _ rfl
    have hsz : (S x).size = x.length := jd x; clear hc hr hP hx
    by_cases hf : 100 < x.length
    · have HE := hid (show zY l = true by rw [hN.out, HS.out]; simp [hf]); have j1 : (100 : Int) < ((S x).size : Int) := by rw [hsz]; omega
      clear hsz; go_wp2; go_ret; exact ⟨jb HE.out.symm, rfl⟩
    · have HE := hid (show zY l = zY (l.drop (i + 1)) by rw [hN.out, HS.out]; simp [hf]); have j1 : ¬ (100 : Int) < ((S x).size : Int) := by rw [hsz]; omega
      clear hsz; go_wp2
      case roundEnd => exact ⟨⟨i + 1, by omega, by go_num, trivial, HE⟩, by simp [intOf]; omega⟩
  · have i1 : ¬ (i : Int) < (l.length : Int) := by omega
    have HE := hid (show zY l = false by rw [hN.out, List.drop_eq_nil_of_le (by omega)]; rfl); go_wp2; go_ret; exact ⟨jb HE.out.symm, rfl⟩
theorem jkg (s : List UInt8) (w : World) (hs : s.length ≤ maxLen) :
 Calls Tryz.prog 166 #[.string (S s)] w fun e w' => e = .returned (.int .i64 (jcs s)) ∧ Below w.heap.size w w' := by
 have HS := hid (show (S s).size ≤ maxLen by rw [jd]; exact hs); have HL := hid (show vi (S s).data.toList = vi s by rw [jj]); obtain ⟨xs, er, hp⟩ : ∃ xs er, vi s = (xs, er) := ⟨(vi s).1, (vi s).2, rfl⟩; have HP := hid hp; clear hp; go_enter Tryz.func166, Tryz.ntmps166; go_wp2_with fail; refine (jko (S s) w HS.out).mono ?_; rw [HL.out, HP.out]; rintro e w1 ⟨a, c, rfl, _, hb1⟩; simp only; have HB1 := hid hb1; clear hb1
 by_cases he : er = 0
 · subst he
   by_cases h1 : xs.length = 1
   · have HG := hid (show jcs s = 0 by unfold jcs; rw [HP.out, if_pos ⟨rfl, h1⟩]); rw [h1]; go_wp2; go_ret; exact ⟨jc HG.out.symm, HB1.out⟩
   · have HG := hid (show jcs s = 3 by unfold jcs; rw [HP.out, if_neg (fun h => h1 h.2)]); have hne : ((xs.length : Int) == 1) = false := by simp; omega
     generalize xs.length = k at *; go_wp2; go_ret; exact ⟨jc HG.out.symm, HB1.out⟩
 · have HG := hid (show jcs s = 3 by unfold jcs; rw [HP.out, if_neg (fun h => he h.1)]); have hne : (er == 0) = false := by simpa using he
   go_wp2; go_ret; exact ⟨jc HG.out.symm, HB1.out⟩
open Go.Maps
theorem jiR : Keyed Tryz.prog 9 := string_keyed Tryz.underlying9
theorem jiS (w : World) : (zeroValue 3).run Tryz.prog w = .ok (.int .i64 0) w := by kernel_rfl
def ReqM (w : World) (B N : Nat) (Hs : List (List UInt8)) : Prop :=
 ∃ D : DataW Unit, w.ownsMap Tryz.prog 9 (plainElem Tryz.prog 3) B N D ∧ ∀ s : List UInt8, ∃ c : Int, D.atKey (.string s) (.lit (.int .i64 0)) = .lit (.int .i64 c) ∧ 0 ≤ c ∧ c ≤ N ∧ (0 < c ↔ s ∈ Hs)
theorem ReqM.next {w w' : World} {B N : Nat} {Hs : List (List UInt8)} (h : ReqM w B N Hs) (hb : Below w.heap.size w w') : ReqM w' B N Hs := by
 obtain ⟨D, ⟨es, clock, h1, h2⟩, h3⟩ := h; exact ⟨D, ⟨es, clock, (hb.block _ (Array.getElem?_eq_some_iff.1 h1).1).trans h1, h2⟩, h3⟩
theorem ReqM.made (w : World) : ReqM (w.alloc (.map #[] 0)) w.heap.size 0 [] :=
 ⟨.map [], World.ownsMap_made _ _ _ _, fun s => ⟨0, rfl, Int.le_refl _, Int.le_refl _, by simp⟩⟩
theorem jiu (s : List UInt8) (hs : s.length ≤ maxLen) (w : World) (B N : Nat) (Hs : List (List UInt8)) (h : ReqM w B N Hs) :
 Calls Tryz.prog 164 #[.map (some B), .string (S s)] w fun e w' => e = .returned (.bool (hasP Hs s)) ∧ w' = w := by
 obtain ⟨D, hown, hD⟩ := h; obtain ⟨c, hc, hc0, hcN, hiff⟩ := hD s
 by_cases h0 : s = []
 · subst h0; have HR := hid (show hasP Hs [] = true from rfl); have hS0 : (S ([] : List UInt8)).toList = [] := by rw [Lib.toList_data, jj]
   go_enter Tryz.func164, Tryz.ntmps164; go_wp2; go_ret; exact ⟨jb HR.out.symm, rfl⟩
 · have hkey : keyOf Tryz.prog 9 (.string (S s)) = some (.string s) := by
    have := Go.WideMaps.keyOf_string_mk Tryz.underlying9 (s := S s) (by rw [jd]; exact hs); rw [jj] at this; exact this
   obtain ⟨c', hrun, hat, _⟩ := hown.lookup_int jiR Tryz.underlying173 Tryz.underlying3 (jiS _) hkey; have hcc : c' = c := by
    rw [hc] at hat
    simpa using hat.symm
   subst hcc; have hq3 : ¬ (S s).toList = [] := by rw [Lib.toList_data, jj]; exact h0
   have hq4 : (S s).toList.isEmpty = false := by rw [Lib.toList_data, jj]; cases s with
    | nil => exact absurd rfl h0
    | cons a r => rfl
   by_cases hm : s ∈ Hs
   · have hp : 0 < c' := hiff.2 hm; have HR := hid (show hasP Hs s = true by unfold hasP; simp [hm]); clear hD hown hc hiff hat hkey; go_enter Tryz.func164, Tryz.ntmps164; go_wp2; go_ret; exact ⟨jb HR.out.symm, rfl⟩
   · have hp : ¬ 0 < c' := fun h => hm (hiff.1 h)
     have HR := hid (show hasP Hs s = false by unfold hasP; simp [hm, h0]); clear hD hown hc hiff hat hkey; go_enter Tryz.func164, Tryz.ntmps164; go_wp2; go_ret; exact ⟨jb HR.out.symm, rfl⟩
theorem jgs {l : List Cmd} {i : Nat} {x : Cmd} (h : l[i]? = some x) : zm (l.drop i) = if x.kind = 1 then zm (l.drop (i + 1)) + 1 else 0 := by
 have hi : i < l.length := (List.getElem?_eq_some_iff.1 h).1; have e : l[i] = x := (List.getElem?_eq_some_iff.1 h).2; rw [List.drop_eq_getElem_cons hi, e]; rfl
theorem jd0 (n : Nat) (l : List Cmd) (a : Option Addr) (k : Nat) (w : World) (h : CmdsM anyB n w (.slice a l.length k) l) :
 Calls Tryz.prog 98 #[.slice a l.length k] w fun e w' => e = .returned (.int .i64 (zm l : Nat)) ∧ Below w.heap.size w w' := by
 have H3 := hid h; have hmx := h.small; unfold maxLen at hmx; have HR := hid (show zm l = 0 + zm (l.drop 0) by simp); clear h; go_enter Tryz.func98, Tryz.ntmps98; go_wp2
 go_loopw [7] (fun v wr => ∃ i : Nat, i ≤ l.length ∧ v = .int .i64 i ∧ Hid (Below w.heap.size w wr) ∧ Hid (zm l = i + zm (l.drop i))) (fun v _ => l.length - (intOf v).toNat)
 case atStart => exact ⟨0, Nat.zero_le _, rfl, Below.refl _ _, HR⟩
 case round =>
  obtain ⟨i, hi, rfl, HB, hN⟩ := hrel
  by_cases hlt : i < l.length
  · have i1 : (i : Int) < (l.length : Int) := by omega
    have i3 : (0 : Int) ≤ (i : Int) := by omega
    obtain ⟨x, hx⟩ : ∃ x, l[i]? = some x := ⟨_, List.getElem?_eq_getElem hlt⟩; have HS := hid (jgs hx); obtain ⟨b, o, ax, cx, an, cn, ak, ck, at', ct, aa, ca, ae, ce, rfl, hbl, e0, e1, e2, e3, e4, e5, e6, e7, e8, e9, e10, e11, hT⟩ := jae (H3.out.next HB.out) hx; have HAL := hid (HB.out.alloc (o := .cells #[.int .i64 x.kind, .slice ax x.texts.length cx, .int .i64 x.test.kind, .int .i64 x.test.mat, .int .i64 x.test.part, .slice an x.test.names.length cn, .slice ak x.test.keys.length ck, .bool x.test.over, .int .i64 x.test.limit, .slice at' x.test.tests.length ct, .slice aa x.thn.length ca, .slice ae x.els.length ce] 207) HB.out.size); clear hx hT
    by_cases hk : x.kind = 1
    · have HN2 := hid (show zm l = (i + 1) + zm (l.drop (i + 1)) by rw [hN.out, HS.out, if_pos hk]; omega); have hkb : (x.kind == 1) = true := by simpa using hk
      clear hk; go_wp2
      case roundEnd => exact ⟨⟨i + 1, by omega, by go_num, HAL, HN2⟩, by simp [intOf]; omega⟩
    · have HN2 := hid (show zm l = i by rw [hN.out, HS.out, if_neg hk]; omega); have hkb : (x.kind == 1) = false := by simpa using hk
      clear hk; go_wp2; go_ret; exact ⟨jc (by rw [HN2.out]), HAL.out⟩
  · have i1 : ¬ (i : Int) < (l.length : Int) := by omega
    have HE := hid (show zm l = l.length by rw [hN.out, List.drop_eq_nil_of_le (by omega)]; show i + 0 = _; omega); go_wp2; go_ret; exact ⟨jc (by rw [HE.out]), HB.out⟩
theorem ReqM.count {D : DataW Unit} {N : Nat} {Hs : List (List UInt8)} (hM : IsMap D) (h : ∀ s : List UInt8, ∃ c : Int, D.atKey (.string s) (.lit (.int .i64 0)) = .lit (.int .i64 c) ∧ 0 ≤ c ∧ c ≤ N ∧ (0 < c ↔ s ∈ Hs)) (x : List UInt8) (c : Int) (hc : D.atKey (.string x) (.lit (.int .i64 0)) = .lit (.int .i64 c)) (hx : WideAt.IsKeyLit (.string x)) :
 ∀ s : List UInt8, ∃ c' : Int, (D.put (.string x) (.lit (.int .i64 (c + 1)))).atKey (.string s) (.lit (.int .i64 0)) = .lit (.int .i64 c') ∧ 0 ≤ c' ∧ c' ≤ ((N + 1 : Nat) : Int) ∧ (0 < c' ↔ s ∈ Hs ++ [x]) := by
 intro s
 by_cases hs : s = x
 · subst hs; obtain ⟨c1, h1, h2, h3, h4⟩ := h s; have e : c1 = c := by rw [hc] at h1; simpa using h1.symm
   subst e; exact ⟨c1 + 1, atKey_put_same hM hx _ _, by omega, by omega, by simp; omega⟩
 · obtain ⟨c1, h1, h2, h3, h4⟩ := h s; refine ⟨c1, (atKey_put_other (by simpa using hs) _ _).trans h1, h2, by omega, ?_⟩; rw [h4]; simp [hs]
def jeU (w : World) (l : List Cmd) (e : Ending) (w' : World) : Prop :=
 if (l.flatMap (·.texts)).all extP = true then (∃ N, e = .returned (.tuple #[.map (some w.heap.size), .int .i64 0]) ∧ ReqM w' w.heap.size N (l.flatMap (·.texts))) ∧ Below w.heap.size w w'
 else e = .returned (.tuple #[.map none, .int .i64 7]) ∧ Below w.heap.size w w'
theorem jbW {l : List Cmd} {i : Nat} {x : Cmd} (h : l[i]? = some x) : (l.take (i + 1)).flatMap (·.texts) = (l.take i).flatMap (·.texts) ++ x.texts := by
 have hi : i < l.length := (List.getElem?_eq_some_iff.1 h).1; have e : l[i] = x := (List.getElem?_eq_some_iff.1 h).2; rw [List.take_succ_eq_append_getElem hi, List.flatMap_append, e]
 simp
theorem jjy {l : List (List UInt8)} {i : Nat} {x : List UInt8} (h : l[i]? = some x) : l.take (i + 1) = l.take i ++ [x] := by
 have hi : i < l.length := (List.getElem?_eq_some_iff.1 h).1; have e : l[i] = x := (List.getElem?_eq_some_iff.1 h).2; rw [List.take_succ_eq_append_getElem hi, e]
theorem jec {l : List Cmd} {i j : Nat} {x : Cmd} (h : l[i]? = some x) (hj : j ≤ x.texts.length) : ((l.take i).flatMap (·.texts) ++ x.texts.take j).length ≤ (l.flatMap (·.texts)).length := by
 have hi : i < l.length := (List.getElem?_eq_some_iff.1 h).1; have h1 : l.flatMap (·.texts) = (l.take (i + 1)).flatMap (·.texts) ++ (l.drop (i + 1)).flatMap (·.texts) := by rw [← List.flatMap_append, List.take_append_drop]
 rw [h1, jbW h]
 simp
 omega
theorem jii {s : List UInt8} (h : extP s = true) : s.length ≤ maxLen := by
 unfold maxLen; simp only [extP, Bool.or_eq_true, decide_eq_true_eq] at h
 rcases h with ((rfl | rfl) | rfl) | rfl <;> decide
theorem jex (n : Nat) (l : List Cmd) (a : Option Addr) (k : Nat) (w : World) (hl : (l.flatMap (·.texts)).length ≤ 400) (hw : TabAt w 0 extT) (h : CmdsM anyB n w (.slice a l.length k) l) :
 Calls Tryz.prog 99 #[.slice a l.length k] w (jeU w l) := by
 have H3 := hid h; have HW := hid hw; have hmx := h.small; unfold maxLen at hmx; have hmm := @run_makeMap Tryz.prog; clear h hw; go_enter Tryz.func99, Tryz.ntmps99; go_wp2; clear hmm
 go_loopw [12] (fun v wr => ∃ i : Nat, i ≤ l.length ∧ v = .int .i64 i ∧ Hid (Below w.heap.size w wr) ∧ Hid (ReqM wr w.heap.size ((l.take i).flatMap (·.texts)).length ((l.take i).flatMap (·.texts))) ∧ Hid (((l.take i).flatMap (·.texts)).all extP = true)) (fun v _ => l.length - (intOf v).toNat)
 case atStart => exact ⟨0, Nat.zero_le _, rfl, nb0 _ _, ReqM.made w, rfl⟩
 case round =>
  obtain ⟨i, hi, rfl, HB, HM, HA⟩ := hrel
  by_cases hlt : i < l.length
  · have i1 : (i : Int) < (l.length : Int) := by omega
    have i3 : (0 : Int) ≤ (i : Int) := by omega
    obtain ⟨x, hx⟩ : ∃ x, l[i]? = some x := ⟨_, List.getElem?_eq_getElem hlt⟩; have HX := hid hx; obtain ⟨b, o, ax, cx, an, cn, ak, ck, at', ct, aa, ca, ae, ce, rfl, hbl, e0, e1, e2, e3, e4, e5, e6, e7, e8, e9, e10, e11, hT⟩ := jae H3.out hx; obtain ⟨_, _, _, _, _, _, _, _, _, _, _, _, m, hm, he, hT1, _, _, _⟩ := zA hT; simp only [List.cons.injEq, Value.slice.injEq, true_and, and_true] at he; obtain ⟨⟨rfl, rfl⟩, -⟩ := he; have HT1 := hid hT1; clear hT hm hT1 hx; replace e0 := ja e0 HB.out; replace e1 := ja e1 HB.out; replace e2 := ja e2 HB.out; replace e3 := ja e3 HB.out; replace e4 := ja e4 HB.out; replace e5 := ja e5 HB.out; replace e6 := ja e6 HB.out; replace e7 := ja e7 HB.out; replace e8 := ja e8 HB.out; replace e9 := ja e9 HB.out; replace e10 := ja e10 HB.out; replace e11 := ja e11 HB.out; obtain ⟨wo, hwo⟩ : ∃ wo, wo = wr := ⟨_, rfl⟩; subst hwo; obtain ⟨W1, hW1⟩ : ∃ W1, W1 = wo.alloc (.cells #[.int .i64 x.kind, .slice ax x.texts.length cx, .int .i64 x.test.kind, .int .i64 x.test.mat, .int .i64 x.test.part, .slice an x.test.names.length cn, .slice ak x.test.keys.length ck, .bool x.test.over, .int .i64 x.test.limit, .slice at' x.test.tests.length ct, .slice aa x.thn.length ca, .slice ae x.els.length ce] 207) := ⟨_, rfl⟩; have HB1 := hid (show Below wo.heap.size wo W1 by rw [hW1]; exact nb0 _ _); have HWE := hid hW1; clear hW1; have hmt := HT1.out.small; unfold maxLen at hmt; go_wp2; rw [← HWE.out]; clear HWE e0 e1 e2 e3 e4 e5 e6 e7 e8 e9 e10 e11
    go_loopw [19] (fun v wr => ∃ j : Nat, j ≤ x.texts.length ∧ v = .int .i64 j ∧ Hid (Below w.heap.size w wr) ∧ Hid (ReqM wr w.heap.size ((l.take i).flatMap (·.texts) ++ x.texts.take j).length ((l.take i).flatMap (·.texts) ++ x.texts.take j)) ∧ Hid (((l.take i).flatMap (·.texts) ++ x.texts.take j).all extP = true)) (fun v _ => x.texts.length - (intOf v).toNat)
    case atStart => exact ⟨0, Nat.zero_le _, rfl, HB.out.trans (HB1.out.mono HB.out.size), by unfold Hid; simp only [List.take_zero, List.append_nil]; exact HM.out.next HB1.out, by unfold Hid; simp only [List.take_zero, List.append_nil]; exact HA.out⟩
    case round =>
        obtain ⟨j, hj, rfl, HB2, HM2, HA2⟩ := hrel
        by_cases hjl : j < x.texts.length
        · have j1 : (j : Int) < (x.texts.length : Int) := by omega
          have j3 : (0 : Int) ≤ (j : Int) := by omega
          obtain ⟨s, hs⟩ : ∃ s, x.texts[j]? = some s := ⟨_, List.getElem?_eq_getElem hjl⟩; have HST := hid (jjy hs); have HRM := hid (jec HX.out (j := j + 1) (by omega)); obtain ⟨a', c', hv, _, hr⟩ := HT1.out.next HB2.out; simp only [Value.slice.injEq, true_and] at hv; obtain ⟨rfl, rfl⟩ := hv; obtain ⟨bt, ot, cs, rfl, hbt, _, _, hc, hP⟩ := hr j s hs; have hcs : cs = [.string (S s)] := hP; subst hcs; have d0 : wr.cell? ⟨bt, ot + j, none⟩ = some (.string (S s)) := by simpa using hc 0 _ rfl
          have HSJ := hid hs; clear hc hr hP hs; go_wp2_with fail; refine (jiC s wr (HW.out.next HB2.out)).mono ?_; rintro e u ⟨rfl, hu⟩; have hu' := hu.symm; subst hu'; clear hu
          by_cases hx : extP s = true
          · have HXE := hid hx; rw [hx]; clear hx; obtain ⟨D, hown, hD⟩ := HM2.out; have HD := hid hD; have hkey : keyOf Tryz.prog 9 (.string (S s)) = some (.string s) := by
             have := Go.WideMaps.keyOf_string_mk Tryz.underlying9 (s := S s) (by rw [jd]; exact jii HXE.out); rw [jj] at this; exact this
            have hNm : ((l.take i).flatMap (·.texts) ++ x.texts.take j).length < maxLen := by
             have := jec HX.out (j := j) (by omega); unfold maxLen; omega
            generalize hN : ((l.take i).flatMap (·.texts) ++ x.texts.take j).length = N at *; clear hD
            go_wp2_with (first
             | (at_lookup; refine wpList_lookup_own_int _ rfl _ _ 173 rfl 9 3 .i64 jiR Tryz.underlying173 Tryz.underlying3 (jiS _) w.heap.size N D rfl hown _ _ rfl hkey ?_; intro c hat hwc)
             | (at_mapUpdate; refine wpList_mapUpdate_own _ rfl _ _ _ 173 rfl 9 3 jiR Tryz.underlying173 _ w.heap.size N D rfl hown hNm _ _ _ rfl rfl hkey _ [] (plainElem_int Tryz.underlying3 (wrap64_wf _)) ?_; intro w1 hown1 hgrow1)
             | go_in)
            case roundEnd =>
             obtain ⟨c', h1, h2, h3, h4⟩ := HD.out s; have hcc : c = c' := by rw [hat] at h1; simpa using h1
             subst hcc; have hN2 : ((l.take i).flatMap (·.texts) ++ x.texts.take (j + 1)).length = N + 1 := by rw [HST.out, ← List.append_assoc, List.length_append, hN]; rfl
             have hN4 : N + 1 ≤ 400 := by have := HRM.out; rw [hN2] at this; omega
             have hwr : wrap64 (c + 1) = c + 1 := by
              unfold wrap64; omega
             rw [hwr] at hown1; have HM4 := hid (show ReqM w1 w.heap.size ((l.take i).flatMap (·.texts) ++ x.texts.take (j + 1)).length ((l.take i).flatMap (·.texts) ++ x.texts.take (j + 1)) by
              rw [hN2, HST.out, ← List.append_assoc]; exact ⟨_, hown1, ReqM.count hown.isMap HD.out s c hat trivial⟩)
             exact ⟨⟨j + 1, by omega, by go_num, HB2.out.grown hgrow1 HB2.out.size (fun j hj => by cases hj; exact Nat.le_refl _), HM4, by unfold Hid; rw [HST.out, ← List.append_assoc, List.all_append, HA2.out]; simp [HXE.out]⟩, by simp [intOf]; omega⟩
          · have hx : extP s = false := by simpa using hx
            have HE := hid (show jeU w l (.returned (.tuple #[.map none, .int .i64 7])) wr by
             unfold jeU; rw [if_neg ?_]
             · exact ⟨rfl, HB2.out⟩
             · intro hall; have := List.all_eq_true.1 hall s (List.mem_flatMap.2 ⟨x, List.mem_of_getElem? HX.out, List.mem_of_getElem? HSJ.out⟩); rw [hx] at this; cases this)
            rw [hx]; clear hx; go_wp2; go_ret2; exact HE.out
        · have j1 : ¬ (j : Int) < (x.texts.length : Int) := by omega
          have hjx : j = x.texts.length := by omega
          have HM3 := hid (show ReqM wr w.heap.size ((l.take (i + 1)).flatMap (·.texts)).length ((l.take (i + 1)).flatMap (·.texts)) by
            rw [jbW HX.out]; rw [hjx, List.take_of_length_le (Nat.le_refl _)] at HM2; exact HM2.out)
          have HA3 := hid (show ((l.take (i + 1)).flatMap (·.texts)).all extP = true by
            rw [jbW HX.out]; rw [hjx, List.take_of_length_le (Nat.le_refl _)] at HA2; exact HA2.out)
          clear hjx; go_wp2
          go_roundw
          case rel => exact ⟨i + 1, by omega, by go_num, HB2, HM3, HA3⟩
          case measure => simp [intOf]; omega
  · have i1 : ¬ (i : Int) < (l.length : Int) := by omega
    have hil : i = l.length := by omega
    have HE := hid (show jeU w l (.returned (.tuple #[.map (some w.heap.size), .int .i64 0])) wr by
        rw [hil, List.take_of_length_le (Nat.le_refl _)] at HM HA; unfold jeU; rw [if_pos HA.out]; exact ⟨⟨_, rfl, HM.out⟩, HB.out⟩)
    clear hil; go_wp2; go_ret2; exact HE.out
def jaZ (i : Nat) : List UInt8 := (flagTab.getD i ([], 0)).1
def ja0 (i : Nat) : Nat := (flagTab.getD i ([], 0)).2
def FlagsAt (w : World) : Prop := ∀ i : Nat, i < 5 → w.cell? ⟨4, i * 2, none⟩ = some (.string (S (jaZ i))) ∧ w.cell? ⟨4, i * 2 + 1, none⟩ = some (.int .i64 (ja0 i : Nat))
theorem FlagsAt.next {w w' : World} (h : FlagsAt w) (hb : Below w.heap.size w w') : FlagsAt w' := fun i hi => ⟨ja (h i hi).1 hb, ja (h i hi).2 hb⟩
def vF (i : Nat) (s : List UInt8) : Nat := jd9 (flagTab.drop i) s
theorem jcr (i : Nat) (s : List UInt8) (h : i < 5) : vF i s = if (jaZ i) = s then (ja0 i) else vF (i + 1) s := by
 match i, h with
 | 0, _ | 1, _ | 2, _ | 3, _ | 4, _ => rfl
theorem jkb {a b : List UInt8} (h : a ≠ b) : ((S a).toList == (S b).toList) = false := by rw [Lib.toList_data, Lib.toList_data, jj, jj]; simpa using h
theorem jgS (s : List UInt8) (w : World) (hw : FlagsAt w) :
 Calls Tryz.prog 204 #[.string (S s)] w fun e w' => e = .returned (.int .i64 (jbo s : Nat)) ∧ Below w.heap.size w w' := by
 have a0 := (hw 0 (by omega)).1; have a1 := (hw 1 (by omega)).1; have a2 := (hw 2 (by omega)).1; have a3 := (hw 3 (by omega)).1; have a4 := (hw 4 (by omega)).1; have b0 := (hw 0 (by omega)).2; have b1 := (hw 1 (by omega)).2; have b2 := (hw 2 (by omega)).2; have b3 := (hw 3 (by omega)).2; have b4 := (hw 4 (by omega)).2; simp only [Nat.zero_mul, Nat.zero_add, Nat.one_mul, Nat.reduceMul, Nat.reduceAdd] at a0 a1 a2 a3 a4 b0 b1 b2 b3 b4; have HN : Hid (jbo s = vF 0 s) := rfl; clear hw; go_enter Tryz.func204, Tryz.ntmps204; go_wp2
 go_loopw [6] (fun v wr => ∃ i : Nat, i ≤ 5 ∧ v = .int .i64 i ∧ Hid (Below w.heap.size w wr) ∧ Hid (jbo s = vF i s)) (fun v _ => 5 - (intOf v).toNat)
 case atStart => exact ⟨0, by omega, rfl, Below.refl _ _, HN⟩
 case round =>
  obtain ⟨i, hi, rfl, HB, hN⟩ := hrel
  by_cases hlt : i < 5
  · have i1 : (i : Int) < 5 := by omega
    obtain ⟨nm, hnm⟩ : ∃ nm, nm = (jaZ i) := ⟨_, rfl⟩; obtain ⟨fl, hfl⟩ : ∃ fl, fl = (ja0 i) := ⟨_, rfl⟩; have hidx : ∀ w : World, (Instr.index 308 (.agg #[.string (S (jaZ 0)), .int .i64 (ja0 0 : Nat), .string (S (jaZ 1)), .int .i64 (ja0 1 : Nat), .string (S (jaZ 2)), .int .i64 (ja0 2 : Nat), .string (S (jaZ 3)), .int .i64 (ja0 3 : Nat), .string (S (jaZ 4)), .int .i64 (ja0 4 : Nat)]) (.int .i64 i)).run Tryz.prog w = .ok (.agg #[.string (S nm), .int .i64 (fl : Nat)]) w := by
        intro w; rw [hnm, hfl]
        match i, hlt with
        | 0, _ | 1, _ | 2, _ | 3, _ | 4, _ => rfl
    have HS := jcr i s hlt; rw [← hnm, ← hfl] at HS; have HBA := hid (HB.out.alloc (o := .cells #[.string (S nm), .int .i64 (fl : Nat)] 307) HB.out.size)
    by_cases hs : nm = s
    · have HE : Hid (jbo s = fl) := by unfold Hid; rw [hN.out, HS, if_pos hs]
      have hq : ((S nm).toList == (S s).toList) = true := by rw [hs]; simp
      clear HS hs hnm hfl; go_wp2; go_ret; exact ⟨jc (by rw [HE.out]), HBA.out⟩
    · have HE : Hid (jbo s = vF (i + 1) s) := by unfold Hid; rw [hN.out, HS, if_neg hs]
      have hq : ((S nm).toList == (S s).toList) = false := jkb hs; clear HS hs hnm hfl; go_wp2
      case roundEnd => exact ⟨⟨i + 1, by omega, by go_num, HBA, HE⟩, by simp [intOf]; omega⟩
  · have i1 : ¬ (i : Int) < 5 := by omega
    have HE : Hid (jbo s = 0) := by
        have h5 : i = 5 := by omega
        unfold Hid; rw [hN.out, h5]; rfl
    go_wp2; go_ret; exact ⟨jc (by rw [HE.out]; rfl), HB.out⟩
theorem jjS : ∀ n : Fin 32, ∀ f : Fin 32, bits .or .i64 ((n.val : Nat) : Int) ((f.val : Nat) : Int) = ((n.val ||| f.val : Nat) : Int) := by decide +kernel
theorem jlT {n f : Nat} (hn : n < 32) (hf : f < 32) : bits .or .i64 (n : Int) (f : Int) = ((n ||| f : Nat) : Int) := jjS ⟨n, hn⟩ ⟨f, hf⟩
def jea (o : Option Nat) : Value := match o with
 | some n => .tuple #[.int .i64 (n : Nat), .int .i64 0]
 | none => .tuple #[.int .i64 0, .int .i64 7]
theorem jff {n : Nat} {l : List (List UInt8)} {i : Nat} {x : List UInt8} (h : l[i]? = some x) : jbV n (l.drop i) = if jbo x = 0 then none else jbV (n ||| jbo x) (l.drop (i + 1)) := by
 have hi : i < l.length := (List.getElem?_eq_some_iff.1 h).1; have e : l[i] = x := (List.getElem?_eq_some_iff.1 h).2; rw [List.drop_eq_getElem_cons hi, e]; rfl
theorem jeb (l : List (List UInt8)) (a : Option Addr) (c : Nat) (w : World) (hw : FlagsAt w) (hT : TxtsM anyB w (.slice a l.length c) l) :
 Calls Tryz.prog 165 #[.slice a l.length c] w fun e w' => e = .returned (jea (vg l)) ∧ Below w.heap.size w w' := by
 have HW := hid hw; have HT := hid hT; have hlm := hT.small; unfold maxLen at hlm; have HN : Hid (vg l = jbV 0 (l.drop 0)) := rfl; clear hw hT; go_enter Tryz.func165, Tryz.ntmps165; go_wp2
 go_loopw [4, 10] (fun f v wr => ∃ (i n : Nat), i ≤ l.length ∧ n < 32 ∧ f = .int .i64 (n : Nat) ∧ v = .int .i64 i ∧ Hid (Below w.heap.size w wr) ∧ Hid (vg l = jbV n (l.drop i))) (fun _ v _ => l.length - (intOf v).toNat)
 case atStart => exact ⟨0, 0, by omega, by omega, rfl, rfl, Below.refl _ _, HN⟩
 case round =>
  obtain ⟨i, n, hi, hn, rfl, rfl, HB, hN⟩ := hrel
  by_cases hlt : i < l.length
  · have i1 : (i : Int) < (l.length : Int) := by omega
    have i0 : (0 : Int) ≤ (i : Int) := by omega
    obtain ⟨x, hx⟩ : ∃ x, l[i]? = some x := ⟨_, List.getElem?_eq_getElem hlt⟩; have HS := hid (jff (n := n) hx); obtain ⟨a', c', hv, _, hr⟩ := HT.out.next HB.out; simp only [Value.slice.injEq, true_and] at hv; obtain ⟨rfl, rfl⟩ := hv; obtain ⟨b, o, cs, rfl, hbl, _, _, hc, hP⟩ := hr i x hx; have hcs : cs = [.string (S x)] := hP; subst hcs; have e0 : wr.cell? ⟨b, o + i, none⟩ = some (.string (S x)) := by simpa using hc 0 _ rfl
    have HWr := hid (HW.out.next HB.out); clear hc hr hP hx; go_wp2_with fail; refine (jgS x wr HWr.out).mono ?_; rintro e w2 ⟨rfl, hb2⟩; have HB2 := hid (HB.out.trans (hb2.mono HB.out.size)); have hfl := jka x; clear hb2; generalize jbo x = f at *
    by_cases hf : f = 0
    · subst hf; have HE := hid (show vg l = none by rw [hN.out, HS.out, if_pos rfl]); go_wp2; go_ret2; exact ⟨by rw [HE.out]; rfl, HB2.out⟩
    · have HE := hid (show vg l = jbV (n ||| f) (l.drop (i + 1)) by rw [hN.out, HS.out, if_neg hf]); have hfz : ((f : Int) == 0) = false := by simpa using hf
      have hor := jm9 hn hfl; go_wp2
      case roundEnd => exact ⟨⟨i + 1, n ||| f, by omega, hor, by rw [jlT hn hfl], by go_num, HB2, HE⟩, by simp [intOf]; omega⟩
  · have i1 : ¬ (i : Int) < (l.length : Int) := by omega
    have HE := hid (show vg l = some n by rw [hN.out, List.drop_eq_nil_of_le (by omega)]; rfl); go_wp2; go_ret2; exact ⟨by rw [HE.out]; rfl, HB.out⟩
theorem jer {l : List (List UInt8)} {i : Nat} {x : List UInt8} (h : l[i]? = some x) : (l.drop i).all qK = (qK x && (l.drop (i + 1)).all qK) := by
 have hi : i < l.length := (List.getElem?_eq_some_iff.1 h).1; have e : l[i] = x := (List.getElem?_eq_some_iff.1 h).2; rw [List.drop_eq_getElem_cons hi, e]; rfl
theorem jd2 (t : Tst) (w : World) (an ak at' : Option Addr) (cn ck ct B N : Nat) (H : List (List UInt8)) (hM : ReqM w B N H) (hw : TabAt w 5 partT)
 (hT : TxtsM anyB w (.slice an t.names.length cn) t.names) :
 Calls Tryz.prog 235 #[.map (some B), .agg #[.int .i64 t.kind, .int .i64 t.mat, .int .i64 t.part, .slice an t.names.length cn, .slice ak t.keys.length ck, .bool t.over, .int .i64 t.limit, .slice at' t.tests.length ct]] w
  fun e w' => e = .returned (.int .i64 (envP H t)) ∧ Below w.heap.size w w' := by
 have hlm := hT.small; unfold maxLen at hlm; obtain ⟨W0, hW0⟩ : ∃ W0, W0 = w.alloc (.cells #[.int .i64 t.kind, .int .i64 t.mat, .int .i64 t.part, .slice an t.names.length cn, .slice ak t.keys.length ck, .bool t.over, .int .i64 t.limit, .slice at' t.tests.length ct] 205) := ⟨_, rfl⟩; have HB0 := hid (show Below w.heap.size w W0 by rw [hW0]; exact nb0 _ _); have hH : W0.heap[w.heap.size]? = some (.cells #[.int .i64 t.kind, .int .i64 t.mat, .int .i64 t.part, .slice an t.names.length cn, .slice ak t.keys.length ck, .bool t.over, .int .i64 t.limit, .slice at' t.tests.length ct] 205) := by rw [hW0]; exact heap_alloc_new w _
 have HWE := hid hW0; have g3 : W0.cell? ⟨w.heap.size, 3, none⟩ = some (.slice an t.names.length cn) := by simp [World.cell?, hH]
 have HM := hid (hM.next HB0.out); have HP := hid (hw.next HB0.out); have HT := hid (hT.next HB0.out); have HN := hid (show t.names.all qK = (t.names.drop 0).all qK from rfl); clear hM hw hT hH hW0; go_enter Tryz.func235, Tryz.ntmps235; go_wp2_with fail; rw [← HWE.out]; refine (jiu envW (by decide) W0 B N H HM.out).mono ?_; rintro e u ⟨rfl, rfl⟩; simp only
 by_cases hh : hasP H envW = true
 · rw [hh]; have HE := hid (show envP H t = if t.names.all qK then 0 else 7 by unfold envP; simp [hh]); clear hh; go_wp2
   go_loopw [13] (fun v wr => ∃ i : Nat, i ≤ t.names.length ∧ v = .int .i64 i ∧ wr = u ∧ Hid (t.names.all qK = (t.names.drop i).all qK)) (fun v _ => t.names.length - (intOf v).toNat)
   case atStart => exact ⟨0, by omega, rfl, rfl, HN⟩
   case round =>
    obtain ⟨i, hi, rfl, rfl, hN⟩ := hrel
    by_cases hlt : i < t.names.length
    · have i1 : (i : Int) < (t.names.length : Int) := by omega
      have i0 : (0 : Int) ≤ (i : Int) := by omega
      obtain ⟨x, hx⟩ : ∃ x, t.names[i]? = some x := ⟨_, List.getElem?_eq_getElem hlt⟩; have HS := hid (jer hx); obtain ⟨a', c', hv, _, hr⟩ := HT.out; simp only [Value.slice.injEq, true_and] at hv; obtain ⟨rfl, rfl⟩ := hv; obtain ⟨b, o, cs, rfl, hbl, _, _, hc, hP⟩ := hr i x hx; have hcs : cs = [.string (S x)] := hP; subst hcs; have e0 : wr.cell? ⟨b, o + i, none⟩ = some (.string (S x)) := by simpa using hc 0 _ rfl
      clear hc hr hP hx; go_wp2_with fail; refine (jg2 x wr HP.out).mono ?_; rintro e u ⟨rfl, rfl⟩; simp only
      by_cases hf : qK x = true
      · have HE2 := hid (show t.names.all qK = (t.names.drop (i + 1)).all qK by rw [hN.out, HS.out]; simp [hf]); rw [hf]; clear hf; go_wp2
        case roundEnd => exact ⟨⟨i + 1, by omega, by go_num, trivial, HE2⟩, by simp [intOf]; omega⟩
      · have hf : qK x = false := by simpa using hf
        have HE2 := hid (show envP H t = 7 by rw [HE.out, hN.out, HS.out]; simp [hf]); rw [hf]; clear hf; go_wp2; go_ret; exact ⟨jc HE2.out.symm, HB0.out⟩
    · have i1 : ¬ (i : Int) < (t.names.length : Int) := by omega
      have HE2 := hid (show envP H t = 0 by rw [HE.out, hN.out, List.drop_eq_nil_of_le (by omega)]; rfl); go_wp2; go_ret; exact ⟨jc HE2.out.symm, HB0.out⟩
 · have hh : hasP H envW = false := by simpa using hh
   rw [hh]; have HE := hid (show envP H t = 8 by unfold envP; simp [hh]); clear hh; go_wp2; go_ret; exact ⟨jc HE.out.symm, HB0.out⟩
theorem jjk (n : Nat) : ∀ (t : Tst) (w : World) (an ak at' : Option Addr) (cn ck ct B N : Nat) (H : List (List UInt8)), ReqM w B N H → TabAt w 5 partT →
 TstM anyB n w t [.int .i64 t.kind, .int .i64 t.mat, .int .i64 t.part, .slice an t.names.length cn, .slice ak t.keys.length ck, .bool t.over, .int .i64 t.limit, .slice at' t.tests.length ct] →
 Calls Tryz.prog 205 #[.map (some B), .agg #[.int .i64 t.kind, .int .i64 t.mat, .int .i64 t.part, .slice an t.names.length cn, .slice ak t.keys.length ck, .bool t.over, .int .i64 t.limit, .slice at' t.tests.length ct]] w
  fun e w' => e = .returned (.int .i64 (tstA H n t)) ∧ Below w.heap.size w w' := by
 induction n with
 | zero => intro t w an ak at' cn ck ct B N H _ _ h; exact h.elim
 | succ n ih =>
   intro t w an ak at' cn ck ct B N H hM hw hT; obtain ⟨_, _, _, _, _, _, m, hm, he, h1, h2, h3⟩ := zF hT; simp only [List.cons.injEq, Value.slice.injEq, true_and, and_true] at he; obtain ⟨⟨rfl, rfl⟩, ⟨rfl, rfl⟩, rfl, rfl⟩ := he; obtain rfl : n = m := by omega
   clear hm hT; have H1 := hid h1; have H2 := hid h2; have H3 : Hid (TstsM anyB n w (.slice at' t.tests.length ct) t.tests) := h3; have HIH : Hid _ := ih; clear h1 h2 h3 ih; obtain ⟨W0, hW0⟩ : ∃ W0, W0 = w.alloc (.cells #[.int .i64 t.kind, .int .i64 t.mat, .int .i64 t.part, .slice an t.names.length cn, .slice ak t.keys.length ck, .bool t.over, .int .i64 t.limit, .slice at' t.tests.length ct] 205) := ⟨_, rfl⟩; have HB0 := hid (show Below w.heap.size w W0 by rw [hW0]; exact nb0 _ _); have hH : W0.heap[w.heap.size]? = some (.cells #[.int .i64 t.kind, .int .i64 t.mat, .int .i64 t.part, .slice an t.names.length cn, .slice ak t.keys.length ck, .bool t.over, .int .i64 t.limit, .slice at' t.tests.length ct] 205) := by rw [hW0]; exact heap_alloc_new w _
   have HM := hid (hM.next HB0.out); have HP := hid (hw.next HB0.out); have HWE : Hid _ := hW0; clear hW0 hM hw; obtain ⟨g0, g1, g2, g3, g4, g5, g6, g7⟩ := bx8 hH; clear hH; go_enter Tryz.func205, Tryz.ntmps205
   by_cases hk : t.kind = 8
   · have hkb : (t.kind == 8) = true := by simpa using hk
     have HK := hid hk; clear hk; go_wp2_with fail; rw [← HWE.out]; refine (jd2 t W0 an ak at' cn ck ct B N H HM.out HP.out (H1.out.next HB0.out)).mono ?_; rintro e u2 ⟨rfl, hb⟩; simp only; have HB := hid hb; have HB2 : Hid (Below w.heap.size w u2) := HB0.out.trans (hb.mono HB0.out.size); clear hb; obtain ⟨q, hq⟩ : ∃ q, q = envP H t := ⟨_, rfl⟩; rw [← hq]
     by_cases hq0 : q = 0
     · have HR0 := hid (show tstA H (n + 1) t = if zY t.names ∨ zY t.keys then 1 else jh (tstA H n) t.tests by
        show (if t.kind = 8 ∧ envP H t ≠ 0 then envP H t else _) = _
        rw [← hq, if_neg (by simp [hq0])])
       subst hq0; have d3 : u2.cell? ⟨w.heap.size, 3, none⟩ = some (.slice an t.names.length cn) := ja g3 HB.out; have d4 : u2.cell? ⟨w.heap.size, 4, none⟩ = some (.slice ak t.keys.length ck) := ja g4 HB.out; have d7 : u2.cell? ⟨w.heap.size, 7, none⟩ = some (.slice at' t.tests.length ct) := ja g7 HB.out; have HMu := hid (HM.out.next HB.out); have HPu := hid (HP.out.next HB.out); clear hq hkb g0 g1 g2 g3 g4 g5 g6 g7 HWE HB0 HM HP HB; have HT3 := hid (H1.out.next HB2.out); have HT4 := hid (H2.out.next HB2.out); have HH3 : Hid (TstsM anyB n u2 (.slice at' t.tests.length ct) t.tests) := RowM.imp H3.out (fun _ h => h) (Keeps.of_below HB2.out) fun _ _ h => TstM.imp (fun _ h => h) (Keeps.of_below HB2.out) _ _ _ h
       have hmx := HH3.out.small; unfold maxLen at hmx; clear H1 H2 H3; go_wp2_with fail; refine (vY t.names an cn u2 HT3.out).mono ?_; rintro e u ⟨rfl, hu⟩; obtain rfl := hu.symm; clear hu; simp only
       by_cases hl1 : zY t.names = true
       · have HE := hid (show tstA H (n + 1) t = 1 by rw [HR0.out, if_pos (Or.inl hl1)]); rw [hl1]; clear hl1; go_wp2; go_ret; exact ⟨jc HE.out.symm, HB2.out⟩
       · have hl1' : zY t.names = false := by simpa using hl1
         rw [hl1']; go_wp2_with fail; refine (vY t.keys ak ck u2 HT4.out).mono ?_; rintro e u ⟨rfl, hu⟩; obtain rfl := hu.symm; clear hu; simp only
         by_cases hl2 : zY t.keys = true
         · have HE := hid (show tstA H (n + 1) t = 1 by rw [HR0.out, if_pos (Or.inr hl2)]); rw [hl2]; clear hl1 hl1' hl2; go_wp2; go_ret; exact ⟨jc HE.out.symm, HB2.out⟩
         · have hl2' : zY t.keys = false := by simpa using hl2
           rw [hl2']; have HR := hid (show tstA H (n + 1) t = jh (tstA H n) t.tests by rw [HR0.out, if_neg (by simp [hl1', hl2'])]); clear hl1 hl1' hl2 hl2' HT3 HT4 HR0; go_wp2
           go_loopw [29] (fun v wr => ∃ i : Nat, i ≤ t.tests.length ∧ v = .int .i64 i ∧ Below w.heap.size w wr ∧ Below u2.heap.size u2 wr ∧ Hid (tstA H (n + 1) t = jh (tstA H n) (t.tests.drop i))) (fun v _ => t.tests.length - (intOf v).toNat)
           case atStart => exact ⟨0, Nat.zero_le _, rfl, HB2.out, Below.refl _ _, HR⟩
           case round =>
             obtain ⟨i, hi, rfl, hBw, hBu, hN⟩ := hrel; have HBw : Hid _ := hBw; have HBu : Hid _ := hBu
             by_cases hlt : i < t.tests.length
             · have i1 : (i : Int) < (t.tests.length : Int) := by omega
               have i3 : (0 : Int) ≤ (i : Int) := by omega
               obtain ⟨x, hx⟩ : ∃ x, t.tests[i]? = some x := ⟨_, List.getElem?_eq_getElem hlt⟩; obtain ⟨b, o, an', cn', ak', ck', at2, ct2, rfl, hbl, e0, e1, e2, e3, e4, e5, e6, e7, hT⟩ := jeO (HH3.out.next hBu) hx; have HN2 : Hid (tstA H (n + 1) t = if tstA H n x = 0 then jh (tstA H n) (t.tests.drop (i + 1)) else tstA H n x) := by
                 unfold Hid; rw [hN.out, List.drop_eq_getElem_cons hlt]; rw [List.getElem?_eq_getElem hlt] at hx; cases hx; rfl
               have HT : Hid _ := hT; have HMr := hid (HMu.out.next hBu); have HPr := hid (HPu.out.next hBu); clear hx hT hN hBw hBu; have hal : Below wr.heap.size wr (wr.alloc (.cells #[.int .i64 x.kind, .int .i64 x.mat, .int .i64 x.part, .slice an' x.names.length cn', .slice ak' x.keys.length ck', .bool x.over, .int .i64 x.limit, .slice at2 x.tests.length ct2] 205)) := nb0 _ _; have HAL : Hid _ := hal; clear hal; go_wp2_with fail; refine (HIH.out x _ _ _ _ _ _ _ _ _ _ (HMr.out.next HAL.out) (HPr.out.next HAL.out) (HT.out.next HAL.out)).mono ?_; rintro e w2 ⟨rfl, hb2⟩; have hBr : Below wr.heap.size wr w2 := HAL.out.trans (hb2.mono HAL.out.size); have HB3 : Hid (Below w.heap.size w w2) := HBw.out.trans (hBr.mono HBw.out.size); have HB4 : Hid (Below u2.heap.size u2 w2) := HBu.out.trans (hBr.mono HBu.out.size); obtain ⟨y, hy⟩ : ∃ y, y = tstA H n x := ⟨_, rfl⟩; rw [← hy]; have HN3 : Hid (tstA H (n + 1) t = if y = 0 then jh (tstA H n) (t.tests.drop (i + 1)) else y) := by unfold Hid; rw [HN2.out, ← hy]
               clear hy HN2 hb2 hBr e0 e1 e2 e3 e4 e5 e6 e7
               by_cases hy : y = 0
               · have HN4 : Hid (tstA H (n + 1) t = jh (tstA H n) (t.tests.drop (i + 1))) := by unfold Hid; rw [HN3.out, if_pos hy]
                 subst hy; go_wp2; exact ⟨⟨i + 1, by omega, by go_num, HB3.out, HB4.out, HN4⟩, by simp [intOf]; omega⟩
               · have HN4 : Hid (tstA H (n + 1) t = y) := by unfold Hid; rw [HN3.out, if_neg hy]
                 go_wp2; go_ret; exact ⟨jc HN4.out.symm, HB3.out⟩
             · have i1 : ¬ (i : Int) < (t.tests.length : Int) := by omega
               have HE : Hid (tstA H (n + 1) t = 0) := by unfold Hid; rw [hN.out, List.drop_eq_nil_of_le (by omega)]; rfl
               go_wp2; go_ret; exact ⟨jc HE.out.symm, HBw.out⟩
     · have HR0 := hid (show tstA H (n + 1) t = q by
        show (if t.kind = 8 ∧ envP H t ≠ 0 then envP H t else _) = _
        rw [← hq, if_pos ⟨HK.out, hq0⟩])
       clear hq; go_wp2; go_ret; exact ⟨jc HR0.out.symm, HB2.out⟩
   · have hkb : (t.kind == 8) = false := by simpa using hk
     have HR0 := hid (show tstA H (n + 1) t = if zY t.names ∨ zY t.keys then 1 else jh (tstA H n) t.tests by
        show (if t.kind = 8 ∧ envP H t ≠ 0 then envP H t else _) = _
        rw [if_neg (by simp [hk])])
     have HB2 := HB0; obtain ⟨u2, rfl⟩ : ∃ u2, u2 = W0 := ⟨_, rfl⟩; have d3 := g3; have d4 := g4; have d7 := g7; have HMu := HM; have HPu := HP; clear hk g1 g2 g3 g4 g5 g6 g7 HM HP; have HT3 := hid (H1.out.next HB2.out); have HT4 := hid (H2.out.next HB2.out); have HH3 : Hid (TstsM anyB n u2 (.slice at' t.tests.length ct) t.tests) := RowM.imp H3.out (fun _ h => h) (Keeps.of_below HB2.out) fun _ _ h => TstM.imp (fun _ h => h) (Keeps.of_below HB2.out) _ _ _ h
     have hmx := HH3.out.small; unfold maxLen at hmx; clear H1 H2 H3; go_wp2_with fail; rw [← HWE.out]; refine (vY t.names an cn u2 HT3.out).mono ?_; rintro e u ⟨rfl, hu⟩; obtain rfl := hu.symm; clear hu; simp only
     by_cases hl1 : zY t.names = true
     · have HE := hid (show tstA H (n + 1) t = 1 by rw [HR0.out, if_pos (Or.inl hl1)]); rw [hl1]; clear hl1; go_wp2; go_ret; exact ⟨jc HE.out.symm, HB2.out⟩
     · have hl1' : zY t.names = false := by simpa using hl1
       rw [hl1']; go_wp2_with fail; refine (vY t.keys ak ck u2 HT4.out).mono ?_; rintro e u ⟨rfl, hu⟩; obtain rfl := hu.symm; clear hu; simp only
       by_cases hl2 : zY t.keys = true
       · have HE := hid (show tstA H (n + 1) t = 1 by rw [HR0.out, if_pos (Or.inr hl2)]); rw [hl2]; clear hl1 hl1' hl2; go_wp2; go_ret; exact ⟨jc HE.out.symm, HB2.out⟩
       · have hl2' : zY t.keys = false := by simpa using hl2
         rw [hl2']; have HR := hid (show tstA H (n + 1) t = jh (tstA H n) t.tests by rw [HR0.out, if_neg (by simp [hl1', hl2'])]); clear hl1 hl1' hl2 hl2' HT3 HT4 HR0; go_wp2
         go_loopw [29] (fun v wr => ∃ i : Nat, i ≤ t.tests.length ∧ v = .int .i64 i ∧ Below w.heap.size w wr ∧ Below u2.heap.size u2 wr ∧ Hid (tstA H (n + 1) t = jh (tstA H n) (t.tests.drop i))) (fun v _ => t.tests.length - (intOf v).toNat)
         case atStart => exact ⟨0, Nat.zero_le _, rfl, HB2.out, Below.refl _ _, HR⟩
         case round =>
            obtain ⟨i, hi, rfl, hBw, hBu, hN⟩ := hrel; have HBw : Hid _ := hBw; have HBu : Hid _ := hBu
            by_cases hlt : i < t.tests.length
            · have i1 : (i : Int) < (t.tests.length : Int) := by omega
              have i3 : (0 : Int) ≤ (i : Int) := by omega
              obtain ⟨x, hx⟩ : ∃ x, t.tests[i]? = some x := ⟨_, List.getElem?_eq_getElem hlt⟩; obtain ⟨b, o, an', cn', ak', ck', at2, ct2, rfl, hbl, e0, e1, e2, e3, e4, e5, e6, e7, hT⟩ := jeO (HH3.out.next hBu) hx; have HN2 : Hid (tstA H (n + 1) t = if tstA H n x = 0 then jh (tstA H n) (t.tests.drop (i + 1)) else tstA H n x) := by
               unfold Hid; rw [hN.out, List.drop_eq_getElem_cons hlt]; rw [List.getElem?_eq_getElem hlt] at hx; cases hx; rfl
              have HT : Hid _ := hT; have HMr := hid (HMu.out.next hBu); have HPr := hid (HPu.out.next hBu); clear hx hT hN hBw hBu; have hal : Below wr.heap.size wr (wr.alloc (.cells #[.int .i64 x.kind, .int .i64 x.mat, .int .i64 x.part, .slice an' x.names.length cn', .slice ak' x.keys.length ck', .bool x.over, .int .i64 x.limit, .slice at2 x.tests.length ct2] 205)) := nb0 _ _; have HAL : Hid _ := hal; clear hal; go_wp2_with fail; refine (HIH.out x _ _ _ _ _ _ _ _ _ _ (HMr.out.next HAL.out) (HPr.out.next HAL.out) (HT.out.next HAL.out)).mono ?_; rintro e w2 ⟨rfl, hb2⟩; have hBr : Below wr.heap.size wr w2 := HAL.out.trans (hb2.mono HAL.out.size); have HB3 : Hid (Below w.heap.size w w2) := HBw.out.trans (hBr.mono HBw.out.size); have HB4 : Hid (Below u2.heap.size u2 w2) := HBu.out.trans (hBr.mono HBu.out.size); obtain ⟨y, hy⟩ : ∃ y, y = tstA H n x := ⟨_, rfl⟩; rw [← hy]; have HN3 : Hid (tstA H (n + 1) t = if y = 0 then jh (tstA H n) (t.tests.drop (i + 1)) else y) := by unfold Hid; rw [HN2.out, ← hy]
              clear hy HN2 hb2 hBr e0 e1 e2 e3 e4 e5 e6 e7
              by_cases hy : y = 0
              · have HN4 : Hid (tstA H (n + 1) t = jh (tstA H n) (t.tests.drop (i + 1))) := by unfold Hid; rw [HN3.out, if_pos hy]
                subst hy; go_wp2; exact ⟨⟨i + 1, by omega, by go_num, HB3.out, HB4.out, HN4⟩, by simp [intOf]; omega⟩
              · have HN4 : Hid (tstA H (n + 1) t = y) := by unfold Hid; rw [HN3.out, if_neg hy]
                go_wp2; go_ret; exact ⟨jc HN4.out.symm, HB3.out⟩
            · have i1 : ¬ (i : Int) < (t.tests.length : Int) := by omega
              have HE : Hid (tstA H (n + 1) t = 0) := by unfold Hid; rw [hN.out, List.drop_eq_nil_of_le (by omega)]; rfl
              go_wp2; go_ret; exact ⟨jc HE.out.symm, HBw.out⟩
def RulW (w : World) (B N : Nat) (H : List (List UInt8)) : Prop := ReqM w B N H ∧ TabAt w 5 partT ∧ TabAt w 1 needT ∧ FlagsAt w
theorem RulW.next {w w' : World} {B N : Nat} {H : List (List UInt8)} (h : RulW w B N H) (hb : Below w.heap.size w w') : RulW w' B N H := ⟨h.1.next hb, h.2.1.next hb, h.2.2.1.next hb, h.2.2.2.next hb⟩
def PutC : Nat → Cmd → Prop
 | 0, _ => True
 | n + 1, c => (0 ≤ c.kind ∧ c.kind ≤ 10) ∧ (c.kind = 5 ∨ c.kind = 6 → c.texts ≠ []) ∧ (c.kind = 6 → (c.texts.getD 0 []).length ≤ maxLen) ∧ (c.kind = 2 → (∀ x ∈ c.thn, PutC n x) ∧ ∀ x ∈ c.els, PutC n x)
def RChk (n : Nat) : Prop := ∀ (c : Cmd) (w : World) (B N : Nat) (H : List (List UInt8)) (ax an ak at' aa ae : Option Addr) (cx cn ck ct ca ce : Nat), PutC n c → RulW w B N H → CmdM anyB n w c [.int .i64 c.kind, .slice ax c.texts.length cx, .int .i64 c.test.kind, .int .i64 c.test.mat, .int .i64 c.test.part, .slice an c.test.names.length cn, .slice ak c.test.keys.length ck, .bool c.test.over, .int .i64 c.test.limit, .slice at' c.test.tests.length ct, .slice aa c.thn.length ca, .slice ae c.els.length ce] →
    Calls Tryz.prog 132 #[.map (some B), .agg #[.int .i64 c.kind, .slice ax c.texts.length cx, .int .i64 c.test.kind, .int .i64 c.test.mat, .int .i64 c.test.part, .slice an c.test.names.length cn, .slice ak c.test.keys.length ck, .bool c.test.over, .int .i64 c.test.limit, .slice at' c.test.tests.length ct, .slice aa c.thn.length ca, .slice ae c.els.length ce]] w fun e w' => e = .returned (.int .i64 (cmdA H n c)) ∧ Below w.heap.size w w'
theorem jaG (n : Nat) (ih : RChk n) (l : List Cmd) (w : World) (B N : Nat) (H : List (List UInt8)) (a : Option Addr) (k : Nat) (hl : ∀ x ∈ l, PutC n x) (hw : RulW w B N H) (h : CmdsM anyB n w (.slice a l.length k) l) :
 Calls Tryz.prog 100 #[.map (some B), .slice a l.length k] w fun e w' => e = .returned (.int .i64 (jh (cmdA H n) l)) ∧ Below w.heap.size w w' := by
 have H3 : Hid (CmdsM anyB n w (.slice a l.length k) l) := h; have HIH : Hid (RChk n) := ih; have HW : Hid (RulW w B N H) := hw; have hmx := h.small; unfold maxLen at hmx; have HLL := hid hl; clear h ih hw hl; have HR : Hid (jh (cmdA H n) l = jh (cmdA H n) (l.drop 0)) := rfl; go_enter Tryz.func100, Tryz.ntmps100; go_wp2
 go_loopw [10] (fun v wr => ∃ i : Nat, i ≤ l.length ∧ v = .int .i64 i ∧ Below w.heap.size w wr ∧ Hid (jh (cmdA H n) l = jh (cmdA H n) (l.drop i))) (fun v _ => l.length - (intOf v).toNat)
 case atStart => exact ⟨0, Nat.zero_le _, rfl, Below.refl _ _, HR⟩
 case round =>
  obtain ⟨i, hi, rfl, hBw, hN⟩ := hrel; have HBw : Hid _ := hBw
  by_cases hlt : i < l.length
  · have i1 : (i : Int) < (l.length : Int) := by omega
    have i3 : (0 : Int) ≤ (i : Int) := by omega
    obtain ⟨x, hx⟩ : ∃ x, l[i]? = some x := ⟨_, List.getElem?_eq_getElem hlt⟩; obtain ⟨b, o, ax, cx, an, cn, ak, ck, at', ct, aa, ca, ae, ce, rfl, hbl, e0, e1, e2, e3, e4, e5, e6, e7, e8, e9, e10, e11, hT⟩ := jae (H3.out.next hBw) hx; have HN2 : Hid (jh (cmdA H n) l = if cmdA H n x = 0 then jh (cmdA H n) (l.drop (i + 1)) else cmdA H n x) := by
        unfold Hid; rw [hN.out, List.drop_eq_getElem_cons hlt]; rw [List.getElem?_eq_getElem hlt] at hx; cases hx; rfl
    have HQ := hid (HLL.out x (List.mem_of_getElem? hx)); have HT : Hid _ := hT; have HWr : Hid (RulW wr B N H) := HW.out.next hBw; have hal : Below wr.heap.size wr (wr.alloc (.cells #[.int .i64 x.kind, .slice ax x.texts.length cx, .int .i64 x.test.kind, .int .i64 x.test.mat, .int .i64 x.test.part, .slice an x.test.names.length cn, .slice ak x.test.keys.length ck, .bool x.test.over, .int .i64 x.test.limit, .slice at' x.test.tests.length ct, .slice aa x.thn.length ca, .slice ae x.els.length ce] 207)) := nb0 _ _; have HAL : Hid _ := hal; clear hx hT hN hBw hal; go_wp2_with fail; refine (HIH.out x _ _ _ _ _ _ _ _ _ _ _ _ _ _ _ _ HQ.out (HWr.out.next HAL.out) (HT.out.next HAL.out)).mono ?_; rintro e w2 ⟨rfl, hb2⟩; have hBr : Below wr.heap.size wr w2 := HAL.out.trans (hb2.mono HAL.out.size); have HB3 : Hid (Below w.heap.size w w2) := HBw.out.trans (hBr.mono HBw.out.size); obtain ⟨y, hy⟩ : ∃ y, y = cmdA H n x := ⟨_, rfl⟩; rw [← hy]; have HN3 : Hid (jh (cmdA H n) l = if y = 0 then jh (cmdA H n) (l.drop (i + 1)) else y) := by unfold Hid; rw [HN2.out, ← hy]
    clear hy HN2 hb2 hBr e0 e1 e2 e3 e4 e5 e6 e7 e8 e9 e10 e11
    by_cases hy : y = 0
    · have HN4 : Hid (jh (cmdA H n) l = jh (cmdA H n) (l.drop (i + 1))) := by unfold Hid; rw [HN3.out, if_pos hy]
      subst hy; go_wp2; exact ⟨⟨i + 1, by omega, by go_num, HB3.out, HN4⟩, by simp [intOf]; omega⟩
    · have HN4 : Hid (jh (cmdA H n) l = y) := by unfold Hid; rw [HN3.out, if_neg hy]
      go_wp2; go_ret; exact ⟨jc HN4.out.symm, HB3.out⟩
  · have i1 : ¬ (i : Int) < (l.length : Int) := by omega
    have HE : Hid (jh (cmdA H n) l = 0) := by unfold Hid; rw [hN.out, List.drop_eq_nil_of_le (by omega)]; rfl
    go_wp2; go_ret; exact ⟨jc HE.out.symm, HBw.out⟩
theorem jnq (n : Nat) (ih : RChk n) (c : Cmd) (w : World) (B N : Nat) (H : List (List UInt8)) (ax an ak at' aa ae : Option Addr) (cx cn ck ct ca ce : Nat) (hl1 : ∀ x ∈ c.thn, PutC n x) (hl2 : ∀ x ∈ c.els, PutC n x) (hw : RulW w B N H)
 (h2 : TstM anyB n w c.test [.int .i64 c.test.kind, .int .i64 c.test.mat, .int .i64 c.test.part, .slice an c.test.names.length cn, .slice ak c.test.keys.length ck, .bool c.test.over, .int .i64 c.test.limit, .slice at' c.test.tests.length ct])
 (h3 : CmdsM anyB n w (.slice aa c.thn.length ca) c.thn) (h4 : CmdsM anyB n w (.slice ae c.els.length ce) c.els) :
 Calls Tryz.prog 167 #[.map (some B), .agg #[.int .i64 c.kind, .slice ax c.texts.length cx, .int .i64 c.test.kind, .int .i64 c.test.mat, .int .i64 c.test.part, .slice an c.test.names.length cn, .slice ak c.test.keys.length ck, .bool c.test.over, .int .i64 c.test.limit, .slice at' c.test.tests.length ct, .slice aa c.thn.length ca, .slice ae c.els.length ce]] w fun e w' => e = .returned (.int .i64 (if tstA H n c.test ≠ 0 then tstA H n c.test else if jh (cmdA H n) c.thn ≠ 0 then jh (cmdA H n) c.thn else jh (cmdA H n) c.els)) ∧ Below w.heap.size w w' := by
 have H2 := hid h2; have H3 := hid h3; have H4 := hid h4; have HIH := hid ih; have HL1 := hid hl1; have HL2 := hid hl2; obtain ⟨W0, hW0⟩ : ∃ W0, W0 = w.alloc (.cells #[.int .i64 c.kind, .slice ax c.texts.length cx, .int .i64 c.test.kind, .int .i64 c.test.mat, .int .i64 c.test.part, .slice an c.test.names.length cn, .slice ak c.test.keys.length ck, .bool c.test.over, .int .i64 c.test.limit, .slice at' c.test.tests.length ct, .slice aa c.thn.length ca, .slice ae c.els.length ce] 207) := ⟨_, rfl⟩; have HB0 := hid (show Below w.heap.size w W0 by rw [hW0]; exact nb0 _ _); have hH : W0.heap[w.heap.size]? = some (.cells #[.int .i64 c.kind, .slice ax c.texts.length cx, .int .i64 c.test.kind, .int .i64 c.test.mat, .int .i64 c.test.part, .slice an c.test.names.length cn, .slice ak c.test.keys.length ck, .bool c.test.over, .int .i64 c.test.limit, .slice at' c.test.tests.length ct, .slice aa c.thn.length ca, .slice ae c.els.length ce] 207) := by rw [hW0]; exact heap_alloc_new w _
 have HWE := hid hW0; have HW := hid (hw.next HB0.out); have g10 : W0.cell? ⟨w.heap.size, 10, none⟩ = some (.slice aa c.thn.length ca) := by simp [World.cell?, hH]
 have g11 : W0.cell? ⟨w.heap.size, 11, none⟩ = some (.slice ae c.els.length ce) := by simp [World.cell?, hH]
 obtain ⟨r, hr⟩ : ∃ r, r = (if tstA H n c.test ≠ 0 then tstA H n c.test else if jh (cmdA H n) c.thn ≠ 0 then jh (cmdA H n) c.thn else jh (cmdA H n) c.els) := ⟨_, rfl⟩; rw [← hr]; have HR := hid hr; clear h2 h3 h4 ih hl1 hl2 hH hW0 hw hr; go_enter Tryz.func167, Tryz.ntmps167; go_wp2_with fail; rw [← HWE.out]; refine (jjk n c.test W0 an ak at' cn ck ct B N H HW.out.1 HW.out.2.1 (TstM.imp (fun _ h => h) (Keeps.of_below HB0.out) _ _ _ H2.out)).mono ?_; rintro e w3 ⟨rfl, hb3⟩; simp only; have HW3 := hid (HW.out.next hb3); have HB3 : Hid (Below w.heap.size w w3) := HB0.out.trans (hb3.mono HB0.out.size); have k10 := ja g10 hb3; have k11 := ja g11 hb3; clear HWE g10 g11 hb3 HW; obtain ⟨y, hy⟩ : ∃ y, y = tstA H n c.test := ⟨_, rfl⟩; rw [← hy]; rw [← hy] at HR; clear hy
 by_cases hy : y = 0
 · rw [if_neg (by simpa using hy)] at HR; subst hy; go_wp2_with fail; refine (jaG n HIH.out c.thn w3 B N H aa ca HL1.out HW3.out (RowM.imp H3.out (fun _ h => h) (Keeps.of_below HB3.out) fun _ _ h => CmdM.imp (fun _ h => h) (Keeps.of_below HB3.out) _ _ _ h)).mono ?_; rintro e w4 ⟨rfl, hb4⟩; simp only; have HW4 := hid (HW3.out.next hb4); have HB4 : Hid (Below w.heap.size w w4) := HB3.out.trans (hb4.mono HB3.out.size); have m11 := ja k11 hb4; clear k10 k11 hb4; obtain ⟨z, hz⟩ : ∃ z, z = jh (cmdA H n) c.thn := ⟨_, rfl⟩; rw [← hz]; rw [← hz] at HR; clear hz
   by_cases hz : z = 0
   · rw [if_neg (by simpa using hz)] at HR; subst hz; go_wp2_with fail; refine (jaG n HIH.out c.els w4 B N H ae ce HL2.out HW4.out (RowM.imp H4.out (fun _ h => h) (Keeps.of_below HB4.out) fun _ _ h => CmdM.imp (fun _ h => h) (Keeps.of_below HB4.out) _ _ _ h)).mono ?_; rintro e w5 ⟨rfl, hb5⟩; simp only; have HB5 : Hid (Below w.heap.size w w5) := HB4.out.trans (hb5.mono HB4.out.size); go_wp2; go_ret; exact ⟨jc HR.out.symm, HB5.out⟩
   · rw [if_pos (by simpa using hz)] at HR; go_wp2; go_ret; exact ⟨jc HR.out.symm, HB4.out⟩
 · rw [if_pos (by simpa using hy)] at HR; go_wp2; go_ret; exact ⟨jc HR.out.symm, HB3.out⟩
theorem jc7 {w : World} {a : Option Addr} {c : Nat} {l : List (List UInt8)} (h : TxtsM anyB w (.slice a l.length c) l) (h0 : l ≠ []) :
 ∃ b o, a = some ⟨b, o, none⟩ ∧ w.cell? ⟨b, o, none⟩ = some (.string (S (l.getD 0 []))) := by
 cases l with
 | nil => exact absurd rfl h0
 | cons x r =>
   obtain ⟨a', c', hv, _, hr⟩ := h; simp only [Value.slice.injEq, true_and] at hv; obtain ⟨rfl, rfl⟩ := hv; obtain ⟨b, o, cs, rfl, hbl, _, _, hc, hP⟩ := hr 0 x rfl; have hcs : cs = [.string (S x)] := hP; subst hcs; exact ⟨b, o, rfl, by simpa using hc 0 _ rfl⟩
theorem jdD (n : Nat) : RChk n := by
 induction n with
 | zero => intro c w B N H ax an ak at' aa ae cx cn ck ct ca ce _ _ h; exact h.elim
 | succ n ih =>
   intro c w B N H ax an ak at' aa ae cx cn ck ct ca ce hput hw hC; obtain ⟨_, _, _, _, _, _, _, _, _, _, _, _, m, hm, he, h1, h2, h3, h4⟩ := zA hC; simp only [List.cons.injEq, Value.slice.injEq, true_and, and_true] at he; obtain ⟨⟨rfl, rfl⟩, ⟨rfl, rfl⟩, ⟨rfl, rfl⟩, ⟨rfl, rfl⟩, ⟨rfl, rfl⟩, rfl, rfl⟩ := he; obtain rfl : n = m := by omega
   clear hm hC; obtain ⟨⟨hk0, hk1⟩, hp5, hp6, hp2⟩ := hput; have H1 := hid h1; have H2 := hid h2; have H3 := hid h3; have H4 := hid h4; have HIH := hid ih; have HP5 := hid hp5; have HP6 := hid hp6; have HP2 := hid hp2; have hmx := h1.small; unfold maxLen at hmx; clear h1 h2 h3 h4 ih hp5 hp6 hp2; have HR := hid (show cmdA H (n + 1) c = (if hasP H (jfq c.kind) = false then 8
    else if c.kind = 1 then 3
    else if c.kind = 5 then jak (c.texts.getD 0 [])
    else if c.kind = 8 ∨ c.kind = 9 then (if vg c.texts = none then 7 else 0)
    else if c.kind = 6 then jcs (c.texts.getD 0 [])
    else if c.kind = 2 then
        (if tstA H n c.test ≠ 0 then tstA H n c.test
         else if jh (cmdA H n) c.thn ≠ 0 then jh (cmdA H n) c.thn
         else jh (cmdA H n) c.els)
    else 0) from rfl)
   obtain ⟨r, hr⟩ : ∃ r, r = cmdA H (n + 1) c := ⟨_, rfl⟩; rw [← hr]; rw [← hr] at HR; clear hr; have HIF := hid (fun (hk : c.kind = 2) (w : World) (hw : RulW w B N H) => jnq n HIH.out c w B N H ax an ak at' aa ae cx cn ck ct ca ce (HP2.out hk).1 (HP2.out hk).2 hw); obtain ⟨kd, hkd⟩ : ∃ kd, kd = c.kind := ⟨_, rfl⟩; rw [← hkd] at HR HP5 HP6 HIF hk0 hk1 ⊢; clear hkd HP2 HIH; obtain ⟨W0, hW0⟩ : ∃ W0, W0 = w.alloc (.cells #[.int .i64 kd, .slice ax c.texts.length cx, .int .i64 c.test.kind, .int .i64 c.test.mat, .int .i64 c.test.part, .slice an c.test.names.length cn, .slice ak c.test.keys.length ck, .bool c.test.over, .int .i64 c.test.limit, .slice at' c.test.tests.length ct, .slice aa c.thn.length ca, .slice ae c.els.length ce] 207) := ⟨_, rfl⟩; have HB0 := hid (show Below w.heap.size w W0 by rw [hW0]; exact nb0 _ _); have hH : W0.heap[w.heap.size]? = some (.cells #[.int .i64 kd, .slice ax c.texts.length cx, .int .i64 c.test.kind, .int .i64 c.test.mat, .int .i64 c.test.part, .slice an c.test.names.length cn, .slice ak c.test.keys.length ck, .bool c.test.over, .int .i64 c.test.limit, .slice at' c.test.tests.length ct, .slice aa c.thn.length ca, .slice ae c.els.length ce] 207) := by rw [hW0]; exact heap_alloc_new w _
   have HWE := hid hW0; have HW := hid (hw.next HB0.out); clear hw hW0; obtain ⟨g0, g1, g2, g3, g4, g5, g6, g7, g8, g9, g10, g11⟩ := bx12 hH; clear hH; go_enter Tryz.func132, Tryz.ntmps132; have q := HW.out.2.2.1 kd.toNat (jfq kd) (by
    have hkk : kd = 0 ∨ kd = 1 ∨ kd = 2 ∨ kd = 3 ∨ kd = 4 ∨ kd = 5 ∨ kd = 6 ∨ kd = 7 ∨ kd = 8 ∨ kd = 9 ∨ kd = 10 := by omega
    rcases hkk with rfl | rfl | rfl | rfl | rfl | rfl | rfl | rfl | rfl | rfl | rfl <;> rfl)
   have q2 := q; rw [HWE.out] at q2; go_wp2_with fail; rw [← HWE.out]; refine (jiu (jfq kd) ?hl W0 B N H HW.out.1).mono ?_
   case hl => unfold jfq; split <;> (try split) <;> (try split) <;> decide
   rintro e u ⟨rfl, hu⟩; obtain rfl := hu.symm; clear hu q q2 HWE; simp only
   by_cases hh : hasP H (jfq kd) = true
   · rw [if_neg (by rw [hh]; simp)] at HR; rw [hh]; clear hh; have hkk : kd = 0 ∨ kd = 1 ∨ kd = 2 ∨ kd = 3 ∨ kd = 4 ∨ kd = 5 ∨ kd = 6 ∨ kd = 7 ∨ kd = 8 ∨ kd = 9 ∨ kd = 10 := by omega
     clear hk0 hk1
     rcases hkk with rfl | rfl | rfl | rfl | rfl | rfl | rfl | rfl | rfl | rfl | rfl
     · have HE := hid (show r = 0 by rw [HR.out]; rfl); clear HR; go_wp2; go_ret; exact ⟨jc HE.out.symm, HB0.out⟩
     · have HE := hid (show r = 3 by rw [HR.out]; rfl); clear HR; go_wp2; go_ret; exact ⟨jc HE.out.symm, HB0.out⟩
     · have HE := hid (show r = if tstA H n c.test ≠ 0 then tstA H n c.test else if jh (cmdA H n) c.thn ≠ 0 then jh (cmdA H n) c.thn else jh (cmdA H n) c.els by rw [HR.out]; rfl); clear HR; have HIF2 := hid (HIF.out rfl); clear HIF; go_wp2_with fail; refine (HIF2.out W0 HW.out (TstM.imp (fun _ h => h) (Keeps.of_below HB0.out) _ _ _ H2.out) (RowM.imp H3.out (fun _ h => h) (Keeps.of_below HB0.out) fun _ _ h => CmdM.imp (fun _ h => h) (Keeps.of_below HB0.out) _ _ _ h) (RowM.imp H4.out (fun _ h => h) (Keeps.of_below HB0.out) fun _ _ h => CmdM.imp (fun _ h => h) (Keeps.of_below HB0.out) _ _ _ h)).mono ?_; rintro e u ⟨rfl, hb⟩; simp only; have HB2 := hid (HB0.out.trans (hb.mono HB0.out.size)); clear hb; rw [← HE.out]; go_wp2; go_ret; exact ⟨rfl, HB2.out⟩
     · have HE := hid (show r = 0 by rw [HR.out]; rfl); clear HR; go_wp2; go_ret; exact ⟨jc HE.out.symm, HB0.out⟩
     · have HE := hid (show r = 0 by rw [HR.out]; rfl); clear HR; go_wp2; go_ret; exact ⟨jc HE.out.symm, HB0.out⟩
     · have HE := hid (show r = jak (c.texts.getD 0 []) by rw [HR.out]; rfl); clear HR; obtain ⟨b, o, rfl, e0⟩ := jc7 (H1.out.next HB0.out) (HP5.out (by decide)); have HZ := hid (HP6.out); clear HP6 HIF; obtain ⟨x, hx⟩ : ∃ x, x = c.texts.getD 0 [] := ⟨_, rfl⟩; rw [← hx] at e0 HE HZ; clear hx; have hpos : 0 < c.texts.length := List.length_pos_iff.2 (HP5.out (by decide)); have j1 : (0 : Int) < (c.texts.length : Int) := by omega
       go_wp2_with fail; refine (jez (S x) W0).mono ?_; rintro e u ⟨rfl, hu⟩; obtain rfl := hu.symm; clear hu; rw [jj]; simp only; go_wp2; go_ret; exact ⟨jc HE.out.symm, HB0.out⟩
     · have HE := hid (show r = jcs (c.texts.getD 0 []) by rw [HR.out]; rfl); clear HR; obtain ⟨b, o, rfl, e0⟩ := jc7 (H1.out.next HB0.out) (HP5.out (by decide)); have HZ := hid (HP6.out); clear HP6 HIF; obtain ⟨x, hx⟩ : ∃ x, x = c.texts.getD 0 [] := ⟨_, rfl⟩; rw [← hx] at e0 HE HZ; clear hx; have hpos : 0 < c.texts.length := List.length_pos_iff.2 (HP5.out (by decide)); have HZ2 := hid (HZ.out rfl); clear HZ; have j1 : (0 : Int) < (c.texts.length : Int) := by omega
       go_wp2_with fail; refine (jkg x W0 (HZ2.out)).mono ?_; rintro e u ⟨rfl, hb⟩; simp only; have HB2 := hid (HB0.out.trans (hb.mono HB0.out.size)); clear hb; go_wp2; go_ret; exact ⟨jc HE.out.symm, HB2.out⟩
     · have HE := hid (show r = 0 by rw [HR.out]; rfl); clear HR; go_wp2; go_ret; exact ⟨jc HE.out.symm, HB0.out⟩
     · have HE := hid (show r = if vg c.texts = none then 7 else 0 by rw [HR.out]; rfl); clear HR; go_wp2_with fail; refine (jeb c.texts ax cx W0 HW.out.2.2.2 (H1.out.next HB0.out)).mono ?_; rintro e u ⟨rfl, hb⟩; simp only; have HB2 := hid (HB0.out.trans (hb.mono HB0.out.size)); clear hb; cases hf : vg c.texts with
       | none =>
         have HE2 := hid (show r = 7 by rw [HE.out, hf]; rfl); clear hf; unfold jea; simp only; go_wp2; go_ret; exact ⟨jc HE2.out.symm, HB2.out⟩
       | some v =>
         have HE2 := hid (show r = 0 by rw [HE.out, hf]; rfl); clear hf; unfold jea; simp only; go_wp2; go_ret; exact ⟨jc HE2.out.symm, HB2.out⟩
     · have HE := hid (show r = if vg c.texts = none then 7 else 0 by rw [HR.out]; rfl); clear HR; go_wp2_with fail; refine (jeb c.texts ax cx W0 HW.out.2.2.2 (H1.out.next HB0.out)).mono ?_; rintro e u ⟨rfl, hb⟩; simp only; have HB2 := hid (HB0.out.trans (hb.mono HB0.out.size)); clear hb; cases hf : vg c.texts with
       | none =>
         have HE2 := hid (show r = 7 by rw [HE.out, hf]; rfl); clear hf; unfold jea; simp only; go_wp2; go_ret; exact ⟨jc HE2.out.symm, HB2.out⟩
       | some v =>
         have HE2 := hid (show r = 0 by rw [HE.out, hf]; rfl); clear hf; unfold jea; simp only; go_wp2; go_ret; exact ⟨jc HE2.out.symm, HB2.out⟩
     · have HE := hid (show r = 0 by rw [HR.out]; rfl); clear HR; go_wp2; go_ret; exact ⟨jc HE.out.symm, HB0.out⟩
   · have hh : hasP H (jfq kd) = false := by simpa using hh
     rw [if_pos hh] at HR; rw [hh]; clear hh hk0 hk1; go_wp2; go_ret; exact ⟨jc HR.out.symm, HB0.out⟩
def zP : Nat → Cmd → Prop
 | 0, _ => True
 | n + 1, c => (c.kind = 6 → (c.texts.getD 0 []).length ≤ maxLen) ∧ (∀ x ∈ c.thn, zP n x) ∧ ∀ x ∈ c.els, zP n x
theorem jnk : ∀ (n d : Nat) (c : Cmd), jn n d c = 0 → zP n c → PutC n c := by
 intro n
 induction n with
 | zero => intro d c _ _; trivial
 | succ n ih =>
   intro d c h hs; obtain ⟨hk, _, hf, h2⟩ := vD h; obtain ⟨s1, s2, s3⟩ := hs; refine ⟨⟨by omega, hk.2⟩, fun h5 => ?_, s1, fun hk2 => ?_⟩
   · unfold vE at hf; intro ht; rw [ht] at hf; split at hf
     · cases hf
     · rcases h5 with h5 | h5 <;> simp [h5] at hf
   · obtain ⟨_, q2, q3⟩ := h2 hk2; refine ⟨fun x hx => ih (d + 1) x (qi q2 x hx) (s2 x hx), fun x hx => ?_⟩; cases he : zj c.els with
     | none =>
       rw [he] at q3; exact ih (d + 1) x (qi q3 x hx) (s3 x hx)
     | some y =>
       rw [he] at q3; have hy : c.els = [y] := by
        unfold zj at he; split at he
        · split at he
          · cases he; assumption
          · cases he
        · cases he
       rw [hy] at hx; have := List.mem_singleton.1 hx; subst this; exact ih d x q3 (s3 x (by rw [hy]; simp))
theorem jmI (l : List (List UInt8)) : l.length ≤ (sepT (fun x => [strT x]) l).length := by
 cases l with
 | nil => exact Nat.le_refl _
 | cons x r =>
   have : ∀ r : List (List UInt8), r.length ≤ (r.flatMap fun y => [jP 44, strT y]).length := by
    intro r
    induction r with
    | nil => exact Nat.le_refl _
    | cons y r ih => simp only [List.flatMap_cons, List.length_append, List.length_cons, List.length_nil]; omega
   have := this r
   show r.length + 1 ≤ ([strT x] ++ r.flatMap fun y => [jP 44, strT y]).length
   simp only [List.length_append, List.length_cons, List.length_nil]; omega
theorem jkp (l : List (List UInt8)) : l.length ≤ (jbr l).length := by
 unfold jbr; split
 · exact Nat.le_refl _
 · have := jmI l; simp only [List.length_cons, List.length_append, List.length_nil]; omega
theorem jmF (n : Nat) (c : Cmd) (hk : c.kind = 1) : c.texts.length ≤ (cmdT (n + 1) c).length := by
 unfold cmdT jad; rw [if_neg (by rw [hk]; decide)]; have := jkp c.texts; split
 · omega
 · simp only [List.length_cons, List.length_append, List.length_nil]; omega
theorem jkR (n : Nat) : ∀ l : List Cmd, (jhw l).length ≤ (zh (n + 1) l).length := by
 intro l
 induction l with
 | nil => exact Nat.le_refl _
 | cons c l ih =>
   unfold jhw at ih ⊢; unfold zm
   by_cases hk : c.kind = 1
   · rw [if_pos hk, List.take_succ_cons, List.flatMap_cons, List.length_append]; have h1 := jmF n c hk; have h2 : (zh (n + 1) (c :: l)).length = (cmdT (n + 1) c).length + (zh (n + 1) l).length := by simp [zh]
     omega
   · rw [if_neg hk]; exact Nat.zero_le _
theorem jfV : ∀ l : List Cmd, zm l ≤ l.length := by
 intro l
 induction l with
 | nil => exact Nat.le_refl _
 | cons c l ih =>
   unfold zm; split
   · rw [List.length_cons]; omega
   · exact Nat.zero_le _
def Tabs (w : World) : Prop := WordsAt w ∧ TabAt w 0 extT ∧ TabAt w 5 partT ∧ TabAt w 1 needT ∧ FlagsAt w
theorem Tabs.next {w w' : World} (h : Tabs w) (hb : Below w.heap.size w w') : Tabs w' := ⟨h.1.next hb, h.2.1.next hb, h.2.2.1.next hb, h.2.2.2.1.next hb, h.2.2.2.2.next hb⟩
theorem jfx (n : Nat) (l : List Cmd) (b o k : Nat) (w : World) (hw : Tabs w) (hk : l.length ≤ k) (hs : ∀ x ∈ l, zP (n + 1) x) (h : CmdsM anyB (n + 1) w (.slice (some ⟨b, o, none⟩) l.length k) l) :
 Calls Tryz.prog 67 #[.slice (some ⟨b, o, none⟩) l.length k] w fun e w' => e = .returned (.int .i64 (vu (n + 1) l)) ∧ Below w.heap.size w w' := by
 have HT := hid h; have HW := hid hw; have HS := hid hs; have hmx := h.small; unfold maxLen at hmx; obtain ⟨L1, hL1⟩ : ∃ L1, L1 = l.take (zm l) := ⟨_, rfl⟩; obtain ⟨L2, hL2⟩ : ∃ L2, L2 = l.drop (zm l) := ⟨_, rfl⟩; have HA := hid (show zm l = L1.length by rw [hL1, List.length_take]; have := jfV l; omega); have hle : L1.length ≤ l.length := by have := jfV l; rw [← HA.out]; exact this
 have HL2 := hid (show L2.length = l.length - L1.length by rw [hL2, List.length_drop, HA.out]); have HT1 := hid (show ∀ w', Below w.heap.size w w' → CmdsM anyB (n + 1) w' (.slice (some ⟨b, o, none⟩) L1.length k) L1 from fun w' hb => by
  have := RowM.takeR (CmdsM.next HT.out hb) L1.length k hle; rw [← HA.out, ← hL1, HA.out] at this; exact this)
 have HT2 := hid (show ∀ w', Below w.heap.size w w' → CmdsM anyB (n + 1) w' (.slice (some ⟨b, o + L1.length * 12, none⟩) L2.length (k - L1.length)) L2 from fun w' hb => by
  have := RowM.dropR (CmdsM.next HT.out hb) L1.length L2.length (k - L1.length) HL2.out; rw [show l.drop L1.length = L2 by rw [hL2, HA.out]] at this; exact this)
 have HR := hid (show vu (n + 1) l = if zQ (n + 1) l ≠ 0 then zQ (n + 1) l else if (L1.flatMap (·.texts)).all extP = false then 7 else jh (cmdA (L1.flatMap (·.texts)) (n + 1)) L2 by unfold vu jhw; rw [← hL1, ← hL2]); have HLN := hid (show zQ (n + 1) l = 0 → (L1.flatMap (·.texts)).length ≤ 400 from fun hc => by
  have h1 := (jd3 hc).2; have h2 := jkR n l; unfold jhw at h2; rw [← hL1] at h2; omega)
 have HPT := hid (show zQ (n + 1) l = 0 → ∀ x ∈ L2, PutC (n + 1) x from fun hc x hx => by
  have hm : x ∈ l := by rw [hL2] at hx; exact List.mem_of_mem_drop hx
  exact jnk (n + 1) 0 x ((jd3 hc).1 x hm) (HS.out x hm))
 clear h hw hs hL1 hL2; go_enter Tryz.func67, Tryz.ntmps67; go_wp2_with fail; refine (jc5 (n + 1) l (some ⟨b, o, none⟩) k w HW.out.1 HT.out).mono ?_; rintro e w1 ⟨rfl, hb1⟩; have HB1 := hid hb1; obtain ⟨x, hx⟩ : ∃ x, x = zQ (n + 1) l := ⟨_, rfl⟩; rw [← hx]; rw [← hx] at HR HLN HPT; clear hx hb1
 by_cases hx : x = 0
 · rw [if_neg (by simpa using hx)] at HR; replace HLN := hid (HLN.out hx); replace HPT := hid (HPT.out hx); subst hx; go_wp2_with fail; refine (jd0 (n + 1) l (some ⟨b, o, none⟩) k w1 (CmdsM.next HT.out HB1.out)).mono ?_; rintro e w2 ⟨rfl, hb2⟩; have HB2 := hid (HB1.out.trans (hb2.mono HB1.out.size)); clear hb2; rw [HA.out]; have i0 : (0 : Int) ≤ (L1.length : Int) := by omega
   have i1 : (L1.length : Int) ≤ (k : Int) := by omega
   have i2 : (L1.length : Int) ≤ (l.length : Int) := by omega
   go_wp2_with fail; refine (jex (n + 1) L1 (some ⟨b, o, none⟩) k w2 HLN.out (HW.out.2.1.next HB2.out) (HT1.out w2 HB2.out)).mono ?_; intro e w3 hq; unfold jeU at hq
   by_cases hall : (L1.flatMap (·.texts)).all extP = true
   · rw [if_pos hall] at hq; rw [if_neg (by rw [hall]; simp)] at HR; obtain ⟨⟨N, rfl, hM⟩, hb3⟩ := hq; have HM := hid hM; have HB3 := hid (HB2.out.trans (hb3.mono HB2.out.size)); clear hall hM hb3; go_wp2_with fail
     · rw [← HL2.out]; have HT0 := hid (show CmdsM anyB (n + 1) w3 (.slice (some ⟨b, o, none⟩) L2.length 0) L2 by
         have : L2 = [] := List.length_eq_zero_iff.1 (by rw [HL2.out]; omega); subst this; exact jg _ _ _ _ _ _)
       refine (jaG (n + 1) (jdD (n + 1)) L2 w3 w2.heap.size N (L1.flatMap (·.texts)) (some ⟨b, o, none⟩) 0 HPT.out ⟨HM.out, HW.out.2.2.1.next HB3.out, HW.out.2.2.2.1.next HB3.out, HW.out.2.2.2.2.next HB3.out⟩ HT0.out).mono ?_; rintro e w4 ⟨rfl, hb4⟩; simp only; have HB4 := hid (HB3.out.trans (hb4.mono HB3.out.size)); clear hb4; go_wp2; go_ret; exact ⟨jc HR.out.symm, HB4.out⟩
     · rw [← HL2.out]; refine (jaG (n + 1) (jdD (n + 1)) L2 w3 w2.heap.size N (L1.flatMap (·.texts)) (some ⟨b, o + L1.length * 12, none⟩) (k - L1.length) HPT.out ⟨HM.out, HW.out.2.2.1.next HB3.out, HW.out.2.2.2.1.next HB3.out, HW.out.2.2.2.2.next HB3.out⟩ (HT2.out w3 HB3.out)).mono ?_; rintro e w4 ⟨rfl, hb4⟩; simp only; have HB4 := hid (HB3.out.trans (hb4.mono HB3.out.size)); clear hb4; go_wp2; go_ret; exact ⟨jc HR.out.symm, HB4.out⟩
   · rw [if_neg hall] at hq; rw [if_pos (by simpa using hall)] at HR; obtain ⟨rfl, hb3⟩ := hq; have HB3 := hid (HB2.out.trans (hb3.mono HB2.out.size)); clear hall hb3; go_wp2; go_ret; exact ⟨jc HR.out.symm, HB3.out⟩
 · rw [if_pos (by simpa using hx)] at HR; go_wp2; go_ret; exact ⟨jc HR.out.symm, HB1.out⟩
theorem jht (n : Nat) (w : World) (hw : Tabs w) :
 Calls Tryz.prog 67 #[.slice none 0 0] w fun e w' => e = .returned (.int .i64 0) ∧ Below w.heap.size w w' := by
 have HW := hid hw; have HT := hid (show ∀ w', CmdsM anyB n w' (.slice none ([] : List Cmd).length 0) [] from fun w' => jg _ _ _ _ _ _); clear hw; go_enter Tryz.func67, Tryz.ntmps67; go_wp2_with fail; refine (jc5 n [] none 0 w HW.out.1 (HT.out w)).mono ?_; rintro e w1 ⟨rfl, hb1⟩; have HB1 := hid hb1; have HC := hid (show zQ n [] = 0 from rfl); rw [HC.out]; clear hb1; go_wp2_with fail; refine (jd0 n [] none 0 w1 (HT.out w1)).mono ?_; rintro e w2 ⟨rfl, hb2⟩; have HB2 := hid (HB1.out.trans (hb2.mono HB1.out.size)); clear hb2; have HA := hid (show zm ([] : List Cmd) = 0 from rfl); rw [HA.out]; go_wp2_with fail; refine (jex n [] none 0 w2 (by simp) (HW.out.2.1.next HB2.out) (HT.out w2)).mono ?_; intro e w3 hq; unfold jeU at hq; rw [if_pos (show (([] : List Cmd).flatMap (·.texts)).all extP = true from rfl)] at hq; obtain ⟨⟨N, rfl, hM⟩, hb3⟩ := hq; have HM := hid hM; have HB3 := hid (HB2.out.trans (hb3.mono HB2.out.size)); clear hM hb3; go_wp2_with fail; refine (jaG n (jdD n) [] w3 w2.heap.size N [] none 0 (by intro x hx; cases hx) ⟨HM.out, HW.out.2.2.1.next HB3.out, HW.out.2.2.2.1.next HB3.out, HW.out.2.2.2.2.next HB3.out⟩ (HT.out w3)).mono ?_; rintro e w4 ⟨rfl, hb4⟩; have HB4 := hid (HB3.out.trans (hb4.mono HB3.out.size)); have HZ := hid (show jh (cmdA [] n) [] = 0 from rfl); rw [HZ.out]; clear hb4; go_wp2; go_ret; exact ⟨rfl, HB4.out⟩
theorem jc1 (n : Nat) (l : List Cmd) (a : Option Addr) (k : Nat) (w : World) (hw : Tabs w) (hk : l.length ≤ k) (hn : l = [] → a = none ∧ k = 0) (hs : ∀ x ∈ l, zP (n + 1) x) (h : CmdsM anyB (n + 1) w (.slice a l.length k) l) :
 Calls Tryz.prog 67 #[.slice a l.length k] w fun e w' => e = .returned (.int .i64 (vu (n + 1) l)) ∧ Below w.heap.size w w' := by
 cases l with
 | nil =>
   obtain ⟨rfl, rfl⟩ := hn rfl; exact jht n w hw
 | cons x r =>
   obtain ⟨a', c', hv, _, hr⟩ := h; obtain ⟨b, o, _, ha, _⟩ := hr 0 x rfl; have ha' : a = a' := by
    simp only [Value.slice.injEq, true_and] at hv; exact hv.1
   subst ha'; subst ha; exact jfx n (x :: r) b o k w hw hk hs ⟨_, c', hv, by assumption, hr⟩
end Go.Proofs.YtmgdnhjemhhleaaGreatDoor
