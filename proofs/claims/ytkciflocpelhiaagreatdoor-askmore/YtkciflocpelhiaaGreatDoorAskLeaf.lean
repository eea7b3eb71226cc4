/-
  One test without others in it that is asked of a letter; plain facts on letters that a law makes.
-/
import Derived.Test.YtkciflocpelhiaaGreatDoorJudAsk
import Derived.Test.YtkciflocpelhiaaGreatDoorLtrMsg
import Derived.Test.YtkciflocpelhiaaGreatDoorRulTabs
namespace Go.Proofs.YtkciflocpelhiaaGreatDoor
open Go.RowKit Go.Proofs

theorem sepS_len (l : List (List UInt8)) : (sepT (fun x => [strT x]) l).length ≤ 2 * l.length := by
  cases l with
  | nil => simp [sepT]
  | cons x r =>
    simp only [sepT, List.length_append, List.length_cons, List.length_nil]
    have : (r.flatMap fun y => [markT 44, strT y]).length = 2 * r.length := by
      induction r with
      | nil => rfl
      | cons y r ih => simp only [List.flatMap_cons, List.length_append, ih, List.length_cons, List.length_nil]; omega
    rw [this]; omega
theorem listT_len (l : List (List UInt8)) : (listT l).length ≤ 2 * l.length + 2 := by
  unfold listT
  split
  · simp
  · have := sepS_len l
    simp; omega
theorem leaf_fault {t : Tst} (h1 : 1 ≤ t.kind) (h2 : t.kind ≤ 10) (hf : fitsT t = true) (ht : t.tests = []) : faultTst 1 1 t = 0 := by
  have hn : isNumP 1 t.kind = true := by rw [isNum_tst]; simp; omega
  unfold faultTst
  rw [hn, hf, ht]
  rfl
theorem leaf_len {t : Tst} (ht : t.tests = []) : (testT 1 t).length ≤ 8 + 2 * t.names.length + 2 * t.keys.length := by
  have h1 := listT_len t.names
  have h2 := listT_len t.keys
  unfold testT
  rw [ht]
  split
  · simp; omega
  · split
    · simp [sepT]; omega
    · split
      · simp; omega
      · split
        · simp; omega
        · split
          · simp; omega
          · split <;> (simp; omega)
theorem leaf_rule {t : Tst} (h1 : 1 ≤ t.kind) (h2 : t.kind ≤ 10) (hf : fitsT t = true) (ht : t.tests = []) (hn : longP t.names = false) (hk : longP t.keys = false) (h8 : t.kind = 8 → t.names.all partP = true) (hln : t.names.length ≤ 20) (hlk : t.keys.length ≤ 20) : ruleM 2 [envC, ifC t] = 0 := by
  refine rule_ask (n := 1) ⟨hn, hk, h8, fun u hu => ?_⟩ (leaf_fault h1 h2 hf ht) ?_
  · rw [ht] at hu; cases hu
  · have := leaf_len ht
    omega
/-- What is asked of a test that has no others in it. -/
def LeafT (t : Tst) : Prop := 1 ≤ t.kind ∧ t.kind ≤ 10 ∧ fitsT t = true ∧ t.tests = [] ∧ longP t.names = false ∧ longP t.keys = false ∧ (t.kind = 8 → t.names.all partP = true) ∧ t.names.length ≤ 20 ∧ t.keys.length ≤ 20
theorem ask_leaf (o : Opn) (ho : Opened o) (t : Tst) (hl : LeafT t) (an ak at' : Option Addr) (cn ck ct : Nat) (w : World) (hw : Tabs w) (hm : maxLenCell w) (hN : TxtsM anyB w (.slice an t.names.length cn) t.names) (hK : TxtsM anyB w (.slice ak t.keys.length ck) t.keys) :
    Calls Tryz.prog 7 #[.agg #[.int .i64 t.kind, .int .i64 t.mat, .int .i64 t.part, .slice an t.names.length cn, .slice ak t.keys.length ck, .bool t.over, .int .i64 t.limit, .slice at' t.tests.length ct], .agg #[.string (S o.fl), .string (S o.fd), .string (S o.tl), .string (S o.td), .string (S o.tx)]] w fun e w' => e = .returned (.tuple #[.bool (tellsP o 1 t), .int .i64 0]) ∧ Below w.heap.size w w' := by
  obtain ⟨h1, h2, h3, h4, h5, h6, h7, h8, h9⟩ := hl
  refine Ask_ok 0 t o an ak at' cn ck ct w hw hm ho ⟨_, _, _, rfl, hN, hK, ?_⟩ (leaf_rule h1 h2 h3 h4 h5 h6 h7 h8 h9) (good_of 1 1 t (leaf_fault h1 h2 h3 h4))
  rw [h4]
  exact rowM_nil _ _ _ _ _ _

/- Letters of the laws. -/
theorem mat_self {s : List UInt8} (h : s.length ≤ 100) : matP 1 s s = true := by
  unfold matP
  rw [if_neg (by omega), if_neg (by omega)]
  unfold matchB
  simp
theorem tells_hdr (o : Opn) (f : F) (hf : f ∈ o.fs) (h1 : f.1.length ≤ 100) (h2 : f.2.length ≤ 100) : tellsP o 1 ⟨6, 1, 0, [f.1], [f.2], false, 0, []⟩ = true := by
  rw [tellsP]
  simp only [Int.reduceEq, if_false, if_true]
  unfold hasValP
  rw [List.any_eq_true]
  refine ⟨f, hf, ?_⟩
  simp only [Bool.and_eq_true, List.any_cons, List.any_nil, Bool.or_false]
  refine ⟨mat_self h1, ?_⟩
  unfold fitsP
  simp only [List.any_cons, List.any_nil, Bool.or_false]
  exact mat_self h2
theorem tells_has (o : Opn) (f : F) (hf : f ∈ o.fs) (h1 : f.1.length ≤ 100) : tellsP o 1 ⟨9, 0, 0, [f.1], [], false, 0, []⟩ = true := by
  rw [tellsP]
  simp only [Int.reduceEq, if_false, if_true, List.any_cons, List.any_nil, Bool.or_false, Bool.not_not]
  unfold hasFldP
  rw [List.any_eq_true]
  exact ⟨f, hf, mat_self h1⟩
def noneW : List UInt8 := [110, 111, 110, 101]
def annW : List UInt8 := [97, 110, 110]
theorem ltrName_none (n : Nat) : matP 1 (ltrName n) noneW = false := by
  unfold ltrName
  have h : n % 5 < 5 := Nat.mod_lt _ (by omega)
  generalize n % 5 = q at *
  match q, h with
  | 0, _ | 1, _ | 2, _ | 3, _ | 4, _ => decide +kernel
theorem tells_none (o : Opn) (fs : List F) (hf : o.fs = ltrM fs) : tellsP o 1 ⟨9, 0, 0, [noneW], [], false, 0, []⟩ = false := by
  rw [tellsP]
  simp only [Int.reduceEq, if_false, if_true, List.any_cons, List.any_nil, Bool.or_false, Bool.not_not]
  unfold hasFldP
  rw [List.any_eq_false, hf]
  intro f hm
  obtain ⟨g, _, rfl⟩ := List.mem_map.1 hm
  have := ltrName_none g.2.length
  unfold fldNamed ltrF
  simp [this]
theorem ann_fits : anyAdr ⟨7, 1, 2, [toL], [annW], false, 0, []⟩ annL = true := by decide +kernel
theorem tells_ann (o : Opn) (h : (toL, annL) ∈ o.fs) : tellsP o 1 ⟨7, 1, 2, [toL], [annW], false, 0, []⟩ = true := by
  rw [tellsP]
  simp only [Int.reduceEq, if_false, if_true]
  unfold hasValP
  rw [List.any_eq_true]
  refine ⟨_, h, ?_⟩
  simp only [Bool.and_eq_true, List.any_cons, List.any_nil, Bool.or_false]
  exact ⟨mat_self (by decide), ann_fits⟩
end Go.Proofs.YtkciflocpelhiaaGreatDoor
