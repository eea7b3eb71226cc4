/-
  A line that is no field is told by its place: walked.
-/
import Derived.Test.YtdmjdhnncilaiaaDoorWLetterTorn
import Derived.Test.YtdmjdhnncilaiaaDoorLetPlace
import Derived.Deep.QuietTactic
import Derived.BigQuiet
namespace Go.Proofs.YtdmjdhnncilaiaaDoor
open Go.ChangeShapes Go.WideShapes Go.ChangeAt Go.RowKit

theorem picked_int (n mi : Int) (m : Nat) (w : World) (e : mi = (m : Int)) (hn : (Lit.int .i64 n).wf = true) (hm : 0 < m) (hm2 : m ≤ 1000000) :
    Calls Tryd.prog 13 #[.int .i64 n, .int .i64 mi] w fun e w' => e = .returned (.int .i64 (pickN n m)) ∧ w' = w := by
  subst e; exact picked_any n m w hn hm (by omega)
theorem S_of {x : ByteArray} {l : List UInt8} (h : x.data.toList = l) : x = S l := by rw [← h, S_list]
def badsV : Array Value := #[.string ⟨#[110, 111, 99, 111, 108, 111, 110]⟩, .string ⟨#[58, 118]⟩, .string ⟨#[97, 32, 98, 58, 32, 99]⟩, .string ⟨#[127, 58, 32, 118]⟩, .string ⟨#[99, 97, 102, 233, 58, 32, 118]⟩]
theorem bads_get {j : Nat} (h : j < 5) : ∃ bd, bads[j]? = some bd ∧ bd ∈ bads ∧ badsV[j]? = some (.string (S bd)) := by
  match j, h with
  | 0, _ => exact ⟨_, rfl, by decide, rfl⟩
  | 1, _ => exact ⟨_, rfl, by decide, rfl⟩
  | 2, _ => exact ⟨_, rfl, by decide, rfl⟩
  | 3, _ => exact ⟨_, rfl, by decide, rfl⟩
  | 4, _ => exact ⟨_, rfl, by decide, rfl⟩

set_option maxHeartbeats 8000000 in
set_option maxRecDepth 100000 in
theorem letterPlace_walk (w : World) (hm : maxLenCell w) (a : Option Addr) (c : Nat) (fs : List F) (hF : FieldsAt w a fs) (hL : fs.length ≤ maxLen) (hB : ∀ f ∈ fs, f.1.length ≤ maxLen ∧ f.2.length ≤ maxLen) (n : Int) (hn : (Lit.int .i64 n).wf = true) (z : Int) (hz : (Lit.int .i64 z).wf = true) :
    Calls Tryd.prog 5 #[.slice a fs.length c, .int .i64 n, .int .i64 z] w fun e w' => e = .returned (.bool true) ∧ Below w.heap.size w w' := by
  have HMay : Hid _ := msg_may fs
  have HSiz : Hid _ := msg_size fs
  have hMl := msg_len fs
  have HCu : Hid (cutB (⟨#[]⟩ : ByteArray) 200 = ⟨#[]⟩) := cutB_empty 200
  obtain ⟨J, hJ⟩ : ∃ J, pickN z 5 = J := ⟨_, rfl⟩
  have hJ5 : J < 5 := by rw [← hJ]; exact pickN_lt _ _ (by omega)
  obtain ⟨bd, hbd1, hbd2, hbd3⟩ := bads_get hJ5
  have hbe := bad_end hbd2
  have hbs : (S bd).size ≤ 7 := by rw [size_S]; exact hbe.2.2
  have HJ : Hid _ := hJ
  have HBd : Hid _ := hbd2
  have HBV : Hid _ := hbd3
  have HBL : Hid (bd.length ≤ 7) := hbe.2.2
  have HL : Hid _ := hL
  have HB : Hid _ := hB
  have HN : Hid _ := hn
  have HZ : Hid _ := hz
  clear hL hB hn hz hJ hbd1 hbd2 hbd3 hbe
  go_enter Tryd.func5, Tryd.ntmps5
  go_wp2_with fail
  refine (message_any a c fs ⟨#[]⟩ _ hF HL.out HB.out (Nat.zero_le _)).mono ?_
  rintro e w1 ⟨a1, c1, rfl, hF1, hb1⟩
  rw [HCu.out]
  obtain ⟨M, hM⟩ : ∃ M, M = msgK fs 6 := ⟨_, rfl⟩
  rw [← hM] at hF1 HMay HSiz hMl ⊢
  clear hM
  obtain ⟨K, hK⟩ : ∃ K, pickN n (M.length + 1) = K := ⟨_, rfl⟩
  have hKl : K ≤ M.length := by have := pickN_lt n (M.length + 1) (by omega); omega
  have HK : Hid _ := hK
  clear hK
  go_wp2_with fail
  refine (picked_int n _ (M.length + 1) _ (by simp) HN.out (by omega) (by omega)).mono ?_
  rintro e u ⟨rfl, hu⟩
  rw [HK.out]
  obtain ⟨W0, hW0⟩ : ∃ W0, W0 = ((w1.alloc (.cells #[.slice a1 M.length c1, .string ⟨#[]⟩] 25)).alloc (.cells badsV 9)) := ⟨_, rfl⟩
  have huW : u = W0 := by rw [hu, hW0]; rfl
  clear hu
  subst huW
  have hN1 : Below w1.heap.size w1 u := by rw [hW0]; exact ((Below.refl _ _).alloc (Nat.le_refl _) _).alloc (by simp) _
  have p0 : u.cell? ⟨w1.heap.size, 0, none⟩ = some (.slice a1 M.length c1) := by rw [hW0]; simp
  have pJ : u.cell? ⟨w1.heap.size + 1, J, none⟩ = some (.string (S bd)) := by
    rw [hW0, ← HBV.out]
    have hg : ((w1.alloc (.cells #[.slice a1 M.length c1, .string ⟨#[]⟩] 25)).alloc (.cells badsV 9)).heap[w1.heap.size + 1]? = some (.cells badsV 9 (0, 0)) := by
      have := heap_alloc_new (w1.alloc (.cells #[.slice a1 M.length c1, .string ⟨#[]⟩] 25)) (.cells badsV 9)
      simpa using this
    exact cell_of_row _ _ J _ _ _ hg
  have hFu := hF1.below hN1
  have hBu := bnext hb1 hN1 (Nat.le_refl _)
  clear hW0
  go_wp2
  go_loopw [10, 11] (fun s i wr => ∃ (k : Nat) (t : List UInt8), k ≤ M.length ∧ s = .string (S t) ∧ i = .int .i64 k ∧ Hid (PlaceT M bd K k t) ∧ ∃ q, wr = u.drewN q) (fun _ i _ => M.length - (intOf i).toNat)
  case atStart => exact ⟨0, [], Nat.zero_le _, rfl, rfl, ⟨by simp, .inl ⟨Nat.zero_le _, rfl⟩⟩, 0, rfl⟩
  case round =>
    obtain ⟨k, t, hk, rfl, rfl, HT, q, rfl⟩ := hrel
    have hts : (S t).size ≤ 370 := by rw [size_S]; have := HT.out.1; omega
    by_cases hlt : k < M.length
    · obtain ⟨f, hf⟩ : ∃ f, M[k]? = some f := ⟨_, List.getElem?_eq_getElem hlt⟩
      obtain ⟨b, off, rfl, hbb, h1, h2⟩ := hFu k f hf
      have hfl := HSiz.out f (List.mem_of_getElem? hf)
      have hs1 : (S f.1).size ≤ 8 := by rw [size_S]; exact hfl.1
      have hs2 : (S f.2).size ≤ 40 := by rw [size_S]; exact hfl.2
      by_cases hkK : k = K
      · have hbk : ((k : Int) == (K : Int)) = true := by simp [hkK]
        have HX : Hid (S t ++ (S bd ++ ⟨#[13, 10]⟩) ++ (S f.1 ++ ⟨#[58]⟩ ++ S f.2 ++ ⟨#[13, 10]⟩) = S (t ++ (bd ++ [13, 10]) ++ (f.1 ++ [58] ++ f.2 ++ [13, 10]))) := S_of (by simp only [app_list, list_S])
        have HP : Hid _ := place_bad (f := f) HT.out hkK HBL.out hfl
        clear hf hfl hkK
        go_wp2_with fail
        refine (picked_int z _ 5 _ (by simp) HZ.out (by omega) (by omega)).mono ?_
        rintro e u2 ⟨rfl, hu2⟩
        have hu2' := hu2.symm
        subst hu2'
        rw [HJ.out]
        go_wp2
        go_quiet (fail)
        go_wp2
        go_roundw
        case rel => first | exact ⟨k + 1, _, by omega, by rw [← HX.out], by go_num, HP.out, _, rfl⟩ | ((repeat apply Exists.intro); exact ⟨⟨k + 1, _, by omega, by rw [← HX.out], by go_num, HP.out, _, rfl⟩, rfl⟩) | (refine ⟨trivial, ?_⟩; (repeat apply Exists.intro); exact ⟨⟨k + 1, _, by omega, by rw [← HX.out], by go_num, HP.out, _, rfl⟩, rfl⟩)
        case measure => simp [intOf]; omega
      · have hbk : ((k : Int) == (K : Int)) = false := by rw [beq_eq_false_iff_ne]; omega
        have HX : Hid (S t ++ (S f.1 ++ ⟨#[58]⟩ ++ S f.2 ++ ⟨#[13, 10]⟩) = S (t ++ (f.1 ++ [58] ++ f.2 ++ [13, 10]))) := S_of (by simp only [app_list, list_S])
        have HP : Hid _ := place_plain HT.out hf hkK hfl
        clear hf hfl hkK
        go_wp2
        go_quiet (fail)
        go_wp2
        go_roundw
        case rel => first | exact ⟨k + 1, _, by omega, by rw [← HX.out], by go_num, HP.out, _, rfl⟩ | ((repeat apply Exists.intro); exact ⟨⟨k + 1, _, by omega, by rw [← HX.out], by go_num, HP.out, _, rfl⟩, rfl⟩) | (refine ⟨trivial, ?_⟩; (repeat apply Exists.intro); exact ⟨⟨k + 1, _, by omega, by rw [← HX.out], by go_num, HP.out, _, rfl⟩, rfl⟩)
        case measure => simp [intOf]; omega
    · have hkM : k = M.length := by omega
      by_cases hKM : K = M.length
      · have hbk : ((K : Int) == (M.length : Int)) = true := by simp [hKM]
        have HX : Hid (parseM (S t ++ (S bd ++ ⟨#[13, 10]⟩) ++ ⟨#[13, 10]⟩).data.toList = ([], (⟨#[]⟩ : ByteArray).data.toList, (K : Int), 3)) := by
          have e : (S t ++ (S bd ++ ⟨#[13, 10]⟩) ++ ⟨#[13, 10]⟩).data.toList = t ++ (bd ++ [13, 10]) ++ [13, 10] := by simp only [app_list, list_S]
          rcases HT.out.2 with ⟨_, ht⟩ | ⟨h1, _⟩
          · have e2 : t ++ (bd ++ [13, 10]) ++ [13, 10] = linesC (M.take K) ++ (bd ++ [13, 10] ++ [13, 10]) := by rw [ht, hkM, hKM]; simp
            unfold Hid
            rw [e, e2]
            refine place_parse HMay.out (by omega) HBd.out hKl ?_
            rw [← e2]; have := HT.out.1; have := HBL.out; simp; omega
          · omega
        have HSz : Hid ((S t ++ (S bd ++ ⟨#[13, 10]⟩) ++ ⟨#[13, 10]⟩).size ≤ maxLen) := by
          unfold Hid; rw [← size_list]; simp only [app_list, list_S]; have := HT.out.1; have := HBL.out; unfold maxLen; simp; omega
        clear hkM hKM
        go_wp2_with fail
        refine (picked_int z _ 5 _ (by simp) HZ.out (by omega) (by omega)).mono ?_
        rintro e u2 ⟨rfl, hu2⟩
        have hu2' := hu2.symm
        subst hu2'
        rw [HJ.out]
        go_wp2_with fail
        refine (parse_isL _ [] ⟨#[]⟩ K 3 ?q1 _ ?q2 (maxLenCell_below hm (bdrew hBu q))).mono ?_
        case q1 => exact HX.out
        case q2 => exact HSz.out
        rintro e w3 ⟨a3, c3, rfl, hF3, hb3⟩
        have hB3 := bnext (bdrew hBu q) hb3 (Nat.le_refl _)
        go_wp2
        go_ret
        exact ⟨by first | rfl | simp, hB3.alloc hB3.size _⟩
      · have hbk : ((K : Int) == (M.length : Int)) = false := by rw [beq_eq_false_iff_ne]; omega
        have HX : Hid (parseM (S t ++ ⟨#[13, 10]⟩).data.toList = ([], (⟨#[]⟩ : ByteArray).data.toList, (K : Int), 3)) := by
          have e : (S t ++ ⟨#[13, 10]⟩).data.toList = t ++ [13, 10] := by simp only [app_list, list_S]
          rcases HT.out.2 with ⟨h1, _⟩ | ⟨_, r, ht⟩
          · omega
          · have e2 : t ++ [13, 10] = linesC (M.take K) ++ (bd ++ [13, 10] ++ (r ++ [13, 10])) := by rw [ht]; simp
            unfold Hid
            rw [e, e2]
            refine place_parse HMay.out (by omega) HBd.out hKl ?_
            rw [← e2]; have := HT.out.1; simp; omega
        have HSz : Hid ((S t ++ ⟨#[13, 10]⟩).size ≤ maxLen) := by
          unfold Hid; rw [← size_list]; simp only [app_list, list_S]; have := HT.out.1; unfold maxLen; simp; omega
        clear hkM hKM
        go_wp2_with fail
        refine (parse_isL _ [] ⟨#[]⟩ K 3 ?q1 _ ?q2 (maxLenCell_below hm (bdrew hBu q))).mono ?_
        case q1 => exact HX.out
        case q2 => exact HSz.out
        rintro e w3 ⟨a3, c3, rfl, hF3, hb3⟩
        have hB3 := bnext (bdrew hBu q) hb3 (Nat.le_refl _)
        go_wp2
        go_ret
        exact ⟨by first | rfl | simp, hB3.alloc hB3.size _⟩
end Go.Proofs.YtdmjdhnncilaiaaDoor
