/-
  What letter.Parse does: the walk.
-/
import Derived.Test.YtgbhaphgojlhaaaDoorLetParseW
namespace Go.Proofs.YtgbhaphgojlhaaaDoor
open Go.RowKit

def strLenP : Value → Nat
  | .string s => s.size
  | _ => 0
theorem takeF_bd {raw : List F} {a : List UInt8} {m : Nat} (hr : raw.length ≤ 30) (hb : ∀ f ∈ raw, f.2.length + (a.length + 2 + m) ≤ 2000) (ha : a.length + 2 + m ≤ 2000) :
    (takeF raw a).1.length ≤ 30 ∧ ∀ f ∈ (takeF raw a).1, f.2.length + m ≤ 2000 := by
  unfold takeF
  split
  · rename_i hg
    have h0 : raw ≠ [] := by rintro rfl; simp [goesOn] at hg
    obtain ⟨f, hf⟩ : ∃ f, raw[raw.length - 1]? = some f := ⟨_, List.getElem?_eq_getElem (by have := List.length_pos_iff.2 h0; omega)⟩
    rw [addLast_eq hf]
    refine ⟨by simpa using hr, fun g hg => ?_⟩
    rcases List.mem_or_eq_of_mem_set hg with h | rfl
    · have := hb g h; omega
    · have := hb f (List.mem_of_getElem? hf); simp; omega
  · split
    · simp
    · split
      · simp
      · refine ⟨by simp; omega, fun g hg => ?_⟩
        rcases List.mem_append.1 hg with h | h
        · have := hb g h; omega
        · simp only [List.mem_singleton] at h
          subst h
          have : (Lib.cut a [58]).2.1.length ≤ a.length := by unfold Lib.cut; split <;> simp
          simp only
          omega
theorem S_isEmpty (l : List UInt8) : (S l).toList.isEmpty = l.isEmpty := by rw [Lib.toList_data, list_S]

/-- What Parse hands back. -/
def parseV (r : Res) (a : Option Addr) (c : Nat) : Value := .tuple #[.agg #[.slice a r.1.length c, .string (S r.2.1)], .int .i64 r.2.2.1, .int .i64 r.2.2.2]
theorem parseV_bad {r : Res} {p e : Int} (h : r = ([], [], p, e)) : parseV r none 0 = .tuple #[.agg #[.slice none 0 0, .string ⟨#[]⟩], .int .i64 p, .int .i64 e] := by
  subst h; rfl

set_option maxHeartbeats 4000000 in
set_option maxRecDepth 100000 in
theorem parse_any (s : ByteArray) (w : World) (hs : s.size ≤ maxLen) (hm : maxLenCell w) :
    Calls Tryd.prog 27 #[.string s] w fun e w' => ∃ a c, e = .returned (parseV (parseM s.data.toList) a c) ∧ FieldsAt w' a (parseM s.data.toList).1 ∧ Below w.heap.size w w' := by
  unfold maxLen at hs
  have hB0 : Below w.heap.size w (w.alloc (.cells #[.slice none 0 0, .string ⟨#[]⟩] 46)) := (Below.refl _ _).alloc (Nat.le_refl _) _
  by_cases hbig : 2000 < s.size
  · have HP : Hid (parseM s.data.toList = ([], [], 0, 1)) := by unfold Hid parseM; rw [size_list, if_pos hbig]
    go_enter Tryd.func27, Tryd.ntmps27
    go_wp2
    exact bodyPost_ret (v := .tuple #[.agg #[.slice none 0 0, .string ⟨#[]⟩], .int .i64 0, .int .i64 1]) (by simp [results, Tryd.results27, go_sem]) rfl ⟨none, 0, by rw [parseV_bad HP.out], by rw [HP.out]; exact fields_nil _ _, by first | exact hB0 | exact (hB0.setCell (by simp) _).setCell (by simp) _⟩
  · have HP : Hid (parseM s.data.toList = parseR 0 [] s.data.toList) := by unfold Hid parseM; rw [size_list, if_neg hbig]
    go_enter Tryd.func27, Tryd.ntmps27
    go_wp2
    go_loopw [0, 5, 6] (fun t v i wr => ∃ (x : ByteArray) (raw : List F) (p : Nat), t = .string x ∧ i = .int .i64 p ∧ OwnF wr (w.heap.size + 1) v raw ∧ raw.length ≤ 30 ∧ x.size ≤ 2000 ∧ p + x.size ≤ 2000 ∧ Hid (∀ f ∈ raw, f.2.length + x.size ≤ 2000) ∧ Hid (parseM s.data.toList = parseR p raw x.data.toList) ∧ Below (w.heap.size + 1) (w.alloc (.cells #[.slice none 0 0, .string ⟨#[]⟩] 46)) wr) (fun t _ _ _ => strLenP t)
    case atStart => exact ⟨s, [], 0, rfl, rfl, OwnF.nil _ _, by simp, by omega, by omega, by simp [Hid], HP.out, Below.refl _ _⟩
    case round =>
      obtain ⟨x, raw, p, rfl, rfl, hO, hr, hx, hpx, HB, HR, hB⟩ := hrel
      clear HP
      obtain ⟨a0, c0, rfl⟩ := hO.any
      have hz := hB.size
      simp only [World.size_alloc] at hz
      have hB1 : Below w.heap.size w wr := hB0.trans (hB.mono (by omega))
      have hmr := maxLenCell_below hm hB1
      have q0 : wr.cell? ⟨w.heap.size, 0, none⟩ = some (.slice none 0 0) := (hB.cell (by simp)).trans (by simp)
      have q1 : wr.cell? ⟨w.heap.size, 1, none⟩ = some (.string ⟨#[]⟩) := (hB.cell (by simp)).trans (by simp)
      have q2 : wr.frozen? ⟨w.heap.size, 0, none⟩ = false := (hB.frozen (by simp)).trans (by simp)
      have q3 : wr.frozen? ⟨w.heap.size, 1, none⟩ = false := (hB.frozen (by simp)).trans (by simp)
      cases hE : hasEnd x.data.toList with
      | false =>
        have HC : Hid _ := cut_none hE
        have HQ : Hid (parseM s.data.toList = ([], [], (p : Int), 4)) := by unfold Hid; rw [HR.out]; exact parse_short hE
        clear hE
        go_wp2_with fail
        refine (cutS_is x _ [13, 10] _ _ false rfl HC.out _ (by omega) hmr).mono ?_
        rintro e u ⟨rfl, q, rfl⟩
        go_wp2
        exact bodyPost_ret (v := .tuple #[.agg #[.slice none 0 0, .string ⟨#[]⟩], .int .i64 p, .int .i64 4]) (by simp [results, Tryd.results27, go_sem, q0, q1]) rfl ⟨none, 0, by rw [parseV_bad HQ.out], by rw [HQ.out]; exact fields_nil _ _, by first | exact bdrew hB1 _ | exact ((bdrew hB1 _).setCell (by simp) _).setCell (by simp) _⟩
      | true =>
        obtain ⟨a, b, hab, ha⟩ := cut_some hE
        have HC : Hid (Lib.cut x.data.toList [13, 10] = (a, b, true)) := by unfold Hid; rw [hab]; exact cut_line ha
        have hlen : x.size = a.length + 2 + b.length := by rw [← size_list, hab]; simp; omega
        clear hE
        by_cases h0 : a = []
        · have HQ : Hid (parseM s.data.toList = (raw.map trimF, b, 0, 0)) := by
            unfold Hid; rw [HR.out, hab, h0, List.nil_append]; exact parse_end _ _ _
          have he : (S a).toList.isEmpty = true := by rw [S_isEmpty, h0]; rfl
          have HB2 : Hid (∀ f ∈ raw, f.2.length ≤ 5000) := fun f hf => by have := HB.out f hf; omega
          clear hab h0
          go_wp2_with fail
          refine (cutS_is x _ [13, 10] a b true rfl HC.out _ (by omega) hmr).mono ?_
          rintro e u ⟨rfl, q, rfl⟩
          go_wp2_with fail
          refine (trimValues_any (w.heap.size + 1) (.slice a0 raw.length c0) raw (wr.drewN q) hO hr HB2.out).mono ?_
          rintro e u ⟨rfl, hO2, hb2, hz2⟩
          have hB2 := (bdrew hB q).trans hb2
          have r0 : u.cell? ⟨w.heap.size, 0, none⟩ = some (.slice none 0 0) := (hB2.cell (by simp)).trans (by simp)
          have r1 : u.cell? ⟨w.heap.size, 1, none⟩ = some (.string ⟨#[]⟩) := (hB2.cell (by simp)).trans (by simp)
          have r2 : u.frozen? ⟨w.heap.size, 0, none⟩ = false := (hB2.frozen (by simp)).trans (by simp)
          have r3 : u.frozen? ⟨w.heap.size, 1, none⟩ = false := (hB2.frozen (by simp)).trans (by simp)
          have hml : (raw.map trimF).length = raw.length := by simp
          go_wp2
          refine bodyPost_ret (v := .tuple #[.agg #[.slice a0 raw.length c0, .string (S b)], .int .i64 0, .int .i64 0]) (by simp [results, Tryd.results27, go_sem, r0, r1]) rfl ⟨a0, c0, ?_, ?_, ((hB0.trans (hB2.mono (by omega))).setCell (by simp) _).setCell (by simp) _⟩
          · rw [HQ.out]; unfold parseV; rw [hml]
          · rw [HQ.out]
            refine OwnF.fields (B := w.heap.size + 1) (c := c0) ?_
            rw [hml]
            exact (hO2.far (p := ⟨w.heap.size, 0, none⟩) (by simp) _).far (p := ⟨w.heap.size, 1, none⟩) (by simp) _
        · have he : (S a).toList.isEmpty = false := by rw [S_isEmpty]; cases a with | nil => exact absurd rfl h0 | cons c t => rfl
          by_cases ht : (takeF raw a).2 = 0
          · have HQ : Hid (parseM s.data.toList = parseR ((p + 1 : Nat) : Int) (takeF raw a).1 b) := by
              unfold Hid; rw [HR.out, hab, parse_go ha h0 ht]; simp
            have hbd := takeF_bd (raw := raw) (a := a) (m := b.length) hr (fun f hf => by have := HB.out f hf; omega) (by omega)
            have HB2 : Hid (∀ f ∈ raw, f.2.length ≤ 5000) := fun f hf => by have := HB.out f hf; omega
            have HT : Hid _ := ht
            have HN : Hid _ := hbd
            have HA : Hid (a ≠ []) := h0
            have hbz : (S b).size = b.length := size_S b
            have HZ : Hid _ := hbz
            clear hab h0 ht hbd hbz
            go_wp2_with fail
            refine (cutS_is x _ [13, 10] a b true rfl HC.out _ (by omega) hmr).mono ?_
            rintro e u ⟨rfl, q, rfl⟩
            go_wp2_with fail
            refine (take_ok (w.heap.size + 1) (.slice a0 raw.length c0) raw a (wr.drewN q) hO hz (maxLenCell_below hmr (bdrew (Below.refl _ _) q)) HA.out (by omega) HB2.out hr HT.out).mono ?_
            rintro e u ⟨v', rfl, hO2, hb2⟩
            have hB2 := (bdrew hB q).trans hb2
            go_wp2
            go_roundw
            case rel => first | exact ⟨S b, (takeF raw a).1, p + 1, rfl, by go_num, hO2, HN.out.1, by have := HZ.out; omega, by have := HZ.out; omega, by unfold Hid; rw [size_S]; exact HN.out.2, by unfold Hid; rw [list_S]; exact HQ.out, hB2⟩ | ((repeat apply Exists.intro); exact ⟨⟨S b, (takeF raw a).1, p + 1, rfl, by go_num, hO2, HN.out.1, by have := HZ.out; omega, by have := HZ.out; omega, by unfold Hid; rw [size_S]; exact HN.out.2, by unfold Hid; rw [list_S]; exact HQ.out, hB2⟩, rfl⟩) | (refine ⟨trivial, ?_⟩; (repeat apply Exists.intro); exact ⟨⟨S b, (takeF raw a).1, p + 1, rfl, by go_num, hO2, HN.out.1, by have := HZ.out; omega, by have := HZ.out; omega, by unfold Hid; rw [size_S]; exact HN.out.2, by unfold Hid; rw [list_S]; exact HQ.out, hB2⟩, rfl⟩)
            case measure => simp only [strLenP]; have := HZ.out; omega
          · obtain ⟨n, hn⟩ : ∃ n, (takeF raw a).2 = n := ⟨_, rfl⟩
            have hne : n ≠ 0 := by rw [← hn]; exact ht
            have hn0 : (n == 0) = false := by simpa using hne
            have HQ : Hid (parseM s.data.toList = ([], [], (p : Int), n)) := by
              unfold Hid; rw [HR.out, hab, parse_bad ha h0 ht, hn]
            have HN : Hid _ := hn
            have HE : Hid (n ≠ 0) := hne
            have HA : Hid (a ≠ []) := h0
            clear hab h0 ht hn hne
            go_wp2_with fail
            refine (cutS_is x _ [13, 10] a b true rfl HC.out _ (by omega) hmr).mono ?_
            rintro e u ⟨rfl, q, rfl⟩
            go_wp2_with fail
            refine (take_bad (w.heap.size + 1) (.slice a0 raw.length c0) raw a (wr.drewN q) hO (maxLenCell_below hmr (bdrew (Below.refl _ _) q)) HA.out (by omega) hr n HN.out HE.out).mono ?_
            rintro e u ⟨rfl, hb2⟩
            have hB2 := (bdrew hB q).trans (hb2.mono (by simpa using hz))
            have r0 : u.cell? ⟨w.heap.size, 0, none⟩ = some (.slice none 0 0) := (hB2.cell (by simp)).trans (by simp)
            have r1 : u.cell? ⟨w.heap.size, 1, none⟩ = some (.string ⟨#[]⟩) := (hB2.cell (by simp)).trans (by simp)
            have r2 : u.frozen? ⟨w.heap.size, 0, none⟩ = false := (hB2.frozen (by simp)).trans (by simp)
            have r3 : u.frozen? ⟨w.heap.size, 1, none⟩ = false := (hB2.frozen (by simp)).trans (by simp)
            go_wp2
            exact bodyPost_ret (v := .tuple #[.agg #[.slice none 0 0, .string ⟨#[]⟩], .int .i64 p, .int .i64 n]) (by simp [results, Tryd.results27, go_sem, r0, r1]) rfl ⟨none, 0, by rw [parseV_bad HQ.out], by rw [HQ.out]; exact fields_nil _ _, by first | exact hB0.trans (hB2.mono (by omega)) | exact ((hB0.trans (hB2.mono (by omega))).setCell (by simp) _).setCell (by simp) _⟩
end Go.Proofs.YtgbhaphgojlhaaaDoor
