/-
  What a session does with a command: the walk.
-/
import Derived.Test.YtkdmccgfehmoaaaLmGoal
import Derived.Test.YtkdmccgfehmoaaaLmWrd
namespace Go.Proofs.Ytkdmccgfehmoaaa
open Go.RowKit Go.Proofs

theorem behind_len {wd line r : List UInt8} (h : behindM wd line = some r) : r.length ≤ line.length := by
  unfold behindM at h
  split at h
  · cases h; simp
  · cases h
set_option maxHeartbeats 2000000 in
set_option maxRecDepth 100000 in
theorem obey_any (n b B : Nat) (line : List UInt8) (known : List (List UInt8)) (kv : Value) (s : Ses) (lv : Value) (w : World) (h : SesW w b B s lv) (hn : n ≤ b) (hB : n ≤ B) (hl : line.length ≤ 140737488355328) (hk : TxtsM (· < n) w kv known) (h5 : s.to.length ≤ 1000) (hBw : B ≤ w.heap.size) :
    Calls Try.prog 19 #[.pointer (some ⟨b, 0, none⟩), .string (S line), kv] w (ObP n b B w (cmdM s known line) lv) := by
  have HZ := hid (size_S line)
  by_cases hL : 300 < line.length
  · have h3 : (300 : Int) < ((S line).size : Int) := by rw [HZ.out]; omega
    have HE := hid (show ObP n b B w (cmdM s known line) lv (.returned (.int .i64 500)) w by unfold cmdM; rw [if_pos hL]; exact ⟨rfl, h, Below.refl _ _⟩)
    clear h hk
    go_enter Try.func19, Try.ntmps19
    go_wp2
    go_ret
    exact HE.out
  have h3 : ¬ (300 : Int) < ((S line).size : Int) := by rw [HZ.out]; omega
  have HG := hid (show cmdM s known line = cmd1 s known line (behindM wLhlo line) by unfold cmdM; rw [if_neg hL])
  have hlt : b < w.heap.size := by obtain ⟨v, h1, _⟩ := h; exact SB.lt h1
  have HNW := hid (show n ≤ w.heap.size by omega)
  have HH := hid h
  have HK := hid hk
  have HB1 := hid (fun u => behind_any wLhlo line u (by decide) (by decide))
  have HB2 := hid (fun u => behind_any wMail line u (by decide) (by decide))
  have HB3 := hid (fun u => behind_any wRcpt line u (by decide) (by decide))
  obtain ⟨o1, ho1⟩ : ∃ o1, o1 = behindM wLhlo line := ⟨_, rfl⟩
  have hl1 : ∀ r, o1 = some r → r.length ≤ 300 := fun r hr => by rw [ho1] at hr; have := behind_len hr; omega
  rw [← ho1] at HB1 HG
  clear h hk hlt ho1
  go_enter Try.func19, Try.ntmps19
  go_wp2_with fail
  refine (HB1.out _).mono ?_
  intro e w1 hp1
  cases o1 with
  | some r =>
    obtain ⟨rfl, hb⟩ := hp1
    have HX := hid (greet_any n b B r s lv w1 (HH.out.next hb) hn (by have := hl1 r rfl; omega))
    have HB := hid (hb.mono HNW.out)
    clear hb hl1
    go_wp2_with fail
    refine HX.out.mono ?_
    rintro e w2 ⟨rfl, hw, hb2⟩
    have HE := hid (show ObP n b B w (cmdM s known line) lv (.returned (.int .i64 (greetM s r).2)) w2 by rw [HG.out]; exact ⟨rfl, hw, HB.out.trans hb2⟩)
    clear hw hb2
    go_wp2
    go_ret
    exact HE.out
  | none =>
    obtain ⟨⟨t1, rfl⟩, hb⟩ := hp1
    have HB := hid (hb.mono HNW.out)
    have HW1 := hid (HH.out.next hb)
    have HN1 := hid (Nat.le_trans HNW.out hb.size)
    have HBW1 := hid (Nat.le_trans hBw hb.size)
    clear hb hl1
    have HG2 := hid (show cmdM s known line = cmd2 s known line (behindM wMail line) from HG.out)
    obtain ⟨o2, ho2⟩ : ∃ o2, o2 = behindM wMail line := ⟨_, rfl⟩
    have hl2 : ∀ r, o2 = some r → r.length ≤ 300 := fun r hr => by rw [ho2] at hr; have := behind_len hr; omega
    rw [← ho2] at HB2 HG2
    clear ho2
    go_wp2_with fail
    refine (HB2.out _).mono ?_
    intro e w2 hp2
    cases o2 with
    | some r =>
      obtain ⟨rfl, hb⟩ := hp2
      have HX := hid (setSender_any n b B r s lv w2 (HW1.out.next hb) hn (by have := hl2 r rfl; omega))
      have HBB := hid (HB.out.trans (hb.mono HN1.out))
      clear hb hl2
      go_wp2_with fail
      refine HX.out.mono ?_
      rintro e w3 ⟨rfl, hw, hb2⟩
      have HE := hid (show ObP n b B w (cmdM s known line) lv (.returned (.int .i64 (mailM s r).2)) w3 by rw [HG2.out]; exact ⟨rfl, hw, HBB.out.trans hb2⟩)
      clear hw hb2
      go_wp2
      go_ret
      exact HE.out
    | none =>
      obtain ⟨⟨t2, rfl⟩, hb⟩ := hp2
      have HBB := hid (HB.out.trans (hb.mono HN1.out))
      have HW2 := hid (HW1.out.next hb)
      have HN2 := hid (Nat.le_trans HN1.out hb.size)
      have HBW2 := hid (Nat.le_trans HBW1.out hb.size)
      clear hb hl2
      have HG3 := hid (show cmdM s known line = cmd3 s known line (behindM wRcpt line) from HG2.out)
      obtain ⟨o3, ho3⟩ : ∃ o3, o3 = behindM wRcpt line := ⟨_, rfl⟩
      have hl3 : ∀ r, o3 = some r → r.length ≤ 300 := fun r hr => by rw [ho3] at hr; have := behind_len hr; omega
      rw [← ho3] at HB3 HG3
      clear ho3
      go_wp2_with fail
      refine (HB3.out _).mono ?_
      intro e w3 hp3
      cases o3 with
      | some r =>
        obtain ⟨rfl, hb⟩ := hp3
        have HBC := hid (HBB.out.trans (hb.mono HN2.out))
        have HX := hid (addGoal_any n b B r known kv s lv w3 (HW2.out.next hb) hn hB (by have := hl3 r rfl; omega) (HK.out.nextB HBC.out) h5 (Nat.le_trans HBW2.out hb.size))
        clear hb hl3
        go_wp2_with fail
        refine HX.out.mono ?_
        rintro e w4 ⟨rfl, hw, hb2⟩
        have HE := hid (show ObP n b B w (cmdM s known line) lv (.returned (.int .i64 (rcptM s known r).2)) w4 by rw [HG3.out]; exact ⟨rfl, hw, HBC.out.trans hb2⟩)
        clear hw hb2
        go_wp2
        go_ret
        exact HE.out
      | none =>
        obtain ⟨⟨t3, rfl⟩, hb⟩ := hp3
        have HBC := hid (HBB.out.trans (hb.mono HN2.out))
        have HX := hid (obeyWord_any n b B line s lv w3 (HW2.out.next hb) hn (by omega))
        clear hb hl3
        go_wp2_with fail
        refine HX.out.mono ?_
        rintro e w4 ⟨rfl, hw, hb2⟩
        have HE := hid (show ObP n b B w (cmdM s known line) lv (.returned (.int .i64 (wordM s line).2)) w4 by rw [HG3.out]; exact ⟨rfl, hw, HBC.out.trans hb2⟩)
        clear hw hb2
        go_wp2
        go_ret
        exact HE.out
end Go.Proofs.Ytkdmccgfehmoaaa
