/-
  code.Check on ops of which each is fine.
-/
import Derived.Test.YtlcnfpeabnnjoaaGreatDoorCodCkl
namespace Go.Proofs.YtlcnfpeabnnjoaaGreatDoor
open Go.RowKit Go.Proofs

/-- An If that asks for nothing but one test. -/
def ifO (t : Tst) : Cmd := ⟨2, [], bareT t, [], []⟩
def TFine (t : Tst) : Prop := jumpB t.kind = false ∧ ruleM 2 [reqC, ifO t] = 0
def CFine (c : Cmd) : Prop := (c.kind == 2) = false ∧ ruleM 2 [reqC, bareC c] = 0 ∧ (c.kind = 6 → (c.texts.getD 0 []).length ≤ maxLen)
set_option maxRecDepth 100000 in
theorem op_fine (L : List Opr) (w : World) (hw : Tabs w) (hG : AllGood TFine CFine 0 L.length L) : OpFine L w := by
  intro i x cs hx hP w' hb
  obtain ⟨ts, ds, rfl, hT, hD⟩ := hP
  have hi := hG i x hx
  rw [Nat.zero_add] at hi
  rcases hi with ⟨k, to', hk, rfl, h1, h2⟩ | rfl | ⟨t, ht, rfl⟩ | ⟨c, hc, rfl⟩
  · obtain ⟨an, cn, ak, ck, at', ct, m, _, rfl, _⟩ := tst_form hT
    obtain ⟨ax, cx, bn, dn, bk, dk, bt, dt, aa, ca, ae, ce, m', _, rfl, _⟩ := cmd_form hD
    rcases hk with rfl | rfl | rfl
    · exact chk_j3 _ _ _ _ _ _ _ _ _ _ _ _ _ _ _ _ _ _ _ _ _ _ (Int.ofNat_lt.2 h1) (Int.ofNat_le.2 h2)
    · exact chk_j4 _ _ _ _ _ _ _ _ _ _ _ _ _ _ _ _ _ _ _ _ _ _ (Int.ofNat_lt.2 h1) (Int.ofNat_le.2 h2)
    · exact chk_j5 _ _ _ _ _ _ _ _ _ _ _ _ _ _ _ _ _ _ _ _ _ _ (Int.ofNat_lt.2 h1) (Int.ofNat_le.2 h2)
  · obtain ⟨an, cn, ak, ck, at', ct, m, _, rfl, _⟩ := tst_form hT
    obtain ⟨ax, cx, bn, dn, bk, dk, bt, dt, aa, ca, ae, ce, m', _, rfl, _⟩ := cmd_form hD
    exact chk_flip _ _ _ _ _ _ _ _ _ _ _ _ _ _ _ _ _ _ _ _ _
  · obtain ⟨hk, hr⟩ := ht
    have hT0 : TstM anyB 1 w (bareT t) ts := hT
    obtain ⟨an, cn, ak, ck, at', ct, m, _, rfl, _⟩ := tst_form hT0
    obtain ⟨ax, cx, bn, dn, bk, dk, bt, dt, aa, ca, ae, ce, m', _, rfl, _⟩ := cmd_form hD
    refine chk_ask t an ak at' cn ck ct ax bn bk bt aa ae cx dn dk dt ca ce hk _ _ w' fun w2 hb2 => ?_
    have hbl : Below w.heap.size w w2 := hb.trans (hb2.mono hb.size)
    refine allowed_ok 0 (ifO t) none an ak at' none none 0 cn ck ct 0 0 w2 (hw.next hbl) ?_ ⟨(fun h => by cases h), (fun x hx => by cases hx), fun x hx => by cases hx⟩ hr
    refine CmdM.next (w := w) ?_ hbl
    exact ⟨_, _, _, _, _, _, rfl, rowM_nil _ _ _ _ _ _, hT0, rowM_nil _ _ _ _ _ _, rowM_nil _ _ _ _ _ _⟩
  · obtain ⟨hk, hr, hs⟩ := hc
    have hD0 : CmdM anyB 2 w (bareC c) ds := hD
    obtain ⟨an, cn, ak, ck, at', ct, m, _, rfl, _⟩ := tst_form hT
    obtain ⟨ax, cx, bn, dn, bk, dk, bt, dt, aa, ca, ae, ce, m', _, rfl, _⟩ := cmd_form hD0
    refine chk_do c.kind ax c.texts.length cx an ak at' cn ck ct bn bk bt aa ae dn dk dt ca ce hk _ _ w' fun w2 hb2 => ?_
    have hbl : Below w.heap.size w w2 := hb.trans (hb2.mono hb.size)
    exact allowed_ok 0 (bareC c) ax bn bk bt aa ae cx dn dk dt ca ce w2 (hw.next hbl) (CmdM.next hD0 hbl) ⟨hs, (fun x hx => by cases hx), fun x hx => by cases hx⟩ hr
end Go.Proofs.YtlcnfpeabnnjoaaGreatDoor
