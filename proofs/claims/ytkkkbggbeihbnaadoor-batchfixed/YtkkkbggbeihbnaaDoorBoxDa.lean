/-
  What an entry does to a store: memory; a mail is copied: the walk of copyTo.
-/
import Derived.Test.YtkkkbggbeihbnaaDoorBoxCr
import Derived.Test.YtkkkbggbeihbnaaDoorBoxDl
namespace Go.Proofs.YtkkkbggbeihbnaaDoor
open Go.RowKit Go.Proofs

theorem sto_mails {B p g c i : Nat} {w w5 : World} {vs v v' : Value} {vm : List Value} {s : Stt} {b : Bx} {ms : List Mail}
    (hp : w.heap[p]? = some (.cells #[.slice (some ⟨g, 0, none⟩) s.boxes.length c, vs] 67)) (hO : OwnS B w (.slice (some ⟨g, 0, none⟩) s.boxes.length c) vs vm s) (hn : ¬ inS (.slice (some ⟨g, 0, none⟩) s.boxes.length c) vs vm p) (hBp : B ≤ p) (hb : s.boxes[i]? = some b) (hv : vm[i]? = some v)
    (hgrow : w.grownBy w5 v.ownBlock) (hown : w5.ownsRow B 73 3 v' ms.length (ms.map mailC).flatten) (hat : v'.ownBlock = v.ownBlock) :
    Sto B p (w5.setCell ⟨g, i * 3 + 2, none⟩ v') ⟨s.boxes.set i ⟨b.name, b.next, ms⟩, s.spool⟩ ∧ Below B w (w5.setCell ⟨g, i * 3 + 2, none⟩ v') := by
  have hi0 : i < s.boxes.length := (List.getElem?_eq_some_iff.1 hb).1
  have hd : vm.getD i (.slice none 0 0) = v := by rw [List.getD_eq_getElem?_getD, hv]; rfl
  have hgB : B ≤ g := (World.ownsRow.lt hO.boxes g rfl).1
  have hpl : p < w.heap.size := (Array.getElem?_eq_some_iff.1 hp).1
  have hpg : p ≠ g := fun e => hn (.inl (by rw [e]; rfl))
  have hpv : some p ≠ v.ownBlock := fun e => hn (.inr (.inr ⟨v, List.mem_of_getElem? hv, e.symm⟩))
  have h1 := hO.setMails (v' := v') (ms := ms) hb (w' := w5) (by rw [hd]; exact fun k hk hne => hgrow.block k hk hne) hown (by rw [hd]; exact .inl hat)
  refine ⟨⟨_, vs, vm.set i v', ?_, by simpa using h1, ?_, hBp⟩, ?_⟩
  · exact (set_other hpg).trans ((hgrow.block p hpl hpv).trans hp)
  · rintro (e | e | ⟨u, hu, e⟩)
    · exact hn (.inl e)
    · exact hn (.inr (.inl e))
    · rcases mem_set_or hu with rfl | hu
      · exact hpv (by rw [← hat, e])
      · exact hn (.inr (.inr ⟨u, hu, e⟩))
  · have h5 : Below B w w5 := ⟨hgrow.os, hgrow.tape, hgrow.output, hgrow.size, fun k hk => hgrow.block k (by omega) fun e => by have := (World.ownsRow.lt (hO.mails i b v hb hv) k e.symm).1; omega⟩
    exact h5.setCell hgB _
theorem map_set' {A C : Type} (f : A → C) (l : List A) (i : Nat) (x : A) : (l.set i x).map f = (l.map f).set i (f x) := by simp
/-- A mail's flags, changed in its row. -/
theorem sto_flag {B p g c gm cm i j : Nat} {w : World} {vs : Value} {vm : List Value} {s : Stt} {b : Bx} {m : Mail} {f : Int}
    (hp : w.heap[p]? = some (.cells #[.slice (some ⟨g, 0, none⟩) s.boxes.length c, vs] 67)) (hO : OwnS B w (.slice (some ⟨g, 0, none⟩) s.boxes.length c) vs vm s) (hn : ¬ inS (.slice (some ⟨g, 0, none⟩) s.boxes.length c) vs vm p) (hBp : B ≤ p) (hb : s.boxes[i]? = some b) (hv : vm[i]? = some (.slice (some ⟨gm, 0, none⟩) b.mails.length cm)) (hm : b.mails[j]? = some m) :
    Sto B p (w.setCell ⟨gm, j * 3 + 1, none⟩ (.int .i64 f)) ⟨s.boxes.set i ⟨b.name, b.next, b.mails.set j ⟨m.uid, f, m.text⟩⟩, s.spool⟩ ∧ Below B w (w.setCell ⟨gm, j * 3 + 1, none⟩ (.int .i64 f)) := by
  have hi0 : i < s.boxes.length := (List.getElem?_eq_some_iff.1 hb).1
  have hvm := List.mem_of_getElem? hv
  have hrow := hO.mails i b _ hb hv
  have hgB : B ≤ gm := (World.ownsRow.lt hrow gm rfl).1
  have far : ∀ k, k ≠ gm → (w.setCell ⟨gm, j * 3 + 1, none⟩ (.int .i64 f)).heap[k]? = w.heap[k]? := fun k h => set_other h
  have hxs : (bxCs (s.boxes.set i ⟨b.name, b.next, b.mails.set j ⟨m.uid, f, m.text⟩⟩) vm) = bxCs s.boxes vm := by
    have h1 := bxCs_set s.boxes vm i ⟨b.name, b.next, b.mails.set j ⟨m.uid, f, m.text⟩⟩ (.slice (some ⟨gm, 0, none⟩) b.mails.length cm) hO.len
    have e1 : vm.set i (.slice (some ⟨gm, 0, none⟩) b.mails.length cm) = vm := by
      obtain ⟨h, e⟩ := List.getElem?_eq_some_iff.1 hv
      rw [← e]; exact List.set_getElem_self h
    have h2 := bxCs_at s.boxes vm i b _ hb hv
    rw [e1] at h1
    rw [h1]
    obtain ⟨h, e⟩ := List.getElem?_eq_some_iff.1 h2
    have e3 : boxC ⟨b.name, b.next, b.mails.set j ⟨m.uid, f, m.text⟩⟩ (.slice (some ⟨gm, 0, none⟩) b.mails.length cm) = (bxCs s.boxes vm)[i] := by rw [e]; rfl
    rw [e3]
    exact List.set_getElem_self h
  refine ⟨⟨_, vs, vm, (far p fun e => hn (.inr (.inr ⟨_, hvm, by rw [e]; rfl⟩))).trans hp, ⟨?_, ?_, by simpa using hO.len, ?_, hO.bs, hO.mb, hO.ms, hO.mm⟩, hn, hBp⟩, (Below.refl _ _).setCell hgB _⟩
  · show World.ownsRow _ B _ 3 _ (s.boxes.set i _).length (bxCs (s.boxes.set i _) vm).flatten
    rw [hxs, List.length_set]
    exact owns_keep hO.boxes fun k hk => far k fun e => hO.mb _ hvm gm rfl (by rw [← e]; exact hk)
  · exact owns_keep hO.spool fun k hk => far k fun e => hO.ms _ hvm gm rfl (by rw [← e]; exact hk)
  · intro q c' v hc hv'
    by_cases hq : i = q
    · subst hq
      rw [List.getElem?_set_self hi0] at hc
      rw [hv] at hv'
      cases hc
      cases hv'
      have h1 := owns_set hrow (j * 3 + 1) (.int .i64 f)
      have hmj : (b.mails.map mailC)[j]? = some (mailC m) := by rw [List.getElem?_map, hm]; rfl
      rw [flatten_put _ (map_flat_len (k := 3) mailC (fun _ => rfl) _) hmj (by omega)] at h1
      show World.ownsRow _ B _ 3 _ (b.mails.set j _).length ((b.mails.set j _).map mailC).flatten
      rw [map_set', List.length_set]
      exact h1
    · rw [List.getElem?_set_ne hq] at hc
      exact owns_keep (hO.mails q c' v hc hv') fun k hk => far k fun e => hO.mm i q _ v hq hv hv' gm rfl (by rw [← e]; exact hk)
/-- A store's parts. -/
theorem Sto.open {B p : Nat} {w : World} {s : Stt} (h : Sto B p w s) : ∃ ab cb vs vm, w.heap[p]? = some (.cells #[.slice ab s.boxes.length cb, vs] 67) ∧ OwnS B w (.slice ab s.boxes.length cb) vs vm s ∧ ¬ inS (.slice ab s.boxes.length cb) vs vm p ∧ B ≤ p := by
  obtain ⟨vb, vs, vm, hp, hO, hn, hBp⟩ := h
  obtain ⟨ab, cb, rfl⟩ := own_slice hO.boxes
  exact ⟨ab, cb, vs, vm, hp, hO, hn, hBp⟩
theorem own_some {B : Nat} {w : World} {ab : Option Addr} {cb : Nat} {vs : Value} {vm : List Value} {s : Stt} {i : Nat} {b : Bx} (hO : OwnS B w (.slice ab s.boxes.length cb) vs vm s) (hb : s.boxes[i]? = some b) : ∃ g, ab = some ⟨g, 0, none⟩ := by
  obtain ⟨g, c, v, e, _⟩ := hO.box hb
  simp only [Value.slice.injEq] at e
  exact ⟨g, e.1⟩
theorem DoP.int {B p : Nat} {w w' : World} {r : Except Int Stt} {e : Ending} (h : DoP B p w r e w') : ∃ z, e = .returned (.int .i64 z) := by
  obtain ⟨_, h⟩ := h
  cases r with
  | error z => exact ⟨z, h⟩
  | ok s => exact ⟨0, h.1⟩
/-- To whom a mail is copied. -/
def copyM (s : Stt) (nm : List UInt8) (f : Int) (t : List UInt8) : Except Int Stt := match s.boxes.findIdx? (isName nm) with
  | none => .error 7
  | some k => addM s k f t
set_option maxHeartbeats 1000000 in
set_option maxRecDepth 100000 in
theorem copyTo_any (B p : Nat) (s : Stt) (nm : List UInt8) (z f : Int) (t : List UInt8) (w : World) (h : Sto B p w s) (hM : May s) (ht : t.length ≤ 2000) :
    Calls Tryd.prog 51 #[.pointer (some ⟨p, 0, none⟩), .string (S nm), .agg #[.int .i64 z, .int .i64 f, .string (S t)]] w (DoP B p w (copyM s nm f t)) := by
  obtain ⟨W1, hW1⟩ : ∃ W1, W1 = w.alloc (.cells #[.int .i64 z, .int .i64 f, .string (S t)] 73) := ⟨_, rfl⟩
  have HWE := hid hW1
  have hb1 : Below w.heap.size w W1 := by rw [hW1]; exact (Below.refl _ _).alloc (Nat.le_refl _) _
  have hX : W1.heap[w.heap.size]? = some (.cells #[.int .i64 z, .int .i64 f, .string (S t)] 73) := by rw [hW1]; exact heap_alloc_new w _
  obtain ⟨x0, x1, x2⟩ := box3' hX
  have hpw : p < w.heap.size := by obtain ⟨_, _, _, hp, _⟩ := h; exact (Array.getElem?_eq_some_iff.1 hp).1
  obtain ⟨ab, cb, vs, vm, hp, hO, hn, hBp⟩ := (h.next hb1).open
  have HB1 := hid (show Below B w W1 from hb1.mono (by omega))
  obtain ⟨p0, p1, q0, q1⟩ := box2f hp
  have hSt := hO.stt (Q := fun _ => True) hM (fun _ _ => trivial)
  have HIX := hid (indexOfBox_any s.boxes nm ab cb W1 _ hSt.1)
  obtain ⟨r, hr⟩ : ∃ r, r = copyM s nm f t := ⟨_, rfl⟩
  rw [← hr]
  have HP := hid hp
  have HO := hid hO
  have HN := hid hn
  have HM := hid hM
  have hs1 : B ≤ W1.heap.size := by have := hb1.size; omega
  clear h hW1 hb1 hX hSt hp hO hn hM
  cases hf : s.boxes.findIdx? (isName nm) with
  | none =>
    have HR := hid (show r = .error 7 by rw [hr]; unfold copyM; rw [hf])
    rw [idxZ_none hf] at HIX
    clear hr hf
    go_enter Tryd.func51, Tryd.ntmps51
    go_upto_region 1 with fail
    rw [← HWE.out]
    go_wp2_with fail
    refine HIX.out.mono ?_
    rintro e w2 ⟨rfl, hb⟩
    simp only
    have HE := hid (show DoP B p w r (.returned (.int .i64 7)) w2 by rw [HR.out]; exact ⟨HB1.out.trans (hb.mono hs1), rfl⟩)
    clear hb
    go_wp2
    go_ret
    exact HE.out
  | some k =>
    have HR := hid (show r = addM s k f t by rw [hr]; unfold copyM; rw [hf])
    rw [idxZ_some hf] at HIX
    obtain ⟨b, hb, _⟩ := find_at hf
    obtain ⟨g, rfl⟩ := own_some HO.out hb
    have hk : k < s.boxes.length := (List.getElem?_eq_some_iff.1 hb).1
    have k1 : (k : Int) < (s.boxes.length : Int) := by omega
    have k0 : (0 : Int) ≤ (k : Int) := by omega
    have HA := hid (fun u (hu : Below W1.heap.size W1 u) => add_any B p g cb k vs vm s b f t u (low_obj hu HP.out) (HO.out.next hu) HN.out hBp hb HM.out ht)
    clear hr hf hb
    go_enter Tryd.func51, Tryd.ntmps51
    go_upto_region 1 with fail
    rw [← HWE.out]
    go_wp2_with fail
    refine HIX.out.mono ?_
    rintro e w2 ⟨rfl, hb⟩
    simp only
    have y0 := wcell_next p0 hb
    have z1 := wcell_next x1 hb
    have z2 := wcell_next x2 hb
    have HA2 := hid (HA.out w2.drew hb.drew)
    have HB2 := hid (show Below B w w2.drew from (HB1.out.trans (hb.mono hs1)).drew)
    clear hb
    go_wp2
    go_region_law
      (first
        | (go_simp
           go_at_call 47
           refine HA2.out.mono ?_
           intro e w3 hd
           obtain ⟨zz, rfl⟩ := hd.int
           have HD := hid (DoP.trans HB2.out hd)
           clear hd)
        | fail)
    all_goals
      go_wp2
      go_ret
      rw [HR.out]
      exact HD.out
end Go.Proofs.YtkkkbggbeihbnaaDoor
