/-
  A mail is put into a box; a box is made; an entry goes out: the walks of the store's add, create and spool.
-/
import Derived.Test.YtkkkbggbeihbnaaDoorBoxSo
import Derived.Test.YtkkkbggbeihbnaaDoorBoxSz
import Derived.Deep.AppendLies
namespace Go.Proofs.YtkkkbggbeihbnaaDoor
open Go.RowKit Go.Proofs

/-- A store in memory of the call's own. -/
def Sto (B p : Nat) (w : World) (s : Stt) : Prop := ∃ vb vs vm, w.heap[p]? = some (.cells #[vb, vs] 67) ∧ OwnS B w vb vs vm s ∧ ¬ inS vb vs vm p ∧ B ≤ p
/-- What an entry does to a store: it is refused, or the state is a new one. -/
def DoP (B p : Nat) (w : World) (r : Except Int Stt) (e : Ending) (w' : World) : Prop := Below B w w' ∧ match r with
  | .error z => e = .returned (.int .i64 z)
  | .ok s' => e = .returned (.int .i64 0) ∧ Sto B p w' s'
theorem DoP.trans {B p : Nat} {w u w' : World} {r : Except Int Stt} {e : Ending} (hb : Below B w u) (h : DoP B p u r e w') : DoP B p w r e w' := ⟨hb.trans h.1, h.2⟩
theorem tri_new (w : World) (a b c : Value) (t : TypeId) : ∀ j u, [a, b, c][j]? = some u → (w.alloc (.cells #[a, b, c] t)).cell? ((⟨w.heap.size, 0, none⟩ : Addr).add j) = some u := by
  intro j u hj
  rw [Addr.add_lit]
  have := heap_alloc_new w (.cells #[a, b, c] t)
  simp only [World.cell?, this, Nat.zero_add]
  simpa using hj
theorem Sto.next {B p : Nat} {w w' : World} {s : Stt} (h : Sto B p w s) (hb : Below w.heap.size w w') : Sto B p w' s := by
  obtain ⟨vb, vs, vm, h1, h2, h3, h4⟩ := h
  exact ⟨vb, vs, vm, low_obj hb h1, h2.next hb, h3, h4⟩
theorem mails_form {B : Nat} {w : World} {vb vs : Value} {vm : List Value} {s : Stt} {i : Nat} {b : Bx} {v : Value} (h : OwnS B w vb vs vm s) (hb : s.boxes[i]? = some b) (hv : vm[i]? = some v) : ∃ a c, v = .slice a b.mails.length c := own_slice (h.mails i b v hb hv)
/-- The store behind a mail that was put into a box. -/
theorem add_end {B p g c gm cm i : Nat} {w w1 w5 : World} {vs v : Value} {vm : List Value} {s : Stt} {b : Bx} {f : Int} {t : List UInt8}
    (hp : w.heap[p]? = some (.cells #[.slice (some ⟨g, 0, none⟩) s.boxes.length c, vs] 67)) (hO : OwnS B w (.slice (some ⟨g, 0, none⟩) s.boxes.length c) vs vm s) (hn : ¬ inS (.slice (some ⟨g, 0, none⟩) s.boxes.length c) vs vm p) (hBp : B ≤ p) (hb : s.boxes[i]? = some b) (hv : vm[i]? = some v)
    (hw1 : Below w.heap.size w w1) (hgrow : w1.grownBy w5 v.ownBlock) (hown : w5.ownsRow B 73 3 (.slice (some ⟨gm, 0, none⟩) (b.mails.length + 1) cm) (b.mails.length + 1) ((b.mails.map mailC).flatten ++ mailC ⟨b.next, f, t⟩)) (hat : v.ownBlock = some gm ∨ gm = w1.heap.size ∨ w.heap.size ≤ gm) :
    Sto B p ((w5.setCell ⟨g, i * 3 + 2, none⟩ (.slice (some ⟨gm, 0, none⟩) (b.mails.length + 1) cm)).setCell ⟨g, i * 3 + 1, none⟩ (.int .i64 (b.next + 1))) ⟨s.boxes.set i ⟨b.name, b.next + 1, b.mails ++ [⟨b.next, f, t⟩]⟩, s.spool⟩ ∧
    Below B w ((w5.setCell ⟨g, i * 3 + 2, none⟩ (.slice (some ⟨gm, 0, none⟩) (b.mails.length + 1) cm)).setCell ⟨g, i * 3 + 1, none⟩ (.int .i64 (b.next + 1))) := by
  have hi0 : i < s.boxes.length := (List.getElem?_eq_some_iff.1 hb).1
  have hi : i < vm.length := by rw [hO.len]; exact hi0
  have hd : vm.getD i (.slice none 0 0) = v := by rw [List.getD_eq_getElem?_getD, hv]; rfl
  have hgg : some g ≠ v.ownBlock := fun e => hO.mb v (List.mem_of_getElem? hv) g e.symm rfl
  have hgB : B ≤ g := (World.ownsRow.lt hO.boxes g rfl).1
  have hsz : w.heap.size ≤ w1.heap.size := hw1.size
  have hk5 : ∀ k, k < w.heap.size → some k ≠ v.ownBlock → w5.heap[k]? = w.heap[k]? := fun k hk hne => (hgrow.block k (by omega) hne).trans (hw1.block k hk)
  have hpl : p < w.heap.size := (Array.getElem?_eq_some_iff.1 hp).1
  have hpg : p ≠ g := fun e => hn (.inl (by rw [e]; rfl))
  have hpv : some p ≠ v.ownBlock := fun e => hn (.inr (.inr ⟨v, List.mem_of_getElem? hv, e.symm⟩))
  have h1 := hO.setMails (v' := .slice (some ⟨gm, 0, none⟩) (b.mails.length + 1) cm) (ms := b.mails ++ [⟨b.next, f, t⟩]) hb (w' := w5) (by rw [hd]; exact hk5) (by simpa using hown) (by
    rw [hd]
    rcases hat with e | e | e
    · exact .inl e.symm
    · exact .inr fun k hk => by have : gm = k := Option.some.inj hk; omega
    · exact .inr fun k hk => by have : gm = k := Option.some.inj hk; omega)
  have h2 := OwnS.setNext (i := i) (b := ⟨b.name, b.next, b.mails ++ [⟨b.next, f, t⟩]⟩) (n := b.next + 1) (s := ⟨s.boxes.set i ⟨b.name, b.next, b.mails ++ [⟨b.next, f, t⟩]⟩, s.spool⟩) (by simpa using h1) (List.getElem?_set_self hi0)
  refine ⟨⟨.slice (some ⟨g, 0, none⟩) s.boxes.length c, vs, vm.set i (.slice (some ⟨gm, 0, none⟩) (b.mails.length + 1) cm), ?_, by simpa [List.set_set] using h2, ?_, hBp⟩, ?_⟩
  · exact (set_other hpg).trans ((set_other hpg).trans ((hk5 p hpl hpv).trans hp))
  · rintro (e | e | ⟨u, hu, e⟩)
    · exact hn (.inl e)
    · exact hn (.inr (.inl e))
    · rcases mem_set_or hu with rfl | hu
      · have e' : gm = p := Option.some.inj e
        rcases hat with h | h | h
        · exact hpv (by rw [h, e'])
        · omega
        · omega
      · exact hn (.inr (.inr ⟨u, hu, e⟩))
  · have h5 : Below B w w5 := by
      refine ⟨hgrow.os.trans hw1.os, hgrow.tape.trans hw1.tape, hgrow.output.trans hw1.output, Nat.le_trans hsz hgrow.size, fun k hk => hk5 k ?_ ?_⟩
      · omega
      · intro e; have := (World.ownsRow.lt (hO.mails i b v hb hv) k e.symm).1; omega
    exact (h5.setCell hgB _).setCell hgB _
set_option maxHeartbeats 1000000 in
set_option maxRecDepth 100000 in
theorem add_any (B p g c i : Nat) (vs : Value) (vm : List Value) (s : Stt) (b : Bx) (f : Int) (t : List UInt8) (w : World) (hp : w.heap[p]? = some (.cells #[.slice (some ⟨g, 0, none⟩) s.boxes.length c, vs] 67)) (hO : OwnS B w (.slice (some ⟨g, 0, none⟩) s.boxes.length c) vs vm s) (hn : ¬ inS (.slice (some ⟨g, 0, none⟩) s.boxes.length c) vs vm p) (hBp : B ≤ p) (hb : s.boxes[i]? = some b) (hM : May s) (ht : t.length ≤ 2000) :
    Calls Tryd.prog 47 #[.pointer (some ⟨p, 0, none⟩), .pointer (some ⟨g, i * 3, none⟩), .int .i64 f, .string (S t)] w (DoP B p w (addM s i f t)) := by
  obtain ⟨g', c', v, e, hv, e0, e1, e2, f1, f2⟩ := hO.box hb
  simp only [Value.slice.injEq, Option.some.injEq, Addr.mk.injEq, and_true, true_and] at e
  obtain ⟨rfl, rfl⟩ := e
  obtain ⟨am, cm, rfl⟩ := mails_form hO hb hv
  obtain ⟨p0, p1, q0, q1⟩ := box2f hp
  have hbm := (hM.each b (List.mem_of_getElem? hb)).many
  have hBB : B ≤ w.heap.size := by have := (World.ownsRow.lt hO.boxes g rfl); omega
  obtain ⟨r, hr⟩ : ∃ r, r = addM s i f t := ⟨_, rfl⟩
  have HR := hid hr
  rw [← hr]
  have HRF := hid (show (30 ≤ b.mails.length ∨ 1048576 < b.next ∨ 6000 < sizeB s.boxes + t.length) → r = .error 5 from fun h => by rw [hr]; unfold addM; rw [hb]; simp only [if_pos h])
  clear hr
  by_cases h30 : 30 ≤ b.mails.length
  · have hi : (30 : Int) ≤ (b.mails.length : Int) := by omega
    have HE := hid (show DoP B p w r (.returned (.int .i64 5)) w by rw [HRF.out (.inl h30)]; exact ⟨Below.refl _ _, rfl⟩)
    clear HR HRF hb hv hM hO hp hn
    go_enter Tryd.func47, Tryd.ntmps47
    go_wp2
    go_ret
    exact HE.out
  · have hi : ¬ (30 : Int) ≤ (b.mails.length : Int) := by omega
    by_cases hmx : 1048576 < b.next
    · have HE := hid (show DoP B p w r (.returned (.int .i64 5)) w by rw [HRF.out (.inr (.inl hmx))]; exact ⟨Below.refl _ _, rfl⟩)
      clear HR HRF hb hv hM hO hp hn
      go_enter Tryd.func47, Tryd.ntmps47
      go_wp2
      go_ret
      exact HE.out
    · have hSt := hO.stt (Q := fun _ => True) hM (fun _ _ => trivial)
      have HSZ := hid (sizeOf_any s.boxes (some ⟨g, 0, none⟩) c w _ hSt.1 hM.size)
      have hz := hM.size
      by_cases hq : 6000 < sizeB s.boxes + t.length
      · have hqi : (6000 : Int) < ((sizeB s.boxes : Nat) : Int) + ((S t).size : Int) := by rw [size_S]; omega
        have hqj : ((sizeB s.boxes : Nat) : Int) + ((S t).size : Int) ≤ 10000 := by rw [size_S]; omega
        have HE := hid (show ∀ u, Below w.heap.size w u → DoP B p w r (.returned (.int .i64 5)) u from fun u hu => by rw [HRF.out (.inr (.inr hq))]; exact ⟨hu.mono hBB, rfl⟩)
        clear HR HRF hb hv hM hO hp hn hSt
        generalize ((sizeB s.boxes : Nat) : Int) = z at *
        go_enter Tryd.func47, Tryd.ntmps47
        go_wp2_with fail
        refine HSZ.out.mono ?_
        rintro e w1 ⟨rfl, hb1⟩
        have HE1 := hid (HE.out w1 hb1)
        clear hb1
        go_wp2
        go_ret
        exact HE1.out
      · have hqi : ¬ (6000 : Int) < ((sizeB s.boxes : Nat) : Int) + ((S t).size : Int) := by rw [size_S]; omega
        have hqj : (0 : Int) ≤ ((sizeB s.boxes : Nat) : Int) + ((S t).size : Int) := by rw [size_S]; omega
        have HOK := hid (show r = .ok ⟨s.boxes.set i ⟨b.name, b.next + 1, b.mails ++ [⟨b.next, f, t⟩]⟩, s.spool⟩ by rw [HR.out]; unfold addM; rw [hb]; simp only; rw [if_neg (by omega)])
        have hnx := (hM.each b (List.mem_of_getElem? hb)).next
        obtain ⟨i0, hi', hz0, hz1, hz2⟩ := info_parts infoMl
        have HB0 := hid hb
        have HV0 := hid hv
        have HO0 := hid hO
        have HP0 := hid hp
        have HN0 := hid hn
        clear HR HRF hb hv hM hO hp hn hSt
        generalize hzz : ((sizeB s.boxes : Nat) : Int) = z at *
        clear hzz
        go_enter Tryd.func47, Tryd.ntmps47
        go_wp2_with fail
        refine HSZ.out.mono ?_
        rintro e w1 ⟨rfl, hb1⟩
        have y0 := wcell_next e0 hb1
        have y1 := wcell_next e1 hb1
        have y2 := wcell_next e2 hb1
        have yf1 := low_frozen f1 e1 hb1
        have yf2 := low_frozen f2 e2 hb1
        have HW1 := hid hb1
        have hOm := own_low (HO0.out.mails i b _ HB0.out HV0.out) hb1
        have HOM := hid hOm
        have hs1 := hb1.size
        have hgl : g < w1.heap.size := World.block_lt_of_cell? _ _ y1
        have hgn : some g ≠ (Value.slice am b.mails.length cm).ownBlock := fun e => HO0.out.mb _ (List.mem_of_getElem? HV0.out) g e.symm rfl
        clear hb1 hOm
        go_wp2
        go_region_law
          (first
            | (refine step_append_lies _ (by rfl) _ _ _ (by rfl) B 73 i0 _ 3 32 Tryd.underlying63 hi' hz0 hz1 hz2 rfl (by omega) (.slice am b.mails.length cm) b.mails.length ((b.mails.map mailC).flatten) (by rfl) (by first | exact World.ownsRow.alloc (show World.ownsRow w1.drew _ _ _ _ _ _ from HOM.out) _ | exact (World.ownsRow.alloc HOM.out _).drew)
                 ⟨w1.heap.size, 0, none⟩ 1 1 [.int .i64 b.next, .int .i64 f, .string (S t)] (by rfl) (by rfl) (by first | exact tri_new w1.drew _ _ _ _ | exact tri_new w1 _ _ _ _) (by simp [Value.oneCell']) (by omega) (by unfold maxLen; omega) (by omega) (by simp; omega) _ rfl ?_
               intro gm cap w5 hown5 hgrow hat hlt5
               have x1 := hgrow.cell (a := ⟨g, i * 3 + 1, none⟩) (wcell_more (w := w1.drew) y1 _) hgn
               have x2 := hgrow.cell (a := ⟨g, i * 3 + 2, none⟩) (wcell_more (w := w1.drew) y2 _) hgn
               have xf1 : w5.frozen? ⟨g, i * 3 + 1, none⟩ = false := (World.frozen?_of_block (hgrow.block g (by simp; omega) hgn)).trans (low_frozen (w := w1.drew) yf1 y1 ((Below.refl _ _).alloc (Nat.le_refl _) _))
               have xf2 : w5.frozen? ⟨g, i * 3 + 2, none⟩ = false := (World.frozen?_of_block (hgrow.block g (by simp; omega) hgn)).trans (low_frozen (w := w1.drew) yf2 y2 ((Below.refl _ _).alloc (Nat.le_refl _) _))
               have HWA := hid (show Below w.heap.size w (w1.drew.alloc (.cells #[.int .i64 b.next, .int .i64 f, .string (S t)] 73)) from HW1.out.drew.alloc hs1 _)
               have HEN := hid (add_end HP0.out HO0.out HN0.out hBp HB0.out HV0.out HWA.out hgrow hown5 (hat.imp id Or.inl))
               clear hown5 hgrow hat)
            | fail)
        all_goals
          have HF := hid (show DoP B p w r (.returned (.int .i64 0)) ((w5.setCell ⟨g, i * 3 + 2, none⟩ (.slice (some ⟨gm, 0, none⟩) (b.mails.length + 1) cap)).setCell ⟨g, i * 3 + 1, none⟩ (.int .i64 (b.next + 1))) by rw [HOK.out]; exact ⟨HEN.out.2, rfl, HEN.out.1⟩)
          have n1 : b.next ≤ 1048576 := by omega
          have n2 : 1 ≤ b.next := hnx.1
          go_wp2
          go_ret
          exact HF.out
theorem idx_ge {A : Type} {q : A → Bool} {l : List A} : decide (0 ≤ idxZ q l) = (l.findIdx? q).isSome := by
  unfold idxZ
  cases l.findIdx? q with
  | none => rfl
  | some i => simp
theorem own_app {A : Type} (f : A → List Value) (l : List A) (x : A) : ((l ++ [x]).map f).flatten = (l.map f).flatten ++ f x := by simp
/-- The store behind a box that was made. -/
theorem create_end {B p gm cm : Nat} {w w1 w5 : World} {vb vs : Value} {vm : List Value} {s : Stt} {nm : List UInt8}
    (hp : w.heap[p]? = some (.cells #[vb, vs] 67)) (hO : OwnS B w vb vs vm s) (hn : ¬ inS vb vs vm p) (hBp : B ≤ p) (hw1 : Below w.heap.size w w1) (hgrow : w1.grownBy w5 vb.ownBlock)
    (hown : w5.ownsRow B 65 3 (.slice (some ⟨gm, 0, none⟩) (s.boxes.length + 1) cm) (s.boxes.length + 1) ((bxCs s.boxes vm).flatten ++ boxC ⟨nm, 1, []⟩ (.slice none 0 0))) (hat : vb.ownBlock = some gm ∨ gm = w1.heap.size) :
    Sto B p (w5.setCell ⟨p, 0, none⟩ (.slice (some ⟨gm, 0, none⟩) (s.boxes.length + 1) cm)) ⟨s.boxes ++ [⟨nm, 1, []⟩], s.spool⟩ ∧ Below B w (w5.setCell ⟨p, 0, none⟩ (.slice (some ⟨gm, 0, none⟩) (s.boxes.length + 1) cm)) := by
  have hsz : w.heap.size ≤ w1.heap.size := hw1.size
  have hk5 : ∀ k, k < w.heap.size → some k ≠ vb.ownBlock → w5.heap[k]? = w.heap[k]? := fun k hk hne => (hgrow.block k (by omega) hne).trans (hw1.block k hk)
  have hpl : p < w.heap.size := (Array.getElem?_eq_some_iff.1 hp).1
  have hpv : some p ≠ vb.ownBlock := fun e => hn (.inl e.symm)
  have hp5 : w5.heap[p]? = some (.cells #[vb, vs] 67) := (hk5 p hpl hpv).trans hp
  have hgp : gm ≠ p := fun e => by
    rcases hat with h | h
    · exact hpv (by rw [h, e])
    · omega
  have hset := heap_setCell_same w5 p 0 #[vb, vs] 67 (.slice (some ⟨gm, 0, none⟩) (s.boxes.length + 1) cm) hp5
  have far : ∀ k, k < w.heap.size → k ≠ p → some k ≠ vb.ownBlock → (w5.setCell ⟨p, 0, none⟩ (.slice (some ⟨gm, 0, none⟩) (s.boxes.length + 1) cm)).heap[k]? = w.heap[k]? := fun k h1 h2 h3 => (set_other h2).trans (hk5 k h1 h3)
  have ap : ∀ u, Apart u vb → (∀ k, u.ownBlock = some k → k < w.heap.size) → Apart u (.slice (some ⟨gm, 0, none⟩) (s.boxes.length + 1) cm) := fun u hu hl k hk hk' => by
    have e : gm = k := Option.some.inj hk'
    rcases hat with h | h
    · exact hu k hk (by rw [h, e])
    · have := hl k hk; omega
  have hmem : ∀ u ∈ vm, ∀ k, u.ownBlock = some k → k < w.heap.size := fun u hu k hk => (hO.lt (.inr (.inr ⟨u, hu, hk⟩))).2
  refine ⟨⟨_, vs, vm ++ [.slice none 0 0], by rw [hset]; rfl, ⟨?_, ?_, by simp [hO.len], ?_, ?_, ?_, ?_, ?_⟩, ?_, hBp⟩, ?_⟩
  · show World.ownsRow _ B _ 3 _ (s.boxes ++ [(⟨nm, 1, []⟩ : Bx)]).length (bxCs (s.boxes ++ [(⟨nm, 1, []⟩ : Bx)]) (vm ++ [.slice none 0 0])).flatten
    rw [bxCs_app _ _ _ _ hO.len]
    refine owns_keep (w := w5) (by simpa using hown) fun k hk => ?_
    have e : gm = k := Option.some.inj hk
    exact set_other (by omega)
  · refine owns_keep hO.spool fun k hk => far k (World.ownsRow.lt hO.spool k hk).2 (fun e => hn (.inr (.inl (by rw [← e]; exact hk)))) fun e => hO.bs k e.symm hk
  · intro i b v hb hv
    rcases Nat.lt_or_ge i s.boxes.length with hi | hi
    · rw [List.getElem?_append_left hi] at hb
      rw [List.getElem?_append_left (by rw [hO.len]; exact hi)] at hv
      have hvm := List.mem_of_getElem? hv
      exact owns_keep (hO.mails i b v hb hv) fun k hk => far k (hmem v hvm k hk) (fun e => hn (.inr (.inr ⟨v, hvm, by rw [← e]; exact hk⟩))) fun e => hO.mb v hvm k hk e.symm
    · rw [List.getElem?_append_right hi] at hb
      rw [List.getElem?_append_right (by rw [hO.len]; exact hi), hO.len] at hv
      cases hq : i - s.boxes.length with
      | zero =>
        rw [hq] at hb hv
        simp at hb hv
        subst hb
        subst hv
        exact World.ownsRow_nil _ _ _ _
      | succ q => rw [hq] at hb; simp at hb
  · intro k hk hk'
    exact ap vs hO.bs.symm (fun k hk => (World.ownsRow.lt hO.spool k hk).2) k hk' hk
  · intro u hu
    rcases List.mem_append.1 hu with hu | hu
    · exact ap u (hO.mb u hu) (hmem u hu)
    · simp at hu; subst hu; intro k hk; cases hk
  · intro u hu
    rcases List.mem_append.1 hu with hu | hu
    · exact hO.ms u hu
    · simp at hu; subst hu; intro k hk; cases hk
  · intro i j u v hij hu hv
    rcases Nat.lt_or_ge i vm.length with hi | hi
    · rcases Nat.lt_or_ge j vm.length with hj | hj
      · rw [List.getElem?_append_left hi] at hu
        rw [List.getElem?_append_left hj] at hv
        exact hO.mm i j u v hij hu hv
      · rw [List.getElem?_append_right hj] at hv
        cases hq : j - vm.length with
        | zero => rw [hq] at hv; simp at hv; subst hv; intro k _ hk; cases hk
        | succ q => rw [hq] at hv; simp at hv
    · rw [List.getElem?_append_right hi] at hu
      cases hq : i - vm.length with
      | zero => rw [hq] at hu; simp at hu; subst hu; intro k hk; cases hk
      | succ q => rw [hq] at hu; simp at hu
  · rintro (e | e | ⟨u, hu, e⟩)
    · exact hgp (Option.some.inj e)
    · exact hn (.inr (.inl e))
    · rcases List.mem_append.1 hu with hu | hu
      · exact hn (.inr (.inr ⟨u, hu, e⟩))
      · simp at hu; subst hu; cases e
  · have hBw : B ≤ w.heap.size := by omega
    have h5 : Below B w w5 := ⟨hgrow.os.trans hw1.os, hgrow.tape.trans hw1.tape, hgrow.output.trans hw1.output, Nat.le_trans hsz hgrow.size, fun k hk => hk5 k (by omega) fun e => by have := (World.ownsRow.lt hO.boxes k e.symm).1; omega⟩
    exact h5.setCell hBp _
/-- The store behind an entry that goes out. -/
theorem spool_end {B p gm cm : Nat} {w w1 w5 : World} {vb vs : Value} {vm : List Value} {s : Stt} {x : Ent}
    (hp : w.heap[p]? = some (.cells #[vb, vs] 67)) (hO : OwnS B w vb vs vm s) (hn : ¬ inS vb vs vm p) (hBp : B ≤ p) (hw1 : Below w.heap.size w w1) (hgrow : w1.grownBy w5 vs.ownBlock)
    (hown : w5.ownsRow B 70 6 (.slice (some ⟨gm, 0, none⟩) (s.spool.length + 1) cm) (s.spool.length + 1) ((s.spool.map entC).flatten ++ entC x)) (hat : vs.ownBlock = some gm ∨ gm = w1.heap.size) :
    Sto B p (w5.setCell ⟨p, 1, none⟩ (.slice (some ⟨gm, 0, none⟩) (s.spool.length + 1) cm)) ⟨s.boxes, s.spool ++ [x]⟩ ∧ Below B w (w5.setCell ⟨p, 1, none⟩ (.slice (some ⟨gm, 0, none⟩) (s.spool.length + 1) cm)) := by
  have hsz : w.heap.size ≤ w1.heap.size := hw1.size
  have hk5 : ∀ k, k < w.heap.size → some k ≠ vs.ownBlock → w5.heap[k]? = w.heap[k]? := fun k hk hne => (hgrow.block k (by omega) hne).trans (hw1.block k hk)
  have hpl : p < w.heap.size := (Array.getElem?_eq_some_iff.1 hp).1
  have hpv : some p ≠ vs.ownBlock := fun e => hn (.inr (.inl e.symm))
  have hp5 : w5.heap[p]? = some (.cells #[vb, vs] 67) := (hk5 p hpl hpv).trans hp
  have hgp : gm ≠ p := fun e => by
    rcases hat with h | h
    · exact hpv (by rw [h, e])
    · omega
  have hset := heap_setCell_same w5 p 1 #[vb, vs] 67 (.slice (some ⟨gm, 0, none⟩) (s.spool.length + 1) cm) hp5
  have far : ∀ k, k < w.heap.size → k ≠ p → some k ≠ vs.ownBlock → (w5.setCell ⟨p, 1, none⟩ (.slice (some ⟨gm, 0, none⟩) (s.spool.length + 1) cm)).heap[k]? = w.heap[k]? := fun k h1 h2 h3 => (set_other h2).trans (hk5 k h1 h3)
  have ap : ∀ u, Apart u vs → (∀ k, u.ownBlock = some k → k < w.heap.size) → Apart u (.slice (some ⟨gm, 0, none⟩) (s.spool.length + 1) cm) := fun u hu hl k hk hk' => by
    have e : gm = k := Option.some.inj hk'
    rcases hat with h | h
    · exact hu k hk (by rw [h, e])
    · have := hl k hk; omega
  have hmem : ∀ u ∈ vm, ∀ k, u.ownBlock = some k → k < w.heap.size := fun u hu k hk => (hO.lt (.inr (.inr ⟨u, hu, hk⟩))).2
  refine ⟨⟨vb, _, vm, by rw [hset]; rfl, ⟨?_, ?_, hO.len, ?_, ?_, hO.mb, ?_, hO.mm⟩, ?_, hBp⟩, ?_⟩
  · exact owns_keep hO.boxes fun k hk => far k (World.ownsRow.lt hO.boxes k hk).2 (fun e => hn (.inl (by rw [← e]; exact hk))) fun e => hO.bs k hk e.symm
  · show World.ownsRow _ B _ 6 _ (s.spool ++ [x]).length ((s.spool ++ [x]).map entC).flatten
    rw [own_app]
    refine owns_keep (w := w5) (by simpa using hown) fun k hk => ?_
    have e : gm = k := Option.some.inj hk
    exact set_other (by omega)
  · intro i b v hb hv
    have hvm := List.mem_of_getElem? hv
    exact owns_keep (hO.mails i b v hb hv) fun k hk => far k (hmem v hvm k hk) (fun e => hn (.inr (.inr ⟨v, hvm, by rw [← e]; exact hk⟩))) fun e => hO.ms v hvm k hk e.symm
  · exact ap vb hO.bs (fun k hk => (World.ownsRow.lt hO.boxes k hk).2)
  · intro u hu
    exact ap u (hO.ms u hu) (hmem u hu)
  · rintro (e | e | ⟨u, hu, e⟩)
    · exact hn (.inl e)
    · exact hgp (Option.some.inj e)
    · exact hn (.inr (.inr ⟨u, hu, e⟩))
  · have hBw : B ≤ w.heap.size := by omega
    have h5 : Below B w w5 := ⟨hgrow.os.trans hw1.os, hgrow.tape.trans hw1.tape, hgrow.output.trans hw1.output, Nat.le_trans hsz hgrow.size, fun k hk => hk5 k (by omega) fun e => by have := (World.ownsRow.lt hO.spool k e.symm).1; omega⟩
    exact h5.setCell hBp _
end Go.Proofs.YtkkkbggbeihbnaaDoor
