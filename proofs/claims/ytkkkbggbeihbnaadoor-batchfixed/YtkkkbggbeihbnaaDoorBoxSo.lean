/-
  A state is copied into memory of the call's own: the walk of storeOf.
-/
import Derived.Test.YtkkkbggbeihbnaaDoorBoxCl
namespace Go.Proofs.YtkkkbggbeihbnaaDoor
open Go.RowKit Go.Proofs

/-- A store whose first boxes have mails of their own; the others' lie in elder blocks. -/
structure PartS (B i p : Nat) (w : World) (vb vs : Value) (vm : List Value) (s : Stt) : Prop where
  here : w.heap[p]? = some (.cells #[vb, vs] 67)
  boxes : w.ownsRow B 65 3 vb s.boxes.length (bxCs s.boxes vm).flatten
  spool : w.ownsRow B 70 6 vs s.spool.length (s.spool.map entC).flatten
  len : vm.length = s.boxes.length
  done : ∀ (j : Nat) b v, j < i → s.boxes[j]? = some b → vm[j]? = some v → w.ownsRow B 73 3 v b.mails.length (b.mails.map mailC).flatten
  left : ∀ (j : Nat) b v, i ≤ j → s.boxes[j]? = some b → vm[j]? = some v → MailsM (fun k => k < B) w v b.mails
  bs : Apart vb vs
  mb : ∀ (j : Nat) v, j < i → vm[j]? = some v → Apart v vb ∧ Apart v vs
  mm : ∀ (j k : Nat) u v, j < i → k < i → j ≠ k → vm[j]? = some u → vm[k]? = some v → Apart u v
  pb : vb.ownBlock ≠ some p
  ps : vs.ownBlock ≠ some p
  pB : B ≤ p
theorem PartS.own {B i p : Nat} {w : World} {vb vs : Value} {vm : List Value} {s : Stt} (h : PartS B i p w vb vs vm s) (hi : s.boxes.length ≤ i) : OwnS B w vb vs vm s := by
  have hj : ∀ (j : Nat) v, vm[j]? = some v → j < i := fun j v hv => by have := (List.getElem?_eq_some_iff.1 hv).1; rw [h.len] at this; omega
  refine ⟨h.boxes, h.spool, h.len, fun j b v hb hv => h.done j b v (hj j v hv) hb hv, h.bs, ?_, ?_, fun j k u v hjk hu hv => h.mm j k u v (hj j u hu) (hj k v hv) hjk hu hv⟩
  · intro v hv; obtain ⟨j, hj', rfl⟩ := List.getElem_of_mem hv; have := List.getElem?_eq_getElem hj'; exact (h.mb j _ (hj j _ this) this).1
  · intro v hv; obtain ⟨j, hj', rfl⟩ := List.getElem_of_mem hv; have := List.getElem?_eq_getElem hj'; exact (h.mb j _ (hj j _ this) this).2
/-- One box more has mails of its own. -/
theorem PartS.more {B i p g c : Nat} {w w' : World} {vs v' : Value} {vm : List Value} {s : Stt} {b : Bx} (h : PartS B i p w (.slice (some ⟨g, 0, none⟩) s.boxes.length c) vs vm s) (hb : s.boxes[i]? = some b) (hw : Below w.heap.size w w') (hBw : B ≤ w.heap.size)
    (hv : w'.ownsRow w.heap.size 73 3 v' b.mails.length (b.mails.map mailC).flatten) : PartS B (i + 1) p (w'.setCell ⟨g, i * 3 + 2, none⟩ v') (.slice (some ⟨g, 0, none⟩) s.boxes.length c) vs (vm.set i v') s := by
  have hi0 : i < s.boxes.length := (List.getElem?_eq_some_iff.1 hb).1
  have hi : i < vm.length := by rw [h.len]; exact hi0
  have hvi : vm[i]? = some vm[i] := List.getElem?_eq_getElem hi
  have hgw : g < w.heap.size := (World.ownsRow.lt h.boxes g rfl).2
  have hgB : B ≤ g := (World.ownsRow.lt h.boxes g rfl).1
  have hsw : ∀ k, vs.ownBlock = some k → k < w.heap.size := fun k hk => (World.ownsRow.lt h.spool k hk).2
  have hnew : ∀ k, v'.ownBlock = some k → w.heap.size ≤ k := fun k hk => (World.ownsRow.lt hv k hk).1
  have hdn : ∀ (j : Nat) b v, j < i → s.boxes[j]? = some b → vm[j]? = some v → ∀ k, v.ownBlock = some k → k < w.heap.size := fun j b v hj hb hv k hk => (World.ownsRow.lt (h.done j b v hj hb hv) k hk).2
  have hold : ∀ k, k < w.heap.size → k ≠ g → (w'.setCell ⟨g, i * 3 + 2, none⟩ v').heap[k]? = w.heap[k]? := fun k hk hne => (set_other hne).trans (hw.block k hk)
  refine ⟨?_, ?_, ?_, by simpa using h.len, ?_, ?_, h.bs, ?_, ?_, h.pb, h.ps, h.pB⟩
  · exact (hold p (Array.getElem?_eq_some_iff.1 h.here).1 fun e => h.pb (by rw [e]; rfl)).trans h.here
  · have hbx : w'.ownsRow B 65 3 (.slice (some ⟨g, 0, none⟩) s.boxes.length c) s.boxes.length (bxCs s.boxes vm).flatten := owns_keep h.boxes fun k hk => by cases hk; exact hw.block g hgw
    have := owns_set hbx (i * 3 + 2) v'
    rw [flatten_put _ (bxCs_each _ _) (bxCs_at _ _ _ _ _ hb hvi) (by omega)] at this
    have e : (bxCs s.boxes vm).set i ((boxC b vm[i]).set 2 v') = bxCs s.boxes (vm.set i v') := by
      have hse : s.boxes.set i b = s.boxes := by obtain ⟨h, rfl⟩ := List.getElem?_eq_some_iff.1 hb; exact List.set_getElem_self h
      have := bxCs_set s.boxes vm i b v' h.len
      rw [hse] at this
      rw [this]; rfl
    rw [e] at this
    exact this
  · exact owns_keep h.spool fun k hk => hold k (hsw k hk) fun e => h.bs g rfl (by rw [← e]; exact hk)
  · intro j b' v hj hb' hv'
    by_cases e : i = j
    · subst e
      rw [List.getElem?_set_self hi] at hv'
      rw [hb] at hb'
      cases hv'
      cases hb'
      have h2 : w'.ownsRow B 73 3 v' b.mails.length (b.mails.map mailC).flatten := ⟨hv.1, hv.2.imp id fun ⟨g', cap, cur, e, hb, r⟩ => ⟨g', cap, cur, e, Nat.le_trans hBw hb, r⟩⟩
      exact owns_keep h2 fun k hk => set_other fun e => by have := hnew k hk; omega
    · rw [List.getElem?_set_ne e] at hv'
      refine owns_keep (h.done j b' v (by omega) hb' hv') fun k hk => hold k (hdn j b' v (by omega) hb' hv' k hk) fun e => (h.mb j v (by omega) hv').1 k hk (by rw [e]; rfl)
  · intro j b' v hj hb' hv'
    rw [List.getElem?_set_ne (by omega)] at hv'
    exact (h.left j b' v (by omega) hb' hv').imp (fun _ h => h) ⟨by have := hw.size; simpa using this, fun k hk hq => hold k hk (by omega)⟩
  · intro j v hj hv'
    by_cases e : i = j
    · subst e
      rw [List.getElem?_set_self hi] at hv'
      cases hv'
      exact ⟨fun k hk hk' => by have := hnew k hk; have h2 : g = k := Option.some.inj hk'; omega, fun k hk hk' => by have := hnew k hk; have := hsw k hk'; omega⟩
    · rw [List.getElem?_set_ne e] at hv'
      exact h.mb j v (by omega) hv'
  · intro j k u v hj hk hjk hu hv'
    by_cases e : i = j
    · subst e
      rw [List.getElem?_set_self hi] at hu
      rw [List.getElem?_set_ne hjk] at hv'
      cases hu
      have hk0 : k < s.boxes.length := by omega
      exact fun q hq hq' => by have := hnew q hq; have := hdn k _ v (by omega) (List.getElem?_eq_getElem hk0) hv' q hq'; omega
    · by_cases e2 : i = k
      · subst e2
        rw [List.getElem?_set_self hi] at hv'
        rw [List.getElem?_set_ne e] at hu
        cases hv'
        have hj0 : j < s.boxes.length := by omega
        exact fun q hq hq' => by have := hnew q hq'; have := hdn j _ u (by omega) (List.getElem?_eq_getElem hj0) hu q hq; omega
      · rw [List.getElem?_set_ne e] at hu
        rw [List.getElem?_set_ne e2] at hv'
        exact h.mm j k u v (by omega) (by omega) hjk hu hv'
theorem PartS.cell {B i p : Nat} {w : World} {vb vs : Value} {vm : List Value} {s : Stt} (h : PartS B i p w vb vs vm s) {j : Nat} {b : Bx} (hb : s.boxes[j]? = some b) : ∃ g c v, vb = .slice (some ⟨g, 0, none⟩) s.boxes.length c ∧ vm[j]? = some v ∧ w.cell? ⟨g, j * 3 + 2, none⟩ = some v ∧ w.frozen? ⟨g, j * 3 + 2, none⟩ = false := by
  have hi0 : j < s.boxes.length := (List.getElem?_eq_some_iff.1 hb).1
  have hi : j < vm.length := by rw [h.len]; exact hi0
  have hv : vm[j]? = some vm[j] := List.getElem?_eq_getElem hi
  rcases h.boxes.2 with ⟨_, hn⟩ | ⟨g, cap, cur, e, _, hg, _⟩
  · omega
  · have := World.ownsRow.cells h.boxes (g := g) (by rw [e]; rfl) (j * 3 + 2) vm[j] (by rw [flatten_nth (bxCs_each _ _) (bxCs_at _ _ _ _ _ hb hv) (by omega)]; rfl)
    rw [Addr.add_lit] at this
    exact ⟨g, cap, _, e, hv, by simpa using this, by simp [World.frozen?, hg]⟩
theorem PartS.next {B i p : Nat} {w w' : World} {vb vs : Value} {vm : List Value} {s : Stt} (h : PartS B i p w vb vs vm s) (hb : Below w.heap.size w w') : PartS B i p w' vb vs vm s :=
  ⟨(hb.block p (Array.getElem?_eq_some_iff.1 h.here).1).trans h.here, owns_keep h.boxes fun k hk => hb.block k (World.ownsRow.lt h.boxes k hk).2, owns_keep h.spool fun k hk => hb.block k (World.ownsRow.lt h.spool k hk).2, h.len,
    fun j b v hj hb' hv => owns_keep (h.done j b v hj hb' hv) fun k hk => hb.block k (World.ownsRow.lt (h.done j b v hj hb' hv) k hk).2, fun j b v hj hb' hv => (h.left j b v hj hb' hv).next hb, h.bs, h.mb, h.mm, h.pb, h.ps, h.pB⟩
/-- What storeOf's first statement leaves. -/
def SoP (B : Nat) (s : Stt) (v : Value) (w : World) : Prop := ∃ p vb vs vm, v = .pointer (some ⟨p, 0, none⟩) ∧ PartS B 0 p w vb vs vm s
theorem so_part {B p : Nat} {w : World} {vb vs : Value} {vm : List Value} {s : Stt} (h0 : w.heap[p]? = some (.cells #[vb, vs] 67)) (hb : w.ownsRow B 65 3 vb s.boxes.length (bxCs s.boxes vm).flatten) (hs : w.ownsRow B 70 6 vs s.spool.length (s.spool.map entC).flatten) (hl : vm.length = s.boxes.length)
    (hm : ∀ (j : Nat) b v, s.boxes[j]? = some b → vm[j]? = some v → MailsM (fun k => k < B) w v b.mails) (a1 : Apart vb vs) (a2 : vb.ownBlock ≠ some p) (a3 : vs.ownBlock ≠ some p) (hp : B ≤ p) : SoP B s (.pointer (some ⟨p, 0, none⟩)) w :=
  ⟨p, vb, vs, vm, rfl, h0, hb, hs, hl, fun j b v hj => by omega, fun j b v _ => hm j b v, a1, fun j v hj => by omega, fun j k u v hj => by omega, a2, a3, hp⟩
theorem apart_of {u v : Value} {N : Nat} (h1 : ∀ k, u.ownBlock = some k → k < N) (h2 : ∀ k, v.ownBlock = some k → N ≤ k) : Apart u v := fun k hk hk' => by have := h1 k hk; have := h2 k hk'; omega
theorem own_base {w : World} {B B' k n : Nat} {e : TypeId} {v : Value} {xs : List Value} (h : w.ownsRow B' e k v n xs) (hB : B ≤ B') : w.ownsRow B e k v n xs := ⟨h.1, h.2.imp id fun ⟨g', cap, cur, e, hb, r⟩ => ⟨g', cap, cur, e, Nat.le_trans hB hb, r⟩⟩
theorem own_low {w w' : World} {B k n : Nat} {e : TypeId} {v : Value} {xs : List Value} (h : w.ownsRow B e k v n xs) (hb : Below w.heap.size w w') : w'.ownsRow B e k v n xs := owns_keep h fun k hk => hb.block k (World.ownsRow.lt h k hk).2
theorem own_slice {w : World} {B k n : Nat} {e : TypeId} {v : Value} {xs : List Value} (h : w.ownsRow B e k v n xs) : ∃ a c, v = .slice a n c := by
  rcases h.2 with ⟨rfl, hn⟩ | ⟨g, cap, cur, rfl, _⟩
  · exact ⟨none, 0, by rw [hn]⟩
  · exact ⟨_, _, rfl⟩
theorem RowM.lows {A : Type} {Q : Nat → Prop} {k : Nat} {P P' : A → List Value → Prop} {w : World} {v : Value} {l : List A} (h : RowM Q k P w v l) (hp : ∀ x cs, P x cs → P' x cs) : RowM (fun b => b < w.heap.size) k P' w v l := by
  obtain ⟨a, c, hv, hm, hx⟩ := h
  refine ⟨a, c, hv, hm, fun i x hi => ?_⟩
  obtain ⟨b, o, cs, ha, hb, _, hl, hc, hP⟩ := hx i x hi
  exact ⟨b, o, cs, ha, hb, hb, hl, hc, hp x cs hP⟩
theorem SttM.lows {Q : Nat → Prop} {w : World} {vb vs : Value} {s : Stt} (h : SttM Q w vb vs s) : SttM (fun b => b < w.heap.size) w vb vs s :=
  ⟨RowM.lows h.1 fun _ _ ⟨v, e, hm⟩ => ⟨v, e, RowM.lows hm fun _ _ h => h⟩, RowM.lows h.2.1 fun _ _ h => h, h.2.2⟩
theorem low_obj {w w' : World} {b : Nat} {x : Obj} (h : Below w.heap.size w w') (hb : w.heap[b]? = some x) : w'.heap[b]? = some x := (h.block b (Array.getElem?_eq_some_iff.1 hb).1).trans hb
theorem box2f {w : World} {p : Nat} {v0 v1 : Value} {t : TypeId} (h : w.heap[p]? = some (.cells #[v0, v1] t)) : w.cell? ⟨p, 0, none⟩ = some v0 ∧ w.cell? ⟨p, 1, none⟩ = some v1 ∧ w.frozen? ⟨p, 0, none⟩ = false ∧ w.frozen? ⟨p, 1, none⟩ = false := by
  refine ⟨?_, ?_, ?_, ?_⟩ <;> simp [World.cell?, World.frozen?, h]
theorem ne_grow {n a b : Nat} (h : a = n + 2) (hs : a ≤ b) : n ≠ b := by omega
theorem far2 {w : World} {n p i j k : Nat} {v a b : Value} (h : n ≠ p) (hc : w.cell? ⟨n, j, none⟩ = some v) : ((w.setCell ⟨p, i, none⟩ a).setCell ⟨p, k, none⟩ b).cell? ⟨n, j, none⟩ = some v := by
  rw [World.cell?_of_block (w := w.setCell ⟨p, i, none⟩ a) (set_other h), World.cell?_of_block (w := w) (set_other h)]; exact hc
theorem low_frozen {w w' : World} {p : Addr} {v : Value} (h : w.frozen? p = false) (hc : w.cell? p = some v) (hb : Below w.heap.size w w') : w'.frozen? p = false := (World.frozen?_of_block (hb.block p.block (World.block_lt_of_cell? w _ hc))).trans h
theorem OwnS.base {B B' : Nat} {w : World} {vb vs : Value} {vm : List Value} {s : Stt} (h : OwnS B' w vb vs vm s) (hB : B ≤ B') : OwnS B w vb vs vm s := ⟨own_base h.boxes hB, own_base h.spool hB, h.len, fun i b v hb hv => own_base (h.mails i b v hb hv) hB, h.bs, h.mb, h.ms, h.mm⟩
/-- What storeOf hands back. -/
def SoR (w : World) (s : Stt) (e : Ending) (w' : World) : Prop := ∃ vb vs vm, e = .returned (.agg #[vb, vs]) ∧ OwnS w.heap.size w' vb vs vm s ∧ Below w.heap.size w w'
def SoQ (B : Nat) (W0 : World) (s : Stt) (v : Value) (w : World) : Prop := SoP B s v w ∧ Below W0.heap.size W0 w
theorem so_end {B p Bb Be : Nat} {W0 w3 wx : World} {vb vs : Value} {vm : List Value} {s : Stt} (hw : wx.heap[p]? = some (.cells #[vb, vs] 67)) (hoth : ∀ k, k < w3.heap.size → k ≠ p → wx.heap[k]? = w3.heap[k]?) (hsz : w3.heap.size ≤ wx.heap.size) (hbel : Below W0.heap.size W0 wx)
    (hob : w3.ownsRow Bb 65 3 vb s.boxes.length (bxCs s.boxes vm).flatten) (hoe : w3.ownsRow Be 70 6 vs s.spool.length (s.spool.map entC).flatten) (h1 : B ≤ Bb) (h2 : B ≤ Be) (hap : Apart vb vs) (hpb : vb.ownBlock ≠ some p) (hps : vs.ownBlock ≠ some p) (hl : vm.length = s.boxes.length)
    (hms : ∀ (j : Nat) b v, s.boxes[j]? = some b → vm[j]? = some v → MailsM (fun k => k < B) w3 v b.mails) (hp : B ≤ p) : SoQ B W0 s (.pointer (some ⟨p, 0, none⟩)) wx := by
  refine ⟨so_part hw (owns_keep (own_base hob h1) fun k hk => hoth k (World.ownsRow.lt hob k hk).2 fun e => hpb (by rw [← e]; exact hk)) (owns_keep (own_base hoe h2) fun k hk => hoth k (World.ownsRow.lt hoe k hk).2 fun e => hps (by rw [← e]; exact hk)) hl ?_ hap hpb hps hp, hbel⟩
  intro j b v hb hv
  exact (hms j b v hb hv).imp (fun _ h => h) ⟨hsz, fun k hk hq => hoth k hk (by omega)⟩
theorem set2_block {w : World} {p : Nat} {v0 v1 u0 u1 : Value} {t : TypeId} (h : w.heap[p]? = some (.cells #[v0, v1] t)) : ((w.setCell ⟨p, 0, none⟩ u0).setCell ⟨p, 1, none⟩ u1).heap[p]? = some (.cells #[u0, u1] t) := by
  have h1 := heap_setCell_same w p 0 #[v0, v1] t u0 h
  have h2 := heap_setCell_same (w.setCell ⟨p, 0, none⟩ u0) p 1 _ t u1 h1
  rw [h2]; rfl
set_option maxHeartbeats 1000000 in
set_option maxRecDepth 100000 in
theorem storeOf_ok (s : Stt) (vb0 vs0 : Value) (w : World) (Q : Nat → Prop) (hS0 : SttM Q w vb0 vs0 s) (hM : May s) :
    Calls Tryd.prog 27 #[.agg #[vb0, vs0]] w (SoR w s) := by
  have hS := hS0.lows
  have hn1 := hM.boxes
  have hn2 := hM.spool
  have HMM := hid (fun b hb => (hM.each b hb).many)
  obtain ⟨ab, cb, rfl⟩ := RowM.slice hS.1
  obtain ⟨aq, cq, rfl⟩ := RowM.slice hS.2.1
  obtain ⟨W0, hW0⟩ : ∃ W0, W0 = (w.alloc (.cells #[.slice ab s.boxes.length cb, .slice aq s.spool.length cq] 29)).alloc (.cells #[.slice none 0 0, .slice none 0 0] 67) := ⟨_, rfl⟩
  have HWE := hid hW0
  have hB0 : Below w.heap.size w W0 := by rw [hW0]; exact ((Below.refl _ _).alloc (Nat.le_refl _) _).alloc (by simp) _
  have HB0 := hid hB0
  have hz0 : W0.heap.size = w.heap.size + 2 := by rw [hW0]; simp
  have x0 : W0.cell? ⟨w.heap.size, 0, none⟩ = some (.slice ab s.boxes.length cb) := by rw [hW0]; exact wcell_more (by simp) _
  have x1 : W0.cell? ⟨w.heap.size, 1, none⟩ = some (.slice aq s.spool.length cq) := by rw [hW0]; exact wcell_more (by simp) _
  have hR : W0.heap[w.heap.size + 1]? = some (.cells #[.slice none 0 0, .slice none 0 0] 67) := by rw [hW0]; have := heap_alloc_new (w.alloc (.cells #[.slice ab s.boxes.length cb, .slice aq s.spool.length cq] 29)) (.cells #[.slice none 0 0, .slice none 0 0] 67); simpa using this
  have HR := hid hR
  have hSW := (hS.next hB0).lows
  have HCB := hid (fun u (hu : Below W0.heap.size W0 u) => cloneB s.boxes _ u (fun k => k < W0.heap.size) (hSW.1.next hu) (by omega))
  have HCE := hid (fun u (hu : Below W0.heap.size W0 u) => cloneE s.spool _ u (fun k => k < W0.heap.size) (hSW.2.1.next hu) (by omega))
  have hne0 : w.heap.size ≠ W0.heap.size := by omega
  have HCF := hid (fun u (hu : Below W0.heap.size W0 u) (_ : u.heap[W0.heap.size]? = some (.cells #[.slice none 0 0, .slice none 0 0] 67)) => HCE.out u hu)
  have HBA := hid (show Below W0.heap.size W0 (W0.alloc (.cells #[.slice none 0 0, .slice none 0 0] 67)).drew from ((Below.refl W0.heap.size W0).alloc (Nat.le_refl _) _).drew)
  have HNA := hid (show (W0.alloc (.cells #[.slice none 0 0, .slice none 0 0] 67)).drew.heap[W0.heap.size]? = some (.cells #[.slice none 0 0, .slice none 0 0] 67) from heap_alloc_new W0 _)
  have HZ0 := hid hz0
  clear hS0 hS hM hW0 hB0 hR hSW hz0
  go_enter Tryd.func27, Tryd.ntmps27
  go_wp2
  rw [← HWE.out]
  go_cut [3] (fun v wx => SoQ W0.heap.size W0 s v wx)
  case first =>
    go_region_held3 (fun w' => w'.cell? ⟨w.heap.size, 0, none⟩ = some (.slice ab s.boxes.length cb) ∧ w'.cell? ⟨w.heap.size, 1, none⟩ = some (.slice aq s.spool.length cq)) (first | (go_keep; done) | exact ⟨far2 hne2 r0, far2 hne2 r1⟩ | exact ⟨far2 hne0 r0, far2 hne0 r1⟩ | fail)
      (first
        | (go_at_call 39
           with_reducible refine (HCF.out _ HBb.out HPc.out).mono ?_
           rintro e w3 ⟨vs, rfl, hoe, hb⟩
           obtain ⟨a2, c2, rfl⟩ := own_slice hoe
           have HBf := hid (HBb.out.trans (hb.mono HBb.out.size))
           have HOE := hid hoe
           have HOB2 := hid (own_low HOB.out hb)
           have HMS2 := hid (fun (j : Nat) b v hj hv => (HMS.out j b v hj hv).next hb)
           have HPe := hid (low_obj hb HPc.out)
           obtain ⟨t0, t1, f0, f1⟩ := box2f HPe.out
           have r0 := wcell_next q0 hb
           have r1 := wcell_next q1 hb
           clear hb hoe)
        | (go_at_call 39
           with_reducible refine (HCE.out _ HBb.out).mono ?_
           rintro e w3 ⟨vs, rfl, hoe, hb⟩
           obtain ⟨a2, c2, rfl⟩ := own_slice hoe
           have HBf := hid (HBb.out.trans (hb.mono HBb.out.size))
           have HOE := hid hoe
           have HOB2 := hid (own_low HOB.out hb)
           have HMS2 := hid (fun (j : Nat) b v hj hv => (HMS.out j b v hj hv).next hb)
           have r0 := wcell_next q0 hb
           have r1 := wcell_next q1 hb
           clear hb hoe)
        | (go_at_call 39
           with_reducible refine (HCE.out (w2.alloc (.cells #[.slice none 0 0, .slice none 0 0] 67)) (HBb.out.alloc HBb.out.size _)).mono ?_
           rintro e w3 ⟨vs, rfl, hoe, hb⟩
           obtain ⟨a2, c2, rfl⟩ := own_slice hoe
           have hba : Below w2.heap.size w2 (w2.alloc (.cells #[.slice none 0 0, .slice none 0 0] 67)) := (Below.refl _ _).alloc (Nat.le_refl _) _
           have hbb : Below w2.heap.size w2 w3 := hba.trans (hb.mono hba.size)
           have HBf := hid (HBb.out.trans (hbb.mono HBb.out.size))
           have HOE := hid hoe
           have HOB2 := hid (own_low HOB.out hbb)
           have HMS2 := hid (fun (j : Nat) b v hj hv => (HMS.out j b v hj hv).next hbb)
           have HPe := hid (low_obj hb (heap_alloc_new w2 (.cells #[.slice none 0 0, .slice none 0 0] 67)))
           obtain ⟨t0, t1, f0, f1⟩ := box2f HPe.out
           have r0 := wcell_next q0 hbb
           have r1 := wcell_next q1 hbb
           clear hb hoe hba hbb)
        | (go_at_call 38
           with_reducible refine (HCB.out W0.drew ((Below.refl _ _).drew)).mono ?_
           rintro e w2 ⟨vb, vm, rfl, hob, hlm, hmm, hb⟩
           obtain ⟨a1, c1, rfl⟩ := own_slice hob
           have hb2 : Below W0.heap.size W0 w2 := (Below.refl _ _).drew.trans hb
           have HBb := hid hb2
           have HOB := hid hob
           have HLM := hid hlm
           have HMS := hid (fun (j : Nat) b v hj hv => (hmm j b v hj hv).next hb)
           have q0 := wcell_next x0 hb2
           have q1 := wcell_next x1 hb2
           have hne2 := ne_grow HZ0.out hb2.size
           clear hb hb2 hob hlm hmm)
        | (go_at_call 38
           with_reducible refine (HCB.out ((W0.alloc (.cells #[.slice none 0 0, .slice none 0 0] 67)).drew) HBA.out).mono ?_
           rintro e w2 ⟨vb, vm, rfl, hob, hlm, hmm, hb⟩
           obtain ⟨a1, c1, rfl⟩ := own_slice hob
           have hb2 : Below W0.heap.size W0 w2 := HBA.out.trans (hb.mono HBA.out.size)
           have HBb := hid hb2
           have HOB := hid hob
           have HLM := hid hlm
           have HMS := hid (fun (j : Nat) b v hj hv => (hmm j b v hj hv).next hb)
           have HPc := hid (low_obj hb HNA.out)
           have q0 := wcell_next x0 hb2
           have q1 := wcell_next x1 hb2
           have hne2 := ne_grow HZ0.out hb2.size
           clear hb hb2 hob hlm hmm)
        | fail)
    · go_wp2_with fail
      go_meet
      have hs2 := HBb.out.size
      have hz0 := HZ0.out
      exact so_end (p := w3.heap.size) (heap_alloc_new w3 _) (fun k hk _ => heap_alloc_old w3 _ hk) (by simp) (HBf.out.alloc HBf.out.size _) HOB2.out HOE.out (Nat.le_refl _) (by omega) (apart_of (N := w2.heap.size) (fun k hk => (World.ownsRow.lt HOB.out k hk).2) (fun k hk => (World.ownsRow.lt HOE.out k hk).1)) (fun e => by have := (World.ownsRow.lt HOB2.out _ e).2; omega) (fun e => by have := (World.ownsRow.lt HOE.out _ e).2; omega) HLM.out HMS2.out (by have := HBf.out.size; omega)
    · go_wp2_with fail
      go_meet
      have hs2 := HBb.out.size
      have hz0 := HZ0.out
      exact so_end (p := w2.heap.size) (set2_block HPe.out) (fun k hk hne => (set_other hne).trans (set_other hne)) (by simp) ((HBf.out.setCell hs2 _).setCell hs2 _) HOB2.out HOE.out (Nat.le_refl _) (by simp; omega) (apart_of (N := w2.heap.size) (fun k hk => (World.ownsRow.lt HOB.out k hk).2) (fun k hk => by have := (World.ownsRow.lt HOE.out k hk).1; simp at this; omega)) (fun e => by have := (World.ownsRow.lt HOB.out _ e).2; omega) (fun e => by have := (World.ownsRow.lt HOE.out _ e).1; simp at this; omega) HLM.out HMS2.out (by omega)
    · go_wp2_with fail
      go_meet
      have hs2 := HBb.out.size
      have hz0 := HZ0.out
      exact so_end (p := W0.heap.size) (set2_block HPe.out) (fun k hk hne => (set_other hne).trans (set_other hne)) (by simp) ((HBf.out.setCell (Nat.le_refl _) _).setCell (Nat.le_refl _) _) HOB2.out HOE.out (by simp) (by omega) (apart_of (N := w2.heap.size) (fun k hk => (World.ownsRow.lt HOB.out k hk).2) (fun k hk => (World.ownsRow.lt HOE.out k hk).1)) (fun e => by have := (World.ownsRow.lt HOB.out _ e).1; simp at this; omega) (fun e => by have h1 := (World.ownsRow.lt HOE.out _ e).1; have h2 := (Array.getElem?_eq_some_iff.1 HPc.out).1; omega) HLM.out HMS2.out (by omega)
  case rest =>
    obtain ⟨⟨p, vb, vs, vm, rfl, hP⟩, hbc⟩ := hcut
    have HBC := hid hbc
    obtain ⟨a1, c1, rfl⟩ := own_slice hP.boxes
    obtain ⟨a2, c2, rfl⟩ := own_slice hP.spool
    obtain ⟨t0, t1, f0, f1⟩ := box2f hP.here
    have HP := hid hP
    clear hP hbc HCB HCE
    go_wp2
    go_loopw [15] (fun v wr => ∃ (i : Nat) (vm : List Value), i ≤ s.boxes.length ∧ v = .int .i64 i ∧ Hid (PartS W0.heap.size i p wr (.slice a1 s.boxes.length c1) (.slice a2 s.spool.length c2) vm s) ∧ Hid (Below W0.heap.size W0 wr)) (fun v _ => s.boxes.length - (intOf v).toNat)
    case atStart => exact ⟨0, vm, Nat.zero_le _, rfl, HP, HBC⟩
    case round =>
      obtain ⟨i, vm', hi, rfl, HQ, HB⟩ := hrel
      obtain ⟨z0, z1, g0, g1⟩ := box2f HQ.out.here
      by_cases hlt : i < s.boxes.length
      · have i1 : (i : Int) < (s.boxes.length : Int) := by omega
        have i0 : (0 : Int) ≤ (i : Int) := by omega
        obtain ⟨b, hb⟩ : ∃ b, s.boxes[i]? = some b := ⟨_, List.getElem?_eq_getElem hlt⟩
        obtain ⟨g, c, v, e, hv, k2, l2⟩ := HQ.out.cell hb
        simp only [Value.slice.injEq, true_and] at e
        obtain ⟨rfl, rfl⟩ := e
        have hM := HQ.out.left i b v (Nat.le_refl _) hb hv
        obtain ⟨am, cm, rfl⟩ := RowM.slice hM
        have hgp : g ≠ p := fun e => HQ.out.pb (by rw [e]; rfl)
        have HC := hid (fun u (hu : Below wr.heap.size wr u) => cloneM b.mails _ u _ (hM.next hu) (by have := HMM.out b (List.mem_of_getElem? hb); omega))
        have HBX := hid hb
        clear hb hM hv
        go_wp2
        have HCD := hid (HC.out wr.drew ((Below.refl _ _).drew))
        go_region_law
          (first
          | (go_simp
             go_at_call 40
             refine HCD.out.mono ?_
             rintro e w2 ⟨v', rfl, hov, hb⟩
             obtain ⟨a3, c3, rfl⟩ := own_slice hov
             have hb2 : Below wr.heap.size wr w2 := (Below.refl _ _).drew.trans hb
             have y0 := wcell_next z0 hb2
             have y2 := wcell_next k2 hb2
             have yf := low_frozen l2 k2 hb2
             have HOV := hid hov
             have HB2 := hid hb2
             clear hb hb2 hov)
          | fail)
        all_goals
          have HN := hid (HQ.out.more HBX.out HB2.out HB.out.size HOV.out)
          have HB3 := hid (show Below W0.heap.size W0 (w2.setCell ⟨g, i * 3 + 2, none⟩ (.slice a3 b.mails.length c3)) from (HB.out.trans (HB2.out.mono HB.out.size)).setCell (show W0.heap.size ≤ g from (World.ownsRow.lt HQ.out.boxes g rfl).1) _)
          go_wp2
          go_roundw
          case rel => first | exact ⟨i + 1, _, by omega, by go_num, HN, HB3⟩ | ((repeat apply Exists.intro); exact ⟨⟨i + 1, _, by omega, by go_num, HN, HB3⟩, rfl⟩)
          case measure => simp [intOf]; omega
      · have i1 : ¬ (i : Int) < (s.boxes.length : Int) := by omega
        have hR := low_obj HB.out HR.out
        obtain ⟨u0, u1, h0, h1⟩ := box2f hR
        have HO := hid (HQ.out.own (by omega))
        have hz0 := HZ0.out
        have HE := hid (show ∀ u v : Value, OwnS w.heap.size ((wr.setCell ⟨w.heap.size + 1, 0, none⟩ u).setCell ⟨w.heap.size + 1, 1, none⟩ v) (.slice a1 s.boxes.length c1) (.slice a2 s.spool.length c2) vm' s ∧ Below w.heap.size w ((wr.setCell ⟨w.heap.size + 1, 0, none⟩ u).setCell ⟨w.heap.size + 1, 1, none⟩ v) from fun u v =>
          ⟨(HO.out.base HB0.out.size).keep fun k hk => by
            have hk' : k ≠ w.heap.size + 1 := by have := (HO.out.lt hk).1; omega
            exact (set_other hk').trans (set_other hk'), ((HB0.out.trans (HB.out.mono HB0.out.size)).setCell (Nat.le_succ _) _).setCell (Nat.le_succ _) _⟩)
        obtain ⟨v0, v1, j0, j1⟩ := box2f (set2_block (u0 := .slice a1 s.boxes.length c1) (u1 := .slice a2 s.spool.length c2) hR)
        clear hR hz0
        go_wp2
        refine bodyPost_ret (v := .agg #[.slice a1 s.boxes.length c1, .slice a2 s.spool.length c2]) (by simp [results, Tryd.results27, go_sem, *]) rfl ?_
        exact ⟨_, _, vm', rfl, HE.out _ _⟩
end Go.Proofs.YtkkkbggbeihbnaaDoor
