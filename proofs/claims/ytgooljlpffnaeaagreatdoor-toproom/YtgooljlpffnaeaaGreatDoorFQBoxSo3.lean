/-
  A state is copied into memory of the call's own: the walk of storeOf.
-/
import Derived.Test.YtgooljlpffnaeaaGreatDoorFQBoxRd4
set_option maxHeartbeats 1000000
set_option maxRecDepth 100000
namespace Go.Proofs.YtgooljlpffnaeaaGreatDoor
open Go.RowKit Go.Proofs
structure PartS (B i p : Nat) (w : World) (vb vs : Value) (vm : List Value) (s : Stt) : Prop where
 here : w.heap[p]? = some (.cells #[vb, vs] 133)
 boxes : w.ownsRow B 40 3 vb s.boxes.length (bxCs s.boxes vm).flatten
 spool : w.ownsRow B 25 6 vs s.spool.length (s.spool.map entC).flatten
 len : vm.length = s.boxes.length
 done : ∀ (j : Nat) b v, j < i → s.boxes[j]? = some b → vm[j]? = some v → w.ownsRow B 173 3 v b.mails.length (b.mails.map j9).flatten
 left : ∀ (j : Nat) b v, i ≤ j → s.boxes[j]? = some b → vm[j]? = some v → MailsM (fun k => k < B) w v b.mails
 bs : Apart vb vs
 mb : ∀ (j : Nat) v, j < i → vm[j]? = some v → Apart v vb ∧ Apart v vs
 mm : ∀ (j k : Nat) u v, j < i → k < i → j ≠ k → vm[j]? = some u → vm[k]? = some v → Apart u v
 pb : vb.ownBlock ≠ some p
 ps : vs.ownBlock ≠ some p
 pB : B ≤ p
theorem PartS.own {B i p : Nat} {w : World} {vb vs : Value} {vm : List Value} {s : Stt} (h : PartS B i p w vb vs vm s) (hi : s.boxes.length ≤ i) : OwnS B w vb vs vm s := by
 have hj : ∀ (j : Nat) v, vm[j]? = some v → j < i := fun j v hv => by have := (List.getElem?_eq_some_iff.1 hv).1; rw [h.len] at this; omega
 refine ⟨h.boxes, h.spool, h.len, fun j b v hb hv => h.done j b v (hj j v hv) hb hv, h.bs, ?_, ?_, fun j k u v hjk hu hv => h.mm j k u v (hj j u hu) (hj k v hv) hjk hu hv⟩
 · intro v hv; obtain ⟨j, hj', rfl⟩ := List.getElem_of_mem hv; have := List.getElem?_eq_getElem hj'; exact (h.mb j _ (hj j _ this) this).1
 · intro v hv; obtain ⟨j, hj', rfl⟩ := List.getElem_of_mem hv; have := List.getElem?_eq_getElem hj'; exact (h.mb j _ (hj j _ this) this).2
theorem PartS.more {B i p g c : Nat} {w w' : World} {vs v' : Value} {vm : List Value} {s : Stt} {b : Bx} (h : PartS B i p w (.slice (some ⟨g, 0, none⟩) s.boxes.length c) vs vm s) (hb : s.boxes[i]? = some b) (hw : Below w.heap.size w w') (hBw : B ≤ w.heap.size)
 (hv : w'.ownsRow w.heap.size 173 3 v' b.mails.length (b.mails.map j9).flatten) : PartS B (i + 1) p (w'.setCell ⟨g, i * 3 + 2, none⟩ v') (.slice (some ⟨g, 0, none⟩) s.boxes.length c) vs (vm.set i v') s := by
 have hi0 : i < s.boxes.length := (List.getElem?_eq_some_iff.1 hb).1; have hi : i < vm.length := by rw [h.len]; exact hi0
 have hvi : vm[i]? = some vm[i] := List.getElem?_eq_getElem hi; have hgw : g < w.heap.size := (World.ownsRow.lt h.boxes g rfl).2; have hgB : B ≤ g := (World.ownsRow.lt h.boxes g rfl).1; have hsw : ∀ k, vs.ownBlock = some k → k < w.heap.size := fun k hk => (World.ownsRow.lt h.spool k hk).2
 have hnew : ∀ k, v'.ownBlock = some k → w.heap.size ≤ k := fun k hk => (World.ownsRow.lt hv k hk).1
 have hdn : ∀ (j : Nat) b v, j < i → s.boxes[j]? = some b → vm[j]? = some v → ∀ k, v.ownBlock = some k → k < w.heap.size := fun j b v hj hb hv k hk => (World.ownsRow.lt (h.done j b v hj hb hv) k hk).2
 have hold : ∀ k, k < w.heap.size → k ≠ g → (w'.setCell ⟨g, i * 3 + 2, none⟩ v').heap[k]? = w.heap[k]? := fun k hk hne => (jp hne).trans (hw.block k hk)
 refine ⟨?_, ?_, ?_, by simpa using h.len, ?_, ?_, h.bs, ?_, ?_, h.pb, h.ps, h.pB⟩
 · exact (hold p (Array.getElem?_eq_some_iff.1 h.here).1 fun e => h.pb (by rw [e]; rfl)).trans h.here
 · have hbx : w'.ownsRow B 40 3 (.slice (some ⟨g, 0, none⟩) s.boxes.length c) s.boxes.length (bxCs s.boxes vm).flatten := je h.boxes fun k hk => by cases hk; exact hw.block g hgw
   have := jaF hbx (i * 3 + 2) v'; rw [qU _ (zO _ _) (vz _ _ _ _ _ hb hvi) (by omega)] at this; have e : (bxCs s.boxes vm).set i ((boxC b vm[i]).set 2 v') = bxCs s.boxes (vm.set i v') := by
    have hse : s.boxes.set i b = s.boxes := by obtain ⟨h, rfl⟩ := List.getElem?_eq_some_iff.1 hb; exact List.set_getElem_self h
    have := jbq s.boxes vm i b v' h.len; rw [hse] at this; rw [this]; rfl
   rw [e] at this; exact this
 · exact je h.spool fun k hk => hold k (hsw k hk) fun e => h.bs g rfl (by rw [← e]; exact hk)
 · intro j b' v hj hb' hv'
   by_cases e : i = j
   · subst e; rw [List.getElem?_set_self hi] at hv'; rw [hb] at hb'; cases hv'; cases hb'; have h2 : w'.ownsRow B 173 3 v' b.mails.length (b.mails.map j9).flatten := ⟨hv.1, hv.2.imp id fun ⟨g', cap, cur, e, hb, r⟩ => ⟨g', cap, cur, e, Nat.le_trans hBw hb, r⟩⟩; exact je h2 fun k hk => jp fun e => by have := hnew k hk; omega
   · rw [List.getElem?_set_ne e] at hv'; refine je (h.done j b' v (by omega) hb' hv') fun k hk => hold k (hdn j b' v (by omega) hb' hv' k hk) fun e => (h.mb j v (by omega) hv').1 k hk (by rw [e]; rfl)
 · intro j b' v hj hb' hv'; rw [List.getElem?_set_ne (by omega)] at hv'; exact (h.left j b' v (by omega) hb' hv').imp (fun _ h => h) ⟨by have := hw.size; simpa using this, fun k hk hq => hold k hk (by omega)⟩
 · intro j v hj hv'
   by_cases e : i = j
   · subst e; rw [List.getElem?_set_self hi] at hv'; cases hv'; exact ⟨fun k hk hk' => by have := hnew k hk; have h2 : g = k := Option.some.inj hk'; omega, fun k hk hk' => by have := hnew k hk; have := hsw k hk'; omega⟩
   · rw [List.getElem?_set_ne e] at hv'; exact h.mb j v (by omega) hv'
 · intro j k u v hj hk hjk hu hv'
   by_cases e : i = j
   · subst e; rw [List.getElem?_set_self hi] at hu; rw [List.getElem?_set_ne hjk] at hv'; cases hu; have hk0 : k < s.boxes.length := by omega
     exact fun q hq hq' => by have := hnew q hq; have := hdn k _ v (by omega) (List.getElem?_eq_getElem hk0) hv' q hq'; omega
   · by_cases e2 : i = k
     · subst e2; rw [List.getElem?_set_self hi] at hv'; rw [List.getElem?_set_ne e] at hu; cases hv'; have hj0 : j < s.boxes.length := by omega
       exact fun q hq hq' => by have := hnew q hq'; have := hdn j _ u (by omega) (List.getElem?_eq_getElem hj0) hu q hq; omega
     · rw [List.getElem?_set_ne e] at hu; rw [List.getElem?_set_ne e2] at hv'; exact h.mm j k u v (by omega) (by omega) hjk hu hv'
theorem PartS.cell {B i p : Nat} {w : World} {vb vs : Value} {vm : List Value} {s : Stt} (h : PartS B i p w vb vs vm s) {j : Nat} {b : Bx} (hb : s.boxes[j]? = some b) : ∃ g c v, vb = .slice (some ⟨g, 0, none⟩) s.boxes.length c ∧ vm[j]? = some v ∧ w.cell? ⟨g, j * 3 + 2, none⟩ = some v ∧ w.frozen? ⟨g, j * 3 + 2, none⟩ = false := by
 have hi0 : j < s.boxes.length := (List.getElem?_eq_some_iff.1 hb).1; have hi : j < vm.length := by rw [h.len]; exact hi0
 have hv : vm[j]? = some vm[j] := List.getElem?_eq_getElem hi
 rcases h.boxes.2 with ⟨_, hn⟩ | ⟨g, cap, cur, e, _, hg, _⟩
 · omega
 · have := World.ownsRow.cells h.boxes (g := g) (by rw [e]; rfl) (j * 3 + 2) vm[j] (by rw [qT (zO _ _) (vz _ _ _ _ _ hb hv) (by omega)]; rfl); rw [Addr.add_lit] at this; exact ⟨g, cap, _, e, hv, by simpa using this, by simp [World.frozen?, hg]⟩
theorem PartS.next {B i p : Nat} {w w' : World} {vb vs : Value} {vm : List Value} {s : Stt} (h : PartS B i p w vb vs vm s) (hb : Below w.heap.size w w') : PartS B i p w' vb vs vm s :=
 ⟨(hb.block p (Array.getElem?_eq_some_iff.1 h.here).1).trans h.here, je h.boxes fun k hk => hb.block k (World.ownsRow.lt h.boxes k hk).2, je h.spool fun k hk => hb.block k (World.ownsRow.lt h.spool k hk).2, h.len,
   fun j b v hj hb' hv => je (h.done j b v hj hb' hv) fun k hk => hb.block k (World.ownsRow.lt (h.done j b v hj hb' hv) k hk).2, fun j b v hj hb' hv => (h.left j b v hj hb' hv).next hb, h.bs, h.mb, h.mm, h.pb, h.ps, h.pB⟩
def SoP (B : Nat) (s : Stt) (v : Value) (w : World) : Prop := ∃ p vb vs vm, v = .pointer (some ⟨p, 0, none⟩) ∧ PartS B 0 p w vb vs vm s
theorem jmj {B p : Nat} {w : World} {vb vs : Value} {vm : List Value} {s : Stt} (h0 : w.heap[p]? = some (.cells #[vb, vs] 133)) (hb : w.ownsRow B 40 3 vb s.boxes.length (bxCs s.boxes vm).flatten) (hs : w.ownsRow B 25 6 vs s.spool.length (s.spool.map entC).flatten) (hl : vm.length = s.boxes.length)
 (hm : ∀ (j : Nat) b v, s.boxes[j]? = some b → vm[j]? = some v → MailsM (fun k => k < B) w v b.mails) (a1 : Apart vb vs) (a2 : vb.ownBlock ≠ some p) (a3 : vs.ownBlock ≠ some p) (hp : B ≤ p) : SoP B s (.pointer (some ⟨p, 0, none⟩)) w :=
 ⟨p, vb, vs, vm, rfl, h0, hb, hs, hl, fun j b v hj => by omega, fun j b v _ => hm j b v, a1, fun j v hj => by omega, fun j k u v hj => by omega, a2, a3, hp⟩
theorem jcT {u v : Value} {N : Nat} (h1 : ∀ k, u.ownBlock = some k → k < N) (h2 : ∀ k, v.ownBlock = some k → N ≤ k) : Apart u v := fun k hk hk' => by have := h1 k hk; have := h2 k hk'; omega
theorem vy {w : World} {B B' k n : Nat} {e : TypeId} {v : Value} {xs : List Value} (h : w.ownsRow B' e k v n xs) (hB : B ≤ B') : w.ownsRow B e k v n xs := ⟨h.1, h.2.imp id fun ⟨g', cap, cur, e, hb, r⟩ => ⟨g', cap, cur, e, Nat.le_trans hB hb, r⟩⟩
theorem vZ {w w' : World} {B k n : Nat} {e : TypeId} {v : Value} {xs : List Value} (h : w.ownsRow B e k v n xs) (hb : Below w.heap.size w w') : w'.ownsRow B e k v n xs := je h fun k hk => hb.block k (World.ownsRow.lt h k hk).2
theorem jx {w : World} {B k n : Nat} {e : TypeId} {v : Value} {xs : List Value} (h : w.ownsRow B e k v n xs) : ∃ a c, v = .slice a n c := by
 rcases h.2 with ⟨rfl, hn⟩ | ⟨g, cap, cur, rfl, _⟩
 · exact ⟨none, 0, by rw [hn]⟩
 · exact ⟨_, _, rfl⟩
theorem RowM.lows {A : Type} {Q : Nat → Prop} {k : Nat} {P P' : A → List Value → Prop} {w : World} {v : Value} {l : List A} (h : RowM Q k P w v l) (hp : ∀ x cs, P x cs → P' x cs) : RowM (fun b => b < w.heap.size) k P' w v l := by
 obtain ⟨a, c, hv, hm, hx⟩ := h; refine ⟨a, c, hv, hm, fun i x hi => ?_⟩; obtain ⟨b, o, cs, ha, hb, _, hl, hc, hP⟩ := hx i x hi; exact ⟨b, o, cs, ha, hb, hb, hl, hc, hp x cs hP⟩
theorem SttM.lows {Q : Nat → Prop} {w : World} {vb vs : Value} {s : Stt} (h : SttM Q w vb vs s) : SttM (fun b => b < w.heap.size) w vb vs s :=
 ⟨RowM.lows h.1 fun _ _ ⟨v, e, hm⟩ => ⟨v, e, RowM.lows hm fun _ _ h => h⟩, RowM.lows h.2.1 fun _ _ h => h, h.2.2⟩
theorem zI {w w' : World} {b : Nat} {x : Obj} (h : Below w.heap.size w w') (hb : w.heap[b]? = some x) : w'.heap[b]? = some x := (h.block b (Array.getElem?_eq_some_iff.1 hb).1).trans hb
theorem zu {w : World} {p : Nat} {v0 v1 : Value} {t : TypeId} (h : w.heap[p]? = some (.cells #[v0, v1] t)) : w.cell? ⟨p, 0, none⟩ = some v0 ∧ w.cell? ⟨p, 1, none⟩ = some v1 ∧ w.frozen? ⟨p, 0, none⟩ = false ∧ w.frozen? ⟨p, 1, none⟩ = false := by
 refine ⟨?_, ?_, ?_, ?_⟩ <;> simp [World.cell?, World.frozen?, h]
theorem jin {n a b : Nat} (h : a = n + 2) (hs : a ≤ b) : n ≠ b := by omega
theorem far2 {w : World} {n p i j k : Nat} {v a b : Value} (h : n ≠ p) (hc : w.cell? ⟨n, j, none⟩ = some v) : ((w.setCell ⟨p, i, none⟩ a).setCell ⟨p, k, none⟩ b).cell? ⟨n, j, none⟩ = some v := by
 rw [World.cell?_of_block (w := w.setCell ⟨p, i, none⟩ a) (jp h), World.cell?_of_block (w := w) (jp h)]; exact hc
theorem jW {w w' : World} {p : Addr} {v : Value} (h : w.frozen? p = false) (hc : w.cell? p = some v) (hb : Below w.heap.size w w') : w'.frozen? p = false := (World.frozen?_of_block (hb.block p.block (World.block_lt_of_cell? w _ hc))).trans h
theorem OwnS.base {B B' : Nat} {w : World} {vb vs : Value} {vm : List Value} {s : Stt} (h : OwnS B' w vb vs vm s) (hB : B ≤ B') : OwnS B w vb vs vm s := ⟨vy h.boxes hB, vy h.spool hB, h.len, fun i b v hb hv => vy (h.mails i b v hb hv) hB, h.bs, h.mb, h.ms, h.mm⟩
def SoR (w : World) (s : Stt) (e : Ending) (w' : World) : Prop := ∃ vb vs vm, e = .returned (.agg #[vb, vs]) ∧ OwnS w.heap.size w' vb vs vm s ∧ Below w.heap.size w w'
def SoQ (B : Nat) (W0 : World) (s : Stt) (v : Value) (w : World) : Prop := SoP B s v w ∧ Below W0.heap.size W0 w
theorem jiU {B p Bb Be : Nat} {W0 w3 wx : World} {vb vs : Value} {vm : List Value} {s : Stt} (hw : wx.heap[p]? = some (.cells #[vb, vs] 133)) (hoth : ∀ k, k < w3.heap.size → k ≠ p → wx.heap[k]? = w3.heap[k]?) (hsz : w3.heap.size ≤ wx.heap.size) (hbel : Below W0.heap.size W0 wx)
 (hob : w3.ownsRow Bb 40 3 vb s.boxes.length (bxCs s.boxes vm).flatten) (hoe : w3.ownsRow Be 25 6 vs s.spool.length (s.spool.map entC).flatten) (h1 : B ≤ Bb) (h2 : B ≤ Be) (hap : Apart vb vs) (hpb : vb.ownBlock ≠ some p) (hps : vs.ownBlock ≠ some p) (hl : vm.length = s.boxes.length)
 (hms : ∀ (j : Nat) b v, s.boxes[j]? = some b → vm[j]? = some v → MailsM (fun k => k < B) w3 v b.mails) (hp : B ≤ p) : SoQ B W0 s (.pointer (some ⟨p, 0, none⟩)) wx := by
 refine ⟨jmj hw (je (vy hob h1) fun k hk => hoth k (World.ownsRow.lt hob k hk).2 fun e => hpb (by rw [← e]; exact hk)) (je (vy hoe h2) fun k hk => hoth k (World.ownsRow.lt hoe k hk).2 fun e => hps (by rw [← e]; exact hk)) hl ?_ hap hpb hps hp, hbel⟩; intro j b v hb hv; exact (hms j b v hb hv).imp (fun _ h => h) ⟨hsz, fun k hk hq => hoth k hk (by omega)⟩
theorem zK {w : World} {p : Nat} {v0 v1 u0 u1 : Value} {t : TypeId} (h : w.heap[p]? = some (.cells #[v0, v1] t)) : ((w.setCell ⟨p, 0, none⟩ u0).setCell ⟨p, 1, none⟩ u1).heap[p]? = some (.cells #[u0, u1] t) := by
 have h1 := heap_setCell_same w p 0 #[v0, v1] t u0 h; have h2 := heap_setCell_same (w.setCell ⟨p, 0, none⟩ u0) p 1 _ t u1 h1; rw [h2]; rfl
theorem jhb (s : Stt) (vb0 vs0 : Value) (w : World) (Q : Nat → Prop) (hS0 : SttM Q w vb0 vs0 s) (hM : May s) :
 Calls Tryz.prog 60 #[.agg #[vb0, vs0]] w (SoR w s) := by
 have hS := hS0.lows; have hn1 := hM.boxes; have hn2 := hM.spool; have HMM := hid (fun b hb => (hM.each b hb).many); obtain ⟨ab, cb, rfl⟩ := RowM.slice hS.1; obtain ⟨aq, cq, rfl⟩ := RowM.slice hS.2.1; obtain ⟨W0, hW0⟩ : ∃ W0, W0 = (w.alloc (.cells #[.slice ab s.boxes.length cb, .slice aq s.spool.length cq] 44)).alloc (.cells #[.slice none 0 0, .slice none 0 0] 133) := ⟨_, rfl⟩; have HWE := hid hW0; have hB0 : Below w.heap.size w W0 := by rw [hW0]; exact (nb0 _ _).alloc (by simp) _
 have HB0 := hid hB0; have hz0 : W0.heap.size = w.heap.size + 2 := by rw [hW0]; simp
 have x0 : W0.cell? ⟨w.heap.size, 0, none⟩ = some (.slice ab s.boxes.length cb) := by rw [hW0]; exact jX (by simp) _
 have x1 : W0.cell? ⟨w.heap.size, 1, none⟩ = some (.slice aq s.spool.length cq) := by rw [hW0]; exact jX (by simp) _
 have hR : W0.heap[w.heap.size + 1]? = some (.cells #[.slice none 0 0, .slice none 0 0] 133) := by rw [hW0]; have := heap_alloc_new (w.alloc (.cells #[.slice ab s.boxes.length cb, .slice aq s.spool.length cq] 44)) (.cells #[.slice none 0 0, .slice none 0 0] 133); simpa using this
 have HR := hid hR; have hSW := (hS.next hB0).lows; have HCB := hid (fun u (hu : Below W0.heap.size W0 u) => jmv s.boxes _ u (fun k => k < W0.heap.size) (hSW.1.next hu) (by omega)); have HCE := hid (fun u (hu : Below W0.heap.size W0 u) => jmw s.spool _ u (fun k => k < W0.heap.size) (hSW.2.1.next hu) (by omega)); have hne0 : w.heap.size ≠ W0.heap.size := by omega
 have HCF := hid (fun u (hu : Below W0.heap.size W0 u) (_ : u.heap[W0.heap.size]? = some (.cells #[.slice none 0 0, .slice none 0 0] 133)) => HCE.out u hu); have HBA := hid (show Below W0.heap.size W0 (W0.alloc (.cells #[.slice none 0 0, .slice none 0 0] 133)).drew from ((Below.refl W0.heap.size W0).alloc (Nat.le_refl _) _).drew); have HNA := hid (show (W0.alloc (.cells #[.slice none 0 0, .slice none 0 0] 133)).drew.heap[W0.heap.size]? = some (.cells #[.slice none 0 0, .slice none 0 0] 133) from heap_alloc_new W0 _); have HZ0 := hid hz0; clear hS0 hS hM hW0 hB0 hR hSW hz0; go_enter Tryz.func60, Tryz.ntmps60; go_wp2; rw [← HWE.out]
 go_cut [3] (fun v wx => SoQ W0.heap.size W0 s v wx)
 case first =>
  go_region_held3 (fun w' => w'.cell? ⟨w.heap.size, 0, none⟩ = some (.slice ab s.boxes.length cb) ∧ w'.cell? ⟨w.heap.size, 1, none⟩ = some (.slice aq s.spool.length cq)) (first | (go_keep; done) | exact ⟨far2 hne2 r0, far2 hne2 r1⟩ | exact ⟨far2 hne0 r0, far2 hne0 r1⟩ | fail)
   (first
        | (go_at_call 88
           with_reducible refine (HCF.out _ HBb.out HPc.out).mono ?_
           rintro e w3 ⟨vs, rfl, hoe, hb⟩; obtain ⟨a2, c2, rfl⟩ := jx hoe; have HBf := hid (HBb.out.trans (hb.mono HBb.out.size)); have HOE := hid hoe; have HOB2 := hid (vZ HOB.out hb); have HMS2 := hid (fun (j : Nat) b v hj hv => (HMS.out j b v hj hv).next hb); have HPe := hid (zI hb HPc.out); obtain ⟨t0, t1, f0, f1⟩ := zu HPe.out; have r0 := ja q0 hb; have r1 := ja q1 hb; clear hb hoe)
        | (go_at_call 88
           with_reducible refine (HCE.out _ HBb.out).mono ?_
           rintro e w3 ⟨vs, rfl, hoe, hb⟩; obtain ⟨a2, c2, rfl⟩ := jx hoe; have HBf := hid (HBb.out.trans (hb.mono HBb.out.size)); have HOE := hid hoe; have HOB2 := hid (vZ HOB.out hb); have HMS2 := hid (fun (j : Nat) b v hj hv => (HMS.out j b v hj hv).next hb); have r0 := ja q0 hb; have r1 := ja q1 hb; clear hb hoe)
        | (go_at_call 88
           with_reducible refine (HCE.out (w2.alloc (.cells #[.slice none 0 0, .slice none 0 0] 133)) (HBb.out.alloc HBb.out.size _)).mono ?_
           rintro e w3 ⟨vs, rfl, hoe, hb⟩; obtain ⟨a2, c2, rfl⟩ := jx hoe; have hba : Below w2.heap.size w2 (w2.alloc (.cells #[.slice none 0 0, .slice none 0 0] 133)) := nb0 _ _; have hbb : Below w2.heap.size w2 w3 := hba.trans (hb.mono hba.size); have HBf := hid (HBb.out.trans (hbb.mono HBb.out.size)); have HOE := hid hoe; have HOB2 := hid (vZ HOB.out hbb); have HMS2 := hid (fun (j : Nat) b v hj hv => (HMS.out j b v hj hv).next hbb); have HPe := hid (zI hb (heap_alloc_new w2 (.cells #[.slice none 0 0, .slice none 0 0] 133))); obtain ⟨t0, t1, f0, f1⟩ := zu HPe.out; have r0 := ja q0 hbb; have r1 := ja q1 hbb; clear hb hoe hba hbb)
        | (go_at_call 87
           with_reducible refine (HCB.out W0.drew ((Below.refl _ _).drew)).mono ?_
           rintro e w2 ⟨vb, vm, rfl, hob, hlm, hmm, hb⟩; obtain ⟨a1, c1, rfl⟩ := jx hob; have hb2 : Below W0.heap.size W0 w2 := (Below.refl _ _).drew.trans hb; have HBb := hid hb2; have HOB := hid hob; have HLM := hid hlm; have HMS := hid (fun (j : Nat) b v hj hv => (hmm j b v hj hv).next hb); have q0 := ja x0 hb2; have q1 := ja x1 hb2; have hne2 := jin HZ0.out hb2.size; clear hb hb2 hob hlm hmm)
        | (go_at_call 87
           with_reducible refine (HCB.out ((W0.alloc (.cells #[.slice none 0 0, .slice none 0 0] 133)).drew) HBA.out).mono ?_
           rintro e w2 ⟨vb, vm, rfl, hob, hlm, hmm, hb⟩; obtain ⟨a1, c1, rfl⟩ := jx hob; have hb2 : Below W0.heap.size W0 w2 := HBA.out.trans (hb.mono HBA.out.size); have HBb := hid hb2; have HOB := hid hob; have HLM := hid hlm; have HMS := hid (fun (j : Nat) b v hj hv => (hmm j b v hj hv).next hb); have HPc := hid (zI hb HNA.out); have q0 := ja x0 hb2; have q1 := ja x1 hb2; have hne2 := jin HZ0.out hb2.size; clear hb hb2 hob hlm hmm)
        | fail)
  · go_wp2_with fail
    go_meet
    have hs2 := HBb.out.size; have hz0 := HZ0.out; exact jiU (p := w3.heap.size) (heap_alloc_new w3 _) (fun k hk _ => heap_alloc_old w3 _ hk) (by simp) (HBf.out.alloc HBf.out.size _) HOB2.out HOE.out (Nat.le_refl _) (by omega) (jcT (N := w2.heap.size) (fun k hk => (World.ownsRow.lt HOB.out k hk).2) (fun k hk => (World.ownsRow.lt HOE.out k hk).1)) (fun e => by have := (World.ownsRow.lt HOB2.out _ e).2; omega) (fun e => by have := (World.ownsRow.lt HOE.out _ e).2; omega) HLM.out HMS2.out (by have := HBf.out.size; omega)
  · go_wp2_with fail
    go_meet
    have hs2 := HBb.out.size; have hz0 := HZ0.out; exact jiU (p := w2.heap.size) (zK HPe.out) (fun k hk hne => (jp hne).trans (jp hne)) (by simp) ((HBf.out.setCell hs2 _).setCell hs2 _) HOB2.out HOE.out (Nat.le_refl _) (by simp; omega) (jcT (N := w2.heap.size) (fun k hk => (World.ownsRow.lt HOB.out k hk).2) (fun k hk => by have := (World.ownsRow.lt HOE.out k hk).1; simp at this; omega)) (fun e => by have := (World.ownsRow.lt HOB.out _ e).2; omega) (fun e => by have := (World.ownsRow.lt HOE.out _ e).1; simp at this; omega) HLM.out HMS2.out (by omega)
  · go_wp2_with fail
    go_meet
    have hs2 := HBb.out.size; have hz0 := HZ0.out; exact jiU (p := W0.heap.size) (zK HPe.out) (fun k hk hne => (jp hne).trans (jp hne)) (by simp) ((HBf.out.setCell (Nat.le_refl _) _).setCell (Nat.le_refl _) _) HOB2.out HOE.out (by simp) (by omega) (jcT (N := w2.heap.size) (fun k hk => (World.ownsRow.lt HOB.out k hk).2) (fun k hk => (World.ownsRow.lt HOE.out k hk).1)) (fun e => by have := (World.ownsRow.lt HOB.out _ e).1; simp at this; omega) (fun e => by have h1 := (World.ownsRow.lt HOE.out _ e).1; have h2 := (Array.getElem?_eq_some_iff.1 HPc.out).1; omega) HLM.out HMS2.out (by omega)
 case rest =>
  obtain ⟨⟨p, vb, vs, vm, rfl, hP⟩, hbc⟩ := hcut; have HBC := hid hbc; obtain ⟨a1, c1, rfl⟩ := jx hP.boxes; obtain ⟨a2, c2, rfl⟩ := jx hP.spool; obtain ⟨t0, t1, f0, f1⟩ := zu hP.here; have HP := hid hP; clear hP hbc HCB HCE; go_wp2
  go_loopw [15] (fun v wr => ∃ (i : Nat) (vm : List Value), i ≤ s.boxes.length ∧ v = .int .i64 i ∧ Hid (PartS W0.heap.size i p wr (.slice a1 s.boxes.length c1) (.slice a2 s.spool.length c2) vm s) ∧ Hid (Below W0.heap.size W0 wr)) (fun v _ => s.boxes.length - (intOf v).toNat)
  case atStart => exact ⟨0, vm, Nat.zero_le _, rfl, HP, HBC⟩
  case round =>
   obtain ⟨i, vm', hi, rfl, HQ, HB⟩ := hrel; obtain ⟨z0, z1, g0, g1⟩ := zu HQ.out.here
   by_cases hlt : i < s.boxes.length
   · have i1 : (i : Int) < (s.boxes.length : Int) := by omega
     have i0 : (0 : Int) ≤ (i : Int) := by omega
     obtain ⟨b, hb⟩ : ∃ b, s.boxes[i]? = some b := ⟨_, List.getElem?_eq_getElem hlt⟩; obtain ⟨g, c, v, e, hv, k2, l2⟩ := HQ.out.cell hb; simp only [Value.slice.injEq, true_and] at e; obtain ⟨rfl, rfl⟩ := e; have hM := HQ.out.left i b v (Nat.le_refl _) hb hv; obtain ⟨am, cm, rfl⟩ := RowM.slice hM; have hgp : g ≠ p := fun e => HQ.out.pb (by rw [e]; rfl)
     have HC := hid (fun u (hu : Below wr.heap.size wr u) => jmx b.mails _ u _ (hM.next hu) (by have := HMM.out b (List.mem_of_getElem? hb); omega)); have HBX := hid hb; clear hb hM hv; go_wp2; have HCD := hid (HC.out wr.drew ((Below.refl _ _).drew))
     go_region_law
      (first
      | (go_simp
         go_at_call 89
         refine HCD.out.mono ?_; rintro e w2 ⟨v', rfl, hov, hb⟩; obtain ⟨a3, c3, rfl⟩ := jx hov; have hb2 : Below wr.heap.size wr w2 := (Below.refl _ _).drew.trans hb; have y0 := ja z0 hb2; have y2 := ja k2 hb2; have yf := jW l2 k2 hb2; have HOV := hid hov; have HB2 := hid hb2; clear hb hb2 hov)
      | fail)
     all_goals
      have HN := hid (HQ.out.more HBX.out HB2.out HB.out.size HOV.out); have HB3 := hid (show Below W0.heap.size W0 (w2.setCell ⟨g, i * 3 + 2, none⟩ (.slice a3 b.mails.length c3)) from (HB.out.trans (HB2.out.mono HB.out.size)).setCell (show W0.heap.size ≤ g from (World.ownsRow.lt HQ.out.boxes g rfl).1) _); go_wp2
      go_roundw
      case rel => first | exact ⟨i + 1, _, by omega, by go_num, HN, HB3⟩ | ((repeat apply Exists.intro); exact ⟨⟨i + 1, _, by omega, by go_num, HN, HB3⟩, rfl⟩)
      case measure => simp [intOf]; omega
   · have i1 : ¬ (i : Int) < (s.boxes.length : Int) := by omega
     have hR := zI HB.out HR.out; obtain ⟨u0, u1, h0, h1⟩ := zu hR; have HO := hid (HQ.out.own (by omega)); have hz0 := HZ0.out; have HE := hid (show ∀ u v : Value, OwnS w.heap.size ((wr.setCell ⟨w.heap.size + 1, 0, none⟩ u).setCell ⟨w.heap.size + 1, 1, none⟩ v) (.slice a1 s.boxes.length c1) (.slice a2 s.spool.length c2) vm' s ∧ Below w.heap.size w ((wr.setCell ⟨w.heap.size + 1, 0, none⟩ u).setCell ⟨w.heap.size + 1, 1, none⟩ v) from fun u v =>
      ⟨(HO.out.base HB0.out.size).keep fun k hk => by
        have hk' : k ≠ w.heap.size + 1 := by have := (HO.out.lt hk).1; omega
        exact (jp hk').trans (jp hk'), ((HB0.out.trans (HB.out.mono HB0.out.size)).setCell (Nat.le_succ _) _).setCell (Nat.le_succ _) _⟩)
     obtain ⟨v0, v1, j0, j1⟩ := zu (zK (u0 := .slice a1 s.boxes.length c1) (u1 := .slice a2 s.spool.length c2) hR); clear hR hz0; go_wp2; refine bodyPost_ret (v := .agg #[.slice a1 s.boxes.length c1, .slice a2 s.spool.length c2]) (by simp [results, Tryz.results60, go_sem, *]) rfl ?_; exact ⟨_, _, vm', rfl, HE.out _ _⟩
def Sto (B p : Nat) (w : World) (s : Stt) : Prop := ∃ vb vs vm, w.heap[p]? = some (.cells #[vb, vs] 133) ∧ OwnS B w vb vs vm s ∧ ¬ inS vb vs vm p ∧ B ≤ p
def DoP (B p : Nat) (w : World) (r : Except Int Stt) (e : Ending) (w' : World) : Prop := Below B w w' ∧ match r with
 | .error z => e = .returned (.int .i64 z)
 | .ok s' => e = .returned (.int .i64 0) ∧ Sto B p w' s'
theorem DoP.trans {B p : Nat} {w u w' : World} {r : Except Int Stt} {e : Ending} (hb : Below B w u) (h : DoP B p u r e w') : DoP B p w r e w' := ⟨hb.trans h.1, h.2⟩
theorem jfn (w : World) (a b c : Value) (t : TypeId) : ∀ j u, [a, b, c][j]? = some u → (w.alloc (.cells #[a, b, c] t)).cell? ((⟨w.heap.size, 0, none⟩ : Addr).add j) = some u := by
 intro j u hj; rw [Addr.add_lit]; have := heap_alloc_new w (.cells #[a, b, c] t); simp only [World.cell?, this, Nat.zero_add]
 simpa using hj
theorem Sto.next {B p : Nat} {w w' : World} {s : Stt} (h : Sto B p w s) (hb : Below w.heap.size w w') : Sto B p w' s := by
 obtain ⟨vb, vs, vm, h1, h2, h3, h4⟩ := h; exact ⟨vb, vs, vm, zI hb h1, h2.next hb, h3, h4⟩
theorem qG {B : Nat} {w : World} {vb vs : Value} {vm : List Value} {s : Stt} {i : Nat} {b : Bx} {v : Value} (h : OwnS B w vb vs vm s) (hb : s.boxes[i]? = some b) (hv : vm[i]? = some v) : ∃ a c, v = .slice a b.mails.length c := jx (h.mails i b v hb hv)
theorem jlh {B p g c gm cm i : Nat} {w w1 w5 : World} {vs v : Value} {vm : List Value} {s : Stt} {b : Bx} {f : Int} {t : List UInt8}
 (hp : w.heap[p]? = some (.cells #[.slice (some ⟨g, 0, none⟩) s.boxes.length c, vs] 133)) (hO : OwnS B w (.slice (some ⟨g, 0, none⟩) s.boxes.length c) vs vm s) (hn : ¬ inS (.slice (some ⟨g, 0, none⟩) s.boxes.length c) vs vm p) (hBp : B ≤ p) (hb : s.boxes[i]? = some b) (hv : vm[i]? = some v)
 (hw1 : Below w.heap.size w w1) (hgrow : w1.grownBy w5 v.ownBlock) (hown : w5.ownsRow B 173 3 (.slice (some ⟨gm, 0, none⟩) (b.mails.length + 1) cm) (b.mails.length + 1) ((b.mails.map j9).flatten ++ j9 ⟨b.next, f, t⟩)) (hat : v.ownBlock = some gm ∨ gm = w1.heap.size ∨ w.heap.size ≤ gm) :
 Sto B p ((w5.setCell ⟨g, i * 3 + 2, none⟩ (.slice (some ⟨gm, 0, none⟩) (b.mails.length + 1) cm)).setCell ⟨g, i * 3 + 1, none⟩ (.int .i64 (b.next + 1))) ⟨s.boxes.set i ⟨b.name, b.next + 1, b.mails ++ [⟨b.next, f, t⟩]⟩, s.spool⟩ ∧
 Below B w ((w5.setCell ⟨g, i * 3 + 2, none⟩ (.slice (some ⟨gm, 0, none⟩) (b.mails.length + 1) cm)).setCell ⟨g, i * 3 + 1, none⟩ (.int .i64 (b.next + 1))) := by
 have hi0 : i < s.boxes.length := (List.getElem?_eq_some_iff.1 hb).1; have hi : i < vm.length := by rw [hO.len]; exact hi0
 have hd : vm.getD i (.slice none 0 0) = v := by rw [List.getD_eq_getElem?_getD, hv]; rfl
 have hgg : some g ≠ v.ownBlock := fun e => hO.mb v (List.mem_of_getElem? hv) g e.symm rfl
 have hgB : B ≤ g := (World.ownsRow.lt hO.boxes g rfl).1; have hsz : w.heap.size ≤ w1.heap.size := hw1.size; have hk5 : ∀ k, k < w.heap.size → some k ≠ v.ownBlock → w5.heap[k]? = w.heap[k]? := fun k hk hne => (hgrow.block k (by omega) hne).trans (hw1.block k hk)
 have hpl : p < w.heap.size := (Array.getElem?_eq_some_iff.1 hp).1; have hpg : p ≠ g := fun e => hn (.inl (by rw [e]; rfl))
 have hpv : some p ≠ v.ownBlock := fun e => hn (.inr (.inr ⟨v, List.mem_of_getElem? hv, e.symm⟩))
 have h1 := hO.setMails (v' := .slice (some ⟨gm, 0, none⟩) (b.mails.length + 1) cm) (ms := b.mails ++ [⟨b.next, f, t⟩]) hb (w' := w5) (by rw [hd]; exact hk5) (by simpa using hown) (by
  rw [hd]
  rcases hat with e | e | e
  · exact .inl e.symm
  · exact .inr fun k hk => by have : gm = k := Option.some.inj hk; omega
  · exact .inr fun k hk => by have : gm = k := Option.some.inj hk; omega)
 have h2 := OwnS.setNext (i := i) (b := ⟨b.name, b.next, b.mails ++ [⟨b.next, f, t⟩]⟩) (n := b.next + 1) (s := ⟨s.boxes.set i ⟨b.name, b.next, b.mails ++ [⟨b.next, f, t⟩]⟩, s.spool⟩) (by simpa using h1) (List.getElem?_set_self hi0); refine ⟨⟨.slice (some ⟨g, 0, none⟩) s.boxes.length c, vs, vm.set i (.slice (some ⟨gm, 0, none⟩) (b.mails.length + 1) cm), ?_, by simpa [List.set_set] using h2, ?_, hBp⟩, ?_⟩
 · exact (jp hpg).trans ((jp hpg).trans ((hk5 p hpl hpv).trans hp))
 · rintro (e | e | ⟨u, hu, e⟩)
   · exact hn (.inl e)
   · exact hn (.inr (.inl e))
   · rcases qH hu with rfl | hu
     · have e' : gm = p := Option.some.inj e
       rcases hat with h | h | h
       · exact hpv (by rw [h, e'])
       · omega
       · omega
     · exact hn (.inr (.inr ⟨u, hu, e⟩))
 · have h5 : Below B w w5 := by
    refine ⟨hgrow.os.trans hw1.os, hgrow.tape.trans hw1.tape, hgrow.output.trans hw1.output, Nat.le_trans hsz hgrow.size, fun k hk => hk5 k ?_ ?_⟩
    · omega
    · intro e; have := (World.ownsRow.lt (hO.mails i b v hb hv) k e.symm).1; omega
   exact (h5.setCell hgB _).setCell hgB _
theorem jfx (B p g c i : Nat) (vs : Value) (vm : List Value) (s : Stt) (b : Bx) (f : Int) (t : List UInt8) (w : World) (hp : w.heap[p]? = some (.cells #[.slice (some ⟨g, 0, none⟩) s.boxes.length c, vs] 133)) (hO : OwnS B w (.slice (some ⟨g, 0, none⟩) s.boxes.length c) vs vm s) (hn : ¬ inS (.slice (some ⟨g, 0, none⟩) s.boxes.length c) vs vm p) (hBp : B ≤ p) (hb : s.boxes[i]? = some b) (hM : May s) (ht : t.length ≤ 2000) :
 Calls Tryz.prog 93 #[.pointer (some ⟨p, 0, none⟩), .pointer (some ⟨g, i * 3, none⟩), .int .i64 f, .string (S t)] w (DoP B p w (addM s i f t)) := by
 obtain ⟨g', c', v, e, hv, e0, e1, e2, f1, f2⟩ := hO.box hb; simp only [Value.slice.injEq, Option.some.injEq, Addr.mk.injEq, and_true, true_and] at e; obtain ⟨rfl, rfl⟩ := e; obtain ⟨am, cm, rfl⟩ := qG hO hb hv; obtain ⟨p0, p1, q0, q1⟩ := zu hp; have hbm := (hM.each b (List.mem_of_getElem? hb)).many; have hBB : B ≤ w.heap.size := by have := (World.ownsRow.lt hO.boxes g rfl); omega
 obtain ⟨r, hr⟩ : ∃ r, r = addM s i f t := ⟨_, rfl⟩; have HR := hid hr; rw [← hr]; have HRF := hid (show (30 ≤ b.mails.length ∨ 1048576 < b.next ∨ 6000 < jY s.boxes + t.length) → r = .error 5 from fun h => by rw [hr]; unfold addM; rw [hb]; simp only [if_pos h]); clear hr
 by_cases h30 : 30 ≤ b.mails.length
 · have hi : (30 : Int) ≤ (b.mails.length : Int) := by omega
   have HE := hid (show DoP B p w r (.returned (.int .i64 5)) w by rw [HRF.out (.inl h30)]; exact ⟨Below.refl _ _, rfl⟩); clear HR HRF hb hv hM hO hp hn; go_enter Tryz.func93, Tryz.ntmps93; go_wp2; go_ret; exact HE.out
 · have hi : ¬ (30 : Int) ≤ (b.mails.length : Int) := by omega
   by_cases hmx : 1048576 < b.next
   · have HE := hid (show DoP B p w r (.returned (.int .i64 5)) w by rw [HRF.out (.inr (.inl hmx))]; exact ⟨Below.refl _ _, rfl⟩); clear HR HRF hb hv hM hO hp hn; go_enter Tryz.func93, Tryz.ntmps93; go_wp2; go_ret; exact HE.out
   · have hSt := hO.stt (Q := fun _ => True) hM (fun _ _ => trivial); have HSZ := hid (jcK s.boxes (some ⟨g, 0, none⟩) c w _ hSt.1 hM.size); have hz := hM.size
     by_cases hq : 6000 < jY s.boxes + t.length
     · have hqi : (6000 : Int) < ((jY s.boxes : Nat) : Int) + ((S t).size : Int) := by rw [jd]; omega
       have hqj : ((jY s.boxes : Nat) : Int) + ((S t).size : Int) ≤ 10000 := by rw [jd]; omega
       have HE := hid (show ∀ u, Below w.heap.size w u → DoP B p w r (.returned (.int .i64 5)) u from fun u hu => by rw [HRF.out (.inr (.inr hq))]; exact ⟨hu.mono hBB, rfl⟩); clear HR HRF hb hv hM hO hp hn hSt; generalize ((jY s.boxes : Nat) : Int) = z at *; go_enter Tryz.func93, Tryz.ntmps93; go_wp2_with fail; refine HSZ.out.mono ?_; rintro e w1 ⟨rfl, hb1⟩; have HE1 := hid (HE.out w1 hb1); clear hb1; go_wp2; go_ret; exact HE1.out
     · have hqi : ¬ (6000 : Int) < ((jY s.boxes : Nat) : Int) + ((S t).size : Int) := by rw [jd]; omega
       have hqj : (0 : Int) ≤ ((jY s.boxes : Nat) : Int) + ((S t).size : Int) := by rw [jd]; omega
       have HOK := hid (show r = .ok ⟨s.boxes.set i ⟨b.name, b.next + 1, b.mails ++ [⟨b.next, f, t⟩]⟩, s.spool⟩ by rw [HR.out]; unfold addM; rw [hb]; simp only; rw [if_neg (by omega)]); have hnx := (hM.each b (List.mem_of_getElem? hb)).next; obtain ⟨i0, hi', hz0, hz1, hz2⟩ := info_parts jk4; have HB0 := hid hb; have HV0 := hid hv; have HO0 := hid hO; have HP0 := hid hp; have HN0 := hid hn; clear HR HRF hb hv hM hO hp hn hSt; generalize hzz : ((jY s.boxes : Nat) : Int) = z at *; clear hzz; go_enter Tryz.func93, Tryz.ntmps93; go_wp2_with fail; refine HSZ.out.mono ?_; rintro e w1 ⟨rfl, hb1⟩; have y0 := ja e0 hb1; have y1 := ja e1 hb1; have y2 := ja e2 hb1; have yf1 := jW f1 e1 hb1; have yf2 := jW f2 e2 hb1; have HW1 := hid hb1; have hOm := vZ (HO0.out.mails i b _ HB0.out HV0.out) hb1; have HOM := hid hOm; have hs1 := hb1.size; have hgl : g < w1.heap.size := World.block_lt_of_cell? _ _ y1; have hgn : some g ≠ (Value.slice am b.mails.length cm).ownBlock := fun e => HO0.out.mb _ (List.mem_of_getElem? HV0.out) g e.symm rfl
       clear hb1 hOm; go_wp2
       go_region_law
        (first
           | (refine step_append_lies _ (by rfl) _ _ _ (by rfl) B 173 i0 _ 3 32 Tryz.underlying38 hi' hz0 hz1 hz2 rfl (by omega) (.slice am b.mails.length cm) b.mails.length ((b.mails.map j9).flatten) (by rfl) (by first | exact World.ownsRow.alloc (show World.ownsRow w1.drew _ _ _ _ _ _ from HOM.out) _ | exact (World.ownsRow.alloc HOM.out _).drew)
                ⟨w1.heap.size, 0, none⟩ 1 1 [.int .i64 b.next, .int .i64 f, .string (S t)] (by rfl) (by rfl) (by first | exact jfn w1.drew _ _ _ _ | exact jfn w1 _ _ _ _) (by simp [Value.oneCell']) (by omega) (by unfold maxLen; omega) (by omega) (by simp; omega) _ rfl ?_
              intro gm cap w5 hown5 hgrow hat hlt5; have x1 := hgrow.cell (a := ⟨g, i * 3 + 1, none⟩) (jX (w := w1.drew) y1 _) hgn; have x2 := hgrow.cell (a := ⟨g, i * 3 + 2, none⟩) (jX (w := w1.drew) y2 _) hgn; have xf1 : w5.frozen? ⟨g, i * 3 + 1, none⟩ = false := (World.frozen?_of_block (hgrow.block g (by simp; omega) hgn)).trans (jW (w := w1.drew) yf1 y1 (nb0 _ _)); have xf2 : w5.frozen? ⟨g, i * 3 + 2, none⟩ = false := (World.frozen?_of_block (hgrow.block g (by simp; omega) hgn)).trans (jW (w := w1.drew) yf2 y2 (nb0 _ _)); have HWA := hid (show Below w.heap.size w (w1.drew.alloc (.cells #[.int .i64 b.next, .int .i64 f, .string (S t)] 173)) from HW1.out.drew.alloc hs1 _); have HEN := hid (jlh HP0.out HO0.out HN0.out hBp HB0.out HV0.out HWA.out hgrow hown5 (hat.imp id Or.inl)); clear hown5 hgrow hat)
           | fail)
       all_goals
        have HF := hid (show DoP B p w r (.returned (.int .i64 0)) ((w5.setCell ⟨g, i * 3 + 2, none⟩ (.slice (some ⟨gm, 0, none⟩) (b.mails.length + 1) cap)).setCell ⟨g, i * 3 + 1, none⟩ (.int .i64 (b.next + 1))) by rw [HOK.out]; exact ⟨HEN.out.2, rfl, HEN.out.1⟩); have n1 : b.next ≤ 1048576 := by omega
        have n2 : 1 ≤ b.next := hnx.1; go_wp2; go_ret; exact HF.out
theorem jmH {A : Type} {q : A → Bool} {l : List A} : decide (0 ≤ idxZ q l) = (l.findIdx? q).isSome := by
 unfold idxZ; cases l.findIdx? q with
 | none => rfl
 | some i => simp
theorem jl3 {A : Type} (f : A → List Value) (l : List A) (x : A) : ((l ++ [x]).map f).flatten = (l.map f).flatten ++ f x := by simp
theorem jgf {B p gm cm : Nat} {w w1 w5 : World} {vb vs : Value} {vm : List Value} {s : Stt} {nm : List UInt8}
 (hp : w.heap[p]? = some (.cells #[vb, vs] 133)) (hO : OwnS B w vb vs vm s) (hn : ¬ inS vb vs vm p) (hBp : B ≤ p) (hw1 : Below w.heap.size w w1) (hgrow : w1.grownBy w5 vb.ownBlock)
 (hown : w5.ownsRow B 40 3 (.slice (some ⟨gm, 0, none⟩) (s.boxes.length + 1) cm) (s.boxes.length + 1) ((bxCs s.boxes vm).flatten ++ boxC ⟨nm, 1, []⟩ (.slice none 0 0))) (hat : vb.ownBlock = some gm ∨ gm = w1.heap.size) :
 Sto B p (w5.setCell ⟨p, 0, none⟩ (.slice (some ⟨gm, 0, none⟩) (s.boxes.length + 1) cm)) ⟨s.boxes ++ [⟨nm, 1, []⟩], s.spool⟩ ∧ Below B w (w5.setCell ⟨p, 0, none⟩ (.slice (some ⟨gm, 0, none⟩) (s.boxes.length + 1) cm)) := by
 have hsz : w.heap.size ≤ w1.heap.size := hw1.size; have hk5 : ∀ k, k < w.heap.size → some k ≠ vb.ownBlock → w5.heap[k]? = w.heap[k]? := fun k hk hne => (hgrow.block k (by omega) hne).trans (hw1.block k hk)
 have hpl : p < w.heap.size := (Array.getElem?_eq_some_iff.1 hp).1; have hpv : some p ≠ vb.ownBlock := fun e => hn (.inl e.symm)
 have hp5 : w5.heap[p]? = some (.cells #[vb, vs] 133) := (hk5 p hpl hpv).trans hp; have hgp : gm ≠ p := fun e => by
  rcases hat with h | h
  · exact hpv (by rw [h, e])
  · omega
 have hset := heap_setCell_same w5 p 0 #[vb, vs] 133 (.slice (some ⟨gm, 0, none⟩) (s.boxes.length + 1) cm) hp5; have far : ∀ k, k < w.heap.size → k ≠ p → some k ≠ vb.ownBlock → (w5.setCell ⟨p, 0, none⟩ (.slice (some ⟨gm, 0, none⟩) (s.boxes.length + 1) cm)).heap[k]? = w.heap[k]? := fun k h1 h2 h3 => (jp h2).trans (hk5 k h1 h3)
 have ap : ∀ u, Apart u vb → (∀ k, u.ownBlock = some k → k < w.heap.size) → Apart u (.slice (some ⟨gm, 0, none⟩) (s.boxes.length + 1) cm) := fun u hu hl k hk hk' => by
  have e : gm = k := Option.some.inj hk'
  rcases hat with h | h
  · exact hu k hk (by rw [h, e])
  · have := hl k hk; omega
 have hmem : ∀ u ∈ vm, ∀ k, u.ownBlock = some k → k < w.heap.size := fun u hu k hk => (hO.lt (.inr (.inr ⟨u, hu, hk⟩))).2
 refine ⟨⟨_, vs, vm ++ [.slice none 0 0], by rw [hset]; rfl, ⟨?_, ?_, by simp [hO.len], ?_, ?_, ?_, ?_, ?_⟩, ?_, hBp⟩, ?_⟩
 · show World.ownsRow _ B _ 3 _ (s.boxes ++ [(⟨nm, 1, []⟩ : Bx)]).length (bxCs (s.boxes ++ [(⟨nm, 1, []⟩ : Bx)]) (vm ++ [.slice none 0 0])).flatten
   rw [jjz _ _ _ _ hO.len]; refine je (w := w5) (by simpa using hown) fun k hk => ?_
   have e : gm = k := Option.some.inj hk; exact jp (by omega)
 · refine je hO.spool fun k hk => far k (World.ownsRow.lt hO.spool k hk).2 (fun e => hn (.inr (.inl (by rw [← e]; exact hk)))) fun e => hO.bs k e.symm hk
 · intro i b v hb hv
   rcases Nat.lt_or_ge i s.boxes.length with hi | hi
   · rw [List.getElem?_append_left hi] at hb; rw [List.getElem?_append_left (by rw [hO.len]; exact hi)] at hv; have hvm := List.mem_of_getElem? hv; exact je (hO.mails i b v hb hv) fun k hk => far k (hmem v hvm k hk) (fun e => hn (.inr (.inr ⟨v, hvm, by rw [← e]; exact hk⟩))) fun e => hO.mb v hvm k hk e.symm
   · rw [List.getElem?_append_right hi] at hb; rw [List.getElem?_append_right (by rw [hO.len]; exact hi), hO.len] at hv; cases hq : i - s.boxes.length with
     | zero =>
       rw [hq] at hb hv
       simp at hb hv
       subst hb; subst hv; exact World.ownsRow_nil _ _ _ _
     | succ q => rw [hq] at hb; simp at hb
 · intro k hk hk'; exact ap vs hO.bs.symm (fun k hk => (World.ownsRow.lt hO.spool k hk).2) k hk' hk
 · intro u hu
   rcases List.mem_append.1 hu with hu | hu
   · exact ap u (hO.mb u hu) (hmem u hu)
   · simp at hu; subst hu; intro k hk; cases hk
 · intro u hu
   rcases List.mem_append.1 hu with hu | hu
   · exact hO.ms u hu
   · simp at hu; subst hu; intro k hk; cases hk
 · intro i j u v hij hu hv
   rcases Nat.lt_or_ge i vm.length with hi | hi
   · rcases Nat.lt_or_ge j vm.length with hj | hj
     · rw [List.getElem?_append_left hi] at hu; rw [List.getElem?_append_left hj] at hv; exact hO.mm i j u v hij hu hv
     · rw [List.getElem?_append_right hj] at hv; cases hq : j - vm.length with
       | zero => rw [hq] at hv; simp at hv; subst hv; intro k _ hk; cases hk
       | succ q => rw [hq] at hv; simp at hv
   · rw [List.getElem?_append_right hi] at hu; cases hq : i - vm.length with
     | zero => rw [hq] at hu; simp at hu; subst hu; intro k hk; cases hk
     | succ q => rw [hq] at hu; simp at hu
 · rintro (e | e | ⟨u, hu, e⟩)
   · exact hgp (Option.some.inj e)
   · exact hn (.inr (.inl e))
   · rcases List.mem_append.1 hu with hu | hu
     · exact hn (.inr (.inr ⟨u, hu, e⟩))
     · simp at hu; subst hu; cases e
 · have hBw : B ≤ w.heap.size := by omega
   have h5 : Below B w w5 := ⟨hgrow.os.trans hw1.os, hgrow.tape.trans hw1.tape, hgrow.output.trans hw1.output, Nat.le_trans hsz hgrow.size, fun k hk => hk5 k (by omega) fun e => by have := (World.ownsRow.lt hO.boxes k e.symm).1; omega⟩; exact h5.setCell hBp _
theorem jiW {B p gm cm : Nat} {w w1 w5 : World} {vb vs : Value} {vm : List Value} {s : Stt} {x : Ent}
 (hp : w.heap[p]? = some (.cells #[vb, vs] 133)) (hO : OwnS B w vb vs vm s) (hn : ¬ inS vb vs vm p) (hBp : B ≤ p) (hw1 : Below w.heap.size w w1) (hgrow : w1.grownBy w5 vs.ownBlock)
 (hown : w5.ownsRow B 25 6 (.slice (some ⟨gm, 0, none⟩) (s.spool.length + 1) cm) (s.spool.length + 1) ((s.spool.map entC).flatten ++ entC x)) (hat : vs.ownBlock = some gm ∨ gm = w1.heap.size) :
 Sto B p (w5.setCell ⟨p, 1, none⟩ (.slice (some ⟨gm, 0, none⟩) (s.spool.length + 1) cm)) ⟨s.boxes, s.spool ++ [x]⟩ ∧ Below B w (w5.setCell ⟨p, 1, none⟩ (.slice (some ⟨gm, 0, none⟩) (s.spool.length + 1) cm)) := by
 have hsz : w.heap.size ≤ w1.heap.size := hw1.size; have hk5 : ∀ k, k < w.heap.size → some k ≠ vs.ownBlock → w5.heap[k]? = w.heap[k]? := fun k hk hne => (hgrow.block k (by omega) hne).trans (hw1.block k hk)
 have hpl : p < w.heap.size := (Array.getElem?_eq_some_iff.1 hp).1; have hpv : some p ≠ vs.ownBlock := fun e => hn (.inr (.inl e.symm))
 have hp5 : w5.heap[p]? = some (.cells #[vb, vs] 133) := (hk5 p hpl hpv).trans hp; have hgp : gm ≠ p := fun e => by
  rcases hat with h | h
  · exact hpv (by rw [h, e])
  · omega
 have hset := heap_setCell_same w5 p 1 #[vb, vs] 133 (.slice (some ⟨gm, 0, none⟩) (s.spool.length + 1) cm) hp5; have far : ∀ k, k < w.heap.size → k ≠ p → some k ≠ vs.ownBlock → (w5.setCell ⟨p, 1, none⟩ (.slice (some ⟨gm, 0, none⟩) (s.spool.length + 1) cm)).heap[k]? = w.heap[k]? := fun k h1 h2 h3 => (jp h2).trans (hk5 k h1 h3)
 have ap : ∀ u, Apart u vs → (∀ k, u.ownBlock = some k → k < w.heap.size) → Apart u (.slice (some ⟨gm, 0, none⟩) (s.spool.length + 1) cm) := fun u hu hl k hk hk' => by
  have e : gm = k := Option.some.inj hk'
  rcases hat with h | h
  · exact hu k hk (by rw [h, e])
  · have := hl k hk; omega
 have hmem : ∀ u ∈ vm, ∀ k, u.ownBlock = some k → k < w.heap.size := fun u hu k hk => (hO.lt (.inr (.inr ⟨u, hu, hk⟩))).2
 refine ⟨⟨vb, _, vm, by rw [hset]; rfl, ⟨?_, ?_, hO.len, ?_, ?_, hO.mb, ?_, hO.mm⟩, ?_, hBp⟩, ?_⟩
 · exact je hO.boxes fun k hk => far k (World.ownsRow.lt hO.boxes k hk).2 (fun e => hn (.inl (by rw [← e]; exact hk))) fun e => hO.bs k hk e.symm
 · show World.ownsRow _ B _ 6 _ (s.spool ++ [x]).length ((s.spool ++ [x]).map entC).flatten
   rw [jl3]; refine je (w := w5) (by simpa using hown) fun k hk => ?_
   have e : gm = k := Option.some.inj hk; exact jp (by omega)
 · intro i b v hb hv; have hvm := List.mem_of_getElem? hv; exact je (hO.mails i b v hb hv) fun k hk => far k (hmem v hvm k hk) (fun e => hn (.inr (.inr ⟨v, hvm, by rw [← e]; exact hk⟩))) fun e => hO.ms v hvm k hk e.symm
 · exact ap vb hO.bs (fun k hk => (World.ownsRow.lt hO.boxes k hk).2)
 · intro u hu; exact ap u (hO.ms u hu) (hmem u hu)
 · rintro (e | e | ⟨u, hu, e⟩)
   · exact hn (.inl e)
   · exact hgp (Option.some.inj e)
   · exact hn (.inr (.inr ⟨u, hu, e⟩))
 · have hBw : B ≤ w.heap.size := by omega
   have h5 : Below B w w5 := ⟨hgrow.os.trans hw1.os, hgrow.tape.trans hw1.tape, hgrow.output.trans hw1.output, Nat.le_trans hsz hgrow.size, fun k hk => hk5 k (by omega) fun e => by have := (World.ownsRow.lt hO.spool k e.symm).1; omega⟩; exact h5.setCell hBp _
theorem jh1 (w : World) (a b c d e f : Value) (t : TypeId) : ∀ j u, [a, b, c, d, e, f][j]? = some u → (w.alloc (.cells #[a, b, c, d, e, f] t)).cell? ((⟨w.heap.size, 0, none⟩ : Addr).add j) = some u := by
 intro j u hj; rw [Addr.add_lit]; have := heap_alloc_new w (.cells #[a, b, c, d, e, f] t); simp only [World.cell?, this, Nat.zero_add]
 simpa using hj
theorem jge (B p : Nat) (s : Stt) (nm : List UInt8) (w : World) (h : Sto B p w s) (hM : May s) :
 Calls Tryz.prog 90 #[.pointer (some ⟨p, 0, none⟩), .string (S nm)] w (DoP B p w (if (s.boxes.findIdx? (isName nm)).isSome then .error 10 else if 5 ≤ s.boxes.length then .error 5 else .ok ⟨s.boxes ++ [⟨nm, 1, []⟩], s.spool⟩)) := by
 obtain ⟨vb, vs, vm, hp, hO, hn, hBp⟩ := h; obtain ⟨ab, cb, rfl⟩ := jx hO.boxes; obtain ⟨r, hr⟩ : ∃ r : Except Int Stt, r = (if (s.boxes.findIdx? (isName nm)).isSome then .error 10 else if 5 ≤ s.boxes.length then .error 5 else .ok ⟨s.boxes ++ [⟨nm, 1, []⟩], s.spool⟩) := ⟨_, rfl⟩; rw [← hr]; obtain ⟨p0, p1, q0, q1⟩ := zu hp; have hBw : B ≤ w.heap.size := by have := (Array.getElem?_eq_some_iff.1 hp).1; omega
 have hSt := hO.stt (Q := fun _ => True) hM (fun _ _ => trivial); have HIX := hid (jN s.boxes nm ab cb w _ hSt.1); have HG := hid (jmH (q := isName nm) (l := s.boxes)); have HR := hid hr; have h5 := hM.boxes; have HP0 := hid hp; have HO0 := hid hO; have HN0 := hid hn; clear hr hp hO hn hSt hM; cases hf : (s.boxes.findIdx? (isName nm)).isSome with
 | true =>
   rw [hf] at HR HG; have HE := hid (show ∀ u, Below w.heap.size w u → DoP B p w r (.returned (.int .i64 10)) u from fun u hu => by rw [HR.out]; exact ⟨hu.mono hBw, rfl⟩); clear hf HR; generalize idxZ (isName nm) s.boxes = z at *; have hz : 0 ≤ z := of_decide_eq_true HG.out; go_enter Tryz.func90, Tryz.ntmps90; go_wp2_with fail; refine HIX.out.mono ?_; rintro e w1 ⟨rfl, hb1⟩; have HE1 := hid (HE.out w1 hb1); clear hb1; go_wp2; go_ret; exact HE1.out
 | false =>
   rw [hf] at HR HG; clear hf; generalize idxZ (isName nm) s.boxes = z at *; have hz : ¬ 0 ≤ z := of_decide_eq_false HG.out; simp only [Bool.false_eq_true, if_false] at HR
   by_cases h5' : 5 ≤ s.boxes.length
   · have h5i : (5 : Int) ≤ (s.boxes.length : Int) := by omega
     rw [if_pos h5'] at HR; have HE := hid (show ∀ u, Below w.heap.size w u → DoP B p w r (.returned (.int .i64 5)) u from fun u hu => by rw [HR.out]; exact ⟨hu.mono hBw, rfl⟩); go_enter Tryz.func90, Tryz.ntmps90; go_wp2_with fail; refine HIX.out.mono ?_; rintro e w1 ⟨rfl, hb1⟩; have HE1 := hid (HE.out w1 hb1); have y0 := ja p0 hb1; clear hb1; go_wp2; go_ret; exact HE1.out
   · have h5i : ¬ (5 : Int) ≤ (s.boxes.length : Int) := by omega
     rw [if_neg h5'] at HR; obtain ⟨i0, hi', hz0, hz1, hz2⟩ := info_parts jk1; go_enter Tryz.func90, Tryz.ntmps90; go_wp2_with fail; refine HIX.out.mono ?_; rintro e w1 ⟨rfl, hb1⟩; have y0 := ja p0 hb1; have yf0 := jW q0 p0 hb1; have HW1 := hid hb1; have HOM := hid (vZ HO0.out.boxes hb1); have hs1 := hb1.size; have hpl : p < w1.heap.size := World.block_lt_of_cell? _ _ y0; have hpn : some p ≠ (Value.slice ab s.boxes.length cb).ownBlock := fun e => HN0.out (.inl e.symm)
     clear hb1
     go_wp2_with (first
        | (at_builtin; refine wpList_append_lies _ rfl _ _ 41 rfl B 40 i0 _ 3 48 Tryz.underlying41 hi' hz0 hz1 hz2 rfl (by omega) (.slice ab s.boxes.length cb) s.boxes.length ((bxCs s.boxes vm).flatten) rfl (World.ownsRow.alloc HOM.out _) ⟨w1.heap.size, 0, none⟩ 1 1 [.string (S nm), .int .i64 1, .slice none 0 0] rfl rfl (jfn w1 _ _ _ _) ?c1 (by omega) ?c2 ?c3 ?c4 _ rfl ?_)
        | fail)
     case c1 => simp [Value.oneCell']
     case c2 => unfold maxLen; omega
     case c3 => omega
     case c4 => simp; omega
     intro gm cap w5 hown5 hgrow hat hlt5; have x0 := hgrow.cell (a := ⟨p, 0, none⟩) (jX y0 _) hpn; have xf0 : w5.frozen? ⟨p, 0, none⟩ = false := (World.frozen?_of_block (hgrow.block p (by simp; omega) hpn)).trans (jW yf0 y0 (nb0 _ _)); have HWA := hid (show Below w.heap.size w (w1.alloc (.cells #[.string (S nm), .int .i64 1, .slice none 0 0] 40)) from HW1.out.alloc hs1 _); have hEN := jgf HP0.out HO0.out HN0.out hBp HWA.out hgrow hown5 (hat.imp id fun e => by rw [e]; simp); have HF := hid (show DoP B p w r (.returned (.int .i64 0)) (w5.setCell ⟨p, 0, none⟩ (.slice (some ⟨gm, 0, none⟩) (s.boxes.length + 1) cap)) by rw [HR.out]; exact ⟨hEN.2, rfl, hEN.1⟩); clear hown5 hgrow hat hEN; go_wp2; go_ret; exact HF.out
theorem jiV (B p : Nat) (s : Stt) (x : Ent) (w : World) (h : Sto B p w s) (hM : May s) :
 Calls Tryz.prog 91 #[.pointer (some ⟨p, 0, none⟩), .agg #[.int .i64 x.kind, .string (S x.box), .int .i64 x.uid, .int .i64 x.flags, .string (S x.goal), .string (S x.text)]] w (DoP B p w (if 20 ≤ s.spool.length then .error 5 else .ok ⟨s.boxes, s.spool ++ [x]⟩)) := by
 obtain ⟨vb, vs, vm, hp, hO, hn, hBp⟩ := h; obtain ⟨as', cs', rfl⟩ := jx hO.spool; obtain ⟨r, hr⟩ : ∃ r : Except Int Stt, r = (if 20 ≤ s.spool.length then .error 5 else .ok ⟨s.boxes, s.spool ++ [x]⟩) := ⟨_, rfl⟩; rw [← hr]; obtain ⟨W1, hW1⟩ : ∃ W1, W1 = w.alloc (.cells #[.int .i64 x.kind, .string (S x.box), .int .i64 x.uid, .int .i64 x.flags, .string (S x.goal), .string (S x.text)] 25) := ⟨_, rfl⟩; have HWE := hid hW1; have hb1 : Below w.heap.size w W1 := by rw [hW1]; exact nb0 _ _
 have HW1 := hid hb1; have hX : W1.heap[w.heap.size]? = some (.cells #[.int .i64 x.kind, .string (S x.box), .int .i64 x.uid, .int .i64 x.flags, .string (S x.goal), .string (S x.text)] 25) := by rw [hW1]; exact heap_alloc_new w _
 obtain ⟨x0, x1, x2, x3, x4, x5⟩ : (∀ W : World, W.heap[w.heap.size]? = some (.cells #[.int .i64 x.kind, .string (S x.box), .int .i64 x.uid, .int .i64 x.flags, .string (S x.goal), .string (S x.text)] 25) → W.cell? ⟨w.heap.size, 0, none⟩ = some (.int .i64 x.kind)) ∧ W1.cell? ⟨w.heap.size, 1, none⟩ = some (.string (S x.box)) ∧ W1.cell? ⟨w.heap.size, 2, none⟩ = some (.int .i64 x.uid) ∧ W1.cell? ⟨w.heap.size, 3, none⟩ = some (.int .i64 x.flags) ∧ W1.cell? ⟨w.heap.size, 4, none⟩ = some (.string (S x.goal)) ∧ W1.cell? ⟨w.heap.size, 5, none⟩ = some (.string (S x.text)) := by
  refine ⟨fun W h => ?_, ?_, ?_, ?_, ?_, ?_⟩
  · simp [World.cell?, h]
  all_goals simp [World.cell?, hX]
 have x0 := x0 W1 hX; have hs1 : W1.heap.size = w.heap.size + 1 := by rw [hW1]; simp
 obtain ⟨p0, p1, q0, q1⟩ := zu hp; have y1 := ja p1 hb1; have yf1 := jW q1 p1 hb1; have hpl : p < w.heap.size := (Array.getElem?_eq_some_iff.1 hp).1; have hpne : p ≠ w.heap.size := by omega
 have hBw : B ≤ w.heap.size := by omega
 have HR := hid hr; have h20 := hM.spool; have HOM := hid (vZ hO.spool hb1); have hpn : some p ≠ (Value.slice as' s.spool.length cs').ownBlock := fun e => hn (.inr (.inl e.symm))
 have HP0 := hid hp; have HO0 := hid hO; have HN0 := hid hn; have HS1 := hid hs1; clear hr hp hO hn hM hW1 hb1 hX hs1
 by_cases h : 20 ≤ s.spool.length
 · have hi : (20 : Int) ≤ (s.spool.length : Int) := by omega
   rw [if_pos h] at HR; have HE := hid (show DoP B p w r (.returned (.int .i64 5)) W1 by rw [HR.out]; exact ⟨HW1.out.mono hBw, rfl⟩); go_enter Tryz.func91, Tryz.ntmps91; go_upto_region 1 with fail
   rw [← HWE.out]; go_wp2; go_ret; exact HE.out
 · have hi : ¬ (20 : Int) ≤ (s.spool.length : Int) := by omega
   rw [if_neg h] at HR; obtain ⟨i0, hi', hz0, hz1, hz2⟩ := info_parts jk2; go_enter Tryz.func91, Tryz.ntmps91; go_upto_region 1 with fail
   rw [← HWE.out]; have y1a : ∀ o : Obj, (W1.alloc o).cell? ⟨p, 1, none⟩ = some (.slice as' s.spool.length cs') := fun o => jX y1 o
   go_wp2
   go_region_law
    (first
        | (refine step_append_lies _ (by rfl) _ _ _ (by rfl) B 25 i0 _ 6 72 Tryz.underlying42 hi' hz0 hz1 hz2 rfl (by omega) (.slice as' s.spool.length cs') s.spool.length ((s.spool.map entC).flatten) (by rfl) (by first | exact World.ownsRow.alloc (show World.ownsRow W1.drew _ _ _ _ _ _ from HOM.out) _ | exact (World.ownsRow.alloc HOM.out _).drew)
             ⟨W1.heap.size, 0, none⟩ 1 1 (entC x) (by rfl) (by rfl) (by first | exact jh1 W1.drew _ _ _ _ _ _ _ | exact jh1 W1 _ _ _ _ _ _ _) (by simp [entC, Value.oneCell']) (by omega) (by unfold maxLen; omega) (by omega) (by have := HS1.out; simp; omega) _ rfl ?_
           intro gm cap w5 hown5 hgrow hat hlt5; have z1 := hgrow.cell (a := ⟨p, 1, none⟩) (jX (w := W1.drew) y1 _) hpn; have zf1 : w5.frozen? ⟨p, 1, none⟩ = false := (World.frozen?_of_block (hgrow.block p (by have := HS1.out; simp; omega) hpn)).trans (jW (w := W1.drew) yf1 y1 (nb0 _ _)); have HWA := hid (show Below w.heap.size w (W1.drew.alloc (.cells #[.int .i64 x.kind, .string (S x.box), .int .i64 x.uid, .int .i64 x.flags, .string (S x.goal), .string (S x.text)] 25)) from HW1.out.drew.alloc HW1.out.size _); have HEN := hid (jiW HP0.out HO0.out HN0.out hBp HWA.out hgrow hown5 hat); clear hown5 hgrow hat)
        | fail)
   all_goals
    have HF := hid (show DoP B p w r (.returned (.int .i64 0)) (w5.setCell ⟨p, 1, none⟩ (.slice (some ⟨gm, 0, none⟩) (s.spool.length + 1) cap)) by rw [HR.out]; exact ⟨HEN.out.2, rfl, HEN.out.1⟩); go_wp2; go_ret; exact HF.out
end Go.Proofs.YtgooljlpffnaeaaGreatDoor
