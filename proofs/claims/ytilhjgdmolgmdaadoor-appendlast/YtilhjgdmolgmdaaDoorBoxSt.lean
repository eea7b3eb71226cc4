/-
  The state that entries make: the walk of the laws' State.
-/
import Derived.Test.YtilhjgdmolgmdaaDoorBoxAl
import Derived.Test.YtilhjgdmolgmdaaDoorBoxKp
namespace Go.Proofs.YtilhjgdmolgmdaaDoor
open Go.RowKit Go.Proofs

def chrC (c : Chr) : List Value := [.int .i64 c.kind, .int .i64 c.box, .int .i64 c.uid, .int .i64 c.flags, .int .i64 c.goal, .string c.text]
def ChrM (c : Chr) (cs : List Value) : Prop := cs = chrC c
def ChsM (Q : Nat → Prop) (w : World) (v : Value) (l : List Chr) : Prop := RowM Q 6 ChrM w v l
theorem ChsM.next {Q : Nat → Prop} {w w' : World} {v : Value} {l : List Chr} (h : ChsM Q w v l) (hb : Below w.heap.size w w') : ChsM Q w' v l := RowM.imp h (fun _ h => h) (Keeps.of_below hb) fun _ _ h => h
theorem ChsM.at {Q : Nat → Prop} {w : World} {a : Option Addr} {n c : Nat} {l : List Chr} (h : ChsM Q w (.slice a n c) l) {i : Nat} {x : Chr} (hx : l[i]? = some x) : ∃ b o, a = some ⟨b, o, none⟩ ∧ w.cell? ⟨b, o + i * 6, none⟩ = some (.int .i64 x.kind) ∧ w.cell? ⟨b, o + i * 6 + 1, none⟩ = some (.int .i64 x.box) ∧ w.cell? ⟨b, o + i * 6 + 2, none⟩ = some (.int .i64 x.uid) ∧ w.cell? ⟨b, o + i * 6 + 3, none⟩ = some (.int .i64 x.flags) ∧ w.cell? ⟨b, o + i * 6 + 4, none⟩ = some (.int .i64 x.goal) ∧ w.cell? ⟨b, o + i * 6 + 5, none⟩ = some (.string x.text) := by
  obtain ⟨a', c', hv, _, hr⟩ := h
  simp only [Value.slice.injEq] at hv
  obtain ⟨rfl, _, rfl⟩ := hv
  obtain ⟨b, o, cs, rfl, _, _, _, hc, hP⟩ := hr i x hx
  have hcs : cs = _ := hP
  subst hcs
  exact ⟨b, o, rfl, by simpa using hc 0 _ rfl, hc 1 _ rfl, hc 2 _ rfl, hc 3 _ rfl, hc 4 _ rfl, hc 5 _ rfl⟩
def AllR (w : World) (r : Except Int Stt) (vb vs : Value) (z : Int) (w' : World) : Prop := match r with
  | .error e => z = e ∧ vb = .slice none 0 0 ∧ vs = .slice none 0 0
  | .ok s' => z = 0 ∧ ∃ vm, OwnS w.heap.size w' vb vs vm s'
theorem AllP.form {w w' : World} {r : Except Int Stt} {e : Ending} (h : AllP w r e w') : ∃ a1 n1 c1 a2 n2 c2 z, e = .returned (.tuple #[.agg #[.slice a1 n1 c1, .slice a2 n2 c2], .int .i64 z]) ∧ AllR w r (.slice a1 n1 c1) (.slice a2 n2 c2) z w' := by
  obtain ⟨_, h⟩ := h
  cases r with
  | error z => exact ⟨none, 0, 0, none, 0, 0, z, h, rfl, rfl, rfl⟩
  | ok s' =>
    obtain ⟨vb, vs, vm, rfl, hO⟩ := h
    obtain ⟨a1, c1, rfl⟩ := own_slice hO.boxes
    obtain ⟨a2, c2, rfl⟩ := own_slice hO.spool
    exact ⟨_, _, _, _, _, _, _, rfl, rfl, vm, hO⟩
/-- What the next state lies in. -/
def NxP (wr : World) (r : Except Int Stt) (a b : Value) (wx : World) : Prop := ∃ pn a1 n1 c1 a2 n2 c2 z, a = .pointer (some ⟨pn, 0, none⟩) ∧ b = .int .i64 z ∧ wx.heap[pn]? = some (.cells #[.slice a1 n1 c1, .slice a2 n2 c2] 26) ∧ wr.heap.size ≤ pn ∧ Below wr.heap.size wr wx ∧ match r with
  | .error e => z = e
  | .ok s' => z = 0 ∧ ∃ vm, OwnS wr.heap.size wx (.slice a1 n1 c1) (.slice a2 n2 c2) vm s'
theorem nx_end {wr w3 wx u : World} {p n1 c1 n2 c2 : Nat} {a1 a2 : Option Addr} {r : Except Int Stt} {z : Int} (hw : wx.heap[p]? = some (.cells #[.slice a1 n1 c1, .slice a2 n2 c2] 26)) (hoth : ∀ k, k < w3.heap.size → k ≠ p → wx.heap[k]? = w3.heap[k]?) (hbel : Below wr.heap.size wr wx)
    (hR : AllR u r (.slice a1 n1 c1) (.slice a2 n2 c2) z w3) (hu : wr.heap.size ≤ u.heap.size) (hp : wr.heap.size ≤ p) (hpo : ∀ vm s', OwnS u.heap.size w3 (.slice a1 n1 c1) (.slice a2 n2 c2) vm s' → ¬ inS (.slice a1 n1 c1) (.slice a2 n2 c2) vm p) : NxP wr r (.pointer (some ⟨p, 0, none⟩)) (.int .i64 z) wx := by
  refine ⟨p, _, _, _, _, _, _, z, rfl, rfl, hw, hp, hbel, ?_⟩
  cases r with
  | error e => exact hR.1
  | ok s' =>
    obtain ⟨h0, vm, hO⟩ := hR
    exact ⟨h0, vm, (hO.base hu).keep fun k hk => hoth k (hO.lt hk).2 fun e => hpo vm s' hO (by rw [← e]; exact hk)⟩
/-- The state so far, in its variable. -/
def StI (q r0 : Nat) (w wr : World) (s : Stt) : Prop := ∃ ab nb cb ae ns cs, wr.heap[q]? = some (.cells #[.slice ab nb cb, .slice ae ns cs] 26) ∧ wr.heap[r0]? = some (.cells #[.slice none 0 0, .slice none 0 0] 26) ∧ SttM (fun k => k ≠ q ∧ k ≠ r0) wr (.slice ab nb cb) (.slice ae ns cs) s ∧ Below w.heap.size w wr
/-- What State hands back. -/
def StR (w : World) (s : Stt) (e : Ending) (w' : World) : Prop := ∃ a1 n1 c1 a2 n2 c2, e = .returned (.agg #[.slice a1 n1 c1, .slice a2 n2 c2]) ∧ SttM (fun _ => True) w' (.slice a1 n1 c1) (.slice a2 n2 c2) s ∧ Below w.heap.size w w'
theorem init_mem (w : World) (p q r0 : Nat) (h : w.heap[p]? = some (.cells #[.string ⟨#[73, 78, 66, 79, 88]⟩, .int .i64 1, .slice none 0 0] 33)) (hp : p ≠ q ∧ p ≠ r0) : SttM (fun k => k ≠ q ∧ k ≠ r0) w (.slice (some ⟨p, 0, none⟩) 1 1) (.slice none 0 0) initS := by
  refine ⟨⟨some ⟨p, 0, none⟩, 1, rfl, by simp [initS, maxLen], fun i y hy => ?_⟩, rowM_nil _ _ _ _ _ _, fun a n c e => by cases e; exact Nat.le_refl _⟩
  cases i with
  | succ i => simp [initS] at hy
  | zero =>
    simp [initS] at hy
    subst hy
    refine ⟨p, 0, boxC ⟨[73, 78, 66, 79, 88], 1, []⟩ (.slice none 0 0), rfl, (Array.getElem?_eq_some_iff.1 h).1, hp, rfl, fun j u hj => ?_, _, rfl, rowM_nil _ _ _ _ _ _⟩
    simp only [Nat.zero_mul, Nat.zero_add, World.cell?, h]
    simpa [boxC, S] using hj
theorem StI.step {q r0 : Nat} {w wr wx : World} {s s' : Stt} {pn n1 c1 n2 c2 : Nat} {a1 a2 : Option Addr} {vm : List Value} (h : StI q r0 w wr s) (hM : May s') (hb : Below wr.heap.size wr wx) (hO : OwnS wr.heap.size wx (.slice a1 n1 c1) (.slice a2 n2 c2) vm s') (hqr : q ≠ r0) (hw : w.heap.size ≤ q) (_hpn : wr.heap.size ≤ pn) :
    StI q r0 w ((wx.setCell ⟨q, 0, none⟩ (.slice a1 n1 c1)).setCell ⟨q, 1, none⟩ (.slice a2 n2 c2)) s' := by
  obtain ⟨ab, nb, cb, ae, ns, cs, h1, h2, _, h4⟩ := h
  have hql : q < wr.heap.size := (Array.getElem?_eq_some_iff.1 h1).1
  have hrl : r0 < wr.heap.size := (Array.getElem?_eq_some_iff.1 h2).1
  have hS := hO.stt (Q := fun k => k ≠ q ∧ k ≠ r0) hM (fun g hg => by have := (hO.lt hg).1; omega)
  refine ⟨a1, n1, c1, a2, n2, c2, set2_block (low_obj hb h1), (set_other hqr.symm).trans ((set_other hqr.symm).trans (low_obj hb h2)), hS.imp (fun _ h => h) ((Keeps.set wx (p := ⟨q, 0, none⟩) _ fun b hb => hb.1).trans (Keeps.set _ (p := ⟨q, 1, none⟩) _ fun b hb => hb.1)), ?_⟩
  exact (((h4.trans (hb.mono h4.size)).setCell hw _).setCell hw _)
theorem StI.same {q r0 : Nat} {w wr wx : World} {s : Stt} (h : StI q r0 w wr s) (hb : Below wr.heap.size wr wx) : StI q r0 w wx s := by
  obtain ⟨ab, nb, cb, ae, ns, cs, h1, h2, h3, h4⟩ := h
  exact ⟨ab, nb, cb, ae, ns, cs, low_obj hb h1, low_obj hb h2, h3.next hb, h4.trans (hb.mono h4.size)⟩
theorem ne_lt {a b : Nat} (h : a < b) : a ≠ b := Nat.ne_of_lt h
set_option maxHeartbeats 1000000 in
set_option maxRecDepth 100000 in
theorem state_any (l : List Chr) (a : Option Addr) (c : Nat) (w : World) (Q : Nat → Prop) (hL : ChsM Q w (.slice a l.length c) l) (hW : ∀ x ∈ l, chrW x) :
    Calls Tryd.prog 9 #[.slice a l.length c] w (StR w (stateP l)) := by
  have hm := RowM.small hL
  unfold maxLen at hm
  have HL := hid hL
  have HCW := hid hW
  obtain ⟨W0, hW0⟩ : ∃ W0, W0 = ((w.alloc (.cells #[.slice none 0 0, .slice none 0 0] 26)).alloc (.cells #[.string ⟨#[73, 78, 66, 79, 88]⟩, .int .i64 1, .slice none 0 0] 33)).alloc (.cells #[.slice (some ⟨w.heap.size + 1, 0, none⟩) 1 1, .slice none 0 0] 26) := ⟨_, rfl⟩
  have HWE := hid hW0
  have hB0 : Below w.heap.size w W0 := by rw [hW0]; exact (((Below.refl _ _).alloc (Nat.le_refl _) _).alloc (by simp) _).alloc (by simp; omega) _
  have hi0 : StI (w.heap.size + 2) w.heap.size w W0 initS := by
    refine ⟨some ⟨w.heap.size + 1, 0, none⟩, 1, 1, none, 0, 0, ?_, ?_, init_mem W0 (w.heap.size + 1) _ _ ?_ (by omega), hB0⟩
    · rw [hW0]; have := heap_alloc_new ((w.alloc (.cells #[.slice none 0 0, .slice none 0 0] 26)).alloc (.cells #[.string ⟨#[73, 78, 66, 79, 88]⟩, .int .i64 1, .slice none 0 0] 33)) (.cells #[.slice (some ⟨w.heap.size + 1, 0, none⟩) 1 1, .slice none 0 0] 26); simpa using this
    · rw [hW0, heap_alloc_old _ _ (by simp; omega), heap_alloc_old _ _ (by simp), heap_alloc_new]
    · rw [hW0, heap_alloc_old _ _ (by simp)]; have := heap_alloc_new (w.alloc (.cells #[.slice none 0 0, .slice none 0 0] 26)) (.cells #[.string ⟨#[73, 78, 66, 79, 88]⟩, .int .i64 1, .slice none 0 0] 33); simpa using this
  have HI0 := hid hi0
  clear hL hW hW0 hB0 hi0
  go_enter Tryd.func9, Tryd.ntmps9
  go_wp2
  rw [← HWE.out]
  go_loopw [4] (fun v wr => ∃ k : Nat, k ≤ l.length ∧ k ≤ 40 ∧ v = .int .i64 k ∧ Hid (StI (w.heap.size + 2) w.heap.size w wr ((l.take k).foldl stepP initS))) (fun v _ => l.length - (intOf v).toNat)
  case atStart => exact ⟨0, Nat.zero_le _, by omega, rfl, HI0⟩
  case round =>
    obtain ⟨k, hk, hk4, rfl, HI⟩ := hrel
    by_cases hlt : k < l.length ∧ k < 40
    · obtain ⟨hl1, hl2⟩ := hlt
      have k1 : (k : Int) < (l.length : Int) := by omega
      have k2 : (k : Int) < 40 := by omega
      have k0 : (0 : Int) ≤ (k : Int) := by omega
      obtain ⟨x, hx⟩ : ∃ x, l[k]? = some x := ⟨_, List.getElem?_eq_getElem hl1⟩
      have HFS := hid (foldl_step hx initS)
      have HMk := hid (foldl_may (l.take k) initS initS_may)
      have HXW := hid (HCW.out x (List.mem_of_getElem? hx))
      generalize (l.take k).foldl stepP initS = sk at *
      obtain ⟨ab, nb, cb, as', ns, cs, h1, h2, h3, h4⟩ := HI.out
      obtain ⟨b, o, rfl, e0, e1, e2, e3, e4, e5⟩ := (HL.out.next h4).at hx
      obtain ⟨z0, z1, _, _⟩ := box2f h1
      have hwq : w.heap.size + 2 < wr.heap.size := (Array.getElem?_eq_some_iff.1 h1).1
      have hne0 : w.heap.size + 2 ≠ wr.heap.size := by omega
      have hneb : b ≠ wr.heap.size := Nat.ne_of_lt (World.block_lt_of_cell? _ _ e0)
      have HEN := hid (fun u => entry_any x u HXW.out)
      have HAP := hid (fun u (hu : Below wr.heap.size wr u) => apply_any sk (.slice ab nb cb) (.slice as' ns cs) (entP x) u _ (h3.next hu) HMk.out (entP_formed x))
      have HAPc := hid (fun u (hu : Below wr.heap.size wr u) (_ : u.heap[wr.heap.size]? = some (.cells #[.slice none 0 0, .slice none 0 0] 26)) => HAP.out u hu)
      have HBA := hid (show Below wr.heap.size wr (wr.alloc (.cells #[.slice none 0 0, .slice none 0 0] 26)).drew from ((Below.refl wr.heap.size wr).alloc (Nat.le_refl _) _).drew)
      have HNA := hid (show (wr.alloc (.cells #[.slice none 0 0, .slice none 0 0] 26)).drew.heap[wr.heap.size]? = some (.cells #[.slice none 0 0, .slice none 0 0] 26) from heap_alloc_new wr _)
      clear hx h1 h2 h3 h4
      go_wp2
      go_cut [5, 6] (fun p v wx => NxP wr (doM sk (entP x)) p v wx)
      case first =>
        go_region_held3 (fun w' => w'.cell? ⟨w.heap.size + 2, 0, none⟩ = some (.slice ab nb cb) ∧ w'.cell? ⟨w.heap.size + 2, 1, none⟩ = some (.slice as' ns cs) ∧ w'.cell? ⟨b, o + k * 6, none⟩ = some (.int .i64 x.kind) ∧ w'.cell? ⟨b, o + k * 6 + 1, none⟩ = some (.int .i64 x.box) ∧ w'.cell? ⟨b, o + k * 6 + 2, none⟩ = some (.int .i64 x.uid) ∧ w'.cell? ⟨b, o + k * 6 + 3, none⟩ = some (.int .i64 x.flags) ∧ w'.cell? ⟨b, o + k * 6 + 4, none⟩ = some (.int .i64 x.goal) ∧ w'.cell? ⟨b, o + k * 6 + 5, none⟩ = some (.string x.text))
          (first | (go_keep; done) | exact ⟨far2 hne2 r0, far2 hne2 r1, far2 hnb2 r2, far2 hnb2 r3, far2 hnb2 r4, far2 hnb2 r5, far2 hnb2 r6, far2 hnb2 r7⟩ | exact ⟨far2 hne0 r0, far2 hne0 r1, far2 hneb r2, far2 hneb r3, far2 hneb r4, far2 hneb r5, far2 hneb r6, far2 hneb r7⟩ | fail)
          (first
            | (go_at_call 13
               with_reducible refine (HAPc.out _ HBb.out HPc.out).mono ?_
               intro e w3 hA
               have hb := hA.1
               obtain ⟨a1, n1, c1, a2, n2, c2, z, rfl, hR⟩ := hA.form
               have HAR := hid hR
               have HBf := hid (HBb.out.trans (hb.mono HBb.out.size))
               have HPe := hid (low_obj hb HPc.out)
               obtain ⟨t0, t1, f0, f1⟩ := box2f HPe.out
               have r0 := wcell_next q0 hb
               have r1 := wcell_next q1 hb
               have r2 := wcell_next q2 hb
               have r3 := wcell_next q3 hb
               have r4 := wcell_next q4 hb
               have r5 := wcell_next q5 hb
               have r6 := wcell_next q6 hb
               have r7 := wcell_next q7 hb
               clear hA hb hR)
            | (go_at_call 13
               with_reducible refine (HAP.out w2 HBb.out).mono ?_
               intro e w3 hA
               have hb := hA.1
               obtain ⟨a1, n1, c1, a2, n2, c2, z, rfl, hR⟩ := hA.form
               have HAR := hid hR
               have HBf := hid (HBb.out.trans (hb.mono HBb.out.size))
               have r0 := wcell_next q0 hb
               have r1 := wcell_next q1 hb
               have r2 := wcell_next q2 hb
               have r3 := wcell_next q3 hb
               have r4 := wcell_next q4 hb
               have r5 := wcell_next q5 hb
               have r6 := wcell_next q6 hb
               have r7 := wcell_next q7 hb
               clear hA hb hR)
            | (go_at_call 13
               with_reducible refine (HAP.out (w2.alloc (.cells #[.slice none 0 0, .slice none 0 0] 26)) (HBb.out.alloc HBb.out.size _)).mono ?_
               intro e w3 hA
               have hb := hA.1
               obtain ⟨a1, n1, c1, a2, n2, c2, z, rfl, hR⟩ := hA.form
               have HAR := hid hR
               have hba : Below w2.heap.size w2 (w2.alloc (.cells #[.slice none 0 0, .slice none 0 0] 26)) := (Below.refl _ _).alloc (Nat.le_refl _) _
               have hbb : Below w2.heap.size w2 w3 := hba.trans (hb.mono hba.size)
               have HBf := hid (HBb.out.trans (hbb.mono HBb.out.size))
               have HPe := hid (low_obj hb (heap_alloc_new w2 (.cells #[.slice none 0 0, .slice none 0 0] 26)))
               obtain ⟨t0, t1, f0, f1⟩ := box2f HPe.out
               have r0 := wcell_next q0 hbb
               have r1 := wcell_next q1 hbb
               have r2 := wcell_next q2 hbb
               have r3 := wcell_next q3 hbb
               have r4 := wcell_next q4 hbb
               have r5 := wcell_next q5 hbb
               have r6 := wcell_next q6 hbb
               have r7 := wcell_next q7 hbb
               clear hA hb hR hba hbb)
            | (go_at_call 12
               with_reducible refine (HEN.out wr.drew).mono ?_
               rintro e w2 ⟨rfl, hb⟩
               have hb2 : Below wr.heap.size wr w2 := (Below.refl _ _).drew.trans hb
               have HBb := hid hb2
               have q0 := wcell_next z0 hb2
               have q1 := wcell_next z1 hb2
               have q2 := wcell_next e0 hb2
               have q3 := wcell_next e1 hb2
               have q4 := wcell_next e2 hb2
               have q5 := wcell_next e3 hb2
               have q6 := wcell_next e4 hb2
               have q7 := wcell_next e5 hb2
               have hne2 := ne_lt (World.block_lt_of_cell? _ _ q0)
               have hnb2 := ne_lt (World.block_lt_of_cell? _ _ q2)
               clear hb hb2)
            | (go_at_call 12
               with_reducible refine (HEN.out ((wr.alloc (.cells #[.slice none 0 0, .slice none 0 0] 26)).drew)).mono ?_
               rintro e w2 ⟨rfl, hb⟩
               have hb2 : Below wr.heap.size wr w2 := HBA.out.trans (hb.mono HBA.out.size)
               have HBb := hid hb2
               have HPc := hid (low_obj hb HNA.out)
               have q0 := wcell_next z0 hb2
               have q1 := wcell_next z1 hb2
               have q2 := wcell_next e0 hb2
               have q3 := wcell_next e1 hb2
               have q4 := wcell_next e2 hb2
               have q5 := wcell_next e3 hb2
               have q6 := wcell_next e4 hb2
               have q7 := wcell_next e5 hb2
               have hne2 := ne_lt (World.block_lt_of_cell? _ _ q0)
               have hnb2 := ne_lt (World.block_lt_of_cell? _ _ q2)
               clear hb hb2)
            | fail)
        all_goals
          go_wp2_with fail
          go_meet
          have hs2 := HBb.out.size
          first
            | exact nx_end (p := w3.heap.size) (heap_alloc_new w3 _) (fun k hk _ => heap_alloc_old w3 _ hk) (HBf.out.alloc HBf.out.size _) HAR.out hs2 HBf.out.size (fun vm s' hO hg => by have := (hO.lt hg).2; omega)
            | exact nx_end (p := w2.heap.size) (set2_block HPe.out) (fun k hk hne => (set_other hne).trans (set_other hne)) ((HBf.out.setCell hs2 _).setCell hs2 _) HAR.out (by simp; omega) hs2 (fun vm s' hO hg => by have := (hO.lt hg).1; simp at this; omega)
            | exact nx_end (p := wr.heap.size) (set2_block HPe.out) (fun k hk hne => (set_other hne).trans (set_other hne)) ((HBf.out.setCell (Nat.le_refl _) _).setCell (Nat.le_refl _) _) HAR.out hs2 (Nat.le_refl _) (fun vm s' hO hg => by have h1 := (hO.lt hg).1; have h2 := (Array.getElem?_eq_some_iff.1 HPc.out).1; omega)
            | fail
      case rest =>
        obtain ⟨pn, a1, n1, c1, a2, n2, c2, z, rfl, rfl, hp, hpn, hb, hr⟩ := hcut
        obtain ⟨y0, y1, _, _⟩ := box2f hp
        cases hd : doM sk (entP x) with
        | error er =>
          rw [hd] at hr
          have hz : z = er := hr
          subst hz
          have hzn : ¬ z = 0 := doM_err hd
          have hz' : (z == 0) = false := by simp [hzn]
          have HN := hid (show StI (w.heap.size + 2) w.heap.size w wc ((l.take (k + 1)).foldl stepP initS) by rw [HFS.out]; unfold stepP; rw [hd]; exact HI.out.same hb)
          clear hb hp hd hr
          go_wp2
          go_roundw
          case rel => first | exact ⟨k + 1, by omega, by omega, by go_num, HN⟩ | ((repeat apply Exists.intro); exact ⟨⟨k + 1, by omega, by omega, by go_num, HN⟩, rfl⟩)
          case measure => simp [intOf]; omega
        | ok s' =>
          rw [hd] at hr
          obtain ⟨hz, vm, hO⟩ := hr
          subst hz
          have HN := hid (show StI (w.heap.size + 2) w.heap.size w ((wc.setCell ⟨w.heap.size + 2, 0, none⟩ (.slice a1 n1 c1)).setCell ⟨w.heap.size + 2, 1, none⟩ (.slice a2 n2 c2)) ((l.take (k + 1)).foldl stepP initS) by
            rw [HFS.out]; unfold stepP; rw [hd]
            exact HI.out.step (doM_may HMk.out (entP_formed x) hd) hb hO (by omega) (by omega) hpn)
          obtain ⟨ab, nb, cb, as', ns, cs, h1, _⟩ := HI.out
          obtain ⟨d0, d1, df0, df1⟩ := box2f (low_obj hb h1)
          clear hb hp hd hO h1
          go_wp2
          go_roundw
          case rel => first | exact ⟨k + 1, by omega, by omega, by go_num, HN⟩ | ((repeat apply Exists.intro); exact ⟨⟨k + 1, by omega, by omega, by go_num, HN⟩, rfl⟩)
          case measure => simp [intOf]; omega
    · have hE : (l.take k).foldl stepP initS = stateP l := by
        unfold stateP
        by_cases h4 : k = 40
        · rw [h4]
        · have hkl : k = l.length := by omega
          rw [List.take_of_length_le (by omega), List.take_of_length_le (by omega)]
      have HE := hid hE
      obtain ⟨ab, nb, cb, as', ns, cs, h1, h2, h3, h4⟩ := HI.out
      obtain ⟨z0, z1, _, _⟩ := box2f h1
      obtain ⟨u0, u1, g0, g1⟩ := box2f h2
      obtain ⟨v0, v1, j0, j1⟩ := box2f (set2_block (u0 := .slice ab nb cb) (u1 := .slice as' ns cs) h2)
      have HF := hid (show StR w (stateP l) (.returned (.agg #[.slice ab nb cb, .slice as' ns cs])) ((wr.setCell ⟨w.heap.size, 0, none⟩ (.slice ab nb cb)).setCell ⟨w.heap.size, 1, none⟩ (.slice as' ns cs)) from
        ⟨_, _, _, _, _, _, rfl, by rw [← HE.out]; exact h3.imp (fun _ _ => trivial) ((Keeps.set wr (p := ⟨w.heap.size, 0, none⟩) _ fun b hb => hb.2).trans (Keeps.set _ (p := ⟨w.heap.size, 1, none⟩) _ fun b hb => hb.2)), (h4.setCell (Nat.le_refl _) _).setCell (Nat.le_refl _) _⟩)
      clear h1 h2 h3 h4 hE
      by_cases hkl : k < l.length
      · have k1 : (k : Int) < (l.length : Int) := by omega
        have k2 : ¬ (k : Int) < 40 := by omega
        go_wp2
        refine bodyPost_ret (v := .agg #[.slice ab nb cb, .slice as' ns cs]) (by simp [results, Tryd.results9, go_sem, *]) rfl ?_
        exact HF.out
      · have k1 : ¬ (k : Int) < (l.length : Int) := by omega
        go_wp2
        refine bodyPost_ret (v := .agg #[.slice ab nb cb, .slice as' ns cs]) (by simp [results, Tryd.results9, go_sem, *]) rfl ?_
        exact HF.out
end Go.Proofs.YtilhjgdmolgmdaaDoor
