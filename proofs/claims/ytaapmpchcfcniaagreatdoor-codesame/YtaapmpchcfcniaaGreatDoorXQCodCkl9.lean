/-
  code.Check: its loop.
-/
import Derived.Test.YtaapmpchcfcniaaGreatDoorXQCodCo6
set_option maxHeartbeats 4000000
set_option maxRecDepth 100000
namespace Go.Proofs.YtaapmpchcfcniaaGreatDoor
open Go.RowKit Go.Proofs
theorem jaq {B : Nat} {a : World} (b : Nat) (hb : B ≤ b) : ∀ (vs : List Value) (o : Nat) (w : World), Below B a w → Below B a (w.setCells b o vs)
 | [], _, _, h => h
 | v :: r, o, w, h => by
   rw [World.setCells]; exact jaq b hb r (o + 1) _ (h.setCell hb v)
def jlm (L : List Opr) (w : World) : Prop := ∀ (i : Nat) (x : Opr) (cs : List Value), L[i]? = some x → OpM anyB w x cs →
 ∀ w', Below w.heap.size w w' → Calls Tryz.prog 44 #[.agg cs.toArray, .int .i64 i, .int .i64 L.length] w' fun e w'' => e = .returned (.int .i64 0) ∧ Below w'.heap.size w' w''
theorem jgt (L : List Opr) (bb oo cap : Nat) (w : World) (hl : L.length ≤ 400) (hO : OpsM anyB w (.slice (some ⟨bb, oo, none⟩) L.length cap) L) (hF : jlm L w) :
 Calls Tryz.prog 23 #[.slice (some ⟨bb, oo, none⟩) L.length cap] w fun e w' => e = .returned (.int .i64 0) ∧ Below w.heap.size w w' := by
 have HO := hid hO; have HF := hid hF; have dl : decide ((400 : Int) < (L.length : Int)) = false := by simp; omega
 clear hO hF; go_enter Tryz.func23, Tryz.ntmps23; go_wp2
 go_loopw [11] (fun i wr => ∃ m : Nat, m ≤ L.length ∧ i = .int .i64 m ∧ Hid (Below w.heap.size w wr)) (fun i _ => L.length - (intOf i).toNat)
 case atStart => exact ⟨0, Nat.zero_le _, rfl, hid (Below.refl _ _)⟩
 case round =>
  obtain ⟨m, hm, rfl, HI⟩ := hrel
  by_cases hlm : m < L.length
  · have i1 : (m : Int) < (L.length : Int) := by omega
    have i3 : (0 : Int) ≤ (m : Int) := by omega
    obtain ⟨x, hx⟩ : ∃ x, L[m]? = some x := ⟨_, List.getElem?_eq_getElem hlm⟩; obtain ⟨a, c, e, _, hrow⟩ := HO.out; obtain ⟨b', o', cs, e2, hb', _, hcs, hcell, hP⟩ := hrow m x hx; cases e; cases e2; have HCE := hid hcell; have HP := hid hP; have HCS := hid hcs; clear hcell hP hrow hcs; obtain ⟨WA, hWA⟩ : ∃ WA, WA = wr.alloc (.cells #[.int .i64 0, .int .i64 0, .int .i64 0, .int .i64 0, .int .i64 0, .slice none 0 0, .slice none 0 0, .bool false, .int .i64 0, .slice none 0 0, .int .i64 0, .slice none 0 0, .int .i64 0, .int .i64 0, .int .i64 0, .slice none 0 0, .slice none 0 0, .bool false, .int .i64 0, .slice none 0 0, .slice none 0 0, .slice none 0 0] 116) := ⟨_, rfl⟩; have HWA := hid hWA; have hZ : WA.heap[wr.heap.size]? = some (.cells #[.int .i64 0, .int .i64 0, .int .i64 0, .int .i64 0, .int .i64 0, .slice none 0 0, .slice none 0 0, .bool false, .int .i64 0, .slice none 0 0, .int .i64 0, .slice none 0 0, .int .i64 0, .int .i64 0, .int .i64 0, .slice none 0 0, .slice none 0 0, .bool false, .int .i64 0, .slice none 0 0, .slice none 0 0, .slice none 0 0] 116) := by rw [hWA]; exact heap_alloc_new wr _
    have HBA := hid (show Below w.heap.size w WA by rw [hWA]; exact HI.out.alloc HI.out.size _); have HTH := hid (show WA.there wr.heap.size 0 cs.toArray.size by
        intro j hj; have hj2 : j < 22 := by simpa [HCS.out] using hj
        rw [Nat.zero_add]; have hget : ∃ u, ([.int .i64 0, .int .i64 0, .int .i64 0, .int .i64 0, .int .i64 0, .slice none 0 0, .slice none 0 0, .bool false, .int .i64 0, .slice none 0 0, .int .i64 0, .slice none 0 0, .int .i64 0, .int .i64 0, .int .i64 0, .slice none 0 0, .slice none 0 0, .bool false, .int .i64 0, .slice none 0 0, .slice none 0 0, .slice none 0 0] : List Value)[j]? = some u := ⟨_, List.getElem?_eq_getElem (by simpa using hj2)⟩; obtain ⟨u, hu⟩ := hget; exact ⟨by rw [jd hZ (by simpa using hu)]; rfl, by simp [World.frozen?, hZ]⟩)
    have HSZ := hid (show (Tryz.prog.info? 116).map (·.size) = some cs.length by rw [HCS.out]; kernel_rfl); have HSZ2 := hid (show (Tryz.prog.info? 116).map (·.size) = some cs.toArray.size by rw [List.size_toArray]; exact HSZ.out); have HRg := hid (show wr.rangeAt bb (oo + m * 22) cs from fun j u hj => jn HI.out (Nat.le_refl _) (HCE.out j u hj)); have HON := hid (all_oneCell_toArray (jiQ HP.out)); obtain ⟨WB, hWB⟩ : ∃ WB, WB = WA.setCells wr.heap.size 0 cs.toArray.toList := ⟨_, rfl⟩; have HWB := hid hWB; have HBB := hid (show Below w.heap.size w WB by rw [hWB]; exact jaq _ HI.out.size _ _ _ HBA.out); have HRB := hid (show WB.rangeAt wr.heap.size 0 cs by
        rw [hWB]; exact World.rangeAt_setCells_same WA wr.heap.size 0 cs (by simpa using HTH.out))
    clear hWA hZ hWB; go_upto_region 5 with fail
    refine wp_region_lit ?_; refine wpList_plain rfl (fun K hK => ?_)
    go_simp
    refine hK _ _ ?_; clear hK K; refine wpList_plain rfl (fun K hK => ?_)
    go_simp
    refine hK _ _ ?_; clear hK K; refine wpList_load_mid rfl 116 _ rfl bb (oo + m * 22) rfl cs _ HRg.out Tryz.underlying116 rfl HSZ.out ?_; simp only [Act.put, List.setIfInBounds_toArray]; refine wpList_plain rfl (fun K hK => ?_)
    go_simp
    refine hK _ _ ?_; clear hK K; rw [← HWA.out]; refine wpList_plain rfl (fun K hK => ?_)
    go_simp
    refine hK _ _ ?_; clear hK K; refine wpList_store_mid rfl 116 _ _ rfl wr.heap.size 0 cs.toArray rfl rfl HTH.out HSZ2.out HON.out ?_; rw [← HWB.out]; refine wpList_nil ?_; go_upto_region 6 with fail
    refine wp_region_lit ?_; refine wpList_load_mid rfl 116 _ rfl wr.heap.size 0 rfl cs _ HRB.out Tryz.underlying116 rfl HSZ.out ?_; simp only [Act.put, List.setIfInBounds_toArray]; go_wp2_with fail; refine (HF.out m x cs hx HP.out _ HBB.out).mono ?_; rintro e w3 ⟨rfl, hb3⟩; have HI3 := hid (HBB.out.trans (hb3.mono HBB.out.size)); clear hb3; go_wp2
    go_roundw
    case rel => exact ⟨m + 1, by omega, by go_num, HI3⟩
    case measure => simp [intOf]; omega
  · have i1 : ¬ (m : Int) < (L.length : Int) := by omega
    go_wp2; go_ret; exact ⟨rfl, HI.out⟩
def ifO (t : Tst) : Cmd := ⟨2, [], vJ t, [], []⟩
def jjN (t : Tst) : Prop := qo t.kind = false ∧ vu 2 [reqC, ifO t] = 0
def jhs (c : Cmd) : Prop := (c.kind == 2) = false ∧ vu 2 [reqC, vg c] = 0 ∧ (c.kind = 6 → (c.texts.getD 0 []).length ≤ maxLen)
theorem jmA (L : List Opr) (w : World) (hw : Tabs w) (hG : AllGood jjN jhs 0 L.length L) : jlm L w := by
 intro i x cs hx hP w' hb; obtain ⟨ts, ds, rfl, hT, hD⟩ := hP; have hi := hG i x hx; rw [Nat.zero_add] at hi
 rcases hi with ⟨k, to', hk, rfl, h1, h2⟩ | rfl | ⟨t, ht, rfl⟩ | ⟨c, hc, rfl⟩
 · obtain ⟨an, cn, ak, ck, at', ct, m, _, rfl, _⟩ := jL hT; obtain ⟨ax, cx, bn, dn, bk, dk, bt, dt, aa, ca, ae, ce, m', _, rfl, _⟩ := zm hD
   rcases hk with rfl | rfl | rfl
   · exact jnf _ _ _ _ _ _ _ _ _ _ _ _ _ _ _ _ _ _ _ _ _ _ (Int.ofNat_lt.2 h1) (Int.ofNat_le.2 h2)
   · exact jng _ _ _ _ _ _ _ _ _ _ _ _ _ _ _ _ _ _ _ _ _ _ (Int.ofNat_lt.2 h1) (Int.ofNat_le.2 h2)
   · exact jnh _ _ _ _ _ _ _ _ _ _ _ _ _ _ _ _ _ _ _ _ _ _ (Int.ofNat_lt.2 h1) (Int.ofNat_le.2 h2)
 · obtain ⟨an, cn, ak, ck, at', ct, m, _, rfl, _⟩ := jL hT; obtain ⟨ax, cx, bn, dn, bk, dk, bt, dt, aa, ca, ae, ce, m', _, rfl, _⟩ := zm hD; exact jjV _ _ _ _ _ _ _ _ _ _ _ _ _ _ _ _ _ _ _ _ _
 · obtain ⟨hk, hr⟩ := ht; have hT0 : TstM anyB 1 w (vJ t) ts := hT; obtain ⟨an, cn, ak, ck, at', ct, m, _, rfl, _⟩ := jL hT0; obtain ⟨ax, cx, bn, dn, bk, dk, bt, dt, aa, ca, ae, ce, m', _, rfl, _⟩ := zm hD; refine jlU t an ak at' cn ck ct ax bn bk bt aa ae cx dn dk dt ca ce hk _ _ w' fun w2 hb2 => ?_
   have hbl : Below w.heap.size w w2 := hb.trans (hb2.mono hb.size); refine jcC 0 (ifO t) none an ak at' none none 0 cn ck ct 0 0 w2 (hw.next hbl) ?_ ⟨(fun h => by cases h), (fun x hx => by cases hx), fun x hx => by cases hx⟩ hr; refine CmdM.next (w := w) ?_ hbl; exact ⟨_, _, _, _, _, _, rfl, jj _ _ _ _ _ _, hT0, jj _ _ _ _ _ _, jj _ _ _ _ _ _⟩
 · obtain ⟨hk, hr, hs⟩ := hc; have hD0 : CmdM anyB 2 w (vg c) ds := hD; obtain ⟨an, cn, ak, ck, at', ct, m, _, rfl, _⟩ := jL hT; obtain ⟨ax, cx, bn, dn, bk, dk, bt, dt, aa, ca, ae, ce, m', _, rfl, _⟩ := zm hD0; refine jne c.kind ax c.texts.length cx an ak at' cn ck ct bn bk bt aa ae dn dk dt ca ce hk _ _ w' fun w2 hb2 => ?_
   have hbl : Below w.heap.size w w2 := hb.trans (hb2.mono hb.size); exact jcC 0 (vg c) ax bn bk bt aa ae cx dn dk dt ca ce w2 (hw.next hbl) (CmdM.next hD0 hbl) ⟨hs, (fun x hx => by cases hx), fun x hx => by cases hx⟩ hr
theorem jiO {x : Cmd} (hf : qV x = true) (h2 : x.kind ≠ 2) : js 2 0 x = 0 := by
 unfold qV at hf; simp only [Bool.and_eq_true, decide_eq_true_eq] at hf; obtain ⟨⟨⟨⟨⟨k2, k10⟩, hfit⟩, ht⟩, _⟩, _⟩ := hf; have hnum : jH 0 x.kind = true := by
  rw [jd2]
  simp
  omega
 unfold js; rw [hnum, hfit]; rw [if_neg (by decide), if_pos h2]
theorem jmz {x : Cmd} (hf : qV x = true) (h2 : x.kind ≠ 2) : (cmdT 2 x).length ≤ 4 := by
 unfold qV at hf; simp only [Bool.and_eq_true, decide_eq_true_eq] at hf; obtain ⟨⟨⟨⟨⟨k2, k10⟩, hfit⟩, ht⟩, _⟩, _⟩ := hf; unfold cmdT zX; rw [if_neg h2]
 match hx : x.texts, ht with
 | [], _ => simp
 | [t], _ => simp [vo]
theorem jkT {x : Cmd} (hN : jay 2 x) (hf : qV x = true) (h2 : x.kind ≠ 2) : vu 2 [reqC, x] = 0 := by
 refine qP (n := 1) ?_ (fun y hy => by simp at hy; rw [hy]; exact hN); rw [jaC fun y hy => by
  simp at hy
  rcases hy with e | e
  · rw [e]; exact jbV _
  · rw [e]; exact jiO hf h2]
 rw [if_neg]; have h1 := jmz hf h2; have h3 : (jX 2 [reqC, x]).length = (cmdT 2 reqC).length + (cmdT 2 x).length := by simp [jX]
 have h4 : (cmdT 2 reqC).length = 11 := rfl
 show ¬ 400 < (jX 2 [reqC, x]).length
 omega
theorem jiH {t : Tst} (hfit : qb t = true) (k3 : t.kind ≠ 3) (k4 : t.kind ≠ 4) (k5 : t.kind ≠ 5) : t.tests = [] := by
 unfold qb at hfit; rw [if_neg k3, if_neg (by omega)] at hfit; have hno : ∀ u : Tst, jau u = true → u.tests = [] := fun u hu => by
  unfold jau at hu; simp only [Bool.and_eq_true, decide_eq_true_eq] at hu; exact List.length_eq_zero_iff.1 hu.2
 split at hfit
 · simp only [Bool.and_eq_true] at hfit; have h := hno _ hfit.2; exact h
 · split at hfit
   · simp only [Bool.and_eq_true] at hfit; have h := hno _ hfit.2; exact h
   · split at hfit
     · simp only [Bool.and_eq_true] at hfit; have h := hno _ hfit.2; exact h
     · split at hfit
       · simp only [Bool.and_eq_true] at hfit; have h := hno _ hfit.2; exact h
       · have h := hno _ hfit; exact h
theorem jfc {t : Tst} (h : t.tests = []) : vJ t = t := by
 cases t; simp only at h; subst h; rfl
theorem jiG (l : List (List UInt8)) : (vo l).length ≤ 2 + 2 * l.length := by
 match l with
 | [] => simp [vo, sepT]
 | [x] => simp [vo]
 | x :: y :: r =>
   have h : ∀ r : List (List UInt8), (r.flatMap fun y => [jO 44, strT y]).length = 2 * r.length := fun r => by
     induction r with
     | nil => rfl
     | cons a r ih => simp [List.flatMap_cons] at ih ⊢; omega
   have h2 := h (y :: r)
   simp [vo, sepT] at h2 ⊢
   omega
theorem jnp {t : Tst} (ht : t.tests = []) : (jP 1 t).length ≤ 8 + 2 * t.names.length + 2 * t.keys.length := by
 have h1 := jiG t.names; have h2 := jiG t.keys; unfold jP; rw [ht]; split
 · simp; omega
 · split
   · simp [sepT]; omega
   · split
     · simp; omega
     · split
       · simp; omega
       · split
         · simp; omega
         · split
           · simp; omega
           · simp; omega
theorem jms {t : Tst} (h1 : 1 ≤ t.kind) (h2 : t.kind ≤ 10) (hf : qb t = true) (ht : t.tests = []) : jr 1 1 t = 0 := by
 have hn : jH 1 t.kind = true := by rw [jb2]; simp; omega
 unfold jr; rw [hn, hf, ht]; rfl
theorem jnY {t : Tst} (h : jr 1 1 (vJ t) = 0) : js 2 0 (ifO t) = 0 := by
 rw [zS]; have h1 : oneP (jH 0 (ifO t).kind) 0 (qn (ifO t)) = 0 := rfl; rw [h1, if_neg (by simp), if_neg (by show ¬ (2 : Int) ≠ 2; simp), if_neg (by show ¬ jr 1 1 (vJ t) ≠ 0; rw [h]; simp)]; rfl
theorem jkC (t : Tst) : (cmdT 2 (ifO t)).length = (jP 1 (vJ t)).length + 3 := by
 unfold cmdT zX ifO
 simp [zk]
theorem jnK {t : Tst} (hN : jc5 1 t) (hF : FitT 1 t) (k3 : t.kind ≠ 3) (k4 : t.kind ≠ 4) (k5 : t.kind ≠ 5) : jjN t := by
 have hF1 := hF.1; unfold fitH at hF1; simp only [Bool.and_eq_true, decide_eq_true_eq] at hF1; obtain ⟨⟨⟨⟨⟨a1, a2⟩, a3⟩, a4⟩, a5⟩, _⟩ := hF1; have hn := jiH a3 k3 k4 k5; refine ⟨by simp [qo, k3, k4, k5], ?_⟩; refine qP (n := 1) ?_ (fun y hy => ?_)
 · rw [jaC fun y hy => by
    simp at hy
    rcases hy with e | e
    · rw [e]; exact jbV _
    · rw [e]; exact jnY (by rw [jfc hn]; exact jms a1 a2 a3 hn)]
   rw [if_neg]; have h1 := jnp hn; have h2 := jkC t; rw [jfc hn] at h2; have h3 : (jX 2 [reqC, ifO t]).length = (cmdT 2 reqC).length + (cmdT 2 (ifO t)).length := by simp [jX]
   have h4 : (cmdT 2 reqC).length = 11 := rfl
   show ¬ 400 < (jX 2 [reqC, ifO t]).length
   omega
 · simp at hy
   rw [hy]; refine ⟨(fun h => by cases h), (fun h => by cases h), (fun h => by rcases h with h | h <;> cases h), (fun h => by cases h), ?_, (fun x hx => by cases hx), fun x hx => by cases hx⟩
   show jc5 1 (vJ t)
   rw [jfc hn]; exact hN
theorem jfy {c : Cmd} (hf : qV c = true) : qV (vg c) = true := by
 unfold qV at hf ⊢; simp only [Bool.and_eq_true, decide_eq_true_eq] at hf ⊢; obtain ⟨⟨⟨⟨⟨k2, k10⟩, hfit⟩, ht⟩, _⟩, _⟩ := hf; refine ⟨⟨⟨⟨⟨k2, k10⟩, ?_⟩, ht⟩, by simp [vg]⟩, by simp [vg]⟩; unfold qn at hfit ⊢; rw [if_neg (by show ¬ (c.kind ≠ 2 ∧ (0 < ([] : List Cmd).length ∨ 0 < ([] : List Cmd).length ∨ jau zp = false)); simp; intro _; rfl)]; split at hfit
 · cases hfit
 · exact hfit
theorem jnd {c : Cmd} (hA : ∀ n, jay n c) (hf : qV c = true) (h2 : c.kind ≠ 2) : jhs c := by
 obtain ⟨n1, n2, n3, n4, _, _, _⟩ := hA 2; have hN2 : jay 2 (vg c) := ⟨n1, n2, n3, n4, ⟨rfl, rfl, (fun h => by cases h), fun u hu => by cases hu⟩, (fun x hx => by cases hx), fun x hx => by cases hx⟩; refine ⟨by simp [h2], jkT hN2 (jfy hf) h2, (jbB hA 1).1⟩
theorem jkN : jhs reqC := ⟨rfl, by kernel_rfl, fun h => by cases h⟩
def reqV : Array Value := #[.string ⟨#[102, 105, 108, 101, 105, 110, 116, 111]⟩, .string ⟨#[114, 101, 106, 101, 99, 116]⟩, .string ⟨#[101, 110, 118, 101, 108, 111, 112, 101]⟩, .string ⟨#[105, 109, 97, 112, 52, 102, 108, 97, 103, 115]⟩]
theorem jkO {Q : Nat → Prop} {w : World} {p : Nat} {t : TypeId} (h : w.heap[p]? = some (.cells reqV t)) (hQ : Q p) : TxtsM Q w (.slice (some ⟨p, 0, none⟩) 4 4) reqT := by
 refine ⟨some ⟨p, 0, none⟩, 4, rfl, by unfold maxLen reqT; simp, fun i x hx => ?_⟩; have hi : i < 4 := (List.getElem?_eq_some_iff.1 hx).1; refine ⟨p, 0, [.string (S x)], rfl, (Array.getElem?_eq_some_iff.1 h).1, hQ, rfl, fun j u hj => ?_, rfl⟩; cases j with
 | succ j => simp at hj
 | zero =>
   simp at hj
   subst hj; rw [Nat.zero_add, Nat.mul_one, Nat.add_zero, jlT h]
   match i, hi with
   | 0, _ | 1, _ | 2, _ | 3, _ => cases hx; rfl
theorem jnJ (w : World) (o0 o1 : Obj) : ((w.alloc o0).alloc o1).heap[w.heap.size + 1]? = some o1 := by
 have h1 : (w.alloc o0).heap.size = w.heap.size + 1 := by simp
 rw [← h1]; exact heap_alloc_new _ o1
theorem jeo (w : World) : Calls Tryz.prog 13 #[] w fun e w' => ∃ v, e = .returned v ∧ CmdR (newB w.heap.size) 2 reqC w' v ∧ Below w.heap.size w w' := by
 go_enter Tryz.func13, Tryz.ntmps13; go_wp2; refine bodyPost_ret (v := .agg #[.int .i64 1, .slice (some ⟨w.heap.size + 1, 0, none⟩) 4 4, .int .i64 0, .int .i64 0, .int .i64 0, .slice none 0 0, .slice none 0 0, .bool false, .int .i64 0, .slice none 0 0, .slice none 0 0, .slice none 0 0]) (by simp [results, Tryz.results13, go_sem]) rfl ?_; refine ⟨_, rfl, ⟨[.int .i64 1, .slice (some ⟨w.heap.size + 1, 0, none⟩) 4 4, .int .i64 0, .int .i64 0, .int .i64 0, .slice none 0 0, .slice none 0 0, .bool false, .int .i64 0, .slice none 0 0, .slice none 0 0, .slice none 0 0], rfl, ⟨_, _, _, _, _, _, rfl, ?_, qr _ _ _, jj _ _ _ _ _ _, jj _ _ _ _ _ _⟩⟩, ?_⟩
 · exact jkO (t := 9) (jnJ w _ _) (show w.heap.size ≤ w.heap.size + 1 by omega)
 · exact (nb0 _ _).alloc (by simp) _
def RT (t : Tst) : Prop := jjN t ∧ NT t ∧ t.tests = []
def RC (c : Cmd) : Prop := jhs c ∧ jhu (vg c) ∧ qJ 2 (vg c)
theorem jmr {x : Cmd} (hN : jay 1 x) (hF : qV x = true) (hk : x.kind ≠ 2) : jhu x := by
 obtain ⟨k1, k2, k3, k4, k5, k6, k7⟩ := hN; unfold qV at hF; simp only [Bool.and_eq_true, decide_eq_true_eq] at hF; obtain ⟨⟨⟨⟨⟨g2, g10⟩, gf⟩, _⟩, _⟩, _⟩ := hF; refine ⟨by omega, fun h5 => ?_, fun h6 => k4 h6⟩; intro e; unfold qn at gf; split at gf
 · cases gf
 · split at gf
   · rename_i h; omega
   · rw [e] at gf
     simp at gf
theorem jnE {c : Cmd} (hA : ∀ n, jay n c) (hf : qV c = true) (h2 : c.kind ≠ 2) : RC c := by
 obtain ⟨n1, n2, n3, n4, _, _, _⟩ := hA 2; refine ⟨jnd hA hf h2, jmr (x := vg c) ⟨n1, n2, n3, n4, trivial, (fun x hx => by cases hx), fun x hx => by cases hx⟩ (jfy hf) h2, ?_⟩; exact ⟨(jbB hA 1).1, (fun x hx => by cases hx), fun x hx => by cases hx⟩
theorem jnF : RC reqC := ⟨jkN, ⟨.inl rfl, (fun h => by rcases h with h | h | h <;> cases h), fun h => by cases h⟩, (fun h => by cases h), (fun x hx => by cases hx), fun x hx => by cases hx⟩
theorem jmL {t : Tst} (h : NT t) (k3 : t.kind ≠ 3) (k4 : t.kind ≠ 4) (k5 : t.kind ≠ 5) : RT t := by
 have hF1 := (h 1).2.1; unfold fitH at hF1; simp only [Bool.and_eq_true, decide_eq_true_eq] at hF1; obtain ⟨⟨⟨⟨⟨a1, a2⟩, a3⟩, a4⟩, a5⟩, _⟩ := hF1; exact ⟨jnK (h 1).1 (h 1).2 k3 k4 k5, h, jiH a3 k3 k4 k5⟩
theorem jnC : ∀ (n : Nat) (t : Tst), NT t → allT RT n t := by
 intro n
 induction n with
 | zero => intro t _; trivial
 | succ n ih => exact fun t h => ⟨fun k3 k4 k5 => jmL h k3 k4 k5, fun x hx => ih x fun m => ⟨(h (m + 1)).1.2.2.2 x hx, (h (m + 1)).2.2 x hx⟩⟩
theorem jnB : ∀ (n : Nat) (c : Cmd), NC c → allC RT RC n c := by
 intro n
 induction n with
 | zero => intro t _; trivial
 | succ n ih =>
   intro c h; refine ⟨fun k2 => jnE (fun n => (h n).1) (h 2).2.1 k2, fun k2 => ⟨jnC n c.test fun m => ⟨(h (m + 1)).1.2.2.2.2.1, (h (m + 1)).2.2.1 k2⟩, fun x hx => ih x fun m => ?_, fun x hx => ih x fun m => ?_⟩⟩
   · exact ⟨(h (m + 1)).1.2.2.2.2.2.1 x hx, (h (m + 1)).2.2.2.1 x hx⟩
   · exact ⟨(h (m + 1)).1.2.2.2.2.2.2 x hx, (h (m + 1)).2.2.2.2 x hx⟩
theorem jkW {r : List Cmd} (hN : ∀ x ∈ r, NC x) (n : Nat) : AllGood RT RC 0 (qq (n + 1) (reqC :: r)).length (qq (n + 1) (reqC :: r)) :=
 jhJ (n + 1) (reqC :: r) fun c hc => by
  rcases List.mem_cons.1 hc with rfl | hc
  · exact ⟨fun _ => jnF, fun h => by cases h⟩
  · exact jnB (n + 1) c (hN c hc)
theorem AllGood.fine {a N : Nat} {l : List Opr} (h : AllGood RT RC a N l) : AllGood jjN jhs a N l := fun i x hx => by
 rcases h i x hx with h | h | ⟨t, ht, e⟩ | ⟨c, hc, e⟩
 · exact .inl h
 · exact .inr (.inl h)
 · exact .inr (.inr (.inl ⟨t, ht.1, e⟩))
 · exact .inr (.inr (.inr ⟨c, hc.1, e⟩))
theorem jj5 {c : Crs} (x : Cmd) (h0 : c.fault = 0) (h : (doP c x).2 = false) : (doP c x).1.fault = 0 := by
 revert h
 unfold doP; split
 · intro _; exact h0
 · split
   · intro h; cases h
   · split
     · intro _; exact h0
     · split
       · intro _; exact h0
       · unfold askP; split
         · intro h; cases h
         · split
           · intro _; exact h0
           · split
             · intro h; cases h
             · intro _; exact h0
structure RnOk (L : List Opr) (s : Rn) : Prop where
 crs : ja2 s.c
 le : s.pc ≤ L.length
 done : s.done ≤ s.pc
 fault : s.pc < L.length → s.c.fault = 0
theorem jnH (L : List Opr) : RnOk L ⟨newC, 0, 0, false⟩ := ⟨jiM, Nat.zero_le _, Nat.le_refl _, fun _ => rfl⟩
theorem RnOk.next {o : Opn} {L : List Opr} {s : Rn} {x : Opr} (h : RnOk L s) (hG : AllGood RT RC 0 L.length L) (hx : L[s.pc]? = some x) : RnOk L (j8 o L.length s x) ∧ s.pc < (j8 o L.length s x).pc := by
 have hlt := (List.getElem?_eq_some_iff.1 hx).1; have hg := hG s.pc x hx; have hf := h.fault hlt; have hd := h.done; rw [Nat.zero_add] at hg
 rcases hg with ⟨j, tt, hj, rfl, h3, h4⟩ | rfl | ⟨t, _, rfl⟩ | ⟨c, _, rfl⟩
 · rcases hj with rfl | rfl | rfl
   · cases hb : s.told
     · rw [show j8 o L.length s (zt 3 tt) = ⟨s.c, s.pc + 1, s.done + 1, false⟩ by simp [j8, zt, hb]]; exact ⟨⟨h.crs, by show s.pc + 1 ≤ _; omega, by show s.done + 1 ≤ s.pc + 1; omega, fun _ => hf⟩, by show s.pc < s.pc + 1; omega⟩
     · rw [show j8 o L.length s (zt 3 tt) = ⟨s.c, tt, s.done + 1, true⟩ by simp [j8, zt, hb]]; exact ⟨⟨h.crs, h4, by show s.done + 1 ≤ tt; omega, fun _ => hf⟩, h3⟩
   · cases hb : s.told
     · rw [show j8 o L.length s (zt 4 tt) = ⟨s.c, tt, s.done + 1, false⟩ by simp [j8, zt, hb]]; exact ⟨⟨h.crs, h4, by show s.done + 1 ≤ tt; omega, fun _ => hf⟩, h3⟩
     · rw [show j8 o L.length s (zt 4 tt) = ⟨s.c, s.pc + 1, s.done + 1, true⟩ by simp [j8, zt, hb]]; exact ⟨⟨h.crs, by show s.pc + 1 ≤ _; omega, by show s.done + 1 ≤ s.pc + 1; omega, fun _ => hf⟩, by show s.pc < s.pc + 1; omega⟩
   · rw [show j8 o L.length s (zt 5 tt) = ⟨s.c, tt, s.done + 1, s.told⟩ by simp [j8, zt]]; exact ⟨⟨h.crs, h4, by show s.done + 1 ≤ tt; omega, fun _ => hf⟩, h3⟩
 · rw [show j8 o L.length s jcs = ⟨s.c, s.pc + 1, s.done + 1, !s.told⟩ by simp [j8, jcs]]; exact ⟨⟨h.crs, by show s.pc + 1 ≤ _; omega, by show s.done + 1 ≤ s.pc + 1; omega, fun _ => hf⟩, by show s.pc < s.pc + 1; omega⟩
 · rw [show j8 o L.length s (askO t) = ⟨s.c, s.pc + 1, s.done + 1, jo o 1 (vJ t)⟩ by simp [j8, askO]]; exact ⟨⟨h.crs, by show s.pc + 1 ≤ _; omega, by show s.done + 1 ≤ s.pc + 1; omega, fun _ => hf⟩, by show s.pc < s.pc + 1; omega⟩
 · rw [show j8 o L.length s (doO c) = ⟨(doP s.c (vg c)).1, if (doP s.c (vg c)).2 = true then L.length else s.pc + 1, s.done + 1, s.told⟩ from rfl]; cases hr : (doP s.c (vg c)).2
   · simp only [Bool.false_eq_true, if_false]; exact ⟨⟨jlX h.crs _, by show s.pc + 1 ≤ _; omega, by show s.done + 1 ≤ s.pc + 1; omega, fun _ => jj5 _ hf hr⟩, by show s.pc < s.pc + 1; omega⟩
   · simp only [if_true]; exact ⟨⟨jlX h.crs _, Nat.le_refl _, by show s.done + 1 ≤ L.length; omega, fun h => absurd h (Nat.lt_irrefl _)⟩, hlt⟩
abbrev rnL (o : Opn) (vL : Value) (a : Option Addr) (k : Nat) (c : Crs) (pc dn : Int) (td : Bool) : Array Value := #[vL, .string (S o.fl), .string (S o.fd), .string (S o.tl), .string (S o.td), .string (S o.tx), .slice a c.acts.length k, .int .i64 c.flags, .bool c.asked, .int .i64 c.fault, .int .i64 pc, .int .i64 dn, .bool td]
theorem jgl {w : World} {b : Nat} {o : Opn} {n m k : Nat} {x : Option Addr} {ax : Option Addr} {c : Crs} {pc dn : Int} {td : Bool} {t : TypeId} {fr : Nat × Nat} {v : Value} {l : List Atn} (hb : w.heap[b]? = some (.cells (rnL o (.slice x n m) ax k c pc dn td) t fr)) (h : AtnsM anyB w v l) : AtnsM (fun p => p ≠ b) w v l := by
 obtain ⟨a, c', hv, hm, hr⟩ := h; refine ⟨a, c', hv, hm, fun i y hy => ?_⟩; obtain ⟨p, q, cs, h1, h2, _, h4, h5, h6⟩ := hr i y hy; refine ⟨p, q, cs, h1, h2, fun hpb => ?_, h4, h5, h6⟩; rw [hpb] at h5; have h6' : cs = [.int .i64 y.kind, .string (S y.text), .int .i64 y.flags] := h6; have h7 := h5 0 (.int .i64 y.kind) (by rw [h6']; rfl); have h8 := h5 1 (.string (S y.text)) (by rw [h6']; rfl); simp only [World.cell?, hb] at h7 h8; rw [List.getElem?_toArray] at h7 h8; have hj : ∀ j : Nat, ([.slice x n m, .string (S o.fl), .string (S o.fd), .string (S o.tl), .string (S o.td), .string (S o.tx), .slice ax c.acts.length k, .int .i64 c.flags, .bool c.asked, .int .i64 c.fault, .int .i64 pc, .int .i64 dn, .bool td] : List Value)[j]? = some (.int .i64 y.kind) → ([.slice x n m, .string (S o.fl), .string (S o.fd), .string (S o.tl), .string (S o.td), .string (S o.tx), .slice ax c.acts.length k, .int .i64 c.flags, .bool c.asked, .int .i64 c.fault, .int .i64 pc, .int .i64 dn, .bool td] : List Value)[j + 1]? ≠ some (.string (S y.text)) := by
  intro j
  match j with
  | 0 | 1 | 2 | 3 | 4 | 5 | 6 | 7 | 8 | 9 | 10 | 11 | 12 => simp
  | j + 13 => simp
 exact hj _ h7 h8
def RnB (w : World) (b : Nat) (o : Opn) (vL : Value) (s : Rn) : Prop := ∃ a k, w.heap[b]? = some (.cells (rnL o vL a k s.c s.pc s.done s.told) 80) ∧ AtnsM (fun p => p ≠ b) w (.slice a s.c.acts.length k) s.c.acts ∧ (a = none → s.c.acts = [] ∧ k = 0)
theorem qd {w : World} {b p j : Nat} (v : Value) {l : List Atn} {u : Value} (h : AtnsM (fun q => q ≠ b) w u l) (e : p = b) : AtnsM (fun q => q ≠ b) (w.setCell ⟨p, j, none⟩ v) u l := by
 subst e; exact RowM.imp h (fun _ h => h) (Keeps.set (p := ⟨p, j, none⟩) w v (fun _ h => h)) fun _ _ h => h
theorem jfx {w w' : World} {b : Nat} {u : Value} {l : List Atn} (h : AtnsM (fun q => q ≠ b) w u l) (hb : Below w.heap.size w w') : AtnsM (fun q => q ≠ b) w' u l := AtnsM.next h hb
def StpR (w0 : World) (b : Nat) (o : Opn) (vL : Value) (s : Rn) (e : Ending) (w' : World) : Prop := (∃ v, e = .returned v) ∧ RnB w' b o vL s ∧ Below w0.heap.size w0 w'
def RunP (o : Opn) (L : List Opr) (w : World) (e : Ending) (w' : World) : Prop := ∃ (j : Nat) (s : Rn) (a : Option Addr) (k : Nat), s = runN o L j ⟨newC, 0, 0, false⟩ ∧ L.length ≤ s.pc ∧ RnOk L s ∧ e = .returned (.tuple #[.agg #[.slice a s.c.acts.length k, .int .i64 s.c.flags, .bool s.c.asked, .int .i64 s.c.fault], .int .i64 s.done, .int .i64 0]) ∧ AtnsM anyB w' (.slice a s.c.acts.length k) s.c.acts ∧ (a = none → s.c.acts = [] ∧ k = 0) ∧ Below w.heap.size w w'
theorem bx13 {w : World} {b : Nat} {t : TypeId} {v0 v1 v2 v3 v4 v5 v6 v7 v8 v9 v10 v11 v12 : Value} (h : w.heap[b]? = some (.cells #[v0, v1, v2, v3, v4, v5, v6, v7, v8, v9, v10, v11, v12] t)) : w.cell? ⟨b, 0, none⟩ = some v0 ∧ w.cell? ⟨b, 1, none⟩ = some v1 ∧ w.cell? ⟨b, 2, none⟩ = some v2 ∧ w.cell? ⟨b, 3, none⟩ = some v3 ∧ w.cell? ⟨b, 4, none⟩ = some v4 ∧ w.cell? ⟨b, 5, none⟩ = some v5 ∧ w.cell? ⟨b, 6, none⟩ = some v6 ∧ w.cell? ⟨b, 7, none⟩ = some v7 ∧ w.cell? ⟨b, 8, none⟩ = some v8 ∧ w.cell? ⟨b, 9, none⟩ = some v9 ∧ w.cell? ⟨b, 10, none⟩ = some v10 ∧ w.cell? ⟨b, 11, none⟩ = some v11 ∧ w.cell? ⟨b, 12, none⟩ = some v12 := by
 simp [World.cell?, h]
theorem bz13 {w : World} {b : Nat} {t : TypeId} {c : Array Value} (h : w.heap[b]? = some (.cells c t)) : w.frozen? ⟨b, 6, none⟩ = false ∧ w.frozen? ⟨b, 7, none⟩ = false ∧ w.frozen? ⟨b, 8, none⟩ = false ∧ w.frozen? ⟨b, 9, none⟩ = false ∧ w.frozen? ⟨b, 10, none⟩ = false ∧ w.frozen? ⟨b, 11, none⟩ = false ∧ w.frozen? ⟨b, 12, none⟩ = false := by
 simp [World.frozen?, h]
def envC : Cmd := ⟨1, [envW], zp, [], []⟩
def ifC (t : Tst) : Cmd := ⟨2, [], t, [], []⟩
theorem jm7 (M : Nat) (t : Tst) (o : Opn) (an ak at' : Option Addr) (cn ck ct : Nat) (w : World) (hw : Tabs w) (hm : maxLenCell w) (hj : vy o) (hT : TstM anyB (M + 1) w t [.int .i64 t.kind, .int .i64 t.mat, .int .i64 t.part, .slice an t.names.length cn, .slice ak t.keys.length ck, .bool t.over, .int .i64 t.limit, .slice at' t.tests.length ct]) (hr : vu (M + 2) [envC, ifC t] = 0) (hg : jgG (M + 1) t) :
 Calls Tryz.prog 14 #[.agg #[.int .i64 t.kind, .int .i64 t.mat, .int .i64 t.part, .slice an t.names.length cn, .slice ak t.keys.length ck, .bool t.over, .int .i64 t.limit, .slice at' t.tests.length ct], .agg #[.string (S o.fl), .string (S o.fd), .string (S o.tl), .string (S o.td), .string (S o.tx)]] w fun e w' => e = .returned (.tuple #[.bool (jo o (M + 1) t), .int .i64 0]) ∧ Below w.heap.size w w' := by
 have HM := hid hm; have HW := hid hw; have HJ := hid hj; have HT := hid hT; have HG := hid hg; have HRR := hid hr; obtain ⟨v, hv⟩ : ∃ v, v = jo o (M + 1) t := ⟨_, rfl⟩; rw [← hv]; have HV := hid hv; obtain ⟨W0, hW0⟩ : ∃ W0, W0 = (w.alloc (.cells #[.int .i64 t.kind, .int .i64 t.mat, .int .i64 t.part, .slice an t.names.length cn, .slice ak t.keys.length ck, .bool t.over, .int .i64 t.limit, .slice at' t.tests.length ct] 54)).alloc (.cells #[.string (S o.fl), .string (S o.fd), .string (S o.tl), .string (S o.td), .string (S o.tx)] 31) := ⟨_, rfl⟩; have HWE := hid hW0; have HB0 := hid (show Below w.heap.size w W0 by rw [hW0]; exact (nb0 _ _).alloc (by simp) _); have HTB := hid (show W0.heap[w.heap.size]? = some (.cells #[.int .i64 t.kind, .int .i64 t.mat, .int .i64 t.part, .slice an t.names.length cn, .slice ak t.keys.length ck, .bool t.over, .int .i64 t.limit, .slice at' t.tests.length ct] 54) by rw [hW0]; exact qE _ (j9 _ rfl)); have HLB := hid (show W0.heap[w.heap.size + 1]? = some (.cells #[.string (S o.fl), .string (S o.fd), .string (S o.tl), .string (S o.td), .string (S o.tx)] 31) by rw [hW0]; exact j9 _ (by simp)); have hTB := HTB.out; have HAL := hid (show Below W0.heap.size W0 (W0.alloc (.cells #[.string ⟨#[101, 110, 118, 101, 108, 111, 112, 101]⟩] 9)) from nb0 _ _); have hTA := jD HAL.out hTB; have g0 := jc (j := 0) hTB rfl; have g1 := jc (j := 1) hTB rfl; have g2 := jc (j := 2) hTB rfl; have g3 := jc (j := 3) hTB rfl; have g4 := jc (j := 4) hTB rfl; have g5 := jc (j := 5) hTB rfl; have g6 := jc (j := 6) hTB rfl; have g7 := jc (j := 7) hTB rfl; have ga0 := jc (j := 0) hTA rfl; have ga1 := jc (j := 1) hTA rfl; have ga2 := jc (j := 2) hTA rfl; have ga3 := jc (j := 3) hTA rfl; have ga4 := jc (j := 4) hTA rfl; have ga5 := jc (j := 5) hTA rfl; have ga6 := jc (j := 6) hTA rfl; have ga7 := jc (j := 7) hTA rfl; clear hw hm hj hT hr hg hv hTB hTA hW0; go_enter Tryz.func14, Tryz.ntmps14; go_wp2; rw [← HWE.out]
 go_region_law
  (go_simp
   go_at_call 31
   refine (jaQ _ _ _ _).mono ?_; rintro e u ⟨rfl, hb2⟩; have HB2 := hid (show Below W0.heap.size W0 u from HAL.out.drew.trans (hb2.mono (by simp))); have hX := jD HB2.out HTB.out; have gu0 := jc (j := 0) hX rfl; have gu1 := jc (j := 1) hX rfl; have gu2 := jc (j := 2) hX rfl; have gu3 := jc (j := 3) hX rfl; have gu4 := jc (j := 4) hX rfl; have gu5 := jc (j := 5) hX rfl; have gu6 := jc (j := 6) hX rfl; have gu7 := jc (j := 7) hX rfl; have HS2 := hid (show u.heap[W0.heap.size]? = some (.cells #[.string ⟨#[101, 110, 118, 101, 108, 111, 112, 101]⟩] 9) from (hb2.block W0.heap.size (by simp)).trans (heap_alloc_new W0.drew _)); clear hX hb2)
 all_goals
  obtain ⟨W3, hW3⟩ : ∃ W3, W3 = u.alloc (.cells #[.int .i64 1, .slice (some ⟨W0.heap.size, 0, none⟩) 1 1, .int .i64 0, .int .i64 0, .int .i64 0, .slice none 0 0, .slice none 0 0, .bool false, .int .i64 0, .slice none 0 0, .slice none 0 0, .slice none 0 0, .int .i64 2, .slice none 0 0, .int .i64 t.kind, .int .i64 t.mat, .int .i64 t.part, .slice an t.names.length cn, .slice ak t.keys.length ck, .bool t.over, .int .i64 t.limit, .slice at' t.tests.length ct, .slice none 0 0, .slice none 0 0] 58) := ⟨_, rfl⟩; have HWE3 := hid hW3; have hal3 : Below u.heap.size u W3 := by rw [hW3]; exact nb0 _ _
  have HBu := hid (HB0.out.trans (HB2.out.mono HB0.out.size)); have HB3 := hid (HBu.out.trans (hal3.mono HBu.out.size)); have HRW := hid (show CmdsM anyB (M + 2) W3 (.slice (some ⟨u.heap.size, 0, none⟩) [envC, ifC t].length 2) [envC, ifC t] by
   refine jmF (t := 58) (fr := (0, 0)) (cs := [.int .i64 1, .slice (some ⟨W0.heap.size, 0, none⟩) 1 1, .int .i64 0, .int .i64 0, .int .i64 0, .slice none 0 0, .slice none 0 0, .bool false, .int .i64 0, .slice none 0 0, .slice none 0 0, .slice none 0 0]) (ds := [.int .i64 2, .slice none 0 0, .int .i64 t.kind, .int .i64 t.mat, .int .i64 t.part, .slice an t.names.length cn, .slice ak t.keys.length ck, .bool t.over, .int .i64 t.limit, .slice at' t.tests.length ct, .slice none 0 0, .slice none 0 0]) (by rw [hW3]; exact j9 _ rfl) rfl rfl trivial ?_ ?_
   · exact ⟨_, _, _, _, _, _, rfl, zr (t := 9) (fr := (0, 0)) (cs := [.string ⟨#[101, 110, 118, 101, 108, 111, 112, 101]⟩]) (jD hal3 HS2.out) rfl trivial rfl, qr _ _ _, jj _ _ _ _ _ _, jj _ _ _ _ _ _⟩
   · exact ⟨_, _, _, _, _, _, rfl, jj _ _ _ _ _ _, TstM.imp (fun _ h => h) (Keeps.of_below HB3.out) _ _ _ HT.out, jj _ _ _ _ _ _, jj _ _ _ _ _ _⟩)
  have HCH := hid (show Calls Tryz.prog 21 #[.slice (some ⟨u.heap.size, 0, none⟩) 2 2] W3 fun e w' => e = .returned (.int .i64 0) ∧ Below W3.heap.size W3 w' by
   have := vr (M + 1) [envC, ifC t] u.heap.size 0 2 W3 (HW.out.next HB3.out) (by simp) (fun y hy => by
        simp at hy
        rcases hy with e | e
        · rw [e]; exact ⟨(fun h => by cases h), (fun x hx => by cases hx), fun x hx => by cases hx⟩
        · rw [e]; exact ⟨(fun h => by cases h), (fun x hx => by cases hx), fun x hx => by cases hx⟩) HRW.out
   rw [show vu (M + 1 + 1) [envC, ifC t] = 0 from HRR.out] at this; exact this)
  have HT3 := hid (jD hal3 (jD HB2.out HTB.out)); have HL3 := hid (jD hal3 (jD HB2.out HLB.out)); clear hW3 hal3 g0 g1 g2 g3 g4 g5 g6 g7 ga0 ga1 ga2 ga3 ga4 ga5 ga6 ga7 gu0 gu1 gu2 gu3 gu4 gu5 gu6 gu7; go_wp2_with fail; rw [← HWE3.out]; refine HCH.out.mono ?_; rintro e w4 ⟨rfl, hb4⟩; simp only; have HB4 := hid (HB3.out.trans (hb4.mono HB3.out.size)); have HT4 := hid (jD hb4 HT3.out); have hL4 := jD hb4 HL3.out; have l0 := jc (j := 0) hL4 rfl; have l1 := jc (j := 1) hL4 rfl; have l2 := jc (j := 2) hL4 rfl; have l3 := jc (j := 3) hL4 rfl; have l4 := jc (j := 4) hL4 rfl; have HOP := hid (jiR o w4 HJ.out (maxLenCell_below HM.out HB4.out)); clear hb4 hL4 HWE3 HCH HRW HT3 HL3; go_wp2_with fail; refine HOP.out.mono ?_; rintro e w5 ⟨fa, fc, rfl, hF, hb5⟩; simp only; have hal5 : Below w5.heap.size w5 (w5.alloc (.cells #[.string (S o.fl), .string (S o.fd), .string (S o.tl), .string (S o.td), .string (S o.tx), .slice fa o.fs.length fc, .string (S o.body)] 82)) := nb0 _ _; have HB5 := hid (HB4.out.trans ((hb5.trans (hal5.mono hb5.size)).mono HB4.out.size)); have hT5 := jD hal5 (jD hb5 HT4.out); have t0 := jc (j := 0) hT5 rfl; have t1 := jc (j := 1) hT5 rfl; have t2 := jc (j := 2) hT5 rfl; have t3 := jc (j := 3) hT5 rfl; have t4 := jc (j := 4) hT5 rfl; have t5 := jc (j := 5) hT5 rfl; have t6 := jc (j := 6) hT5 rfl; have t7 := jc (j := 7) hT5 rfl; have HTE := hid (show Calls Tryz.prog 32 #[.agg #[.string (S o.fl), .string (S o.fd), .string (S o.tl), .string (S o.td), .string (S o.tx), .slice fa o.fs.length fc, .string (S o.body)], .agg #[.int .i64 t.kind, .int .i64 t.mat, .int .i64 t.part, .slice an t.names.length cn, .slice ak t.keys.length ck, .bool t.over, .int .i64 t.limit, .slice at' t.tests.length ct]] (w5.alloc (.cells #[.string (S o.fl), .string (S o.fd), .string (S o.tl), .string (S o.td), .string (S o.tx), .slice fa o.fs.length fc, .string (S o.body)] 82)) fun e w' => e = .returned (.bool v) ∧ Below (w5.alloc (.cells #[.string (S o.fl), .string (S o.fd), .string (S o.tl), .string (S o.td), .string (S o.tx), .slice fa o.fs.length fc, .string (S o.body)] 82)).heap.size (w5.alloc (.cells #[.string (S o.fl), .string (S o.fd), .string (S o.tl), .string (S o.td), .string (S o.tx), .slice fa o.fs.length fc, .string (S o.body)] 82)) w' by
   rw [HV.out]; exact jez o fa fc (jaM HJ.out).1 (M + 1) t an ak at' cn ck ct _ (hF.below hal5) (maxLenCell_below HM.out HB5.out) HG.out (TstM.next HT.out HB5.out))
  clear hF hb5 hal5 hT5 HOP; go_wp2_with fail; refine HTE.out.mono ?_; rintro e w6 ⟨rfl, hb6⟩; simp only; have HB6 := hid (HB5.out.trans (hb6.mono HB5.out.size)); clear hb6; go_wp2; go_ret2; exact ⟨rfl, HB6.out⟩
theorem jhX (n : Nat) : js n 0 envC = 0 := by cases n <;> rfl
theorem jke {n : Nat} {t : Tst} (h : jr n 1 t = 0) : js (n + 1) 0 (ifC t) = 0 := by
 rw [zS]; have h1 : oneP (jH 0 (ifC t).kind) 0 (qn (ifC t)) = 0 := rfl; rw [h1, if_neg (by simp), if_neg (by show ¬ (2 : Int) ≠ 2; simp), if_neg (by show ¬ jr n 1 t ≠ 0; rw [h]; simp)]; rfl
theorem jnm (n : Nat) (t : Tst) : (cmdT (n + 1) (ifC t)).length = (jP n t).length + 3 := by
 unfold cmdT zX ifC
 simp [zk]
theorem jkS {n : Nat} {t : Tst} (hN : jc5 n t) (hf : jr n 1 t = 0) (hl : (jP n t).length ≤ 390) : vu (n + 1) [envC, ifC t] = 0 := by
 have hc : jW (n + 1) [envC, ifC t] = 0 := by
  rw [jaC fun y hy => by
   simp at hy
   rcases hy with e | e
   · rw [e]; exact jhX _
   · rw [e]; exact jke hf]
  rw [if_neg]; have h3 : (jX (n + 1) [envC, ifC t]).length = (cmdT (n + 1) envC).length + (cmdT (n + 1) (ifC t)).length := by simp [jX]
  have h4 : (cmdT (n + 1) envC).length = 3 := rfl; have h5 := jnm n t; omega
 have ha : zj [envC, ifC t] = 1 := rfl; have hr : jdx [envC, ifC t] = [envW] := rfl; unfold vu; rw [if_neg (by rw [hc]; simp), hr, if_neg (by decide), ha]; refine zN fun x hx => ?_
 simp at hx
 rw [hx]; unfold cmdA; have e1 : hasP [envW] (jcx (ifC t).kind) = true := rfl; rw [e1]; have e2 : tstA [envW] n (ifC t).test = 0 := jf2 (by decide) n t hN; simp only [ifC] at e2 ⊢
 simp [e2, jp]
theorem jmi : ∀ (n d : Nat) (t : Tst), jr n d t = 0 → jgG n t := by
 intro n
 induction n with
 | zero => intro d t _; trivial
 | succ n ih =>
   intro d t h; unfold jr at h
   by_cases h1 : oneP (jH 1 t.kind) d (qb t) = 0
   · rw [if_pos h1] at h; have hf : qb t = true := by
        unfold oneP at h1
        by_cases h2 : jH 1 t.kind = false
        · rw [if_pos h2] at h1; cases h1
        · rw [if_neg h2] at h1
          by_cases h3 : 6 < d
          · rw [if_pos h3] at h1; cases h1
          · rw [if_neg h3] at h1; cases hq : qb t with
            | true => rfl
            | false => rw [hq] at h1; simp at h1
     refine ⟨fun hk => ?_, fun x hx => ih (d + 1) x ?_⟩
     · unfold qb at hf; rw [if_pos hk] at hf; simp only [Bool.and_eq_true, decide_eq_true_eq] at hf; intro e; rw [e] at hf
       simp at hf
     · clear hf h1; generalize t.tests = l at h hx
       induction l with
       | nil => cases hx
       | cons y l ihl =>
         unfold jp at h
         by_cases hy : jr n (d + 1) y = 0
         · rw [if_pos hy] at h
           rcases List.mem_cons.1 hx with e | e
           · rw [e]; exact hy
           · exact ihl h e
         · rw [if_neg hy] at h; exact absurd h hy
   · rw [if_neg h1] at h; exact absurd h h1
theorem jaj (s : ByteArray) (w : World) (hs : s.size ≤ maxLen) :
 Calls Tryz.prog 30 #[.string s] w fun e w' => e = .returned (.string (S (zW s.data.toList))) ∧ Below w.heap.size w w' := by
 unfold maxLen at hs; obtain ⟨i0, hi, hz0, hz1, hz2⟩ := info_parts jly; go_enter Tryz.func30, Tryz.ntmps30; go_wp2
 go_loopw [3, 4] (fun v i wr => ∃ k : Nat, k ≤ s.size ∧ k ≤ 8 ∧ i = .int .i64 k ∧ wr.ownsRow w.heap.size 5 1 v k (vz (jbv s.data.toList k)) ∧ Below w.heap.size w wr) (fun _ i _ => 8 - (intOf i).toNat)
 case atStart => exact ⟨0, Nat.zero_le _, Nat.zero_le _, rfl, World.ownsRow_nil _ _ _ _, Below.refl _ _⟩
 case round =>
  obtain ⟨k, hk, hk8, rfl, hown, hB⟩ := hrel
  by_cases hlt : k < s.size ∧ k < 8
  · obtain ⟨hl1, hl2⟩ := hlt; have hu := s[k].toNat_lt; have hu0 : (0 : Int) ≤ (s[k].toNat : Int) := by omega
    have hu1 : (s[k].toNat : Int) ≤ 255 := by omega
    have HS : Hid _ := jjH s k hl1
    go_wp2_with (at_builtin; refine wpList_append_own _ rfl _ _ 95 rfl w.heap.size 5 i0 (.int .u8 0) 1 1 Tryz.underlying95 hi hz0 hz1 hz2 rfl (by decide) _ _ _ rfl (hown.alloc _) ⟨wr.heap.size, 0, none⟩ 1 1 [.int .u8 (97 + (s[k].toNat : Int) % 26)] rfl rfl (zo _ _ _) ?c2 ?c3 ?c4 ?c5 ?_)
    case c2 => intro u hu; simp at hu; subst hu; rfl
    case c3 => unfold maxLen; omega
    case c4 => omega
    case c5 => have := hB.size; simp; omega
    intro v' w2 hown' hgrow _; have hsz := hB.size; have hB2 : Below w.heap.size w w2 := (hB.alloc hsz _).grown hgrow (by simp; omega) (fun j hj => (hown.lt j hj).1); rw [← HS.out] at hown'; clear hgrow hown; go_wp2
    go_roundw
    case rel => first | exact ⟨k + 1, by omega, by omega, by go_num, hown', hB2⟩ | ((repeat apply Exists.intro); exact ⟨⟨k + 1, by omega, by omega, by go_num, hown', hB2⟩, rfl⟩) | (refine ⟨trivial, ?_⟩; (repeat apply Exists.intro); exact ⟨⟨k + 1, by omega, by omega, by go_num, hown', hB2⟩, rfl⟩)
    case measure => simp [intOf]; omega
  · by_cases h0 : s.size = 0
    · have hk0 : k = 0 := by omega
      subst hk0; have HW : Hid (zW s.data.toList = [120]) := by
       have : s.data.toList = [] := List.length_eq_zero_iff.1 (by rw [size_list]; exact h0); unfold Hid zW; rw [if_pos this]
      obtain ⟨a0, c0, rfl⟩ := jds hown; go_wp2; go_ret; exact ⟨by rw [HW.out]; rfl, hB⟩
    · have HT : Hid (zW s.data.toList = jbv s.data.toList k) := by
       have hne : s.data.toList ≠ [] := fun e => by have := size_list s; rw [e] at this; simp at this; omega
       unfold Hid zW; rw [if_neg hne]
       by_cases h8 : k = 8
       · rw [h8]
       · unfold jbv; rw [List.take_of_length_le (by rw [size_list]; omega), List.take_of_length_le (by rw [size_list]; omega)]
      have hkp : (k : Int) ≠ 0 := by omega
      have hkb : ((k : Int) == 0) = false := by simpa using hkp
      have hrun := jbM hown; obtain ⟨a0, c0, rfl⟩ := jds hown
      by_cases h8 : k < s.size
      · have hk8' : ¬ k < 8 := fun h => hlt ⟨h8, h⟩
        go_wp2; go_ret; exact ⟨by rw [HT.out]; rfl, hB⟩
      · go_wp2; go_ret; exact ⟨by rw [HT.out]; rfl, hB⟩
end Go.Proofs.YtaapmpchcfcniaaGreatDoor
