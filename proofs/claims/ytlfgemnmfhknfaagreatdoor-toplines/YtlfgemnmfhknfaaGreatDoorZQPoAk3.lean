/-
  What addUser does with a user that it takes: the walk.
  What post.open does with three users: the walk.
  Bytes in memory: how they are read, rows of bytes that a call has made, and bytes put behind them. No function of the program is named here.
  Tapes: which may be, copies of bytes, Sync and Crash: the walks.
-/
import Derived.Test.YtlfgemnmfhknfaaGreatDoorZQPoNl5
import Derived.Deep.AppendLies
import Derived.Test.YtlfgemnmfhknfaaGreatDoorZQTokMark6
import Derived.Test.YtlfgemnmfhknfaaGreatDoorZQScrCard11
import Derived.Test.YtlfgemnmfhknfaaGreatDoorRows
import Derived.Test.YtlfgemnmfhknfaaGreatDoorZQPure5
import Derived.WalkKit
import Derived.Laws.AppendOwn
import Derived.Laws.IdiomStrings
import Derived.Laws.BytesArg
import Derived.Lib.AppendStr
import Derived.Deep.QuietTactic
import Derived.BigQuiet
import Derived.Lib.SliceRun
import Derived.OwnWalk
import Derived.Deep.RegionHeld3
import Derived.Deep.RegionLaw
import Derived.Deep.DeepCutAuto
namespace Go.Proofs.YtlfgemnmfhknfaaGreatDoor
open Go.RowKit Go.Proofs
theorem CmdsM.stp {b : Nat} {G G' : List Nat} {w w' : World} {Q : Nat → Prop} {n : Nat} {v : Value} {l : List Cmd} (h : CmdsM Q n w v l) (hs : Stp b G w G' w') (hQ : ∀ k, Q k → k < w.heap.size → Av b G k) : CmdsM (fun k => Q k ∧ Av b G' k) n w' v l := by
  have hk : ∀ k, Q k → k < w.heap.size → (Q k ∧ Av b G' k) ∧ w'.heap[k]? = w.heap[k]? := fun k hq hl => ⟨⟨hq, hs.av hl (hQ k hq hl)⟩, hs.block k hl (hQ k hq hl)⟩
  have hr : ∀ {A : Type} {k : Nat} {P P' : A → List Value → Prop} {v : Value} {l : List A}, RowM Q k P w v l → (∀ x cs, P x cs → P' x cs) → RowM (fun k => Q k ∧ Av b G' k) k P' w' v l := by
    intro A k P P' v l h hp; obtain ⟨a, c, hv, hm, hx⟩ := h; refine ⟨a, c, hv, hm, fun i x hi => ?_⟩; obtain ⟨g, o, cs, ha, hg, hq, hl, hc, hP⟩ := hx i x hi; exact ⟨g, o, cs, ha, Nat.lt_of_lt_of_le hg hs.size, (hk g hq hg).1, hl, fun j u hj => (World.cell?_of_block (hk g hq hg).2).trans (hc j u hj), hp x cs hP⟩
  have ht : ∀ (n : Nat) (t : Tst) (cs : List Value), TstM Q n w t cs → TstM (fun k => Q k ∧ Av b G' k) n w' t cs := by
    intro n
    induction n with
    | zero => intro t cs h; exact h
    | succ n ih =>
      intro t cs h; obtain ⟨vn, vk, vt, h0, h1, h2, h3⟩ := h; exact ⟨vn, vk, vt, h0, hr h1 fun _ _ h => h, hr h2 fun _ _ h => h, hr h3 ih⟩
  have hcm : ∀ (n : Nat) (t : Cmd) (cs : List Value), CmdM Q n w t cs → CmdM (fun k => Q k ∧ Av b G' k) n w' t cs := by
    intro n
    induction n with
    | zero => intro t cs h; exact h
    | succ n ih =>
      intro t cs h; obtain ⟨vx, vn, vk, vt, va, ve, h0, h1, h2, h3, h4⟩ := h; exact ⟨vx, vn, vk, vt, va, ve, h0, hr h1 fun _ _ h => h, ht _ _ _ h2, hr h3 ih, hr h4 ih⟩
  exact hr h (hcm n)
def locR (v : Value) (L : List (List UInt8)) : MRow := ⟨9, 1, v, L.length, L.map fun l => .string (S l)⟩
def scrR (v : Value) (X : List Value) : MRow := ⟨107, 1, v, X.length, X⟩
def TA (b p : Nat) (v34 v35 : Value) (lo : List UInt8) (w : World) : Prop := w.cell? ⟨b, 34, none⟩ = some v34 ∧ w.cell? ⟨b, 35, none⟩ = some v35 ∧ w.cell? ⟨p, 0, none⟩ = some (.string (S lo))
structure AdS (w0 : World) (B b p : Nat) (cs : List Value) (l0 s0 : MRow) (v34 v35 : Value) (lo : List UInt8) (l s : MRow) (w : World) : Prop where
  box : RmB w b cs
  own : MOk w B b [l, s]
  stp : Stp b (mB [l0, s0]) w0 (mB [l, s]) w
  ta : TA b p v34 v35 lo w
  hp : p < w0.heap.size ∧ Av b (mB [l0, s0]) p
theorem AdS.next {w0 : World} {B b p : Nat} {cs : List Value} {l0 s0 l s : MRow} {v34 v35 : Value} {lo : List UInt8} {w w' : World} (h : AdS w0 B b p cs l0 s0 v34 v35 lo l s w) (hb : Below w.heap.size w w') : AdS w0 B b p cs l0 s0 v34 v35 lo l s w' :=
  ⟨h.box.next hb, h.own.next hb, h.stp.trans (.of hb), ⟨ja h.ta.1 hb, ja h.ta.2.1 hb, ja h.ta.2.2 hb⟩, h.hp⟩
theorem AdS.put {w0 : World} {B b p : Nat} {cs : List Value} {l0 s0 l s l' s' : MRow} {v34 v35 : Value} {lo : List UInt8} {w w' : World} (h : AdS w0 B b p cs l0 s0 v34 v35 lo l s w) (hM : MOk w' B b [l', s']) (hS : Stp b (mB [l, s]) w (mB [l', s']) w') (hB : w'.heap[b]? = w.heap[b]?) : AdS w0 B b p cs l0 s0 v34 v35 lo l' s' w' := by
  have hz := h.stp.size; have hp := h.hp; refine ⟨⟨hB.trans h.box.1, h.box.2⟩, hM, h.stp.trans hS, ⟨(World.cell?_of_block hB).trans h.ta.1, (World.cell?_of_block hB).trans h.ta.2.1, (World.cell?_of_block (hS.block p (by omega) (h.stp.av hp.1 hp.2))).trans h.ta.2.2⟩, hp⟩
theorem AdS.g1 {w0 : World} {B b p H : Nat} {cs : List Value} {l0 s0 l s l' : MRow} {v34 v35 : Value} {lo : List UInt8} {w w' : World} (h : AdS w0 B b p cs l0 s0 v34 v35 lo l s w) (hg : w.grownBy w' l.v.ownBlock) (ho : w'.ownsRow B l'.e l'.k l'.v l'.n l'.xs) (hH : w.heap.size ≤ H) (hat : ∀ g, l'.v.ownBlock = some g → l.v.ownBlock = some g ∨ H ≤ g) :
    AdS w0 B b p cs l0 s0 v34 v35 lo l' s w' := by
  obtain ⟨h1, h2⟩ := MOk.grow (A := []) (Z := [s]) h.own hg ho hH hat; exact h.put h1 h2 (hg.block b h.own.lt fun e => h.own.far (List.mem_filterMap.2 ⟨l, by simp, e.symm⟩))
theorem AdS.g2 {w0 : World} {B b p H : Nat} {cs : List Value} {l0 s0 l s s' : MRow} {v34 v35 : Value} {lo : List UInt8} {w w' : World} (h : AdS w0 B b p cs l0 s0 v34 v35 lo l s w) (hg : w.grownBy w' s.v.ownBlock) (ho : w'.ownsRow B s'.e s'.k s'.v s'.n s'.xs) (hH : w.heap.size ≤ H) (hat : ∀ g, s'.v.ownBlock = some g → s.v.ownBlock = some g ∨ H ≤ g) :
    AdS w0 B b p cs l0 s0 v34 v35 lo l s' w' := by
  obtain ⟨h1, h2⟩ := MOk.grow (A := [l]) (Z := []) h.own hg ho hH hat; exact h.put h1 h2 (hg.block b h.own.lt fun e => h.own.far (List.mem_filterMap.2 ⟨s, by simp, e.symm⟩))
def Nw (w : World) (q : Nat) (u : Value) : Prop := ∀ j x, [u][j]? = some x → w.cell? ((⟨q, 0, none⟩ : Addr).add j) = some x
theorem Nw.new (w : World) (u : Value) (t : TypeId) (q : Nat) (hq : w.heap.size = q) : Nw (w.alloc (.cells #[u] t)) q u := hq ▸ zE w [u] t
theorem Nw.next {w w' : World} {q : Nat} {u : Value} (h : Nw w q u) (hb : Below w.heap.size w w') : Nw w' q u := fun j x hj => ja (h j x hj) hb
theorem Nw.grow {w w' : World} {q : Nat} {u : Value} {row : Option Nat} (h : Nw w q u) (hg : w.grownBy w' row) (hn : row ≠ some q) : Nw w' q u := fun j x hj => hg.cell (h j x hj) (by rw [Addr.add_lit]; exact fun e => hn e.symm)
def AduP (B b : Nat) (cs : List Value) (L : List (List UInt8)) (X : List Value) (v34 v35 : Value) (lo : List UInt8) (n : Nat) (C : List Cmd) (w : World) (e : Ending) (w' : World) : Prop :=
  e = .returned (.int .i64 0) ∧ ∃ u34 u35 a c, RmB w' b ((cs.set 34 u34).set 35 u35) ∧ MOk w' B b [locR u34 (L ++ [lo]), scrR u35 (X ++ [.slice a C.length c])] ∧ jbt a C.length c ∧
    CmdsM (fun k => w.heap.size ≤ k ∧ Av b (mB [locR u34 (L ++ [lo]), scrR u35 (X ++ [.slice a C.length c])]) k) n w' (.slice a C.length c) C ∧ Stp b (mB [locR v34 L, scrR v35 X]) w (mB [locR u34 (L ++ [lo]), scrR u35 (X ++ [.slice a C.length c])]) w'
theorem jlf {w0 w5 : World} {B b p n c : Nat} {cs : List Value} {L : List (List UInt8)} {X : List Value} {v34 v35 u34 u35 : Value} {lo : List UInt8} {a : Option Addr} {C : List Cmd} {w : World} {N : Nat} (h : AdS w0 B b p cs (locR v34 L) (scrR v35 X) v34 v35 lo (locR u34 (L ++ [lo])) (scrR u35 (X ++ [.slice a C.length c])) w5)
    (hw : Below w.heap.size w w0) (hM : MOk w B b [locR v34 L, scrR v35 X]) (hC : CmdsM (newB N) n w0 (.slice a C.length c) C) (hN : w.heap.size ≤ N) (hR : jbt a C.length c) :
    AduP B b cs L X v34 v35 lo n C w (.returned (.int .i64 0)) ((w5.setCell ⟨b, 34, none⟩ u34).setCell ⟨b, 35, none⟩ u35) := by
  refine ⟨rfl, u34, u35, a, c, ⟨?_, by simpa using h.box.2⟩, (h.own.box _ _).box _ _, hR, RowM.imp (CmdsM.stp hC ((h.stp.box _ _).box _ _) (fun k hk hl => ⟨?_, fun e => ?_⟩)) (fun k hk => ⟨Nat.le_trans hN hk.1, hk.2⟩) (Keeps.refl _ _) (fun x cs hx => CmdM.imp (fun k hk => ⟨Nat.le_trans hN hk.1, hk.2⟩) (Keeps.refl _ _) _ _ _ hx), (Stp.of hw).trans ((h.stp.box _ _).box _ _)⟩
  · have h1 := heap_setCell_same _ b 35 _ _ u35 (heap_setCell_same _ b 34 _ _ u34 h.box.1); rw [h1]
    simp
  · have := hM.lt; unfold newB at hk; omega
  · have := (hM.rng k e).2; unfold newB at hk; omega
theorem AdS.frz {w0 : World} {B b p : Nat} {cs : List Value} {l0 s0 l s : MRow} {v34 v35 : Value} {lo : List UInt8} {w : World} (h : AdS w0 B b p cs l0 s0 v34 v35 lo l s w) (u : Value) : w.frozen? ⟨b, 34, none⟩ = false ∧ (w.setCell ⟨b, 34, none⟩ u).frozen? ⟨b, 35, none⟩ = false ∧ (w.setCell ⟨b, 34, none⟩ u).cell? ⟨b, 35, none⟩ = some v35 := by
  have h1 := h.box.1; have h2 := heap_setCell_same _ b 34 _ _ u h1; refine ⟨by simp [World.frozen?, h1], by simp [World.frozen?, h2], ?_⟩; have h3 := h.ta.2.1; simp only [World.cell?, h1] at h3; simp only [World.cell?, h2]
  simpa using h3
theorem jlO : (Tryz.prog.info? 9).map (fun i => (i.zero, i.size, i.bytes)) = some (some (.string ByteArray.empty), 1, 16) := by kernel_rfl
theorem jmh : (Tryz.prog.info? 107).map (fun i => (i.zero, i.size, i.bytes)) = some (some (.slice none 0 0), 1, 24) := by kernel_rfl
set_option linter.unusedSimpArgs false in
set_option maxHeartbeats 2000000 in
set_option maxRecDepth 100000 in
theorem jlV (B b : Nat) (lo sc : List UInt8) (cs : List Value) (L : List (List UInt8)) (X : List Value) (v34 v35 : Value) (w : World) (hR : RmB w b cs) (h34 : cs[34]? = some v34) (h35 : cs[35]? = some v35) (hM : MOk w B b [locR v34 L, scrR v35 X]) (hBb : B ≤ b) (hLl : L.length ≤ 10) (hXl : X.length ≤ 10)
    (hc : jZ lo [120] = 0) (hl : lo.length ≤ 2000) (hm : L.contains lo = false) (n : Nat) (C : List Cmd) (hRd : ∀ v, Below w.heap.size w v → Calls Tryz.prog 40 #[.string (S sc)] v (RdP v n (C, 0))) :
    Calls Tryz.prog 26 #[.pointer (some ⟨b, 0, none⟩), .agg #[.string (S lo), .string (S sc)]] w (AduP B b cs L X v34 v35 lo n C w) := by
  have hX : TxtsM (fun _ => True) w v34 L := jaN (f := fun l => .string (S l)) (hM.own (locR v34 L) (by simp)) (by unfold maxLen; omega) fun _ _ => trivial
  obtain ⟨al, cl, rfl⟩ := RowM.slice hX; obtain ⟨as_, c35, rfl⟩ : ∃ a c, v35 = .slice a X.length c := by
    rcases (hM.own (scrR v35 X) (by simp)).2 with ⟨h, h0⟩ | ⟨g, cap, _, h, _⟩
    · exact ⟨none, 0, by rw [show v35 = _ from h, show X.length = 0 from h0]⟩
    · exact ⟨_, _, h⟩
  have HMM := hid hM; have HRD := hid hRd; clear hRd; have HC := hid (fun u => qF (S lo) ⟨#[120]⟩ u (by rw [jf]; omega) (by decide)); have HK := hid hc; have HR := hid hR; have HLX := hid hX; have hbl : b < w.heap.size := hM.lt; obtain ⟨i0, hi, hz0, hz1, hz2⟩ := info_parts jlO; obtain ⟨j0, hj, hq0, hq1, hq2⟩ := info_parts jmh; clear hc hR hX hM; go_enter Tryz.func26, Tryz.ntmps26; go_wp2_with fail; refine (HC.out _).mono ?_; rw [show jZ (S lo).data.toList (⟨#[120]⟩ : ByteArray).data.toList = 0 by rw [jo]; exact HK.out]; rintro e w1 ⟨rfl, hb1⟩; have hB1 : Below w.heap.size w w1 := ((Below.refl _ _).alloc (Nat.le_refl _) _).trans (hb1.mono (by simp)); have HB1 := hid hB1; have hu1 : w1.heap[w.heap.size]? = some (.cells #[.string (S lo), .string (S sc)] 65) := (hb1.block _ (by simp)).trans (heap_alloc_new w _); have hz1' : w.heap.size < w1.heap.size := (Array.getElem?_eq_some_iff.1 hu1).1; have u0 : w1.cell? ⟨w.heap.size, 0, none⟩ = some (.string (S lo)) := by simp [World.cell?, hu1]
  have u1 : w1.cell? ⟨w.heap.size, 1, none⟩ = some (.string (S sc)) := by simp [World.cell?, hu1]
  have r34 := (HR.out.next hB1).cell h34; have r35 := (HR.out.next hB1).cell h35; have HCN := hid (show ∀ v, Below w1.heap.size w1 v → Calls Tryz.prog 39 #[.slice al L.length cl, .string (S lo)] v fun e w' => e = .returned (.bool (L.contains lo)) ∧ Below w1.heap.size w1 w' from fun v hv => (jaq (fun _ => True) L lo al cl v (HLX.out.next (hB1.trans (hv.mono hB1.size)))).mono fun e w' h => ⟨h.1, hv.trans (h.2.mono hv.size)⟩); obtain ⟨q, hq⟩ : ∃ q, q = L.contains lo := ⟨_, rfl⟩; rw [← hq] at hm HCN; have HQ := hid hm; clear hq hm; have HCE := hid (show ∀ v, Below w1.heap.size w1 v → v.cell? ⟨b, 34, none⟩ = some (.slice al L.length cl) ∧ v.cell? ⟨w.heap.size, 0, none⟩ = some (.string (S lo)) from fun v hv => ⟨ja r34 hv, ja u0 hv⟩); clear hb1 hB1 hu1; go_upto_region 3 with fail
  go_cut [13] (fun v wx => v = .bool q ∧ Below w1.heap.size w1 wx)
  case first =>
    go_region_held3 (fun w' => w'.cell? ⟨b, 34, none⟩ = some (.slice al L.length cl) ∧ w'.cell? ⟨w.heap.size, 0, none⟩ = some (.string (S lo))) (first | exact HCE.out _ HBV.out | exact HCE.out _ ((Below.refl _ _).drew) | exact HCE.out _ (Below.refl _ _) | fail)
      (first
        | (go_at_call 39
           with_reducible refine (HCN.out _ ?_).mono ?_
           · first | exact Below.refl _ _ | exact (Below.refl _ _).drew
           rintro e w2 ⟨rfl, hb2⟩; have HBV := hid hb2; clear hb2)
        | fail)
    all_goals (go_wp2_with fail; go_meet; exact ⟨rfl, HBV.out⟩)
  case rest =>
    obtain ⟨hv, hBx⟩ := hcut; subst hv; obtain ⟨W2, rfl⟩ : ∃ W, W = wc := ⟨_, rfl⟩; have HB2 := hid (show Below w.heap.size w W2 from HB1.out.trans (hBx.mono HB1.out.size)); have u1 := ja u1 hBx; have HB12 := hid hBx; rw [HQ.out]; clear hBx; go_wp2_with fail; refine (HRD.out W2 HB2.out).mono ?_; rintro e w3 ⟨a3, c3, rfl, hM3, hb3, hrest3⟩; simp only; simp only at hM3 hrest3; have HB3 := hid (HB2.out.trans (hb3.mono HB2.out.size)); have hB13 : Below w1.heap.size w1 w3 := HB12.out.trans (hb3.mono HB12.out.size); have HS0 : Hid (AdS w3 B b w.heap.size cs (locR (.slice al L.length cl) L) (scrR (.slice as_ X.length c35) X) (.slice al L.length cl) (.slice as_ X.length c35) lo (locR (.slice al L.length cl) L) (scrR (.slice as_ X.length c35) X) w3.drew) :=
      ⟨(HR.out.next HB3.out).next (Below.refl _ _).drew, (HMM.out.next HB3.out).next (Below.refl _ _).drew, .of (Below.refl _ _).drew, ⟨ja r34 hB13.drew, ja r35 hB13.drew, ja u0 hB13.drew⟩, Nat.lt_of_lt_of_le hz1' hB13.size, by omega, fun e => by have := (HMM.out.rng _ e).2; omega⟩
    have hwz : w.heap.size + 1 ≤ w3.heap.size := Nat.le_trans hz1' hB13.size; have HEND := hid (fun (u34 u35 : Value) (w5 : World) (h : AdS w3 B b w.heap.size cs (locR (.slice al L.length cl) L) (scrR (.slice as_ X.length c35) X) (.slice al L.length cl) (.slice as_ X.length c35) lo (locR u34 (L ++ [lo])) (scrR u35 (X ++ [.slice a3 C.length c3])) w5) => jlf (w := w) h HB3.out HMM.out hM3 HB2.out.size hrest3); have hlb : ∀ q, w3.heap.size ≤ q → (Value.slice al L.length cl).ownBlock ≠ some q := fun q hq e => by
      have := (HMM.out.rng q (List.mem_filterMap.2 ⟨locR (.slice al L.length cl) L, by simp, e⟩)).2; omega
    have HLB := hid hlb; have HT := hid (HS0.out.ta); clear hM3 hb3 hrest3 hB13 hlb r34 r35 u0 u1 h34 h35; go_upto_region 8 with fail
    have hT3 := HT.out; unfold TA at hT3; refine jca (late := fun i => i == 19 || i == 22) (T := fun w' => w'.cell? ⟨b, 34, none⟩ = some (.slice al L.length cl) ∧ w'.cell? ⟨b, 35, none⟩ = some (.slice as_ X.length c35) ∧ w'.cell? ⟨w.heap.size, 0, none⟩ = some (.string (S lo))) (by rfl) ?_; refine jq (i := 0) (v := ?v1) rfl (by kernel_rfl) (by kernel_rfl) (by kernel_rfl) (fun _ _ _ h => h) (Or.inl ⟨by rfl, ?hy1⟩) ?_
    case hy1 =>
      intro w hSw
      (try dsimp only at hSw)
      go_simp
      all_goals with_reducible rfl
    change jD _ _ _ _ _ _ _ _ (Act.put _ (some 30) _) _
    try simp only [Act.put, List.setIfInBounds_toArray, List.set_cons_zero, List.set_cons_succ]
    refine jq (i := 1) (v := ?v2) rfl (by kernel_rfl) (by kernel_rfl) (by kernel_rfl) (fun _ _ _ h => h) (Or.inl ⟨by rfl, ?hy2⟩) ?_
    case hy2 =>
      intro w hSw
      (try dsimp only at hSw)
      go_simp
      all_goals with_reducible rfl
    change jD _ _ _ _ _ _ _ _ (Act.put _ (some 31) _) _
    try simp only [Act.put, List.setIfInBounds_toArray, List.set_cons_zero, List.set_cons_succ]
    refine jq (i := 2) (v := ?v3) rfl (by kernel_rfl) (by kernel_rfl) (by kernel_rfl) (fun _ _ _ h => h) (Or.inl ⟨by rfl, ?hy3⟩) ?_
    case hy3 =>
      intro w hSw
      (try dsimp only at hSw)
      go_simp
      all_goals with_reducible rfl
    change jD _ _ _ _ _ _ _ _ (Act.put _ (some 32) _) _
    try simp only [Act.put, List.setIfInBounds_toArray, List.set_cons_zero, List.set_cons_succ]
    refine jq (i := 3) (v := ?v4) rfl (by kernel_rfl) (by kernel_rfl) (by kernel_rfl) (fun _ _ _ h => h) (Or.inl ⟨by rfl, ?hy4⟩) ?_
    case hy4 =>
      intro w hSw
      (try dsimp only at hSw)
      go_simp
      all_goals with_reducible rfl
    change jD _ _ _ _ _ _ _ _ (Act.put _ (some 33) _) _
    try simp only [Act.put, List.setIfInBounds_toArray, List.set_cons_zero, List.set_cons_succ]
    refine jq (i := 4) (v := ?v5) rfl (by kernel_rfl) (by kernel_rfl) (by kernel_rfl) (fun _ _ _ h => h) (Or.inl ⟨by rfl, ?hy5⟩) ?_
    case hy5 =>
      intro w hSw
      (try dsimp only at hSw)
      go_simp
      all_goals with_reducible rfl
    change jD _ _ _ _ _ _ _ _ (Act.put _ (some 34) _) _
    try simp only [Act.put, List.setIfInBounds_toArray, List.set_cons_zero, List.set_cons_succ]
    refine jq (i := 6) (v := ?v6) rfl (by kernel_rfl) (by kernel_rfl) (by kernel_rfl) (fun _ _ _ h => h) (Or.inl ⟨by rfl, ?hy6⟩) ?_
    case hy6 =>
      intro w hSw
      (try dsimp only at hSw)
      go_simp
      all_goals with_reducible rfl
    change jD _ _ _ _ _ _ _ _ (Act.put _ (some 36) _) _
    try simp only [Act.put, List.setIfInBounds_toArray, List.set_cons_zero, List.set_cons_succ]
    refine jq (i := 10) (v := ?v7) rfl (by kernel_rfl) (by kernel_rfl) (by kernel_rfl) (fun _ _ _ h => h) (Or.inl ⟨by rfl, ?hy7⟩) ?_
    case hy7 =>
      intro w hSw
      (try dsimp only at hSw)
      go_simp
      all_goals with_reducible rfl
    change jD _ _ _ _ _ _ _ _ (Act.put _ (some 40) _) _
    try simp only [Act.put, List.setIfInBounds_toArray, List.set_cons_zero, List.set_cons_succ]
    refine jq (i := 11) (v := ?v8) rfl (by kernel_rfl) (by kernel_rfl) (by kernel_rfl) (fun _ _ _ h => h) (Or.inl ⟨by rfl, ?hy8⟩) ?_
    case hy8 =>
      intro w hSw
      (try dsimp only at hSw)
      go_simp
      all_goals with_reducible rfl
    change jD _ _ _ _ _ _ _ _ (Act.put _ (some 41) _) _
    try simp only [Act.put, List.setIfInBounds_toArray, List.set_cons_zero, List.set_cons_succ]
    refine jq (i := 12) (v := ?v9) rfl (by kernel_rfl) (by kernel_rfl) (by kernel_rfl) (fun _ _ _ h => h) (Or.inl ⟨by rfl, ?hy9⟩) ?_
    case hy9 =>
      intro w hSw
      (try dsimp only at hSw)
      go_simp
      all_goals with_reducible rfl
    change jD _ _ _ _ _ _ _ _ (Act.put _ (some 42) _) _
    try simp only [Act.put, List.setIfInBounds_toArray, List.set_cons_zero, List.set_cons_succ]
    refine jq (i := 14) (v := ?v10) rfl (by kernel_rfl) (by kernel_rfl) (by kernel_rfl) (fun _ _ _ h => h) (Or.inl ⟨by rfl, ?hy10⟩) ?_
    case hy10 =>
      intro w hSw
      (try dsimp only at hSw)
      go_simp
      all_goals with_reducible rfl
    change jD _ _ _ _ _ _ _ _ (Act.put _ (some 44) _) _
    try simp only [Act.put, List.setIfInBounds_toArray, List.set_cons_zero, List.set_cons_succ]
    refine jag (i := 5) (v := ?v11) rfl (by kernel_rfl) (by kernel_rfl) (by kernel_rfl) (by kernel_rfl) (fun _ _ _ h => h) (Or.inl ⟨by rfl, ?hy11⟩) (by assumption) ?_
    case hy11 =>
      intro w hSw
      (try dsimp only at hSw)
      go_simp
      all_goals with_reducible rfl
    change jD _ _ _ _ _ _ _ _ (Act.put _ (some 35) _) _
    try simp only [Act.put, List.setIfInBounds_toArray, List.set_cons_zero, List.set_cons_succ]
    refine jag (i := 7) (v := ?v12) rfl (by kernel_rfl) (by kernel_rfl) (by kernel_rfl) (by kernel_rfl) (fun _ _ _ h => h) (Or.inl ⟨by rfl, ?hy12⟩) (by assumption) ?_
    case hy12 =>
      intro w hSw
      (try dsimp only at hSw)
      go_simp
      all_goals with_reducible rfl
    change jD _ _ _ _ _ _ _ _ (Act.put _ (some 37) _) _
    try simp only [Act.put, List.setIfInBounds_toArray, List.set_cons_zero, List.set_cons_succ]
    refine jag (i := 13) (v := ?v13) rfl (by kernel_rfl) (by kernel_rfl) (by kernel_rfl) (by kernel_rfl) (fun _ _ _ h => h) (Or.inl ⟨by rfl, ?hy13⟩) (by assumption) ?_
    case hy13 =>
      intro w hSw
      (try dsimp only at hSw)
      go_simp
      all_goals with_reducible rfl
    change jD _ _ _ _ _ _ _ _ (Act.put _ (some 43) _) _
    try simp only [Act.put, List.setIfInBounds_toArray, List.set_cons_zero, List.set_cons_succ]
    refine jy (rs := [8, 15]) (by kernel_rfl) (by simp) ?_; refine jO rfl (fun K hK => ?_) ?_
    · skip
      go_simp
      have HS1 := hid (HS0.out.next ((Below.refl _ _).alloc (Nat.le_refl _) (.cells #[.string (S lo)] 9))); have HE1 := hid (Nw.new w3.drew (.string (S lo)) 9 w3.heap.size (by first | rfl | simp)); refine hK.out _ _ (fun _ _ => HS1.out.ta) ?_; clear hK K
      try simp only [Act.put, List.setIfInBounds_toArray, List.set_cons_zero, List.set_cons_succ]
      refine jy (rs := [9, 15]) (by kernel_rfl) (by simp) ?_; refine jO rfl (fun K hK => ?_) ?_
      · skip
        refine step_append_lies _ (by rfl) _ _ _ (by rfl) B 9 i0 _ 1 16 Tryz.underlying43 hi hz0 hz1 hz2 rfl (by omega) (.slice al L.length cl) L.length (L.map fun l => .string (S l)) (by rfl) (HS1.out.own.own _ (List.mem_cons_self ..)) ⟨w3.heap.size, 0, none⟩ 1 1 [.string (S lo)] (by rfl) (by rfl) HE1.out (by simp [Value.oneCell']) (by omega) (by unfold maxLen; omega) (by omega) (Nat.le_of_lt (Nat.lt_of_le_of_lt hBb HS1.out.own.lt)) _ rfl ?_; intro g1 cap1 w4 hown1 hgrow1 hat1 hlt1; have HS2 := hid (HS1.out.g1 (l' := locR (.slice (some ⟨g1, 0, none⟩) (L.length + 1) cap1) (L ++ [lo])) hgrow1 (by simpa [locR] using hown1) (Nat.le_refl _) (fun g e => by cases e; exact hat1.imp id fun h => Nat.le_of_eq h.symm)); clear hown1 hgrow1 hat1 hlt1; refine hK.out _ _ (fun _ _ => HS2.out.ta) ?_; clear hK K
        try simp only [Act.put, List.setIfInBounds_toArray, List.set_cons_zero, List.set_cons_succ]
        refine jy (rs := [15]) (by kernel_rfl) (by simp) ?_; refine jO rfl (fun K hK => ?_) j8
        go_simp
        have HS3 := hid (HS2.out.next ((Below.refl _ _).alloc (Nat.le_refl _) (.cells #[.slice a3 C.length c3] 107))); have HE2 := hid (Nw.new w4 (.slice a3 C.length c3) 107 w4.heap.size (by first | rfl | simp)); refine hK.out _ _ (fun _ _ => HS3.out.ta) ?_; clear hK K
        try simp only [Act.put, List.setIfInBounds_toArray, List.set_cons_zero, List.set_cons_succ]
        refine jy (rs := [16]) (by kernel_rfl) (by simp) ?_; refine jO rfl (fun K hK => ?_) j8; refine step_append_lies _ (by rfl) _ _ _ (by rfl) B 107 j0 _ 1 24 Tryz.underlying89 hj hq0 hq1 hq2 rfl (by omega) (.slice as_ X.length c35) X.length X (by rfl) (HS3.out.own.own _ (List.mem_cons_of_mem _ (List.mem_cons_self ..))) ⟨w4.heap.size, 0, none⟩ 1 1 [.slice a3 C.length c3] (by rfl) (by rfl) HE2.out (by simp [Value.oneCell']) (by omega) (by unfold maxLen; omega) (by omega) (Nat.le_of_lt (Nat.lt_of_le_of_lt hBb HS3.out.own.lt)) _ rfl ?_; intro g2 cap2 w5 hown2 hgrow2 hat2 hlt2; have HS4 := hid (HS3.out.g2 (s' := scrR (.slice (some ⟨g2, 0, none⟩) (X.length + 1) cap2) (X ++ [.slice a3 C.length c3])) hgrow2 (by simpa [scrR] using hown2) (Nat.le_refl _) (fun g e => by cases e; exact hat2.imp id fun h => Nat.le_of_eq h.symm)); clear hown2 hgrow2 hat2 hlt2; refine hK.out _ _ (fun _ _ => HS4.out.ta) ?_; clear hK K
        try simp only [Act.put, List.setIfInBounds_toArray, List.set_cons_zero, List.set_cons_succ]
        refine jq (i := 17) (v := ?v14) rfl (by kernel_rfl) (by kernel_rfl) (by kernel_rfl) (fun _ _ _ h => h) (Or.inl ⟨by rfl, ?hy14⟩) ?_
        case hy14 =>
          intro w hSw
          (try dsimp only at hSw)
          go_simp
          all_goals with_reducible rfl
        change jD _ _ _ _ _ _ _ _ (Act.put _ (some 47) _) _
        try simp only [Act.put, List.setIfInBounds_toArray, List.set_cons_zero, List.set_cons_succ]
        refine jq (i := 18) (v := ?v15) rfl (by kernel_rfl) (by kernel_rfl) (by kernel_rfl) (fun _ _ _ h => h) (Or.inl ⟨by rfl, ?hy15⟩) ?_
        case hy15 =>
          intro w hSw
          (try dsimp only at hSw)
          go_simp
          all_goals with_reducible rfl
        change jD _ _ _ _ _ _ _ _ (Act.put _ (some 48) _) _
        try simp only [Act.put, List.setIfInBounds_toArray, List.set_cons_zero, List.set_cons_succ]
        obtain ⟨z1, z2, z3⟩ := HS4.out.frz (.slice (some ⟨g1, 0, none⟩) (L.length + 1) cap1); have z0 := HS4.out.ta.1; refine jy (rs := [19]) (by kernel_rfl) (by simp) ?_; refine jO rfl (fun K hK => ?_) j8
        go_simp
        refine hK.out _ _ (fun h => absurd h (by decide)) ?_; clear hK K
        try simp only [Act.put, List.setIfInBounds_toArray, List.set_cons_zero, List.set_cons_succ]
        refine jq (i := 20) (v := ?v16) rfl (by kernel_rfl) (by kernel_rfl) (by kernel_rfl) (fun _ _ _ h => h) (Or.inl ⟨by rfl, ?hy16⟩) ?_
        case hy16 =>
          intro w hSw
          (try dsimp only at hSw)
          go_simp
          all_goals with_reducible rfl
        change jD _ _ _ _ _ _ _ _ (Act.put _ (some 49) _) _
        try simp only [Act.put, List.setIfInBounds_toArray, List.set_cons_zero, List.set_cons_succ]
        refine jq (i := 21) (v := ?v17) rfl (by kernel_rfl) (by kernel_rfl) (by kernel_rfl) (fun _ _ _ h => h) (Or.inl ⟨by rfl, ?hy17⟩) ?_
        case hy17 =>
          intro w hSw
          (try dsimp only at hSw)
          go_simp
          all_goals with_reducible rfl
        change jD _ _ _ _ _ _ _ _ (Act.put _ (some 50) _) _
        try simp only [Act.put, List.setIfInBounds_toArray, List.set_cons_zero, List.set_cons_succ]
        refine jy (rs := [22]) (by kernel_rfl) (by simp) ?_; refine jO rfl (fun K hK => ?_) j8
        go_simp
        refine hK.out _ _ (fun h => absurd h (by decide)) ?_; clear hK K
        try simp only [Act.put, List.setIfInBounds_toArray, List.set_cons_zero, List.set_cons_succ]
        refine jaj (by kernel_rfl) ?_ _; go_wp2_with fail; go_ret; exact HEND.out _ _ _ HS4.out
      refine jO rfl (fun K hK => ?_) j8
      go_simp
      have HS2 := hid (HS1.out.next ((Below.refl _ _).alloc (Nat.le_refl _) (.cells #[.slice a3 C.length c3] 107))); have HE1 := hid (HE1.out.next ((Below.refl _ _).alloc (Nat.le_refl _) (.cells #[.slice a3 C.length c3] 107))); have HE2 := hid (Nw.new (w3.drew.alloc (.cells #[.string (S lo)] 9)) (.slice a3 C.length c3) 107 (w3.heap.size + 1) (by first | rfl | simp)); refine hK.out _ _ (fun _ _ => HS2.out.ta) ?_; clear hK K
      try simp only [Act.put, List.setIfInBounds_toArray, List.set_cons_zero, List.set_cons_succ]
      refine jy (rs := [9]) (by kernel_rfl) (by simp) ?_; refine jO rfl (fun K hK => ?_) j8; refine step_append_lies _ (by rfl) _ _ _ (by rfl) B 9 i0 _ 1 16 Tryz.underlying43 hi hz0 hz1 hz2 rfl (by omega) (.slice al L.length cl) L.length (L.map fun l => .string (S l)) (by rfl) (HS2.out.own.own _ (List.mem_cons_self ..)) ⟨w3.heap.size, 0, none⟩ 1 1 [.string (S lo)] (by rfl) (by rfl) HE1.out (by simp [Value.oneCell']) (by omega) (by unfold maxLen; omega) (by omega) (Nat.le_of_lt (Nat.lt_of_le_of_lt hBb HS2.out.own.lt)) _ rfl ?_; intro g1 cap1 w4 hown1 hgrow1 hat1 hlt1; have HS3 := hid (HS2.out.g1 (l' := locR (.slice (some ⟨g1, 0, none⟩) (L.length + 1) cap1) (L ++ [lo])) hgrow1 (by simpa [locR] using hown1) (Nat.le_refl _) (fun g e => by cases e; exact hat1.imp id fun h => Nat.le_of_eq h.symm)); have HE2 := hid (HE2.out.grow hgrow1 (HLB.out _ (by simp))); clear hown1 hgrow1 hat1 hlt1; refine hK.out _ _ (fun _ _ => HS3.out.ta) ?_; clear hK K
      try simp only [Act.put, List.setIfInBounds_toArray, List.set_cons_zero, List.set_cons_succ]
      refine jy (rs := [16]) (by kernel_rfl) (by simp) ?_; refine jO rfl (fun K hK => ?_) j8; refine step_append_lies _ (by rfl) _ _ _ (by rfl) B 107 j0 _ 1 24 Tryz.underlying89 hj hq0 hq1 hq2 rfl (by omega) (.slice as_ X.length c35) X.length X (by rfl) (HS3.out.own.own _ (List.mem_cons_of_mem _ (List.mem_cons_self ..))) ⟨(w3.heap.size + 1), 0, none⟩ 1 1 [.slice a3 C.length c3] (by rfl) (by rfl) HE2.out (by simp [Value.oneCell']) (by omega) (by unfold maxLen; omega) (by omega) (Nat.le_of_lt (Nat.lt_of_le_of_lt hBb HS3.out.own.lt)) _ rfl ?_; intro g2 cap2 w5 hown2 hgrow2 hat2 hlt2; have HS4 := hid (HS3.out.g2 (s' := scrR (.slice (some ⟨g2, 0, none⟩) (X.length + 1) cap2) (X ++ [.slice a3 C.length c3])) hgrow2 (by simpa [scrR] using hown2) (Nat.le_refl _) (fun g e => by cases e; exact hat2.imp id fun h => Nat.le_of_eq h.symm)); clear hown2 hgrow2 hat2 hlt2; refine hK.out _ _ (fun _ _ => HS4.out.ta) ?_; clear hK K
      try simp only [Act.put, List.setIfInBounds_toArray, List.set_cons_zero, List.set_cons_succ]
      refine jq (i := 17) (v := ?v18) rfl (by kernel_rfl) (by kernel_rfl) (by kernel_rfl) (fun _ _ _ h => h) (Or.inl ⟨by rfl, ?hy18⟩) ?_
      case hy18 =>
        intro w hSw
        (try dsimp only at hSw)
        go_simp
        all_goals with_reducible rfl
      change jD _ _ _ _ _ _ _ _ (Act.put _ (some 47) _) _
      try simp only [Act.put, List.setIfInBounds_toArray, List.set_cons_zero, List.set_cons_succ]
      refine jq (i := 18) (v := ?v19) rfl (by kernel_rfl) (by kernel_rfl) (by kernel_rfl) (fun _ _ _ h => h) (Or.inl ⟨by rfl, ?hy19⟩) ?_
      case hy19 =>
        intro w hSw
        (try dsimp only at hSw)
        go_simp
        all_goals with_reducible rfl
      change jD _ _ _ _ _ _ _ _ (Act.put _ (some 48) _) _
      try simp only [Act.put, List.setIfInBounds_toArray, List.set_cons_zero, List.set_cons_succ]
      obtain ⟨z1, z2, z3⟩ := HS4.out.frz (.slice (some ⟨g1, 0, none⟩) (L.length + 1) cap1); have z0 := HS4.out.ta.1; refine jy (rs := [19]) (by kernel_rfl) (by simp) ?_; refine jO rfl (fun K hK => ?_) j8
      go_simp
      refine hK.out _ _ (fun h => absurd h (by decide)) ?_; clear hK K
      try simp only [Act.put, List.setIfInBounds_toArray, List.set_cons_zero, List.set_cons_succ]
      refine jq (i := 20) (v := ?v20) rfl (by kernel_rfl) (by kernel_rfl) (by kernel_rfl) (fun _ _ _ h => h) (Or.inl ⟨by rfl, ?hy20⟩) ?_
      case hy20 =>
        intro w hSw
        (try dsimp only at hSw)
        go_simp
        all_goals with_reducible rfl
      change jD _ _ _ _ _ _ _ _ (Act.put _ (some 49) _) _
      try simp only [Act.put, List.setIfInBounds_toArray, List.set_cons_zero, List.set_cons_succ]
      refine jq (i := 21) (v := ?v21) rfl (by kernel_rfl) (by kernel_rfl) (by kernel_rfl) (fun _ _ _ h => h) (Or.inl ⟨by rfl, ?hy21⟩) ?_
      case hy21 =>
        intro w hSw
        (try dsimp only at hSw)
        go_simp
        all_goals with_reducible rfl
      change jD _ _ _ _ _ _ _ _ (Act.put _ (some 50) _) _
      try simp only [Act.put, List.setIfInBounds_toArray, List.set_cons_zero, List.set_cons_succ]
      refine jy (rs := [22]) (by kernel_rfl) (by simp) ?_; refine jO rfl (fun K hK => ?_) j8
      go_simp
      refine hK.out _ _ (fun h => absurd h (by decide)) ?_; clear hK K
      try simp only [Act.put, List.setIfInBounds_toArray, List.set_cons_zero, List.set_cons_succ]
      refine jaj (by kernel_rfl) ?_ _; go_wp2_with fail; go_ret; exact HEND.out _ _ _ HS4.out
    refine jO rfl (fun K hK => ?_) j8
    go_simp
    have HS1 := hid (HS0.out.next ((Below.refl _ _).alloc (Nat.le_refl _) (.cells #[.slice a3 C.length c3] 107))); have HE2 := hid (Nw.new w3.drew (.slice a3 C.length c3) 107 w3.heap.size (by first | rfl | simp)); refine hK.out _ _ (fun _ _ => HS1.out.ta) ?_; clear hK K
    try simp only [Act.put, List.setIfInBounds_toArray, List.set_cons_zero, List.set_cons_succ]
    refine jy (rs := [8]) (by kernel_rfl) (by simp) ?_; refine jO rfl (fun K hK => ?_) j8
    go_simp
    have HS2 := hid (HS1.out.next ((Below.refl _ _).alloc (Nat.le_refl _) (.cells #[.string (S lo)] 9))); have HE2 := hid (HE2.out.next ((Below.refl _ _).alloc (Nat.le_refl _) (.cells #[.string (S lo)] 9))); have HE1 := hid (Nw.new (w3.drew.alloc (.cells #[.slice a3 C.length c3] 107)) (.string (S lo)) 9 (w3.heap.size + 1) (by first | rfl | simp)); refine hK.out _ _ (fun _ _ => HS2.out.ta) ?_; clear hK K
    try simp only [Act.put, List.setIfInBounds_toArray, List.set_cons_zero, List.set_cons_succ]
    refine jy (rs := [9]) (by kernel_rfl) (by simp) ?_; refine jO rfl (fun K hK => ?_) j8; refine step_append_lies _ (by rfl) _ _ _ (by rfl) B 9 i0 _ 1 16 Tryz.underlying43 hi hz0 hz1 hz2 rfl (by omega) (.slice al L.length cl) L.length (L.map fun l => .string (S l)) (by rfl) (HS2.out.own.own _ (List.mem_cons_self ..)) ⟨(w3.heap.size + 1), 0, none⟩ 1 1 [.string (S lo)] (by rfl) (by rfl) HE1.out (by simp [Value.oneCell']) (by omega) (by unfold maxLen; omega) (by omega) (Nat.le_of_lt (Nat.lt_of_le_of_lt hBb HS2.out.own.lt)) _ rfl ?_; intro g1 cap1 w4 hown1 hgrow1 hat1 hlt1; have HS3 := hid (HS2.out.g1 (l' := locR (.slice (some ⟨g1, 0, none⟩) (L.length + 1) cap1) (L ++ [lo])) hgrow1 (by simpa [locR] using hown1) (Nat.le_refl _) (fun g e => by cases e; exact hat1.imp id fun h => Nat.le_of_eq h.symm)); have HE2 := hid (HE2.out.grow hgrow1 (HLB.out _ (by simp))); clear hown1 hgrow1 hat1 hlt1; refine hK.out _ _ (fun _ _ => HS3.out.ta) ?_; clear hK K
    try simp only [Act.put, List.setIfInBounds_toArray, List.set_cons_zero, List.set_cons_succ]
    refine jy (rs := [16]) (by kernel_rfl) (by simp) ?_; refine jO rfl (fun K hK => ?_) j8; refine step_append_lies _ (by rfl) _ _ _ (by rfl) B 107 j0 _ 1 24 Tryz.underlying89 hj hq0 hq1 hq2 rfl (by omega) (.slice as_ X.length c35) X.length X (by rfl) (HS3.out.own.own _ (List.mem_cons_of_mem _ (List.mem_cons_self ..))) ⟨w3.heap.size, 0, none⟩ 1 1 [.slice a3 C.length c3] (by rfl) (by rfl) HE2.out (by simp [Value.oneCell']) (by omega) (by unfold maxLen; omega) (by omega) (Nat.le_of_lt (Nat.lt_of_le_of_lt hBb HS3.out.own.lt)) _ rfl ?_; intro g2 cap2 w5 hown2 hgrow2 hat2 hlt2; have HS4 := hid (HS3.out.g2 (s' := scrR (.slice (some ⟨g2, 0, none⟩) (X.length + 1) cap2) (X ++ [.slice a3 C.length c3])) hgrow2 (by simpa [scrR] using hown2) (Nat.le_refl _) (fun g e => by cases e; exact hat2.imp id fun h => Nat.le_of_eq h.symm)); clear hown2 hgrow2 hat2 hlt2; refine hK.out _ _ (fun _ _ => HS4.out.ta) ?_; clear hK K
    try simp only [Act.put, List.setIfInBounds_toArray, List.set_cons_zero, List.set_cons_succ]
    refine jq (i := 17) (v := ?v22) rfl (by kernel_rfl) (by kernel_rfl) (by kernel_rfl) (fun _ _ _ h => h) (Or.inl ⟨by rfl, ?hy22⟩) ?_
    case hy22 =>
      intro w hSw
      (try dsimp only at hSw)
      go_simp
      all_goals with_reducible rfl
    change jD _ _ _ _ _ _ _ _ (Act.put _ (some 47) _) _
    try simp only [Act.put, List.setIfInBounds_toArray, List.set_cons_zero, List.set_cons_succ]
    refine jq (i := 18) (v := ?v23) rfl (by kernel_rfl) (by kernel_rfl) (by kernel_rfl) (fun _ _ _ h => h) (Or.inl ⟨by rfl, ?hy23⟩) ?_
    case hy23 =>
      intro w hSw
      (try dsimp only at hSw)
      go_simp
      all_goals with_reducible rfl
    change jD _ _ _ _ _ _ _ _ (Act.put _ (some 48) _) _
    try simp only [Act.put, List.setIfInBounds_toArray, List.set_cons_zero, List.set_cons_succ]
    obtain ⟨z1, z2, z3⟩ := HS4.out.frz (.slice (some ⟨g1, 0, none⟩) (L.length + 1) cap1); have z0 := HS4.out.ta.1; refine jy (rs := [19]) (by kernel_rfl) (by simp) ?_; refine jO rfl (fun K hK => ?_) j8
    go_simp
    refine hK.out _ _ (fun h => absurd h (by decide)) ?_; clear hK K
    try simp only [Act.put, List.setIfInBounds_toArray, List.set_cons_zero, List.set_cons_succ]
    refine jq (i := 20) (v := ?v24) rfl (by kernel_rfl) (by kernel_rfl) (by kernel_rfl) (fun _ _ _ h => h) (Or.inl ⟨by rfl, ?hy24⟩) ?_
    case hy24 =>
      intro w hSw
      (try dsimp only at hSw)
      go_simp
      all_goals with_reducible rfl
    change jD _ _ _ _ _ _ _ _ (Act.put _ (some 49) _) _
    try simp only [Act.put, List.setIfInBounds_toArray, List.set_cons_zero, List.set_cons_succ]
    refine jq (i := 21) (v := ?v25) rfl (by kernel_rfl) (by kernel_rfl) (by kernel_rfl) (fun _ _ _ h => h) (Or.inl ⟨by rfl, ?hy25⟩) ?_
    case hy25 =>
      intro w hSw
      (try dsimp only at hSw)
      go_simp
      all_goals with_reducible rfl
    change jD _ _ _ _ _ _ _ _ (Act.put _ (some 50) _) _
    try simp only [Act.put, List.setIfInBounds_toArray, List.set_cons_zero, List.set_cons_succ]
    refine jy (rs := [22]) (by kernel_rfl) (by simp) ?_; refine jO rfl (fun K hK => ?_) j8
    go_simp
    refine hK.out _ _ (fun h => absurd h (by decide)) ?_; clear hK K
    try simp only [Act.put, List.setIfInBounds_toArray, List.set_cons_zero, List.set_cons_succ]
    refine jaj (by kernel_rfl) ?_ _; go_wp2_with fail; go_ret; exact HEND.out _ _ _ HS4.out
end Go.Proofs.YtlfgemnmfhknfaaGreatDoor
namespace Go.Proofs.YtlfgemnmfhknfaaGreatDoor
open Go.RowKit Go.Proofs
def conZ : List Value := [.int .i64 0, .string ⟨#[]⟩, .string ⟨#[]⟩, .slice none 0 0, .string ⟨#[]⟩, .bool false, .string ⟨#[]⟩, .slice none 0 0, .slice none 0 0]
def jdN (v5 v6 v34 v35 v36 : Value) : List Value := [.bool true, .slice none 0 0, .int .i64 0, .int .i64 0, .int .i64 0, v5, v6] ++ conZ ++ conZ ++ conZ ++ [v34, v35, v36, .slice none 0 0]
def LdN (w : World) (B : Nat) (v5 v6 : Value) : Prop := ∃ bs, bs.length = 3 ∧ inbB w B bs ∧ w.ownsRow B 55 2 v5 3 (inbC bs) ∧ w.ownsRow B 55 2 v6 3 (inbC bs) ∧ ∀ q, v5.ownBlock = some q → v6.ownBlock ≠ some q
theorem LdN.next {w w' : World} {B : Nat} {v5 v6 : Value} (h : LdN w B v5 v6) (hb : Below w.heap.size w w') : LdN w' B v5 v6 := by
  obtain ⟨bs, h1, h2, h3, h4, h5⟩ := h; exact ⟨bs, h1, fun b hm => ⟨(h2 b hm).1, (hb.block b (Array.getElem?_eq_some_iff.1 (h2 b hm).2).1).trans (h2 b hm).2⟩, j9 h3 hb, j9 h4 hb, h5⟩
theorem LdN.mk {w : World} {B B' : Nat} {v5 v6 : Value} {bs : List Nat} (hB : B' ≤ B) (h1 : bs.length = 3) (h2 : inbB w B bs) (h3 : w.ownsRow B 55 2 v5 3 (inbC bs)) (h4 : w.ownsRow B 55 2 v6 3 (inbC bs)) (h5 : ∀ q, v5.ownBlock = some q → v6.ownBlock ≠ some q) : LdN w B' v5 v6 :=
  ⟨bs, h1, fun b hm => ⟨Nat.le_trans hB (h2 b hm).1, (h2 b hm).2⟩, jb8 h3 hB, jb8 h4 hB, h5⟩
def OwO (w : World) (B : Nat) (v : Value) : Prop := w.ownsRow B 143 1 v 3 [.slice none 0 0, .slice none 0 0, .slice none 0 0]
theorem OwO.new {w w' : World} {B : Nat} {cur : Array Value} (hB : B ≤ w.heap.size) (hb : Below (w.alloc (.cells cur 143)).heap.size (w.alloc (.cells cur 143)) w') (hc : cur = #[.slice none 0 0, .slice none 0 0, .slice none 0 0]) : OwO w' B (.slice (some ⟨w.heap.size, 0, none⟩) 3 3) := by
  subst hc; exact j9 ⟨rfl, .inr ⟨w.heap.size, 3, _, rfl, hB, heap_alloc_new w _, by decide, by unfold maxLen; decide, rfl, rfl⟩⟩ hb
def OpnR (W : World) (p : Value) (wx : World) : Prop := ∃ (b : Nat) (v5 v6 v36 : Value), p = .pointer (some ⟨b, 0, none⟩) ∧ RmB wx b (jdN v5 v6 (.slice none 0 0) (.slice none 0 0) v36) ∧ W.heap.size ≤ b ∧ Below W.heap.size W wx ∧ LdN wx W.heap.size v5 v6 ∧ OwO wx W.heap.size v36
theorem OpnR.mk {W w : World} {v5 v6 v36 : Value} (h : Below W.heap.size W w) (h1 : LdN w W.heap.size v5 v6) (h2 : OwO w W.heap.size v36) : OpnR W (.pointer (some ⟨w.heap.size, 0, none⟩)) (w.alloc (.cells (jdN v5 v6 (.slice none 0 0) (.slice none 0 0) v36).toArray 91)) :=
  ⟨w.heap.size, v5, v6, v36, rfl, ⟨heap_alloc_new w _, rfl⟩, h.size, h.alloc h.size _, h1.next ((Below.refl _ _).alloc (Nat.le_refl _) _), j9 h2 ((Below.refl _ _).alloc (Nat.le_refl _) _)⟩
theorem OpnR.mkA {W w2 : World} {v5 v6 : Value} {cur : Array Value} (h : Below W.heap.size W w2) (h1 : LdN w2 W.heap.size v5 v6) (hc : cur = #[.slice none 0 0, .slice none 0 0, .slice none 0 0]) : OpnR W (.pointer (some ⟨w2.heap.size + 1, 0, none⟩)) ((w2.alloc (.cells cur 143)).alloc (.cells (jdN v5 v6 (.slice none 0 0) (.slice none 0 0) (.slice (some ⟨w2.heap.size, 0, none⟩) 3 3)).toArray 91)) := by
  have := OpnR.mk (h.alloc h.size _) (h1.next ((Below.refl _ _).alloc (Nat.le_refl _) (.cells cur 143))) (OwO.new h.size (Below.refl _ _) hc)
  simpa using this
def ScsM (Q : Nat → Prop) (w : World) (X : List Value) (Cs : List (List Cmd)) : Prop := X.length = Cs.length ∧ ∀ (i : Nat) x, X[i]? = some x → ∃ C a c, Cs[i]? = some C ∧ x = .slice a C.length c ∧ jbt a C.length c ∧ CmdsM Q 5 w x C
theorem CmdsM.stpN {N b : Nat} {G G' : List Nat} {w w' : World} {n : Nat} {v : Value} {l : List Cmd} (h : CmdsM (AvN N b G) n w v l) (hs : Stp b G w G' w') : CmdsM (AvN N b G') n w' v l :=
  RowM.imp (CmdsM.stp h hs fun _ hq _ => hq.2) (fun _ hk => ⟨hk.1.1, hk.2⟩) (Keeps.refl _ _) fun _ _ hx => CmdM.imp (fun _ hk => ⟨hk.1.1, hk.2⟩) (Keeps.refl _ _) _ _ _ hx
theorem ScsM.stp {N b : Nat} {G G' : List Nat} {w w' : World} {X : List Value} {Cs : List (List Cmd)} (h : ScsM (AvN N b G) w X Cs) (hs : Stp b G w G' w') : ScsM (AvN N b G') w' X Cs := ⟨h.1, fun i x hx => by
  obtain ⟨C, a, c, h1, h2, h3, h4⟩ := h.2 i x hx; exact ⟨C, a, c, h1, h2, h3, h4.stpN hs⟩⟩
theorem ScsM.add {Q : Nat → Prop} {w : World} {X : List Value} {Cs : List (List Cmd)} {C : List Cmd} {a : Option Addr} {c : Nat} (h : ScsM Q w X Cs) (hr : jbt a C.length c) (hC : CmdsM Q 5 w (.slice a C.length c) C) : ScsM Q w (X ++ [.slice a C.length c]) (Cs ++ [C]) := by
  refine ⟨by simp [h.1], fun i x hx => ?_⟩
  rcases Nat.lt_or_ge i X.length with hi | hi
  · rw [List.getElem?_append_left hi] at hx; obtain ⟨D, a', c', h1, h2⟩ := h.2 i x hx; exact ⟨D, a', c', by rw [List.getElem?_append_left (by rw [← h.1]; exact hi)]; exact h1, h2⟩
  · rw [List.getElem?_append_right hi] at hx; have h0 : i - X.length = 0 := by
      rcases Nat.eq_zero_or_pos (i - X.length) with e | e
      · exact e
      · rw [List.getElem?_eq_none (by simp; omega)] at hx; cases hx
    rw [h0] at hx; cases hx; exact ⟨C, a, c, by rw [List.getElem?_append_right (by rw [← h.1]; exact hi), ← h.1, h0]; rfl, rfl, hr, hC⟩
def RoI (W1 : World) (B b : Nat) (v5 v6 v36 : Value) (L : List (List UInt8)) (Cs : List (List Cmd)) (w : World) : Prop :=
  ∃ v34 v35 X, RmB w b (jdN v5 v6 v34 v35 v36) ∧ MOk w B b [locR v34 L, scrR v35 X] ∧ ScsM (AvN W1.heap.size b (mB [locR v34 L, scrR v35 X])) w X Cs ∧ Stp b [] W1 (mB [locR v34 L, scrR v35 X]) w
theorem RoI.next {W1 w w' : World} {B b : Nat} {v5 v6 v36 : Value} {L : List (List UInt8)} {Cs : List (List Cmd)} (h : RoI W1 B b v5 v6 v36 L Cs w) (hb : Below w.heap.size w w') : RoI W1 B b v5 v6 v36 L Cs w' := by
  obtain ⟨v34, v35, X, h1, h2, h3, h4⟩ := h; exact ⟨v34, v35, X, h1.next hb, h2.next hb, h3.stp (.of hb), h4.trans (.of hb)⟩
theorem RoI.start {W1 : World} {B b : Nat} {v5 v6 v36 : Value} (h : RmB W1 b (jdN v5 v6 (.slice none 0 0) (.slice none 0 0) v36)) : RoI W1 B b v5 v6 v36 [] [] W1 :=
  ⟨_, _, [], h, ⟨fun r hr => by
    simp only [List.mem_cons, List.not_mem_nil, or_false] at hr
    rcases hr with rfl | rfl
    · exact World.ownsRow_nil _ _ _ _
    · exact World.ownsRow_nil _ _ _ _, by simp [mB, locR, scrR, Value.ownBlock], by simp [mB, locR, scrR, Value.ownBlock], (Array.getElem?_eq_some_iff.1 h.1).1⟩, ⟨rfl, fun i x hx => by simp at hx⟩, by
    have h := Stp.refl b [] W1
    simpa [mB, locR, scrR, Value.ownBlock] using h⟩
theorem RoI.low {W1 w : World} {B b : Nat} {v5 v6 v36 : Value} {L : List (List UInt8)} {Cs : List (List Cmd)} (h : RoI W1 B b v5 v6 v36 L Cs w) (hB : B ≤ b) (hW : B ≤ W1.heap.size) : Below B W1 w := by
  obtain ⟨v34, v35, X, h1, h2, h3, h4⟩ := h; exact h4.below hB hW fun k hk => by cases hk
theorem RoI.take {W1 w : World} {B b : Nat} {v5 v6 v36 : Value} {L : List (List UInt8)} {Cs : List (List Cmd)} (h : RoI W1 B b v5 v6 v36 L Cs w) (hB : B ≤ b) (hL : L.length ≤ 10) (hC : Cs.length ≤ 10) (lo sc : List UInt8) (C : List Cmd) (hc : jZ lo [120] = 0) (hl : lo.length ≤ 2000) (hm : L.contains lo = false)
    (hRd : ∀ v, Below w.heap.size w v → Calls Tryz.prog 40 #[.string (S sc)] v (RdP v 5 (C, 0))) :
    Calls Tryz.prog 26 #[.pointer (some ⟨b, 0, none⟩), .agg #[.string (S lo), .string (S sc)]] w fun e w' => e = .returned (.int .i64 0) ∧ RoI W1 B b v5 v6 v36 (L ++ [lo]) (Cs ++ [C]) w' := by
  obtain ⟨v34, v35, X, h1, h2, h3, h4⟩ := h; refine (jlV B b lo sc (jdN v5 v6 v34 v35 v36) L X v34 v35 w h1 rfl rfl h2 hB hL (by rw [h3.1]; exact hC) hc hl hm 5 C hRd).mono ?_; rintro e w' ⟨he, u34, u35, a, c, k1, k2, k3, k4, k5⟩; have hz := h4.size; exact ⟨he, u34, u35, _, k1, k2, (h3.stp k5).add k3 (RowM.imp k4 (fun _ hk => ⟨Nat.le_trans hz hk.1, hk.2⟩) (Keeps.refl _ _) fun _ _ hx => CmdM.imp (fun _ hk => ⟨Nat.le_trans hz hk.1, hk.2⟩) (Keeps.refl _ _) _ _ _ hx), h4.trans k5⟩
def OpnQ (w : World) (f : Nat) (r : Int) (L : List (List UInt8)) (Cs : List (List Cmd)) (e : Ending) (w' : World) : Prop :=
  if f < 3 then OpE w r e w' else ∃ W1 b v5 v6 v36, e = .returned (.tuple #[.pointer (some ⟨b, 0, none⟩), .int .i64 0]) ∧ RmB W1 b (jdN v5 v6 (.slice none 0 0) (.slice none 0 0) v36) ∧ w.heap.size ≤ b ∧ Below w.heap.size w W1 ∧ LdN W1 w.heap.size v5 v6 ∧ OwO W1 w.heap.size v36 ∧ RoI W1 w.heap.size b v5 v6 v36 L Cs w'
def AdQ (f : Nat) (r : Int) (W1 : World) (B b : Nat) (v5 v6 v36 : Value) (L : List (List UInt8)) (Cs : List (List Cmd)) (k : Nat) (v : World) (e : Ending) (v' : World) : Prop :=
  if k < f then e = .returned (.int .i64 0) ∧ RoI W1 B b v5 v6 v36 (L.take (k + 1)) (Cs.take (k + 1)) v' else AdE v r e v'
theorem AdQ.yes {f : Nat} {r : Int} {W1 : World} {B b : Nat} {v5 v6 v36 : Value} {L : List (List UInt8)} {Cs : List (List Cmd)} {k : Nat} {v v' : World} {e : Ending} (h : AdQ f r W1 B b v5 v6 v36 L Cs k v e v') (hk : k < f) : e = .returned (.int .i64 0) ∧ RoI W1 B b v5 v6 v36 (L.take (k + 1)) (Cs.take (k + 1)) v' := by
  unfold AdQ at h; rw [if_pos hk] at h; exact h
theorem AdQ.no {f : Nat} {r : Int} {W1 : World} {B b : Nat} {v5 v6 v36 : Value} {L : List (List UInt8)} {Cs : List (List Cmd)} {k : Nat} {v v' : World} {e : Ending} (h : AdQ f r W1 B b v5 v6 v36 L Cs k v e v') (hk : ¬ k < f) : AdE v r e v' := by
  unfold AdQ at h; rw [if_neg hk] at h; exact h
set_option linter.unusedSimpArgs false in
set_option maxHeartbeats 2000000 in
set_option maxRecDepth 100000 in
theorem jjj (p : Nat) (l0 s0 l1 s1 l2 s2 : List UInt8) (Cs : List (List Cmd)) (f : Nat) (hf : f ≤ 3) (r : Int) (hr : r ≠ 0) (w : World) (hu : w.heap[p]? = some (.cells #[.string (S l0), .string (S s0), .string (S l1), .string (S s1), .string (S l2), .string (S s2)] 65))
    (hA : ∀ (k : Nat) (v W1 : World) (b : Nat) (v5 v6 v36 : Value), k < 3 → k ≤ f → Below w.heap.size w v → w.heap.size ≤ b → RoI W1 w.heap.size b v5 v6 v36 ([l0, l1, l2].take k) (Cs.take k) v →
      Calls Tryz.prog 26 #[.pointer (some ⟨b, 0, none⟩), .agg #[.string (S ([l0, l1, l2].getD k [])), .string (S ([s0, s1, s2].getD k []))]] v (AdQ f r W1 w.heap.size b v5 v6 v36 [l0, l1, l2] Cs k v)) :
    Calls Tryz.prog 17 #[.slice (some ⟨p, 0, none⟩) 3 3] w (OpnQ w f r [l0, l1, l2] (Cs.take 3)) := by
  have HU := hid hu; have HA := hid hA; have HNL := hid (fun v => jdt 3 (by omega) v); obtain ⟨W, hW⟩ : ∃ W, W = w := ⟨_, rfl⟩; have HWW := hid hW; clear hu hA; go_enter Tryz.func17, Tryz.ntmps17; go_upto_region 3 with fail
  rw [← hW]; clear hW
  go_cut [4] (fun q wx => OpnR W q wx)
  case first =>
    refine wp_region_held_drew (S := fun u => True) (by kernel_rfl) ?_ (fun hHeld => ?_)
    · trivial
    refine wpAnyH_take (i := 0) (v := ?v1) rfl (by kernel_rfl) (by kernel_rfl) (by kernel_rfl) (fun _ _ _ h => h) (Or.inl ⟨by rfl, ?hy1⟩) (by assumption) ?_
    case hy1 =>
      intro w hSw
      (try dsimp only at hSw)
      go_simp
      all_goals with_reducible rfl
    change wpAnyH _ _ _ _ _ _ _ (Act.put _ (some 16) _) _
    try simp only [Act.put, List.setIfInBounds_toArray, List.set_cons_zero, List.set_cons_succ]
    refine wpAnyH_take (i := 1) (v := ?v2) rfl (by kernel_rfl) (by kernel_rfl) (by kernel_rfl) (fun _ _ _ h => h) (Or.inl ⟨by rfl, ?hy2⟩) (by assumption) ?_
    case hy2 =>
      intro w hSw
      (try dsimp only at hSw)
      go_simp
      all_goals with_reducible rfl
    change wpAnyH _ _ _ _ _ _ _ (Act.put _ (some 17) _) _
    try simp only [Act.put, List.setIfInBounds_toArray, List.set_cons_zero, List.set_cons_succ]
    refine wpAnyH_take (i := 3) (v := ?v3) rfl (by kernel_rfl) (by kernel_rfl) (by kernel_rfl) (fun _ _ _ h => h) (Or.inl ⟨by rfl, ?hy3⟩) (by assumption) ?_
    case hy3 =>
      intro w hSw
      (try dsimp only at hSw)
      go_simp
      all_goals with_reducible rfl
    change wpAnyH _ _ _ _ _ _ _ (Act.put _ (some 19) _) _
    try simp only [Act.put, List.setIfInBounds_toArray, List.set_cons_zero, List.set_cons_succ]
    refine wpAnyH_take (i := 4) (v := ?v4) rfl (by kernel_rfl) (by kernel_rfl) (by kernel_rfl) (fun _ _ _ h => h) (Or.inl ⟨by rfl, ?hy4⟩) (by assumption) ?_
    case hy4 =>
      intro w hSw
      (try dsimp only at hSw)
      go_simp
      all_goals with_reducible rfl
    change wpAnyH _ _ _ _ _ _ _ (Act.put _ (some 20) _) _
    try simp only [Act.put, List.setIfInBounds_toArray, List.set_cons_zero, List.set_cons_succ]
    refine wpAnyH_ready (rs := [2, 5]) (by kernel_rfl) (by simp) ?_; refine AllReadyH.cons rfl (fun K hK => ?_) ?_
    · skip
      go_simp
      refine (HNL.out _).mono ?_; rintro e w2 ⟨bs, sa, ta, cs, ct, rfl, hbl, hI, hO1, hO2, hAp, hb2⟩; have HB2 := hid (show Below W.heap.size W w2 from (show Below W.heap.size W _ from (by repeat (first | with_reducible exact Below.refl _ _ | with_reducible refine Below.drew ?_ | with_reducible refine Below.alloc ?_ (by first | exact Nat.le_refl _ | simp) _ | exact ((Below.refl _ W).drew.alloc (Nat.le_refl _) _)))).trans (hb2.mono (by first | exact Nat.le_refl _ | simp))); have HLN := hid (LdN.mk (B' := W.heap.size) (by first | exact Nat.le_refl _ | simp) hbl hI hO1 hO2 hAp); clear hI hO1 hO2 hb2 hbl hAp; go_wp2_with fail; refine hK.out _ _ ?_ (fun hHeld => ?_)
      · trivial
      clear hK K
      try simp only [Act.put, List.setIfInBounds_toArray, List.set_cons_zero, List.set_cons_succ]
      refine wpAnyH_ready (rs := [5]) (by kernel_rfl) (by simp) ?_; refine AllReadyH.cons rfl (fun K hK => ?_) AllReadyH.nil
      go_simp
      refine hK.out _ _ ?_ (fun hHeld => ?_)
      · trivial
      clear hK K
      try simp only [Act.put, List.setIfInBounds_toArray, List.set_cons_zero, List.set_cons_succ]
      refine wpAnyH_take (i := 6) (v := ?v5) rfl (by kernel_rfl) (by kernel_rfl) (by kernel_rfl) (fun _ _ _ h => h) (Or.inl ⟨by rfl, ?hy5⟩) (by assumption) ?_
      case hy5 =>
        intro w hSw
        (try dsimp only at hSw)
        go_simp
        all_goals with_reducible rfl
      change wpAnyH _ _ _ _ _ _ _ (Act.put _ (some 22) _) _
      try simp only [Act.put, List.setIfInBounds_toArray, List.set_cons_zero, List.set_cons_succ]
      refine wpAnyH_ready (rs := [7]) (by kernel_rfl) (by simp) ?_; refine AllReadyH.cons rfl (fun K hK => ?_) AllReadyH.nil
      go_simp
      refine hK.out _ _ ?_ (fun hHeld => ?_)
      · trivial
      clear hK K
      try simp only [Act.put, List.setIfInBounds_toArray, List.set_cons_zero, List.set_cons_succ]
      refine wpAnyH_take (i := 8) (v := ?v6) rfl (by kernel_rfl) (by kernel_rfl) (by kernel_rfl) (fun _ _ _ h => h) (Or.inl ⟨by rfl, ?hy6⟩) (by assumption) ?_
      case hy6 =>
        intro w hSw
        (try dsimp only at hSw)
        go_simp
        all_goals with_reducible rfl
      change wpAnyH _ _ _ _ _ _ _ (Act.put _ (some 4) _) _
      try simp only [Act.put, List.setIfInBounds_toArray, List.set_cons_zero, List.set_cons_succ]
      refine wpAnyH_done (by kernel_rfl) ?_ _; go_wp2_with fail
      go_meet
      exact OpnR.mkA HB2.out HLN.out (by kernel_rfl)
    refine AllReadyH.cons rfl (fun K hK => ?_) AllReadyH.nil
    go_simp
    refine hK.out _ _ ?_ (fun hHeld => ?_)
    · trivial
    clear hK K
    try simp only [Act.put, List.setIfInBounds_toArray, List.set_cons_zero, List.set_cons_succ]
    refine wpAnyH_ready (rs := [2]) (by kernel_rfl) (by simp) ?_; refine AllReadyH.cons rfl (fun K hK => ?_) AllReadyH.nil
    go_simp
    refine (HNL.out _).mono ?_; rintro e w2 ⟨bs, sa, ta, cs, ct, rfl, hbl, hI, hO1, hO2, hAp, hb2⟩; have HB2 := hid (show Below W.heap.size W w2 from (show Below W.heap.size W _ from (by repeat (first | with_reducible exact Below.refl _ _ | with_reducible refine Below.drew ?_ | with_reducible refine Below.alloc ?_ (by first | exact Nat.le_refl _ | simp) _ | exact ((Below.refl _ W).drew.alloc (Nat.le_refl _) _)))).trans (hb2.mono (by first | exact Nat.le_refl _ | simp))); have HLN := hid (LdN.mk (B' := W.heap.size) (by first | exact Nat.le_refl _ | simp) hbl hI hO1 hO2 hAp); have HO3 := hid (OwO.new (w := W.drew) (B := W.heap.size) (Nat.le_refl _) hb2 (by kernel_rfl)); clear hI hO1 hO2 hb2 hbl hAp; go_wp2_with fail; refine hK.out _ _ ?_ (fun hHeld => ?_)
    · trivial
    clear hK K
    try simp only [Act.put, List.setIfInBounds_toArray, List.set_cons_zero, List.set_cons_succ]
    refine wpAnyH_take (i := 6) (v := ?v7) rfl (by kernel_rfl) (by kernel_rfl) (by kernel_rfl) (fun _ _ _ h => h) (Or.inl ⟨by rfl, ?hy7⟩) (by assumption) ?_
    case hy7 =>
      intro w hSw
      (try dsimp only at hSw)
      go_simp
      all_goals with_reducible rfl
    change wpAnyH _ _ _ _ _ _ _ (Act.put _ (some 22) _) _
    try simp only [Act.put, List.setIfInBounds_toArray, List.set_cons_zero, List.set_cons_succ]
    refine wpAnyH_ready (rs := [7]) (by kernel_rfl) (by simp) ?_; refine AllReadyH.cons rfl (fun K hK => ?_) AllReadyH.nil
    go_simp
    refine hK.out _ _ ?_ (fun hHeld => ?_)
    · trivial
    clear hK K
    try simp only [Act.put, List.setIfInBounds_toArray, List.set_cons_zero, List.set_cons_succ]
    refine wpAnyH_take (i := 8) (v := ?v8) rfl (by kernel_rfl) (by kernel_rfl) (by kernel_rfl) (fun _ _ _ h => h) (Or.inl ⟨by rfl, ?hy8⟩) (by assumption) ?_
    case hy8 =>
      intro w hSw
      (try dsimp only at hSw)
      go_simp
      all_goals with_reducible rfl
    change wpAnyH _ _ _ _ _ _ _ (Act.put _ (some 4) _) _
    try simp only [Act.put, List.setIfInBounds_toArray, List.set_cons_zero, List.set_cons_succ]
    refine wpAnyH_done (by kernel_rfl) ?_ _; go_wp2_with fail
    go_meet
    exact OpnR.mk HB2.out HLN.out HO3.out
  case rest =>
    obtain ⟨b, v5, v6, v36, hp, hR, hbW, hBW, hLD, hOO⟩ := hcut; subst hp; obtain ⟨W1, rfl⟩ : ∃ W, W = wc := ⟨_, rfl⟩; obtain rfl := HWW.out; have hu1 := (hBW.block p (Array.getElem?_eq_some_iff.1 HU.out).1).trans HU.out; have HRI := hid (RoI.start (B := W.heap.size) hR); have HRB := hid hR; have HU1 := hid hu1; have HLD := hid hLD; have HOO := hid hOO; have HBW := hid hBW; clear hR hBW hu1 HNL hLD hOO; go_wp2
    go_loopw [26] (fun i wr => ∃ k : Nat, k ≤ 3 ∧ k ≤ f ∧ i = .int .i64 k ∧ Hid (RoI W1 W.heap.size b v5 v6 v36 ([l0, l1, l2].take k) (Cs.take k) wr)) (fun i _ => 3 - (intOf i).toNat)
    case atStart => exact ⟨0, by omega, by omega, rfl, HRI⟩
    case round =>
      obtain ⟨k, hk3, hkf, rfl, HI⟩ := hrel; have HBR := hid (HBW.out.trans (HI.out.low hbW HBW.out.size)); have hur := (HBR.out.block p (Array.getElem?_eq_some_iff.1 HU.out).1).trans HU.out; obtain ⟨c0, c1, c2, c3, c4, c5⟩ := bx6 hur; have HAL := hid (show ∀ o, Below wr.heap.size wr (wr.alloc o) from fun o => (Below.refl _ _).alloc (Nat.le_refl _) o); clear hur; obtain rfl | rfl | rfl | rfl : k = 0 ∨ k = 1 ∨ k = 2 ∨ k = 3 := by omega
      · go_wp2_with fail; refine (HA.out 0 _ W1 b v5 v6 v36 (by omega) hkf (HBR.out.trans ((HAL.out _).mono HBR.out.size)) hbW (HI.out.next (HAL.out _))).mono ?_; rintro e w2 hq; have HQ := hid hq; clear hq
        by_cases hkl : 0 < f
        · obtain ⟨rfl, hI⟩ := HQ.out.yes hkl; have HI2 := hid hI; clear hI HQ; go_wp2
          go_roundw
          case rel => exact ⟨1, by omega, by omega, rfl, HI2⟩
          case measure => simp [intOf]
        · obtain ⟨rfl, hb2⟩ := HQ.out.no hkl; have HB2 := hid (HBR.out.trans (((HAL.out _).trans (hb2.mono (HAL.out _).size)).mono HBR.out.size)); clear hb2 HQ; go_wp2; go_ret2; unfold OpnQ; rw [if_pos (by omega)]; exact ⟨rfl, HB2.out⟩
      · go_wp2_with fail; refine (HA.out 1 _ W1 b v5 v6 v36 (by omega) hkf (HBR.out.trans ((HAL.out _).mono HBR.out.size)) hbW (HI.out.next (HAL.out _))).mono ?_; rintro e w2 hq; have HQ := hid hq; clear hq
        by_cases hkl : 1 < f
        · obtain ⟨rfl, hI⟩ := HQ.out.yes hkl; have HI2 := hid hI; clear hI HQ; go_wp2
          go_roundw
          case rel => exact ⟨2, by omega, by omega, rfl, HI2⟩
          case measure => simp [intOf]
        · obtain ⟨rfl, hb2⟩ := HQ.out.no hkl; have HB2 := hid (HBR.out.trans (((HAL.out _).trans (hb2.mono (HAL.out _).size)).mono HBR.out.size)); clear hb2 HQ; go_wp2; go_ret2; unfold OpnQ; rw [if_pos (by omega)]; exact ⟨rfl, HB2.out⟩
      · go_wp2_with fail; refine (HA.out 2 _ W1 b v5 v6 v36 (by omega) hkf (HBR.out.trans ((HAL.out _).mono HBR.out.size)) hbW (HI.out.next (HAL.out _))).mono ?_; rintro e w2 hq; have HQ := hid hq; clear hq
        by_cases hkl : 2 < f
        · obtain ⟨rfl, hI⟩ := HQ.out.yes hkl; have HI2 := hid hI; clear hI HQ; go_wp2
          go_roundw
          case rel => exact ⟨3, by omega, by omega, rfl, HI2⟩
          case measure => simp [intOf]
        · obtain ⟨rfl, hb2⟩ := HQ.out.no hkl; have HB2 := hid (HBR.out.trans (((HAL.out _).trans (hb2.mono (HAL.out _).size)).mono HBR.out.size)); clear hb2 HQ; go_wp2; go_ret2; unfold OpnQ; rw [if_pos (by omega)]; exact ⟨rfl, HB2.out⟩
      · go_wp2; go_ret2; obtain rfl : f = 3 := by omega
        unfold OpnQ; rw [if_neg (by omega)]; exact ⟨W1, b, v5, v6, v36, rfl, HRB.out, hbW, HBW.out, HLD.out, HOO.out, HI.out⟩
end Go.Proofs.YtlfgemnmfhknfaaGreatDoor
namespace Go.Proofs.YtlfgemnmfhknfaaGreatDoor
open Go.RowKit Go.Proofs
def byC (l : List UInt8) : List Value := l.map fun c => .int .u8 c.toNat
def BysM (Q : Nat → Prop) (w : World) (v : Value) (l : List UInt8) : Prop :=
  ∃ a c, v = .slice a l.length c ∧ l.length ≤ c ∧ l.length ≤ maxLen ∧ ∀ (j : Nat) (x : UInt8), l[j]? = some x → ∃ b o, a = some ⟨b, o, none⟩ ∧ Q b ∧ w.cell? ⟨b, o + j, none⟩ = some (.int .u8 x.toNat)
theorem BysM.nil (Q : Nat → Prop) (w : World) (a : Option Addr) (c : Nat) : BysM Q w (.slice a 0 c) [] := ⟨a, c, rfl, Nat.zero_le _, Nat.zero_le _, fun j x h => by simp at h⟩
theorem BysM.imp {Q Q' : Nat → Prop} {w w' : World} {v : Value} {l : List UInt8} (h : BysM Q w v l) (hq : ∀ b, Q b → Q' b) (hk : ∀ b, b < w.heap.size → Q b → w'.heap[b]? = w.heap[b]?) : BysM Q' w' v l := by
  obtain ⟨a, c, h1, h2, h3, h4⟩ := h; refine ⟨a, c, h1, h2, h3, fun j x hx => ?_⟩; obtain ⟨b, o, e, q, hc⟩ := h4 j x hx; exact ⟨b, o, e, hq b q, (World.cell?_of_block (w := w) (hk b (World.block_lt_of_cell? w _ hc) q)).trans hc⟩
theorem BysM.next {Q : Nat → Prop} {w w' : World} {v : Value} {l : List UInt8} (h : BysM Q w v l) (hb : Below w.heap.size w w') : BysM Q w' v l := h.imp (fun _ h => h) fun b hlt _ => hb.block b hlt
theorem BysM.slice {Q : Nat → Prop} {w : World} {v : Value} {l : List UInt8} (h : BysM Q w v l) : ∃ a c, v = .slice a l.length c ∧ l.length ≤ c ∧ l.length ≤ maxLen := by
  obtain ⟨a, c, h1, h2, h3, _⟩ := h; exact ⟨a, c, h1, h2, h3⟩
theorem BysM.at {Q : Nat → Prop} {w : World} {a : Option Addr} {n c : Nat} {l : List UInt8} (h : BysM Q w (.slice a n c) l) {j : Nat} {x : UInt8} (hx : l[j]? = some x) : ∃ b o, a = some ⟨b, o, none⟩ ∧ Q b ∧ w.cell? ⟨b, o + j, none⟩ = some (.int .u8 x.toNat) := by
  obtain ⟨a', c', h1, _, _, h4⟩ := h; simp only [Value.slice.injEq] at h1; obtain ⟨rfl, _, rfl⟩ := h1; exact h4 j x hx
theorem BysM.take {Q : Nat → Prop} {w : World} {a : Option Addr} {n c : Nat} {l : List UInt8} (h : BysM Q w (.slice a n c) l) {k : Nat} (hk : k ≤ l.length) : BysM Q w (.slice a k c) (l.take k) := by
  obtain ⟨a', c', h1, h2, h3, h4⟩ := h; simp only [Value.slice.injEq] at h1; obtain ⟨rfl, _, rfl⟩ := h1; have hl : (l.take k).length = k := by rw [List.length_take]; omega
  refine ⟨a, c, by rw [hl], by omega, by omega, fun j x hx => ?_⟩; have hj : j < k := by have := (List.getElem?_eq_some_iff.1 hx).1; omega
  exact h4 j x (by rw [List.getElem?_take_of_lt hj] at hx; exact hx)
theorem BysM.drop {Q : Nat → Prop} {w : World} {a : Addr} {n c : Nat} {l : List UInt8} (h : BysM Q w (.slice (some a) n c) l) {k : Nat} (hk : k ≤ l.length) : BysM Q w (.slice (some (a.add k)) (l.length - k) (c - k)) (l.drop k) := by
  obtain ⟨a', c', h1, h2, h3, h4⟩ := h; simp only [Value.slice.injEq] at h1; obtain ⟨rfl, _, rfl⟩ := h1; have hl : (l.drop k).length = l.length - k := by simp
  refine ⟨_, _, by rw [hl], by omega, by omega, fun j x hx => ?_⟩; rw [List.getElem?_drop] at hx; obtain ⟨b, o, e, q, hc⟩ := h4 _ x hx; simp only [Option.some.injEq] at e; subst e; exact ⟨b, o + k, by rw [Addr.add_lit], q, by rw [Nat.add_assoc]; exact hc⟩
theorem jfB {w : World} {g j k : Nat} {u : Value} (h : k ≠ g) : (w.setCell ⟨g, j, none⟩ u).heap[k]? = w.heap[k]? := Below.heap_setCell _ _ _ _ h
theorem jll {w w' : World} {B n k : Nat} {e : TypeId} {v : Value} {xs : List Value} (h : w.ownsRow B e k v n xs) (hk : ∀ g, v.ownBlock = some g → w'.heap[g]? = w.heap[g]?) : w'.ownsRow B e k v n xs := by
  refine ⟨h.1, ?_⟩
  rcases h.2 with hn | ⟨g, cap, cur, rfl, hb, hgg, rest⟩
  · exact .inl hn
  · exact .inr ⟨g, cap, cur, rfl, hb, (hk g rfl).trans hgg, rest⟩
theorem jlt {w : World} {B B' n k : Nat} {e : TypeId} {v : Value} {xs : List Value} (h : w.ownsRow B e k v n xs) (hB : B' ≤ B) : w.ownsRow B' e k v n xs := by
  refine ⟨h.1, ?_⟩
  rcases h.2 with hn | ⟨g, cap, cur, rfl, hb, hgg, rest⟩
  · exact .inl hn
  · exact .inr ⟨g, cap, cur, rfl, by omega, hgg, rest⟩
end Go.Proofs.YtlfgemnmfhknfaaGreatDoor
namespace Go.Proofs.YtlfgemnmfhknfaaGreatDoor
open Go.RowKit Go.Proofs
def TpC (w : World) (l : List UInt8) (e : Ending) (w' : World) : Prop := ∃ a c, e = .returned (.slice a l.length c) ∧ w'.ownsRow w.heap.size 5 1 (.slice a l.length c) l.length (byC l) ∧ Below w.heap.size w w'
def TpP (w : World) (l : List UInt8) (s er : Int) (e : Ending) (w' : World) : Prop := ∃ a c, e = .returned (.tuple #[.agg #[.slice a l.length c, .int .i64 s], .int .i64 er]) ∧ w'.ownsRow w.heap.size 5 1 (.slice a l.length c) l.length (byC l) ∧ Below w.heap.size w w'
theorem TpP.refused (w w1 : World) (er : Int) (p : Nat) (hp : w.heap.size ≤ p) (hb : Below w.heap.size w w1) : TpP w [] 0 er (.returned (.tuple #[.agg #[.slice none 0 0, .int .i64 0], .int .i64 er])) ((w1.setCell ⟨p, 0, none⟩ (.slice none 0 0)).setCell ⟨p, 1, none⟩ (.int .i64 0)) :=
  ⟨none, 0, rfl, World.ownsRow_nil _ _ _ _, (hb.setCell hp _).setCell hp _⟩
theorem TpP.done {w w1 w2 : World} {l : List UInt8} {s : Int} {p : Nat} {a : Option Addr} {c : Nat} (hp : w.heap.size ≤ p) (hp1 : p < w1.heap.size) (hb : Below w.heap.size w w1) (h : TpC w1 l (.returned (.slice a l.length c)) w2) : TpP w l s 0 (.returned (.tuple #[.agg #[.slice a l.length c, .int .i64 s], .int .i64 0])) ((w2.setCell ⟨p, 0, none⟩ (.slice a l.length c)).setCell ⟨p, 1, none⟩ (.int .i64 s)) := by
  obtain ⟨a', c', e, hO, hb2⟩ := h; cases e; refine ⟨a, c, rfl, ?_, ((hb.trans (hb2.mono hb.size)).setCell hp _).setCell hp _⟩; refine jlt (B := w1.heap.size) (jll hO fun g hg => ?_) hb.size; have := (World.ownsRow.lt hO g hg).1; exact (jfB (by omega)).trans (jfB (by omega))
end Go.Proofs.YtlfgemnmfhknfaaGreatDoor
