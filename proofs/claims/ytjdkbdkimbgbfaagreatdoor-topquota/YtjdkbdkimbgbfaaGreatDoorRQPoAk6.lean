/-
  What addUser does with a user that it takes: the walk.
-/
import Derived.Test.YtjdkbdkimbgbfaaGreatDoorRQPoMod11
import Derived.Test.YtjdkbdkimbgbfaaGreatDoorRows
import Derived.Laws.BytesArg
import Derived.Lib.AppendStr
import Derived.OwnWalk
set_option maxHeartbeats 2000000
set_option maxRecDepth 100000
namespace Go.Proofs.YtjdkbdkimbgbfaaGreatDoor
open Go.RowKit Go.Proofs
variable {cur : Array Value} {r : Int} {Cs : List (List Cmd)} {L : List (List UInt8)} {C : List Cmd} {G G' : List Nat} {l lo : List UInt8} {X cs xs : List Value} {B B' H N b base c f j k m n p q : Nat} {Q : Nat -> Prop} {a : Option Addr} {e t ty : TypeId} {u v v0 v1 v34 v35 v36 v5 v6 : Value} {W W1 v' w w' w0 w2 : World}
theorem CmdsM.stp {l : List Cmd} (h : CmdsM Q n w v l) (hs : Stp b G w G' w') (hQ : ∀ k, Q k -> k < w.heap.size -> Av b G k) : CmdsM (fun k => Q k /\ Av b G' k) n w' v l := by
 have hk : ∀ k, Q k -> k < w.heap.size -> (Q k /\ Av b G' k) /\ w'.heap[k]? = w.heap[k]? := fun k hq hl => ⟨⟨hq, hs.av hl (hQ k hq hl)⟩, hs.block k hl (hQ k hq hl)⟩
 have hr : ∀ {A : Type} {k : Nat} {P P' : A -> List Value -> Prop} {v : Value} {l : List A}, RowM Q k P w v l -> (∀ x cs, P x cs -> P' x cs) -> RowM (fun k => Q k /\ Av b G' k) k P' w' v l := by
  intro A k P P' v l h hp; obtain ⟨a, c, hv, hm, hx⟩ := h; refine ⟨a, c, hv, hm, fun i x hi => ?_⟩; obtain ⟨g, o, cs, ha, hg, hq, hl, hc, hP⟩ := hx i x hi; exact ⟨g, o, cs, ha, aK hg hs.size, (hk g hq hg).1, hl, fun j u hj => (aP (hk g hq hg).2).trans (hc j u hj), hp x cs hP⟩
 have ht : ∀ (n : Nat) (t : Tst) (cs : List Value), TstM Q n w t cs -> TstM (fun k => Q k /\ Av b G' k) n w' t cs := by
  intro n
  induction n with
  | zero => intro t cs h; exact h
  | succ n ih =>
    intro t cs h; obtain ⟨vn, vk, vt, h0, h1, h2, h3⟩ := h; exact ⟨vn, vk, vt, h0, hr h1 fun _ _ h => h, hr h2 fun _ _ h => h, hr h3 ih⟩
 have hcm : ∀ (n : Nat) (t : Cmd) (cs : List Value), CmdM Q n w t cs -> CmdM (fun k => Q k /\ Av b G' k) n w' t cs := by
  intro n
  induction n with
  | zero => intro t cs h; exact h
  | succ n ih =>
    intro t cs h; obtain ⟨vx, vn, vk, vt, va, ve, h0, h1, h2, h3, h4⟩ := h; exact ⟨vx, vn, vk, vt, va, ve, h0, hr h1 fun _ _ h => h, ht _ _ _ h2, hr h3 ih, hr h4 ih⟩
 exact hr h (hcm n)
def locR (v : Value) (L : List (List UInt8)) : MRow := ⟨9, 1, v, L.length, L.map fun l => .string (S l)⟩
def scrR (v : Value) (X : List Value) : MRow := ⟨94, 1, v, X.length, X⟩
def TA (b p : Nat) (v34 v35 : Value) (lo : List UInt8) (w : World) : Prop := w.cell? ⟨b, 34, none⟩ = some v34 /\ w.cell? ⟨b, 35, none⟩ = some v35 /\ w.cell? ⟨p, 0, none⟩ = some (.string (S lo))
structure AdS (w0 : World) (B b p : Nat) (cs : List Value) (l0 s0 : MRow) (v34 v35 : Value) (lo : List UInt8) (l s : MRow) (w : World) : Prop where
 box : RmB w b cs
 own : MOk w B b [l, s]
 stp : Stp b (mB [l0, s0]) w0 (mB [l, s]) w
 ta : TA b p v34 v35 lo w
 hp : p < w0.heap.size /\ Av b (mB [l0, s0]) p
theorem AdS.next {w0 : World} {B b p : Nat} {cs : List Value} {l0 s0 l s : MRow} {v34 v35 : Value} {lo : List UInt8} {w w' : World} (h : AdS w0 B b p cs l0 s0 v34 v35 lo l s w) (hb : Below w.heap.size w w') : AdS w0 B b p cs l0 s0 v34 v35 lo l s w' :=
 ⟨h.box.next hb, h.own.next hb, h.stp.trans (.of hb), ⟨ja h.ta.1 hb, ja h.ta.2.1 hb, ja h.ta.2.2 hb⟩, h.hp⟩
theorem AdS.put {l0 s0 l s l' s' : MRow} (h : AdS w0 B b p cs l0 s0 v34 v35 lo l s w) (hM : MOk w' B b [l', s']) (hS : Stp b (mB [l, s]) w (mB [l', s']) w') (hB : w'.heap[b]? = w.heap[b]?) : AdS w0 B b p cs l0 s0 v34 v35 lo l' s' w' := by
 have hz := h.stp.size; have hp := h.hp; refine ⟨⟨hB.trans h.box.1, h.box.2⟩, hM, h.stp.trans hS, ⟨(aP hB).trans h.ta.1, (aP hB).trans h.ta.2.1, (aP (hS.block p (by omega) (h.stp.av hp.1 hp.2))).trans h.ta.2.2⟩, hp⟩
theorem AdS.g1 {l0 s0 l s l' : MRow} (h : AdS w0 B b p cs l0 s0 v34 v35 lo l s w) (hg : w.grownBy w' l.v.ownBlock) (ho : w'.ownsRow B l'.e l'.k l'.v l'.n l'.xs) (hH : w.heap.size <= H) (hat : ∀ g, l'.v.ownBlock = some g -> l.v.ownBlock = some g ∨ H <= g) :
 AdS w0 B b p cs l0 s0 v34 v35 lo l' s w' := by
 obtain ⟨h1, h2⟩ := MOk.grow (A := []) (Z := [s]) h.own hg ho hH hat; exact h.put h1 h2 (hg.block b h.own.lt fun e => h.own.far (bu.2 ⟨l, by simp, e.symm⟩))
theorem AdS.g2 {l0 s0 l s s' : MRow} (h : AdS w0 B b p cs l0 s0 v34 v35 lo l s w) (hg : w.grownBy w' s.v.ownBlock) (ho : w'.ownsRow B s'.e s'.k s'.v s'.n s'.xs) (hH : w.heap.size <= H) (hat : ∀ g, s'.v.ownBlock = some g -> s.v.ownBlock = some g ∨ H <= g) :
 AdS w0 B b p cs l0 s0 v34 v35 lo l s' w' := by
 obtain ⟨h1, h2⟩ := MOk.grow (A := [l]) (Z := []) h.own hg ho hH hat; exact h.put h1 h2 (hg.block b h.own.lt fun e => h.own.far (bu.2 ⟨s, by simp, e.symm⟩))
def Nw (w : World) (q : Nat) (u : Value) : Prop := ∀ j x, [u][j]? = some x -> w.cell? ((⟨q, 0, none⟩ : Addr).add j) = some x
theorem Nw.new (w : World) (u : Value) (t : TypeId) (q : Nat) (hq : w.heap.size = q) : Nw (w.alloc (.cells #[u] t)) q u := hq ▸ qk w [u] t
theorem Nw.next (h : Nw w q u) (hb : Below w.heap.size w w') : Nw w' q u := fun j x hj => ja (h j x hj) hb
theorem Nw.grow {row : Option Nat} (h : Nw w q u) (hg : w.grownBy w' row) (hn : row ≠ some q) : Nw w' q u := fun j x hj => hg.cell (h j x hj) (by rw [bg]; exact fun e => hn e.symm)
def AduP (B b : Nat) (cs : List Value) (L : List (List UInt8)) (X : List Value) (v34 v35 : Value) (lo : List UInt8) (n : Nat) (C : List Cmd) (w : World) (e : Ending) (w' : World) : Prop :=
 e = .returned (.int .i64 0) /\ ∃ u34 u35 a c, RmB w' b ((cs.set 34 u34).set 35 u35) /\ MOk w' B b [locR u34 (L ++ [lo]), scrR u35 (X ++ [.slice a C.length c])] /\ jcc a C.length c /\
   CmdsM (fun k => w.heap.size <= k /\ Av b (mB [locR u34 (L ++ [lo]), scrR u35 (X ++ [.slice a C.length c])]) k) n w' (.slice a C.length c) C /\ Stp b (mB [locR v34 L, scrR v35 X]) w (mB [locR u34 (L ++ [lo]), scrR u35 (X ++ [.slice a C.length c])]) w'
theorem jo4 {w5 : World} {u34 u35 : Value} (h : AdS w0 B b p cs (locR v34 L) (scrR v35 X) v34 v35 lo (locR u34 (L ++ [lo])) (scrR u35 (X ++ [.slice a C.length c])) w5)
 (hw : Below w.heap.size w w0) (hM : MOk w B b [locR v34 L, scrR v35 X]) (hC : CmdsM (newB N) n w0 (.slice a C.length c) C) (hN : w.heap.size <= N) (hR : jcc a C.length c) :
 AduP B b cs L X v34 v35 lo n C w (.returned (.int .i64 0)) ((w5.setCell ⟨b, 34, none⟩ u34).setCell ⟨b, 35, none⟩ u35) := by
 refine ⟨rfl, u34, u35, a, c, ⟨?_, by simpa using h.box.2⟩, (h.own.box _ _).box _ _, hR, RowM.imp (CmdsM.stp hC ((h.stp.box _ _).box _ _) (fun k hk hl => ⟨?_, fun e => ?_⟩)) (fun k hk => ⟨aN hN hk.1, hk.2⟩) (Keeps.refl _ _) (fun x cs hx => CmdM.imp (fun k hk => ⟨aN hN hk.1, hk.2⟩) (Keeps.refl _ _) _ _ _ hx), (Stp.of hw).trans ((h.stp.box _ _).box _ _)⟩
 . have h1 := aM _ b 35 _ _ u35 (aM _ b 34 _ _ u34 h.box.1); rw [h1]
   simp
 . have := hM.lt; unfold newB at hk; omega
 . have := (hM.rng k e).2; unfold newB at hk; omega
theorem AdS.frz {l0 s0 l s : MRow} (h : AdS w0 B b p cs l0 s0 v34 v35 lo l s w) (u : Value) : w.frozen? ⟨b, 34, none⟩ = false /\ (w.setCell ⟨b, 34, none⟩ u).frozen? ⟨b, 35, none⟩ = false /\ (w.setCell ⟨b, 34, none⟩ u).cell? ⟨b, 35, none⟩ = some v35 := by
 have h1 := h.box.1; have h2 := aM _ b 34 _ _ u h1; refine ⟨by simp [World.frozen?, h1], by simp [World.frozen?, h2], ?_⟩; have h3 := h.ta.2.1; simp only [World.cell?, h1] at h3; simp only [World.cell?, h2]
 simpa using h3
theorem jqF : (Tryz.prog.info? 9).map (fun i => (i.zero, i.size, i.bytes)) = some (some (.string ByteArray.empty), 1, 16) := by kernel_rfl
theorem jqH : (Tryz.prog.info? 94).map (fun i => (i.zero, i.size, i.bytes)) = some (some (.slice none 0 0), 1, 24) := by kernel_rfl
set_option linter.unusedSimpArgs false in
theorem jqq (B b : Nat) (lo sc : List UInt8) (cs : List Value) (L : List (List UInt8)) (X : List Value) (v34 v35 : Value) (w : World) (hR : RmB w b cs) (rV : cs[34]? = some v34) (i8 : cs[35]? = some v35) (hM : MOk w B b [locR v34 L, scrR v35 X]) (dO : B <= b) (BT : L.length <= 10) (C8 : X.length <= 10)
 (hc : jP lo [120] = 0) (hl : lo.length <= 2000) (hm : L.contains lo = false) (n : Nat) (C : List Cmd) (r9 : ∀ v, Below w.heap.size w v -> Calls Tryz.prog 31 #[.string (S sc)] v (RdP v n (C, 0))) :
 Calls Tryz.prog 20 #[.pointer (some ⟨b, 0, none⟩), .agg #[.string (S lo), .string (S sc)]] w (AduP B b cs L X v34 v35 lo n C w) := by
 have hX : TxtsM (fun _ => True) w v34 L := jan (f := fun l => .string (S l)) (hM.own (locR v34 L) (by simp)) (by unfold maxLen; omega) fun _ _ => trivial
 obtain ⟨al, cl, rfl⟩ := RowM.slice hX; obtain ⟨as_, c35, rfl⟩ : ∃ a c, v35 = .slice a X.length c := by
  rcases (hM.own (scrR v35 X) (by simp)).2 with ⟨h, h0⟩ | ⟨g, cap, _, h, _⟩
  . exact ⟨none, 0, by rw [show v35 = _ from h, show X.length = 0 from h0]⟩
  . exact ⟨_, _, h⟩
 have kQ := hid hM; have iz := hid r9; clear r9; have HC := hid (fun u => zM (S lo) ⟨#[120]⟩ u (by rw [jb]; omega) (by decide)); have HK := hid hc; have HR := hid hR; have tq := hid hX; have hbl : b < w.heap.size := hM.lt; obtain ⟨i0, hi, hz0, hz1, hz2⟩ := info_parts jqF; obtain ⟨j0, hj, ir, dV, dW⟩ := info_parts jqH; clear hc hR hX hM; go_enter Tryz.func20, Tryz.ntmps20; go_wp2_with fail; refine (HC.out _).mono ?_; rw [show jP (S lo).data.toList (⟨#[120]⟩ : ByteArray).data.toList = 0 by rw [ji]; exact HK.out]; rintro e w1 ⟨rfl, hb1⟩; have b8 : Below w.heap.size w w1 := (nb0 _ _).trans (hb1.mono (by simp)); have bX := hid b8; have iu : w1.heap[w.heap.size]? = some (.cells #[.string (S lo), .string (S sc)] 65) := (hb1.block _ (by simp)).trans (az w _); have lY : w.heap.size < w1.heap.size := (aj.1 iu).1; have u0 : w1.cell? ⟨w.heap.size, 0, none⟩ = some (.string (S lo)) := by simp [World.cell?, iu]
 have u1 : w1.cell? ⟨w.heap.size, 1, none⟩ = some (.string (S sc)) := by simp [World.cell?, iu]
 have r34 := (HR.out.next b8).cell rV; have r35 := (HR.out.next b8).cell i8; have kL := hid (show ∀ v, Below w1.heap.size w1 v -> Calls Tryz.prog 30 #[.slice al L.length cl, .string (S lo)] v fun e w' => e = .returned (.bool (L.contains lo)) /\ Below w1.heap.size w1 w' from fun v hv => (vF (fun _ => True) L lo al cl v (tq.out.next (b8.trans (hv.mono b8.size)))).mono fun e w' h => ⟨h.1, hv.trans (h.2.mono hv.size)⟩); obtain ⟨q, hq⟩ : ∃ q, q = L.contains lo := ⟨_, rfl⟩; rw [<- hq] at hm kL; have HQ := hid hm; clear hq hm; have ix := hid (show ∀ v, Below w1.heap.size w1 v -> v.cell? ⟨b, 34, none⟩ = some (.slice al L.length cl) /\ v.cell? ⟨w.heap.size, 0, none⟩ = some (.string (S lo)) from fun v hv => ⟨ja r34 hv, ja u0 hv⟩); clear hb1 b8 iu; go_upto_region 3 with fail
 go_cut [13] (fun v wx => v = .bool q /\ Below w1.heap.size w1 wx)
 case first =>
  go_region_held3 (fun w' => w'.cell? ⟨b, 34, none⟩ = some (.slice al L.length cl) /\ w'.cell? ⟨w.heap.size, 0, none⟩ = some (.string (S lo))) (first | exact ix.out _ cU.out | exact ix.out _ ((ay _ _).drew) | exact ix.out _ (ay _ _) | fail)
   (first
        | (go_at_call 30
           with_reducible refine (kL.out _ ?_).mono ?_
           . first | exact ay _ _ | exact (ay _ _).drew
           rintro e w2 ⟨rfl, hb2⟩; have cU := hid hb2; clear hb2)
        | fail)
  all_goals (go_wp2_with fail; go_meet; exact ⟨rfl, cU.out⟩)
 case rest =>
  obtain ⟨hv, iE⟩ := hcut; subst hv; obtain ⟨W2, rfl⟩ : ∃ W, W = wc := ⟨_, rfl⟩; have bY := hid (show Below w.heap.size w W2 from bX.out.trans (iE.mono bX.out.size)); have u1 := ja u1 iE; have mI := hid iE; rw [HQ.out]; clear iE; go_wp2_with fail; refine (iz.out W2 bY.out).mono ?_; rintro e w3 ⟨a3, c3, rfl, ur, hb3, gz⟩; simp only; simp only at ur gz; have bZ := hid (bY.out.trans (hb3.mono bY.out.size)); have eK : Below w1.heap.size w1 w3 := mI.out.trans (hb3.mono mI.out.size); have iW : Hid (AdS w3 B b w.heap.size cs (locR (.slice al L.length cl) L) (scrR (.slice as_ X.length c35) X) (.slice al L.length cl) (.slice as_ X.length c35) lo (locR (.slice al L.length cl) L) (scrR (.slice as_ X.length c35) X) w3.drew) :=
   ⟨(HR.out.next bZ.out).next (ay _ _).drew, (kQ.out.next bZ.out).next (ay _ _).drew, .of (ay _ _).drew, ⟨ja r34 eK.drew, ja r35 eK.drew, ja u0 eK.drew⟩, aK lY eK.size, by omega, fun e => by have := (kQ.out.rng _ e).2; omega⟩
  have rh : w.heap.size + 1 <= w3.heap.size := aN lY eK.size; have dk := hid (fun (u34 u35 : Value) (w5 : World) (h : AdS w3 B b w.heap.size cs (locR (.slice al L.length cl) L) (scrR (.slice as_ X.length c35) X) (.slice al L.length cl) (.slice as_ X.length c35) lo (locR u34 (L ++ [lo])) (scrR u35 (X ++ [.slice a3 C.length c3])) w5) => jo4 (w := w) h bZ.out kQ.out ur bY.out.size gz); have sB : ∀ q, w3.heap.size <= q -> (Value.slice al L.length cl).ownBlock ≠ some q := fun q hq e => by
   have := (kQ.out.rng q (bu.2 ⟨locR (.slice al L.length cl) L, by simp, e⟩)).2; omega
  have rK := hid sB; have HT := hid (iW.out.ta); clear ur hb3 gz eK sB r34 r35 u0 u1 rV i8; go_upto_region 8 with fail
  have ee := HT.out; unfold TA at ee; refine jdo (late := fun i => i == 19 || i == 22) (T := fun w' => w'.cell? ⟨b, 34, none⟩ = some (.slice al L.length cl) /\ w'.cell? ⟨b, 35, none⟩ = some (.slice as_ X.length c35) /\ w'.cell? ⟨w.heap.size, 0, none⟩ = some (.string (S lo))) (by rfl) ?_; refine jq (i := 0) (v := ?v1) rfl (by kernel_rfl) (by kernel_rfl) (by kernel_rfl) (fun _ _ _ h => h) (Or.inl ⟨by rfl, ?hy1⟩) ?_
  case hy1 =>
   intro w hSw
   (try dsimp only at hSw)
   go_simp
   all_goals with_reducible rfl
  change jG _ _ _ _ _ _ _ _ (Act.put _ (some 30) _) _
  try simp only [Act.put, af, ah, ag]
  refine jq (i := 1) (v := ?v2) rfl (by kernel_rfl) (by kernel_rfl) (by kernel_rfl) (fun _ _ _ h => h) (Or.inl ⟨by rfl, ?hy2⟩) ?_
  case hy2 =>
   intro w hSw
   (try dsimp only at hSw)
   go_simp
   all_goals with_reducible rfl
  change jG _ _ _ _ _ _ _ _ (Act.put _ (some 31) _) _
  try simp only [Act.put, af, ah, ag]
  refine jq (i := 2) (v := ?v3) rfl (by kernel_rfl) (by kernel_rfl) (by kernel_rfl) (fun _ _ _ h => h) (Or.inl ⟨by rfl, ?hy3⟩) ?_
  case hy3 =>
   intro w hSw
   (try dsimp only at hSw)
   go_simp
   all_goals with_reducible rfl
  change jG _ _ _ _ _ _ _ _ (Act.put _ (some 32) _) _
  try simp only [Act.put, af, ah, ag]
  refine jq (i := 3) (v := ?v4) rfl (by kernel_rfl) (by kernel_rfl) (by kernel_rfl) (fun _ _ _ h => h) (Or.inl ⟨by rfl, ?hy4⟩) ?_
  case hy4 =>
   intro w hSw
   (try dsimp only at hSw)
   go_simp
   all_goals with_reducible rfl
  change jG _ _ _ _ _ _ _ _ (Act.put _ (some 33) _) _
  try simp only [Act.put, af, ah, ag]
  refine jq (i := 4) (v := ?v5) rfl (by kernel_rfl) (by kernel_rfl) (by kernel_rfl) (fun _ _ _ h => h) (Or.inl ⟨by rfl, ?hy5⟩) ?_
  case hy5 =>
   intro w hSw
   (try dsimp only at hSw)
   go_simp
   all_goals with_reducible rfl
  change jG _ _ _ _ _ _ _ _ (Act.put _ (some 34) _) _
  try simp only [Act.put, af, ah, ag]
  refine jq (i := 6) (v := ?v6) rfl (by kernel_rfl) (by kernel_rfl) (by kernel_rfl) (fun _ _ _ h => h) (Or.inl ⟨by rfl, ?hy6⟩) ?_
  case hy6 =>
   intro w hSw
   (try dsimp only at hSw)
   go_simp
   all_goals with_reducible rfl
  change jG _ _ _ _ _ _ _ _ (Act.put _ (some 36) _) _
  try simp only [Act.put, af, ah, ag]
  refine jq (i := 10) (v := ?v7) rfl (by kernel_rfl) (by kernel_rfl) (by kernel_rfl) (fun _ _ _ h => h) (Or.inl ⟨by rfl, ?hy7⟩) ?_
  case hy7 =>
   intro w hSw
   (try dsimp only at hSw)
   go_simp
   all_goals with_reducible rfl
  change jG _ _ _ _ _ _ _ _ (Act.put _ (some 40) _) _
  try simp only [Act.put, af, ah, ag]
  refine jq (i := 11) (v := ?v8) rfl (by kernel_rfl) (by kernel_rfl) (by kernel_rfl) (fun _ _ _ h => h) (Or.inl ⟨by rfl, ?hy8⟩) ?_
  case hy8 =>
   intro w hSw
   (try dsimp only at hSw)
   go_simp
   all_goals with_reducible rfl
  change jG _ _ _ _ _ _ _ _ (Act.put _ (some 41) _) _
  try simp only [Act.put, af, ah, ag]
  refine jq (i := 12) (v := ?v9) rfl (by kernel_rfl) (by kernel_rfl) (by kernel_rfl) (fun _ _ _ h => h) (Or.inl ⟨by rfl, ?hy9⟩) ?_
  case hy9 =>
   intro w hSw
   (try dsimp only at hSw)
   go_simp
   all_goals with_reducible rfl
  change jG _ _ _ _ _ _ _ _ (Act.put _ (some 42) _) _
  try simp only [Act.put, af, ah, ag]
  refine jq (i := 14) (v := ?v10) rfl (by kernel_rfl) (by kernel_rfl) (by kernel_rfl) (fun _ _ _ h => h) (Or.inl ⟨by rfl, ?hy10⟩) ?_
  case hy10 =>
   intro w hSw
   (try dsimp only at hSw)
   go_simp
   all_goals with_reducible rfl
  change jG _ _ _ _ _ _ _ _ (Act.put _ (some 44) _) _
  try simp only [Act.put, af, ah, ag]
  refine ja9 (i := 5) (v := ?v11) rfl (by kernel_rfl) (by kernel_rfl) (by kernel_rfl) (by kernel_rfl) (fun _ _ _ h => h) (Or.inl ⟨by rfl, ?hy11⟩) (by assumption) ?_
  case hy11 =>
   intro w hSw
   (try dsimp only at hSw)
   go_simp
   all_goals with_reducible rfl
  change jG _ _ _ _ _ _ _ _ (Act.put _ (some 35) _) _
  try simp only [Act.put, af, ah, ag]
  refine ja9 (i := 7) (v := ?v12) rfl (by kernel_rfl) (by kernel_rfl) (by kernel_rfl) (by kernel_rfl) (fun _ _ _ h => h) (Or.inl ⟨by rfl, ?hy12⟩) (by assumption) ?_
  case hy12 =>
   intro w hSw
   (try dsimp only at hSw)
   go_simp
   all_goals with_reducible rfl
  change jG _ _ _ _ _ _ _ _ (Act.put _ (some 37) _) _
  try simp only [Act.put, af, ah, ag]
  refine ja9 (i := 13) (v := ?v13) rfl (by kernel_rfl) (by kernel_rfl) (by kernel_rfl) (by kernel_rfl) (fun _ _ _ h => h) (Or.inl ⟨by rfl, ?hy13⟩) (by assumption) ?_
  case hy13 =>
   intro w hSw
   (try dsimp only at hSw)
   go_simp
   all_goals with_reducible rfl
  change jG _ _ _ _ _ _ _ _ (Act.put _ (some 43) _) _
  try simp only [Act.put, af, ah, ag]
  refine jC (rs := [8, 15]) (by kernel_rfl) (by simp) ?_; refine jR rfl (fun K hK => ?_) ?_
  . skip
    go_simp
    have gW := hid (iW.out.next ((ay _ _).alloc (ai _) (.cells #[.string (S lo)] 9))); have dG := hid (Nw.new w3.drew (.string (S lo)) 9 w3.heap.size (by first | rfl | simp)); refine hK.out _ _ (fun _ _ => gW.out.ta) ?_; clear hK K
    try simp only [Act.put, af, ah, ag]
    refine jC (rs := [9, 15]) (by kernel_rfl) (by simp) ?_; refine jR rfl (fun K hK => ?_) ?_
    . skip
      refine step_append_lies _ (by rfl) _ _ _ (by rfl) B 9 i0 _ 1 16 Tryz.underlying56 hi hz0 hz1 hz2 rfl (by omega) (.slice al L.length cl) L.length (L.map fun l => .string (S l)) (by rfl) (gW.out.own.own _ (List.mem_cons_self ..)) ⟨w3.heap.size, 0, none⟩ 1 1 [.string (S lo)] (by rfl) (by rfl) dG.out (by simp [Value.oneCell']) (by omega) (by unfold maxLen; omega) (by omega) (bi (Nat.lt_of_le_of_lt dO gW.out.own.lt)) _ rfl ?_; intro g1 cap1 w4 hown1 cN fz cF; have cJ := hid (gW.out.g1 (l' := locR (.slice (some ⟨g1, 0, none⟩) (L.length + 1) cap1) (L ++ [lo])) cN (by simpa [locR] using hown1) (ai _) (fun g e => by cases e; exact fz.imp id fun h => bJ h.symm)); clear hown1 cN fz cF; refine hK.out _ _ (fun _ _ => cJ.out.ta) ?_; clear hK K
      try simp only [Act.put, af, ah, ag]
      refine jC (rs := [15]) (by kernel_rfl) (by simp) ?_; refine jR rfl (fun K hK => ?_) zh
      go_simp
      have dv := hid (cJ.out.next ((ay _ _).alloc (ai _) (.cells #[.slice a3 C.length c3] 94))); have dq := hid (Nw.new w4 (.slice a3 C.length c3) 94 w4.heap.size (by first | rfl | simp)); refine hK.out _ _ (fun _ _ => dv.out.ta) ?_; clear hK K
      try simp only [Act.put, af, ah, ag]
      refine jC (rs := [16]) (by kernel_rfl) (by simp) ?_; refine jR rfl (fun K hK => ?_) zh; refine step_append_lies _ (by rfl) _ _ _ (by rfl) B 94 j0 _ 1 24 Tryz.underlying80 hj ir dV dW rfl (by omega) (.slice as_ X.length c35) X.length X (by rfl) (dv.out.own.own _ (List.mem_cons_of_mem _ (List.mem_cons_self ..))) ⟨w4.heap.size, 0, none⟩ 1 1 [.slice a3 C.length c3] (by rfl) (by rfl) dq.out (by simp [Value.oneCell']) (by omega) (by unfold maxLen; omega) (by omega) (bi (Nat.lt_of_le_of_lt dO dv.out.own.lt)) _ rfl ?_; intro g2 cap2 w5 hown2 hgrow2 fA gw; have dK := hid (dv.out.g2 (s' := scrR (.slice (some ⟨g2, 0, none⟩) (X.length + 1) cap2) (X ++ [.slice a3 C.length c3])) hgrow2 (by simpa [scrR] using hown2) (ai _) (fun g e => by cases e; exact fA.imp id fun h => bJ h.symm)); clear hown2 hgrow2 fA gw; refine hK.out _ _ (fun _ _ => dK.out.ta) ?_; clear hK K
      try simp only [Act.put, af, ah, ag]
      refine jq (i := 17) (v := ?v14) rfl (by kernel_rfl) (by kernel_rfl) (by kernel_rfl) (fun _ _ _ h => h) (Or.inl ⟨by rfl, ?hy14⟩) ?_
      case hy14 =>
       intro w hSw
       (try dsimp only at hSw)
       go_simp
       all_goals with_reducible rfl
      change jG _ _ _ _ _ _ _ _ (Act.put _ (some 47) _) _
      try simp only [Act.put, af, ah, ag]
      refine jq (i := 18) (v := ?v15) rfl (by kernel_rfl) (by kernel_rfl) (by kernel_rfl) (fun _ _ _ h => h) (Or.inl ⟨by rfl, ?hy15⟩) ?_
      case hy15 =>
       intro w hSw
       (try dsimp only at hSw)
       go_simp
       all_goals with_reducible rfl
      change jG _ _ _ _ _ _ _ _ (Act.put _ (some 48) _) _
      try simp only [Act.put, af, ah, ag]
      obtain ⟨z1, z2, z3⟩ := dK.out.frz (.slice (some ⟨g1, 0, none⟩) (L.length + 1) cap1); have z0 := dK.out.ta.1; refine jC (rs := [19]) (by kernel_rfl) (by simp) ?_; refine jR rfl (fun K hK => ?_) zh
      go_simp
      refine hK.out _ _ (fun h => absurd h (by decide)) ?_; clear hK K
      try simp only [Act.put, af, ah, ag]
      refine jq (i := 20) (v := ?v16) rfl (by kernel_rfl) (by kernel_rfl) (by kernel_rfl) (fun _ _ _ h => h) (Or.inl ⟨by rfl, ?hy16⟩) ?_
      case hy16 =>
       intro w hSw
       (try dsimp only at hSw)
       go_simp
       all_goals with_reducible rfl
      change jG _ _ _ _ _ _ _ _ (Act.put _ (some 49) _) _
      try simp only [Act.put, af, ah, ag]
      refine jq (i := 21) (v := ?v17) rfl (by kernel_rfl) (by kernel_rfl) (by kernel_rfl) (fun _ _ _ h => h) (Or.inl ⟨by rfl, ?hy17⟩) ?_
      case hy17 =>
       intro w hSw
       (try dsimp only at hSw)
       go_simp
       all_goals with_reducible rfl
      change jG _ _ _ _ _ _ _ _ (Act.put _ (some 50) _) _
      try simp only [Act.put, af, ah, ag]
      refine jC (rs := [22]) (by kernel_rfl) (by simp) ?_; refine jR rfl (fun K hK => ?_) zh
      go_simp
      refine hK.out _ _ (fun h => absurd h (by decide)) ?_; clear hK K
      try simp only [Act.put, af, ah, ag]
      refine ja8 (by kernel_rfl) ?_ _; go_wp2_with fail; go_ret; exact dk.out _ _ _ dK.out
    refine jR rfl (fun K hK => ?_) zh
    go_simp
    have cJ := hid (gW.out.next ((ay _ _).alloc (ai _) (.cells #[.slice a3 C.length c3] 94))); have dG := hid (dG.out.next ((ay _ _).alloc (ai _) (.cells #[.slice a3 C.length c3] 94))); have dq := hid (Nw.new (w3.drew.alloc (.cells #[.string (S lo)] 9)) (.slice a3 C.length c3) 94 (w3.heap.size + 1) (by first | rfl | simp)); refine hK.out _ _ (fun _ _ => cJ.out.ta) ?_; clear hK K
    try simp only [Act.put, af, ah, ag]
    refine jC (rs := [9]) (by kernel_rfl) (by simp) ?_; refine jR rfl (fun K hK => ?_) zh; refine step_append_lies _ (by rfl) _ _ _ (by rfl) B 9 i0 _ 1 16 Tryz.underlying56 hi hz0 hz1 hz2 rfl (by omega) (.slice al L.length cl) L.length (L.map fun l => .string (S l)) (by rfl) (cJ.out.own.own _ (List.mem_cons_self ..)) ⟨w3.heap.size, 0, none⟩ 1 1 [.string (S lo)] (by rfl) (by rfl) dG.out (by simp [Value.oneCell']) (by omega) (by unfold maxLen; omega) (by omega) (bi (Nat.lt_of_le_of_lt dO cJ.out.own.lt)) _ rfl ?_; intro g1 cap1 w4 hown1 cN fz cF; have dv := hid (cJ.out.g1 (l' := locR (.slice (some ⟨g1, 0, none⟩) (L.length + 1) cap1) (L ++ [lo])) cN (by simpa [locR] using hown1) (ai _) (fun g e => by cases e; exact fz.imp id fun h => bJ h.symm)); have dq := hid (dq.out.grow cN (rK.out _ (by simp))); clear hown1 cN fz cF; refine hK.out _ _ (fun _ _ => dv.out.ta) ?_; clear hK K
    try simp only [Act.put, af, ah, ag]
    refine jC (rs := [16]) (by kernel_rfl) (by simp) ?_; refine jR rfl (fun K hK => ?_) zh; refine step_append_lies _ (by rfl) _ _ _ (by rfl) B 94 j0 _ 1 24 Tryz.underlying80 hj ir dV dW rfl (by omega) (.slice as_ X.length c35) X.length X (by rfl) (dv.out.own.own _ (List.mem_cons_of_mem _ (List.mem_cons_self ..))) ⟨(w3.heap.size + 1), 0, none⟩ 1 1 [.slice a3 C.length c3] (by rfl) (by rfl) dq.out (by simp [Value.oneCell']) (by omega) (by unfold maxLen; omega) (by omega) (bi (Nat.lt_of_le_of_lt dO dv.out.own.lt)) _ rfl ?_; intro g2 cap2 w5 hown2 hgrow2 fA gw; have dK := hid (dv.out.g2 (s' := scrR (.slice (some ⟨g2, 0, none⟩) (X.length + 1) cap2) (X ++ [.slice a3 C.length c3])) hgrow2 (by simpa [scrR] using hown2) (ai _) (fun g e => by cases e; exact fA.imp id fun h => bJ h.symm)); clear hown2 hgrow2 fA gw; refine hK.out _ _ (fun _ _ => dK.out.ta) ?_; clear hK K
    try simp only [Act.put, af, ah, ag]
    refine jq (i := 17) (v := ?v18) rfl (by kernel_rfl) (by kernel_rfl) (by kernel_rfl) (fun _ _ _ h => h) (Or.inl ⟨by rfl, ?hy18⟩) ?_
    case hy18 =>
        intro w hSw
        (try dsimp only at hSw)
        go_simp
        all_goals with_reducible rfl
    change jG _ _ _ _ _ _ _ _ (Act.put _ (some 47) _) _
    try simp only [Act.put, af, ah, ag]
    refine jq (i := 18) (v := ?v19) rfl (by kernel_rfl) (by kernel_rfl) (by kernel_rfl) (fun _ _ _ h => h) (Or.inl ⟨by rfl, ?hy19⟩) ?_
    case hy19 =>
        intro w hSw
        (try dsimp only at hSw)
        go_simp
        all_goals with_reducible rfl
    change jG _ _ _ _ _ _ _ _ (Act.put _ (some 48) _) _
    try simp only [Act.put, af, ah, ag]
    obtain ⟨z1, z2, z3⟩ := dK.out.frz (.slice (some ⟨g1, 0, none⟩) (L.length + 1) cap1); have z0 := dK.out.ta.1; refine jC (rs := [19]) (by kernel_rfl) (by simp) ?_; refine jR rfl (fun K hK => ?_) zh
    go_simp
    refine hK.out _ _ (fun h => absurd h (by decide)) ?_; clear hK K
    try simp only [Act.put, af, ah, ag]
    refine jq (i := 20) (v := ?v20) rfl (by kernel_rfl) (by kernel_rfl) (by kernel_rfl) (fun _ _ _ h => h) (Or.inl ⟨by rfl, ?hy20⟩) ?_
    case hy20 =>
        intro w hSw
        (try dsimp only at hSw)
        go_simp
        all_goals with_reducible rfl
    change jG _ _ _ _ _ _ _ _ (Act.put _ (some 49) _) _
    try simp only [Act.put, af, ah, ag]
    refine jq (i := 21) (v := ?v21) rfl (by kernel_rfl) (by kernel_rfl) (by kernel_rfl) (fun _ _ _ h => h) (Or.inl ⟨by rfl, ?hy21⟩) ?_
    case hy21 =>
        intro w hSw
        (try dsimp only at hSw)
        go_simp
        all_goals with_reducible rfl
    change jG _ _ _ _ _ _ _ _ (Act.put _ (some 50) _) _
    try simp only [Act.put, af, ah, ag]
    refine jC (rs := [22]) (by kernel_rfl) (by simp) ?_; refine jR rfl (fun K hK => ?_) zh
    go_simp
    refine hK.out _ _ (fun h => absurd h (by decide)) ?_; clear hK K
    try simp only [Act.put, af, ah, ag]
    refine ja8 (by kernel_rfl) ?_ _; go_wp2_with fail; go_ret; exact dk.out _ _ _ dK.out
  refine jR rfl (fun K hK => ?_) zh
  go_simp
  have gW := hid (iW.out.next ((ay _ _).alloc (ai _) (.cells #[.slice a3 C.length c3] 94))); have dq := hid (Nw.new w3.drew (.slice a3 C.length c3) 94 w3.heap.size (by first | rfl | simp)); refine hK.out _ _ (fun _ _ => gW.out.ta) ?_; clear hK K
  try simp only [Act.put, af, ah, ag]
  refine jC (rs := [8]) (by kernel_rfl) (by simp) ?_; refine jR rfl (fun K hK => ?_) zh
  go_simp
  have cJ := hid (gW.out.next ((ay _ _).alloc (ai _) (.cells #[.string (S lo)] 9))); have dq := hid (dq.out.next ((ay _ _).alloc (ai _) (.cells #[.string (S lo)] 9))); have dG := hid (Nw.new (w3.drew.alloc (.cells #[.slice a3 C.length c3] 94)) (.string (S lo)) 9 (w3.heap.size + 1) (by first | rfl | simp)); refine hK.out _ _ (fun _ _ => cJ.out.ta) ?_; clear hK K
  try simp only [Act.put, af, ah, ag]
  refine jC (rs := [9]) (by kernel_rfl) (by simp) ?_; refine jR rfl (fun K hK => ?_) zh; refine step_append_lies _ (by rfl) _ _ _ (by rfl) B 9 i0 _ 1 16 Tryz.underlying56 hi hz0 hz1 hz2 rfl (by omega) (.slice al L.length cl) L.length (L.map fun l => .string (S l)) (by rfl) (cJ.out.own.own _ (List.mem_cons_self ..)) ⟨(w3.heap.size + 1), 0, none⟩ 1 1 [.string (S lo)] (by rfl) (by rfl) dG.out (by simp [Value.oneCell']) (by omega) (by unfold maxLen; omega) (by omega) (bi (Nat.lt_of_le_of_lt dO cJ.out.own.lt)) _ rfl ?_; intro g1 cap1 w4 hown1 cN fz cF; have dv := hid (cJ.out.g1 (l' := locR (.slice (some ⟨g1, 0, none⟩) (L.length + 1) cap1) (L ++ [lo])) cN (by simpa [locR] using hown1) (ai _) (fun g e => by cases e; exact fz.imp id fun h => bJ h.symm)); have dq := hid (dq.out.grow cN (rK.out _ (by simp))); clear hown1 cN fz cF; refine hK.out _ _ (fun _ _ => dv.out.ta) ?_; clear hK K
  try simp only [Act.put, af, ah, ag]
  refine jC (rs := [16]) (by kernel_rfl) (by simp) ?_; refine jR rfl (fun K hK => ?_) zh; refine step_append_lies _ (by rfl) _ _ _ (by rfl) B 94 j0 _ 1 24 Tryz.underlying80 hj ir dV dW rfl (by omega) (.slice as_ X.length c35) X.length X (by rfl) (dv.out.own.own _ (List.mem_cons_of_mem _ (List.mem_cons_self ..))) ⟨w3.heap.size, 0, none⟩ 1 1 [.slice a3 C.length c3] (by rfl) (by rfl) dq.out (by simp [Value.oneCell']) (by omega) (by unfold maxLen; omega) (by omega) (bi (Nat.lt_of_le_of_lt dO dv.out.own.lt)) _ rfl ?_; intro g2 cap2 w5 hown2 hgrow2 fA gw; have dK := hid (dv.out.g2 (s' := scrR (.slice (some ⟨g2, 0, none⟩) (X.length + 1) cap2) (X ++ [.slice a3 C.length c3])) hgrow2 (by simpa [scrR] using hown2) (ai _) (fun g e => by cases e; exact fA.imp id fun h => bJ h.symm)); clear hown2 hgrow2 fA gw; refine hK.out _ _ (fun _ _ => dK.out.ta) ?_; clear hK K
  try simp only [Act.put, af, ah, ag]
  refine jq (i := 17) (v := ?v22) rfl (by kernel_rfl) (by kernel_rfl) (by kernel_rfl) (fun _ _ _ h => h) (Or.inl ⟨by rfl, ?hy22⟩) ?_
  case hy22 =>
   intro w hSw
   (try dsimp only at hSw)
   go_simp
   all_goals with_reducible rfl
  change jG _ _ _ _ _ _ _ _ (Act.put _ (some 47) _) _
  try simp only [Act.put, af, ah, ag]
  refine jq (i := 18) (v := ?v23) rfl (by kernel_rfl) (by kernel_rfl) (by kernel_rfl) (fun _ _ _ h => h) (Or.inl ⟨by rfl, ?hy23⟩) ?_
  case hy23 =>
   intro w hSw
   (try dsimp only at hSw)
   go_simp
   all_goals with_reducible rfl
  change jG _ _ _ _ _ _ _ _ (Act.put _ (some 48) _) _
  try simp only [Act.put, af, ah, ag]
  obtain ⟨z1, z2, z3⟩ := dK.out.frz (.slice (some ⟨g1, 0, none⟩) (L.length + 1) cap1); have z0 := dK.out.ta.1; refine jC (rs := [19]) (by kernel_rfl) (by simp) ?_; refine jR rfl (fun K hK => ?_) zh
  go_simp
  refine hK.out _ _ (fun h => absurd h (by decide)) ?_; clear hK K
  try simp only [Act.put, af, ah, ag]
  refine jq (i := 20) (v := ?v24) rfl (by kernel_rfl) (by kernel_rfl) (by kernel_rfl) (fun _ _ _ h => h) (Or.inl ⟨by rfl, ?hy24⟩) ?_
  case hy24 =>
   intro w hSw
   (try dsimp only at hSw)
   go_simp
   all_goals with_reducible rfl
  change jG _ _ _ _ _ _ _ _ (Act.put _ (some 49) _) _
  try simp only [Act.put, af, ah, ag]
  refine jq (i := 21) (v := ?v25) rfl (by kernel_rfl) (by kernel_rfl) (by kernel_rfl) (fun _ _ _ h => h) (Or.inl ⟨by rfl, ?hy25⟩) ?_
  case hy25 =>
   intro w hSw
   (try dsimp only at hSw)
   go_simp
   all_goals with_reducible rfl
  change jG _ _ _ _ _ _ _ _ (Act.put _ (some 50) _) _
  try simp only [Act.put, af, ah, ag]
  refine jC (rs := [22]) (by kernel_rfl) (by simp) ?_; refine jR rfl (fun K hK => ?_) zh
  go_simp
  refine hK.out _ _ (fun h => absurd h (by decide)) ?_; clear hK K
  try simp only [Act.put, af, ah, ag]
  refine ja8 (by kernel_rfl) ?_ _; go_wp2_with fail; go_ret; exact dk.out _ _ _ dK.out
theorem jjN {P : Program} {md : Region.Mode} {ops : Array Oper} {Q : Exit -> Act -> World -> Prop} {S S' : World -> Prop} (h : ∀ w, S' w -> S w) : ∀ (fuel : Nat) (listed : Array Bool) (a : Act) (w : World), wpAnyH P md ops Q S' fuel listed a w -> wpAnyH P md ops Q S fuel listed a w := by
 intro fuel
 induction fuel with
 | zero => intro listed a w hw; exact hw
 | succ fuel ih =>
   intro listed a w hw; exact ⟨hw.1, fun i hi => wpOp_mono (fun a' w' hh => ⟨h _ hh.1, ih _ _ _ hh.2⟩) (hw.2 i hi)⟩
theorem jb3 {P : Program} {md : Region.Mode} {ops : Array Oper} {Q : Exit -> Act -> World -> Prop} {S E : World -> Prop} {fuel : Nat} {listed : Array Bool} {a : Act} (hS : S w) (hE : E w) (k : S w /\ E w -> wpAnyH P md ops Q (fun w => S w /\ E w) fuel listed a w) : wpAnyH P md ops Q S fuel listed a w :=
 jjN (fun _ h => h.1) _ _ _ _ (k ⟨hS, hE⟩)
theorem jhF {p : Addr} {v : Option Value} (h : w.cell? p = v) : w.drew.cell? p = v := h
def conZ : List Value := [.int .i64 0, .string ⟨#[]⟩, .string ⟨#[]⟩, .slice none 0 0, .string ⟨#[]⟩, .bool false, .string ⟨#[]⟩, .slice none 0 0, .slice none 0 0]
def jfM (v5 v6 v34 v35 v36 : Value) : List Value := [.bool true, .slice none 0 0, .int .i64 0, .int .i64 0, .int .i64 0, v5, v6] ++ conZ ++ conZ ++ conZ ++ [v34, v35, v36, .slice none 0 0]
def LdN (w : World) (B : Nat) (v5 v6 : Value) : Prop := ∃ bs, bs.length = 3 /\ inbB w B bs /\ w.ownsRow B 44 2 v5 3 (inbC bs) /\ w.ownsRow B 44 2 v6 3 (inbC bs) /\ ∀ q, v5.ownBlock = some q -> v6.ownBlock ≠ some q
theorem LdN.next (h : LdN w B v5 v6) (hb : Below w.heap.size w w') : LdN w' B v5 v6 := by
 obtain ⟨bs, h1, h2, h3, h4, h5⟩ := h; exact ⟨bs, h1, fun b hm => ⟨(h2 b hm).1, (hb.block b (aj.1 (h2 b hm).2).1).trans (h2 b hm).2⟩, jX h3 hb, jX h4 hb, h5⟩
theorem LdN.mk {bs : List Nat} (hB : B' <= B) (h1 : bs.length = 3) (h2 : inbB w B bs) (h3 : w.ownsRow B 44 2 v5 3 (inbC bs)) (h4 : w.ownsRow B 44 2 v6 3 (inbC bs)) (h5 : ∀ q, v5.ownBlock = some q -> v6.ownBlock ≠ some q) : LdN w B' v5 v6 :=
 ⟨bs, h1, fun b hm => ⟨aN hB (h2 b hm).1, (h2 b hm).2⟩, jcL h3 hB, jcL h4 hB, h5⟩
def OwO (w : World) (B : Nat) (v : Value) : Prop := w.ownsRow B 123 1 v 3 [.slice none 0 0, .slice none 0 0, .slice none 0 0]
theorem OwO.new (hB : B <= w.heap.size) (hb : Below (w.alloc (.cells cur 123)).heap.size (w.alloc (.cells cur 123)) w') (hc : cur = #[.slice none 0 0, .slice none 0 0, .slice none 0 0]) : OwO w' B (.slice (some ⟨w.heap.size, 0, none⟩) 3 3) := by
 subst hc; exact jX ⟨rfl, .inr ⟨w.heap.size, 3, _, rfl, hB, az w _, by decide, by unfold maxLen; decide, rfl, rfl⟩⟩ hb
def OpnR (W : World) (p : Value) (wx : World) : Prop := ∃ (b : Nat) (v5 v6 v36 : Value), p = .pointer (some ⟨b, 0, none⟩) /\ RmB wx b (jfM v5 v6 (.slice none 0 0) (.slice none 0 0) v36) /\ W.heap.size <= b /\ Below W.heap.size W wx /\ LdN wx W.heap.size v5 v6 /\ OwO wx W.heap.size v36
theorem OpnR.mk (h : Below W.heap.size W w) (h1 : LdN w W.heap.size v5 v6) (h2 : OwO w W.heap.size v36) : OpnR W (.pointer (some ⟨w.heap.size, 0, none⟩)) (w.alloc (.cells (jfM v5 v6 (.slice none 0 0) (.slice none 0 0) v36).toArray 82)) :=
 ⟨w.heap.size, v5, v6, v36, rfl, ⟨az w _, rfl⟩, h.size, h.alloc h.size _, h1.next (nb0 _ _), jX h2 (nb0 _ _)⟩
theorem OpnR.mkA (h : Below W.heap.size W w2) (h1 : LdN w2 W.heap.size v5 v6) (hc : cur = #[.slice none 0 0, .slice none 0 0, .slice none 0 0]) : OpnR W (.pointer (some ⟨w2.heap.size + 1, 0, none⟩)) ((w2.alloc (.cells cur 123)).alloc (.cells (jfM v5 v6 (.slice none 0 0) (.slice none 0 0) (.slice (some ⟨w2.heap.size, 0, none⟩) 3 3)).toArray 82)) := by
 have := OpnR.mk (h.alloc h.size _) (h1.next ((ay _ _).alloc (ai _) (.cells cur 123))) (OwO.new h.size (ay _ _) hc)
 simpa using this
def ScsM (Q : Nat -> Prop) (w : World) (X : List Value) (Cs : List (List Cmd)) : Prop := X.length = Cs.length /\ ∀ (i : Nat) x, X[i]? = some x -> ∃ C a c, Cs[i]? = some C /\ x = .slice a C.length c /\ jcc a C.length c /\ CmdsM Q 5 w x C
theorem CmdsM.stpN {l : List Cmd} (h : CmdsM (AvN N b G) n w v l) (hs : Stp b G w G' w') : CmdsM (AvN N b G') n w' v l :=
 RowM.imp (CmdsM.stp h hs fun _ hq _ => hq.2) (fun _ hk => ⟨hk.1.1, hk.2⟩) (Keeps.refl _ _) fun _ _ hx => CmdM.imp (fun _ hk => ⟨hk.1.1, hk.2⟩) (Keeps.refl _ _) _ _ _ hx
theorem ScsM.stp (h : ScsM (AvN N b G) w X Cs) (hs : Stp b G w G' w') : ScsM (AvN N b G') w' X Cs := ⟨h.1, fun i x hx => by
 obtain ⟨C, a, c, h1, h2, h3, h4⟩ := h.2 i x hx; exact ⟨C, a, c, h1, h2, h3, h4.stpN hs⟩⟩
theorem ScsM.add (h : ScsM Q w X Cs) (hr : jcc a C.length c) (hC : CmdsM Q 5 w (.slice a C.length c) C) : ScsM Q w (X ++ [.slice a C.length c]) (Cs ++ [C]) := by
 refine ⟨by simp [h.1], fun i x hx => ?_⟩
 rcases bz i X.length with hi | hi
 . rw [bf hi] at hx; obtain ⟨D, a', c', h1, h2⟩ := h.2 i x hx; exact ⟨D, a', c', by rw [bf (by rw [<- h.1]; exact hi)]; exact h1, h2⟩
 . rw [bd hi] at hx; have h0 : i - X.length = 0 := by
    rcases Nat.eq_zero_or_pos (i - X.length) with e | e
    . exact e
    . rw [List.getElem?_eq_none (by simp; omega)] at hx; cases hx
   rw [h0] at hx; cases hx; exact ⟨C, a, c, by rw [bd (by rw [<- h.1]; exact hi), <- h.1, h0]; rfl, rfl, hr, hC⟩
def RoI (W1 : World) (B b : Nat) (v5 v6 v36 : Value) (L : List (List UInt8)) (Cs : List (List Cmd)) (w : World) : Prop :=
 ∃ v34 v35 X, RmB w b (jfM v5 v6 v34 v35 v36) /\ MOk w B b [locR v34 L, scrR v35 X] /\ ScsM (AvN W1.heap.size b (mB [locR v34 L, scrR v35 X])) w X Cs /\ Stp b [] W1 (mB [locR v34 L, scrR v35 X]) w
theorem RoI.next {W1 w w' : World} {B b : Nat} {v5 v6 v36 : Value} {L : List (List UInt8)} {Cs : List (List Cmd)} (h : RoI W1 B b v5 v6 v36 L Cs w) (hb : Below w.heap.size w w') : RoI W1 B b v5 v6 v36 L Cs w' := by
 obtain ⟨v34, v35, X, h1, h2, h3, h4⟩ := h; exact ⟨v34, v35, X, h1.next hb, h2.next hb, h3.stp (.of hb), h4.trans (.of hb)⟩
theorem RoI.start (h : RmB W1 b (jfM v5 v6 (.slice none 0 0) (.slice none 0 0) v36)) : RoI W1 B b v5 v6 v36 [] [] W1 :=
 ⟨_, _, [], h, ⟨fun r hr => by
  simp only [bV, bW, or_false] at hr
  rcases hr with rfl | rfl
  . exact aR _ _ _ _
  . exact aR _ _ _ _, by simp [mB, locR, scrR, Value.ownBlock], by simp [mB, locR, scrR, Value.ownBlock], (aj.1 h.1).1⟩, ⟨rfl, fun i x hx => by simp at hx⟩, by
  have h := Stp.refl b [] W1
  simpa [mB, locR, scrR, Value.ownBlock] using h⟩
theorem RoI.low (h : RoI W1 B b v5 v6 v36 L Cs w) (hB : B <= b) (hW : B <= W1.heap.size) : Below B W1 w := by
 obtain ⟨v34, v35, X, h1, h2, h3, h4⟩ := h; exact h4.below hB hW fun k hk => by cases hk
theorem RoI.take (h : RoI W1 B b v5 v6 v36 L Cs w) (hB : B <= b) (hL : L.length <= 10) (hC : Cs.length <= 10) (lo sc : List UInt8) (C : List Cmd) (hc : jP lo [120] = 0) (hl : lo.length <= 2000) (hm : L.contains lo = false)
 (r9 : ∀ v, Below w.heap.size w v -> Calls Tryz.prog 31 #[.string (S sc)] v (RdP v 5 (C, 0))) :
 Calls Tryz.prog 20 #[.pointer (some ⟨b, 0, none⟩), .agg #[.string (S lo), .string (S sc)]] w fun e w' => e = .returned (.int .i64 0) /\ RoI W1 B b v5 v6 v36 (L ++ [lo]) (Cs ++ [C]) w' := by
 obtain ⟨v34, v35, X, h1, h2, h3, h4⟩ := h; refine (jqq B b lo sc (jfM v5 v6 v34 v35 v36) L X v34 v35 w h1 rfl rfl h2 hB hL (by rw [h3.1]; exact hC) hc hl hm 5 C r9).mono ?_; rintro e w' ⟨he, u34, u35, a, c, k1, k2, k3, k4, k5⟩; have hz := h4.size; exact ⟨he, u34, u35, _, k1, k2, (h3.stp k5).add k3 (RowM.imp k4 (fun _ hk => ⟨aN hz hk.1, hk.2⟩) (Keeps.refl _ _) fun _ _ hx => CmdM.imp (fun _ hk => ⟨aN hz hk.1, hk.2⟩) (Keeps.refl _ _) _ _ _ hx), h4.trans k5⟩
theorem RoI.twice (h : RoI W1 B b v5 v6 v36 L Cs w) (hL : L.length <= 10) (lo sc : List UInt8) (hc : jP lo [120] = 0) (hl : lo.length <= 2000) (hm : L.contains lo = true) :
 Calls Tryz.prog 20 #[.pointer (some ⟨b, 0, none⟩), .agg #[.string (S lo), .string (S sc)]] w (AdE w 10) := by
 obtain ⟨v34, v35, X, h1, h2, h3, h4⟩ := h; have hX : TxtsM (fun _ => True) w v34 L := jan (f := fun l => .string (S l)) (h2.own (locR v34 L) (by simp)) (by unfold maxLen; omega) fun _ _ => trivial
 obtain ⟨al, cl, rfl⟩ := RowM.slice hX; exact jjU b lo sc _ L al cl v35 _ w h1 rfl rfl hX hc hl hm
def OpnQ (w : World) (f : Nat) (r : Int) (L : List (List UInt8)) (Cs : List (List Cmd)) (e : Ending) (w' : World) : Prop :=
 if f < 3 then OpE w r e w' else ∃ W1 b v5 v6 v36, e = .returned (.tuple #[.pointer (some ⟨b, 0, none⟩), .int .i64 0]) /\ RmB W1 b (jfM v5 v6 (.slice none 0 0) (.slice none 0 0) v36) /\ w.heap.size <= b /\ Below w.heap.size w W1 /\ LdN W1 w.heap.size v5 v6 /\ OwO W1 w.heap.size v36 /\ RoI W1 w.heap.size b v5 v6 v36 L Cs w'
def AdQ (f : Nat) (r : Int) (W1 : World) (B b : Nat) (v5 v6 v36 : Value) (L : List (List UInt8)) (Cs : List (List Cmd)) (k : Nat) (v : World) (e : Ending) (v' : World) : Prop :=
 if k < f then e = .returned (.int .i64 0) /\ RoI W1 B b v5 v6 v36 (L.take (k + 1)) (Cs.take (k + 1)) v' else AdE v r e v'
theorem AdQ.yes {v : World} {e : Ending} (h : AdQ f r W1 B b v5 v6 v36 L Cs k v e v') (hk : k < f) : e = .returned (.int .i64 0) /\ RoI W1 B b v5 v6 v36 (L.take (k + 1)) (Cs.take (k + 1)) v' := by
 unfold AdQ at h; rw [if_pos hk] at h; exact h
theorem AdQ.no {v : World} {e : Ending} (h : AdQ f r W1 B b v5 v6 v36 L Cs k v e v') (hk : ¬ k < f) : AdE v r e v' := by
 unfold AdQ at h; rw [if_neg hk] at h; exact h
set_option linter.unusedSimpArgs false in
theorem jnD (p : Nat) (l0 s0 l1 s1 l2 s2 : List UInt8) (Cs : List (List Cmd)) (f : Nat) (hf : f <= 3) (r : Int) (hr : r ≠ 0) (w : World) (hu : w.heap[p]? = some (.cells #[.string (S l0), .string (S s0), .string (S l1), .string (S s1), .string (S l2), .string (S s2)] 65))
 (hA : ∀ (k : Nat) (v W1 : World) (b : Nat) (v5 v6 v36 : Value), k < 3 -> k <= f -> Below w.heap.size w v -> w.heap.size <= b -> RoI W1 w.heap.size b v5 v6 v36 ([l0, l1, l2].take k) (Cs.take k) v ->
   Calls Tryz.prog 20 #[.pointer (some ⟨b, 0, none⟩), .agg #[.string (S ([l0, l1, l2].getD k [])), .string (S ([s0, s1, s2].getD k []))]] v (AdQ f r W1 w.heap.size b v5 v6 v36 [l0, l1, l2] Cs k v)) :
 Calls Tryz.prog 14 #[.slice (some ⟨p, 0, none⟩) 3 3] w (OpnQ w f r [l0, l1, l2] (Cs.take 3)) := by
 have HU := hid hu; have HA := hid hA; have tA := hid (fun v => jel 3 (by omega) v); obtain ⟨W, hW⟩ : ∃ W, W = w := ⟨_, rfl⟩; have na := hid hW; clear hu hA; go_enter Tryz.func14, Tryz.ntmps14; go_upto_region 3 with fail
 rw [<- hW]; clear hW
 go_cut [4] (fun q wx => OpnR W q wx)
 case first =>
  refine wp_region_held_drew (S := fun u => True) (by kernel_rfl) ?_ (fun hHeld => ?_)
  . trivial
  refine bG (i := 0) (v := ?v1) rfl (by kernel_rfl) (by kernel_rfl) (by kernel_rfl) (fun _ _ _ h => h) (Or.inl ⟨by rfl, ?hy1⟩) (by assumption) ?_
  case hy1 =>
   intro w hSw
   (try dsimp only at hSw)
   go_simp
   all_goals with_reducible rfl
  change wpAnyH _ _ _ _ _ _ _ (Act.put _ (some 16) _) _
  try simp only [Act.put, af, ah, ag]
  refine bG (i := 1) (v := ?v2) rfl (by kernel_rfl) (by kernel_rfl) (by kernel_rfl) (fun _ _ _ h => h) (Or.inl ⟨by rfl, ?hy2⟩) (by assumption) ?_
  case hy2 =>
   intro w hSw
   (try dsimp only at hSw)
   go_simp
   all_goals with_reducible rfl
  change wpAnyH _ _ _ _ _ _ _ (Act.put _ (some 17) _) _
  try simp only [Act.put, af, ah, ag]
  refine bG (i := 3) (v := ?v3) rfl (by kernel_rfl) (by kernel_rfl) (by kernel_rfl) (fun _ _ _ h => h) (Or.inl ⟨by rfl, ?hy3⟩) (by assumption) ?_
  case hy3 =>
   intro w hSw
   (try dsimp only at hSw)
   go_simp
   all_goals with_reducible rfl
  change wpAnyH _ _ _ _ _ _ _ (Act.put _ (some 19) _) _
  try simp only [Act.put, af, ah, ag]
  refine bG (i := 4) (v := ?v4) rfl (by kernel_rfl) (by kernel_rfl) (by kernel_rfl) (fun _ _ _ h => h) (Or.inl ⟨by rfl, ?hy4⟩) (by assumption) ?_
  case hy4 =>
   intro w hSw
   (try dsimp only at hSw)
   go_simp
   all_goals with_reducible rfl
  change wpAnyH _ _ _ _ _ _ _ (Act.put _ (some 20) _) _
  try simp only [Act.put, af, ah, ag]
  refine bH (rs := [2, 5]) (by kernel_rfl) (by simp) ?_; refine AllReadyH.cons rfl (fun K hK => ?_) ?_
  . skip
    go_simp
    refine (tA.out _).mono ?_; rintro e w2 ⟨bs, sa, ta, cs, ct, rfl, hbl, hI, gG, eL, pr, hb2⟩; have bY := hid (show Below W.heap.size W w2 from (show Below W.heap.size W _ from (by repeat (first | with_reducible exact ay _ _ | with_reducible refine Below.drew ?_ | with_reducible refine Below.alloc ?_ (by first | exact ai _ | simp) _ | exact ((ay _ W).drew.alloc (ai _) _)))).trans (hb2.mono (by first | exact ai _ | simp))); have eo := hid (LdN.mk (B' := W.heap.size) (by first | exact ai _ | simp) hbl hI gG eL pr); clear hI gG eL hb2 hbl pr; go_wp2_with fail; refine hK.out _ _ ?_ (fun hHeld => ?_)
    . trivial
    clear hK K
    try simp only [Act.put, af, ah, ag]
    refine bH (rs := [5]) (by kernel_rfl) (by simp) ?_; refine AllReadyH.cons rfl (fun K hK => ?_) AllReadyH.nil
    go_simp
    refine hK.out _ _ ?_ (fun hHeld => ?_)
    . trivial
    clear hK K
    try simp only [Act.put, af, ah, ag]
    refine bG (i := 6) (v := ?v5) rfl (by kernel_rfl) (by kernel_rfl) (by kernel_rfl) (fun _ _ _ h => h) (Or.inl ⟨by rfl, ?hy5⟩) (by assumption) ?_
    case hy5 =>
        intro w hSw
        (try dsimp only at hSw)
        go_simp
        all_goals with_reducible rfl
    change wpAnyH _ _ _ _ _ _ _ (Act.put _ (some 22) _) _
    try simp only [Act.put, af, ah, ag]
    refine bH (rs := [7]) (by kernel_rfl) (by simp) ?_; refine AllReadyH.cons rfl (fun K hK => ?_) AllReadyH.nil
    go_simp
    refine hK.out _ _ ?_ (fun hHeld => ?_)
    . trivial
    clear hK K
    try simp only [Act.put, af, ah, ag]
    refine bG (i := 8) (v := ?v6) rfl (by kernel_rfl) (by kernel_rfl) (by kernel_rfl) (fun _ _ _ h => h) (Or.inl ⟨by rfl, ?hy6⟩) (by assumption) ?_
    case hy6 =>
        intro w hSw
        (try dsimp only at hSw)
        go_simp
        all_goals with_reducible rfl
    change wpAnyH _ _ _ _ _ _ _ (Act.put _ (some 4) _) _
    try simp only [Act.put, af, ah, ag]
    refine wpAnyH_done (by kernel_rfl) ?_ _; go_wp2_with fail
    go_meet
    exact OpnR.mkA bY.out eo.out (by kernel_rfl)
  refine AllReadyH.cons rfl (fun K hK => ?_) AllReadyH.nil
  go_simp
  refine hK.out _ _ ?_ (fun hHeld => ?_)
  . trivial
  clear hK K
  try simp only [Act.put, af, ah, ag]
  refine bH (rs := [2]) (by kernel_rfl) (by simp) ?_; refine AllReadyH.cons rfl (fun K hK => ?_) AllReadyH.nil
  go_simp
  refine (tA.out _).mono ?_; rintro e w2 ⟨bs, sa, ta, cs, ct, rfl, hbl, hI, gG, eL, pr, hb2⟩; have bY := hid (show Below W.heap.size W w2 from (show Below W.heap.size W _ from (by repeat (first | with_reducible exact ay _ _ | with_reducible refine Below.drew ?_ | with_reducible refine Below.alloc ?_ (by first | exact ai _ | simp) _ | exact ((ay _ W).drew.alloc (ai _) _)))).trans (hb2.mono (by first | exact ai _ | simp))); have eo := hid (LdN.mk (B' := W.heap.size) (by first | exact ai _ | simp) hbl hI gG eL pr); have db := hid (OwO.new (w := W.drew) (B := W.heap.size) (ai _) hb2 (by kernel_rfl)); clear hI gG eL hb2 hbl pr; go_wp2_with fail; refine hK.out _ _ ?_ (fun hHeld => ?_)
  . trivial
  clear hK K
  try simp only [Act.put, af, ah, ag]
  refine bG (i := 6) (v := ?v7) rfl (by kernel_rfl) (by kernel_rfl) (by kernel_rfl) (fun _ _ _ h => h) (Or.inl ⟨by rfl, ?hy7⟩) (by assumption) ?_
  case hy7 =>
   intro w hSw
   (try dsimp only at hSw)
   go_simp
   all_goals with_reducible rfl
  change wpAnyH _ _ _ _ _ _ _ (Act.put _ (some 22) _) _
  try simp only [Act.put, af, ah, ag]
  refine bH (rs := [7]) (by kernel_rfl) (by simp) ?_; refine AllReadyH.cons rfl (fun K hK => ?_) AllReadyH.nil
  go_simp
  refine hK.out _ _ ?_ (fun hHeld => ?_)
  . trivial
  clear hK K
  try simp only [Act.put, af, ah, ag]
  refine bG (i := 8) (v := ?v8) rfl (by kernel_rfl) (by kernel_rfl) (by kernel_rfl) (fun _ _ _ h => h) (Or.inl ⟨by rfl, ?hy8⟩) (by assumption) ?_
  case hy8 =>
   intro w hSw
   (try dsimp only at hSw)
   go_simp
   all_goals with_reducible rfl
  change wpAnyH _ _ _ _ _ _ _ (Act.put _ (some 4) _) _
  try simp only [Act.put, af, ah, ag]
  refine wpAnyH_done (by kernel_rfl) ?_ _; go_wp2_with fail
  go_meet
  exact OpnR.mk bY.out eo.out db.out
 case rest =>
  obtain ⟨b, v5, v6, v36, hp, hR, om, ka, xU, xY⟩ := hcut; subst hp; obtain ⟨W1, rfl⟩ : ∃ W, W = wc := ⟨_, rfl⟩; obtain rfl := na.out; have iu := (ka.block p (aj.1 HU.out).1).trans HU.out; have Bj := hid (RoI.start (B := W.heap.size) hR); have tJ := hid hR; have ew := hid iu; have AU := hid xU; have A7 := hid xY; have gD := hid ka; clear hR ka iu tA xU xY; go_wp2
  go_loopw [26] (fun i wr => ∃ k : Nat, k <= 3 /\ k <= f /\ i = .int .i64 k /\ Hid (RoI W1 W.heap.size b v5 v6 v36 ([l0, l1, l2].take k) (Cs.take k) wr)) (fun i _ => 3 - (intOf i).toNat)
  case atStart => exact ⟨0, by omega, by omega, rfl, Bj⟩
  case round =>
   obtain ⟨k, hk3, sA, rfl, HI⟩ := hrel; have cX := hid (gD.out.trans (HI.out.low om gD.out.size)); have yV := (cX.out.block p (aj.1 HU.out).1).trans HU.out; obtain ⟨c0, c1, c2, c3, c4, c5⟩ := bx6 yV; have cu := hid (show ∀ o, Below wr.heap.size wr (wr.alloc o) from fun o => (ay _ _).alloc (ai _) o); clear yV; obtain rfl | rfl | rfl | rfl : k = 0 ∨ k = 1 ∨ k = 2 ∨ k = 3 := by omega
   . go_wp2_with fail; refine (HA.out 0 _ W1 b v5 v6 v36 (by omega) sA (cX.out.trans ((cu.out _).mono cX.out.size)) om (HI.out.next (cu.out _))).mono ?_; rintro e w2 hq; have HQ := hid hq; clear hq
     by_cases mq : 0 < f
     . obtain ⟨rfl, hI⟩ := HQ.out.yes mq; have iP := hid hI; clear hI HQ; go_wp2
       go_roundw
       case rel => exact ⟨1, by omega, by omega, rfl, iP⟩
       case measure => simp [intOf]
     . obtain ⟨rfl, hb2⟩ := HQ.out.no mq; have bY := hid (cX.out.trans (((cu.out _).trans (hb2.mono (cu.out _).size)).mono cX.out.size)); clear hb2 HQ; go_wp2; go_ret2; unfold OpnQ; rw [if_pos (by omega)]; exact ⟨rfl, bY.out⟩
   . go_wp2_with fail; refine (HA.out 1 _ W1 b v5 v6 v36 (by omega) sA (cX.out.trans ((cu.out _).mono cX.out.size)) om (HI.out.next (cu.out _))).mono ?_; rintro e w2 hq; have HQ := hid hq; clear hq
     by_cases mq : 1 < f
     . obtain ⟨rfl, hI⟩ := HQ.out.yes mq; have iP := hid hI; clear hI HQ; go_wp2
       go_roundw
       case rel => exact ⟨2, by omega, by omega, rfl, iP⟩
       case measure => simp [intOf]
     . obtain ⟨rfl, hb2⟩ := HQ.out.no mq; have bY := hid (cX.out.trans (((cu.out _).trans (hb2.mono (cu.out _).size)).mono cX.out.size)); clear hb2 HQ; go_wp2; go_ret2; unfold OpnQ; rw [if_pos (by omega)]; exact ⟨rfl, bY.out⟩
   . go_wp2_with fail; refine (HA.out 2 _ W1 b v5 v6 v36 (by omega) sA (cX.out.trans ((cu.out _).mono cX.out.size)) om (HI.out.next (cu.out _))).mono ?_; rintro e w2 hq; have HQ := hid hq; clear hq
     by_cases mq : 2 < f
     . obtain ⟨rfl, hI⟩ := HQ.out.yes mq; have iP := hid hI; clear hI HQ; go_wp2
       go_roundw
       case rel => exact ⟨3, by omega, by omega, rfl, iP⟩
       case measure => simp [intOf]
     . obtain ⟨rfl, hb2⟩ := HQ.out.no mq; have bY := hid (cX.out.trans (((cu.out _).trans (hb2.mono (cu.out _).size)).mono cX.out.size)); clear hb2 HQ; go_wp2; go_ret2; unfold OpnQ; rw [if_pos (by omega)]; exact ⟨rfl, bY.out⟩
   . go_wp2; go_ret2; obtain rfl : f = 3 := by omega
     unfold OpnQ; rw [if_neg (by omega)]; exact ⟨W1, b, v5, v6, v36, rfl, tJ.out, om, gD.out, AU.out, A7.out, HI.out⟩
def sesV (s : Ses) (v : Value) : Value := .agg #[.int .i64 s.step, .string (S s.frm.1), .string (S s.frm.2), v, .string (S s.text), .bool s.large]
def jba (v : Value) : Prop := ∀ a n c, v = .slice a n c -> n <= c
structure Fit (s : Ses) : Prop where
 one : s.frm.1.length <= 140737488355328
 two : s.frm.2.length <= 140737488355328
 txt : s.text.length <= 140737488355328
 lo : -9223372036854775808 <= s.step
 hi : s.step < 9223372036854775808
 tos : ∀ x ∈ s.to, x.1.length <= 140737488355328 /\ x.2.length <= 140737488355328
theorem jk0 (a : List UInt8) : (S a).toList.isEmpty = a.isEmpty := by rw [aW, ji]
theorem jo2 (x : Adr) (w : World) : (binOp .eql 73 (.agg #[.string (S x.1), .string (S x.2)]) (.agg #[.string ⟨#[]⟩, .string ⟨#[]⟩])).run Tryz.prog w = .ok (.bool (x.1.isEmpty && x.2.isEmpty)) w := by
 have h := jjT x ([], []) w; have e : decide (x = ([], [])) = (x.1.isEmpty && x.2.isEmpty) := by
  obtain ⟨a, b⟩ := x; cases a <;> cases b <;> simp
 rw [e] at h; exact h
theorem jjy (s : Ses) (v : Value) (w : World) (hf : Fit s) :
 Calls Tryz.prog 171 #[sesV s v] w fun e w' => e = .returned (.bool (zw s)) /\ Below w.heap.size w w' := by
 have bX := hid (show Below w.heap.size w (w.alloc (.cells #[.int .i64 s.step, .string (S s.frm.1), .string (S s.frm.2), v, .string (S s.text), .bool s.large] 76)) from nb0 _ _); have HC := hid (zM (S s.frm.1) (S s.frm.2) (w.alloc (.cells #[.int .i64 s.step, .string (S s.frm.1), .string (S s.frm.2), v, .string (S s.text), .bool s.large] 76)) (by rw [jb]; exact hf.one) (by rw [jb]; exact hf.two)); have HN := hid (jo2 s.frm); obtain ⟨k, hk⟩ : ∃ k, k = s.step := ⟨_, rfl⟩; unfold sesV; rw [<- hk] at bX HC ⊢
 by_cases h : s.step < 2 ∨ 4 < s.step
 . have HS := hid (show zw s = (s.frm.1.isEmpty && s.frm.2.isEmpty) by unfold zw; rw [if_pos h]); have eq1 := HN.out; rw [<- hk] at h; clear hk
   by_cases h2 : k < 2
   . clear h; go_enter Tryz.func171, Tryz.ntmps171; go_wp2; go_ret; exact ⟨jc HS.out.symm, bX.out⟩
   . have h4 : 4 < k := by omega
     clear h; go_enter Tryz.func171, Tryz.ntmps171; go_wp2; go_ret; exact ⟨jc HS.out.symm, bX.out⟩
 . have HS := hid (show zw s = qH s.frm by unfold zw; rw [if_neg h]); rw [<- hk] at h; have h2 : ¬ k < 2 := by omega
   have h4 : ¬ 4 < k := by omega
   clear h hk; go_enter Tryz.func171, Tryz.ntmps171; go_wp2_with fail; refine HC.out.mono ?_; rintro e u ⟨rfl, hb⟩; have HB := hid (jjL bX.out hb (ai _)); clear hb; go_wp2; go_ret; exact ⟨jc (by rw [HS.out, qH, ji, ji]; rfl), HB.out⟩
theorem jof (s : Ses) (v : Value) (w : World) :
 Calls Tryz.prog 173 #[sesV s v] w fun e w' => e = .returned (.bool (vX s)) /\ Below w.heap.size w w' := by
 have bX := hid (show Below w.heap.size w (w.alloc (.cells #[.int .i64 s.step, .string (S s.frm.1), .string (S s.frm.2), v, .string (S s.text), .bool s.large] 76)) from nb0 _ _); obtain ⟨k, hk⟩ : ∃ k, k = s.step := ⟨_, rfl⟩; obtain ⟨g, hg⟩ : ∃ g, g = s.large := ⟨_, rfl⟩; unfold sesV; rw [<- hk, <- hg] at bX ⊢; have HZ := hid (jb s.text)
 by_cases h : s.step = 4
 . have HS := hid (show vX s = decide (s.text.length <= 2000) by unfold vX; rw [if_pos h]); rw [<- hk] at h; subst h; clear hk hg; go_enter Tryz.func173, Tryz.ntmps173; go_wp2; go_ret; exact ⟨jc (by rw [HS.out, HZ.out]; simp; omega), bX.out⟩
 . have HS := hid (show vX s = (s.text.isEmpty && !g) by unfold vX; rw [if_neg h, hg]); have hi := jk0 s.text; rw [<- hk] at h; clear hk hg; cases hx : s.text.isEmpty with
   | true =>
     rw [hx] at hi HS; have uW : (S s.text).toList = [] := List.isEmpty_iff.1 hi; clear hx; go_enter Tryz.func173, Tryz.ntmps173; go_wp2; go_ret; exact ⟨jc (by rw [HS.out]; simp), bX.out⟩
   | false =>
     rw [hx] at hi HS; have uW : ¬ (S s.text).toList = [] := fun e => by rw [e] at hi; cases hi
     clear hx; go_enter Tryz.func173, Tryz.ntmps173; go_wp2; go_ret; exact ⟨jc (by rw [HS.out]; simp), bX.out⟩
theorem qb {v2 v3 v4 : Value} (h : w.heap[b]? = some (.cells #[v0, v1, v2, v3, v4, v5] t)) :
 w.cell? ⟨b, 0, none⟩ = some v0 /\ w.cell? ⟨b, 1, none⟩ = some v1 /\ w.cell? ⟨b, 2, none⟩ = some v2 /\ w.cell? ⟨b, 3, none⟩ = some v3 /\ w.cell? ⟨b, 4, none⟩ = some v4 /\ w.cell? ⟨b, 5, none⟩ = some v5 := by
 simp [World.cell?, h]
theorem qU (h : w.heap[b]? = some (.cells #[v0, v1] t)) : w.cell? ⟨b, 0, none⟩ = some v0 /\ w.cell? ⟨b, 1, none⟩ = some v1 := by
 simp [World.cell?, h]
theorem ja3 (l d : List UInt8) : jP l d = 0 ∨ jP l d = 1 ∨ jP l d = 3 := by
 unfold jP; split
 . simp
 . split <;> simp
theorem jkB (Q : Nat -> Prop) (s : Ses) (v : Value) (w : World) (hf : Fit s) (hv : jba v) (ha : AdrsM Q w v s.to) :
 Calls Tryz.prog 172 #[sesV s v] w fun e w' => e = .returned (.bool (qi s)) /\ Below w.heap.size w w' := by
 obtain ⟨a, c, rfl⟩ : ∃ a c, v = .slice a s.to.length c := by obtain ⟨a, c, h, _⟩ := ha; exact ⟨a, c, h⟩
 have hm : s.to.length <= maxLen := by obtain ⟨_, _, _, hm, _⟩ := ha; exact hm
 unfold maxLen at hm; have gp : s.to.length <= c := hv _ _ _ rfl; clear hv; obtain ⟨W1, hW1⟩ : ∃ W1, W1 = w.alloc (.cells #[.int .i64 s.step, .string (S s.frm.1), .string (S s.frm.2), .slice a s.to.length c, .string (S s.text), .bool s.large] 76) := ⟨_, rfl⟩; have b9 := hid hW1; have b8 : Below w.heap.size w W1 := by rw [hW1]; exact nb0 _ _
 have bX := hid b8; have hX : W1.heap[w.heap.size]? = some (.cells #[.int .i64 s.step, .string (S s.frm.1), .string (S s.frm.2), .slice a s.to.length c, .string (S s.text), .bool s.large] 76) := by rw [hW1]; exact az w _
 obtain ⟨x0, _, _, x3, _, _⟩ := qb hX; have HA := hid (ha.next b8); have HF := hid hf.tos; clear ha b8 hW1 hX hf; unfold sesV; obtain ⟨k, hk⟩ : ∃ k, k = s.step := ⟨_, rfl⟩; obtain ⟨r, hr⟩ : ∃ r, r = qi s := ⟨_, rfl⟩; have fL := hr; unfold qi at fL; rw [<- hr]; rw [<- hk] at b9 x0 fL ⊢; clear hr hk
 by_cases h : k < 3 ∨ 4 < k
 . rw [if_pos h] at fL; have HR := hid (show r = decide ((s.to.length : Int) = 0) by rw [fL]; cases s.to <;> simp <;> omega); clear fL
   by_cases h3 : k < 3
   . clear h; go_enter Tryz.func172, Tryz.ntmps172; go_wp2_with fail; rw [<- b9.out]; go_wp2; go_ret; exact ⟨jc (by rw [HR.out]; rfl), bX.out⟩
   . have h4 : 4 < k := by omega
     clear h; go_enter Tryz.func172, Tryz.ntmps172; go_wp2_with fail; rw [<- b9.out]; go_wp2; go_ret; exact ⟨jc (by rw [HR.out]; rfl), bX.out⟩
 . rw [if_neg h] at fL; have h3 : ¬ k < 3 := by omega
   have h4 : ¬ 4 < k := by omega
   clear h
   by_cases n1 : (s.to.length : Int) < 1
   . have HR := hid (show r = false by rw [fL]; simp; omega); clear fL; go_enter Tryz.func172, Tryz.ntmps172; go_wp2_with fail; rw [<- b9.out]; go_wp2; go_ret; exact ⟨jc HR.out.symm, bX.out⟩
   by_cases n5 : 5 < (s.to.length : Int)
   . have HR := hid (show r = false by rw [fL]; simp; omega); clear fL; go_enter Tryz.func172, Tryz.ntmps172; go_wp2_with fail; rw [<- b9.out]; go_wp2; go_ret; exact ⟨jc HR.out.symm, bX.out⟩
   have HR := hid (show r = ja4 (s.to.take 0) (s.to.drop 0) by
    rw [fL, show decide (1 <= s.to.length) = true by simp; omega, show decide (s.to.length <= 5) = true by simp; omega]; rfl)
   clear fL; go_enter Tryz.func172, Tryz.ntmps172; go_wp2_with fail; rw [<- b9.out]; go_wp2
   go_loopw [30] (fun v wr => ∃ i : Nat, i <= s.to.length /\ v = .int .i64 i /\ Hid (Below W1.heap.size W1 wr) /\ Hid (r = ja4 (s.to.take i) (s.to.drop i))) (fun v _ => s.to.length - (intOf v).toNat)
   case atStart => exact ⟨0, aQ _, rfl, ay _ _, HR⟩
   case round =>
    obtain ⟨i, hi, rfl, HB, HI⟩ := hrel; have y3 := ja x3 HB.out
    by_cases hlt : i < s.to.length
    . have i1 : (i : Int) < (s.to.length : Int) := by omega
      have i0 : (0 : Int) <= (i : Int) := by omega
      obtain ⟨x, hx⟩ : ∃ x, s.to[i]? = some x := ⟨_, aw hlt⟩; have uf := HA.out.next HB.out; have i2 : (i : Int) <= (c : Int) := by omega
      obtain ⟨p, o, rfl, _, _, e0, e1⟩ := jdQ uf hx; obtain ⟨W2, hW2⟩ : ∃ W2, W2 = wr.alloc (.cells #[.string (S x.1), .string (S x.2)] 73) := ⟨_, rfl⟩; have eB := hid hW2; have b7 : Below wr.heap.size wr W2 := by rw [hW2]; exact nb0 _ _
      obtain ⟨m0, m1⟩ := qU (show W2.heap[wr.heap.size]? = some (.cells #[.string (S x.1), .string (S x.2)] 73) by rw [hW2]; exact az wr _); have z3 := ja y3 b7; have uR := HF.out x (aF hx); have rF := hid (jiz hx); have gU := hid (fun u => zM (S x.1) (S x.2) u (by rw [jb]; exact uR.1) (by rw [jb]; exact uR.2)); have hlen : (s.to.take i).length = i := by rw [bp]; omega
      have kL := hid (fun u (hu : Below W2.heap.size W2 u) => by
       have := jbg Q (s.to.take i) x (some ⟨p, o, none⟩) c u (by rw [hlen]; exact RowM.takeR ((uf.next b7).next hu) i c (by omega)); rw [hlen] at this; exact this)
      have bZ := hid (show Below W1.heap.size W1 W2 from HB.out.trans (b7.mono HB.out.size)); have HAD := hid (show qH x = decide (jP (S x.1).data.toList (S x.2).data.toList = 0) by rw [ji, ji]; rfl); obtain ⟨z, hz⟩ : ∃ z, z = jP (S x.1).data.toList (S x.2).data.toList := ⟨_, rfl⟩; have gF := hid (ja3 (S x.1).data.toList (S x.2).data.toList); rw [<- hz] at gU HAD gF; clear hW2 b7 uf hlen hx uR hz; go_wp2; rw [<- eB.out]
      by_cases hz : z = 0
      . subst hz; have nT := hid (show qH x = true by rw [HAD.out]; rfl); obtain ⟨q, hq⟩ : ∃ q, q = (s.to.take i).contains x := ⟨_, rfl⟩; rw [<- hq] at kL rF; clear hq
        go_cut [45] (fun c wx => c = .bool q /\ Below W2.heap.size W2 wx)
        case first =>
            go_region_held3 (fun w' => w'.cell? ⟨wr.heap.size, 0, none⟩ = some (.string (S x.1)) /\ w'.cell? ⟨wr.heap.size, 1, none⟩ = some (.string (S x.2)) /\ w'.cell? ⟨w.heap.size, 3, none⟩ = some (.slice (some ⟨p, o, none⟩) s.to.length c)) (go_keep)
             (first
               | (go_at_call 178
                  with_reducible refine (kL.out _ ch.out).mono ?_
                  rintro e w4 ⟨rfl, hb⟩; have dh := hid (ch.out.trans (hb.mono ch.out.size)); have q0 := ja k0 hb; have q1 := ja k1 hb; have q3 := ja k3 hb; clear hb)
               | (go_at_call 29
                  with_reducible refine (gU.out W2.drew).mono ?_
                  rintro e w3 ⟨rfl, hb⟩; have hb2 : Below W2.heap.size W2 w3 := (ay _ _).drew.trans hb; have ch := hid hb2; have k0 := ja m0 hb2; have k1 := ja m1 hb2; have k3 := ja z3 hb2; clear hb hb2)
               | fail)
            all_goals
             go_wp2_with fail
             go_meet
             exact ⟨by first | rfl | simp, dh.out⟩
        case rest =>
            obtain ⟨rfl, hb⟩ := hcut; have dX := hid (show Below W1.heap.size W1 wc from bZ.out.trans (hb.mono bZ.out.size)); have nJ := hid (bX.out.trans (dX.out.mono bX.out.size)); clear hb; cases q with
            | true =>
              have HE := hid (show r = false by rw [HI.out, rF.out, nT.out]; rfl); go_wp2; go_ret; exact ⟨jc HE.out.symm, nJ.out⟩
            | false =>
              have HE := hid (show r = ja4 (s.to.take (i + 1)) (s.to.drop (i + 1)) by rw [HI.out, rF.out, nT.out]; rfl); go_wp2
              go_roundw
              case rel => first | exact ⟨i + 1, by omega, by go_num, dX, HE⟩ | ((repeat apply Exists.intro); exact ⟨⟨i + 1, by omega, by go_num, dX, HE⟩, rfl⟩) | (refine ⟨trivial, ?_⟩; (repeat apply Exists.intro); exact ⟨⟨i + 1, by omega, by go_num, dX, HE⟩, rfl⟩)
              case measure => simp [intOf]; omega
      . have HE := hid (show r = false by rw [HI.out, rF.out, HAD.out]; simp [hz]); have hz3 : z = 1 ∨ z = 3 := by
            rcases gF.out with h | h | h
            . exact absurd h hz
            . exact .inl h
            . exact .inr h
        clear hz; have s7 := hid (show ∀ u, Below W2.drew.heap.size W2.drew u -> Below w.heap.size w u from fun u hu => by
            have h1 : Below W2.heap.size W2 u := ((ay _ _).drew).trans hu; have h2 : Below W1.heap.size W1 u := bZ.out.trans (h1.mono bZ.out.size); exact bX.out.trans (h2.mono bX.out.size))
        rcases hz3 with rfl | rfl
        all_goals
            first
             | go_region_law
                (first
                  | (go_simp
                     go_at_call 29
                     refine (gU.out _).mono ?_; rintro e w3 ⟨rfl, hb⟩; have ch := hid (s7.out w3 hb); clear hb)
                  | fail)
             | fail
            all_goals
             go_wp2; go_ret; exact ⟨jc HE.out.symm, ch.out⟩
    . have i1 : ¬ (i : Int) < (s.to.length : Int) := by omega
      have HE := hid (show r = true by rw [HI.out, aZ (by omega)]; rfl); have nJ := hid (bX.out.trans (HB.out.mono bX.out.size)); go_wp2; go_ret; exact ⟨jc HE.out.symm, nJ.out⟩
theorem jn0 (Q : Nat -> Prop) (s : Ses) (v : Value) (w : World) (hf : Fit s) (hv : jba v) (ha : AdrsM Q w v s.to) :
 Calls Tryz.prog 128 #[sesV s v] w fun e w' => e = .returned (.bool (mayS s)) /\ Below w.heap.size w w' := by
 obtain ⟨W1, hW1⟩ : ∃ W1, W1 = w.alloc (.cells #[.int .i64 s.step, .string (S s.frm.1), .string (S s.frm.2), v, .string (S s.text), .bool s.large] 76) := ⟨_, rfl⟩; have b9 := hid hW1; have b8 : Below w.heap.size w W1 := by rw [hW1]; exact nb0 _ _
 have bX := hid b8; have hX : W1.heap[w.heap.size]? = some (.cells #[.int .i64 s.step, .string (S s.frm.1), .string (S s.frm.2), v, .string (S s.text), .bool s.large] 76) := by rw [hW1]; exact az w _
 have HX := hid hX; have gW := hid (jjy s v W1 hf); have cJ := hid (fun u (hu : Below W1.heap.size W1 u) => jkB Q s v u hf hv ((ha.next b8).next hu)); have dv := hid (fun u => jof s v u); obtain ⟨x0, x1, x2, x3, x4, x5⟩ := qb hX; have HR := hid (show mayS s = (decide (0 <= s.step) && decide (s.step <= 5) && (zw s && qi s && vX s)) from rfl); obtain ⟨r, hr⟩ : ∃ r, r = mayS s := ⟨_, rfl⟩; obtain ⟨p1, my⟩ : ∃ p1, p1 = zw s := ⟨_, rfl⟩; obtain ⟨p2, mz⟩ : ∃ p2, p2 = qi s := ⟨_, rfl⟩; obtain ⟨p3, pW⟩ : ∃ p3, p3 = vX s := ⟨_, rfl⟩; rw [<- hr] at HR ⊢; rw [<- my] at HR gW; rw [<- mz] at HR cJ; rw [<- pW] at HR dv; clear hr my mz pW ha b8 hW1 hX hf hv; unfold sesV at gW cJ dv ⊢; obtain ⟨k, hk⟩ : ∃ k, k = s.step := ⟨_, rfl⟩; rw [<- hk] at b9 HX gW cJ dv HR x0 ⊢; clear hk
 by_cases h0 : k < 0
 . have HE := hid (show r = false by rw [HR.out, show decide (0 <= k) = false by simp; omega]; rfl); go_enter Tryz.func128, Tryz.ntmps128; go_wp2_with fail; rw [<- b9.out]; go_wp2; go_ret; exact ⟨jc HE.out.symm, bX.out⟩
 by_cases h5 : 5 < k
 . have HE := hid (show r = false by rw [HR.out, show decide (k <= 5) = false by simp; omega]; simp); go_enter Tryz.func128, Tryz.ntmps128; go_wp2_with fail; rw [<- b9.out]; go_wp2; go_ret; exact ⟨jc HE.out.symm, bX.out⟩
 have HE := hid (show r = (p1 && p2 && p3) by rw [HR.out, show decide (0 <= k) = true by simp; omega, show decide (k <= 5) = true by simp; omega]; rfl); clear HR; go_enter Tryz.func128, Tryz.ntmps128; go_wp2_with fail; rw [<- b9.out]; go_wp2_with fail; refine gW.out.mono ?_; rintro e w2 ⟨rfl, hb2⟩; have y0 := ja x0 hb2; have y1 := ja x1 hb2; have y2 := ja x2 hb2; have y3 := ja x3 hb2; have y4 := ja x4 hb2; have y5 := ja x5 hb2; have bY := hid (bX.out.trans (hb2.mono bX.out.size)); have fZ := hid (cJ.out w2 hb2); cases p1 with
 | false =>
   clear hb2; go_wp2; go_ret; exact ⟨jc (by rw [HE.out]; rfl), bY.out⟩
 | true =>
   have mI := hid hb2; clear hb2; go_wp2_with fail; refine fZ.out.mono ?_; rintro e w3 ⟨rfl, hb3⟩; have z0 := ja y0 hb3; have z1 := ja y1 hb3; have z2 := ja y2 hb3; have z3 := ja y3 hb3; have z4 := ja y4 hb3; have z5 := ja y5 hb3; have bZ := hid (bY.out.trans (hb3.mono bY.out.size)); clear hb3; cases p2 with
   | false =>
     go_wp2; go_ret; exact ⟨jc (by rw [HE.out]; rfl), bZ.out⟩
   | true =>
     go_wp2_with fail; refine (dv.out w3).mono ?_; rintro e w4 ⟨rfl, hb4⟩; have ch := hid (bZ.out.trans (hb4.mono bZ.out.size)); clear hb4; go_wp2; go_ret; exact ⟨jc (by rw [HE.out]; rfl), ch.out⟩
theorem jgN (Q : Nat -> Prop) (s : Ses) (v : Value) (w : World) (hf : Fit s) (hv : jba v) (ha : AdrsM Q w v s.to) :
 Calls Tryz.prog 83 #[sesV s v] w fun e w' => e = .returned (.int .i64 (if mayS s = true then 0 else 11)) /\ Below w.heap.size w w' := by
 have bX := hid (show Below w.heap.size w (w.alloc (.cells #[.int .i64 s.step, .string (S s.frm.1), .string (S s.frm.2), v, .string (S s.text), .bool s.large] 76)) from nb0 _ _); have HM := hid (jn0 Q s v _ hf hv (ha.next bX.out)); clear hf hv ha; obtain ⟨r, hr⟩ : ∃ r, r = mayS s := ⟨_, rfl⟩; rw [<- hr] at HM ⊢; clear hr; unfold sesV at HM ⊢; cases r with
 | true =>
   go_enter Tryz.func83, Tryz.ntmps83; go_wp2_with fail; refine HM.out.mono ?_; rintro e w2 ⟨rfl, hb⟩; have HB := hid (jjL bX.out hb (ai _)); clear hb; go_wp2; go_ret; exact ⟨rfl, HB.out⟩
 | false =>
   go_enter Tryz.func83, Tryz.ntmps83; go_wp2_with fail; refine HM.out.mono ?_; rintro e w2 ⟨rfl, hb⟩; have HB := hid (jjL bX.out hb (ai _)); clear hb; go_wp2; go_ret; exact ⟨rfl, HB.out⟩
theorem bhid {p : Prop} (h : p) : Hid p := h
theorem ja1 {P : Program} {z : Value} {s : Nat} (h : (P.info? t).map (fun i => (i.zero, i.size, i.bytes)) = some (some z, s, b)) : ∃ i, P.info? t = some i /\ i.zero = some z /\ i.size = s /\ i.bytes = b := by
 cases hi : P.info? t with
 | none => rw [hi] at h; cases h
 | some i =>
   rw [hi] at h; simp only [Option.map_some, aS, Prod.mk.injEq] at h; exact ⟨i, rfl, h.1, h.2.1, h.2.2⟩
theorem jkK : (Tryz.prog.info? 5).map (fun i => (i.zero, i.size, i.bytes)) = some (some (.int .u8 0), 1, 1) := by kernel_rfl
def byC (l : List UInt8) : List Value := l.map fun c => .int .u8 c.toNat
theorem jj3 (l r : List UInt8) : byC (l ++ r) = byC l ++ byC r := bK
theorem jpb (l : List UInt8) : (byC l).length = l.length := bI _
theorem jpc (l : List UInt8) : ∀ u ∈ byC l, u.oneCell' = true := by
 intro u hu; obtain ⟨c, _, rfl⟩ := bE.1 hu; rfl
theorem jpd (l : List UInt8) : Lib.strCells (S l) = byC l := by
 unfold Lib.strCells byC; rw [show (S l).data.toList = l from ji l]
def BysM (Q : Nat -> Prop) (w : World) (v : Value) (l : List UInt8) : Prop :=
 ∃ a c, v = .slice a l.length c /\ l.length <= c /\ l.length <= maxLen /\ ∀ (j : Nat) (x : UInt8), l[j]? = some x -> ∃ b o, a = some ⟨b, o, none⟩ /\ Q b /\ w.cell? ⟨b, o + j, none⟩ = some (.int .u8 x.toNat)
theorem BysM.nil (Q : Nat -> Prop) (w : World) (a : Option Addr) (c : Nat) : BysM Q w (.slice a 0 c) [] := ⟨a, c, rfl, aQ _, aQ _, fun j x h => by simp at h⟩
theorem BysM.imp {Q' : Nat -> Prop} (h : BysM Q w v l) (hq : ∀ b, Q b -> Q' b) (hk : ∀ b, b < w.heap.size -> Q b -> w'.heap[b]? = w.heap[b]?) : BysM Q' w' v l := by
 obtain ⟨a, c, h1, h2, h3, h4⟩ := h; refine ⟨a, c, h1, h2, h3, fun j x hx => ?_⟩; obtain ⟨b, o, e, q, hc⟩ := h4 j x hx; exact ⟨b, o, e, hq b q, (aP (w := w) (hk b (aG w _ hc) q)).trans hc⟩
theorem BysM.next (h : BysM Q w v l) (hb : Below w.heap.size w w') : BysM Q w' v l := h.imp (fun _ h => h) fun b hlt _ => hb.block b hlt
theorem BysM.slice (h : BysM Q w v l) : ∃ a c, v = .slice a l.length c /\ l.length <= c /\ l.length <= maxLen := by
 obtain ⟨a, c, h1, h2, h3, _⟩ := h; exact ⟨a, c, h1, h2, h3⟩
theorem BysM.at (h : BysM Q w (.slice a n c) l) {x : UInt8} (hx : l[j]? = some x) : ∃ b o, a = some ⟨b, o, none⟩ /\ Q b /\ w.cell? ⟨b, o + j, none⟩ = some (.int .u8 x.toNat) := by
 obtain ⟨a', c', h1, _, _, h4⟩ := h; simp only [aE] at h1; obtain ⟨rfl, _, rfl⟩ := h1; exact h4 j x hx
theorem BysM.take {Q : Nat -> Prop} {w : World} {a : Option Addr} {n c : Nat} {l : List UInt8} (h : BysM Q w (.slice a n c) l) {k : Nat} (hk : k <= l.length) : BysM Q w (.slice a k c) (l.take k) := by
 obtain ⟨a', c', h1, h2, h3, h4⟩ := h; simp only [aE] at h1; obtain ⟨rfl, _, rfl⟩ := h1; have hl : (l.take k).length = k := by rw [bp]; omega
 refine ⟨a, c, by rw [hl], by omega, by omega, fun j x hx => ?_⟩; have hj : j < k := by have := (au.1 hx).1; omega
 exact h4 j x (by rw [List.getElem?_take_of_lt hj] at hx; exact hx)
theorem BysM.drop {Q : Nat -> Prop} {w : World} {a : Addr} {n c : Nat} {l : List UInt8} (h : BysM Q w (.slice (some a) n c) l) {k : Nat} (hk : k <= l.length) : BysM Q w (.slice (some (a.add k)) (l.length - k) (c - k)) (l.drop k) := by
 obtain ⟨a', c', h1, h2, h3, h4⟩ := h; simp only [aE] at h1; obtain ⟨rfl, _, rfl⟩ := h1; have hl : (l.drop k).length = l.length - k := by simp
 refine ⟨_, _, by rw [hl], by omega, by omega, fun j x hx => ?_⟩; rw [List.getElem?_drop] at hx; obtain ⟨b, o, e, q, hc⟩ := h4 _ x hx; simp only [aS] at e; subst e; exact ⟨b, o + k, by rw [bg], q, by rw [Nat.add_assoc]; exact hc⟩
theorem jlq (h : w.ownsRow B 5 1 v n (byC l)) (hn : n = l.length) (hm : n <= maxLen) (hQ : ∀ g, v.ownBlock = some g -> Q g) : BysM Q w v l := by
 subst hn
 rcases h.2 with ⟨rfl, h0⟩ | ⟨g, cap, cur, rfl, hb, hg, h1, h2, h3, ht⟩
 . have : l = [] := bh.1 h0; subst this; exact BysM.nil _ _ _ _
 . refine ⟨some ⟨g, 0, none⟩, cap, rfl, h1, hm, fun j x hx => ⟨g, 0, rfl, hQ g rfl, ?_⟩⟩; have := bD h (g := g) rfl j (.int .u8 x.toNat) (by unfold byC; rw [ba, hx]; rfl); rw [bg] at this; exact this
theorem jhy (h : w.ownsRow B e k v n xs) : ∃ a c, v = .slice a n c /\ n <= c := by
 rcases h.2 with ⟨rfl, h0⟩ | ⟨g, cap, cur, rfl, hb, hg, h1, _⟩
 . exact ⟨none, 0, by rw [h0], by omega⟩
 . exact ⟨_, _, rfl, h1⟩
theorem jjw (hown : w.ownsRow base 5 1 v n xs) (hs : BysM Q w (.slice a m c) l)
 (h63 : n + m <= maxLen) (hbytes : n + m <= 140737488355328) (hbase : base <= w.heap.size) :
 ∃ v' w', (Builtin.append_ #[66, 66] ty #[v, .slice a m c]).run Tryz.prog w = .ok v' w' /\ w'.ownsRow base 5 1 v' (n + m) (xs ++ byC l) /\ w.grownBy w' v.ownBlock /\ (∀ k, v'.ownBlock = some k -> v.ownBlock = some k ∨ w.heap.size <= k) := by
 obtain ⟨i0, hi, hz0, hz1, hz2⟩ := ja1 jkK; obtain ⟨a', c', h1, h2, h3, h4⟩ := hs; simp only [aE] at h1; obtain ⟨rfl, rfl, rfl⟩ := h1; cases a with
 | none =>
   have : l = [] := by
    cases l with
    | nil => rfl
    | cons x l => obtain ⟨b, o, e, _⟩ := h4 0 x rfl; cases e
   subst this; refine ⟨v, w, ?_, by simpa [byC] using hown, ⟨rfl, rfl, rfl, ai _, fun _ _ _ => rfl⟩, fun k hk => .inl hk⟩
   rcases hown.2 with ⟨rfl, rfl⟩ | ⟨g, cap, cur, rfl, hbg, hg, pT, hcm, hcs, eU⟩
   . simp [Builtin.append_, run_underlying Tryz.underlying66, sizeOf, typeInfo, hi, Builtin.lenOf, Builtin.firstCells]
   . simp [Builtin.append_, run_underlying Tryz.underlying66, sizeOf, typeInfo, hi, Builtin.lenOf, Builtin.firstCells, storeCells, pT]
 | some a =>
   by_cases h0 : l.length = 0
   . have : l = [] := bh.1 h0; subst this; refine ⟨v, w, ?_, by simpa [byC] using hown, ⟨rfl, rfl, rfl, ai _, fun _ _ _ => rfl⟩, fun k hk => .inl hk⟩
     rcases hown.2 with ⟨rfl, rfl⟩ | ⟨g, cap, cur, rfl, hbg, hg, pT, hcm, hcs, eU⟩
     . simp [Builtin.append_, run_underlying Tryz.underlying66, sizeOf, typeInfo, hi, Builtin.lenOf, Builtin.firstCells, loadCells, loadCellsFrom]
     . simp [Builtin.append_, run_underlying Tryz.underlying66, sizeOf, typeInfo, hi, Builtin.lenOf, Builtin.firstCells, loadCells, loadCellsFrom, storeCells, pT]
   . obtain ⟨g, cap, w', hr, q1, q2, q3, _⟩ := run_append_lies (P := Tryz.prog) w 66 ty base 5 i0 (.int .u8 0) 1 1 Tryz.underlying66 hi hz0 hz1 hz2 rfl (by decide) v n xs hown a l.length c (byC l) (by rw [jpb]; omega) (fun j u hj => by
        unfold byC at hj; rw [ba] at hj; cases hx : l[j]? with
        | none => rw [hx] at hj; cases hj
        | some x =>
          rw [hx] at hj; simp only [Option.map_some, aS] at hj; subst hj; obtain ⟨b, o, e, _, hc⟩ := h4 j x hx; cases e; rw [bg]; exact hc) (jpc l) (by omega) h63 (by omega) hbase w.heap.size rfl
     refine ⟨_, w', hr, q1, q2, fun k hk => ?_⟩; simp only [Value.ownBlock, aS] at hk; subst hk
     rcases q3 with q | q
     . exact .inl q
     . exact .inr (by omega)
theorem jbF {Q0 : Nat -> Prop} {ad : Option Addr} {ops : Array Oper} {rest : List Oper} {o : Oper} {a : Act} {Q : Exit -> Act -> World -> Prop} (hgd : o.guard = none) (s x : Operand)
 (ho : o.op = .call { callee := .builtin .append, args := #[s, x], argTypes := #[66, 66] }) (hs : a.eval s = v) (hown : w.ownsRow base 5 1 v n xs) (hx : a.eval x = .slice ad m c) (wB : BysM Q0 w (.slice ad m c) l)
 (h63 : n + m <= maxLen) (hbytes : n + m <= 140737488355328) (hbase : base <= w.heap.size)
 (h : ∀ a' c' w', w'.ownsRow base 5 1 (.slice a' (n + m) c') (n + m) (xs ++ byC l) -> w.grownBy w' v.ownBlock -> (∀ k, (Value.slice a' (n + m) c').ownBlock = some k -> v.ownBlock = some k ∨ w.heap.size <= k) -> wpList Tryz.prog ops Q rest (a.put o.dst (.slice a' (n + m) c')) w') : wpList Tryz.prog ops Q (o :: rest) a w := by
 refine wpList_plain hgd fun K hK => ?_
 obtain ⟨v', w', hr, h2, h3, h4⟩ := jjw (ty := o.type) hown wB h63 hbytes hbase; obtain ⟨a', c', rfl, _⟩ := jhy h2; unfold Oper.wp execOp; simp only [ho, resolve, invoke, builtin, Sem.run_bind, Sem.run_pure, Result.andThen_ok, List.map_toArray, List.map_cons, List.map_nil, hs, hx, hr]; exact hK _ _ (h a' c' w' h2 h3 h4)
theorem jg5 (hown : w.ownsRow base 5 1 v n xs)
 (h63 : n + l.length <= maxLen) (hbytes : n + l.length <= 140737488355328) (hbase : base <= w.heap.size) :
 ∃ v' w', (Builtin.append_ #[66, 9] ty #[v, .string (S l)]).run Tryz.prog w = .ok v' w' /\ w'.ownsRow base 5 1 v' (n + l.length) (xs ++ byC l) /\ w.grownBy w' v.ownBlock /\ (∀ k, v'.ownBlock = some k -> v.ownBlock = some k ∨ w.heap.size <= k) := by
 obtain ⟨i0, hi, hz0, hz1, hz2⟩ := ja1 jkK; obtain ⟨v', w', hr, h2, h3, h4⟩ := Lib.run_append_own_string (P := Tryz.prog) w base 66 9 ty 5 i0 Tryz.underlying66 Tryz.underlying9 hi hz0 hz1 hz2 v n xs hown (S l) (by rw [jb]; exact h63) (by rw [jb]; exact hbytes) hbase; rw [jb, jpd] at h2; rw [jb] at h4; refine ⟨v', w', hr, h2, h3, fun k hk => ?_⟩; have wA : n + l.length <= 9223372036854775807 := by simp only [maxLen] at h63; omega
 rcases hown.2 with ⟨rfl, rfl⟩ | ⟨g, cap, cur, rfl, hbg, hg, pT, hcm, hcs, eU⟩
 . by_cases hm : l.length = 0
   . rw [h4.2 ⟨rfl, hm⟩] at hk; cases hk
   . have hr2 := run_append_nil_string (P := Tryz.prog) w 66 9 ty 5 i0 (.int .u8 0) Tryz.underlying66 Tryz.underlying9 hi hz0 (S l) (by rw [jb]; omega) (by rw [jb]; omega) (by rw [hz2, jb]; omega); rw [hr2] at hr; simp only [Result.ok.injEq] at hr; rw [<- hr.1] at hk; cases hk; exact .inr (ai _)
 . by_cases hroom : n + l.length <= cap
   . have gq : cur.size = cap := by simpa using hcs
     have hr2 := Lib.run_append_room_string (P := Tryz.prog) w 66 9 ty 5 i0 Tryz.underlying66 Tryz.underlying9 hi hz1 g n cap cur hg (S l) (by rw [jb]; exact hroom) (by rw [jb]; omega); rw [hr2] at hr; simp only [Result.ok.injEq] at hr; rw [<- hr.1] at hk; exact .inl hk
   . have holds : ∀ j u, xs[j]? = some u -> w.cell? ((⟨g, 0, none⟩ : Addr).add j) = some u := hown.cells (g := g) rfl; have hr2 := Lib.run_append_grow_string (P := Tryz.prog) w 66 9 ty 5 i0 (.int .u8 0) Tryz.underlying66 Tryz.underlying9 hi hz0 ⟨g, 0, none⟩ n cap xs (by rw [hz1]; exact hown.1) holds (S l) (by rw [jb]; omega) (by rw [jb]; omega) (by rw [hz2, jb]; exact growslice_fits (by omega) (by omega)); rw [hr2] at hr; simp only [Result.ok.injEq] at hr; rw [<- hr.1] at hk; cases hk; exact .inr (ai _)
theorem qZ {ops : Array Oper} {rest : List Oper} {o : Oper} {a : Act} {Q : Exit -> Act -> World -> Prop} (hgd : o.guard = none) (s x : Operand)
 (ho : o.op = .call { callee := .builtin .append, args := #[s, x], argTypes := #[66, 9] }) (hs : a.eval s = v) (hown : w.ownsRow base 5 1 v n xs) (hx : a.eval x = .string (S l))
 (h63 : n + l.length <= maxLen) (hbytes : n + l.length <= 140737488355328) (hbase : base <= w.heap.size)
 (h : ∀ a' c' w', w'.ownsRow base 5 1 (.slice a' (n + l.length) c') (n + l.length) (xs ++ byC l) -> w.grownBy w' v.ownBlock -> (∀ k, (Value.slice a' (n + l.length) c').ownBlock = some k -> v.ownBlock = some k ∨ w.heap.size <= k) -> wpList Tryz.prog ops Q rest (a.put o.dst (.slice a' (n + l.length) c')) w') : wpList Tryz.prog ops Q (o :: rest) a w := by
 refine wpList_plain hgd fun K hK => ?_
 obtain ⟨v', w', hr, h2, h3, h4⟩ := jg5 (ty := o.type) hown h63 hbytes hbase; obtain ⟨a', c', rfl, _⟩ := jhy h2; unfold Oper.wp execOp; simp only [ho, resolve, invoke, builtin, Sem.run_bind, Sem.run_pure, Result.andThen_ok, List.map_toArray, List.map_cons, List.map_nil, hs, hx, hr]; exact hK _ _ (h a' c' w' h2 h3 h4)
theorem qJ {o : Obj} (hb : Below w.heap.size w w') (h : w.heap[p]? = some o) : w'.heap[p]? = some o := (hb.block p (aj.1 h).1).trans h
theorem zj (h : w.heap[p]? = some (.cells #[v0, v1] t)) : w.cell? ⟨p, 0, none⟩ = some v0 /\ w.cell? ⟨p, 1, none⟩ = some v1 /\ w.frozen? ⟨p, 0, none⟩ = false /\ w.frozen? ⟨p, 1, none⟩ = false := by
 refine ⟨?_, ?_, ?_, ?_⟩ <;> simp [World.cell?, World.frozen?, h]
theorem jo9 (h : w.heap[p]? = some (.cells #[v0, v1] t)) : (w.setCell ⟨p, 0, none⟩ u).heap[p]? = some (.cells #[u, v1] t) := by
 have := aM w p 0 #[v0, v1] t u h
 simpa using this
theorem jpa (h : w.heap[p]? = some (.cells #[v0, v1] t)) : (w.setCell ⟨p, 1, none⟩ u).heap[p]? = some (.cells #[v0, u] t) := by
 have := aM w p 1 #[v0, v1] t u h
 simpa using this
theorem jj0 {u0 u1 : Value} (h : w.heap[p]? = some (.cells #[v0, v1] t)) : ((w.setCell ⟨p, 0, none⟩ u0).setCell ⟨p, 1, none⟩ u1).heap[p]? = some (.cells #[u0, u1] t) := jpa (jo9 h)
theorem qK {g : Nat} (h : k ≠ g) : (w.setCell ⟨g, j, none⟩ u).heap[k]? = w.heap[k]? := aC _ _ _ _ h
theorem vE (h : w.ownsRow B e k v n xs) (hk : ∀ g, v.ownBlock = some g -> w'.heap[g]? = w.heap[g]?) : w'.ownsRow B e k v n xs := by
 refine ⟨h.1, ?_⟩
 rcases h.2 with hn | ⟨g, cap, cur, rfl, hb, lf, rest⟩
 . exact .inl hn
 . exact .inr ⟨g, cap, cur, rfl, hb, (hk g rfl).trans lf, rest⟩
theorem jgg (h : w.ownsRow B e k v n xs) (hB : B' <= B) : w.ownsRow B' e k v n xs := by
 refine ⟨h.1, ?_⟩
 rcases h.2 with hn | ⟨g, cap, cur, rfl, hb, lf, rest⟩
 . exact .inl hn
 . exact .inr ⟨g, cap, cur, rfl, by omega, lf, rest⟩
def mayN (n : Nat) (s : Int) : Bool := decide (n <= 100000) && (decide (0 <= s) && decide (s <= n))
def TpC (w : World) (l : List UInt8) (e : Ending) (w' : World) : Prop := ∃ a c, e = .returned (.slice a l.length c) /\ w'.ownsRow w.heap.size 5 1 (.slice a l.length c) l.length (byC l) /\ Below w.heap.size w w'
def TpP (w : World) (l : List UInt8) (s er : Int) (e : Ending) (w' : World) : Prop := ∃ a c, e = .returned (.tuple #[.agg #[.slice a l.length c, .int .i64 s], .int .i64 er]) /\ w'.ownsRow w.heap.size 5 1 (.slice a l.length c) l.length (byC l) /\ Below w.heap.size w w'
theorem jeH (a : Option Addr) (n c : Nat) (s : Int) (w : World) :
 Calls Tryz.prog 88 #[.agg #[.slice a n c, .int .i64 s]] w fun e w' => e = .returned (.bool (mayN n s)) /\ Below w.heap.size w w' := by
 have HB := bhid ((ay w.heap.size w).alloc (ai _) (.cells #[.slice a n c, .int .i64 s] 68)); obtain ⟨r, hr⟩ : ∃ r, r = mayN n s := ⟨_, rfl⟩; have HR := bhid hr; rw [<- hr]; clear hr; go_enter Tryz.func88, Tryz.ntmps88; go_wp2
 all_goals
  go_ret; refine ⟨?_, HB.out⟩; rw [HR.out]; unfold mayN
  simp [*]
  try omega
theorem jhC (a : Option Addr) (c : Nat) (l : List UInt8) (Q : Nat -> Prop) (w : World) (h : BysM Q w (.slice a l.length c) l) (hl : l.length <= 140737488355328) :
 Calls Tryz.prog 89 #[.slice a l.length c] w (TpC w l) := by
 have q22 : ∀ (w : World) (a : Option Addr) (n c n' c' : Nat), (binOp .eql 66 (.slice a n c) (.slice none n' c')).run Tryz.prog w = .ok (.bool a.isNone) w := fun w a n c n' c' => Lib.run_eql_slice_nil w _ _ a n c n' c' Tryz.underlying66
 have hm : l.length <= maxLen := h.slice.elim fun _ h => h.elim fun _ h => h.2.2
 have HH := bhid h; cases a with
 | none =>
   have h0 : l = [] := by
    cases l with
    | nil => rfl
    | cons x l => obtain ⟨b, o, e, _⟩ := h.at (j := 0) (x := x) rfl; cases e
   subst h0; have HE := bhid (show TpC w [] (.returned (.slice none 0 0)) w from ⟨none, 0, rfl, aR _ _ _ _, ay _ _⟩); clear h hl hm HH; go_enter Tryz.func89, Tryz.ntmps89; go_wp2; go_ret; exact HE.out
 | some ad =>
   clear h; go_enter Tryz.func89, Tryz.ntmps89
   go_wp2_with (at_builtin; refine jbF rfl _ _ rfl rfl (World.ownsRow_made w #[] 0 (ai _) (aQ _) rfl) rfl (HH.out.next (nb0 _ _)) ?qc1 ?qc2 ?qc3 ?_)
   case qc1 => omega
   case qc2 => omega
   case qc3 => simp
   intro a' c' w1 hown hgrow hat; have HO := bhid hown; have HB := bhid (show Below w.heap.size w w1 from ((ay _ w).alloc (ai _) _).grown hgrow (by simp) (by intro k hk; simp [Value.ownBlock] at hk; omega)); clear hown hgrow hat; have HE := bhid (show TpC w l (.returned (.slice a' (0 + l.length) c')) w1 by
    have h1 := HO.out; simp only [bc] at h1 ⊢; exact ⟨a', c', rfl, h1, HB.out⟩)
   go_wp2; go_ret
   simpa using HE.out
theorem jeJ (w : World) (o1 o2 : Obj) : ((w.alloc o1).alloc o2).heap[w.heap.size]? = some o1 /\ ((w.alloc o1).alloc o2).heap[w.heap.size + 1]? = some o2 := by
 constructor
 . have := Below.heap_alloc (w.alloc o1) o2 w.heap.size (by simp); rw [this]; exact az w o1
 . have := az (w.alloc o1) o2
   simpa using this
theorem jmf (w : World) (o1 o2 : Obj) : Below w.heap.size w ((w.alloc o1).alloc o2) := (nb0 _ _).alloc (by simp) _
theorem TpP.refused (w w1 : World) (er : Int) (p : Nat) (hp : w.heap.size <= p) (hb : Below w.heap.size w w1) : TpP w [] 0 er (.returned (.tuple #[.agg #[.slice none 0 0, .int .i64 0], .int .i64 er])) ((w1.setCell ⟨p, 0, none⟩ (.slice none 0 0)).setCell ⟨p, 1, none⟩ (.int .i64 0)) :=
 ⟨none, 0, rfl, aR _ _ _ _, (hb.setCell hp _).setCell hp _⟩
theorem TpP.done {w1 : World} {s : Int} (hp : w.heap.size <= p) (my : p < w1.heap.size) (hb : Below w.heap.size w w1) (h : TpC w1 l (.returned (.slice a l.length c)) w2) : TpP w l s 0 (.returned (.tuple #[.agg #[.slice a l.length c, .int .i64 s], .int .i64 0])) ((w2.setCell ⟨p, 0, none⟩ (.slice a l.length c)).setCell ⟨p, 1, none⟩ (.int .i64 s)) := by
 obtain ⟨a', c', e, hO, hb2⟩ := h; cases e; refine ⟨a, c, rfl, ?_, ((hb.trans (hb2.mono hb.size)).setCell hp _).setCell hp _⟩; refine jgg (B := w1.heap.size) (vE hO fun g hg => ?_) hb.size; have := (aA hO g hg).1; exact (qK (by omega)).trans (qK (by omega))
structure Cv where
 t : Value
 d : Value
 l : Value
structure Vals where
 td : Value
 sf : Value
 st : Value
 lo : Value
 sc : Value
 od : Value
 du : Value
 c0 : Cv
 c1 : Cv
 c2 : Cv
 os : List Value
 sv : List (Value × Value)
def Vals.con (X : Vals) : Nat -> Cv
 | 0 => X.c0
 | 1 => X.c1
 | _ => X.c2
def Vals.put (X : Vals) (i : Nat) (c : Cv) : Vals :=
 match i with
 | 0 => { X with c0 := c }
 | 1 => { X with c1 := c }
 | _ => { X with c2 := c }
def conC (c : Con) (x : Cv) : List Value := [.int .i64 c.ses.step, .string (S c.ses.frm.1), .string (S c.ses.frm.2), x.t, .string (S c.ses.text), .bool c.ses.large, .string (S c.held), x.d, x.l]
def vW (R : Rom) (X : Vals) : List Value := [.bool R.up, X.td, .int .i64 R.tsyn, .int .i64 R.syn, .int .i64 R.waits, X.sf, X.st] ++ conC R.c0 X.c0 ++ conC R.c1 X.c1 ++ conC R.c2 X.c2 ++ [X.lo, X.sc, X.od, X.du]
def intR (t : TypeId) (v : Value) (l : List Int) : MRow := ⟨t, 1, v, l.length, l.map fun k => .int .i64 k⟩
def sttR (v : Value) (l : List (Value × Value)) : MRow := ⟨44, 2, v, l.length, (l.map fun x => [x.1, x.2]).flatten⟩
def ordR (v : Value) (l : List Value) : MRow := ⟨123, 1, v, l.length, l⟩
def j2 (R : Rom) (X : Vals) : List MRow := [intR 3 X.c0.l R.c0.told, intR 3 X.c1.l R.c1.told, intR 3 X.c2.l R.c2.told, intR 3 X.du R.due, sttR X.st X.sv, ordR X.od X.os] ++ (List.range 3).map fun u => intR 51 (X.os.getD u (.slice none 0 0)) (R.orders.getD u [])
def IntsM (Q : Nat -> Prop) (w : World) (v : Value) (l : List Int) : Prop := RowM Q 1 (fun x cs => cs = [.int .i64 x]) w v l
structure ConM (Q : Nat -> Prop) (w : World) (c : Con) (x : Cv) : Prop where
 gl : AdrsM Q w x.t c.ses.to
 ry : jba x.t
 du : IntsM Q w x.d c.due
def SttV (Q : Nat -> Prop) (w : World) (s : Stt) (cs : List Value) : Prop := ∃ vb vs, cs = [vb, vs] /\ SttM Q w vb vs s
def ScrV (Q : Nat -> Prop) (w : World) (C : List Cmd) (cs : List Value) : Prop := ∃ a c, cs = [.slice a C.length c] /\ jcc a C.length c /\ CmdsM Q 5 w (.slice a C.length c) C
structure RoM (Q : Nat -> Prop) (w : World) (K : List (List UInt8)) (Cs : List (List Cmd)) (R : Rom) (X : Vals) : Prop where
 k0 : ConM Q w R.c0 X.c0
 k1 : ConM Q w R.c1 X.c1
 k2 : ConM Q w R.c2 X.c2
 lo : TxtsM Q w X.lo K
 sc : RowM Q 1 (ScrV Q w) w X.sc Cs
 sf : RowM Q 2 (SttV Q w) w X.sf R.safe
 sv : X.sv.length = R.states.length /\ ∀ (i : Nat) s x, R.states[i]? = some s -> X.sv[i]? = some x -> SttM Q w x.1 x.2 s
 os : X.os.length = 3 /\ R.orders.length = 3
 td : BysM Q w X.td R.tape
def RoomM (K : List (List UInt8)) (Cs : List (List Cmd)) (B b : Nat) (G : List Nat) (R : Rom) (w : World) : Prop :=
 ∃ X, G = mB (j2 R X) /\ B <= b /\ RmB w b (vW R X) /\ MOk w B b (j2 R X) /\ RoM (AvN B b G) w K Cs R X
theorem BysM.stp (h : BysM (AvN N b G) w v l) (hs : Stp b G w G' w') : BysM (AvN N b G') w' v l := by
 obtain ⟨a, c, h1, h2, h3, h4⟩ := h; refine ⟨a, c, h1, h2, h3, fun j x hx => ?_⟩; obtain ⟨g, o, e, q, hc⟩ := h4 j x hx; have hg := aG w _ hc; exact ⟨g, o, e, ⟨q.1, hs.av hg q.2⟩, (aP (hs.block g hg q.2)).trans hc⟩
theorem IntsM.stp {l : List Int} (h : IntsM (AvN N b G) w v l) (hs : Stp b G w G' w') : IntsM (AvN N b G') w' v l := RowM.stpN h hs fun _ _ h => h
theorem AdrsM.stp {l : List Adr} (h : AdrsM (AvN N b G) w v l) (hs : Stp b G w G' w') : AdrsM (AvN N b G') w' v l := RowM.stpN h hs fun _ _ h => h
theorem ConM.stp {N b : Nat} {G G' : List Nat} {w w' : World} {c : Con} {x : Cv} (h : ConM (AvN N b G) w c x) (hs : Stp b G w G' w') : ConM (AvN N b G') w' c x := ⟨h.gl.stp hs, h.ry, h.du.stp hs⟩
theorem SttM.stp {vb vs : Value} {s : Stt} (h : SttM (AvN N b G) w vb vs s) (hs : Stp b G w G' w') : SttM (AvN N b G') w' vb vs s := by
 obtain ⟨h1, h2, h3⟩ := h; exact ⟨RowM.stpN h1 hs fun x cs h => by
  obtain ⟨v, k1, k2⟩ := h; exact ⟨v, k1, RowM.stpN k2 hs fun _ _ h => h⟩, RowM.stpN h2 hs fun _ _ h => h, h3⟩
theorem RoM.stp {N b : Nat} {G G' : List Nat} {w w' : World} {K : List (List UInt8)} {Cs : List (List Cmd)} {R : Rom} {X : Vals} (h : RoM (AvN N b G) w K Cs R X) (hs : Stp b G w G' w') : RoM (AvN N b G') w' K Cs R X where
 k0 := h.k0.stp hs
 k1 := h.k1.stp hs
 k2 := h.k2.stp hs
 lo := h.lo.stp hs
 sc := RowM.stpN h.sc hs fun _ _ h => by
  obtain ⟨a, c, h1, h2, h3⟩ := h; exact ⟨a, c, h1, h2, h3.stpN hs⟩
 sf := RowM.stpN h.sf hs fun _ _ h => by
  obtain ⟨a, c, h1, h2⟩ := h; exact ⟨a, c, h1, h2.stp hs⟩
 sv := ⟨h.sv.1, fun i s x hi hx => (h.sv.2 i s x hi hx).stp hs⟩
 os := h.os
 td := h.td.stp hs
theorem RoomM.next {K : List (List UInt8)} {Cs : List (List Cmd)} {B b : Nat} {G : List Nat} {R : Rom} {w w' : World} (h : RoomM K Cs B b G R w) (hb : Below w.heap.size w w') : RoomM K Cs B b G R w' := by
 obtain ⟨X, h1, h2, h3, h4, h5⟩ := h; exact ⟨X, h1, h2, h3.next hb, h4.next hb, h5.stp (.of hb)⟩
theorem RoomM.lt {K : List (List UInt8)} {Cs : List (List Cmd)} {B b : Nat} {G : List Nat} {R : Rom} {w : World} (h : RoomM K Cs B b G R w) : b < w.heap.size /\ B <= b /\ ∀ k ∈ G, B <= k /\ k < w.heap.size := by
 obtain ⟨X, h1, h2, h3, h4, h5⟩ := h; exact ⟨h4.lt, h2, fun k hk => h4.rng k (by rw [<- h1]; exact hk)⟩
theorem RoomM.low {K : List (List UInt8)} {R : Rom} (h : RoomM K Cs B b G R w) (hs : Stp b G w G' w') : Below B w w' :=
 hs.below h.lt.2.1 (by have := h.lt; omega) fun k hk => (h.lt.2.2 k hk).1
end Go.Proofs.YtjdkbdkimbgbfaaGreatDoor
