/-
  What post.open does with three users: the walk.
-/
import Derived.Test.YtgooljlpffnaeaaGreatDoorFQPoFr4
import Derived.Test.YtgooljlpffnaeaaGreatDoorRows
import Derived.Laws.BytesArg
import Derived.Lib.AppendStr
import Derived.OwnWalk
set_option maxHeartbeats 2000000
set_option maxRecDepth 100000
namespace Go.Proofs.YtgooljlpffnaeaaGreatDoor
open Go.RowKit Go.Proofs
def conZ : List Value := [.int .i64 0, .string ⟨#[]⟩, .string ⟨#[]⟩, .slice none 0 0, .string ⟨#[]⟩, .bool false, .string ⟨#[]⟩, .slice none 0 0, .slice none 0 0]
def jeb (v5 v6 v34 v35 v36 : Value) : List Value := [.bool true, .slice none 0 0, .int .i64 0, .int .i64 0, .int .i64 0, v5, v6] ++ conZ ++ conZ ++ conZ ++ [v34, v35, v36, .slice none 0 0]
def LdN (w : World) (B : Nat) (v5 v6 : Value) : Prop := ∃ bs, bs.length = 3 ∧ inbB w B bs ∧ w.ownsRow B 44 2 v5 3 (inbC bs) ∧ w.ownsRow B 44 2 v6 3 (inbC bs) ∧ ∀ q, v5.ownBlock = some q → v6.ownBlock ≠ some q
theorem LdN.next {w w' : World} {B : Nat} {v5 v6 : Value} (h : LdN w B v5 v6) (hb : Below w.heap.size w w') : LdN w' B v5 v6 := by
 obtain ⟨bs, h1, h2, h3, h4, h5⟩ := h; exact ⟨bs, h1, fun b hm => ⟨(h2 b hm).1, (hb.block b (Array.getElem?_eq_some_iff.1 (h2 b hm).2).1).trans (h2 b hm).2⟩, jU h3 hb, jU h4 hb, h5⟩
theorem LdN.mk {w : World} {B B' : Nat} {v5 v6 : Value} {bs : List Nat} (hB : B' ≤ B) (h1 : bs.length = 3) (h2 : inbB w B bs) (h3 : w.ownsRow B 44 2 v5 3 (inbC bs)) (h4 : w.ownsRow B 44 2 v6 3 (inbC bs)) (h5 : ∀ q, v5.ownBlock = some q → v6.ownBlock ≠ some q) : LdN w B' v5 v6 :=
 ⟨bs, h1, fun b hm => ⟨Nat.le_trans hB (h2 b hm).1, (h2 b hm).2⟩, jbT h3 hB, jbT h4 hB, h5⟩
def OwO (w : World) (B : Nat) (v : Value) : Prop := w.ownsRow B 36 1 v 3 [.slice none 0 0, .slice none 0 0, .slice none 0 0]
theorem OwO.new {w w' : World} {B : Nat} {cur : Array Value} (hB : B ≤ w.heap.size) (hb : Below (w.alloc (.cells cur 36)).heap.size (w.alloc (.cells cur 36)) w') (hc : cur = #[.slice none 0 0, .slice none 0 0, .slice none 0 0]) : OwO w' B (.slice (some ⟨w.heap.size, 0, none⟩) 3 3) := by
 subst hc; exact jU ⟨rfl, .inr ⟨w.heap.size, 3, _, rfl, hB, heap_alloc_new w _, by decide, by unfold maxLen; decide, rfl, rfl⟩⟩ hb
def OpnR (W : World) (p : Value) (wx : World) : Prop := ∃ (b : Nat) (v5 v6 v36 : Value), p = .pointer (some ⟨b, 0, none⟩) ∧ RmB wx b (jeb v5 v6 (.slice none 0 0) (.slice none 0 0) v36) ∧ W.heap.size ≤ b ∧ Below W.heap.size W wx ∧ LdN wx W.heap.size v5 v6 ∧ OwO wx W.heap.size v36
theorem OpnR.mk {W w : World} {v5 v6 v36 : Value} (h : Below W.heap.size W w) (h1 : LdN w W.heap.size v5 v6) (h2 : OwO w W.heap.size v36) : OpnR W (.pointer (some ⟨w.heap.size, 0, none⟩)) (w.alloc (.cells (jeb v5 v6 (.slice none 0 0) (.slice none 0 0) v36).toArray 76)) :=
 ⟨w.heap.size, v5, v6, v36, rfl, ⟨heap_alloc_new w _, rfl⟩, h.size, h.alloc h.size _, h1.next (nb0 _ _), jU h2 (nb0 _ _)⟩
theorem OpnR.mkA {W w2 : World} {v5 v6 : Value} {cur : Array Value} (h : Below W.heap.size W w2) (h1 : LdN w2 W.heap.size v5 v6) (hc : cur = #[.slice none 0 0, .slice none 0 0, .slice none 0 0]) : OpnR W (.pointer (some ⟨w2.heap.size + 1, 0, none⟩)) ((w2.alloc (.cells cur 36)).alloc (.cells (jeb v5 v6 (.slice none 0 0) (.slice none 0 0) (.slice (some ⟨w2.heap.size, 0, none⟩) 3 3)).toArray 76)) := by
 have := OpnR.mk (h.alloc h.size _) (h1.next ((Below.refl _ _).alloc (Nat.le_refl _) (.cells cur 36))) (OwO.new h.size (Below.refl _ _) hc)
 simpa using this
def ScsM (Q : Nat → Prop) (w : World) (X : List Value) (Cs : List (List Cmd)) : Prop := X.length = Cs.length ∧ ∀ (i : Nat) x, X[i]? = some x → ∃ C a c, Cs[i]? = some C ∧ x = .slice a C.length c ∧ jbz a C.length c ∧ CmdsM Q 5 w x C
theorem CmdsM.stpN {N b : Nat} {G G' : List Nat} {w w' : World} {n : Nat} {v : Value} {l : List Cmd} (h : CmdsM (AvN N b G) n w v l) (hs : Stp b G w G' w') : CmdsM (AvN N b G') n w' v l :=
 RowM.imp (CmdsM.stp h hs fun _ hq _ => hq.2) (fun _ hk => ⟨hk.1.1, hk.2⟩) (Keeps.refl _ _) fun _ _ hx => CmdM.imp (fun _ hk => ⟨hk.1.1, hk.2⟩) (Keeps.refl _ _) _ _ _ hx
theorem ScsM.stp {N b : Nat} {G G' : List Nat} {w w' : World} {X : List Value} {Cs : List (List Cmd)} (h : ScsM (AvN N b G) w X Cs) (hs : Stp b G w G' w') : ScsM (AvN N b G') w' X Cs := ⟨h.1, fun i x hx => by
 obtain ⟨C, a, c, h1, h2, h3, h4⟩ := h.2 i x hx; exact ⟨C, a, c, h1, h2, h3, h4.stpN hs⟩⟩
theorem ScsM.add {Q : Nat → Prop} {w : World} {X : List Value} {Cs : List (List Cmd)} {C : List Cmd} {a : Option Addr} {c : Nat} (h : ScsM Q w X Cs) (hr : jbz a C.length c) (hC : CmdsM Q 5 w (.slice a C.length c) C) : ScsM Q w (X ++ [.slice a C.length c]) (Cs ++ [C]) := by
 refine ⟨by simp [h.1], fun i x hx => ?_⟩
 rcases Nat.lt_or_ge i X.length with hi | hi
 · rw [List.getElem?_append_left hi] at hx; obtain ⟨D, a', c', h1, h2⟩ := h.2 i x hx; exact ⟨D, a', c', by rw [List.getElem?_append_left (by rw [← h.1]; exact hi)]; exact h1, h2⟩
 · rw [List.getElem?_append_right hi] at hx; have h0 : i - X.length = 0 := by
    rcases Nat.eq_zero_or_pos (i - X.length) with e | e
    · exact e
    · rw [List.getElem?_eq_none (by simp; omega)] at hx; cases hx
   rw [h0] at hx; cases hx; exact ⟨C, a, c, by rw [List.getElem?_append_right (by rw [← h.1]; exact hi), ← h.1, h0]; rfl, rfl, hr, hC⟩
def RoI (W1 : World) (B b : Nat) (v5 v6 v36 : Value) (L : List (List UInt8)) (Cs : List (List Cmd)) (w : World) : Prop :=
 ∃ v34 v35 X, RmB w b (jeb v5 v6 v34 v35 v36) ∧ MOk w B b [locR v34 L, scrR v35 X] ∧ ScsM (AvN W1.heap.size b (mB [locR v34 L, scrR v35 X])) w X Cs ∧ Stp b [] W1 (mB [locR v34 L, scrR v35 X]) w
theorem RoI.next {W1 w w' : World} {B b : Nat} {v5 v6 v36 : Value} {L : List (List UInt8)} {Cs : List (List Cmd)} (h : RoI W1 B b v5 v6 v36 L Cs w) (hb : Below w.heap.size w w') : RoI W1 B b v5 v6 v36 L Cs w' := by
 obtain ⟨v34, v35, X, h1, h2, h3, h4⟩ := h; exact ⟨v34, v35, X, h1.next hb, h2.next hb, h3.stp (.of hb), h4.trans (.of hb)⟩
theorem RoI.start {W1 : World} {B b : Nat} {v5 v6 v36 : Value} (h : RmB W1 b (jeb v5 v6 (.slice none 0 0) (.slice none 0 0) v36)) : RoI W1 B b v5 v6 v36 [] [] W1 :=
 ⟨_, _, [], h, ⟨fun r hr => by
  simp only [List.mem_cons, List.not_mem_nil, or_false] at hr
  rcases hr with rfl | rfl
  · exact World.ownsRow_nil _ _ _ _
  · exact World.ownsRow_nil _ _ _ _, by simp [mB, locR, scrR, Value.ownBlock], by simp [mB, locR, scrR, Value.ownBlock], (Array.getElem?_eq_some_iff.1 h.1).1⟩, ⟨rfl, fun i x hx => by simp at hx⟩, by
  have h := Stp.refl b [] W1
  simpa [mB, locR, scrR, Value.ownBlock] using h⟩
theorem RoI.low {W1 w : World} {B b : Nat} {v5 v6 v36 : Value} {L : List (List UInt8)} {Cs : List (List Cmd)} (h : RoI W1 B b v5 v6 v36 L Cs w) (hB : B ≤ b) (hW : B ≤ W1.heap.size) : Below B W1 w := by
 obtain ⟨v34, v35, X, h1, h2, h3, h4⟩ := h; exact h4.below hB hW fun k hk => by cases hk
theorem RoI.take {W1 w : World} {B b : Nat} {v5 v6 v36 : Value} {L : List (List UInt8)} {Cs : List (List Cmd)} (h : RoI W1 B b v5 v6 v36 L Cs w) (hB : B ≤ b) (hL : L.length ≤ 10) (hC : Cs.length ≤ 10) (lo sc : List UInt8) (C : List Cmd) (hc : zZ lo [120] = 0) (hl : lo.length ≤ 2000) (hm : L.contains lo = false)
 (hRd : ∀ v, Below w.heap.size w v → Calls Tryz.prog 26 #[.string (S sc)] v (RdP v 5 (C, 0))) :
 Calls Tryz.prog 15 #[.pointer (some ⟨b, 0, none⟩), .agg #[.string (S lo), .string (S sc)]] w fun e w' => e = .returned (.int .i64 0) ∧ RoI W1 B b v5 v6 v36 (L ++ [lo]) (Cs ++ [C]) w' := by
 obtain ⟨v34, v35, X, h1, h2, h3, h4⟩ := h; refine (jms B b lo sc (jeb v5 v6 v34 v35 v36) L X v34 v35 w h1 rfl rfl h2 hB hL (by rw [h3.1]; exact hC) hc hl hm 5 C hRd).mono ?_; rintro e w' ⟨he, u34, u35, a, c, k1, k2, k3, k4, k5⟩; have hz := h4.size; exact ⟨he, u34, u35, _, k1, k2, (h3.stp k5).add k3 (RowM.imp k4 (fun _ hk => ⟨Nat.le_trans hz hk.1, hk.2⟩) (Keeps.refl _ _) fun _ _ hx => CmdM.imp (fun _ hk => ⟨Nat.le_trans hz hk.1, hk.2⟩) (Keeps.refl _ _) _ _ _ hx), h4.trans k5⟩
def OpnQ (w : World) (f : Nat) (r : Int) (L : List (List UInt8)) (Cs : List (List Cmd)) (e : Ending) (w' : World) : Prop :=
 if f < 3 then OpE w r e w' else ∃ W1 b v5 v6 v36, e = .returned (.tuple #[.pointer (some ⟨b, 0, none⟩), .int .i64 0]) ∧ RmB W1 b (jeb v5 v6 (.slice none 0 0) (.slice none 0 0) v36) ∧ w.heap.size ≤ b ∧ Below w.heap.size w W1 ∧ LdN W1 w.heap.size v5 v6 ∧ OwO W1 w.heap.size v36 ∧ RoI W1 w.heap.size b v5 v6 v36 L Cs w'
def AdQ (f : Nat) (r : Int) (W1 : World) (B b : Nat) (v5 v6 v36 : Value) (L : List (List UInt8)) (Cs : List (List Cmd)) (k : Nat) (v : World) (e : Ending) (v' : World) : Prop :=
 if k < f then e = .returned (.int .i64 0) ∧ RoI W1 B b v5 v6 v36 (L.take (k + 1)) (Cs.take (k + 1)) v' else AdE v r e v'
theorem AdQ.yes {f : Nat} {r : Int} {W1 : World} {B b : Nat} {v5 v6 v36 : Value} {L : List (List UInt8)} {Cs : List (List Cmd)} {k : Nat} {v v' : World} {e : Ending} (h : AdQ f r W1 B b v5 v6 v36 L Cs k v e v') (hk : k < f) : e = .returned (.int .i64 0) ∧ RoI W1 B b v5 v6 v36 (L.take (k + 1)) (Cs.take (k + 1)) v' := by
 unfold AdQ at h; rw [if_pos hk] at h; exact h
theorem AdQ.no {f : Nat} {r : Int} {W1 : World} {B b : Nat} {v5 v6 v36 : Value} {L : List (List UInt8)} {Cs : List (List Cmd)} {k : Nat} {v v' : World} {e : Ending} (h : AdQ f r W1 B b v5 v6 v36 L Cs k v e v') (hk : ¬ k < f) : AdE v r e v' := by
 unfold AdQ at h; rw [if_neg hk] at h; exact h
set_option linter.unusedSimpArgs false in
theorem jkb (p : Nat) (l0 s0 l1 s1 l2 s2 : List UInt8) (Cs : List (List Cmd)) (f : Nat) (hf : f ≤ 3) (r : Int) (hr : r ≠ 0) (w : World) (hu : w.heap[p]? = some (.cells #[.string (S l0), .string (S s0), .string (S l1), .string (S s1), .string (S l2), .string (S s2)] 57))
 (hA : ∀ (k : Nat) (v W1 : World) (b : Nat) (v5 v6 v36 : Value), k < 3 → k ≤ f → Below w.heap.size w v → w.heap.size ≤ b → RoI W1 w.heap.size b v5 v6 v36 ([l0, l1, l2].take k) (Cs.take k) v →
   Calls Tryz.prog 15 #[.pointer (some ⟨b, 0, none⟩), .agg #[.string (S ([l0, l1, l2].getD k [])), .string (S ([s0, s1, s2].getD k []))]] v (AdQ f r W1 w.heap.size b v5 v6 v36 [l0, l1, l2] Cs k v)) :
 Calls Tryz.prog 10 #[.slice (some ⟨p, 0, none⟩) 3 3] w (OpnQ w f r [l0, l1, l2] (Cs.take 3)) := by
 have HU := hid hu; have HA := hid hA; have HNL := hid (fun v => jda 3 (by omega) v); obtain ⟨W, hW⟩ : ∃ W, W = w := ⟨_, rfl⟩; have HWW := hid hW; clear hu hA; go_enter Tryz.func10, Tryz.ntmps10; go_upto_region 3 with fail
 rw [← hW]; clear hW
 go_cut [4] (fun q wx => OpnR W q wx)
 case first =>
  refine wp_region_held_drew (S := fun u => True) (by kernel_rfl) ?_ (fun hHeld => ?_)
  · trivial
  refine wpAnyH_take (i := 0) (v := ?v1) rfl (by kernel_rfl) (by kernel_rfl) (by kernel_rfl) (fun _ _ _ h => h) (Or.inl ⟨by rfl, ?hy1⟩) (by assumption) ?_
  case hy1 =>
   intro w hSw
   (try dsimp only at hSw)
   go_simp
   all_goals with_reducible rfl
  change wpAnyH _ _ _ _ _ _ _ (Act.put _ (some 16) _) _
  try simp only [Act.put, List.setIfInBounds_toArray, List.set_cons_zero, List.set_cons_succ]
  refine wpAnyH_take (i := 1) (v := ?v2) rfl (by kernel_rfl) (by kernel_rfl) (by kernel_rfl) (fun _ _ _ h => h) (Or.inl ⟨by rfl, ?hy2⟩) (by assumption) ?_
  case hy2 =>
   intro w hSw
   (try dsimp only at hSw)
   go_simp
   all_goals with_reducible rfl
  change wpAnyH _ _ _ _ _ _ _ (Act.put _ (some 17) _) _
  try simp only [Act.put, List.setIfInBounds_toArray, List.set_cons_zero, List.set_cons_succ]
  refine wpAnyH_take (i := 3) (v := ?v3) rfl (by kernel_rfl) (by kernel_rfl) (by kernel_rfl) (fun _ _ _ h => h) (Or.inl ⟨by rfl, ?hy3⟩) (by assumption) ?_
  case hy3 =>
   intro w hSw
   (try dsimp only at hSw)
   go_simp
   all_goals with_reducible rfl
  change wpAnyH _ _ _ _ _ _ _ (Act.put _ (some 19) _) _
  try simp only [Act.put, List.setIfInBounds_toArray, List.set_cons_zero, List.set_cons_succ]
  refine wpAnyH_take (i := 4) (v := ?v4) rfl (by kernel_rfl) (by kernel_rfl) (by kernel_rfl) (fun _ _ _ h => h) (Or.inl ⟨by rfl, ?hy4⟩) (by assumption) ?_
  case hy4 =>
   intro w hSw
   (try dsimp only at hSw)
   go_simp
   all_goals with_reducible rfl
  change wpAnyH _ _ _ _ _ _ _ (Act.put _ (some 20) _) _
  try simp only [Act.put, List.setIfInBounds_toArray, List.set_cons_zero, List.set_cons_succ]
  refine wpAnyH_ready (rs := [2, 5]) (by kernel_rfl) (by simp) ?_; refine AllReadyH.cons rfl (fun K hK => ?_) ?_
  · skip
    go_simp
    refine (HNL.out _).mono ?_; rintro e w2 ⟨bs, sa, ta, cs, ct, rfl, hbl, hI, hO1, hO2, hAp, hb2⟩; have HB2 := hid (show Below W.heap.size W w2 from (show Below W.heap.size W _ from (by repeat (first | with_reducible exact Below.refl _ _ | with_reducible refine Below.drew ?_ | with_reducible refine Below.alloc ?_ (by first | exact Nat.le_refl _ | simp) _ | exact ((Below.refl _ W).drew.alloc (Nat.le_refl _) _)))).trans (hb2.mono (by first | exact Nat.le_refl _ | simp))); have HLN := hid (LdN.mk (B' := W.heap.size) (by first | exact Nat.le_refl _ | simp) hbl hI hO1 hO2 hAp); clear hI hO1 hO2 hb2 hbl hAp; go_wp2_with fail; refine hK.out _ _ ?_ (fun hHeld => ?_)
    · trivial
    clear hK K
    try simp only [Act.put, List.setIfInBounds_toArray, List.set_cons_zero, List.set_cons_succ]
    refine wpAnyH_ready (rs := [5]) (by kernel_rfl) (by simp) ?_; refine AllReadyH.cons rfl (fun K hK => ?_) AllReadyH.nil
    go_simp
    refine hK.out _ _ ?_ (fun hHeld => ?_)
    · trivial
    clear hK K
    try simp only [Act.put, List.setIfInBounds_toArray, List.set_cons_zero, List.set_cons_succ]
    refine wpAnyH_take (i := 6) (v := ?v5) rfl (by kernel_rfl) (by kernel_rfl) (by kernel_rfl) (fun _ _ _ h => h) (Or.inl ⟨by rfl, ?hy5⟩) (by assumption) ?_
    case hy5 =>
        intro w hSw
        (try dsimp only at hSw)
        go_simp
        all_goals with_reducible rfl
    change wpAnyH _ _ _ _ _ _ _ (Act.put _ (some 22) _) _
    try simp only [Act.put, List.setIfInBounds_toArray, List.set_cons_zero, List.set_cons_succ]
    refine wpAnyH_ready (rs := [7]) (by kernel_rfl) (by simp) ?_; refine AllReadyH.cons rfl (fun K hK => ?_) AllReadyH.nil
    go_simp
    refine hK.out _ _ ?_ (fun hHeld => ?_)
    · trivial
    clear hK K
    try simp only [Act.put, List.setIfInBounds_toArray, List.set_cons_zero, List.set_cons_succ]
    refine wpAnyH_take (i := 8) (v := ?v6) rfl (by kernel_rfl) (by kernel_rfl) (by kernel_rfl) (fun _ _ _ h => h) (Or.inl ⟨by rfl, ?hy6⟩) (by assumption) ?_
    case hy6 =>
        intro w hSw
        (try dsimp only at hSw)
        go_simp
        all_goals with_reducible rfl
    change wpAnyH _ _ _ _ _ _ _ (Act.put _ (some 4) _) _
    try simp only [Act.put, List.setIfInBounds_toArray, List.set_cons_zero, List.set_cons_succ]
    refine wpAnyH_done (by kernel_rfl) ?_ _; go_wp2_with fail
    go_meet
    exact OpnR.mkA HB2.out HLN.out (by kernel_rfl)
  refine AllReadyH.cons rfl (fun K hK => ?_) AllReadyH.nil
  go_simp
  refine hK.out _ _ ?_ (fun hHeld => ?_)
  · trivial
  clear hK K
  try simp only [Act.put, List.setIfInBounds_toArray, List.set_cons_zero, List.set_cons_succ]
  refine wpAnyH_ready (rs := [2]) (by kernel_rfl) (by simp) ?_; refine AllReadyH.cons rfl (fun K hK => ?_) AllReadyH.nil
  go_simp
  refine (HNL.out _).mono ?_; rintro e w2 ⟨bs, sa, ta, cs, ct, rfl, hbl, hI, hO1, hO2, hAp, hb2⟩; have HB2 := hid (show Below W.heap.size W w2 from (show Below W.heap.size W _ from (by repeat (first | with_reducible exact Below.refl _ _ | with_reducible refine Below.drew ?_ | with_reducible refine Below.alloc ?_ (by first | exact Nat.le_refl _ | simp) _ | exact ((Below.refl _ W).drew.alloc (Nat.le_refl _) _)))).trans (hb2.mono (by first | exact Nat.le_refl _ | simp))); have HLN := hid (LdN.mk (B' := W.heap.size) (by first | exact Nat.le_refl _ | simp) hbl hI hO1 hO2 hAp); have HO3 := hid (OwO.new (w := W.drew) (B := W.heap.size) (Nat.le_refl _) hb2 (by kernel_rfl)); clear hI hO1 hO2 hb2 hbl hAp; go_wp2_with fail; refine hK.out _ _ ?_ (fun hHeld => ?_)
  · trivial
  clear hK K
  try simp only [Act.put, List.setIfInBounds_toArray, List.set_cons_zero, List.set_cons_succ]
  refine wpAnyH_take (i := 6) (v := ?v7) rfl (by kernel_rfl) (by kernel_rfl) (by kernel_rfl) (fun _ _ _ h => h) (Or.inl ⟨by rfl, ?hy7⟩) (by assumption) ?_
  case hy7 =>
   intro w hSw
   (try dsimp only at hSw)
   go_simp
   all_goals with_reducible rfl
  change wpAnyH _ _ _ _ _ _ _ (Act.put _ (some 22) _) _
  try simp only [Act.put, List.setIfInBounds_toArray, List.set_cons_zero, List.set_cons_succ]
  refine wpAnyH_ready (rs := [7]) (by kernel_rfl) (by simp) ?_; refine AllReadyH.cons rfl (fun K hK => ?_) AllReadyH.nil
  go_simp
  refine hK.out _ _ ?_ (fun hHeld => ?_)
  · trivial
  clear hK K
  try simp only [Act.put, List.setIfInBounds_toArray, List.set_cons_zero, List.set_cons_succ]
  refine wpAnyH_take (i := 8) (v := ?v8) rfl (by kernel_rfl) (by kernel_rfl) (by kernel_rfl) (fun _ _ _ h => h) (Or.inl ⟨by rfl, ?hy8⟩) (by assumption) ?_
  case hy8 =>
   intro w hSw
   (try dsimp only at hSw)
   go_simp
   all_goals with_reducible rfl
  change wpAnyH _ _ _ _ _ _ _ (Act.put _ (some 4) _) _
  try simp only [Act.put, List.setIfInBounds_toArray, List.set_cons_zero, List.set_cons_succ]
  refine wpAnyH_done (by kernel_rfl) ?_ _; go_wp2_with fail
  go_meet
  exact OpnR.mk HB2.out HLN.out HO3.out
 case rest =>
  obtain ⟨b, v5, v6, v36, hp, hR, hbW, hBW, hLD, hOO⟩ := hcut; subst hp; obtain ⟨W1, rfl⟩ : ∃ W, W = wc := ⟨_, rfl⟩; obtain rfl := HWW.out; have hu1 := (hBW.block p (Array.getElem?_eq_some_iff.1 HU.out).1).trans HU.out; have HRI := hid (RoI.start (B := W.heap.size) hR); have HRB := hid hR; have HU1 := hid hu1; have HLD := hid hLD; have HOO := hid hOO; have HBW := hid hBW; clear hR hBW hu1 HNL hLD hOO; go_wp2
  go_loopw [26] (fun i wr => ∃ k : Nat, k ≤ 3 ∧ k ≤ f ∧ i = .int .i64 k ∧ Hid (RoI W1 W.heap.size b v5 v6 v36 ([l0, l1, l2].take k) (Cs.take k) wr)) (fun i _ => 3 - (intOf i).toNat)
  case atStart => exact ⟨0, by omega, by omega, rfl, HRI⟩
  case round =>
   obtain ⟨k, hk3, hkf, rfl, HI⟩ := hrel; have HBR := hid (HBW.out.trans (HI.out.low hbW HBW.out.size)); have hur := (HBR.out.block p (Array.getElem?_eq_some_iff.1 HU.out).1).trans HU.out; obtain ⟨c0, c1, c2, c3, c4, c5⟩ := bx6 hur; have HAL := hid (show ∀ o, Below wr.heap.size wr (wr.alloc o) from fun o => (Below.refl _ _).alloc (Nat.le_refl _) o); clear hur; obtain rfl | rfl | rfl | rfl : k = 0 ∨ k = 1 ∨ k = 2 ∨ k = 3 := by omega
   · go_wp2_with fail; refine (HA.out 0 _ W1 b v5 v6 v36 (by omega) hkf (HBR.out.trans ((HAL.out _).mono HBR.out.size)) hbW (HI.out.next (HAL.out _))).mono ?_; rintro e w2 hq; have HQ := hid hq; clear hq
     by_cases hkl : 0 < f
     · obtain ⟨rfl, hI⟩ := HQ.out.yes hkl; have HI2 := hid hI; clear hI HQ; go_wp2
       go_roundw
       case rel => exact ⟨1, by omega, by omega, rfl, HI2⟩
       case measure => simp [intOf]
     · obtain ⟨rfl, hb2⟩ := HQ.out.no hkl; have HB2 := hid (HBR.out.trans (((HAL.out _).trans (hb2.mono (HAL.out _).size)).mono HBR.out.size)); clear hb2 HQ; go_wp2; go_ret2; unfold OpnQ; rw [if_pos (by omega)]; exact ⟨rfl, HB2.out⟩
   · go_wp2_with fail; refine (HA.out 1 _ W1 b v5 v6 v36 (by omega) hkf (HBR.out.trans ((HAL.out _).mono HBR.out.size)) hbW (HI.out.next (HAL.out _))).mono ?_; rintro e w2 hq; have HQ := hid hq; clear hq
     by_cases hkl : 1 < f
     · obtain ⟨rfl, hI⟩ := HQ.out.yes hkl; have HI2 := hid hI; clear hI HQ; go_wp2
       go_roundw
       case rel => exact ⟨2, by omega, by omega, rfl, HI2⟩
       case measure => simp [intOf]
     · obtain ⟨rfl, hb2⟩ := HQ.out.no hkl; have HB2 := hid (HBR.out.trans (((HAL.out _).trans (hb2.mono (HAL.out _).size)).mono HBR.out.size)); clear hb2 HQ; go_wp2; go_ret2; unfold OpnQ; rw [if_pos (by omega)]; exact ⟨rfl, HB2.out⟩
   · go_wp2_with fail; refine (HA.out 2 _ W1 b v5 v6 v36 (by omega) hkf (HBR.out.trans ((HAL.out _).mono HBR.out.size)) hbW (HI.out.next (HAL.out _))).mono ?_; rintro e w2 hq; have HQ := hid hq; clear hq
     by_cases hkl : 2 < f
     · obtain ⟨rfl, hI⟩ := HQ.out.yes hkl; have HI2 := hid hI; clear hI HQ; go_wp2
       go_roundw
       case rel => exact ⟨3, by omega, by omega, rfl, HI2⟩
       case measure => simp [intOf]
     · obtain ⟨rfl, hb2⟩ := HQ.out.no hkl; have HB2 := hid (HBR.out.trans (((HAL.out _).trans (hb2.mono (HAL.out _).size)).mono HBR.out.size)); clear hb2 HQ; go_wp2; go_ret2; unfold OpnQ; rw [if_pos (by omega)]; exact ⟨rfl, HB2.out⟩
   · go_wp2; go_ret2; obtain rfl : f = 3 := by omega
     unfold OpnQ; rw [if_neg (by omega)]; exact ⟨W1, b, v5, v6, v36, rfl, HRB.out, hbW, HBW.out, HLD.out, HOO.out, HI.out⟩
def jhn (v : Value) : Prop := ∀ a n c, v = .slice a n c → n ≤ c
theorem bhid {p : Prop} (h : p) : Hid p := h
theorem jat {P : Program} {t : TypeId} {z : Value} {s b : Nat} (h : (P.info? t).map (fun i => (i.zero, i.size, i.bytes)) = some (some z, s, b)) : ∃ i, P.info? t = some i ∧ i.zero = some z ∧ i.size = s ∧ i.bytes = b := by
 cases hi : P.info? t with
 | none => rw [hi] at h; cases h
 | some i =>
   rw [hi] at h; simp only [Option.map_some, Option.some.injEq, Prod.mk.injEq] at h; exact ⟨i, rfl, h.1, h.2.1, h.2.2⟩
theorem jh5 : (Tryz.prog.info? 5).map (fun i => (i.zero, i.size, i.bytes)) = some (some (.int .u8 0), 1, 1) := by kernel_rfl
def byC (l : List UInt8) : List Value := l.map fun c => .int .u8 c.toNat
theorem jhz (l r : List UInt8) : byC (l ++ r) = byC l ++ byC r := List.map_append
theorem jly (l : List UInt8) : (byC l).length = l.length := List.length_map _
theorem jlz (l : List UInt8) : ∀ u ∈ byC l, u.oneCell' = true := by
 intro u hu; obtain ⟨c, _, rfl⟩ := List.mem_map.1 hu; rfl
theorem jlA (l : List UInt8) : Lib.strCells (S l) = byC l := by
 unfold Lib.strCells byC; rw [show (S l).data.toList = l from jw l]
def BysM (Q : Nat → Prop) (w : World) (v : Value) (l : List UInt8) : Prop :=
 ∃ a c, v = .slice a l.length c ∧ l.length ≤ c ∧ l.length ≤ maxLen ∧ ∀ (j : Nat) (x : UInt8), l[j]? = some x → ∃ b o, a = some ⟨b, o, none⟩ ∧ Q b ∧ w.cell? ⟨b, o + j, none⟩ = some (.int .u8 x.toNat)
theorem BysM.nil (Q : Nat → Prop) (w : World) (a : Option Addr) (c : Nat) : BysM Q w (.slice a 0 c) [] := ⟨a, c, rfl, Nat.zero_le _, Nat.zero_le _, fun j x h => by simp at h⟩
theorem BysM.imp {Q Q' : Nat → Prop} {w w' : World} {v : Value} {l : List UInt8} (h : BysM Q w v l) (hq : ∀ b, Q b → Q' b) (hk : ∀ b, b < w.heap.size → Q b → w'.heap[b]? = w.heap[b]?) : BysM Q' w' v l := by
 obtain ⟨a, c, h1, h2, h3, h4⟩ := h; refine ⟨a, c, h1, h2, h3, fun j x hx => ?_⟩; obtain ⟨b, o, e, q, hc⟩ := h4 j x hx; exact ⟨b, o, e, hq b q, (World.cell?_of_block (w := w) (hk b (World.block_lt_of_cell? w _ hc) q)).trans hc⟩
theorem BysM.next {Q : Nat → Prop} {w w' : World} {v : Value} {l : List UInt8} (h : BysM Q w v l) (hb : Below w.heap.size w w') : BysM Q w' v l := h.imp (fun _ h => h) fun b hlt _ => hb.block b hlt
theorem BysM.slice {Q : Nat → Prop} {w : World} {v : Value} {l : List UInt8} (h : BysM Q w v l) : ∃ a c, v = .slice a l.length c ∧ l.length ≤ c ∧ l.length ≤ maxLen := by
 obtain ⟨a, c, h1, h2, h3, _⟩ := h; exact ⟨a, c, h1, h2, h3⟩
theorem BysM.at {Q : Nat → Prop} {w : World} {a : Option Addr} {n c : Nat} {l : List UInt8} (h : BysM Q w (.slice a n c) l) {j : Nat} {x : UInt8} (hx : l[j]? = some x) : ∃ b o, a = some ⟨b, o, none⟩ ∧ Q b ∧ w.cell? ⟨b, o + j, none⟩ = some (.int .u8 x.toNat) := by
 obtain ⟨a', c', h1, _, _, h4⟩ := h; simp only [Value.slice.injEq] at h1; obtain ⟨rfl, _, rfl⟩ := h1; exact h4 j x hx
theorem BysM.take {Q : Nat → Prop} {w : World} {a : Option Addr} {n c : Nat} {l : List UInt8} (h : BysM Q w (.slice a n c) l) {k : Nat} (hk : k ≤ l.length) : BysM Q w (.slice a k c) (l.take k) := by
 obtain ⟨a', c', h1, h2, h3, h4⟩ := h; simp only [Value.slice.injEq] at h1; obtain ⟨rfl, _, rfl⟩ := h1; have hl : (l.take k).length = k := by rw [List.length_take]; omega
 refine ⟨a, c, by rw [hl], by omega, by omega, fun j x hx => ?_⟩; have hj : j < k := by have := (List.getElem?_eq_some_iff.1 hx).1; omega
 exact h4 j x (by rw [List.getElem?_take_of_lt hj] at hx; exact hx)
theorem BysM.drop {Q : Nat → Prop} {w : World} {a : Addr} {n c : Nat} {l : List UInt8} (h : BysM Q w (.slice (some a) n c) l) {k : Nat} (hk : k ≤ l.length) : BysM Q w (.slice (some (a.add k)) (l.length - k) (c - k)) (l.drop k) := by
 obtain ⟨a', c', h1, h2, h3, h4⟩ := h; simp only [Value.slice.injEq] at h1; obtain ⟨rfl, _, rfl⟩ := h1; have hl : (l.drop k).length = l.length - k := by simp
 refine ⟨_, _, by rw [hl], by omega, by omega, fun j x hx => ?_⟩; rw [List.getElem?_drop] at hx; obtain ⟨b, o, e, q, hc⟩ := h4 _ x hx; simp only [Option.some.injEq] at e; subst e; exact ⟨b, o + k, by rw [Addr.add_lit], q, by rw [Nat.add_assoc]; exact hc⟩
theorem jix {B n : Nat} {w : World} {v : Value} {l : List UInt8} {Q : Nat → Prop} (h : w.ownsRow B 5 1 v n (byC l)) (hn : n = l.length) (hm : n ≤ maxLen) (hQ : ∀ g, v.ownBlock = some g → Q g) : BysM Q w v l := by
 subst hn
 rcases h.2 with ⟨rfl, h0⟩ | ⟨g, cap, cur, rfl, hb, hg, h1, h2, h3, ht⟩
 · have : l = [] := List.length_eq_zero_iff.1 h0; subst this; exact BysM.nil _ _ _ _
 · refine ⟨some ⟨g, 0, none⟩, cap, rfl, h1, hm, fun j x hx => ⟨g, 0, rfl, hQ g rfl, ?_⟩⟩; have := World.ownsRow.cells h (g := g) rfl j (.int .u8 x.toNat) (by unfold byC; rw [List.getElem?_map, hx]; rfl); rw [Addr.add_lit] at this; exact this
theorem jfy {B n k : Nat} {e : TypeId} {w : World} {v : Value} {xs : List Value} (h : w.ownsRow B e k v n xs) : ∃ a c, v = .slice a n c ∧ n ≤ c := by
 rcases h.2 with ⟨rfl, h0⟩ | ⟨g, cap, cur, rfl, hb, hg, h1, _⟩
 · exact ⟨none, 0, by rw [h0], by omega⟩
 · exact ⟨_, _, rfl, h1⟩
theorem jg6 {Q : Nat → Prop} {base n m c : Nat} {ty : TypeId} {w : World} {v : Value} {xs : List Value} {a : Option Addr} {l : List UInt8} (hown : w.ownsRow base 5 1 v n xs) (hs : BysM Q w (.slice a m c) l)
 (h63 : n + m ≤ maxLen) (hbytes : n + m ≤ 140737488355328) (hbase : base ≤ w.heap.size) :
 ∃ v' w', (Builtin.append_ #[58, 58] ty #[v, .slice a m c]).run Tryz.prog w = .ok v' w' ∧ w'.ownsRow base 5 1 v' (n + m) (xs ++ byC l) ∧ w.grownBy w' v.ownBlock ∧ (∀ k, v'.ownBlock = some k → v.ownBlock = some k ∨ w.heap.size ≤ k) := by
 obtain ⟨i0, hi, hz0, hz1, hz2⟩ := jat jh5; obtain ⟨a', c', h1, h2, h3, h4⟩ := hs; simp only [Value.slice.injEq] at h1; obtain ⟨rfl, rfl, rfl⟩ := h1; cases a with
 | none =>
   have : l = [] := by
    cases l with
    | nil => rfl
    | cons x l => obtain ⟨b, o, e, _⟩ := h4 0 x rfl; cases e
   subst this; refine ⟨v, w, ?_, by simpa [byC] using hown, ⟨rfl, rfl, rfl, Nat.le_refl _, fun _ _ _ => rfl⟩, fun k hk => .inl hk⟩
   rcases hown.2 with ⟨rfl, rfl⟩ | ⟨g, cap, cur, rfl, hbg, hg, hnc, hcm, hcs, htake⟩
   · simp [Builtin.append_, run_underlying Tryz.underlying58, sizeOf, typeInfo, hi, Builtin.lenOf, Builtin.firstCells]
   · simp [Builtin.append_, run_underlying Tryz.underlying58, sizeOf, typeInfo, hi, Builtin.lenOf, Builtin.firstCells, storeCells, hnc]
 | some a =>
   by_cases h0 : l.length = 0
   · have : l = [] := List.length_eq_zero_iff.1 h0; subst this; refine ⟨v, w, ?_, by simpa [byC] using hown, ⟨rfl, rfl, rfl, Nat.le_refl _, fun _ _ _ => rfl⟩, fun k hk => .inl hk⟩
     rcases hown.2 with ⟨rfl, rfl⟩ | ⟨g, cap, cur, rfl, hbg, hg, hnc, hcm, hcs, htake⟩
     · simp [Builtin.append_, run_underlying Tryz.underlying58, sizeOf, typeInfo, hi, Builtin.lenOf, Builtin.firstCells, loadCells, loadCellsFrom]
     · simp [Builtin.append_, run_underlying Tryz.underlying58, sizeOf, typeInfo, hi, Builtin.lenOf, Builtin.firstCells, loadCells, loadCellsFrom, storeCells, hnc]
   · obtain ⟨g, cap, w', hr, q1, q2, q3, _⟩ := run_append_lies (P := Tryz.prog) w 58 ty base 5 i0 (.int .u8 0) 1 1 Tryz.underlying58 hi hz0 hz1 hz2 rfl (by decide) v n xs hown a l.length c (byC l) (by rw [jly]; omega) (fun j u hj => by
        unfold byC at hj; rw [List.getElem?_map] at hj; cases hx : l[j]? with
        | none => rw [hx] at hj; cases hj
        | some x =>
          rw [hx] at hj; simp only [Option.map_some, Option.some.injEq] at hj; subst hj; obtain ⟨b, o, e, _, hc⟩ := h4 j x hx; cases e; rw [Addr.add_lit]; exact hc) (jlz l) (by omega) h63 (by omega) hbase w.heap.size rfl
     refine ⟨_, w', hr, q1, q2, fun k hk => ?_⟩; simp only [Value.ownBlock, Option.some.injEq] at hk; subst hk
     rcases q3 with q | q
     · exact .inl q
     · exact .inr (by omega)
theorem jaS {Q0 : Nat → Prop} {base n m c : Nat} {w : World} {v : Value} {xs : List Value} {ad : Option Addr} {l : List UInt8} {ops : Array Oper} {rest : List Oper} {o : Oper} {a : Act} {Q : Exit → Act → World → Prop} (hgd : o.guard = none) (s x : Operand)
 (ho : o.op = .call { callee := .builtin .append, args := #[s, x], argTypes := #[58, 58] }) (hs : a.eval s = v) (hown : w.ownsRow base 5 1 v n xs) (hx : a.eval x = .slice ad m c) (hsrc : BysM Q0 w (.slice ad m c) l)
 (h63 : n + m ≤ maxLen) (hbytes : n + m ≤ 140737488355328) (hbase : base ≤ w.heap.size)
 (h : ∀ a' c' w', w'.ownsRow base 5 1 (.slice a' (n + m) c') (n + m) (xs ++ byC l) → w.grownBy w' v.ownBlock → (∀ k, (Value.slice a' (n + m) c').ownBlock = some k → v.ownBlock = some k ∨ w.heap.size ≤ k) → wpList Tryz.prog ops Q rest (a.put o.dst (.slice a' (n + m) c')) w') : wpList Tryz.prog ops Q (o :: rest) a w := by
 refine wpList_plain hgd fun K hK => ?_
 obtain ⟨v', w', hr, h2, h3, h4⟩ := jg6 (ty := o.type) hown hsrc h63 hbytes hbase; obtain ⟨a', c', rfl, _⟩ := jfy h2; unfold Oper.wp execOp; simp only [ho, resolve, invoke, builtin, Sem.run_bind, Sem.run_pure, Result.andThen_ok, List.map_toArray, List.map_cons, List.map_nil, hs, hx, hr]; exact hK _ _ (h a' c' w' h2 h3 h4)
theorem jfd {base n : Nat} {ty : TypeId} {w : World} {v : Value} {xs : List Value} {l : List UInt8} (hown : w.ownsRow base 5 1 v n xs)
 (h63 : n + l.length ≤ maxLen) (hbytes : n + l.length ≤ 140737488355328) (hbase : base ≤ w.heap.size) :
 ∃ v' w', (Builtin.append_ #[58, 9] ty #[v, .string (S l)]).run Tryz.prog w = .ok v' w' ∧ w'.ownsRow base 5 1 v' (n + l.length) (xs ++ byC l) ∧ w.grownBy w' v.ownBlock ∧ (∀ k, v'.ownBlock = some k → v.ownBlock = some k ∨ w.heap.size ≤ k) := by
 obtain ⟨i0, hi, hz0, hz1, hz2⟩ := jat jh5; obtain ⟨v', w', hr, h2, h3, h4⟩ := Lib.run_append_own_string (P := Tryz.prog) w base 58 9 ty 5 i0 Tryz.underlying58 Tryz.underlying9 hi hz0 hz1 hz2 v n xs hown (S l) (by rw [jd]; exact h63) (by rw [jd]; exact hbytes) hbase; rw [jd, jlA] at h2; rw [jd] at h4; refine ⟨v', w', hr, h2, h3, fun k hk => ?_⟩; have hsmall : n + l.length ≤ 9223372036854775807 := by simp only [maxLen] at h63; omega
 rcases hown.2 with ⟨rfl, rfl⟩ | ⟨g, cap, cur, rfl, hbg, hg, hnc, hcm, hcs, htake⟩
 · by_cases hm : l.length = 0
   · rw [h4.2 ⟨rfl, hm⟩] at hk; cases hk
   · have hr2 := run_append_nil_string (P := Tryz.prog) w 58 9 ty 5 i0 (.int .u8 0) Tryz.underlying58 Tryz.underlying9 hi hz0 (S l) (by rw [jd]; omega) (by rw [jd]; omega) (by rw [hz2, jd]; omega); rw [hr2] at hr; simp only [Result.ok.injEq] at hr; rw [← hr.1] at hk; cases hk; exact .inr (Nat.le_refl _)
 · by_cases hroom : n + l.length ≤ cap
   · have hcs' : cur.size = cap := by simpa using hcs
     have hr2 := Lib.run_append_room_string (P := Tryz.prog) w 58 9 ty 5 i0 Tryz.underlying58 Tryz.underlying9 hi hz1 g n cap cur hg (S l) (by rw [jd]; exact hroom) (by rw [jd]; omega); rw [hr2] at hr; simp only [Result.ok.injEq] at hr; rw [← hr.1] at hk; exact .inl hk
   · have holds : ∀ j u, xs[j]? = some u → w.cell? ((⟨g, 0, none⟩ : Addr).add j) = some u := hown.cells (g := g) rfl; have hr2 := Lib.run_append_grow_string (P := Tryz.prog) w 58 9 ty 5 i0 (.int .u8 0) Tryz.underlying58 Tryz.underlying9 hi hz0 ⟨g, 0, none⟩ n cap xs (by rw [hz1]; exact hown.1) holds (S l) (by rw [jd]; omega) (by rw [jd]; omega) (by rw [hz2, jd]; exact growslice_fits (by omega) (by omega)); rw [hr2] at hr; simp only [Result.ok.injEq] at hr; rw [← hr.1] at hk; cases hk; exact .inr (Nat.le_refl _)
theorem qD {base n : Nat} {w : World} {v : Value} {xs : List Value} {l : List UInt8} {ops : Array Oper} {rest : List Oper} {o : Oper} {a : Act} {Q : Exit → Act → World → Prop} (hgd : o.guard = none) (s x : Operand)
 (ho : o.op = .call { callee := .builtin .append, args := #[s, x], argTypes := #[58, 9] }) (hs : a.eval s = v) (hown : w.ownsRow base 5 1 v n xs) (hx : a.eval x = .string (S l))
 (h63 : n + l.length ≤ maxLen) (hbytes : n + l.length ≤ 140737488355328) (hbase : base ≤ w.heap.size)
 (h : ∀ a' c' w', w'.ownsRow base 5 1 (.slice a' (n + l.length) c') (n + l.length) (xs ++ byC l) → w.grownBy w' v.ownBlock → (∀ k, (Value.slice a' (n + l.length) c').ownBlock = some k → v.ownBlock = some k ∨ w.heap.size ≤ k) → wpList Tryz.prog ops Q rest (a.put o.dst (.slice a' (n + l.length) c')) w') : wpList Tryz.prog ops Q (o :: rest) a w := by
 refine wpList_plain hgd fun K hK => ?_
 obtain ⟨v', w', hr, h2, h3, h4⟩ := jfd (ty := o.type) hown h63 hbytes hbase; obtain ⟨a', c', rfl, _⟩ := jfy h2; unfold Oper.wp execOp; simp only [ho, resolve, invoke, builtin, Sem.run_bind, Sem.run_pure, Result.andThen_ok, List.map_toArray, List.map_cons, List.map_nil, hs, hx, hr]; exact hK _ _ (h a' c' w' h2 h3 h4)
theorem qp {w w' : World} {p : Nat} {o : Obj} (hb : Below w.heap.size w w') (h : w.heap[p]? = some o) : w'.heap[p]? = some o := (hb.block p (Array.getElem?_eq_some_iff.1 h).1).trans h
theorem j8 {w : World} {p : Nat} {v0 v1 : Value} {t : TypeId} (h : w.heap[p]? = some (.cells #[v0, v1] t)) : w.cell? ⟨p, 0, none⟩ = some v0 ∧ w.cell? ⟨p, 1, none⟩ = some v1 ∧ w.frozen? ⟨p, 0, none⟩ = false ∧ w.frozen? ⟨p, 1, none⟩ = false := by
 refine ⟨?_, ?_, ?_, ?_⟩ <;> simp [World.cell?, World.frozen?, h]
theorem jlw {w : World} {p : Nat} {v0 v1 u : Value} {t : TypeId} (h : w.heap[p]? = some (.cells #[v0, v1] t)) : (w.setCell ⟨p, 0, none⟩ u).heap[p]? = some (.cells #[u, v1] t) := by
 have := heap_setCell_same w p 0 #[v0, v1] t u h
 simpa using this
theorem jlx {w : World} {p : Nat} {v0 v1 u : Value} {t : TypeId} (h : w.heap[p]? = some (.cells #[v0, v1] t)) : (w.setCell ⟨p, 1, none⟩ u).heap[p]? = some (.cells #[v0, u] t) := by
 have := heap_setCell_same w p 1 #[v0, v1] t u h
 simpa using this
theorem jhw {w : World} {p : Nat} {v0 v1 u0 u1 : Value} {t : TypeId} (h : w.heap[p]? = some (.cells #[v0, v1] t)) : ((w.setCell ⟨p, 0, none⟩ u0).setCell ⟨p, 1, none⟩ u1).heap[p]? = some (.cells #[u0, u1] t) := jlx (jlw h)
theorem qq {w : World} {g j k : Nat} {u : Value} (h : k ≠ g) : (w.setCell ⟨g, j, none⟩ u).heap[k]? = w.heap[k]? := Below.heap_setCell _ _ _ _ h
theorem qQ {w w' : World} {B n k : Nat} {e : TypeId} {v : Value} {xs : List Value} (h : w.ownsRow B e k v n xs) (hk : ∀ g, v.ownBlock = some g → w'.heap[g]? = w.heap[g]?) : w'.ownsRow B e k v n xs := by
 refine ⟨h.1, ?_⟩
 rcases h.2 with hn | ⟨g, cap, cur, rfl, hb, hgg, rest⟩
 · exact .inl hn
 · exact .inr ⟨g, cap, cur, rfl, hb, (hk g rfl).trans hgg, rest⟩
theorem jeB {w : World} {B B' n k : Nat} {e : TypeId} {v : Value} {xs : List Value} (h : w.ownsRow B e k v n xs) (hB : B' ≤ B) : w.ownsRow B' e k v n xs := by
 refine ⟨h.1, ?_⟩
 rcases h.2 with hn | ⟨g, cap, cur, rfl, hb, hgg, rest⟩
 · exact .inl hn
 · exact .inr ⟨g, cap, cur, rfl, by omega, hgg, rest⟩
def mayN (n : Nat) (s : Int) : Bool := decide (n ≤ 100000) && (decide (0 ≤ s) && decide (s ≤ n))
def TpC (w : World) (l : List UInt8) (e : Ending) (w' : World) : Prop := ∃ a c, e = .returned (.slice a l.length c) ∧ w'.ownsRow w.heap.size 5 1 (.slice a l.length c) l.length (byC l) ∧ Below w.heap.size w w'
def TpP (w : World) (l : List UInt8) (s er : Int) (e : Ending) (w' : World) : Prop := ∃ a c, e = .returned (.tuple #[.agg #[.slice a l.length c, .int .i64 s], .int .i64 er]) ∧ w'.ownsRow w.heap.size 5 1 (.slice a l.length c) l.length (byC l) ∧ Below w.heap.size w w'
theorem jds (a : Option Addr) (n c : Nat) (s : Int) (w : World) :
 Calls Tryz.prog 83 #[.agg #[.slice a n c, .int .i64 s]] w fun e w' => e = .returned (.bool (mayN n s)) ∧ Below w.heap.size w w' := by
 have HB := bhid ((Below.refl w.heap.size w).alloc (Nat.le_refl _) (.cells #[.slice a n c, .int .i64 s] 60)); obtain ⟨r, hr⟩ : ∃ r, r = mayN n s := ⟨_, rfl⟩; have HR := bhid hr; rw [← hr]; clear hr; go_enter Tryz.func83, Tryz.ntmps83; go_wp2
 all_goals
  go_ret; refine ⟨?_, HB.out⟩; rw [HR.out]; unfold mayN
  simp [*]
  try omega
theorem jfB (a : Option Addr) (c : Nat) (l : List UInt8) (Q : Nat → Prop) (w : World) (h : BysM Q w (.slice a l.length c) l) (hl : l.length ≤ 140737488355328) :
 Calls Tryz.prog 84 #[.slice a l.length c] w (TpC w l) := by
 have q22 : ∀ (w : World) (a : Option Addr) (n c n' c' : Nat), (binOp .eql 58 (.slice a n c) (.slice none n' c')).run Tryz.prog w = .ok (.bool a.isNone) w := fun w a n c n' c' => Lib.run_eql_slice_nil w _ _ a n c n' c' Tryz.underlying58
 have hm : l.length ≤ maxLen := h.slice.elim fun _ h => h.elim fun _ h => h.2.2
 have HH := bhid h; cases a with
 | none =>
   have h0 : l = [] := by
    cases l with
    | nil => rfl
    | cons x l => obtain ⟨b, o, e, _⟩ := h.at (j := 0) (x := x) rfl; cases e
   subst h0; have HE := bhid (show TpC w [] (.returned (.slice none 0 0)) w from ⟨none, 0, rfl, World.ownsRow_nil _ _ _ _, Below.refl _ _⟩); clear h hl hm HH; go_enter Tryz.func84, Tryz.ntmps84; go_wp2; go_ret; exact HE.out
 | some ad =>
   clear h; go_enter Tryz.func84, Tryz.ntmps84
   go_wp2_with (at_builtin; refine jaS rfl _ _ rfl rfl (World.ownsRow_made w #[] 0 (Nat.le_refl _) (Nat.zero_le _) rfl) rfl (HH.out.next (nb0 _ _)) ?qc1 ?qc2 ?qc3 ?_)
   case qc1 => omega
   case qc2 => omega
   case qc3 => simp
   intro a' c' w1 hown hgrow hat; have HO := bhid hown; have HB := bhid (show Below w.heap.size w w1 from ((Below.refl _ w).alloc (Nat.le_refl _) _).grown hgrow (by simp) (by intro k hk; simp [Value.ownBlock] at hk; omega)); clear hown hgrow hat; have HE := bhid (show TpC w l (.returned (.slice a' (0 + l.length) c')) w1 by
    have h1 := HO.out; simp only [Nat.zero_add] at h1 ⊢; exact ⟨a', c', rfl, h1, HB.out⟩)
   go_wp2; go_ret
   simpa using HE.out
theorem jdu (w : World) (o1 o2 : Obj) : ((w.alloc o1).alloc o2).heap[w.heap.size]? = some o1 ∧ ((w.alloc o1).alloc o2).heap[w.heap.size + 1]? = some o2 := by
 constructor
 · have := Below.heap_alloc (w.alloc o1) o2 w.heap.size (by simp); rw [this]; exact heap_alloc_new w o1
 · have := heap_alloc_new (w.alloc o1) o2
   simpa using this
theorem jjd (w : World) (o1 o2 : Obj) : Below w.heap.size w ((w.alloc o1).alloc o2) := (nb0 _ _).alloc (by simp) _
theorem TpP.refused (w w1 : World) (er : Int) (p : Nat) (hp : w.heap.size ≤ p) (hb : Below w.heap.size w w1) : TpP w [] 0 er (.returned (.tuple #[.agg #[.slice none 0 0, .int .i64 0], .int .i64 er])) ((w1.setCell ⟨p, 0, none⟩ (.slice none 0 0)).setCell ⟨p, 1, none⟩ (.int .i64 0)) :=
 ⟨none, 0, rfl, World.ownsRow_nil _ _ _ _, (hb.setCell hp _).setCell hp _⟩
theorem TpP.done {w w1 w2 : World} {l : List UInt8} {s : Int} {p : Nat} {a : Option Addr} {c : Nat} (hp : w.heap.size ≤ p) (hp1 : p < w1.heap.size) (hb : Below w.heap.size w w1) (h : TpC w1 l (.returned (.slice a l.length c)) w2) : TpP w l s 0 (.returned (.tuple #[.agg #[.slice a l.length c, .int .i64 s], .int .i64 0])) ((w2.setCell ⟨p, 0, none⟩ (.slice a l.length c)).setCell ⟨p, 1, none⟩ (.int .i64 s)) := by
 obtain ⟨a', c', e, hO, hb2⟩ := h; cases e; refine ⟨a, c, rfl, ?_, ((hb.trans (hb2.mono hb.size)).setCell hp _).setCell hp _⟩; refine jeB (B := w1.heap.size) (qQ hO fun g hg => ?_) hb.size; have := (World.ownsRow.lt hO g hg).1; exact (qq (by omega)).trans (qq (by omega))
structure Cv where
 t : Value
 d : Value
 l : Value
structure Vals where
 td : Value
 sf : Value
 st : Value
 lo : Value
 sc : Value
 od : Value
 du : Value
 c0 : Cv
 c1 : Cv
 c2 : Cv
 os : List Value
 sv : List (Value × Value)
def Vals.con (X : Vals) : Nat → Cv
 | 0 => X.c0
 | 1 => X.c1
 | _ => X.c2
def Vals.put (X : Vals) (i : Nat) (c : Cv) : Vals :=
 match i with
 | 0 => { X with c0 := c }
 | 1 => { X with c1 := c }
 | _ => { X with c2 := c }
def conC (c : Con) (x : Cv) : List Value := [.int .i64 c.ses.step, .string (S c.ses.frm.1), .string (S c.ses.frm.2), x.t, .string (S c.ses.text), .bool c.ses.large, .string (S c.held), x.d, x.l]
def qX (R : Rom) (X : Vals) : List Value := [.bool R.up, X.td, .int .i64 R.tsyn, .int .i64 R.syn, .int .i64 R.waits, X.sf, X.st] ++ conC R.c0 X.c0 ++ conC R.c1 X.c1 ++ conC R.c2 X.c2 ++ [X.lo, X.sc, X.od, X.du]
def intR (t : TypeId) (v : Value) (l : List Int) : MRow := ⟨t, 1, v, l.length, l.map fun k => .int .i64 k⟩
def sttR (v : Value) (l : List (Value × Value)) : MRow := ⟨44, 2, v, l.length, (l.map fun x => [x.1, x.2]).flatten⟩
def ordR (v : Value) (l : List Value) : MRow := ⟨36, 1, v, l.length, l⟩
def jO (R : Rom) (X : Vals) : List MRow := [intR 3 X.c0.l R.c0.told, intR 3 X.c1.l R.c1.told, intR 3 X.c2.l R.c2.told, intR 3 X.du R.due, sttR X.st X.sv, ordR X.od X.os] ++ (List.range 3).map fun u => intR 37 (X.os.getD u (.slice none 0 0)) (R.orders.getD u [])
def IntsM (Q : Nat → Prop) (w : World) (v : Value) (l : List Int) : Prop := RowM Q 1 (fun x cs => cs = [.int .i64 x]) w v l
structure ConM (Q : Nat → Prop) (w : World) (c : Con) (x : Cv) : Prop where
 gl : AdrsM Q w x.t c.ses.to
 ry : jhn x.t
 du : IntsM Q w x.d c.due
def SttV (Q : Nat → Prop) (w : World) (s : Stt) (cs : List Value) : Prop := ∃ vb vs, cs = [vb, vs] ∧ SttM Q w vb vs s
def ScrV (Q : Nat → Prop) (w : World) (C : List Cmd) (cs : List Value) : Prop := ∃ a c, cs = [.slice a C.length c] ∧ jbz a C.length c ∧ CmdsM Q 5 w (.slice a C.length c) C
structure RoM (Q : Nat → Prop) (w : World) (K : List (List UInt8)) (Cs : List (List Cmd)) (R : Rom) (X : Vals) : Prop where
 k0 : ConM Q w R.c0 X.c0
 k1 : ConM Q w R.c1 X.c1
 k2 : ConM Q w R.c2 X.c2
 lo : TxtsM Q w X.lo K
 sc : RowM Q 1 (ScrV Q w) w X.sc Cs
 sf : RowM Q 2 (SttV Q w) w X.sf R.safe
 sv : X.sv.length = R.states.length ∧ ∀ (i : Nat) s x, R.states[i]? = some s → X.sv[i]? = some x → SttM Q w x.1 x.2 s
 os : X.os.length = 3 ∧ R.orders.length = 3
 td : BysM Q w X.td R.tape
def RoomM (K : List (List UInt8)) (Cs : List (List Cmd)) (B b : Nat) (G : List Nat) (R : Rom) (w : World) : Prop :=
 ∃ X, G = mB (jO R X) ∧ B ≤ b ∧ RmB w b (qX R X) ∧ MOk w B b (jO R X) ∧ RoM (AvN B b G) w K Cs R X
theorem BysM.stp {N b : Nat} {G G' : List Nat} {w w' : World} {v : Value} {l : List UInt8} (h : BysM (AvN N b G) w v l) (hs : Stp b G w G' w') : BysM (AvN N b G') w' v l := by
 obtain ⟨a, c, h1, h2, h3, h4⟩ := h; refine ⟨a, c, h1, h2, h3, fun j x hx => ?_⟩; obtain ⟨g, o, e, q, hc⟩ := h4 j x hx; have hg := World.block_lt_of_cell? w _ hc; exact ⟨g, o, e, ⟨q.1, hs.av hg q.2⟩, (World.cell?_of_block (hs.block g hg q.2)).trans hc⟩
theorem IntsM.stp {N b : Nat} {G G' : List Nat} {w w' : World} {v : Value} {l : List Int} (h : IntsM (AvN N b G) w v l) (hs : Stp b G w G' w') : IntsM (AvN N b G') w' v l := RowM.stpN h hs fun _ _ h => h
theorem AdrsM.stp {N b : Nat} {G G' : List Nat} {w w' : World} {v : Value} {l : List Adr} (h : AdrsM (AvN N b G) w v l) (hs : Stp b G w G' w') : AdrsM (AvN N b G') w' v l := RowM.stpN h hs fun _ _ h => h
theorem ConM.stp {N b : Nat} {G G' : List Nat} {w w' : World} {c : Con} {x : Cv} (h : ConM (AvN N b G) w c x) (hs : Stp b G w G' w') : ConM (AvN N b G') w' c x := ⟨h.gl.stp hs, h.ry, h.du.stp hs⟩
theorem SttM.stp {N b : Nat} {G G' : List Nat} {w w' : World} {vb vs : Value} {s : Stt} (h : SttM (AvN N b G) w vb vs s) (hs : Stp b G w G' w') : SttM (AvN N b G') w' vb vs s := by
 obtain ⟨h1, h2, h3⟩ := h; exact ⟨RowM.stpN h1 hs fun x cs h => by
  obtain ⟨v, k1, k2⟩ := h; exact ⟨v, k1, RowM.stpN k2 hs fun _ _ h => h⟩, RowM.stpN h2 hs fun _ _ h => h, h3⟩
theorem RoM.stp {N b : Nat} {G G' : List Nat} {w w' : World} {K : List (List UInt8)} {Cs : List (List Cmd)} {R : Rom} {X : Vals} (h : RoM (AvN N b G) w K Cs R X) (hs : Stp b G w G' w') : RoM (AvN N b G') w' K Cs R X where
 k0 := h.k0.stp hs
 k1 := h.k1.stp hs
 k2 := h.k2.stp hs
 lo := h.lo.stp hs
 sc := RowM.stpN h.sc hs fun _ _ h => by
  obtain ⟨a, c, h1, h2, h3⟩ := h; exact ⟨a, c, h1, h2, h3.stpN hs⟩
 sf := RowM.stpN h.sf hs fun _ _ h => by
  obtain ⟨a, c, h1, h2⟩ := h; exact ⟨a, c, h1, h2.stp hs⟩
 sv := ⟨h.sv.1, fun i s x hi hx => (h.sv.2 i s x hi hx).stp hs⟩
 os := h.os
 td := h.td.stp hs
theorem RoomM.next {K : List (List UInt8)} {Cs : List (List Cmd)} {B b : Nat} {G : List Nat} {R : Rom} {w w' : World} (h : RoomM K Cs B b G R w) (hb : Below w.heap.size w w') : RoomM K Cs B b G R w' := by
 obtain ⟨X, h1, h2, h3, h4, h5⟩ := h; exact ⟨X, h1, h2, h3.next hb, h4.next hb, h5.stp (.of hb)⟩
theorem RoomM.lt {K : List (List UInt8)} {Cs : List (List Cmd)} {B b : Nat} {G : List Nat} {R : Rom} {w : World} (h : RoomM K Cs B b G R w) : b < w.heap.size ∧ B ≤ b ∧ ∀ k ∈ G, B ≤ k ∧ k < w.heap.size := by
 obtain ⟨X, h1, h2, h3, h4, h5⟩ := h; exact ⟨h4.lt, h2, fun k hk => h4.rng k (by rw [← h1]; exact hk)⟩
theorem RoomM.low {K : List (List UInt8)} {Cs : List (List Cmd)} {B b : Nat} {G G' : List Nat} {R : Rom} {w w' : World} (h : RoomM K Cs B b G R w) (hs : Stp b G w G' w') : Below B w w' :=
 hs.below h.lt.2.1 (by have := h.lt; omega) fun k hk => (h.lt.2.2 k hk).1
theorem RmB.put {w : World} {b : Nat} {cs : List Value} (h : RmB w b cs) (j : Nat) (v : Value) : RmB (w.setCell ⟨b, j, none⟩ v) b (cs.set j v) := by
 refine ⟨?_, by simpa using h.2⟩; have := heap_setCell_same w b j _ _ v h.1; rw [this]
 simp
theorem RmB.frz {w : World} {b : Nat} {cs : List Value} (h : RmB w b cs) (j : Nat) : w.frozen? ⟨b, j, none⟩ = false := by simp [World.frozen?, h.1]
theorem RmB.ty {w : World} {b : Nat} {cs cs' : List Value} (h : RmB w b cs) (e : cs = cs') : RmB w b cs' := e ▸ h
theorem jc0 (R : Rom) (X : Vals) {i : Nat} (hi : i < 3) {k : Nat} (hk : k < 9) : (qX R X)[7 + i * 9 + k]? = (conC (R.con i) (X.con i))[k]? := by
 match i, hi with
 | 0, _ | 1, _ | 2, _ =>
   match k, hk with
   | 0, _ | 1, _ | 2, _ | 3, _ | 4, _ | 5, _ | 6, _ | 7, _ | 8, _ => rfl
theorem jiL (R : Rom) (X : Vals) {i : Nat} (hi : i < 3) (v : Value) (l : List Int) : (qX R X).set (7 + i * 9 + 8) v = qX (R.put i ⟨(R.con i).ses, (R.con i).held, (R.con i).due, l⟩) (X.put i ⟨(X.con i).t, (X.con i).d, v⟩) := by
 match i, hi with
 | 0, _ | 1, _ | 2, _ => rfl
theorem jkr (R : Rom) (X : Vals) {i : Nat} (hi : i < 3) (v : Value) (l : List Int) : (qX R X).set (7 + i * 9 + 7) v = qX (R.put i (dueC (R.con i) l)) (X.put i ⟨(X.con i).t, v, (X.con i).l⟩) := by
 match i, hi with
 | 0, _ | 1, _ | 2, _ => rfl
theorem jiK (R : Rom) (X : Vals) {i : Nat} (hi : i < 3) (h : List UInt8) : (qX R X).set (7 + i * 9 + 6) (.string (S h)) = qX (R.put i (jeV (R.con i) h)) (X.put i (X.con i)) := by
 match i, hi with
 | 0, _ | 1, _ | 2, _ => rfl
theorem vP (R : Rom) (X : Vals) {i : Nat} (hi : i < 3) : ∃ A Z, jO R X = A ++ intR 3 (X.con i).l (R.con i).told :: Z ∧ ∀ c x, jO (R.put i c) (X.put i x) = A ++ intR 3 x.l c.told :: Z := by
 match i, hi with
 | 0, _ => exact ⟨[], _, rfl, fun _ _ => rfl⟩
 | 1, _ => exact ⟨[_], _, rfl, fun _ _ => rfl⟩
 | 2, _ => exact ⟨[_, _], _, rfl, fun _ _ => rfl⟩
theorem RoM.con {Q : Nat → Prop} {w : World} {K : List (List UInt8)} {Cs : List (List Cmd)} {R : Rom} {X : Vals} (h : RoM Q w K Cs R X) {i : Nat} (hi : i < 3) : ConM Q w (R.con i) (X.con i) := by
 match i, hi with
 | 0, _ => exact h.k0
 | 1, _ => exact h.k1
 | 2, _ => exact h.k2
theorem RoM.put {Q : Nat → Prop} {w : World} {K : List (List UInt8)} {Cs : List (List Cmd)} {R : Rom} {X : Vals} (h : RoM Q w K Cs R X) {i : Nat} (hi : i < 3) {c : Con} {x : Cv} (hc : ConM Q w c x) : RoM Q w K Cs (R.put i c) (X.put i x) := by
 match i, hi with
 | 0, _ => exact ⟨hc, h.k1, h.k2, h.lo, h.sc, h.sf, h.sv, h.os, h.td⟩
 | 1, _ => exact ⟨h.k0, hc, h.k2, h.lo, h.sc, h.sf, h.sv, h.os, h.td⟩
 | 2, _ => exact ⟨h.k0, h.k1, hc, h.lo, h.sc, h.sf, h.sv, h.os, h.td⟩
theorem jdL {w : World} {b o i : Nat} {R : Rom} {X : Vals} (h : RmB w b (qX R X)) (hi : i < 3) (ho : o = 7 + i * 9) : w.cell? ⟨b, o, none⟩ = some (.int .i64 (R.con i).ses.step) ∧ w.cell? ⟨b, o + 1, none⟩ = some (.string (S (R.con i).ses.frm.1)) ∧ w.cell? ⟨b, o + 2, none⟩ = some (.string (S (R.con i).ses.frm.2)) ∧ w.cell? ⟨b, o + 3, none⟩ = some (X.con i).t ∧
 w.cell? ⟨b, o + 4, none⟩ = some (.string (S (R.con i).ses.text)) ∧ w.cell? ⟨b, o + 5, none⟩ = some (.bool (R.con i).ses.large) ∧ w.cell? ⟨b, o + 6, none⟩ = some (.string (S (R.con i).held)) ∧ w.cell? ⟨b, o + 7, none⟩ = some (X.con i).d ∧ w.cell? ⟨b, o + 8, none⟩ = some (X.con i).l := by
 subst ho; have hc : ∀ k, k < 9 → ∀ v, (conC (R.con i) (X.con i))[k]? = some v → w.cell? ⟨b, 7 + i * 9 + k, none⟩ = some v := fun k hk v hv => h.cell (by rw [jc0 R X hi hk]; exact hv)
 exact ⟨hc 0 (by omega) _ rfl, hc 1 (by omega) _ rfl, hc 2 (by omega) _ rfl, hc 3 (by omega) _ rfl, hc 4 (by omega) _ rfl, hc 5 (by omega) _ rfl, hc 6 (by omega) _ rfl, hc 7 (by omega) _ rfl, hc 8 (by omega) _ rfl⟩
theorem jlG {w : World} {b : Nat} {cs : List Value} (h : RmB w b cs) (o : Nat) : w.frozen? ⟨b, o, none⟩ = false ∧ w.frozen? ⟨b, o + 1, none⟩ = false ∧ w.frozen? ⟨b, o + 2, none⟩ = false ∧ w.frozen? ⟨b, o + 3, none⟩ = false ∧ w.frozen? ⟨b, o + 4, none⟩ = false ∧ w.frozen? ⟨b, o + 5, none⟩ = false ∧ w.frozen? ⟨b, o + 6, none⟩ = false ∧ w.frozen? ⟨b, o + 7, none⟩ = false ∧ w.frozen? ⟨b, o + 8, none⟩ = false :=
 ⟨h.frz _, h.frz _, h.frz _, h.frz _, h.frz _, h.frz _, h.frz _, h.frz _, h.frz _⟩
def RmQ (K : List (List UInt8)) (Cs : List (List Cmd)) (B b : Nat) (G : List Nat) (w : World) (R : Rom) (r : Value) (e : Ending) (w' : World) : Prop :=
 e = .returned r ∧ ∃ G', RoomM K Cs B b G' R w' ∧ Stp b G w G' w'
theorem jk3 : (Tryz.prog.info? 3).map (fun i => (i.zero, i.size, i.bytes)) = some (some (.int .i64 0), 1, 8) := by kernel_rfl
theorem ql {w : World} {B n k : Nat} {e : TypeId} {v : Value} {xs : List Value} (h : w.ownsRow B e k v n xs) : ∃ a c, v = .slice a n c ∧ n ≤ c := by
 rcases h.2 with ⟨h1, h0⟩ | ⟨g, cap, _, h, _, _, hc, _⟩
 · exact ⟨none, 0, by rw [h1, h0], Nat.le_of_eq h0⟩
 · exact ⟨_, _, h, hc⟩
theorem jjb (K : List (List UInt8)) (Cs : List (List Cmd)) (B b : Nat) (G : List Nat) (R : Rom) (w : World) (hR : RoomM K Cs B b G R w) (i o : Nat) (hi : i < 3) (ho : o = 7 + i * 9) (ad : Addr) (c : Nat) (l : List Int) (hl : 0 < l.length) (hn : (R.con i).told.length + l.length ≤ 1000000000) (hc : ∀ j u, (l.map fun k => Value.int .i64 k)[j]? = some u → w.cell? (ad.add j) = some u) :
 Calls Tryz.prog 52 #[.pointer (some ⟨b, o, none⟩), .slice (some ad) l.length c] w (RmQ K Cs B b G w (R.put i (jhd (R.con i) l)) (.tuple #[])) := by
 obtain ⟨X, hG, hB, hX, hM, hQ⟩ := hR; obtain ⟨A, Z, hA, hA'⟩ := vP R X hi; obtain ⟨i0, hi0, hz0, hz1, hz2⟩ := info_parts jk3; have hown := hM.own (intR 3 (X.con i).l (R.con i).told) (by rw [hA]; simp); have h8 : w.cell? ⟨b, o + 8, none⟩ = some (X.con i).l := hX.cell (by rw [ho, jc0 R X hi (by omega)]; rfl); have HEND := hid (show ∀ (g cap : Nat) (w1 : World), w1.ownsRow B 3 1 (.slice (some ⟨g, 0, none⟩) ((R.con i).told.length + l.length) cap) ((R.con i).told.length + l.length) (((R.con i).told.map fun k => .int .i64 k) ++ l.map fun k => .int .i64 k) → w.grownBy w1 (X.con i).l.ownBlock → ((X.con i).l.ownBlock = some g ∨ g = w.heap.size) →
  RmQ K Cs B b G w (R.put i (jhd (R.con i) l)) (.tuple #[]) (.returned (.tuple #[])) (w1.setCell ⟨b, o + 8, none⟩ (.slice (some ⟨g, 0, none⟩) ((R.con i).told.length + l.length) cap)) ∧ w1.cell? ⟨b, o + 8, none⟩ = some (X.con i).l ∧ w1.frozen? ⟨b, o + 8, none⟩ = false from fun g cap w1 h1 h2 h3 => by
  have hM' := hM; rw [hA] at hM'; obtain ⟨k1, k2⟩ := hM'.grow (H := w.heap.size) (r' := intR 3 (.slice (some ⟨g, 0, none⟩) ((R.con i).told.length + l.length) cap) ((R.con i).told ++ l)) h2 (by simpa [intR] using h1) (Nat.le_refl _) (fun g' e => by cases e; exact h3.imp id fun h => Nat.le_of_eq h.symm); have hbx : w1.heap[b]? = w.heap[b]? := h2.block b hM.lt fun e => hM.far (by rw [hA]; exact List.mem_filterMap.2 ⟨intR 3 (X.con i).l (R.con i).told, by simp, e.symm⟩)
  have hX1 : RmB w1 b (qX R X) := ⟨hbx.trans hX.1, hX.2⟩; refine ⟨⟨rfl, _, ⟨X.put i ⟨(X.con i).t, (X.con i).d, .slice (some ⟨g, 0, none⟩) ((R.con i).told.length + l.length) cap⟩, rfl, hB, ?_, ?_, ?_⟩, ?_⟩, ?_, ?_⟩
  · rw [ho]; exact (hX1.put _ _).ty (jiL R X hi _ _)
  · rw [hA']; exact k1.box _ _
  · rw [hG] at hQ; rw [hA'] at *; rw [hA] at hQ; have hQ2 := hQ.stp (k2.box (o + 8) (.slice (some ⟨g, 0, none⟩) ((R.con i).told.length + l.length) cap)); have hc2 := hQ2.con hi; exact hQ2.put hi ⟨hc2.gl, hc2.ry, hc2.du⟩
  · rw [hG, hA', hA]; exact k2.box _ _
  · exact (World.cell?_of_block hbx).trans h8
  · exact hX1.frz _)
 have hbB : B ≤ w.heap.size := by have := hM.lt; omega
 obtain ⟨al, cl, hal, hcap⟩ := ql hown; simp only [intR] at hal hown; rw [hal] at h8 hown HEND; have HO := hid hown; clear hM hQ hX hA hA' hown hG hal ho; go_enter Tryz.func52, Tryz.ntmps52
 go_wp2_with (first
  | (at_builtin; refine wpList_append_lies _ rfl _ _ 69 rfl B 3 i0 _ 1 8 Tryz.underlying69 hi0 hz0 hz1 hz2 rfl (by decide) (.slice al (R.con i).told.length cl) (R.con i).told.length ((R.con i).told.map fun k => .int .i64 k) rfl HO.out ad l.length c (l.map fun k => .int .i64 k) rfl ?q1 hc ?q2 hl ?q3 ?q4 ?q5 w.heap.size rfl ?_)
  | fail)
 case q1 => simp
 case q2 =>
  intro u hu; obtain ⟨k, _, rfl⟩ := List.mem_map.1 hu; rfl
 case q3 => unfold maxLen; omega
 case q4 => omega
 case q5 => exact hbB
 intro g cap w1 hown hgrow hat hlt; obtain ⟨HF, z0, z1⟩ := HEND.out g cap w1 hown hgrow hat; have HF := hid HF; clear hown hgrow hat HEND; go_wp2; go_end0; exact HF.out
theorem jfR {A : Type} : ∀ {l : List A} {j : Nat} {v : A}, l[j]? = some v → l.set j v = l
 | [], _, _, h => by simp at h
 | _ :: _, 0, _, h => by cases h; rfl
 | _ :: l, j + 1, _, h => congrArg _ (jfR (l := l) h)
theorem jkK (c : Con) : jhd c [] = c := by cases c; simp [jhd]
theorem jc1 (R : Rom) (i : Nat) (hi : i < 3) : R.put i (R.con i) = R := by
 match i, hi with
 | 0, _ | 1, _ | 2, _ => rfl
theorem jja (K : List (List UInt8)) (Cs : List (List Cmd)) (B b : Nat) (G : List Nat) (R : Rom) (w : World) (hR : RoomM K Cs B b G R w) (i o : Nat) (hi : i < 3) (ho : o = 7 + i * 9) (a : Option Addr) (c : Nat) (hn : (R.con i).told.length ≤ 1000000000) :
 Calls Tryz.prog 52 #[.pointer (some ⟨b, o, none⟩), .slice a 0 c] w (RmQ K Cs B b G w R (.tuple #[])) := by
 obtain ⟨X, hG, hB, hX, hM, hQ⟩ := hR; obtain ⟨A, Z, hA, hA'⟩ := vP R X hi; have hown := hM.own (intR 3 (X.con i).l (R.con i).told) (by rw [hA]; simp); obtain ⟨al, cl, hal, hcap⟩ := ql hown; simp only [intR] at hal hown hcap; have hc8 : (qX R X)[o + 8]? = some (.slice al (R.con i).told.length cl) := by rw [ho, jc0 R X hi (by omega), ← hal]; rfl
 have h8 : w.cell? ⟨b, o + 8, none⟩ = some (.slice al (R.con i).told.length cl) := hX.cell hc8; have z8 := hX.frz (o + 8); have HEND := hid (show RmQ K Cs B b G w R (.tuple #[]) (.returned (.tuple #[])) (w.setCell ⟨b, o + 8, none⟩ (.slice al (R.con i).told.length cl)) from
  ⟨rfl, G, ⟨X, hG, hB, (hX.put _ _).ty (jfR hc8), hM.box _ _, hQ.stp ((Stp.refl b G w).box _ _)⟩, (Stp.refl b G w).box _ _⟩)
 generalize (R.con i).told.length = n at *; have hn2 : (n : Int) ≤ 1000000000 := by omega
 clear hM hQ hX hA hA' hown hG hal ho hc8; cases a <;> cases al
 all_goals
  go_enter Tryz.func52, Tryz.ntmps52; go_wp2; go_end0; exact HEND.out
theorem jg3 (R : Rom) (X : Vals) {i : Nat} (hi : i < 3) (k : Int) : (((((((((qX R X).set (7 + i * 9) (.int .i64 k)).set (7 + i * 9 + 1) (.string ⟨#[]⟩)).set (7 + i * 9 + 2) (.string ⟨#[]⟩)).set (7 + i * 9 + 3) (.slice none 0 0)).set (7 + i * 9 + 4) (.string ⟨#[]⟩)).set (7 + i * 9 + 5) (.bool false)).set (7 + i * 9 + 6) (.string ⟨#[]⟩)).set (7 + i * 9 + 7) (.slice none 0 0)).set (7 + i * 9 + 8) (X.con i).l = qX (R.put i (jbC (R.con i) k)) (X.put i ⟨.slice none 0 0, .slice none 0 0, (X.con i).l⟩) := by
 match i, hi with
 | 0, _ | 1, _ | 2, _ => rfl
theorem jhv (K : List (List UInt8)) (Cs : List (List Cmd)) (B b : Nat) (G : List Nat) (R : Rom) (w : World) (hR : RoomM K Cs B b G R w) (i o : Nat) (hi : i < 3) (ho : o = 7 + i * 9) (k : Int) :
 Calls Tryz.prog 31 #[.pointer (some ⟨b, o, none⟩), .int .i64 k] w (RmQ K Cs B b G w (R.put i (jbC (R.con i) k)) (.tuple #[])) := by
 obtain ⟨X, hG, hB, hX, hM, hQ⟩ := hR; obtain ⟨A, Z, hA, hA'⟩ := vP R X hi; have hown := hM.own (intR 3 (X.con i).l (R.con i).told) (by rw [hA]; simp); obtain ⟨al, cl, hal, hcap⟩ := ql hown; simp only [intR] at hal; obtain ⟨c0, c1, c2, c3, c4, c5, c6, c7, c8⟩ := jdL hX hi ho; obtain ⟨z0, z1, z2, z3, z4, z5, z6, z7, z8⟩ := jlG hX o; rw [hal] at c8; have hRb := jg3 R X hi k; rw [← ho, hal] at hRb; have HEND := hid (show ∀ w', RmB w' b (qX (R.put i (jbC (R.con i) k)) (X.put i ⟨.slice none 0 0, .slice none 0 0, (X.con i).l⟩)) → MOk w' B b (jO R X) → Stp b G w G w' → RmQ K Cs B b G w (R.put i (jbC (R.con i) k)) (.tuple #[]) (.returned (.tuple #[])) w' from fun w' h1 h2 h3 => by
  have e : jO (R.put i (jbC (R.con i) k)) (X.put i ⟨.slice none 0 0, .slice none 0 0, (X.con i).l⟩) = jO R X := by rw [hA', hA]; rfl
  exact ⟨rfl, G, ⟨_, by rw [e]; exact hG, hB, h1, by rw [e]; exact h2, (hQ.stp h3).put hi ⟨jj _ _ _ _ _ _, fun a n c h => by cases h; exact Nat.le_refl _, jj _ _ _ _ _ _⟩⟩, h3⟩)
 have HRB := hid hRb; have HX := hid hX; have HM := hid hM; rw [hal] at HEND; clear hRb hM hQ hX hA hA' hG ho hown hal hcap; go_enter Tryz.func31, Tryz.ntmps31; go_wp2; go_end0; exact HEND.out _ ((((((((((HX.out.put _ _).put _ _).put _ _).put _ _).put _ _).put _ _).put _ _).put _ _).put _ _).ty HRB.out) (((((((((HM.out.box _ _).box _ _).box _ _).box _ _).box _ _).box _ _).box _ _).box _ _).box _ _) ((((((((((Stp.refl b G w).box _ _).box _ _).box _ _).box _ _).box _ _).box _ _).box _ _).box _ _).box _ _)
end Go.Proofs.YtgooljlpffnaeaaGreatDoor
