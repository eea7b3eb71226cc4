/-
  What post.open does with three users: the walk.
-/
import Derived.Test.YtmgdnhjemhhleaaGreatDoorOQRegLt3
import Derived.Test.YtmgdnhjemhhleaaGreatDoorRows
import Derived.Laws.BytesArg
import Derived.Lib.AppendStr
import Derived.OwnWalk
set_option maxHeartbeats 2000000
set_option maxRecDepth 100000
namespace Go.Proofs.YtmgdnhjemhhleaaGreatDoor
open Go.RowKit Go.Proofs
def conZ : List Value := [.int .i64 0, .string ⟨#[]⟩, .string ⟨#[]⟩, .slice none 0 0, .string ⟨#[]⟩, .bool false, .string ⟨#[]⟩, .slice none 0 0, .slice none 0 0]
def jeA (v5 v6 v34 v35 v36 : Value) : List Value := [.bool true, .slice none 0 0, .int .i64 0, .int .i64 0, .int .i64 0, v5, v6] ++ conZ ++ conZ ++ conZ ++ [v34, v35, v36, .slice none 0 0]
def LdN (w : World) (B : Nat) (v5 v6 : Value) : Prop := ∃ bs, bs.length = 3 ∧ inbB w B bs ∧ w.ownsRow B 49 2 v5 3 (inbC bs) ∧ w.ownsRow B 49 2 v6 3 (inbC bs) ∧ ∀ q, v5.ownBlock = some q → v6.ownBlock ≠ some q
theorem LdN.next {w w' : World} {B : Nat} {v5 v6 : Value} (h : LdN w B v5 v6) (hb : Below w.heap.size w w') : LdN w' B v5 v6 := by
 obtain ⟨bs, h1, h2, h3, h4, h5⟩ := h; exact ⟨bs, h1, fun b hm => ⟨(h2 b hm).1, (hb.block b (Array.getElem?_eq_some_iff.1 (h2 b hm).2).1).trans (h2 b hm).2⟩, j2 h3 hb, j2 h4 hb, h5⟩
theorem LdN.mk {w : World} {B B' : Nat} {v5 v6 : Value} {bs : List Nat} (hB : B' ≤ B) (h1 : bs.length = 3) (h2 : inbB w B bs) (h3 : w.ownsRow B 49 2 v5 3 (inbC bs)) (h4 : w.ownsRow B 49 2 v6 3 (inbC bs)) (h5 : ∀ q, v5.ownBlock = some q → v6.ownBlock ≠ some q) : LdN w B' v5 v6 :=
 ⟨bs, h1, fun b hm => ⟨Nat.le_trans hB (h2 b hm).1, (h2 b hm).2⟩, jb1 h3 hB, jb1 h4 hB, h5⟩
def OwO (w : World) (B : Nat) (v : Value) : Prop := w.ownsRow B 137 1 v 3 [.slice none 0 0, .slice none 0 0, .slice none 0 0]
theorem OwO.new {w w' : World} {B : Nat} {cur : Array Value} (hB : B ≤ w.heap.size) (hb : Below (w.alloc (.cells cur 137)).heap.size (w.alloc (.cells cur 137)) w') (hc : cur = #[.slice none 0 0, .slice none 0 0, .slice none 0 0]) : OwO w' B (.slice (some ⟨w.heap.size, 0, none⟩) 3 3) := by
 subst hc; exact j2 ⟨rfl, .inr ⟨w.heap.size, 3, _, rfl, hB, heap_alloc_new w _, by decide, by unfold maxLen; decide, rfl, rfl⟩⟩ hb
def OpnR (W : World) (p : Value) (wx : World) : Prop := ∃ (b : Nat) (v5 v6 v36 : Value), p = .pointer (some ⟨b, 0, none⟩) ∧ RmB wx b (jeA v5 v6 (.slice none 0 0) (.slice none 0 0) v36) ∧ W.heap.size ≤ b ∧ Below W.heap.size W wx ∧ LdN wx W.heap.size v5 v6 ∧ OwO wx W.heap.size v36
theorem OpnR.mk {W w : World} {v5 v6 v36 : Value} (h : Below W.heap.size W w) (h1 : LdN w W.heap.size v5 v6) (h2 : OwO w W.heap.size v36) : OpnR W (.pointer (some ⟨w.heap.size, 0, none⟩)) (w.alloc (.cells (jeA v5 v6 (.slice none 0 0) (.slice none 0 0) v36).toArray 85)) :=
 ⟨w.heap.size, v5, v6, v36, rfl, ⟨heap_alloc_new w _, rfl⟩, h.size, h.alloc h.size _, h1.next (nb0 _ _), j2 h2 (nb0 _ _)⟩
theorem OpnR.mkA {W w2 : World} {v5 v6 : Value} {cur : Array Value} (h : Below W.heap.size W w2) (h1 : LdN w2 W.heap.size v5 v6) (hc : cur = #[.slice none 0 0, .slice none 0 0, .slice none 0 0]) : OpnR W (.pointer (some ⟨w2.heap.size + 1, 0, none⟩)) ((w2.alloc (.cells cur 137)).alloc (.cells (jeA v5 v6 (.slice none 0 0) (.slice none 0 0) (.slice (some ⟨w2.heap.size, 0, none⟩) 3 3)).toArray 85)) := by
 have := OpnR.mk (h.alloc h.size _) (h1.next ((Below.refl _ _).alloc (Nat.le_refl _) (.cells cur 137))) (OwO.new h.size (Below.refl _ _) hc)
 simpa using this
def ScsM (Q : Nat → Prop) (w : World) (X : List Value) (Cs : List (List Cmd)) : Prop := X.length = Cs.length ∧ ∀ (i : Nat) x, X[i]? = some x → ∃ C a c, Cs[i]? = some C ∧ x = .slice a C.length c ∧ jbl a C.length c ∧ CmdsM Q 5 w x C
theorem CmdsM.stpN {N b : Nat} {G G' : List Nat} {w w' : World} {n : Nat} {v : Value} {l : List Cmd} (h : CmdsM (AvN N b G) n w v l) (hs : Stp b G w G' w') : CmdsM (AvN N b G') n w' v l :=
 RowM.imp (CmdsM.stp h hs fun _ hq _ => hq.2) (fun _ hk => ⟨hk.1.1, hk.2⟩) (Keeps.refl _ _) fun _ _ hx => CmdM.imp (fun _ hk => ⟨hk.1.1, hk.2⟩) (Keeps.refl _ _) _ _ _ hx
theorem ScsM.stp {N b : Nat} {G G' : List Nat} {w w' : World} {X : List Value} {Cs : List (List Cmd)} (h : ScsM (AvN N b G) w X Cs) (hs : Stp b G w G' w') : ScsM (AvN N b G') w' X Cs := ⟨h.1, fun i x hx => by
 obtain ⟨C, a, c, h1, h2, h3, h4⟩ := h.2 i x hx; exact ⟨C, a, c, h1, h2, h3, h4.stpN hs⟩⟩
theorem ScsM.add {Q : Nat → Prop} {w : World} {X : List Value} {Cs : List (List Cmd)} {C : List Cmd} {a : Option Addr} {c : Nat} (h : ScsM Q w X Cs) (hr : jbl a C.length c) (hC : CmdsM Q 5 w (.slice a C.length c) C) : ScsM Q w (X ++ [.slice a C.length c]) (Cs ++ [C]) := by
 refine ⟨by simp [h.1], fun i x hx => ?_⟩
 rcases Nat.lt_or_ge i X.length with hi | hi
 · rw [List.getElem?_append_left hi] at hx; obtain ⟨D, a', c', h1, h2⟩ := h.2 i x hx; exact ⟨D, a', c', by rw [List.getElem?_append_left (by rw [← h.1]; exact hi)]; exact h1, h2⟩
 · rw [List.getElem?_append_right hi] at hx; have h0 : i - X.length = 0 := by
    rcases Nat.eq_zero_or_pos (i - X.length) with e | e
    · exact e
    · rw [List.getElem?_eq_none (by simp; omega)] at hx; cases hx
   rw [h0] at hx; cases hx; exact ⟨C, a, c, by rw [List.getElem?_append_right (by rw [← h.1]; exact hi), ← h.1, h0]; rfl, rfl, hr, hC⟩
def RoI (W1 : World) (B b : Nat) (v5 v6 v36 : Value) (L : List (List UInt8)) (Cs : List (List Cmd)) (w : World) : Prop :=
 ∃ v34 v35 X, RmB w b (jeA v5 v6 v34 v35 v36) ∧ MOk w B b [locR v34 L, scrR v35 X] ∧ ScsM (AvN W1.heap.size b (mB [locR v34 L, scrR v35 X])) w X Cs ∧ Stp b [] W1 (mB [locR v34 L, scrR v35 X]) w
theorem RoI.next {W1 w w' : World} {B b : Nat} {v5 v6 v36 : Value} {L : List (List UInt8)} {Cs : List (List Cmd)} (h : RoI W1 B b v5 v6 v36 L Cs w) (hb : Below w.heap.size w w') : RoI W1 B b v5 v6 v36 L Cs w' := by
 obtain ⟨v34, v35, X, h1, h2, h3, h4⟩ := h; exact ⟨v34, v35, X, h1.next hb, h2.next hb, h3.stp (.of hb), h4.trans (.of hb)⟩
theorem RoI.start {W1 : World} {B b : Nat} {v5 v6 v36 : Value} (h : RmB W1 b (jeA v5 v6 (.slice none 0 0) (.slice none 0 0) v36)) : RoI W1 B b v5 v6 v36 [] [] W1 :=
 ⟨_, _, [], h, ⟨fun r hr => by
  simp only [List.mem_cons, List.not_mem_nil, or_false] at hr
  rcases hr with rfl | rfl
  · exact World.ownsRow_nil _ _ _ _
  · exact World.ownsRow_nil _ _ _ _, by simp [mB, locR, scrR, Value.ownBlock], by simp [mB, locR, scrR, Value.ownBlock], (Array.getElem?_eq_some_iff.1 h.1).1⟩, ⟨rfl, fun i x hx => by simp at hx⟩, by
  have h := Stp.refl b [] W1
  simpa [mB, locR, scrR, Value.ownBlock] using h⟩
theorem RoI.low {W1 w : World} {B b : Nat} {v5 v6 v36 : Value} {L : List (List UInt8)} {Cs : List (List Cmd)} (h : RoI W1 B b v5 v6 v36 L Cs w) (hB : B ≤ b) (hW : B ≤ W1.heap.size) : Below B W1 w := by
 obtain ⟨v34, v35, X, h1, h2, h3, h4⟩ := h; exact h4.below hB hW fun k hk => by cases hk
theorem RoI.take {W1 w : World} {B b : Nat} {v5 v6 v36 : Value} {L : List (List UInt8)} {Cs : List (List Cmd)} (h : RoI W1 B b v5 v6 v36 L Cs w) (hB : B ≤ b) (hL : L.length ≤ 10) (hC : Cs.length ≤ 10) (lo sc : List UInt8) (C : List Cmd) (hc : jS lo [120] = 0) (hl : lo.length ≤ 2000) (hm : L.contains lo = false)
 (hRd : ∀ v, Below w.heap.size w v → Calls Tryz.prog 36 #[.string (S sc)] v (RdP v 5 (C, 0))) :
 Calls Tryz.prog 22 #[.pointer (some ⟨b, 0, none⟩), .agg #[.string (S lo), .string (S sc)]] w fun e w' => e = .returned (.int .i64 0) ∧ RoI W1 B b v5 v6 v36 (L ++ [lo]) (Cs ++ [C]) w' := by
 obtain ⟨v34, v35, X, h1, h2, h3, h4⟩ := h; refine (jmT B b lo sc (jeA v5 v6 v34 v35 v36) L X v34 v35 w h1 rfl rfl h2 hB hL (by rw [h3.1]; exact hC) hc hl hm 5 C hRd).mono ?_; rintro e w' ⟨he, u34, u35, a, c, k1, k2, k3, k4, k5⟩; have hz := h4.size; exact ⟨he, u34, u35, _, k1, k2, (h3.stp k5).add k3 (RowM.imp k4 (fun _ hk => ⟨Nat.le_trans hz hk.1, hk.2⟩) (Keeps.refl _ _) fun _ _ hx => CmdM.imp (fun _ hk => ⟨Nat.le_trans hz hk.1, hk.2⟩) (Keeps.refl _ _) _ _ _ hx), h4.trans k5⟩
def OpnQ (w : World) (f : Nat) (r : Int) (L : List (List UInt8)) (Cs : List (List Cmd)) (e : Ending) (w' : World) : Prop :=
 if f < 3 then OpE w r e w' else ∃ W1 b v5 v6 v36, e = .returned (.tuple #[.pointer (some ⟨b, 0, none⟩), .int .i64 0]) ∧ RmB W1 b (jeA v5 v6 (.slice none 0 0) (.slice none 0 0) v36) ∧ w.heap.size ≤ b ∧ Below w.heap.size w W1 ∧ LdN W1 w.heap.size v5 v6 ∧ OwO W1 w.heap.size v36 ∧ RoI W1 w.heap.size b v5 v6 v36 L Cs w'
def AdQ (f : Nat) (r : Int) (W1 : World) (B b : Nat) (v5 v6 v36 : Value) (L : List (List UInt8)) (Cs : List (List Cmd)) (k : Nat) (v : World) (e : Ending) (v' : World) : Prop :=
 if k < f then e = .returned (.int .i64 0) ∧ RoI W1 B b v5 v6 v36 (L.take (k + 1)) (Cs.take (k + 1)) v' else AdE v r e v'
theorem AdQ.yes {f : Nat} {r : Int} {W1 : World} {B b : Nat} {v5 v6 v36 : Value} {L : List (List UInt8)} {Cs : List (List Cmd)} {k : Nat} {v v' : World} {e : Ending} (h : AdQ f r W1 B b v5 v6 v36 L Cs k v e v') (hk : k < f) : e = .returned (.int .i64 0) ∧ RoI W1 B b v5 v6 v36 (L.take (k + 1)) (Cs.take (k + 1)) v' := by
 unfold AdQ at h; rw [if_pos hk] at h; exact h
theorem AdQ.no {f : Nat} {r : Int} {W1 : World} {B b : Nat} {v5 v6 v36 : Value} {L : List (List UInt8)} {Cs : List (List Cmd)} {k : Nat} {v v' : World} {e : Ending} (h : AdQ f r W1 B b v5 v6 v36 L Cs k v e v') (hk : ¬ k < f) : AdE v r e v' := by
 unfold AdQ at h; rw [if_neg hk] at h; exact h
set_option linter.unusedSimpArgs false in
theorem jkB (p : Nat) (l0 s0 l1 s1 l2 s2 : List UInt8) (Cs : List (List Cmd)) (f : Nat) (hf : f ≤ 3) (r : Int) (hr : r ≠ 0) (w : World) (hu : w.heap[p]? = some (.cells #[.string (S l0), .string (S s0), .string (S l1), .string (S s1), .string (S l2), .string (S s2)] 59))
 (hA : ∀ (k : Nat) (v W1 : World) (b : Nat) (v5 v6 v36 : Value), k < 3 → k ≤ f → Below w.heap.size w v → w.heap.size ≤ b → RoI W1 w.heap.size b v5 v6 v36 ([l0, l1, l2].take k) (Cs.take k) v →
   Calls Tryz.prog 22 #[.pointer (some ⟨b, 0, none⟩), .agg #[.string (S ([l0, l1, l2].getD k [])), .string (S ([s0, s1, s2].getD k []))]] v (AdQ f r W1 w.heap.size b v5 v6 v36 [l0, l1, l2] Cs k v)) :
 Calls Tryz.prog 13 #[.slice (some ⟨p, 0, none⟩) 3 3] w (OpnQ w f r [l0, l1, l2] (Cs.take 3)) := by
 have HU := hid hu; have HA := hid hA; have HNL := hid (fun v => jdx 3 (by omega) v); obtain ⟨W, hW⟩ : ∃ W, W = w := ⟨_, rfl⟩; have HWW := hid hW; clear hu hA; go_enter Tryz.func13, Tryz.ntmps13; go_upto_region 3 with fail
 rw [← hW]; clear hW
 go_cut [4] (fun q wx => OpnR W q wx)
 case first =>
  refine wp_region_held_drew (S := fun u => True) (by kernel_rfl) ?_ (fun hHeld => ?_)
  · trivial
  refine wpAnyH_take (i := 0) (v := ?v1) rfl (by kernel_rfl) (by kernel_rfl) (by kernel_rfl) (fun _ _ _ h => h) (Or.inl ⟨by rfl, ?hy1⟩) (by assumption) ?_
  case hy1 =>
   intro w hSw
   (try dsimp only at hSw)
   go_simp
   all_goals with_reducible rfl
  change wpAnyH _ _ _ _ _ _ _ (Act.put _ (some 16) _) _
  try simp only [Act.put, List.setIfInBounds_toArray, List.set_cons_zero, List.set_cons_succ]
  refine wpAnyH_take (i := 1) (v := ?v2) rfl (by kernel_rfl) (by kernel_rfl) (by kernel_rfl) (fun _ _ _ h => h) (Or.inl ⟨by rfl, ?hy2⟩) (by assumption) ?_
  case hy2 =>
   intro w hSw
   (try dsimp only at hSw)
   go_simp
   all_goals with_reducible rfl
  change wpAnyH _ _ _ _ _ _ _ (Act.put _ (some 17) _) _
  try simp only [Act.put, List.setIfInBounds_toArray, List.set_cons_zero, List.set_cons_succ]
  refine wpAnyH_take (i := 3) (v := ?v3) rfl (by kernel_rfl) (by kernel_rfl) (by kernel_rfl) (fun _ _ _ h => h) (Or.inl ⟨by rfl, ?hy3⟩) (by assumption) ?_
  case hy3 =>
   intro w hSw
   (try dsimp only at hSw)
   go_simp
   all_goals with_reducible rfl
  change wpAnyH _ _ _ _ _ _ _ (Act.put _ (some 19) _) _
  try simp only [Act.put, List.setIfInBounds_toArray, List.set_cons_zero, List.set_cons_succ]
  refine wpAnyH_take (i := 4) (v := ?v4) rfl (by kernel_rfl) (by kernel_rfl) (by kernel_rfl) (fun _ _ _ h => h) (Or.inl ⟨by rfl, ?hy4⟩) (by assumption) ?_
  case hy4 =>
   intro w hSw
   (try dsimp only at hSw)
   go_simp
   all_goals with_reducible rfl
  change wpAnyH _ _ _ _ _ _ _ (Act.put _ (some 20) _) _
  try simp only [Act.put, List.setIfInBounds_toArray, List.set_cons_zero, List.set_cons_succ]
  refine wpAnyH_ready (rs := [2, 5]) (by kernel_rfl) (by simp) ?_; refine AllReadyH.cons rfl (fun K hK => ?_) ?_
  · skip
    go_simp
    refine (HNL.out _).mono ?_; rintro e w2 ⟨bs, sa, ta, cs, ct, rfl, hbl, hI, hO1, hO2, hAp, hb2⟩; have HB2 := hid (show Below W.heap.size W w2 from (show Below W.heap.size W _ from (by repeat (first | with_reducible exact Below.refl _ _ | with_reducible refine Below.drew ?_ | with_reducible refine Below.alloc ?_ (by first | exact Nat.le_refl _ | simp) _ | exact ((Below.refl _ W).drew.alloc (Nat.le_refl _) _)))).trans (hb2.mono (by first | exact Nat.le_refl _ | simp))); have HLN := hid (LdN.mk (B' := W.heap.size) (by first | exact Nat.le_refl _ | simp) hbl hI hO1 hO2 hAp); clear hI hO1 hO2 hb2 hbl hAp; go_wp2_with fail; refine hK.out _ _ ?_ (fun hHeld => ?_)
    · trivial
    clear hK K
    try simp only [Act.put, List.setIfInBounds_toArray, List.set_cons_zero, List.set_cons_succ]
    refine wpAnyH_ready (rs := [5]) (by kernel_rfl) (by simp) ?_; refine AllReadyH.cons rfl (fun K hK => ?_) AllReadyH.nil
    go_simp
    refine hK.out _ _ ?_ (fun hHeld => ?_)
    · trivial
    clear hK K
    try simp only [Act.put, List.setIfInBounds_toArray, List.set_cons_zero, List.set_cons_succ]
    refine wpAnyH_take (i := 6) (v := ?v5) rfl (by kernel_rfl) (by kernel_rfl) (by kernel_rfl) (fun _ _ _ h => h) (Or.inl ⟨by rfl, ?hy5⟩) (by assumption) ?_
    case hy5 =>
        intro w hSw
        (try dsimp only at hSw)
        go_simp
        all_goals with_reducible rfl
    change wpAnyH _ _ _ _ _ _ _ (Act.put _ (some 22) _) _
    try simp only [Act.put, List.setIfInBounds_toArray, List.set_cons_zero, List.set_cons_succ]
    refine wpAnyH_ready (rs := [7]) (by kernel_rfl) (by simp) ?_; refine AllReadyH.cons rfl (fun K hK => ?_) AllReadyH.nil
    go_simp
    refine hK.out _ _ ?_ (fun hHeld => ?_)
    · trivial
    clear hK K
    try simp only [Act.put, List.setIfInBounds_toArray, List.set_cons_zero, List.set_cons_succ]
    refine wpAnyH_take (i := 8) (v := ?v6) rfl (by kernel_rfl) (by kernel_rfl) (by kernel_rfl) (fun _ _ _ h => h) (Or.inl ⟨by rfl, ?hy6⟩) (by assumption) ?_
    case hy6 =>
        intro w hSw
        (try dsimp only at hSw)
        go_simp
        all_goals with_reducible rfl
    change wpAnyH _ _ _ _ _ _ _ (Act.put _ (some 4) _) _
    try simp only [Act.put, List.setIfInBounds_toArray, List.set_cons_zero, List.set_cons_succ]
    refine wpAnyH_done (by kernel_rfl) ?_ _; go_wp2_with fail
    go_meet
    exact OpnR.mkA HB2.out HLN.out (by kernel_rfl)
  refine AllReadyH.cons rfl (fun K hK => ?_) AllReadyH.nil
  go_simp
  refine hK.out _ _ ?_ (fun hHeld => ?_)
  · trivial
  clear hK K
  try simp only [Act.put, List.setIfInBounds_toArray, List.set_cons_zero, List.set_cons_succ]
  refine wpAnyH_ready (rs := [2]) (by kernel_rfl) (by simp) ?_; refine AllReadyH.cons rfl (fun K hK => ?_) AllReadyH.nil
  go_simp
  refine (HNL.out _).mono ?_; rintro e w2 ⟨bs, sa, ta, cs, ct, rfl, hbl, hI, hO1, hO2, hAp, hb2⟩; have HB2 := hid (show Below W.heap.size W w2 from (show Below W.heap.size W _ from (by repeat (first | with_reducible exact Below.refl _ _ | with_reducible refine Below.drew ?_ | with_reducible refine Below.alloc ?_ (by first | exact Nat.le_refl _ | simp) _ | exact ((Below.refl _ W).drew.alloc (Nat.le_refl _) _)))).trans (hb2.mono (by first | exact Nat.le_refl _ | simp))); have HLN := hid (LdN.mk (B' := W.heap.size) (by first | exact Nat.le_refl _ | simp) hbl hI hO1 hO2 hAp); have HO3 := hid (OwO.new (w := W.drew) (B := W.heap.size) (Nat.le_refl _) hb2 (by kernel_rfl)); clear hI hO1 hO2 hb2 hbl hAp; go_wp2_with fail; refine hK.out _ _ ?_ (fun hHeld => ?_)
  · trivial
  clear hK K
  try simp only [Act.put, List.setIfInBounds_toArray, List.set_cons_zero, List.set_cons_succ]
  refine wpAnyH_take (i := 6) (v := ?v7) rfl (by kernel_rfl) (by kernel_rfl) (by kernel_rfl) (fun _ _ _ h => h) (Or.inl ⟨by rfl, ?hy7⟩) (by assumption) ?_
  case hy7 =>
   intro w hSw
   (try dsimp only at hSw)
   go_simp
   all_goals with_reducible rfl
  change wpAnyH _ _ _ _ _ _ _ (Act.put _ (some 22) _) _
  try simp only [Act.put, List.setIfInBounds_toArray, List.set_cons_zero, List.set_cons_succ]
  refine wpAnyH_ready (rs := [7]) (by kernel_rfl) (by simp) ?_; refine AllReadyH.cons rfl (fun K hK => ?_) AllReadyH.nil
  go_simp
  refine hK.out _ _ ?_ (fun hHeld => ?_)
  · trivial
  clear hK K
  try simp only [Act.put, List.setIfInBounds_toArray, List.set_cons_zero, List.set_cons_succ]
  refine wpAnyH_take (i := 8) (v := ?v8) rfl (by kernel_rfl) (by kernel_rfl) (by kernel_rfl) (fun _ _ _ h => h) (Or.inl ⟨by rfl, ?hy8⟩) (by assumption) ?_
  case hy8 =>
   intro w hSw
   (try dsimp only at hSw)
   go_simp
   all_goals with_reducible rfl
  change wpAnyH _ _ _ _ _ _ _ (Act.put _ (some 4) _) _
  try simp only [Act.put, List.setIfInBounds_toArray, List.set_cons_zero, List.set_cons_succ]
  refine wpAnyH_done (by kernel_rfl) ?_ _; go_wp2_with fail
  go_meet
  exact OpnR.mk HB2.out HLN.out HO3.out
 case rest =>
  obtain ⟨b, v5, v6, v36, hp, hR, hbW, hBW, hLD, hOO⟩ := hcut; subst hp; obtain ⟨W1, rfl⟩ : ∃ W, W = wc := ⟨_, rfl⟩; obtain rfl := HWW.out; have hu1 := (hBW.block p (Array.getElem?_eq_some_iff.1 HU.out).1).trans HU.out; have HRI := hid (RoI.start (B := W.heap.size) hR); have HRB := hid hR; have HU1 := hid hu1; have HLD := hid hLD; have HOO := hid hOO; have HBW := hid hBW; clear hR hBW hu1 HNL hLD hOO; go_wp2
  go_loopw [26] (fun i wr => ∃ k : Nat, k ≤ 3 ∧ k ≤ f ∧ i = .int .i64 k ∧ Hid (RoI W1 W.heap.size b v5 v6 v36 ([l0, l1, l2].take k) (Cs.take k) wr)) (fun i _ => 3 - (intOf i).toNat)
  case atStart => exact ⟨0, by omega, by omega, rfl, HRI⟩
  case round =>
   obtain ⟨k, hk3, hkf, rfl, HI⟩ := hrel; have HBR := hid (HBW.out.trans (HI.out.low hbW HBW.out.size)); have hur := (HBR.out.block p (Array.getElem?_eq_some_iff.1 HU.out).1).trans HU.out; obtain ⟨c0, c1, c2, c3, c4, c5⟩ := bx6 hur; have HAL := hid (show ∀ o, Below wr.heap.size wr (wr.alloc o) from fun o => (Below.refl _ _).alloc (Nat.le_refl _) o); clear hur; obtain rfl | rfl | rfl | rfl : k = 0 ∨ k = 1 ∨ k = 2 ∨ k = 3 := by omega
   · go_wp2_with fail; refine (HA.out 0 _ W1 b v5 v6 v36 (by omega) hkf (HBR.out.trans ((HAL.out _).mono HBR.out.size)) hbW (HI.out.next (HAL.out _))).mono ?_; rintro e w2 hq; have HQ := hid hq; clear hq
     by_cases hkl : 0 < f
     · obtain ⟨rfl, hI⟩ := HQ.out.yes hkl; have HI2 := hid hI; clear hI HQ; go_wp2
       go_roundw
       case rel => exact ⟨1, by omega, by omega, rfl, HI2⟩
       case measure => simp [intOf]
     · obtain ⟨rfl, hb2⟩ := HQ.out.no hkl; have HB2 := hid (HBR.out.trans (((HAL.out _).trans (hb2.mono (HAL.out _).size)).mono HBR.out.size)); clear hb2 HQ; go_wp2; go_ret2; unfold OpnQ; rw [if_pos (by omega)]; exact ⟨rfl, HB2.out⟩
   · go_wp2_with fail; refine (HA.out 1 _ W1 b v5 v6 v36 (by omega) hkf (HBR.out.trans ((HAL.out _).mono HBR.out.size)) hbW (HI.out.next (HAL.out _))).mono ?_; rintro e w2 hq; have HQ := hid hq; clear hq
     by_cases hkl : 1 < f
     · obtain ⟨rfl, hI⟩ := HQ.out.yes hkl; have HI2 := hid hI; clear hI HQ; go_wp2
       go_roundw
       case rel => exact ⟨2, by omega, by omega, rfl, HI2⟩
       case measure => simp [intOf]
     · obtain ⟨rfl, hb2⟩ := HQ.out.no hkl; have HB2 := hid (HBR.out.trans (((HAL.out _).trans (hb2.mono (HAL.out _).size)).mono HBR.out.size)); clear hb2 HQ; go_wp2; go_ret2; unfold OpnQ; rw [if_pos (by omega)]; exact ⟨rfl, HB2.out⟩
   · go_wp2_with fail; refine (HA.out 2 _ W1 b v5 v6 v36 (by omega) hkf (HBR.out.trans ((HAL.out _).mono HBR.out.size)) hbW (HI.out.next (HAL.out _))).mono ?_; rintro e w2 hq; have HQ := hid hq; clear hq
     by_cases hkl : 2 < f
     · obtain ⟨rfl, hI⟩ := HQ.out.yes hkl; have HI2 := hid hI; clear hI HQ; go_wp2
       go_roundw
       case rel => exact ⟨3, by omega, by omega, rfl, HI2⟩
       case measure => simp [intOf]
     · obtain ⟨rfl, hb2⟩ := HQ.out.no hkl; have HB2 := hid (HBR.out.trans (((HAL.out _).trans (hb2.mono (HAL.out _).size)).mono HBR.out.size)); clear hb2 HQ; go_wp2; go_ret2; unfold OpnQ; rw [if_pos (by omega)]; exact ⟨rfl, HB2.out⟩
   · go_wp2; go_ret2; obtain rfl : f = 3 := by omega
     unfold OpnQ; rw [if_neg (by omega)]; exact ⟨W1, b, v5, v6, v36, rfl, HRB.out, hbW, HBW.out, HLD.out, HOO.out, HI.out⟩
def sesV (s : Ses) (v : Value) : Value := .agg #[.int .i64 s.step, .string (S s.frm.1), .string (S s.frm.2), v, .string (S s.text), .bool s.large]
def jap (v : Value) : Prop := ∀ a n c, v = .slice a n c → n ≤ c
structure Fit (s : Ses) : Prop where
 one : s.frm.1.length ≤ 140737488355328
 two : s.frm.2.length ≤ 140737488355328
 txt : s.text.length ≤ 140737488355328
 lo : -9223372036854775808 ≤ s.step
 hi : s.step < 9223372036854775808
 tos : ∀ x ∈ s.to, x.1.length ≤ 140737488355328 ∧ x.2.length ≤ 140737488355328
theorem jiM (a : List UInt8) : (S a).toList.isEmpty = a.isEmpty := by rw [Lib.toList_data, jj]
theorem jlQ (x : Adr) (w : World) : (binOp .eql 76 (.agg #[.string (S x.1), .string (S x.2)]) (.agg #[.string ⟨#[]⟩, .string ⟨#[]⟩])).run Tryz.prog w = .ok (.bool (x.1.isEmpty && x.2.isEmpty)) w := by
 have h := jhT x ([], []) w; have e : decide (x = ([], [])) = (x.1.isEmpty && x.2.isEmpty) := by
  obtain ⟨a, b⟩ := x; cases a <;> cases b <;> simp
 rw [e] at h; exact h
theorem jhC (s : Ses) (v : Value) (w : World) (hf : Fit s) :
 Calls Tryz.prog 172 #[sesV s v] w fun e w' => e = .returned (.bool (zl s)) ∧ Below w.heap.size w w' := by
 have HB1 := hid (show Below w.heap.size w (w.alloc (.cells #[.int .i64 s.step, .string (S s.frm.1), .string (S s.frm.2), v, .string (S s.text), .bool s.large] 79)) from nb0 _ _); have HC := hid (zR (S s.frm.1) (S s.frm.2) (w.alloc (.cells #[.int .i64 s.step, .string (S s.frm.1), .string (S s.frm.2), v, .string (S s.text), .bool s.large] 79)) (by rw [jd]; exact hf.one) (by rw [jd]; exact hf.two)); have HN := hid (jlQ s.frm); obtain ⟨k, hk⟩ : ∃ k, k = s.step := ⟨_, rfl⟩; unfold sesV; rw [← hk] at HB1 HC ⊢
 by_cases h : s.step < 2 ∨ 4 < s.step
 · have HS := hid (show zl s = (s.frm.1.isEmpty && s.frm.2.isEmpty) by unfold zl; rw [if_pos h]); have eq1 := HN.out; rw [← hk] at h; clear hk
   by_cases h2 : k < 2
   · clear h; go_enter Tryz.func172, Tryz.ntmps172; go_wp2; go_ret; exact ⟨jb HS.out.symm, HB1.out⟩
   · have h4 : 4 < k := by omega
     clear h; go_enter Tryz.func172, Tryz.ntmps172; go_wp2; go_ret; exact ⟨jb HS.out.symm, HB1.out⟩
 · have HS := hid (show zl s = qr s.frm by unfold zl; rw [if_neg h]); rw [← hk] at h; have h2 : ¬ k < 2 := by omega
   have h4 : ¬ 4 < k := by omega
   clear h hk; go_enter Tryz.func172, Tryz.ntmps172; go_wp2_with fail; refine HC.out.mono ?_; rintro e u ⟨rfl, hb⟩; have HB := hid (jfQ HB1.out hb (Nat.le_refl _)); clear hb; go_wp2; go_ret; exact ⟨jb (by rw [HS.out, qr, jj, jj]; rfl), HB.out⟩
theorem jlc (s : Ses) (v : Value) (w : World) :
 Calls Tryz.prog 174 #[sesV s v] w fun e w' => e = .returned (.bool (vv s)) ∧ Below w.heap.size w w' := by
 have HB1 := hid (show Below w.heap.size w (w.alloc (.cells #[.int .i64 s.step, .string (S s.frm.1), .string (S s.frm.2), v, .string (S s.text), .bool s.large] 79)) from nb0 _ _); obtain ⟨k, hk⟩ : ∃ k, k = s.step := ⟨_, rfl⟩; obtain ⟨g, hg⟩ : ∃ g, g = s.large := ⟨_, rfl⟩; unfold sesV; rw [← hk, ← hg] at HB1 ⊢; have HZ := hid (jd s.text)
 by_cases h : s.step = 4
 · have HS := hid (show vv s = decide (s.text.length ≤ 2000) by unfold vv; rw [if_pos h]); rw [← hk] at h; subst h; clear hk hg; go_enter Tryz.func174, Tryz.ntmps174; go_wp2; go_ret; exact ⟨jb (by rw [HS.out, HZ.out]; simp; omega), HB1.out⟩
 · have HS := hid (show vv s = (s.text.isEmpty && !g) by unfold vv; rw [if_neg h, hg]); have hi := jiM s.text; rw [← hk] at h; clear hk hg; cases hx : s.text.isEmpty with
   | true =>
     rw [hx] at hi HS; have hi2 : (S s.text).toList = [] := List.isEmpty_iff.1 hi; clear hx; go_enter Tryz.func174, Tryz.ntmps174; go_wp2; go_ret; exact ⟨jb (by rw [HS.out]; simp), HB1.out⟩
   | false =>
     rw [hx] at hi HS; have hi2 : ¬ (S s.text).toList = [] := fun e => by rw [e] at hi; cases hi
     clear hx; go_enter Tryz.func174, Tryz.ntmps174; go_wp2; go_ret; exact ⟨jb (by rw [HS.out]; simp), HB1.out⟩
theorem zL {w : World} {b : Nat} {v0 v1 v2 v3 v4 v5 : Value} {t : TypeId} (h : w.heap[b]? = some (.cells #[v0, v1, v2, v3, v4, v5] t)) :
 w.cell? ⟨b, 0, none⟩ = some v0 ∧ w.cell? ⟨b, 1, none⟩ = some v1 ∧ w.cell? ⟨b, 2, none⟩ = some v2 ∧ w.cell? ⟨b, 3, none⟩ = some v3 ∧ w.cell? ⟨b, 4, none⟩ = some v4 ∧ w.cell? ⟨b, 5, none⟩ = some v5 := by
 simp [World.cell?, h]
theorem qB {w : World} {b : Nat} {v0 v1 : Value} {t : TypeId} (h : w.heap[b]? = some (.cells #[v0, v1] t)) : w.cell? ⟨b, 0, none⟩ = some v0 ∧ w.cell? ⟨b, 1, none⟩ = some v1 := by
 simp [World.cell?, h]
theorem jai (l d : List UInt8) : jS l d = 0 ∨ jS l d = 1 ∨ jS l d = 3 := by
 unfold jS; split
 · simp
 · split <;> simp
theorem jis (Q : Nat → Prop) (s : Ses) (v : Value) (w : World) (hf : Fit s) (hv : jap v) (ha : AdrsM Q w v s.to) :
 Calls Tryz.prog 173 #[sesV s v] w fun e w' => e = .returned (.bool (zS s)) ∧ Below w.heap.size w w' := by
 obtain ⟨a, c, rfl⟩ : ∃ a c, v = .slice a s.to.length c := by obtain ⟨a, c, h, _⟩ := ha; exact ⟨a, c, h⟩
 have hm : s.to.length ≤ maxLen := by obtain ⟨_, _, _, hm, _⟩ := ha; exact hm
 unfold maxLen at hm; have hcap : s.to.length ≤ c := hv _ _ _ rfl; clear hv; obtain ⟨W1, hW1⟩ : ∃ W1, W1 = w.alloc (.cells #[.int .i64 s.step, .string (S s.frm.1), .string (S s.frm.2), .slice a s.to.length c, .string (S s.text), .bool s.large] 79) := ⟨_, rfl⟩; have HWE := hid hW1; have hB1 : Below w.heap.size w W1 := by rw [hW1]; exact nb0 _ _
 have HB1 := hid hB1; have hX : W1.heap[w.heap.size]? = some (.cells #[.int .i64 s.step, .string (S s.frm.1), .string (S s.frm.2), .slice a s.to.length c, .string (S s.text), .bool s.large] 79) := by rw [hW1]; exact heap_alloc_new w _
 obtain ⟨x0, _, _, x3, _, _⟩ := zL hX; have HA := hid (ha.next hB1); have HF := hid hf.tos; clear ha hB1 hW1 hX hf; unfold sesV; obtain ⟨k, hk⟩ : ∃ k, k = s.step := ⟨_, rfl⟩; obtain ⟨r, hr⟩ : ∃ r, r = zS s := ⟨_, rfl⟩; have hr' := hr; unfold zS at hr'; rw [← hr]; rw [← hk] at HWE x0 hr' ⊢; clear hr hk
 by_cases h : k < 3 ∨ 4 < k
 · rw [if_pos h] at hr'; have HR := hid (show r = decide ((s.to.length : Int) = 0) by rw [hr']; cases s.to <;> simp <;> omega); clear hr'
   by_cases h3 : k < 3
   · clear h; go_enter Tryz.func173, Tryz.ntmps173; go_wp2_with fail; rw [← HWE.out]; go_wp2; go_ret; exact ⟨jb (by rw [HR.out]; rfl), HB1.out⟩
   · have h4 : 4 < k := by omega
     clear h; go_enter Tryz.func173, Tryz.ntmps173; go_wp2_with fail; rw [← HWE.out]; go_wp2; go_ret; exact ⟨jb (by rw [HR.out]; rfl), HB1.out⟩
 · rw [if_neg h] at hr'; have h3 : ¬ k < 3 := by omega
   have h4 : ¬ 4 < k := by omega
   clear h
   by_cases n1 : (s.to.length : Int) < 1
   · have HR := hid (show r = false by rw [hr']; simp; omega); clear hr'; go_enter Tryz.func173, Tryz.ntmps173; go_wp2_with fail; rw [← HWE.out]; go_wp2; go_ret; exact ⟨jb HR.out.symm, HB1.out⟩
   by_cases n5 : 5 < (s.to.length : Int)
   · have HR := hid (show r = false by rw [hr']; simp; omega); clear hr'; go_enter Tryz.func173, Tryz.ntmps173; go_wp2_with fail; rw [← HWE.out]; go_wp2; go_ret; exact ⟨jb HR.out.symm, HB1.out⟩
   have HR := hid (show r = jaj (s.to.take 0) (s.to.drop 0) by
    rw [hr', show decide (1 ≤ s.to.length) = true by simp; omega, show decide (s.to.length ≤ 5) = true by simp; omega]; rfl)
   clear hr'; go_enter Tryz.func173, Tryz.ntmps173; go_wp2_with fail; rw [← HWE.out]; go_wp2
   go_loopw [30] (fun v wr => ∃ i : Nat, i ≤ s.to.length ∧ v = .int .i64 i ∧ Hid (Below W1.heap.size W1 wr) ∧ Hid (r = jaj (s.to.take i) (s.to.drop i))) (fun v _ => s.to.length - (intOf v).toNat)
   case atStart => exact ⟨0, Nat.zero_le _, rfl, Below.refl _ _, HR⟩
   case round =>
    obtain ⟨i, hi, rfl, HB, HI⟩ := hrel; have y3 := ja x3 HB.out
    by_cases hlt : i < s.to.length
    · have i1 : (i : Int) < (s.to.length : Int) := by omega
      have i0 : (0 : Int) ≤ (i : Int) := by omega
      obtain ⟨x, hx⟩ : ∃ x, s.to[i]? = some x := ⟨_, List.getElem?_eq_getElem hlt⟩; have hAR := HA.out.next HB.out; have i2 : (i : Int) ≤ (c : Int) := by omega
      obtain ⟨p, o, rfl, _, _, e0, e1⟩ := jdd hAR hx; obtain ⟨W2, hW2⟩ : ∃ W2, W2 = wr.alloc (.cells #[.string (S x.1), .string (S x.2)] 76) := ⟨_, rfl⟩; have HWE2 := hid hW2; have hB2 : Below wr.heap.size wr W2 := by rw [hW2]; exact nb0 _ _
      obtain ⟨m0, m1⟩ := qB (show W2.heap[wr.heap.size]? = some (.cells #[.string (S x.1), .string (S x.2)] 76) by rw [hW2]; exact heap_alloc_new wr _); have z3 := ja y3 hB2; have hfx := HF.out x (List.mem_of_getElem? hx); have HDS := hid (jgJ hx); have HCK := hid (fun u => zR (S x.1) (S x.2) u (by rw [jd]; exact hfx.1) (by rw [jd]; exact hfx.2)); have hlen : (s.to.take i).length = i := by rw [List.length_take]; omega
      have HCN := hid (fun u (hu : Below W2.heap.size W2 u) => by
       have := jav Q (s.to.take i) x (some ⟨p, o, none⟩) c u (by rw [hlen]; exact RowM.takeR ((hAR.next hB2).next hu) i c (by omega)); rw [hlen] at this; exact this)
      have HB3 := hid (show Below W1.heap.size W1 W2 from HB.out.trans (hB2.mono HB.out.size)); have HAD := hid (show qr x = decide (jS (S x.1).data.toList (S x.2).data.toList = 0) by rw [jj, jj]; rfl); obtain ⟨z, hz⟩ : ∃ z, z = jS (S x.1).data.toList (S x.2).data.toList := ⟨_, rfl⟩; have HZ3 := hid (jai (S x.1).data.toList (S x.2).data.toList); rw [← hz] at HCK HAD HZ3; clear hW2 hB2 hAR hlen hx hfx hz; go_wp2; rw [← HWE2.out]
      by_cases hz : z = 0
      · subst hz; have HOK := hid (show qr x = true by rw [HAD.out]; rfl); obtain ⟨q, hq⟩ : ∃ q, q = (s.to.take i).contains x := ⟨_, rfl⟩; rw [← hq] at HCN HDS; clear hq
        go_cut [45] (fun c wx => c = .bool q ∧ Below W2.heap.size W2 wx)
        case first =>
            go_region_held3 (fun w' => w'.cell? ⟨wr.heap.size, 0, none⟩ = some (.string (S x.1)) ∧ w'.cell? ⟨wr.heap.size, 1, none⟩ = some (.string (S x.2)) ∧ w'.cell? ⟨w.heap.size, 3, none⟩ = some (.slice (some ⟨p, o, none⟩) s.to.length c)) (go_keep)
             (first
               | (go_at_call 179
                  with_reducible refine (HCN.out _ HB4.out).mono ?_
                  rintro e w4 ⟨rfl, hb⟩; have HB5 := hid (HB4.out.trans (hb.mono HB4.out.size)); have q0 := ja k0 hb; have q1 := ja k1 hb; have q3 := ja k3 hb; clear hb)
               | (go_at_call 34
                  with_reducible refine (HCK.out W2.drew).mono ?_
                  rintro e w3 ⟨rfl, hb⟩; have hb2 : Below W2.heap.size W2 w3 := (Below.refl _ _).drew.trans hb; have HB4 := hid hb2; have k0 := ja m0 hb2; have k1 := ja m1 hb2; have k3 := ja z3 hb2; clear hb hb2)
               | fail)
            all_goals
             go_wp2_with fail
             go_meet
             exact ⟨by first | rfl | simp, HB5.out⟩
        case rest =>
            obtain ⟨rfl, hb⟩ := hcut; have HB6 := hid (show Below W1.heap.size W1 wc from HB3.out.trans (hb.mono HB3.out.size)); have HB7 := hid (HB1.out.trans (HB6.out.mono HB1.out.size)); clear hb; cases q with
            | true =>
              have HE := hid (show r = false by rw [HI.out, HDS.out, HOK.out]; rfl); go_wp2; go_ret; exact ⟨jb HE.out.symm, HB7.out⟩
            | false =>
              have HE := hid (show r = jaj (s.to.take (i + 1)) (s.to.drop (i + 1)) by rw [HI.out, HDS.out, HOK.out]; rfl); go_wp2
              go_roundw
              case rel => first | exact ⟨i + 1, by omega, by go_num, HB6, HE⟩ | ((repeat apply Exists.intro); exact ⟨⟨i + 1, by omega, by go_num, HB6, HE⟩, rfl⟩) | (refine ⟨trivial, ?_⟩; (repeat apply Exists.intro); exact ⟨⟨i + 1, by omega, by go_num, HB6, HE⟩, rfl⟩)
              case measure => simp [intOf]; omega
      · have HE := hid (show r = false by rw [HI.out, HDS.out, HAD.out]; simp [hz]); have hz3 : z = 1 ∨ z = 3 := by
            rcases HZ3.out with h | h | h
            · exact absurd h hz
            · exact .inl h
            · exact .inr h
        clear hz; have HFin := hid (show ∀ u, Below W2.drew.heap.size W2.drew u → Below w.heap.size w u from fun u hu => by
            have h1 : Below W2.heap.size W2 u := ((Below.refl _ _).drew).trans hu; have h2 : Below W1.heap.size W1 u := HB3.out.trans (h1.mono HB3.out.size); exact HB1.out.trans (h2.mono HB1.out.size))
        rcases hz3 with rfl | rfl
        all_goals
            first
             | go_region_law
                (first
                  | (go_simp
                     go_at_call 34
                     refine (HCK.out _).mono ?_; rintro e w3 ⟨rfl, hb⟩; have HB4 := hid (HFin.out w3 hb); clear hb)
                  | fail)
             | fail
            all_goals
             go_wp2; go_ret; exact ⟨jb HE.out.symm, HB4.out⟩
    · have i1 : ¬ (i : Int) < (s.to.length : Int) := by omega
      have HE := hid (show r = true by rw [HI.out, List.drop_eq_nil_of_le (by omega)]; rfl); have HB7 := hid (HB1.out.trans (HB.out.mono HB1.out.size)); go_wp2; go_ret; exact ⟨jb HE.out.symm, HB7.out⟩
theorem jkX (Q : Nat → Prop) (s : Ses) (v : Value) (w : World) (hf : Fit s) (hv : jap v) (ha : AdrsM Q w v s.to) :
 Calls Tryz.prog 136 #[sesV s v] w fun e w' => e = .returned (.bool (mayS s)) ∧ Below w.heap.size w w' := by
 obtain ⟨W1, hW1⟩ : ∃ W1, W1 = w.alloc (.cells #[.int .i64 s.step, .string (S s.frm.1), .string (S s.frm.2), v, .string (S s.text), .bool s.large] 79) := ⟨_, rfl⟩; have HWE := hid hW1; have hB1 : Below w.heap.size w W1 := by rw [hW1]; exact nb0 _ _
 have HB1 := hid hB1; have hX : W1.heap[w.heap.size]? = some (.cells #[.int .i64 s.step, .string (S s.frm.1), .string (S s.frm.2), v, .string (S s.text), .bool s.large] 79) := by rw [hW1]; exact heap_alloc_new w _
 have HX := hid hX; have HS1 := hid (jhC s v W1 hf); have HS2 := hid (fun u (hu : Below W1.heap.size W1 u) => jis Q s v u hf hv ((ha.next hB1).next hu)); have HS3 := hid (fun u => jlc s v u); obtain ⟨x0, x1, x2, x3, x4, x5⟩ := zL hX; have HR := hid (show mayS s = (decide (0 ≤ s.step) && decide (s.step ≤ 5) && (zl s && zS s && vv s)) from rfl); obtain ⟨r, hr⟩ : ∃ r, r = mayS s := ⟨_, rfl⟩; obtain ⟨p1, hp1⟩ : ∃ p1, p1 = zl s := ⟨_, rfl⟩; obtain ⟨p2, hp2⟩ : ∃ p2, p2 = zS s := ⟨_, rfl⟩; obtain ⟨p3, hp3⟩ : ∃ p3, p3 = vv s := ⟨_, rfl⟩; rw [← hr] at HR ⊢; rw [← hp1] at HR HS1; rw [← hp2] at HR HS2; rw [← hp3] at HR HS3; clear hr hp1 hp2 hp3 ha hB1 hW1 hX hf hv; unfold sesV at HS1 HS2 HS3 ⊢; obtain ⟨k, hk⟩ : ∃ k, k = s.step := ⟨_, rfl⟩; rw [← hk] at HWE HX HS1 HS2 HS3 HR x0 ⊢; clear hk
 by_cases h0 : k < 0
 · have HE := hid (show r = false by rw [HR.out, show decide (0 ≤ k) = false by simp; omega]; rfl); go_enter Tryz.func136, Tryz.ntmps136; go_wp2_with fail; rw [← HWE.out]; go_wp2; go_ret; exact ⟨jb HE.out.symm, HB1.out⟩
 by_cases h5 : 5 < k
 · have HE := hid (show r = false by rw [HR.out, show decide (k ≤ 5) = false by simp; omega]; simp); go_enter Tryz.func136, Tryz.ntmps136; go_wp2_with fail; rw [← HWE.out]; go_wp2; go_ret; exact ⟨jb HE.out.symm, HB1.out⟩
 have HE := hid (show r = (p1 && p2 && p3) by rw [HR.out, show decide (0 ≤ k) = true by simp; omega, show decide (k ≤ 5) = true by simp; omega]; rfl); clear HR; go_enter Tryz.func136, Tryz.ntmps136; go_wp2_with fail; rw [← HWE.out]; go_wp2_with fail; refine HS1.out.mono ?_; rintro e w2 ⟨rfl, hb2⟩; have y0 := ja x0 hb2; have y1 := ja x1 hb2; have y2 := ja x2 hb2; have y3 := ja x3 hb2; have y4 := ja x4 hb2; have y5 := ja x5 hb2; have HB2 := hid (HB1.out.trans (hb2.mono HB1.out.size)); have HC2 := hid (HS2.out w2 hb2); cases p1 with
 | false =>
   clear hb2; go_wp2; go_ret; exact ⟨jb (by rw [HE.out]; rfl), HB2.out⟩
 | true =>
   have HB12 := hid hb2; clear hb2; go_wp2_with fail; refine HC2.out.mono ?_; rintro e w3 ⟨rfl, hb3⟩; have z0 := ja y0 hb3; have z1 := ja y1 hb3; have z2 := ja y2 hb3; have z3 := ja y3 hb3; have z4 := ja y4 hb3; have z5 := ja y5 hb3; have HB3 := hid (HB2.out.trans (hb3.mono HB2.out.size)); clear hb3; cases p2 with
   | false =>
     go_wp2; go_ret; exact ⟨jb (by rw [HE.out]; rfl), HB3.out⟩
   | true =>
     go_wp2_with fail; refine (HS3.out w3).mono ?_; rintro e w4 ⟨rfl, hb4⟩; have HB4 := hid (HB3.out.trans (hb4.mono HB3.out.size)); clear hb4; go_wp2; go_ret; exact ⟨jb (by rw [HE.out]; rfl), HB4.out⟩
theorem jfn (Q : Nat → Prop) (s : Ses) (v : Value) (w : World) (hf : Fit s) (hv : jap v) (ha : AdrsM Q w v s.to) :
 Calls Tryz.prog 103 #[sesV s v] w fun e w' => e = .returned (.int .i64 (if mayS s = true then 0 else 11)) ∧ Below w.heap.size w w' := by
 have HB1 := hid (show Below w.heap.size w (w.alloc (.cells #[.int .i64 s.step, .string (S s.frm.1), .string (S s.frm.2), v, .string (S s.text), .bool s.large] 79)) from nb0 _ _); have HM := hid (jkX Q s v _ hf hv (ha.next HB1.out)); clear hf hv ha; obtain ⟨r, hr⟩ : ∃ r, r = mayS s := ⟨_, rfl⟩; rw [← hr] at HM ⊢; clear hr; unfold sesV at HM ⊢; cases r with
 | true =>
   go_enter Tryz.func103, Tryz.ntmps103; go_wp2_with fail; refine HM.out.mono ?_; rintro e w2 ⟨rfl, hb⟩; have HB := hid (jfQ HB1.out hb (Nat.le_refl _)); clear hb; go_wp2; go_ret; exact ⟨rfl, HB.out⟩
 | false =>
   go_enter Tryz.func103, Tryz.ntmps103; go_wp2_with fail; refine HM.out.mono ?_; rintro e w2 ⟨rfl, hb⟩; have HB := hid (jfQ HB1.out hb (Nat.le_refl _)); clear hb; go_wp2; go_ret; exact ⟨rfl, HB.out⟩
theorem bhid {p : Prop} (h : p) : Hid p := h
theorem je0 {P : Program} {t : TypeId} {z : Value} {s b : Nat} (h : (P.info? t).map (fun i => (i.zero, i.size, i.bytes)) = some (some z, s, b)) : ∃ i, P.info? t = some i ∧ i.zero = some z ∧ i.size = s ∧ i.bytes = b := by
 cases hi : P.info? t with
 | none => rw [hi] at h; cases h
 | some i =>
   rw [hi] at h; simp only [Option.map_some, Option.some.injEq, Prod.mk.injEq] at h; exact ⟨i, rfl, h.1, h.2.1, h.2.2⟩
theorem jm0 : (Tryz.prog.info? 5).map (fun i => (i.zero, i.size, i.bytes)) = some (some (.int .u8 0), 1, 1) := by kernel_rfl
def byC (l : List UInt8) : List Value := l.map fun c => .int .u8 c.toNat
theorem jlZ (l : List UInt8) : (byC l).length = l.length := List.length_map _
theorem jl0 (l : List UInt8) : ∀ u ∈ byC l, u.oneCell' = true := by
 intro u hu; obtain ⟨c, _, rfl⟩ := List.mem_map.1 hu; rfl
def BysM (Q : Nat → Prop) (w : World) (v : Value) (l : List UInt8) : Prop :=
 ∃ a c, v = .slice a l.length c ∧ l.length ≤ c ∧ l.length ≤ maxLen ∧ ∀ (j : Nat) (x : UInt8), l[j]? = some x → ∃ b o, a = some ⟨b, o, none⟩ ∧ Q b ∧ w.cell? ⟨b, o + j, none⟩ = some (.int .u8 x.toNat)
theorem BysM.nil (Q : Nat → Prop) (w : World) (a : Option Addr) (c : Nat) : BysM Q w (.slice a 0 c) [] := ⟨a, c, rfl, Nat.zero_le _, Nat.zero_le _, fun j x h => by simp at h⟩
theorem BysM.imp {Q Q' : Nat → Prop} {w w' : World} {v : Value} {l : List UInt8} (h : BysM Q w v l) (hq : ∀ b, Q b → Q' b) (hk : ∀ b, b < w.heap.size → Q b → w'.heap[b]? = w.heap[b]?) : BysM Q' w' v l := by
 obtain ⟨a, c, h1, h2, h3, h4⟩ := h; refine ⟨a, c, h1, h2, h3, fun j x hx => ?_⟩; obtain ⟨b, o, e, q, hc⟩ := h4 j x hx; exact ⟨b, o, e, hq b q, (World.cell?_of_block (w := w) (hk b (World.block_lt_of_cell? w _ hc) q)).trans hc⟩
theorem BysM.next {Q : Nat → Prop} {w w' : World} {v : Value} {l : List UInt8} (h : BysM Q w v l) (hb : Below w.heap.size w w') : BysM Q w' v l := h.imp (fun _ h => h) fun b hlt _ => hb.block b hlt
theorem BysM.slice {Q : Nat → Prop} {w : World} {v : Value} {l : List UInt8} (h : BysM Q w v l) : ∃ a c, v = .slice a l.length c ∧ l.length ≤ c ∧ l.length ≤ maxLen := by
 obtain ⟨a, c, h1, h2, h3, _⟩ := h; exact ⟨a, c, h1, h2, h3⟩
theorem BysM.at {Q : Nat → Prop} {w : World} {a : Option Addr} {n c : Nat} {l : List UInt8} (h : BysM Q w (.slice a n c) l) {j : Nat} {x : UInt8} (hx : l[j]? = some x) : ∃ b o, a = some ⟨b, o, none⟩ ∧ Q b ∧ w.cell? ⟨b, o + j, none⟩ = some (.int .u8 x.toNat) := by
 obtain ⟨a', c', h1, _, _, h4⟩ := h; simp only [Value.slice.injEq] at h1; obtain ⟨rfl, _, rfl⟩ := h1; exact h4 j x hx
theorem BysM.take {Q : Nat → Prop} {w : World} {a : Option Addr} {n c : Nat} {l : List UInt8} (h : BysM Q w (.slice a n c) l) {k : Nat} (hk : k ≤ l.length) : BysM Q w (.slice a k c) (l.take k) := by
 obtain ⟨a', c', h1, h2, h3, h4⟩ := h; simp only [Value.slice.injEq] at h1; obtain ⟨rfl, _, rfl⟩ := h1; have hl : (l.take k).length = k := by rw [List.length_take]; omega
 refine ⟨a, c, by rw [hl], by omega, by omega, fun j x hx => ?_⟩; have hj : j < k := by have := (List.getElem?_eq_some_iff.1 hx).1; omega
 exact h4 j x (by rw [List.getElem?_take_of_lt hj] at hx; exact hx)
theorem BysM.drop {Q : Nat → Prop} {w : World} {a : Addr} {n c : Nat} {l : List UInt8} (h : BysM Q w (.slice (some a) n c) l) {k : Nat} (hk : k ≤ l.length) : BysM Q w (.slice (some (a.add k)) (l.length - k) (c - k)) (l.drop k) := by
 obtain ⟨a', c', h1, h2, h3, h4⟩ := h; simp only [Value.slice.injEq] at h1; obtain ⟨rfl, _, rfl⟩ := h1; have hl : (l.drop k).length = l.length - k := by simp
 refine ⟨_, _, by rw [hl], by omega, by omega, fun j x hx => ?_⟩; rw [List.getElem?_drop] at hx; obtain ⟨b, o, e, q, hc⟩ := h4 _ x hx; simp only [Option.some.injEq] at e; subst e; exact ⟨b, o + k, by rw [Addr.add_lit], q, by rw [Nat.add_assoc]; exact hc⟩
theorem jni {B n : Nat} {w : World} {v : Value} {l : List UInt8} {Q : Nat → Prop} (h : w.ownsRow B 5 1 v n (byC l)) (hn : n = l.length) (hm : n ≤ maxLen) (hQ : ∀ g, v.ownBlock = some g → Q g) : BysM Q w v l := by
 subst hn
 rcases h.2 with ⟨rfl, h0⟩ | ⟨g, cap, cur, rfl, hb, hg, h1, h2, h3, ht⟩
 · have : l = [] := List.length_eq_zero_iff.1 h0; subst this; exact BysM.nil _ _ _ _
 · refine ⟨some ⟨g, 0, none⟩, cap, rfl, h1, hm, fun j x hx => ⟨g, 0, rfl, hQ g rfl, ?_⟩⟩; have := World.ownsRow.cells h (g := g) rfl j (.int .u8 x.toNat) (by unfold byC; rw [List.getElem?_map, hx]; rfl); rw [Addr.add_lit] at this; exact this
theorem jjT {B n k : Nat} {e : TypeId} {w : World} {v : Value} {xs : List Value} (h : w.ownsRow B e k v n xs) : ∃ a c, v = .slice a n c ∧ n ≤ c := by
 rcases h.2 with ⟨rfl, h0⟩ | ⟨g, cap, cur, rfl, hb, hg, h1, _⟩
 · exact ⟨none, 0, by rw [h0], by omega⟩
 · exact ⟨_, _, rfl, h1⟩
theorem jhA {Q : Nat → Prop} {base n m c : Nat} {ty : TypeId} {w : World} {v : Value} {xs : List Value} {a : Option Addr} {l : List UInt8} (hown : w.ownsRow base 5 1 v n xs) (hs : BysM Q w (.slice a m c) l)
 (h63 : n + m ≤ maxLen) (hbytes : n + m ≤ 140737488355328) (hbase : base ≤ w.heap.size) :
 ∃ v' w', (Builtin.append_ #[69, 69] ty #[v, .slice a m c]).run Tryz.prog w = .ok v' w' ∧ w'.ownsRow base 5 1 v' (n + m) (xs ++ byC l) ∧ w.grownBy w' v.ownBlock ∧ (∀ k, v'.ownBlock = some k → v.ownBlock = some k ∨ w.heap.size ≤ k) := by
 obtain ⟨i0, hi, hz0, hz1, hz2⟩ := je0 jm0; obtain ⟨a', c', h1, h2, h3, h4⟩ := hs; simp only [Value.slice.injEq] at h1; obtain ⟨rfl, rfl, rfl⟩ := h1; cases a with
 | none =>
   have : l = [] := by
    cases l with
    | nil => rfl
    | cons x l => obtain ⟨b, o, e, _⟩ := h4 0 x rfl; cases e
   subst this; refine ⟨v, w, ?_, by simpa [byC] using hown, ⟨rfl, rfl, rfl, Nat.le_refl _, fun _ _ _ => rfl⟩, fun k hk => .inl hk⟩
   rcases hown.2 with ⟨rfl, rfl⟩ | ⟨g, cap, cur, rfl, hbg, hg, hnc, hcm, hcs, htake⟩
   · simp [Builtin.append_, run_underlying Tryz.underlying69, sizeOf, typeInfo, hi, Builtin.lenOf, Builtin.firstCells]
   · simp [Builtin.append_, run_underlying Tryz.underlying69, sizeOf, typeInfo, hi, Builtin.lenOf, Builtin.firstCells, storeCells, hnc]
 | some a =>
   by_cases h0 : l.length = 0
   · have : l = [] := List.length_eq_zero_iff.1 h0; subst this; refine ⟨v, w, ?_, by simpa [byC] using hown, ⟨rfl, rfl, rfl, Nat.le_refl _, fun _ _ _ => rfl⟩, fun k hk => .inl hk⟩
     rcases hown.2 with ⟨rfl, rfl⟩ | ⟨g, cap, cur, rfl, hbg, hg, hnc, hcm, hcs, htake⟩
     · simp [Builtin.append_, run_underlying Tryz.underlying69, sizeOf, typeInfo, hi, Builtin.lenOf, Builtin.firstCells, loadCells, loadCellsFrom]
     · simp [Builtin.append_, run_underlying Tryz.underlying69, sizeOf, typeInfo, hi, Builtin.lenOf, Builtin.firstCells, loadCells, loadCellsFrom, storeCells, hnc]
   · obtain ⟨g, cap, w', hr, q1, q2, q3, _⟩ := run_append_lies (P := Tryz.prog) w 69 ty base 5 i0 (.int .u8 0) 1 1 Tryz.underlying69 hi hz0 hz1 hz2 rfl (by decide) v n xs hown a l.length c (byC l) (by rw [jlZ]; omega) (fun j u hj => by
        unfold byC at hj; rw [List.getElem?_map] at hj; cases hx : l[j]? with
        | none => rw [hx] at hj; cases hj
        | some x =>
          rw [hx] at hj; simp only [Option.map_some, Option.some.injEq] at hj; subst hj; obtain ⟨b, o, e, _, hc⟩ := h4 j x hx; cases e; rw [Addr.add_lit]; exact hc) (jl0 l) (by omega) h63 (by omega) hbase w.heap.size rfl
     refine ⟨_, w', hr, q1, q2, fun k hk => ?_⟩; simp only [Value.ownBlock, Option.some.injEq] at hk; subst hk
     rcases q3 with q | q
     · exact .inl q
     · exact .inr (by omega)
theorem jdV {Q0 : Nat → Prop} {base n m c : Nat} {w : World} {v : Value} {xs : List Value} {ad : Option Addr} {l : List UInt8} {ops : Array Oper} {rest : List Oper} {o : Oper} {a : Act} {Q : Exit → Act → World → Prop} (hgd : o.guard = none) (s x : Operand)
 (ho : o.op = .call { callee := .builtin .append, args := #[s, x], argTypes := #[69, 69] }) (hs : a.eval s = v) (hown : w.ownsRow base 5 1 v n xs) (hx : a.eval x = .slice ad m c) (hsrc : BysM Q0 w (.slice ad m c) l)
 (h63 : n + m ≤ maxLen) (hbytes : n + m ≤ 140737488355328) (hbase : base ≤ w.heap.size)
 (h : ∀ a' c' w', w'.ownsRow base 5 1 (.slice a' (n + m) c') (n + m) (xs ++ byC l) → w.grownBy w' v.ownBlock → (∀ k, (Value.slice a' (n + m) c').ownBlock = some k → v.ownBlock = some k ∨ w.heap.size ≤ k) → wpList Tryz.prog ops Q rest (a.put o.dst (.slice a' (n + m) c')) w') : wpList Tryz.prog ops Q (o :: rest) a w := by
 refine wpList_plain hgd fun K hK => ?_
 obtain ⟨v', w', hr, h2, h3, h4⟩ := jhA (ty := o.type) hown hsrc h63 hbytes hbase; obtain ⟨a', c', rfl, _⟩ := jjT h2; unfold Oper.wp execOp; simp only [ho, resolve, invoke, builtin, Sem.run_bind, Sem.run_pure, Result.andThen_ok, List.map_toArray, List.map_cons, List.map_nil, hs, hx, hr]; exact hK _ _ (h a' c' w' h2 h3 h4)
theorem jbN {w w' : World} {p : Nat} {o : Obj} (hb : Below w.heap.size w w') (h : w.heap[p]? = some o) : w'.heap[p]? = some o := (hb.block p (Array.getElem?_eq_some_iff.1 h).1).trans h
theorem jah {w : World} {p : Nat} {v0 v1 : Value} {t : TypeId} (h : w.heap[p]? = some (.cells #[v0, v1] t)) : w.cell? ⟨p, 0, none⟩ = some v0 ∧ w.cell? ⟨p, 1, none⟩ = some v1 ∧ w.frozen? ⟨p, 0, none⟩ = false ∧ w.frozen? ⟨p, 1, none⟩ = false := by
 refine ⟨?_, ?_, ?_, ?_⟩ <;> simp [World.cell?, World.frozen?, h]
theorem jlW {w : World} {p : Nat} {v0 v1 u : Value} {t : TypeId} (h : w.heap[p]? = some (.cells #[v0, v1] t)) : (w.setCell ⟨p, 0, none⟩ u).heap[p]? = some (.cells #[u, v1] t) := by
 have := heap_setCell_same w p 0 #[v0, v1] t u h
 simpa using this
theorem jlX {w : World} {p : Nat} {v0 v1 u : Value} {t : TypeId} (h : w.heap[p]? = some (.cells #[v0, v1] t)) : (w.setCell ⟨p, 1, none⟩ u).heap[p]? = some (.cells #[v0, u] t) := by
 have := heap_setCell_same w p 1 #[v0, v1] t u h
 simpa using this
theorem jlt {w : World} {p : Nat} {v0 v1 u0 u1 : Value} {t : TypeId} (h : w.heap[p]? = some (.cells #[v0, v1] t)) : ((w.setCell ⟨p, 0, none⟩ u0).setCell ⟨p, 1, none⟩ u1).heap[p]? = some (.cells #[u0, u1] t) := jlX (jlW h)
theorem jfW {w : World} {g j k : Nat} {u : Value} (h : k ≠ g) : (w.setCell ⟨g, j, none⟩ u).heap[k]? = w.heap[k]? := Below.heap_setCell _ _ _ _ h
theorem jlV {w w' : World} {B n k : Nat} {e : TypeId} {v : Value} {xs : List Value} (h : w.ownsRow B e k v n xs) (hk : ∀ g, v.ownBlock = some g → w'.heap[g]? = w.heap[g]?) : w'.ownsRow B e k v n xs := by
 refine ⟨h.1, ?_⟩
 rcases h.2 with hn | ⟨g, cap, cur, rfl, hb, hgg, rest⟩
 · exact .inl hn
 · exact .inr ⟨g, cap, cur, rfl, hb, (hk g rfl).trans hgg, rest⟩
theorem jlU {w : World} {B B' n k : Nat} {e : TypeId} {v : Value} {xs : List Value} (h : w.ownsRow B e k v n xs) (hB : B' ≤ B) : w.ownsRow B' e k v n xs := by
 refine ⟨h.1, ?_⟩
 rcases h.2 with hn | ⟨g, cap, cur, rfl, hb, hgg, rest⟩
 · exact .inl hn
 · exact .inr ⟨g, cap, cur, rfl, by omega, hgg, rest⟩
def mayN (n : Nat) (s : Int) : Bool := decide (n ≤ 100000) && (decide (0 ≤ s) && decide (s ≤ n))
def TpC (w : World) (l : List UInt8) (e : Ending) (w' : World) : Prop := ∃ a c, e = .returned (.slice a l.length c) ∧ w'.ownsRow w.heap.size 5 1 (.slice a l.length c) l.length (byC l) ∧ Below w.heap.size w w'
def TpP (w : World) (l : List UInt8) (s er : Int) (e : Ending) (w' : World) : Prop := ∃ a c, e = .returned (.tuple #[.agg #[.slice a l.length c, .int .i64 s], .int .i64 er]) ∧ w'.ownsRow w.heap.size 5 1 (.slice a l.length c) l.length (byC l) ∧ Below w.heap.size w w'
theorem jgo (a : Option Addr) (n c : Nat) (s : Int) (w : World) :
 Calls Tryz.prog 108 #[.agg #[.slice a n c, .int .i64 s]] w fun e w' => e = .returned (.bool (mayN n s)) ∧ Below w.heap.size w w' := by
 have HB := bhid ((Below.refl w.heap.size w).alloc (Nat.le_refl _) (.cells #[.slice a n c, .int .i64 s] 71)); obtain ⟨r, hr⟩ : ∃ r, r = mayN n s := ⟨_, rfl⟩; have HR := bhid hr; rw [← hr]; clear hr; go_enter Tryz.func108, Tryz.ntmps108; go_wp2
 all_goals
  go_ret; refine ⟨?_, HB.out⟩; rw [HR.out]; unfold mayN
  simp [*]
  try omega
theorem jjW (a : Option Addr) (c : Nat) (l : List UInt8) (Q : Nat → Prop) (w : World) (h : BysM Q w (.slice a l.length c) l) (hl : l.length ≤ 140737488355328) :
 Calls Tryz.prog 109 #[.slice a l.length c] w (TpC w l) := by
 have q22 : ∀ (w : World) (a : Option Addr) (n c n' c' : Nat), (binOp .eql 69 (.slice a n c) (.slice none n' c')).run Tryz.prog w = .ok (.bool a.isNone) w := fun w a n c n' c' => Lib.run_eql_slice_nil w _ _ a n c n' c' Tryz.underlying69
 have hm : l.length ≤ maxLen := h.slice.elim fun _ h => h.elim fun _ h => h.2.2
 have HH := bhid h; cases a with
 | none =>
   have h0 : l = [] := by
    cases l with
    | nil => rfl
    | cons x l => obtain ⟨b, o, e, _⟩ := h.at (j := 0) (x := x) rfl; cases e
   subst h0; have HE := bhid (show TpC w [] (.returned (.slice none 0 0)) w from ⟨none, 0, rfl, World.ownsRow_nil _ _ _ _, Below.refl _ _⟩); clear h hl hm HH; go_enter Tryz.func109, Tryz.ntmps109; go_wp2; go_ret; exact HE.out
 | some ad =>
   clear h; go_enter Tryz.func109, Tryz.ntmps109
   go_wp2_with (at_builtin; refine jdV rfl _ _ rfl rfl (World.ownsRow_made w #[] 0 (Nat.le_refl _) (Nat.zero_le _) rfl) rfl (HH.out.next (nb0 _ _)) ?qc1 ?qc2 ?qc3 ?_)
   case qc1 => omega
   case qc2 => omega
   case qc3 => simp
   intro a' c' w1 hown hgrow hat; have HO := bhid hown; have HB := bhid (show Below w.heap.size w w1 from ((Below.refl _ w).alloc (Nat.le_refl _) _).grown hgrow (by simp) (by intro k hk; simp [Value.ownBlock] at hk; omega)); clear hown hgrow hat; have HE := bhid (show TpC w l (.returned (.slice a' (0 + l.length) c')) w1 by
    have h1 := HO.out; simp only [Nat.zero_add] at h1 ⊢; exact ⟨a', c', rfl, h1, HB.out⟩)
   go_wp2; go_ret
   simpa using HE.out
theorem jjD (w : World) (o1 o2 : Obj) : ((w.alloc o1).alloc o2).heap[w.heap.size]? = some o1 ∧ ((w.alloc o1).alloc o2).heap[w.heap.size + 1]? = some o2 := by
 constructor
 · have := Below.heap_alloc (w.alloc o1) o2 w.heap.size (by simp); rw [this]; exact heap_alloc_new w o1
 · have := heap_alloc_new (w.alloc o1) o2
   simpa using this
theorem jmO (w : World) (o1 o2 : Obj) : Below w.heap.size w ((w.alloc o1).alloc o2) := (nb0 _ _).alloc (by simp) _
theorem TpP.refused (w w1 : World) (er : Int) (p : Nat) (hp : w.heap.size ≤ p) (hb : Below w.heap.size w w1) : TpP w [] 0 er (.returned (.tuple #[.agg #[.slice none 0 0, .int .i64 0], .int .i64 er])) ((w1.setCell ⟨p, 0, none⟩ (.slice none 0 0)).setCell ⟨p, 1, none⟩ (.int .i64 0)) :=
 ⟨none, 0, rfl, World.ownsRow_nil _ _ _ _, (hb.setCell hp _).setCell hp _⟩
theorem TpP.done {w w1 w2 : World} {l : List UInt8} {s : Int} {p : Nat} {a : Option Addr} {c : Nat} (hp : w.heap.size ≤ p) (hp1 : p < w1.heap.size) (hb : Below w.heap.size w w1) (h : TpC w1 l (.returned (.slice a l.length c)) w2) : TpP w l s 0 (.returned (.tuple #[.agg #[.slice a l.length c, .int .i64 s], .int .i64 0])) ((w2.setCell ⟨p, 0, none⟩ (.slice a l.length c)).setCell ⟨p, 1, none⟩ (.int .i64 s)) := by
 obtain ⟨a', c', e, hO, hb2⟩ := h; cases e; refine ⟨a, c, rfl, ?_, ((hb.trans (hb2.mono hb.size)).setCell hp _).setCell hp _⟩; refine jlU (B := w1.heap.size) (jlV hO fun g hg => ?_) hb.size; have := (World.ownsRow.lt hO g hg).1; exact (jfW (by omega)).trans (jfW (by omega))
structure Cv where
 t : Value
 d : Value
 l : Value
structure Vals where
 td : Value
 sf : Value
 st : Value
 lo : Value
 sc : Value
 od : Value
 du : Value
 c0 : Cv
 c1 : Cv
 c2 : Cv
 os : List Value
 sv : List (Value × Value)
def Vals.con (X : Vals) : Nat → Cv
 | 0 => X.c0
 | 1 => X.c1
 | _ => X.c2
def Vals.put (X : Vals) (i : Nat) (c : Cv) : Vals :=
 match i with
 | 0 => { X with c0 := c }
 | 1 => { X with c1 := c }
 | _ => { X with c2 := c }
def conC (c : Con) (x : Cv) : List Value := [.int .i64 c.ses.step, .string (S c.ses.frm.1), .string (S c.ses.frm.2), x.t, .string (S c.ses.text), .bool c.ses.large, .string (S c.held), x.d, x.l]
def vr (R : Rom) (X : Vals) : List Value := [.bool R.up, X.td, .int .i64 R.tsyn, .int .i64 R.syn, .int .i64 R.waits, X.sf, X.st] ++ conC R.c0 X.c0 ++ conC R.c1 X.c1 ++ conC R.c2 X.c2 ++ [X.lo, X.sc, X.od, X.du]
def intR (t : TypeId) (v : Value) (l : List Int) : MRow := ⟨t, 1, v, l.length, l.map fun k => .int .i64 k⟩
def sttR (v : Value) (l : List (Value × Value)) : MRow := ⟨49, 2, v, l.length, (l.map fun x => [x.1, x.2]).flatten⟩
def ordR (v : Value) (l : List Value) : MRow := ⟨137, 1, v, l.length, l⟩
def jZ (R : Rom) (X : Vals) : List MRow := [intR 3 X.c0.l R.c0.told, intR 3 X.c1.l R.c1.told, intR 3 X.c2.l R.c2.told, intR 3 X.du R.due, sttR X.st X.sv, ordR X.od X.os] ++ (List.range 3).map fun u => intR 40 (X.os.getD u (.slice none 0 0)) (R.orders.getD u [])
def IntsM (Q : Nat → Prop) (w : World) (v : Value) (l : List Int) : Prop := RowM Q 1 (fun x cs => cs = [.int .i64 x]) w v l
structure ConM (Q : Nat → Prop) (w : World) (c : Con) (x : Cv) : Prop where
 gl : AdrsM Q w x.t c.ses.to
 ry : jap x.t
 du : IntsM Q w x.d c.due
def SttV (Q : Nat → Prop) (w : World) (s : Stt) (cs : List Value) : Prop := ∃ vb vs, cs = [vb, vs] ∧ SttM Q w vb vs s
def ScrV (Q : Nat → Prop) (w : World) (C : List Cmd) (cs : List Value) : Prop := ∃ a c, cs = [.slice a C.length c] ∧ jbl a C.length c ∧ CmdsM Q 5 w (.slice a C.length c) C
structure RoM (Q : Nat → Prop) (w : World) (K : List (List UInt8)) (Cs : List (List Cmd)) (R : Rom) (X : Vals) : Prop where
 k0 : ConM Q w R.c0 X.c0
 k1 : ConM Q w R.c1 X.c1
 k2 : ConM Q w R.c2 X.c2
 lo : TxtsM Q w X.lo K
 sc : RowM Q 1 (ScrV Q w) w X.sc Cs
 sf : RowM Q 2 (SttV Q w) w X.sf R.safe
 sv : X.sv.length = R.states.length ∧ ∀ (i : Nat) s x, R.states[i]? = some s → X.sv[i]? = some x → SttM Q w x.1 x.2 s
 os : X.os.length = 3 ∧ R.orders.length = 3
 td : BysM Q w X.td R.tape
def RoomM (K : List (List UInt8)) (Cs : List (List Cmd)) (B b : Nat) (G : List Nat) (R : Rom) (w : World) : Prop :=
 ∃ X, G = mB (jZ R X) ∧ B ≤ b ∧ RmB w b (vr R X) ∧ MOk w B b (jZ R X) ∧ RoM (AvN B b G) w K Cs R X
theorem BysM.stp {N b : Nat} {G G' : List Nat} {w w' : World} {v : Value} {l : List UInt8} (h : BysM (AvN N b G) w v l) (hs : Stp b G w G' w') : BysM (AvN N b G') w' v l := by
 obtain ⟨a, c, h1, h2, h3, h4⟩ := h; refine ⟨a, c, h1, h2, h3, fun j x hx => ?_⟩; obtain ⟨g, o, e, q, hc⟩ := h4 j x hx; have hg := World.block_lt_of_cell? w _ hc; exact ⟨g, o, e, ⟨q.1, hs.av hg q.2⟩, (World.cell?_of_block (hs.block g hg q.2)).trans hc⟩
theorem IntsM.stp {N b : Nat} {G G' : List Nat} {w w' : World} {v : Value} {l : List Int} (h : IntsM (AvN N b G) w v l) (hs : Stp b G w G' w') : IntsM (AvN N b G') w' v l := RowM.stpN h hs fun _ _ h => h
theorem AdrsM.stp {N b : Nat} {G G' : List Nat} {w w' : World} {v : Value} {l : List Adr} (h : AdrsM (AvN N b G) w v l) (hs : Stp b G w G' w') : AdrsM (AvN N b G') w' v l := RowM.stpN h hs fun _ _ h => h
theorem ConM.stp {N b : Nat} {G G' : List Nat} {w w' : World} {c : Con} {x : Cv} (h : ConM (AvN N b G) w c x) (hs : Stp b G w G' w') : ConM (AvN N b G') w' c x := ⟨h.gl.stp hs, h.ry, h.du.stp hs⟩
theorem SttM.stp {N b : Nat} {G G' : List Nat} {w w' : World} {vb vs : Value} {s : Stt} (h : SttM (AvN N b G) w vb vs s) (hs : Stp b G w G' w') : SttM (AvN N b G') w' vb vs s := by
 obtain ⟨h1, h2, h3⟩ := h; exact ⟨RowM.stpN h1 hs fun x cs h => by
  obtain ⟨v, k1, k2⟩ := h; exact ⟨v, k1, RowM.stpN k2 hs fun _ _ h => h⟩, RowM.stpN h2 hs fun _ _ h => h, h3⟩
theorem RoM.stp {N b : Nat} {G G' : List Nat} {w w' : World} {K : List (List UInt8)} {Cs : List (List Cmd)} {R : Rom} {X : Vals} (h : RoM (AvN N b G) w K Cs R X) (hs : Stp b G w G' w') : RoM (AvN N b G') w' K Cs R X where
 k0 := h.k0.stp hs
 k1 := h.k1.stp hs
 k2 := h.k2.stp hs
 lo := h.lo.stp hs
 sc := RowM.stpN h.sc hs fun _ _ h => by
  obtain ⟨a, c, h1, h2, h3⟩ := h; exact ⟨a, c, h1, h2, h3.stpN hs⟩
 sf := RowM.stpN h.sf hs fun _ _ h => by
  obtain ⟨a, c, h1, h2⟩ := h; exact ⟨a, c, h1, h2.stp hs⟩
 sv := ⟨h.sv.1, fun i s x hi hx => (h.sv.2 i s x hi hx).stp hs⟩
 os := h.os
 td := h.td.stp hs
theorem RoomM.next {K : List (List UInt8)} {Cs : List (List Cmd)} {B b : Nat} {G : List Nat} {R : Rom} {w w' : World} (h : RoomM K Cs B b G R w) (hb : Below w.heap.size w w') : RoomM K Cs B b G R w' := by
 obtain ⟨X, h1, h2, h3, h4, h5⟩ := h; exact ⟨X, h1, h2, h3.next hb, h4.next hb, h5.stp (.of hb)⟩
theorem RoomM.lt {K : List (List UInt8)} {Cs : List (List Cmd)} {B b : Nat} {G : List Nat} {R : Rom} {w : World} (h : RoomM K Cs B b G R w) : b < w.heap.size ∧ B ≤ b ∧ ∀ k ∈ G, B ≤ k ∧ k < w.heap.size := by
 obtain ⟨X, h1, h2, h3, h4, h5⟩ := h; exact ⟨h4.lt, h2, fun k hk => h4.rng k (by rw [← h1]; exact hk)⟩
theorem RoomM.low {K : List (List UInt8)} {Cs : List (List Cmd)} {B b : Nat} {G G' : List Nat} {R : Rom} {w w' : World} (h : RoomM K Cs B b G R w) (hs : Stp b G w G' w') : Below B w w' :=
 hs.below h.lt.2.1 (by have := h.lt; omega) fun k hk => (h.lt.2.2 k hk).1
end Go.Proofs.YtmgdnhjemhhleaaGreatDoor
