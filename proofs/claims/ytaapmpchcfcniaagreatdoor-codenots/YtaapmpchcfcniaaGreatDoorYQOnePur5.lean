/-
  An If whose sides have no others in them: how long it is, and the course that it makes.
  Two flips are none: plain facts.
  A runner of ops in its box: plain facts on memory.
  What judge.Do does: the walk.
  A course in a box: plain facts on memory.
-/
import Derived.Test.YtaapmpchcfcniaaGreatDoorYQCodRp3
import Derived.Test.YtaapmpchcfcniaaGreatDoorYQMkTesv6
import Derived.Test.YtaapmpchcfcniaaGreatDoorYQAppCmd6
import Derived.Test.YtaapmpchcfcniaaGreatDoorYQJudChk5
import Derived.Test.YtaapmpchcfcniaaGreatDoorYQJudCrs5
import Derived.Test.YtaapmpchcfcniaaGreatDoorYQCodPur6
import Derived.Test.YtaapmpchcfcniaaGreatDoorYQWhoPart3
import Derived.Test.YtaapmpchcfcniaaGreatDoorYRulCs
import Derived.Test.YtaapmpchcfcniaaGreatDoorYQMkTest6
import Derived.Test.YtaapmpchcfcniaaGreatDoorYJudTel
namespace Go.Proofs.YtaapmpchcfcniaaGreatDoor
open Go.RowKit Go.Proofs
theorem jip (l : List (List UInt8)) : (sepT (fun x => [strT x]) l).length ≤ 2 * l.length := by
  cases l with
  | nil => simp [sepT]
  | cons x r =>
    simp only [sepT, List.length_append, List.length_cons, List.length_nil]; have : (r.flatMap fun y => [jG 44, strT y]).length = 2 * r.length := by
      induction r with
      | nil => rfl
      | cons y r ih => simp only [List.flatMap_cons, List.length_append, ih, List.length_cons, List.length_nil]; omega
    rw [this]; omega
theorem jam (l : List (List UInt8)) : (qX l).length ≤ 2 * l.length + 2 := by
  unfold qX; split
  · simp
  · have := jip l
    simp; omega
theorem jgU (M : Nat) (hM : M ≤ 5) (t : Tst) (o : Opn) (ho : vU o) (an ak at' : Option Addr) (cn ck ct : Nat) (w : World) (hw : Tabs w) (hm : maxLenCell w) (hT : TstM anyB (M + 1) w t [.int .i64 t.kind, .int .i64 t.mat, .int .i64 t.part, .slice an t.names.length cn, .slice ak t.keys.length ck, .bool t.over, .int .i64 t.limit, .slice at' t.tests.length ct]) (hN : NT t) (hl : (jD (M + 1) t).length ≤ 390) :
    Calls Tryz.prog 14 #[.agg #[.int .i64 t.kind, .int .i64 t.mat, .int .i64 t.part, .slice an t.names.length cn, .slice ak t.keys.length ck, .bool t.over, .int .i64 t.limit, .slice at' t.tests.length ct], .agg #[.string (S o.fl), .string (S o.fd), .string (S o.tl), .string (S o.td), .string (S o.tx)]] w fun e w' => e = .returned (.tuple #[.bool (ju o (M + 1) t), .int .i64 0]) ∧ Below w.heap.size w w' := by
  have hf : jo (M + 1) 1 t = 0 := jdY (M + 1) (M + 1) 1 t _ hT (hN _).2 (by omega); exact jl3 M t o an ak at' cn ck ct w hw hm ho hT (jj0 (hN _).1 hf hl) (jlf (M + 1) 1 t hf)
def bndT : Nat → Nat
  | 0 => 0
  | m + 1 => 3 * bndT m + 16
theorem jj6 {f : Tst → List Tok} {N : Nat} : ∀ l : List Tst, (∀ u ∈ l, (f u).length ≤ N) → l.length ≤ 3 → (sepT f l).length ≤ 3 * N + 2 := by
  intro l h h3
  match l, h, h3 with
  | [], _, _ => simp [sepT]
  | [x], h, _ => have := h x (by simp); simp [sepT]; omega
  | [x, y], h, _ => have := h x (by simp); have := h y (by simp); simp [sepT]; omega
  | [x, y, z], h, _ => have := h x (by simp); have := h y (by simp); have := h z (by simp); simp [sepT]; omega
  | _ :: _ :: _ :: _ :: _, _, h3 => simp at h3
theorem jfm {Q : Nat → Prop} {w : World} : ∀ (m n : Nat) (t : Tst) (cs : List Value), TstM Q m w t cs → FitT n t → (jD n t).length ≤ bndT m := by
  intro m
  induction m with
  | zero => intro n t cs h; exact h.elim
  | succ m ih =>
    intro n t cs h hF; cases n with
    | zero => simp [jD]
    | succ n =>
      obtain ⟨h1, h2⟩ := hF; unfold fitH at h1; simp only [Bool.and_eq_true, decide_eq_true_eq] at h1; obtain ⟨⟨⟨_, hn⟩, hk⟩, ht⟩ := h1; obtain ⟨_, _, vt, _, _, _, hr⟩ := h; obtain ⟨_, _, _, _, hrr⟩ := hr; have hu : ∀ u ∈ t.tests, (jD n u).length ≤ bndT m := fun u hu => by
        obtain ⟨i, hi⟩ := je0 hu; obtain ⟨_, _, cs', _, _, _, _, _, hP⟩ := hrr i u hi; exact ih n u cs' hP (h2 u hu)
      have l1 := jam t.names; have l2 := jam t.keys; have l3 := jj6 (f := jD n) t.tests hu ht; have l4 : ((t.tests.head?.map (jD n)).getD []).length ≤ bndT m := by
        cases hq : t.tests with
        | nil => simp
        | cons x r => exact hu x (by rw [hq]; simp)
      unfold jD bndT; split
      · simp only [List.length_cons]; omega
      · split
        · simp; omega
        · split
          · simp; omega
          · split
            · simp; omega
            · split
              · simp; omega
              · split <;> (simp; try omega)
def Flat (x : Cmd) : Prop := x.thn = [] ∧ x.els = [] ∧ ∀ n, (jD n x.test).length ≤ 16 ∨ x.kind ≠ 2
theorem jeU {x : Cmd} (h : Flat x) (hN : NC x) (n : Nat) : (j4 n x).length ≤ 18 := by
  cases n with
  | zero => simp [j4]
  | succ n =>
    obtain ⟨h1, h2, h3⟩ := h; unfold j4; rw [h1, h2]
    by_cases hk : x.kind = 2
    · rw [if_pos hk]
      rcases h3 n with h | h
      · simp [jP]; omega
      · exact absurd hk h
    · rw [if_neg hk]; have hf := (hN 1).2.1; unfold qJ at hf; simp only [Bool.and_eq_true, decide_eq_true_eq] at hf; have hl := jam x.texts; split <;> (simp; try omega)
theorem jdl {l : List Cmd} (h : ∀ x ∈ l, Flat x) (hN : ∀ x ∈ l, NC x) (n : Nat) : (l.flatMap fun x => zw (jQ 0 x.kind.toNat) :: j4 n x).length ≤ 19 * l.length := by
  induction l with
  | nil => simp
  | cons x r ih =>
    have h1 := jeU (h x (by simp)) (hN x (by simp)) n; have h2 := ih (fun y hy => h y (by simp [hy])) fun y hy => hN y (by simp [hy])
    simp only [List.flatMap_cons, List.length_append, List.length_cons]; omega
theorem jjU (n : Nat) : (cmdT n reqC).length ≤ 12 := by
  cases n with
  | zero => simp [cmdT, j4]
  | succ n =>
    have hl := jam reqC.texts; have h4 : reqC.texts.length = 4 := rfl; unfold cmdT j4; rw [if_neg (by decide), if_neg (by decide)]; simp only [List.length_cons, List.length_append, List.length_nil]; omega
def oneC (t : Tst) (A B : List Cmd) : Cmd := ⟨2, [], t, A, B⟩
theorem jhZ {t : Tst} {A B : List Cmd} (hl : ∀ n, (jD n t).length ≤ 208) (hA : ∀ x ∈ A, Flat x) (hB : ∀ x ∈ B, Flat x) (nA : ∀ x ∈ A, NC x) (nB : ∀ x ∈ B, NC x) (a4 : A.length ≤ 4) (b4 : B.length ≤ 4) (n : Nat) : (jK n [reqC, oneC t A B]).length ≤ 400 := by
  have h0 := jjU n; have h1 : (cmdT n (oneC t A B)).length ≤ 370 := by
    unfold cmdT; cases n with
    | zero => simp [j4]
    | succ n =>
      have e1 := hl n; have e2 := jdl hA nA n; have e3 := jdl hB nB n; unfold j4; rw [if_pos (show (oneC t A B).kind = 2 from rfl)]
      show (zw (jQ 0 2) :: (jD n t ++ (jG 123 :: (A.flatMap fun (x : Cmd) => zw (jQ 0 x.kind.toNat) :: j4 n x) ++ [jG 125]) ++ (match jP B with
         | some x => zw jaV :: j4 n x
         | none => if B.length = 0 then [] else zw jfR :: jG 123 :: (B.flatMap fun (x : Cmd) => zw (jQ 0 x.kind.toNat) :: j4 n x) ++ [jG 125]))).length ≤ 370
      have e4 : (match jP B with
         | some x => zw jaV :: j4 n x
         | none => if B.length = 0 then [] else zw jfR :: jG 123 :: (B.flatMap fun (x : Cmd) => zw (jQ 0 x.kind.toNat) :: j4 n x) ++ [jG 125]).length ≤ 79 := by
        cases hq : jP B with
        | some x =>
          have hx : x ∈ B := by
            unfold jP at hq; split at hq
            · split at hq
              · simp only [Option.some.injEq] at hq; rw [hq]; exact List.mem_singleton.2 rfl
              · cases hq
            · cases hq
          have := jeU (hB x hx) (nB x hx) n
          simp; omega
        | none =>
          simp only; split
          · simp
          · simp only [List.length_cons, List.length_append, List.length_nil]; omega
      simp only [List.length_cons, List.length_append, List.length_nil]; omega
  show ([reqC, oneC t A B].flatMap (cmdT n)).length ≤ 400
  simp only [List.flatMap_cons, List.flatMap_nil, List.length_append, List.length_nil]; omega
theorem jmw {t : Tst} {A B : List Cmd} (ht : NT t) (nA : ∀ x ∈ A, NC x) (nB : ∀ x ∈ B, NC x) (a4 : A.length ≤ 4) (b4 : B.length ≤ 4) : NC (oneC t A B) :=
  NC.mk (by simp [oneC]) (fun h => by cases h) (fun h => by rcases h with h | h <;> cases h) (fun h => by cases h) (fun n => (ht n).1) nA nB (jmi a4 b4) fun _ => ht
theorem jfN {n : Nat} {l : List Cmd} (h : ∀ x ∈ l, jl n 0 x = 0) (hl : (jK n l).length ≤ 400) : za n l = 0 := by
  rcases jgX h with e | e
  · exact e
  · rw [vu h] at e; rw [if_neg (by omega)] at e; cases e
theorem jfy {w : World} {b n k : Nat} {x : Option Addr} {f er : Int} {q : Bool} {t : TypeId} {fr : Nat × Nat} {v : Value} {l : List Atn} (hb : w.heap[b]? = some (.cells #[.slice x n k, .int .i64 f, .bool q, .int .i64 er] t fr)) (h : AtnsM anyB w v l) : AtnsM (fun p => p ≠ b) w v l := by
  obtain ⟨a, c, hv, hm, hr⟩ := h; refine ⟨a, c, hv, hm, fun i y hy => ?_⟩; obtain ⟨p, o, cs, h1, h2, _, h4, h5, h6⟩ := hr i y hy; refine ⟨p, o, cs, h1, h2, fun hpb => ?_, h4, h5, h6⟩; rw [hpb] at h5; have h7 := h5 1 (.string (S y.text)) (by rw [show cs = _ from h6]; rfl); simp only [World.cell?, hb] at h7; rw [List.getElem?_toArray] at h7; have hj : ∀ j : Nat, ([.slice x n k, .int .i64 f, .bool q, .int .i64 er] : List Value)[j]? ≠ some (.string (S y.text)) := by
    intro j
    match j with
    | 0 | 1 | 2 | 3 => simp
    | j + 4 => simp
  exact hj _ h7
theorem set4 {w : World} {b : Nat} {v0 v1 v2 v3 u0 u1 u2 u3 : Value} {t : TypeId} (h : w.heap[b]? = some (.cells #[v0, v1, v2, v3] t)) :
    ((((w.setCell ⟨b, 0, none⟩ u0).setCell ⟨b, 1, none⟩ u1).setCell ⟨b, 2, none⟩ u2).setCell ⟨b, 3, none⟩ u3).heap[b]? = some (.cells #[u0, u1, u2, u3] t) := by
  have h1 := heap_setCell_same w b 0 _ t u0 h; have h2 := heap_setCell_same _ b 1 _ t u1 h1; have h3 := heap_setCell_same _ b 2 _ t u2 h2; have h4 := heap_setCell_same _ b 3 _ t u3 h3
  simpa using h4
theorem jiY {w : World} {b : Nat} {u0 u1 u2 u3 v : Value} {l : List Atn} (h : AtnsM (fun p => p ≠ b) w v l) : AtnsM anyB ((((w.setCell ⟨b, 0, none⟩ u0).setCell ⟨b, 1, none⟩ u1).setCell ⟨b, 2, none⟩ u2).setCell ⟨b, 3, none⟩ u3) v l :=
  RowM.imp h (fun _ _ => trivial) ((((Keeps.set (p := ⟨b, 0, none⟩) w u0 (fun _ h => h)).trans (Keeps.set (p := ⟨b, 1, none⟩) _ u1 (fun _ h => h))).trans (Keeps.set (p := ⟨b, 2, none⟩) _ u2 (fun _ h => h))).trans (Keeps.set (p := ⟨b, 3, none⟩) _ u3 (fun _ h => h))) fun _ _ h => h
def CBox (W : World) (cc : Crs) (p e : Value) (wx : World) : Prop := ∃ (P : Nat) (a3 : Option Addr) (k3 : Nat), p = .pointer (some ⟨P, 0, none⟩) ∧ e = .int .i64 0 ∧ wx.heap[P]? = some (.cells #[.slice a3 cc.acts.length k3, .int .i64 cc.flags, .bool cc.asked, .int .i64 cc.fault] 42) ∧ AtnsM anyB wx (.slice a3 cc.acts.length k3) cc.acts ∧ Below W.heap.size W wx
theorem CBox.old {W w3 : World} {cc : Crs} {P : Nat} {a3 : Option Addr} {k3 : Nat} (hP : W.heap.size ≤ P) (hb : w3.heap[P]? = some (.cells #[.slice none 0 0, .int .i64 0, .bool false, .int .i64 0] 42)) (hA : AtnsM anyB w3 (.slice a3 cc.acts.length k3) cc.acts) (hB : Below W.heap.size W w3) :
    CBox W cc (.pointer (some ⟨P, 0, none⟩)) (.int .i64 0) ((((w3.setCell ⟨P, 0, none⟩ (.slice a3 cc.acts.length k3)).setCell ⟨P, 1, none⟩ (.int .i64 cc.flags)).setCell ⟨P, 2, none⟩ (.bool cc.asked)).setCell ⟨P, 3, none⟩ (.int .i64 cc.fault)) :=
  ⟨P, a3, k3, rfl, rfl, set4 hb, jiY (jfy hb hA), (((hB.setCell hP _).setCell hP _).setCell hP _).setCell hP _⟩
theorem CBox.new {W w3 : World} {cc : Crs} {a3 : Option Addr} {k3 : Nat} (hA : AtnsM anyB w3 (.slice a3 cc.acts.length k3) cc.acts) (hB : Below W.heap.size W w3) :
    CBox W cc (.pointer (some ⟨w3.heap.size, 0, none⟩)) (.int .i64 0) (w3.alloc (.cells #[.slice a3 cc.acts.length k3, .int .i64 cc.flags, .bool cc.asked, .int .i64 cc.fault] 42)) :=
  ⟨w3.heap.size, a3, k3, rfl, rfl, jV _ rfl, AtnsM.next hA ((Below.refl _ _).alloc (Nat.le_refl _) _), hB.alloc hB.size _⟩
def ReqP (W : World) (e : Ending) (w' : World) : Prop := ∃ v0 v1 v2 v3 v4 v5 v6 v7 v8 v9 v10 v11 : Value, e = .returned (.agg #[v0, v1, v2, v3, v4, v5, v6, v7, v8, v9, v10, v11]) ∧ CmdM (newB W.heap.size) 2 w' reqC [v0, v1, v2, v3, v4, v5, v6, v7, v8, v9, v10, v11] ∧ Below W.heap.size W w'
theorem jbU (w : World) : Calls Tryz.prog 13 #[] w (ReqP w) := (jdK w).mono fun e w' h => by
  obtain ⟨v, rfl, ⟨cs, rfl, hC⟩, hb⟩ := h; obtain ⟨ax, cx, an, cn, ak, ck, at', ct, aa, ca, ae, ce, m0, _, rfl, _⟩ := zh hC; exact ⟨_, _, _, _, _, _, _, _, _, _, _, _, rfl, hC, hb⟩
end Go.Proofs.YtaapmpchcfcniaaGreatDoor
namespace Go.Proofs.YtaapmpchcfcniaaGreatDoor
open Go.RowKit Go.Proofs
def noT (t : Tst) : Tst := ⟨3, 0, 0, [], [], false, 0, [t]⟩
theorem NT.no {t : Tst} (h : NT t) : NT (noT t) := NT.mk rfl rfl (fun _ => rfl) (fun u hu => by simp only [noT, List.mem_singleton] at hu; subst hu; exact h) (jhj (Or.inl rfl))
def nots : Nat → Tst → Tst
  | 0, t => t
  | k + 1, t => noT (nots k t)
theorem jhX {t : Tst} (h : NT t) : ∀ k, NT (nots k t)
  | 0 => h
  | k + 1 => (jhX h k).no
def dscC : Cmd := ⟨4, [], zd, [], []⟩
theorem jkA : NC dscC := NC.mk (by decide) (fun h => by cases h) (fun h => by rcases h with h | h <;> cases h) (fun h => by cases h) NT.none (fun u hu => by cases hu) (fun u hu => by cases hu) rfl (fun h => by cases h)
theorem jjc : Flat dscC := ⟨rfl, rfl, fun _ => .inr (by decide)⟩
theorem jjJ {t : Tst} (hl : ∀ n, (jD n t).length ≤ 16) : ∀ k n, (jD n (nots k t)).length ≤ 16 + k := by
  intro k
  induction k with
  | zero => exact hl
  | succ k ih =>
    intro n; cases n with
    | zero => simp [jD]
    | succ n =>
      have := ih n; unfold jD; rw [if_pos (show (nots (k + 1) t).kind = 3 from rfl)]
      show (zw (jQ 1 3) :: (jD n (nots k t))).length ≤ 16 + (k + 1)
      rw [List.length_cons]; omega
theorem jkI {t : Tst} (h : NT t) (k : Nat) : ∀ x ∈ [oneC (nots k t) [dscC] []], NC x := fun x hx => by
  simp only [List.mem_singleton] at hx; subst hx; exact jmw (jhX h k) (fun y hy => by simp only [List.mem_singleton] at hy; subst hy; exact jkA) (fun y hy => by cases hy) (by decide) (by decide)
theorem jlu {t : Tst} (hl : ∀ n, (jD n t).length ≤ 16) {k : Nat} (hk : k < 4) (n : Nat) : (jK n [reqC, oneC (nots k t) [dscC] []]).length ≤ 400 :=
  jhZ (fun n => by have := jjJ hl k n; omega) (fun y hy => by simp only [List.mem_singleton] at hy; subst hy; exact jjc) (fun y hy => by cases hy) (fun y hy => by simp only [List.mem_singleton] at hy; subst hy; exact jkA) (fun y hy => by cases hy) (by decide) (by decide) n
def ntL (t : Tst) (k : Nat) : List Opr := doO reqC :: askO t :: (List.replicate k jaa ++ [zk 4 (4 + k), doO dscC])
theorem jjK {t : Tst} (k3 : t.kind ≠ 3) (k4 : t.kind ≠ 4) (k5 : t.kind ≠ 5) : ∀ k n, k < n → oTst n (nots k t) 1 = askO t :: List.replicate k jaa := by
  intro k
  induction k with
  | zero =>
    intro n hn; cases n with
    | zero => omega
    | succ n => show oTst (n + 1) t 1 = _; simp only [oTst]; rw [if_neg k3, if_neg k4, if_neg k5]; rfl
  | succ k ih =>
    intro n hn; cases n with
    | zero => omega
    | succ n =>
      have := ih n (by omega)
      show (oTst n (nots k t) 1) ++ [jaa] = _
      rw [this, List.cons_append]
      congr 1
      rw [List.replicate_succ', List.append_cancel_right_eq]
theorem jhY {t : Tst} (k3 : t.kind ≠ 3) (k4 : t.kind ≠ 4) (k5 : t.kind ≠ 5) {k n : Nat} (hk : k < n) : vv (n + 1) [reqC, oneC (nots k t) [dscC] []] = ntL t k := by
  have hT := jjK k3 k4 k5 k n hk; have e1 : oCmd (n + 1) reqC 0 = [doO reqC] := by rw [oCmd, if_neg (by decide)]
  have e2 : oCmd (n + 1) (oneC (nots k t) [dscC] []) 1 = oIf 1 (oTst n (nots k t) 1) (zL (oCmd n) [dscC] (1 + (oTst n (nots k t) 1).length + 1)) false [] := by
    rw [oCmd, if_pos (by rfl)]; rfl
  have e3 : ∀ a, zL (oCmd n) [dscC] a = [doO dscC] := fun a => by
    cases n with
    | zero => omega
    | succ n => show oCmd (n + 1) dscC a ++ _ = _; rw [oCmd, if_neg (by decide)]; rfl
  show oCmd (n + 1) reqC 0 ++ (oCmd (n + 1) (oneC (nots k t) [dscC] []) (0 + (oCmd (n + 1) reqC 0).length) ++ []) = _
  rw [e1]
  show [doO reqC] ++ (oCmd (n + 1) (oneC (nots k t) [dscC] []) 1 ++ []) = _
  rw [e2, e3, hT]; unfold oIf ntL; rw [if_neg (by simp)]; simp only [List.length_cons, List.length_replicate, List.length_nil, List.append_nil, List.cons_append, List.nil_append, List.cons.injEq, true_and]; rw [show 1 + (k + 1) + 1 + (0 + 1) = 4 + k by omega]
def ntY (k : Nat) (b : Bool) : Bool := if k % 2 = 1 then !b else b
theorem jmt (t : Tst) (k : Nat) : (ntL t k).length = 4 + k := by simp [ntL]; omega
theorem jmu (o : Opn) {t : Tst} (k : Nat) (hk : k < 4) : ∃ c, runN o (ntL t k) 8 ⟨newC, 0, 0, false⟩ = ⟨c, 4 + k, 3 + k + (if ntY k (ju o 1 (qH t)) = true then 1 else 0), ntY k (ju o 1 (qH t))⟩ ∧ c.asked = ntY k (ju o 1 (qH t)) := by
  have hr : ∀ s : Crs, doP s (qG reqC) = (s, false) := fun s => rfl
  have hd : doP newC (qG dscC) = (⟨[⟨4, [], 0⟩], 0, true, 0⟩, false) := rfl; generalize hb : ju o 1 (qH t) = b
  match k, hk with
  | 0, _ => cases b <;> exact ⟨_, by simp [runN, zm, ze, ntL, ntY, doO, askO, jaa, zk, hr, hd, hb]; try rfl, rfl⟩
  | 1, _ => cases b <;> exact ⟨_, by simp [runN, zm, ze, ntL, ntY, doO, askO, jaa, zk, hr, hd, hb]; try rfl, rfl⟩
  | 2, _ => cases b <;> exact ⟨_, by simp [runN, zm, ze, ntL, ntY, doO, askO, jaa, zk, hr, hd, hb]; try rfl, rfl⟩
  | 3, _ => cases b <;> exact ⟨_, by simp [runN, zm, ze, ntL, ntY, doO, askO, jaa, zk, hr, hd, hb]; try rfl, rfl⟩
end Go.Proofs.YtaapmpchcfcniaaGreatDoor
namespace Go.Proofs.YtaapmpchcfcniaaGreatDoor
open Go.RowKit Go.Proofs
abbrev rnL (o : Opn) (vL : Value) (a : Option Addr) (k : Nat) (c : Crs) (pc dn : Int) (td : Bool) : Array Value := #[vL, .string (S o.fl), .string (S o.fd), .string (S o.tl), .string (S o.td), .string (S o.tx), .slice a c.acts.length k, .int .i64 c.flags, .bool c.asked, .int .i64 c.fault, .int .i64 pc, .int .i64 dn, .bool td]
theorem jfE {w : World} {b : Nat} {o : Opn} {n m k : Nat} {x : Option Addr} {ax : Option Addr} {c : Crs} {pc dn : Int} {td : Bool} {t : TypeId} {fr : Nat × Nat} {v : Value} {l : List Atn} (hb : w.heap[b]? = some (.cells (rnL o (.slice x n m) ax k c pc dn td) t fr)) (h : AtnsM anyB w v l) : AtnsM (fun p => p ≠ b) w v l := by
  obtain ⟨a, c', hv, hm, hr⟩ := h; refine ⟨a, c', hv, hm, fun i y hy => ?_⟩; obtain ⟨p, q, cs, h1, h2, _, h4, h5, h6⟩ := hr i y hy; refine ⟨p, q, cs, h1, h2, fun hpb => ?_, h4, h5, h6⟩; rw [hpb] at h5; have h6' : cs = [.int .i64 y.kind, .string (S y.text), .int .i64 y.flags] := h6; have h7 := h5 0 (.int .i64 y.kind) (by rw [h6']; rfl); have h8 := h5 1 (.string (S y.text)) (by rw [h6']; rfl); simp only [World.cell?, hb] at h7 h8; rw [List.getElem?_toArray] at h7 h8; have hj : ∀ j : Nat, ([.slice x n m, .string (S o.fl), .string (S o.fd), .string (S o.tl), .string (S o.td), .string (S o.tx), .slice ax c.acts.length k, .int .i64 c.flags, .bool c.asked, .int .i64 c.fault, .int .i64 pc, .int .i64 dn, .bool td] : List Value)[j]? = some (.int .i64 y.kind) → ([.slice x n m, .string (S o.fl), .string (S o.fd), .string (S o.tl), .string (S o.td), .string (S o.tx), .slice ax c.acts.length k, .int .i64 c.flags, .bool c.asked, .int .i64 c.fault, .int .i64 pc, .int .i64 dn, .bool td] : List Value)[j + 1]? ≠ some (.string (S y.text)) := by
    intro j
    match j with
    | 0 | 1 | 2 | 3 | 4 | 5 | 6 | 7 | 8 | 9 | 10 | 11 | 12 => simp
    | j + 13 => simp
  exact hj _ h7 h8
def RnB (w : World) (b : Nat) (o : Opn) (vL : Value) (s : Rn) : Prop := ∃ a k, w.heap[b]? = some (.cells (rnL o vL a k s.c s.pc s.done s.told) 80) ∧ AtnsM (fun p => p ≠ b) w (.slice a s.c.acts.length k) s.c.acts ∧ (a = none → s.c.acts = [] ∧ k = 0)
theorem zT {w : World} {b p j : Nat} (v : Value) {l : List Atn} {u : Value} (h : AtnsM (fun q => q ≠ b) w u l) (e : p = b) : AtnsM (fun q => q ≠ b) (w.setCell ⟨p, j, none⟩ v) u l := by
  subst e; exact RowM.imp h (fun _ h => h) (Keeps.set (p := ⟨p, j, none⟩) w v (fun _ h => h)) fun _ _ h => h
theorem jeL {w w' : World} {b : Nat} {u : Value} {l : List Atn} (h : AtnsM (fun q => q ≠ b) w u l) (hb : Below w.heap.size w w') : AtnsM (fun q => q ≠ b) w' u l := AtnsM.next h hb
def StpR (w0 : World) (b : Nat) (o : Opn) (vL : Value) (s : Rn) (e : Ending) (w' : World) : Prop := (∃ v, e = .returned v) ∧ RnB w' b o vL s ∧ Below w0.heap.size w0 w'
def RunP (o : Opn) (L : List Opr) (w : World) (e : Ending) (w' : World) : Prop := ∃ (j : Nat) (s : Rn) (a : Option Addr) (k : Nat), s = runN o L j ⟨newC, 0, 0, false⟩ ∧ L.length ≤ s.pc ∧ RnOk L s ∧ e = .returned (.tuple #[.agg #[.slice a s.c.acts.length k, .int .i64 s.c.flags, .bool s.c.asked, .int .i64 s.c.fault], .int .i64 s.done, .int .i64 0]) ∧ AtnsM anyB w' (.slice a s.c.acts.length k) s.c.acts ∧ (a = none → s.c.acts = [] ∧ k = 0) ∧ Below w.heap.size w w'
theorem bx13 {w : World} {b : Nat} {t : TypeId} {v0 v1 v2 v3 v4 v5 v6 v7 v8 v9 v10 v11 v12 : Value} (h : w.heap[b]? = some (.cells #[v0, v1, v2, v3, v4, v5, v6, v7, v8, v9, v10, v11, v12] t)) : w.cell? ⟨b, 0, none⟩ = some v0 ∧ w.cell? ⟨b, 1, none⟩ = some v1 ∧ w.cell? ⟨b, 2, none⟩ = some v2 ∧ w.cell? ⟨b, 3, none⟩ = some v3 ∧ w.cell? ⟨b, 4, none⟩ = some v4 ∧ w.cell? ⟨b, 5, none⟩ = some v5 ∧ w.cell? ⟨b, 6, none⟩ = some v6 ∧ w.cell? ⟨b, 7, none⟩ = some v7 ∧ w.cell? ⟨b, 8, none⟩ = some v8 ∧ w.cell? ⟨b, 9, none⟩ = some v9 ∧ w.cell? ⟨b, 10, none⟩ = some v10 ∧ w.cell? ⟨b, 11, none⟩ = some v11 ∧ w.cell? ⟨b, 12, none⟩ = some v12 := by
  simp [World.cell?, h]
theorem bz13 {w : World} {b : Nat} {t : TypeId} {c : Array Value} (h : w.heap[b]? = some (.cells c t)) : w.frozen? ⟨b, 6, none⟩ = false ∧ w.frozen? ⟨b, 7, none⟩ = false ∧ w.frozen? ⟨b, 8, none⟩ = false ∧ w.frozen? ⟨b, 9, none⟩ = false ∧ w.frozen? ⟨b, 10, none⟩ = false ∧ w.frozen? ⟨b, 11, none⟩ = false ∧ w.frozen? ⟨b, 12, none⟩ = false := by
  simp [World.frozen?, h]
end Go.Proofs.YtaapmpchcfcniaaGreatDoor
namespace Go.Proofs.YtaapmpchcfcniaaGreatDoor
open Go.RowKit Go.Proofs
set_option maxHeartbeats 1000000 in
set_option maxRecDepth 100000 in
theorem jjr (c : Crs) (a : Option Addr) (k : Nat) (w : World) (h : AtnsM anyB w (.slice a c.acts.length k) c.acts) (hl : c.acts.length ≤ 6) (hn : a = none → c.acts = [] ∧ k = 0) :
    Calls Tryz.prog 84 #[.agg #[.slice a c.acts.length k, .int .i64 c.flags, .bool c.asked, .int .i64 c.fault]] w fun e w' => ∃ a' k', e = .returned (.agg #[.slice a' c.acts.length k', .int .i64 c.flags, .bool c.asked, .int .i64 c.fault, .bool (c.fault != 0)]) ∧ OwnAs w.heap.size w' (.slice a' c.acts.length k') c.acts ∧ Below w.heap.size w w' := by
  obtain ⟨W0, hW0⟩ : ∃ W0, W0 = (w.alloc (.cells #[.slice a c.acts.length k, .int .i64 c.flags, .bool c.asked, .int .i64 c.fault] 42)).alloc (.cells #[.slice none 0 0, .int .i64 0, .bool false, .int .i64 0, .bool false] 86) := ⟨_, rfl⟩; have HWE := hid hW0; have HB0 := hid (show Below w.heap.size w W0 by rw [hW0]; exact ((Below.refl _ _).alloc (Nat.le_refl _) _).alloc (by simp) _); have hs0 : W0.heap.size = w.heap.size + 2 := by rw [hW0]; simp
  have HH0 := hid (show W0.heap[w.heap.size]? = some (.cells #[.slice a c.acts.length k, .int .i64 c.flags, .bool c.asked, .int .i64 c.fault] 42) by rw [hW0]; exact jf _ (jy _ rfl)); have HG0 := hid (show W0.heap[w.heap.size + 1]? = some (.cells #[.slice none 0 0, .int .i64 0, .bool false, .int .i64 0, .bool false] 86) by rw [hW0]; exact jy _ (by simp)); have HC := hid (jgZ c.acts a k W0 (AtnsM.next h HB0.out) hl hn); clear h hn hW0; go_enter Tryz.func84, Tryz.ntmps84; go_wp2_with fail; rw [← HWE.out]; refine HC.out.mono ?_; rintro e w1 ⟨a1, k1, rfl, hO1, hb1⟩; simp only; have HO1 := hid hO1; have HB1 := hid (HB0.out.trans (hb1.mono HB0.out.size)); have HH1 := hid (jlow hb1 HH0.out); have HG1 := hid (jlow hb1 HG0.out); have hs1 := hb1.size; have q0 : w1.cell? ⟨w.heap.size, 0, none⟩ = some (.slice a c.acts.length k) := by have := HH1.out; simp [World.cell?, this]
  have q1 : w1.cell? ⟨w.heap.size, 1, none⟩ = some (.int .i64 c.flags) := by have := HH1.out; simp [World.cell?, this]
  have q2 : w1.cell? ⟨w.heap.size, 2, none⟩ = some (.bool c.asked) := by have := HH1.out; simp [World.cell?, this]
  have q3 : w1.cell? ⟨w.heap.size, 3, none⟩ = some (.int .i64 c.fault) := by have := HH1.out; simp [World.cell?, this]
  have p0 : w1.frozen? ⟨w.heap.size, 0, none⟩ = false := by have := HH1.out; simp [World.frozen?, this]
  obtain ⟨⟨t0, t1, t2, t3, t4⟩, u0, u1, u2, u3, u4⟩ := box5 HG1.out; clear hO1 hb1 HWE; have HE := hid (show OwnAs w.heap.size ((((((w1.setCell ⟨w.heap.size, 0, none⟩ (.slice a1 c.acts.length k1)).setCell ⟨w.heap.size + 1, 0, none⟩ (.slice a1 c.acts.length k1)).setCell ⟨w.heap.size + 1, 1, none⟩ (.int .i64 c.flags)).setCell ⟨w.heap.size + 1, 2, none⟩ (.bool c.asked)).setCell ⟨w.heap.size + 1, 3, none⟩ (.int .i64 c.fault)).setCell ⟨w.heap.size + 1, 4, none⟩ (.bool (c.fault != 0))) (.slice a1 c.acts.length k1) c.acts ∧ Below w.heap.size w ((((((w1.setCell ⟨w.heap.size, 0, none⟩ (.slice a1 c.acts.length k1)).setCell ⟨w.heap.size + 1, 0, none⟩ (.slice a1 c.acts.length k1)).setCell ⟨w.heap.size + 1, 1, none⟩ (.int .i64 c.flags)).setCell ⟨w.heap.size + 1, 2, none⟩ (.bool c.asked)).setCell ⟨w.heap.size + 1, 3, none⟩ (.int .i64 c.fault)).setCell ⟨w.heap.size + 1, 4, none⟩ (.bool (c.fault != 0))) from ⟨OwnAs.low ((((((HO1.out.far (by simp; omega)).far (by simp; omega)).far (by simp; omega)).far (by simp; omega)).far (by simp; omega)).far (by simp; omega)) (by omega), (((((HB1.out.setCell (by simp) _).setCell (by simp) _).setCell (by simp) _).setCell (by simp) _).setCell (by simp) _).setCell (by simp) _⟩); go_wp2; refine bodyPost_ret (v := .agg #[.slice a1 c.acts.length k1, .int .i64 c.flags, .bool c.asked, .int .i64 c.fault, .bool (c.fault != 0)]) (by simp [results, Tryz.results84, go_sem, *]) rfl ?_; exact ⟨a1, k1, rfl, HE.out.1, HE.out.2⟩
def DoR (w : World) (r : Crs × Bool) (e : Ending) (w' : World) : Prop := ∃ a k, e = .returned (.tuple #[.agg #[.slice a r.1.acts.length k, .int .i64 r.1.flags, .bool r.1.asked, .int .i64 r.1.fault], .bool (!r.2), .int .i64 0]) ∧ AtnsM anyB w' (.slice a r.1.acts.length k) r.1.acts ∧ (a = none → r.1.acts = [] ∧ k = 0) ∧ Below w.heap.size w w'
theorem DoR.drew {w : World} {r : Crs × Bool} {e : Ending} {w' : World} (h : DoR w r e w') : DoR w r e w'.drew := by
  obtain ⟨a, k, h1, h2, h3, h4⟩ := h; exact ⟨a, k, h1, h2, h3, h4.drew⟩
theorem qz {w : World} {p b j i : Nat} (v : Value) (_ : Unit) (h : b ≠ p) : (w.setCell ⟨p, j, none⟩ v).cell? ⟨b, i, none⟩ = w.cell? ⟨b, i, none⟩ := World.cell?_setCell_other w _ _ _ (fun e => h (by cases e; rfl))
def jfY (c : Crs) (x : Cmd) : Crs × Bool := if c.fault ≠ 0 then (c, true) else doP c x
set_option maxHeartbeats 4000000 in
set_option maxRecDepth 100000 in
theorem jmS (M : Nat) (c : Crs) (a : Option Addr) (k : Nat) (x : Cmd) (ax an ak at' aa ae : Option Addr) (cx cn ck ct ca ce : Nat) (w : World) (hw : Tabs w) (hA : AtnsM anyB w (.slice a c.acts.length k) c.acts) (hn : a = none → c.acts = [] ∧ k = 0) (hl : c.acts.length ≤ 6) (hf0 : 0 ≤ c.flags) (hf1 : c.flags ≤ 31) (hx : CmdM anyB (M + 2) w x [.int .i64 x.kind, .slice ax x.texts.length cx, .int .i64 x.test.kind, .int .i64 x.test.mat, .int .i64 x.test.part, .slice an x.test.names.length cn, .slice ak x.test.keys.length ck, .bool x.test.over, .int .i64 x.test.limit, .slice at' x.test.tests.length ct, .slice aa x.thn.length ca, .slice ae x.els.length ce]) (hP : jiW x) (hS : vo (M + 2) x) (hr : vl (M + 2) [reqC, x] = 0) :
    Calls Tryz.prog 48 #[.agg #[.slice a c.acts.length k, .int .i64 c.flags, .bool c.asked, .int .i64 c.fault], .agg #[.int .i64 x.kind, .slice ax x.texts.length cx, .int .i64 x.test.kind, .int .i64 x.test.mat, .int .i64 x.test.part, .slice an x.test.names.length cn, .slice ak x.test.keys.length ck, .bool x.test.over, .int .i64 x.test.limit, .slice at' x.test.tests.length ct, .slice aa x.thn.length ca, .slice ae x.els.length ce]] w (DoR w (jfY c x)) := by
  have hkb : (x.kind == 2) = false := by have := hP.1; simp; omega
  have HM := hid hw; have HA := hid hA; have HXM := hid hx; have HPP := hid hP; have HSS := hid hS; have HRR := hid hr; have HNN := hid hn; obtain ⟨r, hrr⟩ : ∃ r, r = jfY c x := ⟨_, rfl⟩; rw [← hrr]; have HGO := hid hrr; clear hw hA hx hP hS hr hn hrr; obtain ⟨W0, hW0⟩ : ∃ W0, W0 = ((w.alloc (.cells #[.slice a c.acts.length k, .int .i64 c.flags, .bool c.asked, .int .i64 c.fault] 42)).alloc (.cells #[.int .i64 x.kind, .slice ax x.texts.length cx, .int .i64 x.test.kind, .int .i64 x.test.mat, .int .i64 x.test.part, .slice an x.test.names.length cn, .slice ak x.test.keys.length ck, .bool x.test.over, .int .i64 x.test.limit, .slice at' x.test.tests.length ct, .slice aa x.thn.length ca, .slice ae x.els.length ce] 58)).alloc (.cells #[.slice none 0 0, .int .i64 0, .bool false, .int .i64 0] 42) := ⟨_, rfl⟩; have HWE := hid hW0; have HB0 := hid (show Below w.heap.size w W0 by rw [hW0]; exact (((Below.refl _ _).alloc (Nat.le_refl _) _).alloc (by simp) _).alloc (by simp; omega) _); have hs0 : W0.heap.size = w.heap.size + 3 := by rw [hW0]; simp
  have HX0 := hid (show W0.heap[w.heap.size + 1]? = some (.cells #[.int .i64 x.kind, .slice ax x.texts.length cx, .int .i64 x.test.kind, .int .i64 x.test.mat, .int .i64 x.test.part, .slice an x.test.names.length cn, .slice ak x.test.keys.length ck, .bool x.test.over, .int .i64 x.test.limit, .slice at' x.test.tests.length ct, .slice aa x.thn.length ca, .slice ae x.els.length ce] 58) by rw [hW0]; exact jf _ (jy _ (by simp))); have HC0 := hid (show W0.heap[w.heap.size]? = some (.cells #[.slice a c.acts.length k, .int .i64 c.flags, .bool c.asked, .int .i64 c.fault] 42) by rw [hW0]; exact jf _ (jf _ (jy _ rfl))); have HR0 := hid (show W0.heap[w.heap.size + 1 + 1]? = some (.cells #[.slice none 0 0, .int .i64 0, .bool false, .int .i64 0] 42) by rw [hW0]; exact jy _ (by simp)); have HQ := hid (show (decide (c.acts.length ≤ 6) && (decide (0 ≤ c.flags) && decide (c.flags ≤ 31))) = true by simp [hl, hf0, hf1]); clear hW0; go_enter Tryz.func48, Tryz.ntmps48; go_wp2_with fail; rw [← HWE.out]; refine (jhP c a k W0).mono ?_; rw [HQ.out]; rintro e w1 ⟨rfl, hb1⟩; simp only; have HB1 := hid (HB0.out.trans (hb1.mono HB0.out.size)); have HX1 := hid (jlow hb1 HX0.out); have HC1 := hid (jlow hb1 HC0.out); have HR1 := hid (jlow hb1 HR0.out); have hs1 := hb1.size; clear hb1 HWE; have hX := HX1.out; obtain ⟨g0, g1, g2, g3, g4, g5, g6, g7, g8, g9, g10, g11⟩ := bx12 hX; have hal : Below w1.heap.size w1 (w1.alloc (.cells #[.string ⟨#[102, 105, 108, 101, 105, 110, 116, 111]⟩, .string ⟨#[114, 101, 106, 101, 99, 116]⟩, .string ⟨#[101, 110, 118, 101, 108, 111, 112, 101]⟩, .string ⟨#[105, 109, 97, 112, 52, 102, 108, 97, 103, 115]⟩] 9)) := (Below.refl _ _).alloc (Nat.le_refl _) _; have ga0 : (w1.alloc (.cells #[.string ⟨#[102, 105, 108, 101, 105, 110, 116, 111]⟩, .string ⟨#[114, 101, 106, 101, 99, 116]⟩, .string ⟨#[101, 110, 118, 101, 108, 111, 112, 101]⟩, .string ⟨#[105, 109, 97, 112, 52, 102, 108, 97, 103, 115]⟩] 9)).cell? ⟨w.heap.size + 1, 0, none⟩ = some (.int .i64 x.kind) := jb g0 hal; have ga1 : (w1.alloc (.cells #[.string ⟨#[102, 105, 108, 101, 105, 110, 116, 111]⟩, .string ⟨#[114, 101, 106, 101, 99, 116]⟩, .string ⟨#[101, 110, 118, 101, 108, 111, 112, 101]⟩, .string ⟨#[105, 109, 97, 112, 52, 102, 108, 97, 103, 115]⟩] 9)).cell? ⟨w.heap.size + 1, 1, none⟩ = some (.slice ax x.texts.length cx) := jb g1 hal; have ga2 : (w1.alloc (.cells #[.string ⟨#[102, 105, 108, 101, 105, 110, 116, 111]⟩, .string ⟨#[114, 101, 106, 101, 99, 116]⟩, .string ⟨#[101, 110, 118, 101, 108, 111, 112, 101]⟩, .string ⟨#[105, 109, 97, 112, 52, 102, 108, 97, 103, 115]⟩] 9)).cell? ⟨w.heap.size + 1, 2, none⟩ = some (.int .i64 x.test.kind) := jb g2 hal; have ga3 : (w1.alloc (.cells #[.string ⟨#[102, 105, 108, 101, 105, 110, 116, 111]⟩, .string ⟨#[114, 101, 106, 101, 99, 116]⟩, .string ⟨#[101, 110, 118, 101, 108, 111, 112, 101]⟩, .string ⟨#[105, 109, 97, 112, 52, 102, 108, 97, 103, 115]⟩] 9)).cell? ⟨w.heap.size + 1, 3, none⟩ = some (.int .i64 x.test.mat) := jb g3 hal; have ga4 : (w1.alloc (.cells #[.string ⟨#[102, 105, 108, 101, 105, 110, 116, 111]⟩, .string ⟨#[114, 101, 106, 101, 99, 116]⟩, .string ⟨#[101, 110, 118, 101, 108, 111, 112, 101]⟩, .string ⟨#[105, 109, 97, 112, 52, 102, 108, 97, 103, 115]⟩] 9)).cell? ⟨w.heap.size + 1, 4, none⟩ = some (.int .i64 x.test.part) := jb g4 hal; have ga5 : (w1.alloc (.cells #[.string ⟨#[102, 105, 108, 101, 105, 110, 116, 111]⟩, .string ⟨#[114, 101, 106, 101, 99, 116]⟩, .string ⟨#[101, 110, 118, 101, 108, 111, 112, 101]⟩, .string ⟨#[105, 109, 97, 112, 52, 102, 108, 97, 103, 115]⟩] 9)).cell? ⟨w.heap.size + 1, 5, none⟩ = some (.slice an x.test.names.length cn) := jb g5 hal; have ga6 : (w1.alloc (.cells #[.string ⟨#[102, 105, 108, 101, 105, 110, 116, 111]⟩, .string ⟨#[114, 101, 106, 101, 99, 116]⟩, .string ⟨#[101, 110, 118, 101, 108, 111, 112, 101]⟩, .string ⟨#[105, 109, 97, 112, 52, 102, 108, 97, 103, 115]⟩] 9)).cell? ⟨w.heap.size + 1, 6, none⟩ = some (.slice ak x.test.keys.length ck) := jb g6 hal; have ga7 : (w1.alloc (.cells #[.string ⟨#[102, 105, 108, 101, 105, 110, 116, 111]⟩, .string ⟨#[114, 101, 106, 101, 99, 116]⟩, .string ⟨#[101, 110, 118, 101, 108, 111, 112, 101]⟩, .string ⟨#[105, 109, 97, 112, 52, 102, 108, 97, 103, 115]⟩] 9)).cell? ⟨w.heap.size + 1, 7, none⟩ = some (.bool x.test.over) := jb g7 hal; have ga8 : (w1.alloc (.cells #[.string ⟨#[102, 105, 108, 101, 105, 110, 116, 111]⟩, .string ⟨#[114, 101, 106, 101, 99, 116]⟩, .string ⟨#[101, 110, 118, 101, 108, 111, 112, 101]⟩, .string ⟨#[105, 109, 97, 112, 52, 102, 108, 97, 103, 115]⟩] 9)).cell? ⟨w.heap.size + 1, 8, none⟩ = some (.int .i64 x.test.limit) := jb g8 hal; have ga9 : (w1.alloc (.cells #[.string ⟨#[102, 105, 108, 101, 105, 110, 116, 111]⟩, .string ⟨#[114, 101, 106, 101, 99, 116]⟩, .string ⟨#[101, 110, 118, 101, 108, 111, 112, 101]⟩, .string ⟨#[105, 109, 97, 112, 52, 102, 108, 97, 103, 115]⟩] 9)).cell? ⟨w.heap.size + 1, 9, none⟩ = some (.slice at' x.test.tests.length ct) := jb g9 hal; have ga10 : (w1.alloc (.cells #[.string ⟨#[102, 105, 108, 101, 105, 110, 116, 111]⟩, .string ⟨#[114, 101, 106, 101, 99, 116]⟩, .string ⟨#[101, 110, 118, 101, 108, 111, 112, 101]⟩, .string ⟨#[105, 109, 97, 112, 52, 102, 108, 97, 103, 115]⟩] 9)).cell? ⟨w.heap.size + 1, 10, none⟩ = some (.slice aa x.thn.length ca) := jb g10 hal; have ga11 : (w1.alloc (.cells #[.string ⟨#[102, 105, 108, 101, 105, 110, 116, 111]⟩, .string ⟨#[114, 101, 106, 101, 99, 116]⟩, .string ⟨#[101, 110, 118, 101, 108, 111, 112, 101]⟩, .string ⟨#[105, 109, 97, 112, 52, 102, 108, 97, 103, 115]⟩] 9)).cell? ⟨w.heap.size + 1, 11, none⟩ = some (.slice ae x.els.length ce) := jb g11 hal; have HAL := hid hal; clear hX hal; go_wp2
  go_region_law
    (go_simp
     go_at_call 31
     refine (jau _ _ _ _).mono ?_; rintro e u ⟨rfl, hb2⟩; have HB2 := hid (show Below w1.heap.size w1 u from HAL.out.drew.trans (hb2.mono (by simp))); have hX := jlow HB2.out HX1.out; obtain ⟨gu0, gu1, gu2, gu3, gu4, gu5, gu6, gu7, gu8, gu9, gu10, gu11⟩ := bx12 hX; have HS2 := hid (show u.heap[w1.heap.size]? = some (.cells #[.string ⟨#[102, 105, 108, 101, 105, 110, 116, 111]⟩, .string ⟨#[114, 101, 106, 101, 99, 116]⟩, .string ⟨#[101, 110, 118, 101, 108, 111, 112, 101]⟩, .string ⟨#[105, 109, 97, 112, 52, 102, 108, 97, 103, 115]⟩] 9) from (hb2.block w1.heap.size (by simp)).trans (heap_alloc_new w1.drew _)); clear hX hb2)
  all_goals
    obtain ⟨W3, hW3⟩ : ∃ W3, W3 = u.alloc (.cells #[.int .i64 1, .slice (some ⟨w1.heap.size, 0, none⟩) 4 4, .int .i64 0, .int .i64 0, .int .i64 0, .slice none 0 0, .slice none 0 0, .bool false, .int .i64 0, .slice none 0 0, .slice none 0 0, .slice none 0 0, .int .i64 x.kind, .slice ax x.texts.length cx, .int .i64 x.test.kind, .int .i64 x.test.mat, .int .i64 x.test.part, .slice an x.test.names.length cn, .slice ak x.test.keys.length ck, .bool x.test.over, .int .i64 x.test.limit, .slice at' x.test.tests.length ct, .slice aa x.thn.length ca, .slice ae x.els.length ce] 58) := ⟨_, rfl⟩; have HWE3 := hid hW3; have hal3 : Below u.heap.size u W3 := by rw [hW3]; exact (Below.refl _ _).alloc (Nat.le_refl _) _
    have HBu := hid (HB1.out.trans (HB2.out.mono HB1.out.size)); have HB3 := hid (HBu.out.trans (hal3.mono HBu.out.size)); have HRW := hid (show CmdsM anyB (M + 2) W3 (.slice (some ⟨u.heap.size, 0, none⟩) [reqC, x].length 2) [reqC, x] by
      refine jjP (t := 58) (fr := (0, 0)) (cs := [.int .i64 1, .slice (some ⟨w1.heap.size, 0, none⟩) 4 4, .int .i64 0, .int .i64 0, .int .i64 0, .slice none 0 0, .slice none 0 0, .bool false, .int .i64 0, .slice none 0 0, .slice none 0 0, .slice none 0 0]) (ds := [.int .i64 x.kind, .slice ax x.texts.length cx, .int .i64 x.test.kind, .int .i64 x.test.mat, .int .i64 x.test.part, .slice an x.test.names.length cn, .slice ak x.test.keys.length ck, .bool x.test.over, .int .i64 x.test.limit, .slice at' x.test.tests.length ct, .slice aa x.thn.length ca, .slice ae x.els.length ce]) (by rw [hW3]; exact jy _ rfl) rfl rfl trivial ?_ (CmdM.imp (fun _ h => h) (Keeps.of_below HB3.out) _ _ _ HXM.out); exact ⟨_, _, _, _, _, _, rfl, jdJ (jlow hal3 HS2.out) trivial, zS _ _ _, jj _ _ _ _ _ _, jj _ _ _ _ _ _⟩)
    have HCH := hid (show Calls Tryz.prog 21 #[.slice (some ⟨u.heap.size, 0, none⟩) 2 2] W3 fun e w' => e = .returned (.int .i64 0) ∧ Below W3.heap.size W3 w' by
      have := vb (M + 1) [reqC, x] u.heap.size 0 2 W3 (HM.out.next HB3.out) (by simp) (fun y hy => by
        simp at hy
        rcases hy with e | e
        · rw [e]; exact ⟨(fun h => by cases h), (fun x hx => by cases hx), fun x hx => by cases hx⟩
        · rw [e]; exact HSS.out) HRW.out
      rw [show vl (M + 1 + 1) [reqC, x] = 0 from HRR.out] at this; exact this)
    have HC3 := hid (jlow hal3 (jlow HB2.out HC1.out)); have HR3 := hid (jlow hal3 (jlow HB2.out HR1.out)); have HX3 := hid (jlow hal3 (jlow HB2.out HX1.out)); have hsu := HB2.out.size; have hs3 := hal3.size; clear hW3 hal3 g0 g1 g2 g3 g4 g5 g6 g7 g8 g9 g10 g11 ga0 ga1 ga2 ga3 ga4 ga5 ga6 ga7 ga8 ga9 ga10 ga11 gu0 gu1 gu2 gu3 gu4 gu5 gu6 gu7 gu8 gu9 gu10 gu11; go_wp2_with fail; rw [← HWE3.out]; refine HCH.out.mono ?_; rintro e w4 ⟨rfl, hb4⟩; simp only; have HB4 := hid (HB3.out.trans (hb4.mono HB3.out.size)); have HC4 := hid (jlow hb4 HC3.out); have HR4 := hid (jlow hb4 HR3.out); have HX4 := hid (jlow hb4 HX3.out); have hs4 := hb4.size; have hC := HC4.out; obtain ⟨c0, c1, c2, c3⟩ := bx4 hC; have HGN := hid (jjr c a k w4 (AtnsM.next HA.out HB4.out) hl HNN.out); clear hb4 hC HWE3; go_wp2_with fail; refine HGN.out.mono ?_; rintro e w5 ⟨a5, k5, rfl, hO5, hb5⟩; simp only; have HB5 := hid (HB4.out.trans (hb5.mono HB4.out.size)); have HR5 := hid (jlow hb5 HR4.out); have HX5 := hid (jlow hb5 HX4.out); have hs5 := hb5.size; have HO5 := hid hO5; clear hO5 hb5 c0 c1 c2 c3; obtain ⟨ov, hov⟩ : ∃ ov, ov = (c.fault != 0) := ⟨_, rfl⟩; rw [← hov]; have HOV := hid hov; clear hov; cases ov with
    | false =>
      obtain ⟨W6, hW6⟩ : ∃ W6, W6 = (w5.alloc (.cells #[.slice a5 c.acts.length k5, .int .i64 c.flags, .bool c.asked, .int .i64 c.fault, .bool false] 86)) := ⟨_, rfl⟩; have HWE6 := hid hW6; have hal6 : Below w5.heap.size w5 W6 := by rw [hW6]; exact (Below.refl _ _).alloc (Nat.le_refl _) _
      have HB6 := hid (HB5.out.trans (hal6.mono HB5.out.size)); have HK6 := hid (show CrsB W6 w4.heap.size w5.heap.size c false from ⟨a5, k5, by rw [hW6]; exact heap_alloc_new w5 _, OwnAs.below HO5.out hal6, fun e => by
        obtain ⟨css, o1, _⟩ := HO5.out; have := (World.ownsRow.lt o1 _ e.symm).2; omega, hs5⟩)
      have HR6 := hid (jlow hal6 HR5.out); have HX6 := hid (jlow hal6 HX5.out); have hs6 : W6.heap.size = w5.heap.size + 1 := by rw [hW6]; simp
      clear hW6 hal6; have hR' := HR6.out; have hX' := HX6.out; rw [HWE6.out] at hR' hX'; obtain ⟨y0, y1, y2, y3, y4, y5, y6, y7, y8, y9, y10, y11⟩ := bx12 hX'; obtain ⟨z0, z1, z2, z3⟩ := bx4 hR'; have zf : ∀ j, (w5.alloc (.cells #[.slice a5 c.acts.length k5, .int .i64 c.flags, .bool c.asked, .int .i64 c.fault, .bool false] 86)).frozen? ⟨w.heap.size + 1 + 1, j, none⟩ = false := by intro j; simp [World.frozen?, hR']
      clear hR' hX'; have HG2 := hid (show r = doP c x by rw [HGO.out]; unfold jfY; rw [if_neg (by have := HOV.out; simpa using this)]); have HLL := hid (show r.1.acts.length ≤ 6 by rw [HG2.out]; exact jg9 c x hl); obtain ⟨r1, r2⟩ := r; have HDO := hid (show Calls Tryz.prog 49 #[.pointer (some ⟨w5.heap.size, 0, none⟩), .agg #[.int .i64 x.kind, .slice ax x.texts.length cx, .int .i64 x.test.kind, .int .i64 x.test.mat, .int .i64 x.test.part, .slice an x.test.names.length cn, .slice ak x.test.keys.length ck, .bool x.test.over, .int .i64 x.test.limit, .slice at' x.test.tests.length ct, .slice aa x.thn.length ca, .slice ae x.els.length ce]] W6 (jbl W6 w4.heap.size w5.heap.size (r1, r2)) by rw [HG2.out]; exact jmd w4.heap.size w5.heap.size c x ax an ak at' aa ae cx cn ck ct ca ce W6 HK6.out hl hf0 hf1 (HM.out.next HB6.out).2.2.2.2 ((qn HXM.out).choose_spec.2.1.next HB6.out) HPP.out); go_wp2_with fail; rw [← HWE6.out]; refine HDO.out.mono ?_; rintro e w7 ⟨⟨v, rfl⟩, hk7, hb7, _⟩; simp only; have hw4 : w.heap.size + 3 ≤ w4.heap.size := by omega
      have HB7 := hid (HB6.out.trans (hb7.mono (by omega))); have HR7 := hid (show w7.heap[w.heap.size + 1 + 1]? = some (.cells #[.slice none 0 0, .int .i64 0, .bool false, .int .i64 0] 42) from (hb7.block (w.heap.size + 1 + 1) (by omega)).trans HR6.out); obtain ⟨a7, k7, hh7, hO7, hn7, hB7⟩ := hk7; have HO7 := hid hO7; obtain ⟨⟨t0, t1, t2, t3, t4⟩, u0, u1, u2, u3, u4⟩ := box5 hh7; have hR := HR7.out; obtain ⟨z0', z1', z2', z3'⟩ := bx4 hR; have zf' : ∀ j, w7.frozen? ⟨w.heap.size + 1 + 1, j, none⟩ = false := by intro j; simp [World.frozen?, hR]
      have hbn : w5.heap.size ≠ w.heap.size + 1 + 1 := by omega
      have t4' : ((((w7.setCell ⟨w.heap.size + 1 + 1, 0, none⟩ (.slice a7 r1.acts.length k7)).setCell ⟨w.heap.size + 1 + 1, 1, none⟩ (.int .i64 r1.flags)).setCell ⟨w.heap.size + 1 + 1, 2, none⟩ (.bool r1.asked)).setCell ⟨w.heap.size + 1 + 1, 3, none⟩ (.int .i64 r1.fault)).cell? ⟨w5.heap.size, 4, none⟩ = some (.bool r2) := by rw [qz _ () hbn, qz _ () hbn, qz _ () hbn, qz _ () hbn]; exact t4
      have HE := hid (show DoR w (r1, r2) (.returned (.tuple #[.agg #[.slice a7 r1.acts.length k7, .int .i64 r1.flags, .bool r1.asked, .int .i64 r1.fault], .bool (!r2), .int .i64 0])) ((((w7.setCell ⟨w.heap.size + 1 + 1, 0, none⟩ (.slice a7 r1.acts.length k7)).setCell ⟨w.heap.size + 1 + 1, 1, none⟩ (.int .i64 r1.flags)).setCell ⟨w.heap.size + 1 + 1, 2, none⟩ (.bool r1.asked)).setCell ⟨w.heap.size + 1 + 1, 3, none⟩ (.int .i64 r1.fault)) from
        ⟨a7, k7, rfl, RowM.imp (OwnRow.rowM jbe ((((HO7.out.far (by simp; omega)).far (by simp; omega)).far (by simp; omega)).far (by simp; omega)) (by have h6 : r1.acts.length ≤ 6 := HLL.out; show r1.acts.length ≤ maxLen; unfold maxLen; omega)) (fun _ _ => trivial) (Keeps.refl _ _) (fun _ _ h => h), je9 HO7.out, (((HB7.out.setCell (by simp; omega) _).setCell (by simp; omega) _).setCell (by simp; omega) _).setCell (by simp; omega) _⟩)
      clear hR hh7 hO7 HWE6 y0 y1 y2 y3 y4 y5 y6 y7 y8 y9 y10 y11 z0 z1 z2 z3 zf; go_wp2
      go_region_law (fail)
      all_goals
        go_wp2; refine bodyPost_ret (v := .tuple #[.agg #[.slice a7 r1.acts.length k7, .int .i64 r1.flags, .bool r1.asked, .int .i64 r1.fault], .bool (!r2), .int .i64 0]) (by simp [results, Tryz.results48, go_sem, *]) rfl ?_
        first | exact HE.out | exact DoR.drew HE.out
    | true =>
      obtain ⟨W6, hW6⟩ : ∃ W6, W6 = (w5.alloc (.cells #[.slice a5 c.acts.length k5, .int .i64 c.flags, .bool c.asked, .int .i64 c.fault, .bool true] 86)) := ⟨_, rfl⟩; have HWE6 := hid hW6; have hal6 : Below w5.heap.size w5 W6 := by rw [hW6]; exact (Below.refl _ _).alloc (Nat.le_refl _) _
      have HB6 := hid (HB5.out.trans (hal6.mono HB5.out.size)); have HK6 := hid (show CrsB W6 w4.heap.size w5.heap.size c true from ⟨a5, k5, by rw [hW6]; exact heap_alloc_new w5 _, OwnAs.below HO5.out hal6, fun e => by
        obtain ⟨css, o1, _⟩ := HO5.out; have := (World.ownsRow.lt o1 _ e.symm).2; omega, hs5⟩)
      have HR6 := hid (jlow hal6 HR5.out); have HX6 := hid (jlow hal6 HX5.out); have hs6 : W6.heap.size = w5.heap.size + 1 := by rw [hW6]; simp
      clear hW6 hal6; have hR' := HR6.out; have hX' := HX6.out; rw [HWE6.out] at hR' hX'; obtain ⟨y0, y1, y2, y3, y4, y5, y6, y7, y8, y9, y10, y11⟩ := bx12 hX'; obtain ⟨z0, z1, z2, z3⟩ := bx4 hR'; have zf : ∀ j, (w5.alloc (.cells #[.slice a5 c.acts.length k5, .int .i64 c.flags, .bool c.asked, .int .i64 c.fault, .bool true] 86)).frozen? ⟨w.heap.size + 1 + 1, j, none⟩ = false := by intro j; simp [World.frozen?, hR']
      clear hR' hX'; have HG2 := hid (show r = (c, true) by rw [HGO.out]; unfold jfY; rw [if_pos (by have := HOV.out; simpa using this.symm)]); have hw4 : w.heap.size + 3 ≤ w4.heap.size := by omega
      have hK6 : W6.heap[w5.heap.size]? = some (.cells #[.slice a5 c.acts.length k5, .int .i64 c.flags, .bool c.asked, .int .i64 c.fault, .bool true] 86) := by rw [HWE6.out]; exact heap_alloc_new w5 _
      obtain ⟨⟨t0, t1, t2, t3, t4⟩, u0, u1, u2, u3, u4⟩ := box5 hK6; have hR := HR6.out; obtain ⟨z0', z1', z2', z3'⟩ := bx4 hR; have zf' : ∀ j, W6.frozen? ⟨w.heap.size + 1 + 1, j, none⟩ = false := by intro j; simp [World.frozen?, hR]
      have hbn : w5.heap.size ≠ w.heap.size + 1 + 1 := by omega
      have t4' : ((((W6.setCell ⟨w.heap.size + 1 + 1, 0, none⟩ (.slice a5 c.acts.length k5)).setCell ⟨w.heap.size + 1 + 1, 1, none⟩ (.int .i64 c.flags)).setCell ⟨w.heap.size + 1 + 1, 2, none⟩ (.bool c.asked)).setCell ⟨w.heap.size + 1 + 1, 3, none⟩ (.int .i64 c.fault)).cell? ⟨w5.heap.size, 4, none⟩ = some (.bool true) := by rw [qz _ () hbn, qz _ () hbn, qz _ () hbn, qz _ () hbn]; exact t4
      have HE := hid (show DoR w r (.returned (.tuple #[.agg #[.slice a5 c.acts.length k5, .int .i64 c.flags, .bool c.asked, .int .i64 c.fault], .bool false, .int .i64 0])) ((((W6.setCell ⟨w.heap.size + 1 + 1, 0, none⟩ (.slice a5 c.acts.length k5)).setCell ⟨w.heap.size + 1 + 1, 1, none⟩ (.int .i64 c.flags)).setCell ⟨w.heap.size + 1 + 1, 2, none⟩ (.bool c.asked)).setCell ⟨w.heap.size + 1 + 1, 3, none⟩ (.int .i64 c.fault)) by
        rw [HG2.out]; exact ⟨a5, k5, rfl, RowM.imp (OwnRow.rowM jbe (((((OwnAs.below HO5.out (by rw [HWE6.out]; exact (Below.refl _ _).alloc (Nat.le_refl _) _)).far (by simp; omega)).far (by simp; omega)).far (by simp; omega)).far (by simp; omega)) (by show c.acts.length ≤ maxLen; unfold maxLen; omega)) (fun _ _ => trivial) (Keeps.refl _ _) (fun _ _ h => h), je9 HO5.out, (((HB6.out.setCell (by simp; omega) _).setCell (by simp; omega) _).setCell (by simp; omega) _).setCell (by simp; omega) _⟩)
      clear hR hK6 y0 y1 y2 y3 y4 y5 y6 y7 y8 y9 y10 y11 z0 z1 z2 z3 zf; go_wp2; rw [← HWE6.out]
      go_region_law (fail)
      all_goals
        go_wp2; refine bodyPost_ret (v := .tuple #[.agg #[.slice a5 c.acts.length k5, .int .i64 c.flags, .bool c.asked, .int .i64 c.fault], .bool false, .int .i64 0]) (by simp [results, Tryz.results48, go_sem, *]) rfl ?_
        first | exact HE.out | exact DoR.drew HE.out
end Go.Proofs.YtaapmpchcfcniaaGreatDoor
namespace Go.Proofs.YtaapmpchcfcniaaGreatDoor
open Go.RowKit Go.Proofs
theorem vZ {w : World} {b n k : Nat} {x : Option Addr} {f er : Int} {q : Bool} {t : TypeId} {fr : Nat × Nat} {v : Value} {l : List Atn} (hb : w.heap[b]? = some (.cells #[.slice x n k, .int .i64 f, .bool q, .int .i64 er] t fr)) (h : AtnsM anyB w v l) : AtnsM (fun p => p ≠ b) w v l := by
  obtain ⟨a, c, hv, hm, hr⟩ := h; refine ⟨a, c, hv, hm, fun i y hy => ?_⟩; obtain ⟨p, o, cs, h1, h2, _, h4, h5, h6⟩ := hr i y hy; refine ⟨p, o, cs, h1, h2, fun hpb => ?_, h4, h5, h6⟩; rw [hpb] at h5; have h7 := h5 1 (.string (S y.text)) (by rw [show cs = _ from h6]; rfl); simp only [World.cell?, hb] at h7; rw [List.getElem?_toArray] at h7; have hj : ∀ j : Nat, ([.slice x n k, .int .i64 f, .bool q, .int .i64 er] : List Value)[j]? ≠ some (.string (S y.text)) := by
    intro j
    match j with
    | 0 | 1 | 2 | 3 => simp
    | j + 4 => simp
  exact hj _ h7
theorem jlc {w : World} {b : Nat} {v0 v1 v2 v3 u0 u1 u2 u3 : Value} {t : TypeId} (h : w.heap[b]? = some (.cells #[v0, v1, v2, v3] t)) :
    ((((w.setCell ⟨b, 0, none⟩ u0).setCell ⟨b, 1, none⟩ u1).setCell ⟨b, 2, none⟩ u2).setCell ⟨b, 3, none⟩ u3).heap[b]? = some (.cells #[u0, u1, u2, u3] t) := by
  have h1 := heap_setCell_same w b 0 _ t u0 h; have h2 := heap_setCell_same _ b 1 _ t u1 h1; have h3 := heap_setCell_same _ b 2 _ t u2 h2; have h4 := heap_setCell_same _ b 3 _ t u3 h3
  simpa using h4
theorem jbB {w : World} {b : Nat} {u0 u1 u2 u3 v : Value} {l : List Atn} (h : AtnsM (fun p => p ≠ b) w v l) : AtnsM anyB ((((w.setCell ⟨b, 0, none⟩ u0).setCell ⟨b, 1, none⟩ u1).setCell ⟨b, 2, none⟩ u2).setCell ⟨b, 3, none⟩ u3) v l :=
  RowM.imp h (fun _ _ => trivial) ((((Keeps.set (p := ⟨b, 0, none⟩) w u0 (fun _ h => h)).trans (Keeps.set (p := ⟨b, 1, none⟩) _ u1 (fun _ h => h))).trans (Keeps.set (p := ⟨b, 2, none⟩) _ u2 (fun _ h => h))).trans (Keeps.set (p := ⟨b, 3, none⟩) _ u3 (fun _ h => h))) fun _ _ h => h
def FBox (W : World) (cc : Crs) (p e : Value) (wx : World) : Prop := ∃ (P : Nat) (a3 : Option Addr) (k3 : Nat), p = .pointer (some ⟨P, 0, none⟩) ∧ e = .int .i64 0 ∧ wx.heap[P]? = some (.cells #[.slice a3 cc.acts.length k3, .int .i64 cc.flags, .bool cc.asked, .int .i64 cc.fault] 42) ∧ AtnsM anyB wx (.slice a3 cc.acts.length k3) cc.acts ∧ Below W.heap.size W wx
theorem FBox.old {W w3 : World} {cc : Crs} {P : Nat} {a3 : Option Addr} {k3 : Nat} (hP : W.heap.size ≤ P) (hb : w3.heap[P]? = some (.cells #[.slice none 0 0, .int .i64 0, .bool false, .int .i64 0] 42)) (hA : AtnsM anyB w3 (.slice a3 cc.acts.length k3) cc.acts) (hB : Below W.heap.size W w3) :
    FBox W cc (.pointer (some ⟨P, 0, none⟩)) (.int .i64 0) ((((w3.setCell ⟨P, 0, none⟩ (.slice a3 cc.acts.length k3)).setCell ⟨P, 1, none⟩ (.int .i64 cc.flags)).setCell ⟨P, 2, none⟩ (.bool cc.asked)).setCell ⟨P, 3, none⟩ (.int .i64 cc.fault)) :=
  ⟨P, a3, k3, rfl, rfl, jlc hb, jbB (vZ hb hA), (((hB.setCell hP _).setCell hP _).setCell hP _).setCell hP _⟩
theorem FBox.new {W w3 : World} {cc : Crs} {a3 : Option Addr} {k3 : Nat} (hA : AtnsM anyB w3 (.slice a3 cc.acts.length k3) cc.acts) (hB : Below W.heap.size W w3) :
    FBox W cc (.pointer (some ⟨w3.heap.size, 0, none⟩)) (.int .i64 0) (w3.alloc (.cells #[.slice a3 cc.acts.length k3, .int .i64 cc.flags, .bool cc.asked, .int .i64 cc.fault] 42)) :=
  ⟨w3.heap.size, a3, k3, rfl, rfl, jV _ rfl, AtnsM.next hA ((Below.refl _ _).alloc (Nat.le_refl _) _), hB.alloc hB.size _⟩
end Go.Proofs.YtaapmpchcfcniaaGreatDoor
