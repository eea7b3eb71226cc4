/-
  What token.readString does, whole: the walk.
-/
import Derived.Test.YthikilhhmianlaaGreatDoorQTokSpan6
namespace Go.Proofs.YthikilhhmianlaaGreatDoor
open Go.RowKit Go.Proofs
def jb4 (t : List UInt8) : Cutting := match strM false t with | none => .error 4 | some x => .ok ({ kind := 4, text := x.1, num := 0 }, x.2)
theorem jg8 : ∀ args w, (callFunc 87 args).run Tryz.prog w = .ok (.enter 87 args) w := enters_of Tryz.func87 (by kernel_rfl) rfl
theorem jjn (t : List UInt8) (h : Nat) (w : World) (ht : t.length ≤ 2000) (hI : StrI h (false, []) w) :
    Calls Tryz.prog 54 #[.string (S t), .func (.func 87) #[] #[.pointer (some ⟨h + 2, 0, none⟩), .pointer (some ⟨h + 1, 0, none⟩)]] w fun e w' => e = .returned (.int .i64 (runS false t : Nat)) ∧ StrI h (stS t (runS false t)) w' ∧ Below (h + 1) w w' := by
  have hle : runS false t ≤ (S t).size := by rw [jB]; exact jhv t false
  refine jcY (S t) 87 _ jg8 (runS false t) (fun k u => StrI h (stS t k) u ∧ Below (h + 1) w u) w (by rw [jB]; unfold maxLen; omega) hle ?_ ?_ ⟨hI, Below.refl _ _⟩
  · intro k hk u hlt ⟨hB, hU⟩; have hk' : k < t.length := by rw [jB] at hk; exact hk
    have hg : (S t)[k] = t[k] := jh8 t k hk hk'; have hy := jiJ t false [] k hk' hlt; have hl := jkp t k
    show Calls Tryz.prog _ #[.int .u8 (S t)[k].toNat, .pointer (some ⟨h + 2, 0, none⟩), .pointer (some ⟨h + 1, 0, none⟩)] u _
    rw [hg, jfq hk']; obtain ⟨⟨b, l⟩, hx⟩ : ∃ x, x = stS t k := ⟨_, rfl⟩; have hy' : b = true ∨ t[k] ≠ 34 := by
      have e : ((t.take k).foldl qv (false, [])).1 = b := by show (stS t k).1 = b; rw [← hx]
      rw [e] at hy; exact hy
    rw [← hx] at hB hl ⊢
    by_cases h2 : b = false ∧ t[k] = 92
    · obtain ⟨rfl, h2⟩ := h2; refine (jef h t[k] l u hB h2).mono ?_; rintro e u' ⟨rfl, q1, q2⟩; have e : qv (false, l) t[k] = (true, l) := by simp [qv, h2]
      rw [e]; exact ⟨rfl, q1, hU.trans q2⟩
    · refine (jeA h t[k] b l u hB (by simp only at hl; omega) ?_).mono ?_
      · cases b with
        | true => exact Or.inl rfl
        | false => exact Or.inr ⟨hy'.resolve_left (by simp), fun e => h2 ⟨rfl, e⟩⟩
      · rintro e u' ⟨rfl, q1, q2⟩; have e : qv (b, l) t[k] = (false, l ++ [t[k]]) := by
          cases b with
          | true => rfl
          | false => simp only [qv, Bool.false_eq_true, if_false]; rw [if_neg (fun e => h2 ⟨rfl, e⟩)]
        rw [e]; exact ⟨rfl, q1, hU.trans q2⟩
  · intro hn u ⟨hB, hU⟩; have hn' : runS false t < t.length := by rw [jB] at hn; exact hn
    have hg : (S t)[runS false t] = t[runS false t] := jh8 t _ hn hn'; obtain ⟨q1, q2⟩ := jj0 t false [] hn'; obtain ⟨⟨b, l⟩, hx⟩ : ∃ x, x = stS t (runS false t) := ⟨_, rfl⟩; have hb : b = false := by
      have e : ((t.take (runS false t)).foldl qv (false, [])).1 = b := by show (stS t (runS false t)).1 = b; rw [← hx]
      rw [e] at q1; exact q1
    subst hb
    show Calls Tryz.prog _ #[.int .u8 (S t)[runS false t].toNat, .pointer (some ⟨h + 2, 0, none⟩), .pointer (some ⟨h + 1, 0, none⟩)] u _
    rw [hg]; refine (jf4 h t[runS false t] l u (by rw [hx]; exact hB) q2).mono ?_; rintro e u' ⟨rfl, rfl⟩; exact ⟨rfl, hB, hU⟩
set_option maxHeartbeats 8000000 in
set_option maxRecDepth 100000 in
theorem jct (t : List UInt8) (w : World) (hs : t.length < 2000) :
    Calls Tryz.prog 61 #[.string (S (34 :: t))] w (Tk w (34 :: t) (jb4 t)) := by
  have hrun := jiq t false; obtain ⟨n, hn⟩ : ∃ n, n = runS false t := ⟨_, rfl⟩; have hnl : n ≤ t.length := by rw [hn]; exact jhv t false
  have HZ : Hid (t.length ≤ 2000) := by unfold Hid; omega
  have HX : Hid ((S (34 :: t)).extract 1 (S (34 :: t)).size = S t) := by unfold Hid; rw [qR]; rfl
  have hsz : (S (34 :: t)).size = t.length + 1 := by rw [jB]; rfl
  have hz1 : (1 : Int) ≤ ((S (34 :: t)).size : Int) := by omega
  have hz2 : (S (34 :: t)).size ≤ 2000 := by omega
  have hn2 : n ≤ 2000 := by omega
  have HSZ : Hid _ := hsz; have HN : Hid _ := hn; obtain ⟨W1, hW1⟩ : ∃ W1, W1 = w.alloc (.cells #[.int .i64 0, .string ⟨#[]⟩, .int .i64 0] 50) := ⟨_, rfl⟩; obtain ⟨W2, hW2⟩ : ∃ W2, W2 = W1.alloc (.cells #[.slice none 0 0] 46) := ⟨_, rfl⟩; obtain ⟨W0, hW0⟩ : ∃ W0, W0 = W2.alloc (.cells #[.bool false] 4) := ⟨_, rfl⟩; have z1 : W1.heap.size = w.heap.size + 1 := by rw [hW1]; simp
  have z2 : W2.heap.size = w.heap.size + 2 := by rw [hW2]; simp [z1]
  have z0 : W0.heap.size = w.heap.size + 3 := by rw [hW0]; simp [z2]
  have b1 : Below W1.heap.size W1 W2 := by rw [hW2]; exact (Below.refl _ _).alloc (Nat.le_refl _) _
  have b2 : Below W2.heap.size W2 W0 := by rw [hW0]; exact (Below.refl _ _).alloc (Nat.le_refl _) _
  have HT0 : Hid (TokB W0 w.heap.size qx) := by
    unfold Hid; have h1 : TokB W1 w.heap.size qx := by rw [hW1]; exact qB w qx
    exact (h1.next b1).next b2
  have HI0 : Hid (StrI w.heap.size (false, []) W0) := by
    unfold Hid; refine ⟨?_, ⟨none, 0, ?_, World.ownsRow_nil _ _ _ _⟩, by omega⟩
    · have := Box.new W2 (.bool false) 4; rw [z2] at this; rw [hW0]; exact this
    · have := Box.new W1 (.slice none 0 0) 46; rw [z1, ← hW2] at this; exact this.below b2 (by omega)
  have HE0 : Hid (Below w.heap.size w W0) := by
    unfold Hid; have h1 : Below w.heap.size w W1 := by rw [hW1]; exact (Below.refl _ _).alloc (Nat.le_refl _) _
    exact (h1.trans (b1.mono (by omega))).trans (b2.mono (by omega))
  have HW : Hid (W0 = ((w.alloc (.cells #[.int .i64 0, .string ⟨#[]⟩, .int .i64 0] 50)).alloc (.cells #[.slice none 0 0] 46)).alloc (.cells #[.bool false] 4)) := by unfold Hid; rw [hW0, hW2, hW1]
  clear hn hs hW0 hW1 hW2 z0 z1 z2 b1 b2 hsz; go_enter Tryz.func61, Tryz.ntmps61; go_wp2_with fail; rw [← HW.out, HX.out]; refine (jjn t w.heap.size _ HZ.out HI0.out).mono ?_; rintro e u ⟨rfl, hI, hB⟩; rw [← HN.out] at hI; rw [← HN.out]; obtain ⟨hP, ⟨a, cp, hT, hO⟩, hz⟩ := hI; have hTk : TokB u w.heap.size qx := HT0.out.below hB (by omega); have HE : Hid (Below w.heap.size w u) := HE0.out.trans (hB.mono (by omega)); have f0 := hTk.free 0; have f1 := hTk.free 1; have f2 := hTk.free 2; have k0 : u.cell? ⟨w.heap.size, 0, none⟩ = some (.int .i64 0) := hTk.c0; have k1 : u.cell? ⟨w.heap.size, 1, none⟩ = some (.string ⟨#[]⟩) := hTk.c1; have k2 : u.cell? ⟨w.heap.size, 2, none⟩ = some (.int .i64 0) := hTk.c2; have ct := hT.cell; have hconv := jbV hO; cases hs : strM false t with
  | none =>
    rw [hs] at hrun; have hq : (1 : Int) + (n : Int) = ((S (34 :: t)).size : Int) := by rw [HSZ.out]; have := HN.out; omega
    have HM : Hid (jb4 t = .error 4) := by unfold Hid jb4; rw [hs]
    clear hrun hs hP hT hO hTk hB hconv; go_wp2; exact bodyPost_ret (v := .tuple #[.agg #[.int .i64 0, .string ⟨#[]⟩, .int .i64 0], .int .i64 0, .int .i64 4]) (by simp [results, Tryz.results61, go_sem, k0, k1, k2]) rfl (by rw [HM.out]; exact ⟨rfl, by first | exact HE.out | (repeat (first | exact HE.out | refine Below.setCell ?_ (by simp) _))⟩)
  | some y =>
    obtain ⟨x, r⟩ := y; rw [hs] at hrun; obtain ⟨g1, g2, g3⟩ := hrun; rw [← HN.out] at g1 g2 g3; have hq : ¬ (1 : Int) + (n : Int) = ((S (34 :: t)).size : Int) := by rw [HSZ.out]; omega
    have e2 : (stS t n).2 = x := by have := g3 []; simpa [stS] using this
    rw [e2] at hconv ct; have HR : Hid (((34 :: t).length - r.length : Nat) = 1 + n + 1) := by unfold Hid; rw [g2]; simp; omega
    have HM : Hid (jb4 t = .ok ({ kind := 4, text := x, num := 0 }, r)) := by unfold Hid jb4; rw [hs]
    clear hs hP hT hO hTk hB g1 g2 g3 e2; go_wp2; exact bodyPost_ret (v := .tuple #[.agg #[.int .i64 4, .string (S x), .int .i64 0], .int .i64 (1 + (n : Int) + 1), .int .i64 0]) (by simp [results, Tryz.results61, go_sem, k0, k1, k2]) rfl (by rw [HM.out]; exact ⟨by rw [HR.out]; rfl, by first | exact HE.out | (repeat (first | exact HE.out | refine Below.setCell ?_ (by simp) _))⟩)
end Go.Proofs.YthikilhhmianlaaGreatDoor
