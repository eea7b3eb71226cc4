/-
  What a session does with the lines of a letter: the walks.
-/
import Derived.Test.YtjdkbdkimbgbfaaGreatDoorRQPoCn13
set_option maxHeartbeats 4000000
set_option maxRecDepth 100000
namespace Go.Proofs.YtjdkbdkimbgbfaaGreatDoor
open Go.RowKit Go.Proofs
variable {cs : Array Value} {c : Int} {Cs : List (List Cmd)} {K known : List (List UInt8)} {l ls : List Ltr} {G : List Nat} {line s : List UInt8} {B B' H b cl i j k n p : Nat} {a al : Option Addr} {R : Rom} {r : Ses} {t : TypeId} {lv u u0 u1 u2 u3 u4 u5 v v0 v1 v2 v3 v4 v5 : Value} {W WA w w' w5 : World}
def ltrC (x : Ltr) : List Value := [.string (S x.1.1), .string (S x.1.2), .string (S x.2.1.1), .string (S x.2.1.2), .string (S x.2.2)]
def qn (l : List Ltr) : List Value := (l.map ltrC).flatten
def LOwnT (w : World) (B : Nat) (v : Value) (l : List Ltr) : Prop := w.ownsRow B 167 5 v l.length (qn l)
def LtrM (x : Ltr) (cs : List Value) : Prop := cs = ltrC x
def LtrsM (Q : Nat -> Prop) (w : World) (v : Value) (l : List Ltr) : Prop := RowM Q 5 LtrM w v l
theorem jfr (l : List Ltr) (x : Ltr) : qn (l ++ [x]) = qn l ++ ltrC x := by simp [qn]
theorem jgH {x : Ltr} (h : l[i]? = some x) (j : Nat) (hj : j < 5) : (qn l)[i * 5 + j]? = (ltrC x)[j]? := by
 induction l generalizing i with
 | nil => simp at h
 | cons g l ih =>
   have hl : (ltrC g).length = 5 := rfl; cases i with
   | zero =>
     simp at h
     subst h; simp only [qn, List.map_cons, bw]; rw [bf (by rw [hl]; omega)]
     simp
   | succ i =>
     have := ih (i := i) (by simpa using h); simp only [qn, List.map_cons, bw]; rw [bd (by rw [hl]; omega), hl, show (i + 1) * 5 + j - 5 = i * 5 + j by omega]; exact this
theorem LOwnT.slice (h : LOwnT w B v l) : ∃ a c, v = .slice a l.length c := by
 rcases h.2 with ⟨rfl, hn⟩ | ⟨g, cap, cur, rfl, _⟩
 . exact ⟨none, 0, by rw [hn]⟩
 . exact ⟨_, _, rfl⟩
theorem LOwnT.row (h : LOwnT w B v l) (hm : l.length <= maxLen) : LtrsM (B <= ·) w v l := by
 obtain ⟨a, c, rfl⟩ := h.slice; refine ⟨a, c, rfl, hm, fun i x hx => ?_⟩; have hi : i < l.length := (au.1 hx).1; obtain ⟨g, cap, e, hb, hg⟩ := World.ownsRow.form h (by omega); simp only [aE, true_and] at e; obtain ⟨rfl, rfl⟩ := e; refine ⟨g, 0, ltrC x, rfl, hg, hb, rfl, ?_, rfl⟩; intro j u hj; have Ci : j < 5 := (au.1 hj).1; rw [bc, bv h (i * 5 + j) (by omega), jgH hx j Ci]; exact hj
theorem LOwnT.nil (w : World) (B : Nat) : LOwnT w B (.slice none 0 0) [] := aR _ _ _ _
theorem jfC (h : LOwnT w B v l) (hb : Below w.heap.size w w') : LOwnT w' B v l := by
 unfold LOwnT at *; refine ⟨h.1, ?_⟩
 rcases h.2 with h' | ⟨g, cap, cur, hv, hB, hg, hr⟩
 . exact .inl h'
 . exact .inr ⟨g, cap, cur, hv, hB, (hb.block g (aj.1 hg).1).trans hg, hr⟩
theorem jjg (h : LOwnT w B v l) (hb : w.heap[b]? = some (.cells cs 163)) : LOwnT (w.setCell ⟨b, j, none⟩ u) B v l := by
 unfold LOwnT at *; refine ⟨h.1, ?_⟩
 rcases h.2 with h' | ⟨g, cap, cur, hv, hB, hg, hr⟩
 . exact .inl h'
 . refine .inr ⟨g, cap, cur, hv, hB, ?_, hr⟩; have hne : g ≠ b := fun e => by rw [e, hb] at hg; simp at hg
   exact (aC _ _ _ _ hne).trans hg
theorem jlo (h : LOwnT w B v l) (hb : w.heap[b]? = some (.cells cs 163)) : some b ≠ v.ownBlock := by
 rcases h.2 with ⟨rfl, _⟩ | ⟨g, cap, cur, rfl, hB, hg, hr⟩
 . simp [Value.ownBlock]
 . intro e
   simp [Value.ownBlock] at e
   rw [<- e, hb] at hg
   simp at hg
theorem jlm (h : LOwnT w B v l) : ∀ k, v.ownBlock = some k -> B <= k := by
 intro k hk
 rcases h.2 with ⟨rfl, _⟩ | ⟨g, cap, cur, rfl, hB, hg, hr⟩
 . simp [Value.ownBlock] at hk
 . simp [Value.ownBlock] at hk
   omega
theorem jlr {l : List Adr} (h : OwnL w B v l) (ht : LOwnT w H lv ls) (ie : Below w.heap.size w WA) (hg : WA.grownBy w5 lv.ownBlock) : OwnL w5 B v l := by
 unfold OwnL at *; refine ⟨h.1, ?_⟩
 rcases h.2 with h' | ⟨g, cap, cur, hv, hB, lf, hr⟩
 . exact .inl h'
 . refine .inr ⟨g, cap, cur, hv, hB, ?_, hr⟩; have hlt := (aj.1 lf).1; have hne : some g ≠ lv.ownBlock := by
    rcases ht.2 with ⟨rfl, _⟩ | ⟨g', cap', cur', rfl, uh, gv, fL⟩
    . simp [Value.ownBlock]
    . intro e
      simp [Value.ownBlock] at e
      rw [<- e, lf] at gv
      simp at gv
   exact (hg.block g (aK hlt ie.size) hne).trans ((ie.block g hlt).trans lf)
theorem jqG : (Tryz.prog.info? 167).map (fun i => (i.zero, i.size, i.bytes)) = some (some (.agg #[.string ByteArray.empty, .string ByteArray.empty, .string ByteArray.empty, .string ByteArray.empty, .string ByteArray.empty]), 5, 80) := by kernel_rfl
theorem jnd {gm cap : Nat} {s : Ses} {x : Ltr} (hs : SB W b s v lv) (ho : OwnL W B v s.to) (ht : LOwnT W H lv ls) (hn : n <= b) (hH : n <= H) (h0 : Below n w W) (ie : Below W.heap.size W WA) (hg : WA.grownBy w5 lv.ownBlock)
 (hown : w5.ownsRow H 167 5 (.slice (some ⟨gm, 0, none⟩) (ls.length + 1) cap) (ls.length + 1) (qn ls ++ ltrC x)) :
 SB (w5.setCell ⟨b, 6, none⟩ (.slice (some ⟨gm, 0, none⟩) (ls.length + 1) cap)) b s v (.slice (some ⟨gm, 0, none⟩) (ls.length + 1) cap) /\
  OwnL (w5.setCell ⟨b, 6, none⟩ (.slice (some ⟨gm, 0, none⟩) (ls.length + 1) cap)) B v s.to /\
  LOwnT (w5.setCell ⟨b, 6, none⟩ (.slice (some ⟨gm, 0, none⟩) (ls.length + 1) cap)) H (.slice (some ⟨gm, 0, none⟩) (ls.length + 1) cap) (ls ++ [x]) /\
  Below n w (w5.setCell ⟨b, 6, none⟩ (.slice (some ⟨gm, 0, none⟩) (ls.length + 1) cap)) := by
 have hlt := SB.lt hs; have uK : WA.heap[b]? = _ := jW ie hs; have cV : w5.heap[b]? = _ := (hg.block b (aK hlt ie.size) (jlo ht hs)).trans uK; have h1 := za (j := 6) (u := .slice (some ⟨gm, 0, none⟩) (ls.length + 1) cap) cV; simp only [af, ah, ag] at h1; have hO : LOwnT w5 H (.slice (some ⟨gm, 0, none⟩) (ls.length + 1) cap) (ls ++ [x]) := by
  unfold LOwnT; rw [jfr, aB]; exact hown
 refine ⟨h1, zQ (jlr ho ht ie hg) cV, jjg hO cV, ?_⟩; have hbl : Below n w w5 := (h0.trans (ie.mono (by omega))).grown hg (by have := h0.size; have := ie.size; omega) (fun k hk => aN hH (jlm ht k hk)); exact hbl.setCell (p := ⟨b, 6, none⟩) hn _
theorem jhH (w : World) (a b c d e : Value) (t : TypeId) (H : Nat) (hH : w.heap.size = H) : ∀ j u, [a, b, c, d, e][j]? = some u -> (w.alloc (.cells #[a, b, c, d, e] t)).cell? ((⟨H, 0, none⟩ : Addr).add j) = some u := by
 intro j u hj; subst hH; rw [bg]; have := az w (.cells #[a, b, c, d, e] t); simp only [World.cell?, this, bc]
 simpa using hj
def LRdP (n b B H : Nat) (w : World) (r : Ses × List Ltr) (e : Ending) (w' : World) : Prop := e = .returned (.tuple #[]) /\ ∃ lv, SesW w' b B r.1 lv /\ LOwnT w' H lv r.2 /\ Below n w w'
theorem jgL {s : Ses} {x : Adr} (h : s.to[i]? = some x) : (jM s).take (i + 1) = (jM s).take i ++ [(s.frm, x, s.text)] := by
 have h2 : (jM s)[i]? = some (s.frm, x, s.text) := by unfold jM; rw [ba, h]; rfl
 exact jax h2
theorem jgM (s : Ses) (i : Nat) (h : i <= s.to.length) : ((jM s).take i).length = i := by
 rw [bp]; unfold jM; rw [bI]; omega
theorem jp1 (h : LOwnT w B v l) (hb : w.heap[b]? = some (.cells cs 163)) (k : Int) : LOwnT (jg6 w b k) B v l := by
 unfold LOwnT at *; refine ⟨h.1, ?_⟩
 rcases h.2 with h' | ⟨g, cap, cur, hv, hB, hg, hr⟩
 . exact .inl h'
 . refine .inr ⟨g, cap, cur, hv, hB, ?_, hr⟩; have hne : g ≠ b := fun e => by rw [e, hb] at hg; simp at hg
   exact (jjz k hne).trans hg
theorem jfj (n b B : Nat) (s : Ses) (w : World) (h : SesW w b B s (.slice none 0 0)) (hn : n <= b) (h5 : s.to.length <= 1000) :
 Calls Tryz.prog 130 #[.pointer (some ⟨b, 0, none⟩)] w (LRdP n b B w.heap.size w (atS 1, jM s)) := by
 obtain ⟨v, hs, ho⟩ := h; obtain ⟨av, cv, rfl⟩ := ho.slice; obtain ⟨⟨x0, x1, x2, x3, x4, x5, x6⟩, dI⟩ := zH hs; obtain ⟨i0, hi', hz0, hz1, hz2⟩ := info_parts jqG; have HS := hid hs; have HO := hid ho; have mQ := hid (show n <= w.heap.size from aN hn (bi (SB.lt hs))); clear hs ho dI; go_enter Tryz.func130, Tryz.ntmps130; go_wp2
 go_loopw [10] (fun q wr => ∃ (i : Nat) (lv : Value), i <= s.to.length /\ q = .int .i64 i /\ Hid (SB wr b s (.slice av s.to.length cv) lv) /\ Hid (OwnL wr B (.slice av s.to.length cv) s.to) /\ Hid (LOwnT wr w.heap.size lv ((jM s).take i)) /\ Hid (Below n w wr)) (fun q _ => s.to.length - (intOf q).toNat)
 case atStart => exact ⟨0, _, aQ _, rfl, HS, HO, LOwnT.nil _ _, ay _ _⟩
 case round =>
  obtain ⟨i, lv, hi, rfl, nW, xn, pf, cX⟩ := hrel; clear x0 x1 x2 x3 x4 x5 x6
  by_cases hlt : i < s.to.length
  . have i1 : (i : Int) < (s.to.length : Int) := by omega
    have i0' : (0 : Int) <= (i : Int) := by omega
    obtain ⟨x, hx⟩ : ∃ x, s.to[i]? = some x := ⟨_, aw hlt⟩; obtain ⟨p, o, rfl, _, _, e0, e1⟩ := jdQ (xn.out.row (by unfold maxLen; omega)) hx; obtain ⟨al, cl, rfl⟩ := pf.out.slice; have lr := hid (jgM s i hi); rw [lr.out] at nW pf; have AW := hid (jgL hx); obtain ⟨W2, hW2⟩ : ∃ W2, W2 = wr.alloc (.cells #[.string (S x.1), .string (S x.2)] 73) := ⟨_, rfl⟩; have eB := hid hW2; have b7 : Below wr.heap.size wr W2 := by rw [hW2]; exact nb0 _ _
    obtain ⟨m0, m1⟩ := qU (show W2.heap[wr.heap.size]? = some (.cells #[.string (S x.1), .string (S x.2)] 73) by rw [hW2]; exact az wr _); have cJ := hid (show SB W2 b s (.slice (some ⟨p, o, none⟩) s.to.length cv) (.slice al i cl) from jW b7 nW.out); have dQ := hid (jV xn.out b7); have fx := hid (jfC pf.out b7); have bY := hid (show Below n w W2 from cX.out.trans (b7.mono (aN hn (bi (SB.lt nW.out))))); obtain ⟨⟨y0, y1, y2, y3, y4, y5, y6⟩, eC⟩ := zH cJ.out; have g6 := eC 6; have gS := hid (SB.lt cJ.out); have iS := hid (jlo fx.out cJ.out); have gD := hid (show w.heap.size <= W2.heap.size from bY.out.size); have lz := hid (show LOwnT W2 w.heap.size (.slice al i cl) ((jM s).take i) = W2.ownsRow w.heap.size 167 5 (.slice al i cl) i (qn ((jM s).take i)) by unfold LOwnT; rw [lr.out]); have iA := hid (show W2.ownsRow w.heap.size 167 5 (.slice al i cl) i (qn ((jM s).take i)) by rw [<- lz.out]; exact fx.out); have y1a : ∀ o : Obj, (W2.alloc o).cell? ⟨b, 1, none⟩ = some (.string (S s.frm.1)) := fun o => jl y1 o
    have y2a : ∀ o : Obj, (W2.alloc o).cell? ⟨b, 2, none⟩ = some (.string (S s.frm.2)) := fun o => jl y2 o
    have y4a : ∀ o : Obj, (W2.alloc o).cell? ⟨b, 4, none⟩ = some (.string (S s.text)) := fun o => jl y4 o
    have y6a : ∀ o : Obj, (W2.alloc o).cell? ⟨b, 6, none⟩ = some (.slice al i cl) := fun o => jl y6 o
    have m0a : ∀ o : Obj, (W2.alloc o).cell? ⟨wr.heap.size, 0, none⟩ = some (.string (S x.1)) := fun o => jl m0 o
    have m1a : ∀ o : Obj, (W2.alloc o).cell? ⟨wr.heap.size, 1, none⟩ = some (.string (S x.2)) := fun o => jl m1 o
    clear hx hW2 b7 eC lz; go_wp2; rw [<- eB.out]
    go_region_law
        (first
          | (refine step_append_lies _ (by rfl) _ _ _ (by rfl) w.heap.size 167 i0 _ 5 80 Tryz.underlying127 hi' hz0 hz1 hz2 rfl (by omega) (.slice al i cl) i (qn ((jM s).take i)) (by rfl) (by first | exact aO (show World.ownsRow W2.drew _ _ _ _ _ _ from iA.out) _ | exact (aO iA.out _).drew)
               ⟨W2.heap.size, 0, none⟩ 1 1 (ltrC (s.frm, x, s.text)) (by rfl) (by rfl) (by first | exact jhH W2.drew _ _ _ _ _ _ _ rfl | exact jhH W2 _ _ _ _ _ _ _ rfl) (by simp [ltrC, Value.oneCell']) (by omega) (by unfold maxLen; omega) (by omega) (by have := gD.out; simp; omega) _ rfl ?_
             intro gm cap w5 dp hgrow hat fH; have z6 := hgrow.cell (a := ⟨b, 6, none⟩) (jl (w := W2.drew) y6 _) iS.out; have iB := hid (show Below W2.heap.size W2 (W2.drew.alloc (.cells #[.string (S s.frm.1), .string (S s.frm.2), .string (S x.1), .string (S x.2), .string (S s.text)] 167)) from (ay _ W2).drew.alloc (ai _) _); have cV := (hgrow.block b (aK gS.out iB.out.size) iS.out).trans (jW iB.out cJ.out); have zf6 := jdG cV 6; have mx : w5.ownsRow w.heap.size 167 5 (.slice (some ⟨gm, 0, none⟩) (((jM s).take i).length + 1) cap) (((jM s).take i).length + 1) (qn ((jM s).take i) ++ ltrC (s.frm, x, s.text)) := lr.out.symm ▸ dp; have fR := hid (jnd cJ.out dQ.out fx.out hn mQ.out bY.out iB.out hgrow mx); clear dp mx hgrow hat cV)
          | fail)
    all_goals
        rw [lr.out] at fR; have nK := hid fR.out.1; have l6 := hid fR.out.2.1; have oN := hid (show LOwnT _ w.heap.size _ ((jM s).take (i + 1)) by rw [AW.out]; exact fR.out.2.2.1); have oO := hid fR.out.2.2.2; clear fR; go_wp2
        go_roundw
        case rel => first | exact ⟨i + 1, _, by omega, by go_num, nK, l6, oN, oO⟩ | ((repeat apply Exists.intro); exact ⟨⟨i + 1, _, by omega, by go_num, nK, l6, oN, oO⟩, rfl⟩) | (refine ⟨trivial, ?_⟩; (repeat apply Exists.intro); exact ⟨⟨i + 1, _, by omega, by go_num, nK, l6, oN, oO⟩, rfl⟩)
        case measure => simp [intOf]; omega
  . have i1 : ¬ (i : Int) < (s.to.length : Int) := by omega
    have AV := hid (show (jM s).take i = jM s by rw [aV]; unfold jM; rw [bI]; omega); have fO := hid (jds b 1 s _ lv wr nW.out); have HE := hid (show LRdP n b B w.heap.size w (atS 1, jM s) (.returned (.tuple #[])) (jg6 wr b 1) from ⟨rfl, lv, ⟨_, jfQ nW.out 1, OwnL.nil _ _⟩, by rw [AV.out] at pf; exact jp1 pf.out nW.out 1, cX.out.trans (jfR _ hn 1)⟩); go_wp2_with fail; refine fO.out.mono ?_; rintro e u2 ⟨rfl, hu⟩; have b6 := hu.symm; subst b6; go_wp2; go_end0; exact HE.out
theorem jfv (a : List UInt8) (l : List UInt8) : ((S a).toList == l) = decide (a = l) := by
 rw [aW, ji]
 by_cases h : a = l
 . subst h; simp
 . simp [h]
theorem jfB (n b B : Nat) (line : List UInt8) (s : Ses) (lv : Value) (w : World) (h : SesW w b B s lv) (hn : n <= b) (ht : line.length <= 2000) :
 Calls Tryz.prog 136 #[.pointer (some ⟨b, 0, none⟩), .string (S line)] w (ObP n b B w (jdn s line) lv) := by
 have HF := hid (show Calls Tryz.prog 179 #[.string (S line)] w fun e w' => e = .returned (.tuple #[.string (S (lowL line)), .int .i64 0]) /\ Below w.heap.size w w' by
  refine (jm7 (S line) w).mono ?_; rintro e u ⟨rfl, hb⟩; refine ⟨?_, hb⟩; unfold jm6; rw [if_pos (by rw [jb]; exact ht), low, ji]; rfl)
 have HG := hid (show jdn s line = if lowL line = jol then jd4 s else if lowL line = jor then (jet s, 250) else if lowL line = joo then (s, 250) else if lowL line = jop then (atS 5, 221) else (s, 500) from rfl); obtain ⟨L, hL⟩ : ∃ L, L = lowL line := ⟨_, rfl⟩; rw [<- hL] at HF HG; have HH := hid h; have hlt : b < w.heap.size := by obtain ⟨v, h1, _⟩ := h; exact SB.lt h1
 have mQ := hid (show n <= w.heap.size by omega); have e1 := jfv L [100, 97, 116, 97]; have e2 := jfv L [114, 115, 101, 116]; have e3 := jfv L [110, 111, 111, 112]; have e4 := jfv L [113, 117, 105, 116]; clear h hL hlt; go_enter Tryz.func136, Tryz.ntmps136; go_wp2_with fail; refine HF.out.mono ?_; rintro e u ⟨rfl, hb⟩; have HB := hid (hb.mono mQ.out); have HU := hid (HH.out.next hb); clear hb
 by_cases h1 : L = jol
 . rw [if_pos h1] at HG; rw [show decide (L = [100, 97, 116, 97]) = true by rw [h1]; rfl] at e1; clear h1 e2 e3 e4; have HC := hid (jdV n b B s lv u HU.out hn); go_wp2_with fail; refine HC.out.mono ?_; rintro e u2 ⟨rfl, hw, hb2⟩; have HE := hid (show ObP n b B w (jdn s line) lv (.returned (.int .i64 (jd4 s).2)) u2 by rw [HG.out]; exact ⟨rfl, hw, HB.out.trans hb2⟩); clear hw hb2; go_wp2; go_ret; exact HE.out
 rw [if_neg h1] at HG; rw [show decide (L = [100, 97, 116, 97]) = false by simpa [jol] using h1] at e1; clear h1
 by_cases h2 : L = jor
 . rw [if_pos h2] at HG; rw [show decide (L = [114, 115, 101, 116]) = true by rw [h2]; rfl] at e2; clear h2 e3 e4; have HC := hid (jlK n b B s lv u HU.out hn); go_wp2_with fail; refine HC.out.mono ?_; rintro e u2 ⟨rfl, hw, hb2⟩; have HE := hid (show ObP n b B w (jdn s line) lv (.returned (.int .i64 250)) u2 by rw [HG.out]; exact ⟨rfl, hw, HB.out.trans hb2⟩); clear hw hb2; go_wp2; go_ret; exact HE.out
 rw [if_neg h2] at HG; rw [show decide (L = [114, 115, 101, 116]) = false by simpa [jor] using h2] at e2; clear h2
 by_cases h3 : L = joo
 . rw [if_pos h3] at HG; rw [show decide (L = [110, 111, 111, 112]) = true by rw [h3]; rfl] at e3; clear h3 e4; have HE := hid (show ObP n b B w (jdn s line) lv (.returned (.int .i64 250)) u by rw [HG.out]; exact ⟨rfl, HU.out, HB.out⟩); go_wp2; go_ret; exact HE.out
 rw [if_neg h3] at HG; rw [show decide (L = [110, 111, 111, 112]) = false by simpa [joo] using h3] at e3; clear h3
 by_cases h4 : L = jop
 . rw [if_pos h4] at HG; rw [show decide (L = [113, 117, 105, 116]) = true by rw [h4]; rfl] at e4; clear h4; obtain ⟨v, yW, hv2⟩ := HU.out; have HC := hid (jbH n b B 5 s v lv u yW hn); clear yW hv2; go_wp2_with fail; refine HC.out.mono ?_; rintro e u2 ⟨rfl, hw, hb2⟩; have HE := hid (show ObP n b B w (jdn s line) lv (.returned (.int .i64 221)) u2 by rw [HG.out]; exact ⟨rfl, hw, HB.out.trans hb2⟩); clear hw hb2; go_wp2; go_ret; exact HE.out
 rw [if_neg h4] at HG; rw [show decide (L = [113, 117, 105, 116]) = false by simpa [jop] using h4] at e4; clear h4; have HE := hid (show ObP n b B w (jdn s line) lv (.returned (.int .i64 500)) u by rw [HG.out]; exact ⟨rfl, HU.out, HB.out⟩); go_wp2; go_ret; exact HE.out
theorem jqo (a b : List UInt8) : S a ++ (S b ++ ⟨#[13, 10]⟩) = S (a ++ b ++ [13, 10]) := by
 have h : ∀ x y : List UInt8, S x ++ S y = S (x ++ y) := fun x y => by
  apply ByteArray.ext
  rw [ByteArray.data_append]
  simp [S]
 rw [show (⟨#[13, 10]⟩ : ByteArray) = S [13, 10] from rfl, h, h, aH]
theorem jmm (l : List UInt8) : (zD l).length <= l.length := by
 cases l with
 | nil => simp [zD]
 | cons c t => simp only [zD]; split <;> simp
theorem jk2 (n b B : Nat) (line : List UInt8) (s : Ses) (w : World) (h : SesW w b B s (.slice none 0 0)) (hn : n <= b) (h5 : s.to.length <= 1000) (hl : line.length <= 140737488355328) (ht : s.text.length <= 2000) :
 Calls Tryz.prog 85 #[.pointer (some ⟨b, 0, none⟩), .string (S line)] w (LRdP n b B w.heap.size w (vY s line)) := by
 have e1 := jfv line [46]
 by_cases hd : line = [46]
 . have HG := hid (show vY s line = (atS 1, jM s) by unfold vY; rw [if_pos hd]); have HX := hid (jfj n b B s w h hn h5); rw [show decide (line = [46]) = true by simp [hd]] at e1; clear hd h; go_enter Tryz.func85, Tryz.ntmps85; go_wp2_with fail; refine HX.out.mono ?_; intro e u hp; have HP := hid hp; obtain ⟨rfl, _⟩ := hp; have HE := hid (show LRdP n b B w.heap.size w (vY s line) (.returned (.tuple #[])) u by rw [HG.out]; exact HP.out); go_wp2; go_end0; exact HE.out
 . have HG := hid (show vY s line = (jg0 s line, []) by unfold vY; rw [if_neg hd]); rw [show decide (line = [46]) = false by simp [hd]] at e1; clear hd; obtain ⟨v, hs, ho⟩ := h; obtain ⟨⟨x0, x1, x2, x3, x4, x5, x6⟩, dI⟩ := zH hs; have f4 := dI 4; have f5 := dI 5; have pe := hid (jhl (S line) w); rw [ji] at pe; have iD := hid (jb s.text); have eI := hid (jb (zD line)); have wH := jmm line; have dG := hid (show s.large = true ∨ 2000 < s.text.length + (zD line).length + 2 -> LRdP n b B w.heap.size w (vY s line) (.returned (.tuple #[])) (w.setCell ⟨b, 5, none⟩ (.bool true)) by
    intro hc; rw [HG.out]; unfold jg0; rw [if_pos hc]; have h1 := za (j := 5) (u := .bool true) hs; simp only [af, ah, ag] at h1; exact ⟨rfl, _, ⟨v, h1, zQ ho hs⟩, LOwnT.nil _ _, (ay _ _).setCell (p := ⟨b, 5, none⟩) hn _⟩)
   have dq := hid (show ¬ (s.large = true ∨ 2000 < s.text.length + (zD line).length + 2) -> LRdP n b B w.heap.size w (vY s line) (.returned (.tuple #[])) (w.setCell ⟨b, 4, none⟩ (.string (S s.text ++ (S (zD line) ++ ⟨#[13, 10]⟩)))) by
    intro hc; rw [HG.out]; unfold jg0; rw [if_neg hc]; have h1 := za (j := 4) (u := .string (S s.text ++ (S (zD line) ++ ⟨#[13, 10]⟩))) hs; simp only [af, ah, ag] at h1; rw [jqo] at h1 ⊢; exact ⟨rfl, _, ⟨v, h1, zQ ho (by exact hs)⟩, LOwnT.nil _ _, (ay _ _).setCell (p := ⟨b, 4, none⟩) hn _⟩)
   obtain ⟨g, hg⟩ : ∃ g, g = s.large := ⟨_, rfl⟩; rw [<- hg] at x5 dG dq; clear hs ho dI hg; obtain ⟨U, hU⟩ : ∃ U, U = zD line := ⟨_, rfl⟩; rw [<- hU] at pe eI wH dG dq; clear hU; cases g with
   | true =>
     go_enter Tryz.func85, Tryz.ntmps85; go_wp2_with fail; refine pe.out.mono ?_; rintro e u ⟨rfl, hu⟩; have b6 := hu.symm; subst b6; go_wp2; go_end0; exact dG.out (by simp)
   | false =>
     have hz1 := iD.out; have hz2 := eI.out
     by_cases hc : 2000 < s.text.length + U.length + 2
     . have hc' : (2000 : Int) < ((S s.text).size : Int) + ((S U).size : Int) + 2 := by omega
       have dw : ((S s.text).size : Int) + ((S U).size : Int) + 2 < 9223372036854775808 := by omega
       clear hz1 hz2; go_enter Tryz.func85, Tryz.ntmps85; go_wp2_with fail; refine pe.out.mono ?_; rintro e u ⟨rfl, hu⟩; have b6 := hu.symm; subst b6; go_wp2; go_end0; exact dG.out (.inr hc)
     . have hc' : ¬ (2000 : Int) < ((S s.text).size : Int) + ((S U).size : Int) + 2 := by omega
       have dw : ((S s.text).size : Int) + ((S U).size : Int) + 2 < 9223372036854775808 := by omega
       have hw2 : (S U).size <= 2000 := by omega
       have hw3 : (S s.text).size <= 2000 := by omega
       clear hz1 hz2 wH hl ht; clear dw; go_enter Tryz.func85, Tryz.ntmps85; go_wp2_with fail; refine pe.out.mono ?_; rintro e u ⟨rfl, hu⟩; have b6 := hu.symm; subst b6; go_wp2; go_end0; exact dq.out (by simp; omega)
theorem jbJ {wd r : List UInt8} (h : zG wd line = some r) : r.length <= line.length := by
 unfold zG at h; split at h
 . cases h; simp
 . cases h
theorem jnC (n b B : Nat) (line : List UInt8) (known : List (List UInt8)) (kv : Value) (s : Ses) (lv : Value) (w : World) (h : SesW w b B s lv) (hn : n <= b) (hB : n <= B) (hl : line.length <= 140737488355328) (hk : TxtsM (· < n) w kv known) (h5 : s.to.length <= 1000) (cS : B <= w.heap.size) :
 Calls Tryz.prog 86 #[.pointer (some ⟨b, 0, none⟩), .string (S line), kv] w (ObP n b B w (cmdM s known line) lv) := by
 have HZ := hid (jb line)
 by_cases hL : 300 < line.length
 . have h3 : (300 : Int) < ((S line).size : Int) := by rw [HZ.out]; omega
   have HE := hid (show ObP n b B w (cmdM s known line) lv (.returned (.int .i64 500)) w by unfold cmdM; rw [if_pos hL]; exact ⟨rfl, h, ay _ _⟩); clear h hk; go_enter Tryz.func86, Tryz.ntmps86; go_wp2; go_ret; exact HE.out
 have h3 : ¬ (300 : Int) < ((S line).size : Int) := by rw [HZ.out]; omega
 have HG := hid (show cmdM s known line = cmd1 s known line (zG jom line) by unfold cmdM; rw [if_neg hL]); have hlt : b < w.heap.size := by obtain ⟨v, h1, _⟩ := h; exact SB.lt h1
 have mQ := hid (show n <= w.heap.size by omega); have HH := hid h; have HK := hid hk; have bX := hid (fun u => jbI jom line u (by decide) (by decide)); have bY := hid (fun u => jbI jon line u (by decide) (by decide)); have bZ := hid (fun u => jbI joq line u (by decide) (by decide)); obtain ⟨o1, ws⟩ : ∃ o1, o1 = zG jom line := ⟨_, rfl⟩; have dy : ∀ r, o1 = some r -> r.length <= 300 := fun r hr => by rw [ws] at hr; have := jbJ hr; omega
 rw [<- ws] at bX HG; clear h hk hlt ws; go_enter Tryz.func86, Tryz.ntmps86; go_wp2_with fail; refine (bX.out _).mono ?_; intro e w1 my; cases o1 with
 | some r =>
   obtain ⟨rfl, hb⟩ := my; have HX := hid (jkC n b B r s lv w1 (HH.out.next hb) hn (by have := dy r rfl; omega)); have HB := hid (hb.mono mQ.out); clear hb dy; go_wp2_with fail; refine HX.out.mono ?_; rintro e w2 ⟨rfl, hw, hb2⟩; have HE := hid (show ObP n b B w (cmdM s known line) lv (.returned (.int .i64 (jbh s r).2)) w2 by rw [HG.out]; exact ⟨rfl, hw, HB.out.trans hb2⟩); clear hw hb2; go_wp2; go_ret; exact HE.out
 | none =>
   obtain ⟨⟨t1, rfl⟩, hb⟩ := my; have HB := hid (hb.mono mQ.out); have cO := hid (HH.out.next hb); have kR := hid (aN mQ.out hb.size); have sP := hid (aN cS hb.size); clear hb dy; have iy := hid (show cmdM s known line = cmd2 s known line (zG jon line) from HG.out); obtain ⟨o2, gM⟩ : ∃ o2, o2 = zG jon line := ⟨_, rfl⟩; have hl2 : ∀ r, o2 = some r -> r.length <= 300 := fun r hr => by rw [gM] at hr; have := jbJ hr; omega
   rw [<- gM] at bY iy; clear gM; go_wp2_with fail; refine (bY.out _).mono ?_; intro e w2 mz; cases o2 with
   | some r =>
     obtain ⟨rfl, hb⟩ := mz; have HX := hid (jey n b B r s lv w2 (cO.out.next hb) hn (by have := hl2 r rfl; omega)); have gS := hid (HB.out.trans (hb.mono kR.out)); clear hb hl2; go_wp2_with fail; refine HX.out.mono ?_; rintro e w3 ⟨rfl, hw, hb2⟩; have HE := hid (show ObP n b B w (cmdM s known line) lv (.returned (.int .i64 (jde s r).2)) w3 by rw [iy.out]; exact ⟨rfl, hw, gS.out.trans hb2⟩); clear hw hb2; go_wp2; go_ret; exact HE.out
   | none =>
     obtain ⟨⟨t2, rfl⟩, hb⟩ := mz; have gS := hid (HB.out.trans (hb.mono kR.out)); have dH := hid (cO.out.next hb); have cY := hid (aN kR.out hb.size); have sQ := hid (aN sP.out hb.size); clear hb hl2; have oQ := hid (show cmdM s known line = cmd3 s known line (zG joq line) from iy.out); obtain ⟨o3, gO⟩ : ∃ o3, o3 = zG joq line := ⟨_, rfl⟩; have lJ : ∀ r, o3 = some r -> r.length <= 300 := fun r hr => by rw [gO] at hr; have := jbJ hr; omega
     rw [<- gO] at bZ oQ; clear gO; go_wp2_with fail; refine (bZ.out _).mono ?_; intro e w3 pW; cases o3 with
     | some r =>
       obtain ⟨rfl, hb⟩ := pW; have fO := hid (gS.out.trans (hb.mono cY.out)); have HX := hid (jgb n b B r known kv s lv w3 (dH.out.next hb) hn hB (by have := lJ r rfl; omega) (HK.out.nextB fO.out) h5 (aN sQ.out hb.size)); clear hb lJ; go_wp2_with fail; refine HX.out.mono ?_; rintro e w4 ⟨rfl, hw, hb2⟩; have HE := hid (show ObP n b B w (cmdM s known line) lv (.returned (.int .i64 (jbs s known r).2)) w4 by rw [oQ.out]; exact ⟨rfl, hw, fO.out.trans hb2⟩); clear hw hb2; go_wp2; go_ret; exact HE.out
     | none =>
       obtain ⟨⟨t3, rfl⟩, hb⟩ := pW; have fO := hid (gS.out.trans (hb.mono cY.out)); have HX := hid (jfB n b B line s lv w3 (dH.out.next hb) hn (by omega)); clear hb lJ; go_wp2_with fail; refine HX.out.mono ?_; rintro e w4 ⟨rfl, hw, hb2⟩; have HE := hid (show ObP n b B w (cmdM s known line) lv (.returned (.int .i64 (jdn s line).2)) w4 by rw [oQ.out]; exact ⟨rfl, hw, fO.out.trans hb2⟩); clear hw hb2; go_wp2; go_ret; exact HE.out
theorem zc {l : List Adr} (h : OwnL w B v l) (hb : b < B) : OwnL (w.setCell ⟨b, j, none⟩ u) B v l := by
 unfold OwnL at *; refine ⟨h.1, ?_⟩
 rcases h.2 with h' | ⟨g, cap, cur, hv, hB, hg, hr⟩
 . exact .inl h'
 . exact .inr ⟨g, cap, cur, hv, hB, (aC _ _ _ _ (show g ≠ b by omega)).trans hg, hr⟩
theorem jbp {l : List Adr} (h : OwnL w B v l) (hb : B' <= B) : OwnL w B' v l := by
 unfold OwnL at *; refine ⟨h.1, ?_⟩
 rcases h.2 with h' | ⟨g, cap, cur, hv, hB, hg, hr⟩
 . exact .inl h'
 . exact .inr ⟨g, cap, cur, hv, by omega, hg, hr⟩
def GoP (w : World) (s : Ses) (e : Ending) (w' : World) : Prop := ∃ v, e = .returned (.agg #[.int .i64 s.step, .string (S s.frm.1), .string (S s.frm.2), v, .string (S s.text), .bool s.large, .slice none 0 0]) /\ OwnL w' w.heap.size v s.to /\ Below w.heap.size w w'
theorem sev7 {u6 v6 : Value} (h : W.heap[p]? = some (.cells #[u0, u1, u2, u3, u4, u5, u6] t)) : (((((((W.setCell ⟨p, 0, none⟩ v0).setCell ⟨p, 1, none⟩ v1).setCell ⟨p, 2, none⟩ v2).setCell ⟨p, 3, none⟩ v3).setCell ⟨p, 4, none⟩ v4).setCell ⟨p, 5, none⟩ v5).setCell ⟨p, 6, none⟩ v6).heap[p]? = some (.cells #[v0, v1, v2, v3, v4, v5, v6] t) := by
 have := za (j := 6) (u := v6) (six7 (v0 := v0) (v1 := v1) (v2 := v2) (v3 := v3) (v4 := v4) (v5 := v5) h); simp only [af, ag, ah] at this; exact this
theorem jfh (Q : Nat -> Prop) (s : Ses) (v : Value) (w : World) (ha : AdrsM Q w v s.to) (hn : s.to.length <= 1000) :
 Calls Tryz.prog 84 #[sesV s v] w (GoP w s) := by
 obtain ⟨W1, hW1⟩ : ∃ W1, W1 = (w.alloc (.cells #[.int .i64 s.step, .string (S s.frm.1), .string (S s.frm.2), v, .string (S s.text), .bool s.large] 76)).alloc (.cells #[.int .i64 0, .string ⟨#[]⟩, .string ⟨#[]⟩, .slice none 0 0, .string ⟨#[]⟩, .bool false, .slice none 0 0] 163) := ⟨_, rfl⟩; have b9 := hid hW1; have b8 : Below w.heap.size w W1 := by rw [hW1]; exact (nb0 _ _).alloc (by simp) _
 have bX := hid b8; have gI : W1.heap[w.heap.size]? = some (.cells #[.int .i64 s.step, .string (S s.frm.1), .string (S s.frm.2), v, .string (S s.text), .bool s.large] 76) := by rw [hW1]; exact jco _ (az w _)
 have cI : W1.heap[w.heap.size + 1]? = some (.cells #[.int .i64 0, .string ⟨#[]⟩, .string ⟨#[]⟩, .slice none 0 0, .string ⟨#[]⟩, .bool false, .slice none 0 0] 163) := by rw [hW1]; exact jgC _ (by simp)
 have hz : W1.heap.size = w.heap.size + 2 := by rw [hW1]; simp
 have HZ := hid hz; have HC := hid (jiu Q s.to v W1 (ha.next b8) hn); have tZ := hid gI; have dB := hid cI; obtain ⟨x0, x1, x2, x3, x4, x5⟩ := qb gI; clear hW1 gI cI b8 ha hz; unfold sesV; go_enter Tryz.func84, Tryz.ntmps84; go_upto_region 1 with fail
 rw [<- b9.out]; go_wp2_with fail; refine HC.out.mono ?_; rintro e u ⟨v', rfl, ho, hb⟩; obtain ⟨a', c', rfl⟩ := ho.slice; have np := jW hb tZ.out; have nr := jW hb dB.out; obtain ⟨y0, y1, y2, y3, y4, y5⟩ := qb np; have f3 := jdG np 3; have hne : w.heap.size + 1 ≠ w.heap.size := by omega
 obtain ⟨U, hU⟩ : ∃ U, U = u.setCell ⟨w.heap.size, 3, none⟩ (.slice a' s.to.length c') := ⟨_, rfl⟩; have BA := hid hU; have si := za (j := 3) (u := (.slice a' s.to.length c')) np; have hV1 : (u.setCell ⟨w.heap.size, 3, none⟩ (.slice a' s.to.length c')).heap[w.heap.size + 1]? = _ := (aC _ _ _ _ hne).trans nr; simp only [af, ah, ag] at si; rw [<- hU] at si hV1; have pi := hid si; have xw := hid hV1; have HF := hid (show GoP w s (.returned (.agg #[.int .i64 s.step, .string (S s.frm.1), .string (S s.frm.2), (.slice a' s.to.length c'), .string (S s.text), .bool s.large, .slice none 0 0])) (((((((U.setCell ⟨w.heap.size + 1, 0, none⟩ (.int .i64 s.step)).setCell ⟨w.heap.size + 1, 1, none⟩ (.string (S s.frm.1))).setCell ⟨w.heap.size + 1, 2, none⟩ (.string (S s.frm.2))).setCell ⟨w.heap.size + 1, 3, none⟩ (.slice a' s.to.length c')).setCell ⟨w.heap.size + 1, 4, none⟩ (.string (S s.text))).setCell ⟨w.heap.size + 1, 5, none⟩ (.bool s.large)).setCell ⟨w.heap.size + 1, 6, none⟩ (.slice none 0 0)) by
  have hz := HZ.out; have h1 : w.heap.size < W1.heap.size := by omega
  have h2 : w.heap.size + 1 < W1.heap.size := by omega
  have B7 : Below w.heap.size w U := by rw [hU]; exact (bX.out.trans (hb.mono bX.out.size)).setCell (p := ⟨w.heap.size, 3, none⟩) (ai _) _
  refine ⟨(.slice a' s.to.length c'), rfl, jbp (zc (zc (zc (zc (zc (zc (zc (by rw [hU]; exact zc ho h1) h2) h2) h2) h2) h2) h2) h2) (by omega), ?_⟩; exact (B7.trans (low7 U _ _ _ _ _ _ (Nat.le_succ _))).setCell (p := ⟨w.heap.size + 1, 6, none⟩) (Nat.le_succ _) _)
 clear np nr si hV1 ho hb hU; go_upto_region 2 with fail
 rw [<- BA.out]; clear y0 y1 y2 y3 y4 y5 f3 x0 x1 x2 x3 x4 x5; obtain ⟨p0, p1, p2, p3, p4, p5⟩ := qb pi.out; obtain ⟨⟨q0, q1, q2, q3, q4, q5, q6⟩, eC⟩ := zH xw.out; have g0 := eC 0; have g1 := eC 1; have g2 := eC 2; have g3 := eC 3; have g4 := eC 4; have g5 := eC 5; have g6 := eC 6; have hR := sev7 (v0 := .int .i64 s.step) (v1 := .string (S s.frm.1)) (v2 := .string (S s.frm.2)) (v3 := (.slice a' s.to.length c')) (v4 := .string (S s.text)) (v5 := .bool s.large) (v6 := .slice none 0 0) xw.out; have HR := hid hR; clear hR eC; go_wp2; obtain ⟨⟨r0, r1, r2, r3, r4, r5, r6⟩, _⟩ := zH HR.out; clear p0 p1 p2 p3 p4 p5 q0 q1 q2 q3 q4 q5 q6 g0 g1 g2 g3 g4 g5 g6; refine aD (v := .agg #[.int .i64 s.step, .string (S s.frm.1), .string (S s.frm.2), (.slice a' s.to.length c'), .string (S s.text), .bool s.large, .slice none 0 0]) (by simp [results, Tryz.results84, go_sem, *]) rfl ?_; exact HF.out
def LnP (w : World) (s : Ses) (known : List (List UInt8)) (line : List UInt8) (e : Ending) (w' : World) : Prop :=
 (mayS s = true -> ∃ v lv, e = .returned (.tuple #[sesV (js s known line).1 v, .int .i64 (js s known line).2.1, lv, .int .i64 0]) /\ OwnL w' w.heap.size v (js s known line).1.to /\ LOwnT w' w.heap.size lv (js s known line).2.2) /\
 (mayS s = false -> e = .returned (.tuple #[sesV (atS 0) (.slice none 0 0), .int .i64 0, .slice none 0 0, .int .i64 11])) /\ Below w.heap.size w w'
theorem jcN (h : LOwnT w B v l) (hb : B' <= B) : LOwnT w B' v l := by
 unfold LOwnT at *; refine ⟨h.1, ?_⟩
 rcases h.2 with h' | ⟨g, cap, cur, hv, hB, hg, hr⟩
 . exact .inl h'
 . exact .inr ⟨g, cap, cur, hv, by omega, hg, hr⟩
theorem zF (h : LOwnT w B v l) (hb : b < B) : LOwnT (w.setCell ⟨b, j, none⟩ u) B v l := by
 unfold LOwnT at *; refine ⟨h.1, ?_⟩
 rcases h.2 with h' | ⟨g, cap, cur, hv, hB, hg, hr⟩
 . exact .inl h'
 . exact .inr ⟨g, cap, cur, hv, hB, (aC _ _ _ _ (show g ≠ b by omega)).trans hg, hr⟩
theorem jeA (h : W.heap[p]? = some (.cells #[u0, u1, u2, u3, u4, u5] t)) : ((((((W.setCell ⟨p, 0, none⟩ v0).setCell ⟨p, 1, none⟩ v1).setCell ⟨p, 2, none⟩ v2).setCell ⟨p, 3, none⟩ v3).setCell ⟨p, 4, none⟩ v4).setCell ⟨p, 5, none⟩ v5).heap[p]? = some (.cells #[v0, v1, v2, v3, v4, v5] t) := by
 have := za (j := 5) (u := v5) (za (j := 4) (u := v4) (za (j := 3) (u := v3) (za (j := 2) (u := v2) (za (j := 1) (u := v1) (za (j := 0) (u := v0) h))))); simp only [af, ag, ah] at this; exact this
theorem jg7 (h : w.heap[b]? = some (.cells cs t)) : w.frozen? ⟨b, 0, none⟩ = false /\ w.frozen? ⟨b, 1, none⟩ = false /\ w.frozen? ⟨b, 2, none⟩ = false /\ w.frozen? ⟨b, 3, none⟩ = false /\ w.frozen? ⟨b, 4, none⟩ = false /\ w.frozen? ⟨b, 5, none⟩ = false := by
 simp [World.frozen?, h]
def outW (w : World) (p : Nat) (s : Ses) (v : Value) : World := (((((w.setCell ⟨p, 0, none⟩ (.int .i64 s.step)).setCell ⟨p, 1, none⟩ (.string (S s.frm.1))).setCell ⟨p, 2, none⟩ (.string (S s.frm.2))).setCell ⟨p, 3, none⟩ v).setCell ⟨p, 4, none⟩ (.string (S s.text))).setCell ⟨p, 5, none⟩ (.bool s.large)
theorem jnF {l : List Adr} (h : OwnL w B v l) : OwnL w.drew B v l := h
theorem jln (h : LOwnT w B v l) : LOwnT w.drew B v l := h
theorem jkk {x : Option Obj} (h : w.heap[b]? = x) : w.drew.heap[b]? = x := h
theorem jpL {s : Ses} (hm : mayS s = true) (hl : js s known line = (r, c, ls)) (ho : OwnL w5 B v r.to) (ht : LOwnT w5 H lv ls) (hB : w.heap.size + 2 <= B) (hH : w.heap.size + 2 <= H) (hb : Below w.heap.size w w5) :
 LnP w s known line (.returned (.tuple #[sesV r v, .int .i64 c, lv, .int .i64 0])) (outW w5 (w.heap.size + 1) r v).drew := by
 refine ⟨fun _ => ?_, (fun h => by rw [hm] at h; cases h), ?_⟩
 . rw [hl]; have h1 : w.heap.size + 1 < B := by omega
   have h2 : w.heap.size + 1 < H := by omega
   exact ⟨v, lv, rfl, jnF (jbp (zc (zc (zc (zc (zc (zc ho h1) h1) h1) h1) h1) h1) (by omega)), jln (jcN (zF (zF (zF (zF (zF (zF ht h2) h2) h2) h2) h2) h2) (by omega))⟩
 . exact (hb.trans (low7 w5 _ _ _ _ _ _ (Nat.le_succ _))).drew
theorem jnm (Q : Nat -> Prop) (s : Ses) (v kv : Value) (known : List (List UInt8)) (line : List UInt8) (w : World) (hf : Fit s) (hv : jba v) (ha : AdrsM Q w v s.to) (hk : TxtsM Q w kv known) (hl : line.length <= 140737488355328) :
 Calls Tryz.prog 56 #[sesV s v, kv, .string (S line)] w (LnP w s known line) := by
 obtain ⟨av, cv, rfl⟩ : ∃ a c, v = .slice a s.to.length c := by obtain ⟨a, c, h, _⟩ := ha; exact ⟨a, c, h⟩
 obtain ⟨ak, ck, rfl⟩ : ∃ a c, kv = .slice a known.length c := by obtain ⟨a, c, h, _⟩ := hk; exact ⟨a, c, h⟩
 obtain ⟨W1, hW1⟩ : ∃ W1, W1 = (w.alloc (.cells #[.int .i64 s.step, .string (S s.frm.1), .string (S s.frm.2), .slice av s.to.length cv, .string (S s.text), .bool s.large] 76)).alloc (.cells #[.int .i64 0, .string ⟨#[]⟩, .string ⟨#[]⟩, .slice none 0 0, .string ⟨#[]⟩, .bool false] 76) := ⟨_, rfl⟩; have b9 := hid hW1; have b8 : Below w.heap.size w W1 := by rw [hW1]; exact (nb0 _ _).alloc (by simp) _
 have bX := hid b8; have gI : W1.heap[w.heap.size]? = some (.cells #[.int .i64 s.step, .string (S s.frm.1), .string (S s.frm.2), .slice av s.to.length cv, .string (S s.text), .bool s.large] 76) := by rw [hW1]; exact jco _ (az w _)
 have cI : W1.heap[w.heap.size + 1]? = some (.cells #[.int .i64 0, .string ⟨#[]⟩, .string ⟨#[]⟩, .slice none 0 0, .string ⟨#[]⟩, .bool false] 76) := by rw [hW1]; exact jgC _ (by simp)
 have HZ := hid (show W1.heap.size = w.heap.size + 2 by rw [hW1]; simp); have tZ := hid gI; have dB := hid cI; have HA := hid (ha.next b8); have HK := hid (show TxtsM (· < W1.heap.size) W1 (.slice ak known.length ck) known from by
  obtain ⟨a, c, h1, h2, h3⟩ := hk; refine ⟨a, c, h1, h2, fun i x hx => ?_⟩; obtain ⟨b, o, cs, e1, e2, _, e4, e5, e6⟩ := h3 i x hx; exact ⟨b, o, cs, e1, aK e2 b8.size, aK e2 b8.size, e4, fun j u hj => (b8.cell (p := ⟨b, o + i * 1 + j, none⟩) e2).trans (e5 j u hj), e6⟩)
 have gU := hid (jgN Q s (.slice av s.to.length cv) W1 hf hv HA.out); have nL := hid hf.txt; obtain ⟨x0, x1, x2, x3, x4, x5⟩ := qb gI; obtain ⟨m, hm⟩ : ∃ m, m = mayS s := ⟨_, rfl⟩; rw [<- hm] at gU; have HM := hid hm; clear hW1 gI cI b8 ha hk hf hv hm; unfold sesV at gU ⊢; cases m with
 | false =>
   go_enter Tryz.func56, Tryz.ntmps56; go_upto_region 1 with fail
   rw [<- b9.out]; go_wp2_with fail; refine gU.out.mono ?_; rintro e w2 ⟨rfl, hb2⟩; have nr := jW hb2 dB.out; obtain ⟨y0, y1, y2, y3, y4, y5⟩ := qb nr; obtain ⟨f0, f1, f2, f3, f4, f5⟩ := jg7 nr; have hR := jeA (v0 := .int .i64 0) (v1 := .string ⟨#[]⟩) (v2 := .string ⟨#[]⟩) (v3 := .slice none 0 0) (v4 := .string ⟨#[]⟩) (v5 := .bool false) nr; have HR := hid hR; have HE := hid (show LnP w s known line (.returned (.tuple #[.agg #[.int .i64 0, .string ⟨#[]⟩, .string ⟨#[]⟩, .slice none 0 0, .string ⟨#[]⟩, .bool false], .int .i64 0, .slice none 0 0, .int .i64 11])) (outW w2 (w.heap.size + 1) (atS 0) (.slice none 0 0)) from
    ⟨(fun h => by rw [<- HM.out] at h; cases h), (fun _ => rfl), (bX.out.trans (hb2.mono bX.out.size)).trans (low7 w2 _ _ _ _ _ _ (Nat.le_succ _))⟩)
   clear hb2 nr hR x0 x1 x2 x3 x4 x5; simp only [Bool.false_eq_true, if_false]; go_wp2; obtain ⟨r0, r1, r2, r3, r4, r5⟩ := qb HR.out; clear y0 y1 y2 y3 y4 y5 f0 f1 f2 f3 f4 f5; refine aD (v := .tuple #[.agg #[.int .i64 0, .string ⟨#[]⟩, .string ⟨#[]⟩, .slice none 0 0, .string ⟨#[]⟩, .bool false], .int .i64 0, .slice none 0 0, .int .i64 11]) (by simp [results, Tryz.results56, go_sem, *]) rfl ?_; exact HE.out
 | true =>
   have h5 : s.to.length <= 5 := by
    have h := (zb.1 HM.out.symm).2.2.2.1; unfold qi at h; split at h
    . have : s.to = [] := by simpa using h
      rw [this]; simp
    . simp only [aX, decide_eq_true_eq] at h; exact h.1.2
   have fx := hid (show s.text.length <= 2000 by
    have h := (zb.1 HM.out.symm).2.2.2.2; unfold vX at h; split at h
    . simpa using h
    . simp only [aX] at h; have : s.text = [] := by simpa using h.1
      rw [this]; simp)
   go_enter Tryz.func56, Tryz.ntmps56; go_upto_region 1 with fail
   rw [<- b9.out]; go_wp2_with fail; refine gU.out.mono ?_; rintro e w2 ⟨rfl, hb2⟩; have np := jW hb2 tZ.out; have n8 := hid (jW hb2 dB.out); obtain ⟨y0, y1, y2, y3, y4, y5⟩ := qb np; have xb := hid (jfh Q s (.slice av s.to.length cv) w2 (HA.out.next hb2) (by omega)); unfold sesV at xb; have bY := hid hb2; clear hb2 np x0 x1 x2 x3 x4 x5; simp only [if_true]; go_wp2_with fail; refine xb.out.mono ?_; rintro e w3 ⟨v', rfl, gO, hb3⟩; obtain ⟨a', c', rfl⟩ := gO.slice; obtain ⟨b, hb⟩ : ∃ b, b = w3.heap.size := ⟨_, rfl⟩; obtain ⟨W4, dr⟩ : ∃ W4, W4 = w3.alloc (.cells #[.int .i64 s.step, .string (S s.frm.1), .string (S s.frm.2), .slice a' s.to.length c', .string (S s.text), .bool s.large, .slice none 0 0] 163) := ⟨_, rfl⟩; have iZ := hid dr; have cf : Below w3.heap.size w3 W4 := by rw [dr]; exact nb0 _ _
   have uB : SB W4 b s (.slice a' s.to.length c') (.slice none 0 0) := by rw [dr, hb]; exact az w3 _
   have oE := hid (hb3.trans (cf.mono hb3.size)); have iJ := hid (show Below W1.heap.size W1 W4 from bY.out.trans (oE.out.mono bY.out.size)); have dK := hid uB; have iT := hid (jV gO cf); have mW := hid (show SesW W4 b w2.heap.size s (.slice none 0 0) from ⟨_, uB, jV gO cf⟩); have kR := hid (show W1.heap.size <= b by rw [hb]; exact aN bY.out.size hb3.size); have cY := hid (show W1.heap.size <= w2.heap.size from bY.out.size); have Al := hid hb; have eo := hid (show w2.heap.size <= W4.heap.size from oE.out.size); clear dr cf uB gO hb3 hb y0 y1 y2 y3 y4 y5; obtain ⟨⟨z0, z1, z2, z3, z4, z5, z6⟩, _⟩ := zH dK.out; have pJ : s.step = 5 ∨ s.step = 4 ∨ (¬ s.step = 5 /\ ¬ s.step = 4) := by omega
   go_upto_region 5 with fail
   rw [<- iZ.out, <- Al.out]
   rcases pJ with h | h | h
   case' inl =>
    have HL := hid (show js s known line = (s, 0, []) by unfold js; rw [if_pos h]); have e5 : (s.step == 5) = true := by simp [h]
    obtain ⟨w5, fM⟩ : ∃ w5, w5 = W4 := ⟨_, rfl⟩; obtain ⟨r, hr⟩ : ∃ r, r = s := ⟨_, rfl⟩; obtain ⟨c, hc⟩ : ∃ c : Int, c = 0 := ⟨_, rfl⟩; obtain ⟨lv, hlv⟩ : ∃ lv, lv = Value.slice none 0 0 := ⟨_, rfl⟩; obtain ⟨ls, kt⟩ : ∃ ls, ls = ([] : List Ltr) := ⟨_, rfl⟩; have iX := hid (show LOwnT w5 W4.heap.size lv ls by rw [hlv, kt]; exact LOwnT.nil _ _); have mX := hid (show SesW w5 b w2.heap.size r lv by rw [fM, hr, hlv]; exact mW.out); have dh := hid (show Below W1.heap.size W1 w5 by rw [fM]; exact iJ.out); have oU := hid (show js s known line = (r, c, ls) by rw [HL.out, hr, hc, kt]); have sU := hid hc; have At := hid fM; clear fM hr hc hlv kt; go_upto_region 10 with fail
    rw [<- At.out]
   case' inr.inl =>
    have HL := hid (show js s known line = ((vY s line).1, 0, (vY s line).2) by unfold js; rw [if_neg (by omega), if_pos h]); have e5 : (s.step == 5) = false := by simp [h]
    have e4 : (s.step == 4) = true := by simp [h]
    have HX := hid (jk2 W1.heap.size b w2.heap.size line s W4 mW.out kR.out (by omega) hl fx.out); clear h; go_wp2_with fail; refine HX.out.mono ?_; rintro e w5 ⟨rfl, lv, fM, wF, cV⟩; obtain ⟨r, hr⟩ : ∃ r, r = (vY s line).1 := ⟨_, rfl⟩; obtain ⟨c, hc⟩ : ∃ c : Int, c = 0 := ⟨_, rfl⟩; obtain ⟨ls, kt⟩ : ∃ ls, ls = (vY s line).2 := ⟨_, rfl⟩; rw [<- hr] at fM; rw [<- kt] at wF; have iX := hid wF; have mX := hid fM; have dh := hid (show Below W1.heap.size W1 w5 from iJ.out.trans cV); have oU := hid (show js s known line = (r, c, ls) by rw [HL.out, hr, hc, kt]); have sU := hid hc; clear fM wF cV hr hc kt; go_upto_region 10 with fail
   case' inr.inr =>
    have HL := hid (show js s known line = ((cmdM s known line).1, (cmdM s known line).2, []) by unfold js; rw [if_neg h.1, if_neg h.2]); have e5 : (s.step == 5) = false := by simp [h.1]
    have e4 : (s.step == 4) = false := by simp [h.2]
    have HX := hid (jnC W1.heap.size b w2.heap.size line known (.slice ak known.length ck) s (.slice none 0 0) W4 mW.out kR.out cY.out hl (HK.out.nextB iJ.out) (by omega) eo.out); clear h; go_wp2_with fail; refine HX.out.mono ?_; rintro e w5 ⟨rfl, fM, cV⟩; obtain ⟨lv, hlv⟩ : ∃ lv, lv = Value.slice none 0 0 := ⟨_, rfl⟩; obtain ⟨r, hr⟩ : ∃ r, r = (cmdM s known line).1 := ⟨_, rfl⟩; obtain ⟨c, hc⟩ : ∃ c : Int, c = (cmdM s known line).2 := ⟨_, rfl⟩; obtain ⟨ls, kt⟩ : ∃ ls, ls = ([] : List Ltr) := ⟨_, rfl⟩; rw [<- hr, <- hlv] at fM; have iX := hid (show LOwnT w5 W4.heap.size lv ls by rw [hlv, kt]; exact LOwnT.nil _ _); have mX := hid fM; have dh := hid (show Below W1.heap.size W1 w5 from iJ.out.trans cV); have oU := hid (show js s known line = (r, c, ls) by rw [HL.out, hr, hc, kt]); have sU := hid hc; clear fM cV hr hc kt hlv; go_upto_region 10 with fail
   all_goals
    clear z0 z1 z2 z3 z4 z5 z6; obtain ⟨v5, hs5, kA⟩ := mX.out; obtain ⟨a5, c5, rfl⟩ := kA.slice; obtain ⟨⟨z0, z1, z2, z3, z4, z5, z6⟩, _⟩ := zH hs5; have hz := HZ.out; have gy : b ≠ w.heap.size + 1 := by have := kR.out; omega
    have lM : w.heap.size + 1 ≠ b := fun e => gy e.symm
    have sl : w5.heap[w.heap.size + 1]? = _ := jqO dh.out dB.out (by omega); obtain ⟨y0, y1, y2, y3, y4, y5⟩ := qb sl; obtain ⟨f0, f1, f2, f3, f4, f5⟩ := jg7 sl; have HR := hid (jeA (W := w5) (v0 := .int .i64 r.step) (v1 := .string (S r.frm.1)) (v2 := .string (S r.frm.2)) (v3 := .slice a5 r.to.length c5) (v4 := .string (S r.text)) (v5 := .bool r.large) sl); have HE := hid (jpL (w5 := w5) HM.out.symm oU.out kA iX.out (by have := cY.out; omega) (by have := iJ.out.size; omega) (bX.out.trans (dh.out.mono bX.out.size))); unfold sesV outW at HE; clear hs5 kA hz sl
    go_region_held3 (fun w' => w'.cell? ⟨b, 0, none⟩ = some (.int .i64 r.step) /\ w'.cell? ⟨b, 1, none⟩ = some (.string (S r.frm.1)) /\ w'.cell? ⟨b, 2, none⟩ = some (.string (S r.frm.2)) /\ w'.cell? ⟨b, 3, none⟩ = some (.slice a5 r.to.length c5) /\ w'.cell? ⟨b, 4, none⟩ = some (.string (S r.text)) /\ w'.cell? ⟨b, 5, none⟩ = some (.bool r.large) /\ w'.cell? ⟨b, 6, none⟩ = some lv) (go_keep) (fail)
    all_goals
        go_wp2; obtain ⟨r0, r1, r2, r3, r4, r5⟩ := qb (jkk HR.out); clear y0 y1 y2 y3 y4 y5 f0 f1 f2 f3 f4 f5 z0 z1 z2 z3 z4 z5 z6; have hcc := sU.out; refine aD (v := .tuple #[.agg #[.int .i64 r.step, .string (S r.frm.1), .string (S r.frm.2), .slice a5 r.to.length c5, .string (S r.text), .bool r.large], .int .i64 c, lv, .int .i64 0]) (by simp [results, Tryz.results56, go_sem, *]) rfl ?_; exact HE.out
theorem lawful.ok {a : Adr} (h : lawful a) : qH a = true := by unfold qH; rw [h.check]; rfl
theorem jpR {s : Ses} (h : mayS s = true) : Fit s := by
 obtain ⟨p0, p5, ps, pg, pt⟩ := zb.1 h; have hf : s.frm.1.length <= 100 /\ s.frm.2.length <= 100 := by
  unfold zw at ps; split at ps
  . simp only [aX, List.isEmpty_iff] at ps; rw [ps.1, ps.2]; simp
  . have := jeY ps; omega
 have ht : s.text.length <= 2000 := by
  unfold vX at pt; split at pt
  . simpa using pt
  . simp only [aX, List.isEmpty_iff] at pt; rw [pt.1]; simp
 have hg : ∀ x ∈ s.to, x.1.length + 1 + x.2.length <= 100 := by
  unfold qi at pg; split at pg
  . simp only [List.isEmpty_iff] at pg; rw [pg]; simp
  . simp only [aX] at pg; exact fun x hx => jeY (je9 pg.2 hx)
 exact ⟨by omega, by omega, by omega, by omega, by omega, fun x hx => by have := hg x hx; omega⟩
theorem joK {s : Ses} (h : mayS s = true) : s.to.length <= 5 := by
 have h := (zb.1 h).2.2.2.1; unfold qi at h; split at h
 . have : s.to = [] := by simpa using h
   rw [this]; simp
 . simp only [aX, decide_eq_true_eq] at h; exact h.1.2
def LnG (W u : World) (r : Ses) (c : Int) (ls : List Ltr) (e : Ending) (w' : World) : Prop := ∃ a k al cl, e = .returned (.tuple #[.agg #[.int .i64 r.step, .string (S r.frm.1), .string (S r.frm.2), .slice a r.to.length k, .string (S r.text), .bool r.large], .int .i64 c, .slice al ls.length cl, .int .i64 0]) /\ OwnL w' u.heap.size (.slice a r.to.length k) r.to /\ LOwnT w' u.heap.size (.slice al ls.length cl) ls /\ Below u.heap.size u w' /\ Below W.heap.size W w' /\ W.heap.size <= u.heap.size
theorem jpI {u : World} {s : Ses} {kv : Value} (hm : mayS s = true) (hl : js s known line = (r, c, ls)) (ha : AdrsM anyB u (.slice a s.to.length k) s.to) (hr : jba (.slice a s.to.length k)) (hk : TxtsM anyB u kv known) (hn : line.length <= 140737488355328) (hu : Below W.heap.size W u) :
 Calls Tryz.prog 56 #[.agg #[.int .i64 s.step, .string (S s.frm.1), .string (S s.frm.2), .slice a s.to.length k, .string (S s.text), .bool s.large], kv, .string (S line)] u (LnG W u r c ls) := by
 refine (jnm anyB s (.slice a s.to.length k) kv known line u (jpR hm) hr ha hk hn).mono ?_; rintro e w' ⟨h1, _, h3⟩; obtain ⟨v, lv, he, ho, ht⟩ := h1 hm; rw [hl] at he ho ht; simp only at he ho ht; obtain ⟨a', k', rfl⟩ := ho.slice; obtain ⟨al, cl, rfl⟩ := ht.slice; exact ⟨a', k', al, cl, he, ho, ht, h3, hu.trans (h3.mono hu.size), hu.size⟩
def SesB (w : World) (b B : Nat) (s : Ses) : Prop := ∃ a k, w.heap[b]? = some (.cells #[.int .i64 s.step, .string (S s.frm.1), .string (S s.frm.2), .slice a s.to.length k, .string (S s.text), .bool s.large] 76) /\ OwnL w B (.slice a s.to.length k) s.to
theorem jls {l : List Adr} (h : OwnL w B v l) : jba v := by
 intro a n c hv
 rcases h.2 with ⟨h1, h2⟩ | ⟨g, cap, cur, h1, hb, hg, h2, h3, h4, h5⟩
 . rw [h1] at hv; cases hv; exact ai _
 . rw [h1] at hv; cases hv; omega
theorem SesB.next {s : Ses} (h : SesB w b B s) (hb : Below w.heap.size w w') : SesB w' b B s := by
 obtain ⟨a, k, h1, h2⟩ := h; exact ⟨a, k, jW hb h1, jV h2 hb⟩
theorem SesB.from {s : Ses} (h : SesB w b B s) (hb : B' <= B) : SesB w b B' s := by
 obtain ⟨a, k, h1, h2⟩ := h; exact ⟨a, k, h1, jbp h2 hb⟩
def LnB (W : World) (r : Ses) (c : Int) (ls : List Ltr) (vp vc vl ve : Value) (wx : World) : Prop := ∃ P al cl, vp = .pointer (some ⟨P, 0, none⟩) /\ vc = .int .i64 c /\ vl = .slice al ls.length cl /\ ve = .int .i64 0 /\ W.heap.size <= P /\ SesB wx P W.heap.size r /\ LOwnT wx W.heap.size (.slice al ls.length cl) ls /\ Below W.heap.size W wx
theorem LnB.new {u : World} (h1 : OwnL w' u.heap.size (.slice a r.to.length k) r.to) (h2 : LOwnT w' u.heap.size (.slice al ls.length cl) ls) (h4 : Below W.heap.size W w') (h5 : W.heap.size <= u.heap.size) :
 LnB W r c ls (.pointer (some ⟨w'.heap.size, 0, none⟩)) (.int .i64 c) (.slice al ls.length cl) (.int .i64 0) (w'.alloc (.cells #[.int .i64 r.step, .string (S r.frm.1), .string (S r.frm.2), .slice a r.to.length k, .string (S r.text), .bool r.large] 76)) := by
 have hn : Below w'.heap.size w' (w'.alloc (.cells #[.int .i64 r.step, .string (S r.frm.1), .string (S r.frm.2), .slice a r.to.length k, .string (S r.text), .bool r.large] 76)) := nb0 _ _; exact ⟨_, al, cl, rfl, rfl, rfl, rfl, h4.size, ⟨a, k, az _ _, jV (jbp h1 h5) hn⟩, jfC (jcN h2 h5) hn, h4.alloc h4.size _⟩
theorem LnB.old {u : World} {P : Nat} (h1 : OwnL w' u.heap.size (.slice a r.to.length k) r.to) (h2 : LOwnT w' u.heap.size (.slice al ls.length cl) ls) (h4 : Below W.heap.size W w') (h5 : W.heap.size <= u.heap.size) (hP : W.heap.size <= P) (hl : P < u.heap.size) (hk : w'.heap[P]? = some (.cells #[v0, v1, v2, v3, v4, v5] 76)) :
 LnB W r c ls (.pointer (some ⟨P, 0, none⟩)) (.int .i64 c) (.slice al ls.length cl) (.int .i64 0) ((((((w'.setCell ⟨P, 0, none⟩ (.int .i64 r.step)).setCell ⟨P, 1, none⟩ (.string (S r.frm.1))).setCell ⟨P, 2, none⟩ (.string (S r.frm.2))).setCell ⟨P, 3, none⟩ (.slice a r.to.length k)).setCell ⟨P, 4, none⟩ (.string (S r.text))).setCell ⟨P, 5, none⟩ (.bool r.large)) := by
 exact ⟨_, al, cl, rfl, rfl, rfl, rfl, hP, ⟨a, k, jeA hk, jbp (zc (zc (zc (zc (zc (zc h1 hl) hl) hl) hl) hl) hl) h5⟩, jcN (zF (zF (zF (zF (zF (zF h2 hl) hl) hl) hl) hl) hl) h5, h4.trans (low7 w' _ _ _ _ _ _ hP)⟩
theorem jqM (o : Obj) : (w.alloc o).heap[w.heap.size]? = some o := az w o
theorem jh9 (K : List (List UInt8)) (Cs : List (List Cmd)) (B b : Nat) (G : List Nat) (R : Rom) (w : World) (hR : RoomM K Cs B b G R w) (i o : Nat) (hi : i < 3) (ho : o = 7 + i * 9) {Q : Nat -> Prop} (v : Value) (l : List Int) (hv : IntsM Q w v l) (hn : (R.con i).told.length + l.length <= 1000000000) :
 Calls Tryz.prog 57 #[.pointer (some ⟨b, o, none⟩), v] w (RmQ K Cs B b G w (R.put i (jbC (R.con i) l)) (.tuple #[])) := by
 obtain ⟨a, c, rfl⟩ := qx hv
 match l, hv, hn with
 | [], hv, hn =>
   rw [jod, jd3 R i hi]; exact jmc K Cs B b G R w hR i o hi ho a c (by simpa using hn)
 | x :: t, hv, hn =>
   obtain ⟨a', c', he, _, hx⟩ := hv; obtain ⟨g, q, cs, ha, _⟩ := hx 0 x rfl; simp only [aE, true_and] at he; obtain ⟨rfl, rfl⟩ := he; subst ha; refine jfZ K Cs B b G R w hR i o hi ho ⟨g, q, none⟩ c (x :: t) (by simp) hn fun j u hj => ?_
   rw [bg]; rw [ba] at hj; cases hk : (x :: t)[j]? with
   | none => rw [hk] at hj; cases hj
   | some k =>
     rw [hk] at hj; cases hj; obtain ⟨g', q', cs', ha', _, _, _, hc, rfl⟩ := hx j k hk; cases ha'; have := hc 0 _ rfl
     simpa using this
theorem jii (K : List (List UInt8)) (Cs : List (List Cmd)) (B b : Nat) (G : List Nat) (R : Rom) (w : World) (hR : RoomM K Cs B b G R w) (i o : Nat) (hi : i < 3) (ho : o = 7 + i * 9) (v : Value) (l : List Int) (hv : IntsM (AvN B b G) w v l) (q : Bool) (hn : (R.con i).told.length + l.length <= 1000000000) :
 Calls Tryz.prog 58 #[.pointer (some ⟨b, o, none⟩), v, .bool q] w (RmQ K Cs B b G w (R.put i (zi (R.con i) l q)) (.tuple #[])) := by
 cases q with
 | true =>
   obtain ⟨k1, k2⟩ := hR.due hi ho v l hv; have HF := hid (show RmQ K Cs B b G w (R.put i (zi (R.con i) l true)) (.tuple #[]) (.returned (.tuple #[])) (w.setCell ⟨b, o + 7, none⟩ v) from ⟨rfl, G, k1, k2⟩); obtain ⟨_, _, _, _, _, _, _, _, _, _, _, c7, _⟩ := hR.cells hi ho; have hz := hR.frz (o + 7); obtain ⟨a, c, rfl⟩ := qx hv; clear k1 k2 ho hv hR; go_enter Tryz.func58, Tryz.ntmps58; go_wp2; go_end0; exact HF.out
 | false =>
   have HT := hid (jh9 K Cs B b G R w hR i o hi ho v l hv hn); clear ho hv hR; go_enter Tryz.func58, Tryz.ntmps58; go_wp2_with fail; refine HT.out.mono ?_; rintro e w1 ⟨rfl, h⟩; have HF := hid (show RmQ K Cs B b G w (R.put i (zi (R.con i) l false)) (.tuple #[]) (.returned (.tuple #[])) w1 from ⟨rfl, h⟩); clear h; go_wp2; go_end0; exact HF.out
theorem jg1 (K : List (List UInt8)) (Cs : List (List Cmd)) (B b : Nat) (G : List Nat) (R : Rom) (w : World) (hR : RoomM K Cs B b G R w) (i o : Nat) (hi : i < 3) (ho : o = 7 + i * 9) (hn : (R.con i).told.length + (R.con i).due.length <= 1000000000) :
 Calls Tryz.prog 40 #[.pointer (some ⟨b, o, none⟩)] w (RmQ K Cs B b G w (R.put i (zT (R.con i))) (.tuple #[])) := by
 obtain ⟨_, _, ad, cd, _, _, _, _, _, _, _, c7, _, _, hd⟩ := hR.cells hi ho; have HT := hid (jh9 K Cs B b G R w hR i o hi ho _ _ hd hn); have HO := hid ho; clear ho hR hd; go_enter Tryz.func40, Tryz.ntmps40; go_wp2_with fail; refine HT.out.mono ?_; rintro e w1 ⟨rfl, G1, cz, hs1⟩; obtain ⟨_, _, _, _, _, _, _, _, _, _, _, d7, _⟩ := cz.cells hi HO.out; have hz := cz.frz (o + 7); obtain ⟨k1, k2⟩ := cz.due hi HO.out (.slice none 0 0) [] (jh _ _ _ _ _ _); rw [jr, zv] at k1; have HF := hid (show RmQ K Cs B b G w (R.put i (zT (R.con i))) (.tuple #[]) (.returned (.tuple #[])) (w1.setCell ⟨b, o + 7, none⟩ (.slice none 0 0)) from ⟨rfl, G1, k1, hs1.trans k2⟩); clear k1 k2 cz hs1; go_wp2; go_end0; exact HF.out
theorem jl8 (p : Option Addr) (a : Option Addr) (c : Nat) (q : Bool) (w : World) :
 Calls Tryz.prog 59 #[.pointer p, .slice a 0 c, .bool q] w fun e w' => e = .returned (.tuple #[.slice none 0 0, .bool false]) /\ w' = w := by
 go_enter Tryz.func59, Tryz.ntmps59; go_wp2
 go_loopw [8, 9, 16] (fun c q i wr => c = .slice none 0 0 /\ q = .bool false /\ i = .int .i64 0 /\ wr = w) (fun _ _ _ _ => 0)
 case atStart => exact ⟨rfl, rfl, rfl, rfl⟩
 case round =>
  obtain ⟨rfl, rfl, rfl, rfl⟩ := hrel; go_wp2; go_ret2; exact ⟨rfl, rfl⟩
theorem RoomM.names (h : RoomM K Cs B b G R w) : ∃ a c, w.cell? ⟨b, 34, none⟩ = some (.slice a K.length c) /\ TxtsM (AvN B b G) w (.slice a K.length c) K := by
 obtain ⟨X, hG, hB, hX, hM, hQ⟩ := h; obtain ⟨a, c, e⟩ := RowM.slice hQ.lo; exact ⟨a, c, hX.cell (by rw [<- e]; rfl), by rw [<- e]; exact hQ.lo⟩
theorem jnW (R : Rom) (X : Vals) (hi : i < 3) (s : Ses) (v : Value) : ((((((vW R X).set (7 + i * 9) (.int .i64 s.step)).set (7 + i * 9 + 1) (.string (S s.frm.1))).set (7 + i * 9 + 2) (.string (S s.frm.2))).set (7 + i * 9 + 3) v).set (7 + i * 9 + 4) (.string (S s.text))).set (7 + i * 9 + 5) (.bool s.large) = vW (R.put i (sesC (R.con i) s)) (X.put i ⟨v, (X.con i).d, (X.con i).l⟩) := by
 match i, hi with
 | 0, _ | 1, _ | 2, _ => rfl
theorem RoomM.ses {o : Nat} (h : RoomM K Cs B b G R w) (hi : i < 3) (ho : o = 7 + i * 9) (s : Ses) (v : Value) (hv : AdrsM (AvN B b G) w v s.to) (hr : jba v) :
 RoomM K Cs B b G (R.put i (sesC (R.con i) s)) ((((((w.setCell ⟨b, o, none⟩ (.int .i64 s.step)).setCell ⟨b, o + 1, none⟩ (.string (S s.frm.1))).setCell ⟨b, o + 2, none⟩ (.string (S s.frm.2))).setCell ⟨b, o + 3, none⟩ v).setCell ⟨b, o + 4, none⟩ (.string (S s.text))).setCell ⟨b, o + 5, none⟩ (.bool s.large)) /\
 Stp b G w G ((((((w.setCell ⟨b, o, none⟩ (.int .i64 s.step)).setCell ⟨b, o + 1, none⟩ (.string (S s.frm.1))).setCell ⟨b, o + 2, none⟩ (.string (S s.frm.2))).setCell ⟨b, o + 3, none⟩ v).setCell ⟨b, o + 4, none⟩ (.string (S s.text))).setCell ⟨b, o + 5, none⟩ (.bool s.large)) := by
 obtain ⟨X, hG, hB, hX, hM, hQ⟩ := h; have hs := ((((((Stp.refl b G w).box o (.int .i64 s.step)).box (o + 1) (.string (S s.frm.1))).box (o + 2) (.string (S s.frm.2))).box (o + 3) v).box (o + 4) (.string (S s.text))).box (o + 5) (.bool s.large); have e := jcR R X hi (c := sesC (R.con i) s) (x := ⟨v, (X.con i).d, (X.con i).l⟩) rfl rfl; have hc := (hQ.stp hs).con hi; exact ⟨⟨X.put i ⟨v, (X.con i).d, (X.con i).l⟩, by rw [e]; exact hG, hB, ((((((hX.put _ _).put _ _).put _ _).put _ _).put _ _).put _ _).ty (by rw [ho]; exact jnW R X hi s v), by rw [e]; exact (((((hM.box _ _).box _ _).box _ _).box _ _).box _ _).box _ _, (hQ.stp hs).put hi ⟨hv.stp hs, hr, hc.du⟩⟩, hs⟩
theorem jbd (h : RoomM K Cs B b G R w) (hk : w.heap.size <= k) : Av b G k := by
 obtain ⟨h1, _, h3⟩ := h.lt; exact ⟨by omega, fun e => by have := (h3 k e).2; omega⟩
theorem LtrsM.stp {b : Nat} {G G' : List Nat} {w w' : World} {v : Value} {l : List Ltr} (h : LtrsM (Av b G) w v l) (hs : Stp b G w G' w') : LtrsM (Av b G') w' v l := RowM.stp h hs fun _ _ h => h
def TkQ (K : List (List UInt8)) (Cs : List (List Cmd)) (B b : Nat) (G : List Nat) (w : World) (R : Rom) (l : List Int) (q : Bool) (e : Ending) (w' : World) : Prop :=
 ∃ v G', e = .returned (.tuple #[v, .bool q]) /\ RoomM K Cs B b G' R w' /\ Stp b G w G' w' /\ IntsM (AvN B b G') w' v l
def lnC (c : Con) (r : Ses) (co : Int) : Con := jme (sesC c r) co
theorem jh2 (K : List (List UInt8)) (Cs : List (List Cmd)) (B b : Nat) (G : List Nat) (R : Rom) (w : World) (hR : RoomM K Cs B b G R w) (i o : Nat) (hi : i < 3) (ho : o = 7 + i * 9) (line : List UInt8) (hlen : line.length <= 140737488355328) (s r : Ses) (hs : s = (R.con i).ses) (hm : mayS s = true) (co : Int) (ls : List Ltr) (hl : js s K line = (r, co, ls)) (wy : r.to.length <= 5) (ow : ls.length <= 5) (hn : (R.con i).told.length + 1 <= 1000000000)
 (R3 : Rom) (codes : List Int) (q : Bool) (lj : (R3.con i).told.length + codes.length <= 1000000000)
 (hT : ∀ (G' : List Nat) (w' : World) (v : Value), Below B w w' -> RoomM K Cs B b G' (R.put i (lnC (R.con i) r co)) w' -> LtrsM (Av b G') w' v ls -> Calls Tryz.prog 59 #[.pointer (some ⟨b, 0, none⟩), v, .bool s.large] w' (TkQ K Cs B b G' w' R3 codes q)) :
 Calls Tryz.prog 38 #[.pointer (some ⟨b, 0, none⟩), .pointer (some ⟨b, o, none⟩), .string (S line)] w (RmQ K Cs B b G w (R3.put i (jbo (zi (R3.con i) codes q) r.step)) (.tuple #[])) := by
 obtain ⟨at_, ct, ad, cd, c0, c1, c2, c3, c4, c5, _, _, hA, hY, _⟩ := hR.cells hi ho; obtain ⟨al, cl, c34, fV⟩ := hR.names; rw [<- hs] at c0 c1 c2 c3 c4 c5 hA hY; have HR := hid hR; have HO := hid ho; have HT := hid hT; have eo := hid (fun (u : World) (hu : Below w.heap.size w u) => jpI (W := w) hm hl (hA.any.next hu) hY ((fV.imp (fun _ _ => trivial) (Keeps.refl _ _)).next hu) hlen hu); have HC := hid (show ∀ u, Below w.heap.size w u -> u.cell? ⟨b, o, none⟩ = some (.int .i64 s.step) /\ u.cell? ⟨b, o + 1, none⟩ = some (.string (S s.frm.1)) /\ u.cell? ⟨b, o + 2, none⟩ = some (.string (S s.frm.2)) /\ u.cell? ⟨b, o + 3, none⟩ = some (.slice at_ s.to.length ct) /\ u.cell? ⟨b, o + 4, none⟩ = some (.string (S s.text)) /\ u.cell? ⟨b, o + 5, none⟩ = some (.bool s.large) /\ u.cell? ⟨b, 34, none⟩ = some (.slice al K.length cl) from
  fun u hu => ⟨ja c0 hu, ja c1 hu, ja c2 hu, ja c3 hu, ja c4 hu, ja c5 hu, ja c34 hu⟩)
 have HN := hid hn; have fm := hid lj; clear hR ho hA hY fV hm hl hn hs hT lj; go_enter Tryz.func38, Tryz.ntmps38; go_upto_region 1 with fail
 go_cut [7, 8, 9, 10] (fun vp vc vl ve wx => LnB w r co ls vp vc vl ve wx)
 case first =>
  go_region_held3 (fun u => u.cell? ⟨b, o, none⟩ = some (.int .i64 s.step) /\ u.cell? ⟨b, o + 1, none⟩ = some (.string (S s.frm.1)) /\ u.cell? ⟨b, o + 2, none⟩ = some (.string (S s.frm.2)) /\ u.cell? ⟨b, o + 3, none⟩ = some (.slice at_ s.to.length ct) /\ u.cell? ⟨b, o + 4, none⟩ = some (.string (S s.text)) /\ u.cell? ⟨b, o + 5, none⟩ = some (.bool s.large) /\ u.cell? ⟨b, 34, none⟩ = some (.slice al K.length cl))
   (first | (refine HC.out _ ?_; (repeat (first | with_reducible exact sN.out | with_reducible exact ay _ _ | with_reducible refine Below.drew ?_ | with_reducible refine Below.alloc ?_ (by first | exact ai _ | exact BI.out | (simp <;> omega) | simp) _ | with_reducible refine Below.setCell ?_ (by first | exact ai _ | (simp <;> omega) | simp) _))) | fail)
   (first
        | (go_at_call 56
           refine (eo.out _ ?_).mono ?_
           . repeat (first | exact ay _ _ | refine Below.drew ?_ | refine Below.alloc ?_ (by first | exact ai _ | simp) _)
           rintro e w8 ⟨a8, k8, bl, ml, rfl, yG, yU, pF, ui, Af⟩; have oY := hid yG; have xt := hid yU; have sN := hid ui; have BI := hid ui.size; have xu := hid Af
           first
            | (have xg : Hid (w8.heap[w.heap.size]? = some (.cells #[.int .i64 0, .string ⟨#[]⟩, .string ⟨#[]⟩, .slice none 0 0, .string ⟨#[]⟩, .bool false] 76)) := hid (jW pF (jkk (jqM _))); have sw := xg.out; obtain ⟨g0, g1, g2, g3, g4, g5⟩ := jg7 sw; obtain ⟨x0, x1, x2, x3, x4, x5⟩ := qb sw; clear sw)
            | skip
           clear yG yU ui pF Af)
        | fail)
  all_goals
   first
        | (have HE := hid (LnB.old (c := co) oY.out xt.out sN.out xu.out (by first | exact ai _ | omega) (by first | (simp; done) | (simp; omega)) xg.out)
           go_wp2_with fail
           go_meet
           exact HE.out)
        | (have HE := hid (LnB.new (c := co) oY.out xt.out sN.out xu.out)
           go_wp2_with fail
           go_meet
           exact HE.out)
        | fail
 case rest =>
  obtain ⟨P, bl, ml, rfl, rfl, rfl, rfl, hP, ⟨ra, rk, uz, uw⟩, yg, hb⟩ := hcut; obtain ⟨W1, rfl⟩ : ∃ W, W = wc := ⟨_, rfl⟩; have cz := HR.out.next hb; have hz := cz.frz; obtain ⟨z0, z1, z2, z3, z4, z5⟩ : W1.frozen? ⟨b, o, none⟩ = false /\ W1.frozen? ⟨b, o + 1, none⟩ = false /\ W1.frozen? ⟨b, o + 2, none⟩ = false /\ W1.frozen? ⟨b, o + 3, none⟩ = false /\ W1.frozen? ⟨b, o + 4, none⟩ = false /\ W1.frozen? ⟨b, o + 5, none⟩ = false := ⟨hz _, hz _, hz _, hz _, hz _, hz _⟩; obtain ⟨d0, d1, d2, d3, d4, d5, _⟩ := HC.out W1 hb; obtain ⟨q0, q1, q2, q3, q4, q5⟩ := qb uz; have yX : AdrsM (AvN B b G) W1 (.slice ra r.to.length rk) r.to := RowM.imp (OwnL.row uw (by unfold maxLen; omega)) (fun k hk => ⟨by have := HR.out.lt; omega, jbd HR.out hk⟩) (Keeps.refl _ _) fun _ _ h => h
  have yY : LtrsM (Av b G) W1 (.slice bl ls.length ml) ls := RowM.imp (LOwnT.row yg (by unfold maxLen; omega)) (fun k hk => jbd HR.out hk) (Keeps.refl _ _) fun _ _ h => h
  obtain ⟨k1, k2⟩ := cz.ses hi HO.out r _ yX (jls uw); have pC : Av b G P := jbd HR.out hP; have r8 : P < W1.heap.size := (aj.1 uz).1; obtain ⟨W2, hW2⟩ : ∃ W2, W2 = ((((((W1.setCell ⟨b, o, none⟩ (.int .i64 r.step)).setCell ⟨b, o + 1, none⟩ (.string (S r.frm.1))).setCell ⟨b, o + 2, none⟩ (.string (S r.frm.2))).setCell ⟨b, o + 3, none⟩ (.slice ra r.to.length rk)).setCell ⟨b, o + 4, none⟩ (.string (S r.text))).setCell ⟨b, o + 5, none⟩ (.bool r.large)) := ⟨_, rfl⟩; rw [<- hW2] at k1 k2; have mW := hid (show Stp b G w G W2 from (Stp.of hb).trans k2); have rI := hid k1; have BB := hid (yY.stp k2); have HP := hid (show ∀ (G' : List Nat) (w' : World), Stp b G W2 G' w' -> w'.cell? ⟨P, 0, none⟩ = some (.int .i64 r.step) from fun G' w' h => (aP ((k2.trans h).block P r8 pC)).trans q0); have dH := hid hW2; have ly := hid (show ∀ (G3 : List Nat) (w3 : World), RoomM K Cs B b G3 (R.put i (lnC (R.con i) r co)) w3 -> Stp b G W2 G3 w3 -> Calls Tryz.prog 59 #[.pointer (some ⟨b, 0, none⟩), .slice bl ls.length ml, .bool s.large] w3 (TkQ K Cs B b G3 w3 R3 codes q) from fun G3 w3 h1 h2 => HT.out G3 w3 _ (HR.out.low (mW.out.trans h2)) h1 (BB.out.stp h2)); have ln := hid (show ∀ (G4 : List Nat) (w4 : World) (v : Value), RoomM K Cs B b G4 R3 w4 -> IntsM (AvN B b G4) w4 v codes -> Calls Tryz.prog 58 #[.pointer (some ⟨b, o, none⟩), v, .bool q] w4 (RmQ K Cs B b G4 w4 (R3.put i (zi (R3.con i) codes q)) (.tuple #[])) from fun G4 w4 v h1 h2 => jii K Cs B b G4 R3 w4 h1 i o hi HO.out v codes h2 q fm.out); have oP := hid (show ∀ (G4 : List Nat) (w4 : World), RoomM K Cs B b G4 (R3.put i (zi (R3.con i) codes q)) w4 -> Stp b G W2 G4 w4 -> w4.cell? ⟨P, 0, none⟩ = some (.int .i64 r.step) /\ (r.step = 5 -> Calls Tryz.prog 36 #[.pointer (some ⟨b, o, none⟩), .int .i64 5] w4 (RmQ K Cs B b G w (R3.put i (jbo (zi (R3.con i) codes q) r.step)) (.tuple #[]))) /\
        (¬ r.step = 5 -> RmQ K Cs B b G w (R3.put i (jbo (zi (R3.con i) codes q) r.step)) (.tuple #[]) (.returned (.tuple #[])) w4) from fun G4 w4 h1 h2 => by
   refine ⟨HP.out G4 w4 h2, fun h5 => ?_, fun h5 => ?_⟩
   . refine (jcv K Cs B b G4 _ w4 h1 i o hi HO.out 5).mono fun e w5 h => ?_
     rw [jr, zv] at h; unfold jbo; rw [if_pos h5]; exact RmQ.trans (mW.out.trans h2) h
   . unfold jbo; rw [if_neg h5]; exact ⟨rfl, G4, h1, mW.out.trans h2⟩)
  clear cz hz yX yY k1 k2 pC hb uz uw yg c34 eo HC HT hW2 c0 c1 c2 c3 c4 c5
  by_cases fW : co = 0
  . have fk := hid (show RoomM K Cs B b G (R.put i (lnC (R.con i) r co)) W2 from by unfold lnC jme; rw [if_pos fW]; exact rI.out); have hcb : (co == 0) = true := by simp [fW]
    clear fW; go_wp2_with fail; rw [<- dH.out]; refine (ly.out G W2 fk.out (Stp.refl _ _ _)).mono ?_; rintro e w4 ⟨v4, G4, rfl, cK, eT, ko⟩; have dK := hid (Stp.trans (show Stp b G W2 G W2 from (Stp.refl _ _ _)) eT); have oC := hid (ln.out G4 w4 v4 cK ko); obtain ⟨a4, c4, rfl⟩ := qx ko; clear cK eT ko ly ln; go_wp2_with fail; refine oC.out.mono ?_; rintro e w5 ⟨rfl, G5, dL, hs5⟩; obtain ⟨hp, hy, hno⟩ := oP.out G5 w5 dL (dK.out.trans hs5); have HY := hid hy; have oX := hid hno; clear dL hs5 hy hno
    by_cases h5 : r.step = 5
    . have h5b : (r.step == 5) = true := by simp [h5]
      have lC := hid (HY.out h5); clear h5; go_wp2_with fail; refine lC.out.mono ?_; rintro e w6 ⟨rfl, hq⟩; have HQ := hid hq; clear hq; go_wp2; go_end0; exact ⟨rfl, HQ.out⟩
    . have h5b : (r.step == 5) = false := by simp [h5]
      have HF := hid (oX.out h5); clear h5; go_wp2; go_end0; exact HF.out
  . have hcb : (co == 0) = false := by simp [fW]
    have AT := hid (show lnC (R.con i) r co = jbC (sesC (R.con i) r) [co] by unfold lnC jme; rw [if_neg fW]); have Bt := hid (fun (c : Nat) (hc : ∀ j u, ([co].map fun k => Value.int .i64 k)[j]? = some u -> (W2.alloc (.cells #[.int .i64 co] 3)).cell? ((⟨W2.heap.size, 0, none⟩ : Addr).add j) = some u) => jfZ K Cs B b G (R.put i (sesC (R.con i) r)) (W2.alloc (.cells #[.int .i64 co] 3)) (rI.out.next (nb0 _ _)) i o hi HO.out ⟨W2.heap.size, 0, none⟩ c [co] (by simp) (by rw [jr]; exact HN.out) hc); have hz2 : W2.heap.size = W1.heap.size := by rw [dH.out]; simp [World.setCell]
    have eI := hid hz2; clear hz2; clear fW; go_wp2_with fail; rw [<- dH.out]
    try rw [<- eI.out]
    refine (Bt.out 1 (qk W2 [.int .i64 co] _)).mono ?_; rintro e w3 ⟨rfl, G3, cB, hs3⟩; rw [jr, zv, <- AT.out] at cB; have fk := hid cB; have dv := hid (show Stp b G W2 G3 w3 from (Stp.of ((ay _ _).alloc (ai _) (.cells #[.int .i64 co] 3))).trans hs3); clear cB hs3; go_wp2_with fail; refine (ly.out G3 w3 fk.out dv.out).mono ?_; rintro e w4 ⟨v4, G4, rfl, cK, eT, ko⟩; have dK := hid (Stp.trans (show Stp b G W2 G3 w3 from dv.out) eT); have oC := hid (ln.out G4 w4 v4 cK ko); obtain ⟨a4, c4, rfl⟩ := qx ko; clear cK eT ko ly ln; go_wp2_with fail; refine oC.out.mono ?_; rintro e w5 ⟨rfl, G5, dL, hs5⟩; obtain ⟨hp, hy, hno⟩ := oP.out G5 w5 dL (dK.out.trans hs5); have HY := hid hy; have oX := hid hno; clear dL hs5 hy hno
    by_cases h5 : r.step = 5
    . have h5b : (r.step == 5) = true := by simp [h5]
      have lC := hid (HY.out h5); clear h5; go_wp2_with fail; refine lC.out.mono ?_; rintro e w6 ⟨rfl, hq⟩; have HQ := hid hq; clear hq; go_wp2; go_end0; exact ⟨rfl, HQ.out⟩
    . have h5b : (r.step == 5) = false := by simp [h5]
      have HF := hid (oX.out h5); clear h5; go_wp2; go_end0; exact HF.out
def jiQ (b o : Nat) (w : World) : Nat := match w.cell? ⟨b, o + 6, none⟩ with
 | some (.string s) => s.size
 | _ => 0
theorem jeu {rd : Rom -> List UInt8 -> List UInt8 -> Rom} (h : ((R.con i).due.isEmpty && (Lib.cut (R.con i).held [13, 10]).2.2) = false) : runW rd i n R = R.put i (endC (R.con i)) := by
 cases n with
 | zero => rfl
 | succ n => simp only [runW]; rw [if_neg (by rw [h]; decide)]
theorem jmV {x y : List UInt8} (h : Lib.cut s [13, 10] = (x, y, true)) : y.length < s.length := by
 have h1 : jY s = true := by
  cases h0 : jY s with
  | true => rfl
  | false => rw [jhE h0] at h; cases h
 have := jqw h1; rw [h] at this; exact this
theorem jox (K : List (List UInt8)) (Cs : List (List Cmd)) (B b : Nat) (G : List Nat) (R : Rom) (w : World) (hR : RoomM K Cs B b G R w) (i o : Nat) (hi : i < 3) (ho : o = 7 + i * 9) (rd : Rom -> List UInt8 -> List UInt8 -> Rom) (Inv : Rom -> Prop) (hI : Inv R) (hM : ∀ w', Below B w w' -> maxLenCell w')
 (xR : ∀ R', Inv R' -> (R'.con i).held.length <= 1000000000)
 (yR : ∀ (R' : Rom) (G' : List Nat) (w' : World) (x y : List UInt8), Inv R' -> (R'.con i).due = [] -> Lib.cut (R'.con i).held [13, 10] = (x, y, true) -> Below B w w' -> RoomM K Cs B b G' (R'.put i (ja7 (R'.con i) y)) w' ->
   Inv (rd R' x y) /\ ((rd R' x y).con i).held.length <= y.length /\ Calls Tryz.prog 38 #[.pointer (some ⟨b, 0, none⟩), .pointer (some ⟨b, o, none⟩), .string (S x)] w' (RmQ K Cs B b G' w' (rd R' x y) (.tuple #[])))
 (n : Nat) (hn : (R.con i).held.length <= n) :
 Calls Tryz.prog 24 #[.pointer (some ⟨b, 0, none⟩), .pointer (some ⟨b, o, none⟩)] w (RmQ K Cs B b G w (runW rd i n R) (.tuple #[])) := by
 have HR := hid hR; have HO := hid ho; have iz := hid yR; have HM := hid hM; have cR := hid xR; have HI := hid hI; clear hR ho yR hM xR hI; go_enter Tryz.func24, Tryz.ntmps24; go_wp2
 go_loopw [4, 5] (fun v4 v5 wr => ∃ (m : Nat) (R' : Rom) (G' : List Nat), Hid (Inv R') /\ Hid (RoomM K Cs B b G' R' wr) /\ Hid (Stp b G w G' wr) /\ Hid ((R'.con i).held.length <= m) /\ Hid (runW rd i m R' = runW rd i n R)) (fun _ _ wr => jiQ b o wr)
 case atStart => exact ⟨n, R, G, HI, HR, hid (Stp.refl _ _ _), hid hn, hid rfl⟩
 case round =>
  obtain ⟨m, R', G', tb, tH, rQ, xj, wZ⟩ := hrel; obtain ⟨_, _, _, _, _, _, _, _, _, _, c6, _⟩ := tH.out.cells hi HO.out; have BC := hid (show jiQ b o wr = (R'.con i).held.length by unfold jiQ; rw [c6]; exact jb _); have ka := HR.out.low rQ.out; have iR := hid (HM.out wr ka); obtain ⟨x, y, q, mE⟩ : ∃ x y q, Lib.cut (R'.con i).held [13, 10] = (x, y, q) := ⟨_, _, _, rfl⟩
  by_cases hy : (R'.con i).due = [] /\ q = true
  . obtain ⟨hd, rfl⟩ := hy; have nQ := hid (jnB K Cs B b G' R' wr tH.out i o hi HO.out iR.out (cR.out R' tb.out) hd x y mE); have iO := hid (jmV mE); have HST := hid (show ∀ (G2 : List Nat) (w2 : World), RoomM K Cs B b G2 (R'.put i (ja7 (R'.con i) y)) w2 -> Stp b G' wr G2 w2 -> Inv (rd R' x y) /\ ((rd R' x y).con i).held.length <= y.length /\ Calls Tryz.prog 38 #[.pointer (some ⟨b, 0, none⟩), .pointer (some ⟨b, o, none⟩), .string (S x)] w2 (RmQ K Cs B b G2 w2 (rd R' x y) (.tuple #[])) from fun G2 w2 h1 h2 => iz.out R' G2 w2 x y tb.out hd mE (HR.out.low (rQ.out.trans h2)) h1); have xv := hid (show ∃ m', m = m' + 1 /\ runW rd i m' (rd R' x y) = runW rd i n R from by
        have hl := xj.out; have hc := iO.out; obtain ⟨m', rfl⟩ : ∃ m', m = m' + 1 := ⟨m - 1, by omega⟩; refine ⟨m', rfl, ?_⟩; have he := wZ.out; simp only [runW] at he; rw [if_pos (by rw [hd, mE]; rfl), mE] at he; exact he)
    clear hd mE c6 ka; go_wp2_with fail; refine nQ.out.mono ?_; rintro e w2 ⟨rfl, G2, cA, hs2⟩; obtain ⟨xQ, hL2, nj⟩ := HST.out G2 w2 cA hs2; have iP := hid xQ; have dl := hid hL2; have fZ := hid nj; have cJ := hid (rQ.out.trans hs2); clear cA hs2 xQ hL2 nj; go_wp2_with fail; refine fZ.out.mono ?_; rintro e w3 ⟨rfl, G3, cB, hs3⟩; obtain ⟨_, _, _, _, _, _, _, _, _, _, d6, _⟩ := cB.cells hi HO.out; have cP := hid (show jiQ b o w3 < jiQ b o wr by
        rw [BC.out]; unfold jiQ; rw [d6]; have h1 := dl.out; have h2 := iO.out
        show (S _).size < _
        rw [jb]; omega)
    have cT := hid cB; have dv := hid (cJ.out.trans hs3); have tT := hid (show ∃ m', ((rd R' x y).con i).held.length <= m' /\ runW rd i m' (rd R' x y) = runW rd i n R by
        obtain ⟨m', rfl, he⟩ := xv.out; refine ⟨m', ?_, he⟩; have h1 := dl.out; have h2 := iO.out; have h3 := xj.out; omega)
    clear cB hs3 d6 xv HST nQ; go_wp2
    go_roundw
    case rel =>
        obtain ⟨m', h1, h2⟩ := tT.out; exact ⟨m', _, G3, iP, cT, dv, hid h1, hid h2⟩
    case measure => exact cP.out
  . have hno : (R'.con i).due ≠ [] ∨ Lib.cut (R'.con i).held [13, 10] = (x, y, false) := by
        by_cases hd : (R'.con i).due = []
        . right
          cases q with
          | true => exact absurd ⟨hd, rfl⟩ hy
          | false => exact mE
        . exact .inl hd
    have nQ := hid (jpU K Cs B b G' R' wr tH.out i o hi HO.out iR.out (cR.out R' tb.out) x y hno); have dk := hid (show runW rd i n R = R'.put i (endC (R'.con i)) by
        rw [<- wZ.out]; refine jeu ?_
        rcases hno with h | h
        . cases hd : (R'.con i).due with
          | nil => exact absurd hd h
          | cons a l => rfl
        . rw [h]; simp)
    clear hno hy mE c6 ka; go_wp2_with fail; refine nQ.out.mono ?_; rintro e w2 ⟨rfl, G2, cA, hs2⟩; have cJ := hid (rQ.out.trans hs2); obtain ⟨_, _, _, _, _, _, _, _, _, _, d6, _⟩ := cA.cells hi HO.out; have sO := hid (jcv K Cs B b G2 R' w2 cA i o hi HO.out 5); have cD := hid cA; clear cA hs2
    by_cases gK : 3000 < (R'.con i).held.length
    . have AB := hid (show runW rd i n R = R'.put i (jbe (R'.con i) 5) by rw [dk.out]; unfold endC; rw [if_pos gK]); have hsz : (3000 : Int) < ((S (R'.con i).held).size : Nat) := by rw [jb]; omega
      clear gK; go_wp2_with fail; refine sO.out.mono ?_; rintro e w3 ⟨rfl, G3, cB, hs3⟩; have HF := hid (show RmQ K Cs B b G w (runW rd i n R) (.tuple #[]) (.returned (.tuple #[])) w3 from ⟨rfl, G3, by rw [AB.out]; exact cB, cJ.out.trans hs3⟩); clear cB hs3; go_wp2; go_end0; exact HF.out
    . have HF := hid (show RmQ K Cs B b G w (runW rd i n R) (.tuple #[]) (.returned (.tuple #[])) w2 from ⟨rfl, G2, by rw [dk.out]; unfold endC; rw [if_neg gK, jd3 R' i hi]; exact cD.out, cJ.out⟩); have hsz : ¬ (3000 : Int) < ((S (R'.con i).held).size : Nat) := by rw [jb]; omega
      clear gK; go_wp2; go_end0; exact HF.out
theorem MOk.put {g c : Nat} {A Z : List MRow} {r : MRow} (h : MOk w B b (A ++ r :: Z)) (hv : r.v = .slice (some ⟨g, 0, none⟩) r.n c) (j : Nat) (u : Value) :
 MOk (w.setCell ⟨g, j, none⟩ u) B b (A ++ ⟨r.e, r.k, r.v, r.n, r.xs.set j u⟩ :: Z) /\ Stp b (mB (A ++ r :: Z)) w (mB (A ++ ⟨r.e, r.k, r.v, r.n, r.xs.set j u⟩ :: Z)) (w.setCell ⟨g, j, none⟩ u) := by
 have h1 := h.own r (by simp); obtain ⟨e, k, v, n, xs⟩ := r; have hv' : v = .slice (some ⟨g, 0, none⟩) n c := hv; subst hv'; exact h.grow (H := w.heap.size) (r' := ⟨e, k, .slice (some ⟨g, 0, none⟩) n c, n, xs.set j u⟩) ⟨rfl, rfl, rfl, by simp [World.setCell], fun i hi hne => aC _ _ _ _ (fun e => hne (by rw [e]; rfl))⟩ (jcq h1 j u) (ai _) (fun g' e => .inl e)
theorem joN {e : Nat} {xs : List Value} (h : w.ownsRow B e k v n xs) (hn : 0 < n) : ∃ g c cur, v = .slice (some ⟨g, 0, none⟩) n c /\ w.heap[g]? = some (.cells cur e) /\ ∀ j u, xs[j]? = some u -> w.cell? ⟨g, j, none⟩ = some u := by
 rcases h.2 with ⟨_, h0⟩ | ⟨g, cap, cur, hv, hB, hg, hx⟩
 . omega
 . subst hv; refine ⟨g, cap, cur, rfl, hg, fun j u hj => ?_⟩; have := bD h (g := g) rfl j u hj; rw [bg] at this
   simpa using this
theorem jn4 (a : Option Addr) (c : Nat) (l : List UInt8) (s : Int) (Q : Nat -> Prop) (w : World) (h : BysM Q w (.slice a l.length c) l) :
 Calls Tryz.prog 60 #[.agg #[.slice a l.length c, .int .i64 s]] w (if mayN l.length s then TpP w l l.length 0 else TpP w [] 0 11) := by
 obtain ⟨W1, hW1⟩ : ∃ W1, W1 = (w.alloc (.cells #[.slice a l.length c, .int .i64 s] 68)).alloc (.cells #[.slice none 0 0, .int .i64 0] 68) := ⟨_, rfl⟩; have b9 := bhid hW1; have bX := bhid (show Below w.heap.size w W1 by rw [hW1]; exact jmf _ _ _); have lQ : W1.heap[w.heap.size]? = some (.cells #[.slice a l.length c, .int .i64 s] 68) := by rw [hW1]; exact (jeJ w _ _).1
 have oA : W1.heap[w.heap.size + 1]? = some (.cells #[.slice none 0 0, .int .i64 0] 68) := by rw [hW1]; exact (jeJ w _ _).2
 have HP := bhid lQ; have HR := bhid oA; obtain ⟨x0, x1, _, _⟩ := zj lQ; have HH := bhid (h.next bX.out); cases hm : mayN l.length s with
 | false =>
   rw [if_neg (by simp)]; have HM := bhid hm; clear hm h lQ oA hW1; go_enter Tryz.func60, Tryz.ntmps60; go_wp2_with fail; rw [<- b9.out]; refine (jeH a l.length c s W1).mono ?_; rintro e w2 ⟨rfl, hb⟩; rw [HM.out]; obtain ⟨y0, y1, f0, f1⟩ := zj (qJ hb HR.out); obtain ⟨z0, z1, _, _⟩ := zj (jj0 (u0 := .slice none 0 0) (u1 := .int .i64 0) (qJ hb HR.out)); have HE := bhid (TpP.refused w w2 11 (w.heap.size + 1) (Nat.le_succ _) (bX.out.trans (hb.mono bX.out.size))); clear hb; go_wp2; refine aD (v := .tuple #[.agg #[.slice none 0 0, .int .i64 0], .int .i64 11]) (by simp [results, Tryz.results60, go_sem, *]) rfl ?_; exact HE.out
 | true =>
   rw [if_pos rfl]; have HM := bhid hm; have hl : l.length <= 140737488355328 := by
    unfold mayN at hm
    simp at hm
    omega
   clear hm h lQ oA hW1; go_enter Tryz.func60, Tryz.ntmps60; go_wp2_with fail; rw [<- b9.out]; refine (jeH a l.length c s W1).mono ?_; rintro e w2 ⟨rfl, hb⟩; rw [HM.out]; have oe := qJ hb HP.out; have cA := qJ hb HR.out; obtain ⟨y0, y1, _, _⟩ := zj oe; have bY := bhid (bX.out.trans (hb.mono bX.out.size)); have HC := bhid (fun (u : World) (hu : Below w2.heap.size w2 u) => jhC a c l Q u ((HH.out.next hb).next hu) hl); have dN := bhid oe; have cD := bhid cA; clear hb oe cA x0 x1 hl; go_upto_region 3 with fail
   go_region_held3 (fun w' => w'.cell? ⟨w.heap.size, 0, none⟩ = some (.slice a l.length c) /\ w'.cell? ⟨w.heap.size, 1, none⟩ = some (.int .i64 s)) (go_keep)
    (first
        | (go_at_call 89
           with_reducible refine (HC.out w2.drew (ay _ _).drew).mono ?_
           rintro e w3 ⟨a3, c3, rfl, dC, hb3⟩; have ki : Below w2.heap.size w2 w3 := (ay _ _).drew.trans hb3; obtain ⟨z0, z1, _, _⟩ := zj (qJ ki dN.out); obtain ⟨r0, r1, f0, f1⟩ := zj (qJ ki cD.out); obtain ⟨q0, q1, _, _⟩ := zj (jj0 (u0 := .slice a3 l.length c3) (u1 := .int .i64 l.length) (qJ ki cD.out)); have HE := bhid (TpP.done (s := l.length) (p := w.heap.size + 1) (Nat.le_succ _) (aj.1 cD.out).1 bY.out (show TpC w2 l (.returned (.slice a3 l.length c3)) w3 from ⟨a3, c3, rfl, dC, ki⟩)); clear dC hb3 ki)
        | fail)
   all_goals
    go_wp2; refine aD (v := .tuple #[.agg #[.slice a3 l.length c3, .int .i64 l.length], .int .i64 0]) (by simp [results, Tryz.results60, go_sem, *]) rfl ?_; exact HE.out
def jg8 (R : Rom) : Rom := ⟨R.up, R.tape, R.tsyn, R.syn + R.waits, 0, R.states, R.states, R.c0, R.c1, R.c2, R.orders, R.due⟩
def jli (R : Rom) (x y : Int) : Rom := ⟨R.up, R.tape, R.tsyn, x, y, R.safe, R.states, R.c0, R.c1, R.c2, R.orders, R.due⟩
def jdi (R : Rom) (t : List UInt8) (s : Int) : Rom := ⟨R.up, t, s, R.syn, R.waits, R.safe, R.states, R.c0, R.c1, R.c2, R.orders, R.due⟩
def zq (R : Rom) : Rom := jg8 (jdi R R.tape R.tape.length)
def RmS (K : List (List UInt8)) (Cs : List (List Cmd)) (B b : Nat) (G : List Nat) (R : Rom) (w wx : World) : Prop := RoomM K Cs B b G R wx /\ Stp b G w G wx
theorem RmS.num (h : RoomM K Cs B b G R w) (x y : Int) : RmS K Cs B b G (jli R x y) w ((w.setCell ⟨b, 3, none⟩ (.int .i64 x)).setCell ⟨b, 4, none⟩ (.int .i64 y)).drew := by
 obtain ⟨X, hG, hB, hX, hM, hQ⟩ := h; have hs := (((Stp.refl b G w).box 3 (.int .i64 x)).box 4 (.int .i64 y)); have hs' : Stp b G w G ((w.setCell ⟨b, 3, none⟩ (.int .i64 x)).setCell ⟨b, 4, none⟩ (.int .i64 y)).drew := hs.trans (.of (ay _ _).drew); have q := hQ.stp hs'; exact ⟨⟨X, hG, hB, (((hX.put 3 (.int .i64 x)).put 4 (.int .i64 y)).next (ay _ _).drew).ty rfl, ((hM.box 3 (.int .i64 x)).box 4 (.int .i64 y)).next (ay _ _).drew, q.k0, q.k1, q.k2, q.lo, q.sc, q.sf, q.sv, q.os, q.td⟩, hs'⟩
theorem RmS.num' (h : RoomM K Cs B b G R w) (x y : Int) : RmS K Cs B b G (jli R x y) w ((w.setCell ⟨b, 4, none⟩ (.int .i64 y)).setCell ⟨b, 3, none⟩ (.int .i64 x)).drew := by
 obtain ⟨X, hG, hB, hX, hM, hQ⟩ := h; have hs := (((Stp.refl b G w).box 4 (.int .i64 y)).box 3 (.int .i64 x)); have hs' : Stp b G w G ((w.setCell ⟨b, 4, none⟩ (.int .i64 y)).setCell ⟨b, 3, none⟩ (.int .i64 x)).drew := hs.trans (.of (ay _ _).drew); have q := hQ.stp hs'; exact ⟨⟨X, hG, hB, (((hX.put 4 (.int .i64 y)).put 3 (.int .i64 x)).next (ay _ _).drew).ty rfl, ((hM.box 4 (.int .i64 y)).box 3 (.int .i64 x)).next (ay _ _).drew, q.k0, q.k1, q.k2, q.lo, q.sc, q.sf, q.sv, q.os, q.td⟩, hs'⟩
theorem RoomM.ledger (h : RoomM K Cs B b G R w) : ∃ at_ ct vf g cs vs, w.cell? ⟨b, 1, none⟩ = some (.slice at_ R.tape.length ct) /\ w.cell? ⟨b, 2, none⟩ = some (.int .i64 R.tsyn) /\ w.cell? ⟨b, 3, none⟩ = some (.int .i64 R.syn) /\ w.cell? ⟨b, 4, none⟩ = some (.int .i64 R.waits) /\ w.cell? ⟨b, 5, none⟩ = some vf /\ w.cell? ⟨b, 6, none⟩ = some vs /\
 BysM (AvN B b G) w (.slice at_ R.tape.length ct) R.tape /\ (0 < R.states.length -> vs = .slice (some ⟨g, 0, none⟩) R.states.length cs /\ g ≠ b) := by
 obtain ⟨X, hG, hB, hX, hM, hQ⟩ := h; obtain ⟨at_, ct, e, _, _⟩ := hQ.td.slice; have hown := hM.own (sttR X.st X.sv) (by simp [j2]); have hst : ∃ g cs, 0 < R.states.length -> X.st = .slice (some ⟨g, 0, none⟩) R.states.length cs /\ g ≠ b := by
  rcases hown.2 with ⟨_, h0⟩ | ⟨g, cap, cur, hv, _⟩
  . exact ⟨0, 0, fun h => by have h0 : X.sv.length = 0 := h0; rw [hQ.sv.1] at h0; omega⟩
  . have hv : X.st = .slice (some ⟨g, 0, none⟩) X.sv.length cap := hv; exact ⟨g, cap, fun _ => ⟨by rw [hv, hQ.sv.1], fun e => hM.far (bu.2 ⟨sttR X.st X.sv, by simp [j2], by show X.st.ownBlock = _; rw [hv, <- e]; rfl⟩)⟩⟩
 obtain ⟨g, cs, hst⟩ := hst; exact ⟨at_, ct, X.sf, g, cs, X.st, hX.cell (by rw [<- e]; rfl), hX.cell rfl, hX.cell rfl, hX.cell rfl, hX.cell rfl, hX.cell rfl, by rw [<- e]; exact hQ.td, hst⟩
theorem RoomM.safe (h : RoomM K Cs B b G R w) (hn : R.states.length <= 1000) : ∃ news, news.length = R.states.length * 2 /\ (∀ u ∈ news, u.oneCell' = true) /\ (∀ g cs, w.cell? ⟨b, 6, none⟩ = some (.slice (some ⟨g, 0, none⟩) R.states.length cs) -> ∀ (j : Nat) u, news[j]? = some u -> w.cell? ((⟨g, 0, none⟩ : Addr).add j) = some u) /\
 ∀ (w' : World) (v : Value), Below w.heap.size w w' -> w'.ownsRow w.heap.size 44 2 v R.states.length news -> RmS K Cs B b G ⟨R.up, R.tape, R.tsyn, R.syn, R.waits, R.states, R.states, R.c0, R.c1, R.c2, R.orders, R.due⟩ w (w'.setCell ⟨b, 5, none⟩ v) := by
 have hr := h; obtain ⟨X, hG, hB, hX, hM, hQ⟩ := h; have hown := hM.own (sttR X.st X.sv) (by simp [j2]); have hl : ((X.sv.map fun x => [x.1, x.2]).flatten).length = R.states.length * 2 := by
  rw [<- hQ.sv.1]; generalize X.sv = l
  induction l with
  | nil => rfl
  | cons x t ih => simp only [List.map_cons, bw, aB, ih, aI, aJ]; omega
 refine ⟨(X.sv.map fun x => [x.1, x.2]).flatten, hl, fun u hu => ?_, fun g cs hc j u hj => ?_, fun w' v hb ho => ?_⟩
 . obtain ⟨y, hy, hu⟩ := List.mem_flatten.1 hu; obtain ⟨x, hx, rfl⟩ := bE.1 hy; obtain ⟨i, hi⟩ := List.getElem?_of_mem hx; obtain ⟨h1, h2, _⟩ := hQ.sv.2 i _ x (aw (by have := (au.1 hi).1; have := hQ.sv.1; omega)) hi; obtain ⟨_, _, e1⟩ := RowM.slice h1; obtain ⟨_, _, e2⟩ := RowM.slice h2; simp only [bV, bW, or_false] at hu
   rcases hu with rfl | rfl
   . rw [e1]; rfl
   . rw [e2]; rfl
 . have e : X.st = .slice (some ⟨g, 0, none⟩) R.states.length cs := bk ((hX.cell (j := 6) rfl).symm.trans hc); have hown : w.ownsRow B 44 2 X.st X.sv.length ((X.sv.map fun x => [x.1, x.2]).flatten) := hown; rw [e, hQ.sv.1] at hown; have su : j < ((X.sv.map fun x => [x.1, x.2]).flatten).length := (au.1 hj).1; rw [bg, bc, bv hown j (by rw [hl] at su; exact su)]; exact hj
 . have hs : Stp b G w G (w'.setCell ⟨b, 5, none⟩ v) := (Stp.of hb).box 5 v; have q := hQ.stp hs; have kA : (w'.setCell ⟨b, 5, none⟩ v).ownsRow w.heap.size 44 2 v R.states.length ((X.sv.map fun x => [x.1, x.2]).flatten) := jf ho fun g hg => aC _ _ _ _ (fun e => by have e' : g = b := e; have := (aA ho g hg).1; have := hM.lt; omega)
   exact ⟨⟨{ X with sf := v }, hG, hB, ((hX.next hb).put 5 v).ty rfl, (hM.next hb).box 5 v, q.k0, q.k1, q.k2, q.lo, q.sc, jao (css := X.sv.map fun x => [x.1, x.2]) kA rfl (show R.states.length <= maxLen by unfold maxLen; omega) (by rw [bI]; exact hQ.sv.1) (fun cs hcs => by
        obtain ⟨x, _, rfl⟩ := bE.1 hcs; rfl) (fun i s cs hi hcs => by
        rw [ba] at hcs; cases hx : X.sv[i]? with
        | none => rw [hx] at hcs; cases hcs
        | some x =>
          rw [hx] at hcs; cases hcs; exact ⟨_, _, rfl, q.sv.2 i s x hi hx⟩) (fun g hg => by
        have := (aA kA g hg).1; exact ⟨by have := hM.lt; omega, jbd hr this⟩), q.sv, q.os, q.td⟩, hs⟩
theorem jg4 (K : List (List UInt8)) (Cs : List (List Cmd)) (B b : Nat) (G : List Nat) (R : Rom) (w : World) (hR : RoomM K Cs B b G R w) (ll : 0 <= R.syn /\ R.syn <= 1000000) (mC : 0 <= R.waits /\ R.waits <= 1000000) (hn : 0 < R.states.length /\ R.states.length <= 1000) :
 Calls Tryz.prog 28 #[.pointer (some ⟨b, 1, none⟩)] w (RmQ K Cs B b G w (jg8 R) (.tuple #[])) := by
 obtain ⟨at_, ct, vf, g, cs, vs, _, _, c3, c4, _, _, _, _⟩ := hR.ledger; have hwr : IntKind.i64.wrap (R.syn + R.waits) = R.syn + R.waits := by rw [IntKind.wrap_i64]; omega
 have z3 := hR.frz 3; have z4 := hR.frz 4; have dG := hid (RmS.num hR (R.syn + R.waits) 0); have dq := hid (RmS.num' hR (R.syn + R.waits) 0); have oW := hid hn; clear hR hn; go_enter Tryz.func28, Tryz.ntmps28; go_upto_region 0 with fail
 go_cut [] (fun wx => RmS K Cs B b G (jli R (R.syn + R.waits) 0) w wx)
 case first =>
  go_region_law (fail)
  all_goals first
   | (have HE := dG; go_wp2_with fail; go_meet; exact HE.out)
   | (have HE := dq; go_wp2_with fail; go_meet; exact HE.out)
   | fail
 case rest =>
  obtain ⟨hx, hB⟩ := hcut; obtain ⟨W1, rfl⟩ : ∃ W, W = wc := ⟨_, rfl⟩; obtain ⟨_, _, vf1, g1, cs1, vs1, _, _, _, _, d5, d6, _, hst⟩ := hx.ledger; obtain ⟨rfl, hgb⟩ := hst oW.out.1; obtain ⟨news, n1, n2, n3, n4⟩ := hx.safe oW.out.2; have HC := hid (n3 g1 cs1 d6); have dY := hid n4; have HB := hid hB; have hlt := hx.lt.1; have hz := fun (w2 : World) (h : Below W1.heap.size W1 w2) => (hx.next h).frz 5
  have HZ := hid hz; have H5 := hid (fun (w2 : World) (h : Below W1.heap.size W1 w2) => ja d5 h); have iO := hid (jj7 ⟨g1, 0, none⟩ R.states.length cs1 news W1 n1 oW.out.2 HC.out n2); clear hx hB hst n1 n2 n3 n4 hz c3 c4 z3 z4 dG dq; have d6' : W1.cell? ⟨b, 6, none⟩ = some (.slice (some ⟨g1, 0, none⟩) R.states.length cs1) := d6; clear d6; go_wp2_with fail; refine iO.out.mono ?_; rintro e w2 ⟨v', rfl, ho, hb2⟩; obtain ⟨a', c', rfl⟩ := jaP ho; obtain ⟨k1, k2⟩ := dY.out w2 _ hb2 ho; have e5 := H5.out w2 hb2; have zf := HZ.out w2 hb2; have HF := hid (show RmQ K Cs B b G w (jg8 R) (.tuple #[]) (.returned (.tuple #[])) (w2.setCell ⟨b, 5, none⟩ (.slice a' R.states.length c')) from ⟨rfl, G, k1, HB.out.trans k2⟩); clear ho hb2 k1 k2; go_wp2; go_end0; exact HF.out
theorem jk3 (K : List (List UInt8)) (Cs : List (List Cmd)) (B b : Nat) (G : List Nat) (R : Rom) (w : World) (hR : RoomM K Cs B b G R w) (hm : mayN R.tape.length R.tsyn = true) (ll : 0 <= R.syn /\ R.syn <= 1000000) (mC : 0 <= R.waits /\ R.waits <= 1000000) (hn : 0 < R.states.length /\ R.states.length <= 1000) :
 Calls Tryz.prog 39 #[.pointer (some ⟨b, 1, none⟩)] w (RmQ K Cs B b G w (zq R) (.tuple #[])) := by
 obtain ⟨at_, ct, vf, g, cs, vs, c1, c2, _, _, _, _, hT, _⟩ := hR.ledger; have HS := hid (jn4 at_ ct R.tape R.tsyn _ w hT); rw [if_pos hm] at HS; have HN := hid (show ∀ (w2 : World) (a : Option Addr) (c : Nat), Below w.heap.size w w2 -> w2.ownsRow w.heap.size 5 1 (.slice a R.tape.length c) R.tape.length (byC R.tape) -> w2.cell? ⟨b, 1, none⟩ = some (.slice at_ R.tape.length ct) /\ w2.cell? ⟨b, 2, none⟩ = some (.int .i64 R.tsyn) /\ w2.frozen? ⟨b, 1, none⟩ = false /\ w2.frozen? ⟨b, 2, none⟩ = false /\
  RmS K Cs B b G (jdi R R.tape R.tape.length) w ((w2.setCell ⟨b, 1, none⟩ (.slice a R.tape.length c)).setCell ⟨b, 2, none⟩ (.int .i64 R.tape.length)) from fun w2 a c hb ho => by
  have hr := hR; have f1 := (hR.next hb).frz 1; have f2 := (hR.next hb).frz 2; obtain ⟨X, hG, hB, hX, hM, hQ⟩ := hR; have hs : Stp b G w G ((w2.setCell ⟨b, 1, none⟩ (.slice a R.tape.length c)).setCell ⟨b, 2, none⟩ (.int .i64 R.tape.length)) := ((Stp.of hb).box 1 _).box 2 _; have q := hQ.stp hs; have kA : ((w2.setCell ⟨b, 1, none⟩ (.slice a R.tape.length c)).setCell ⟨b, 2, none⟩ (.int .i64 R.tape.length)).ownsRow w.heap.size 5 1 (.slice a R.tape.length c) R.tape.length (byC R.tape) := jf ho fun g hg => by
   have hn : g ≠ b := fun e => by have := (aA ho g hg).1; have := hM.lt; omega
   exact (aC _ _ _ _ hn).trans (aC _ _ _ _ hn)
  have fX : R.tape.length <= maxLen := by obtain ⟨_, _, _, _, h⟩ := hQ.td.slice; exact h
  exact ⟨ja c1 hb, ja c2 hb, f1, f2, ⟨{ X with td := .slice a R.tape.length c }, hG, hB, (((hX.next hb).put 1 _).put 2 _).ty rfl, ((hM.next hb).box 1 _).box 2 _, q.k0, q.k1, q.k2, q.lo, q.sc, q.sf, q.sv, q.os, jlq kA rfl fX fun g hg => by
        have := (aA kA g hg).1; exact ⟨by have := hM.lt; omega, jbd hr this⟩⟩, hs⟩)
 have HST := hid (fun (w3 : World) (h : RoomM K Cs B b G (jdi R R.tape R.tape.length) w3) => jg4 K Cs B b G _ w3 h ll mC hn); clear hR hT hn; go_enter Tryz.func39, Tryz.ntmps39; go_wp2_with fail; refine HS.out.mono ?_; rintro e w2 ⟨a, c, rfl, ho, hb⟩; obtain ⟨e1, e2, z1, z2, k1, k2⟩ := HN.out w2 a c hb ho; have rI := hid k1; have AO := hid k2; clear ho hb k1 k2; go_wp2_with fail; refine (HST.out _ rI.out).mono ?_; rintro e w3 ⟨rfl, h⟩; have HF := hid (show RmQ K Cs B b G w (zq R) (.tuple #[]) (.returned (.tuple #[])) w3 from RmQ.trans AO.out ⟨rfl, h⟩); clear h; go_wp2; go_end0; exact HF.out
theorem RoomM.setTape (h : RoomM K Cs B b G R w) {c : Nat} {t : List UInt8} (s : Int) (ho : w.ownsRow H 5 1 (.slice a t.length c) t.length (byC t)) (hH : b < H) (hn : ∀ k, H <= k -> k < w.heap.size -> AvN B b G k) (hm : t.length <= maxLen) :
 RmS K Cs B b G (jdi R t s) w ((w.setCell ⟨b, 1, none⟩ (.slice a t.length c)).setCell ⟨b, 2, none⟩ (.int .i64 s)) := by
 obtain ⟨X, hG, hB, hX, hM, hQ⟩ := h; have hs : Stp b G w G ((w.setCell ⟨b, 1, none⟩ (.slice a t.length c)).setCell ⟨b, 2, none⟩ (.int .i64 s)) := ((Stp.refl b G w).box 1 _).box 2 _; have q := hQ.stp hs; have kA : ((w.setCell ⟨b, 1, none⟩ (.slice a t.length c)).setCell ⟨b, 2, none⟩ (.int .i64 s)).ownsRow H 5 1 (.slice a t.length c) t.length (byC t) := jf ho fun g hg => by
  have hn : g ≠ b := fun e => by have := (aA ho g hg).1; omega
  exact (aC _ _ _ _ hn).trans (aC _ _ _ _ hn)
 exact ⟨⟨{ X with td := .slice a t.length c }, hG, hB, ((hX.put 1 _).put 2 _).ty rfl, (hM.box 1 _).box 2 _, q.k0, q.k1, q.k2, q.lo, q.sc, q.sf, q.sv, q.os, jlq kA rfl hm fun g hg => hn g (aA ho g hg).1 (aA ho g hg).2⟩, hs⟩
theorem RoomM.setWaits (h : RoomM K Cs B b G R w) (y : Int) : RmS K Cs B b G (jli R R.syn y) w (w.setCell ⟨b, 4, none⟩ (.int .i64 y)) := by
 obtain ⟨X, hG, hB, hX, hM, hQ⟩ := h; have hs := (Stp.refl b G w).box 4 (.int .i64 y); have q := hQ.stp hs; exact ⟨⟨X, hG, hB, (hX.put 4 (.int .i64 y)).ty rfl, hM.box 4 (.int .i64 y), q.k0, q.k1, q.k2, q.lo, q.sc, q.sf, q.sv, q.os, q.td⟩, hs⟩
def stR (R : Rom) (l : List Stt) : Rom := ⟨R.up, R.tape, R.tsyn, R.syn, R.waits, R.safe, l, R.c0, R.c1, R.c2, R.orders, R.due⟩
theorem RoomM.stater (h : RoomM K Cs B b G R w) (h3 : R.states.length = 3) {u : Nat} (hu : u < 3) {s : Stt} (hs : R.states[u]? = some s) : ∃ (g c : Nat) (vb vs : Value), w.cell? ⟨b, 6, none⟩ = some (.slice (some ⟨g, 0, none⟩) 3 c) /\ w.cell? ⟨g, u * 2, none⟩ = some vb /\ w.cell? ⟨g, u * 2 + 1, none⟩ = some vs /\ SttM (AvN B b G) w vb vs s /\ g ≠ b /\ g < w.heap.size /\ (∀ j, w.frozen? ⟨g, j, none⟩ = false) /\
 ∀ (vb' vs' : Value) (s' : Stt), SttM (AvN B b G) w vb' vs' s' -> RmS K Cs B b G (stR R (R.states.set u s')) w ((w.setCell ⟨g, u * 2, none⟩ vb').setCell ⟨g, u * 2 + 1, none⟩ vs') := by
 obtain ⟨X, hG, hB, hX, hM, hQ⟩ := h; have hl := hQ.sv.1; rw [h3] at hl; have ho := hM.own (sttR X.st X.sv) (by simp [j2]); have ho : w.ownsRow B 44 2 X.st X.sv.length ((X.sv.map fun x => [x.1, x.2]).flatten) := ho; obtain ⟨g, c, cur, hv, hg, hc⟩ := joN ho (by rw [hl]; decide); have hrow : ∀ l, j2 R { X with sv := l } = [intR 3 X.c0.l R.c0.told, intR 3 X.c1.l R.c1.told, intR 3 X.c2.l R.c2.told, intR 3 X.du R.due] ++ sttR X.st l :: (ordR X.od X.os :: (List.range 3).map fun u => intR 51 (X.os.getD u (.slice none 0 0)) (R.orders.getD u [])) := fun l => rfl
 have e1 : j2 R X = _ := hrow X.sv; have hgb : g ≠ b := fun e => hM.far (by rw [e1]; exact bu.2 ⟨sttR X.st X.sv, by simp, by show X.st.ownBlock = _; rw [hv, <- e]; rfl⟩)
 have Dg : g ∈ G := by rw [hG, e1]; exact bu.2 ⟨sttR X.st X.sv, by simp, by show X.st.ownBlock = _; rw [hv]; rfl⟩
 obtain ⟨x, hx⟩ : ∃ x, X.sv[u]? = some x := ⟨_, aw (by omega)⟩; have ff : ((X.sv.map fun x => [x.1, x.2]).flatten)[u * 2]? = some x.1 /\ ((X.sv.map fun x => [x.1, x.2]).flatten)[u * 2 + 1]? = some x.2 /\ ∀ p q : Value, (((X.sv.map fun x => [x.1, x.2]).flatten).set (u * 2) p).set (u * 2 + 1) q = ((X.sv.set u (p, q)).map fun x => [x.1, x.2]).flatten := by
  have eN := hx; generalize X.sv = l at hl eN
  match l, hl with
  | [x0, x1, x2], _ =>
    match u, hu with
    | 0, _ | 1, _ | 2, _ => simp at eN; subst eN; exact ⟨rfl, rfl, fun _ _ => rfl⟩
 refine ⟨g, c, x.1, x.2, hX.cell (by rw [<- hl, <- hv]; rfl), hc _ _ ff.1, hc _ _ ff.2.1, hQ.sv.2 u s x hs hx, hgb, (aj.1 hg).1, fun j => by simp [World.frozen?, hg], fun vb' vs' s' hS => ?_⟩; have kZ := hM; rw [e1] at kZ; obtain ⟨k1, k2⟩ := MOk.put (g := g) (c := c) kZ (show X.st = .slice (some ⟨g, 0, none⟩) X.sv.length c from hv) (u * 2) vb'; obtain ⟨m1, m2⟩ := MOk.put (g := g) (c := c) k1 (show X.st = .slice (some ⟨g, 0, none⟩) X.sv.length c from hv) (u * 2 + 1) vs'; have q3 : (⟨44, 2, X.st, X.sv.length, (((X.sv.map fun x => [x.1, x.2]).flatten).set (u * 2) vb').set (u * 2 + 1) vs'⟩ : MRow) = sttR X.st (X.sv.set u (vb', vs')) := by
  rw [ff.2.2]; unfold sttR; rw [List.length_set]
 simp only [sttR] at m1 m2; have m3 := m1; have m4 := k2.trans m2; rw [show (⟨44, 2, X.st, X.sv.length, (((X.sv.map fun x => [x.1, x.2]).flatten).set (u * 2) vb').set (u * 2 + 1) vs'⟩ : MRow) = sttR X.st (X.sv.set u (vb', vs')) from q3, <- hrow (X.sv.set u (vb', vs'))] at m3 m4; have xN : mB (j2 R { X with sv := X.sv.set u (vb', vs') }) = G := by
  rw [hG, hrow, e1, jbl, jbl, jak, jak]; rfl
 rw [xN, <- e1, <- hG] at m4; have q := hQ.stp m4; have gn : ((w.setCell ⟨g, u * 2, none⟩ vb').setCell ⟨g, u * 2 + 1, none⟩ vs').heap[b]? = w.heap[b]? := (aC _ _ _ _ (Ne.symm hgb)).trans (aC _ _ _ _ (Ne.symm hgb)); refine ⟨⟨{ X with sv := X.sv.set u (vb', vs') }, xN.symm, hB, ⟨gn.trans hX.1, hX.2⟩, m3, q.k0, q.k1, q.k2, q.lo, q.sc, q.sf, ⟨by show (X.sv.set u _).length = (R.states.set u s').length; rw [List.length_set, List.length_set]; exact hQ.sv.1, fun i s0 y hi hy => ?_⟩, q.os, q.td⟩, m4⟩; have hi' : (R.states.set u s')[i]? = some s0 := hi; have hy' : (X.sv.set u (vb', vs'))[i]? = some y := hy
 by_cases yA : i = u
 . subst yA; rw [br (by omega)] at hi' hy'; cases hi'; cases hy'; exact hS.stp m4
 . rw [bj (Ne.symm yA)] at hi' hy'; exact q.sv.2 i s0 y hi' hy'
structure Bat where
 user : Int
 ents : List Ent
def beB : Nat -> Nat -> List UInt8
 | _, 0 => []
 | n, k + 1 => UInt8.ofNat (n / 256 ^ k) :: beB n k
def txB (s : List UInt8) : List UInt8 := beB s.length 2 ++ s
def entB (x : Ent) : List UInt8 := beB x.kind.toNat 1 ++ (beB x.flags.toNat 1 ++ (beB x.uid.toNat 3 ++ (txB x.box ++ (txB x.goal ++ txB x.text))))
def zW : List Ent -> List UInt8
 | [] => []
 | x :: l => entB x ++ zW l
def batB (b : Bat) : List UInt8 := beB b.user.toNat 1 ++ (beB b.ents.length 1 ++ zW b.ents)
def takeR (k : Nat) (r : List UInt8 × Bool) : List UInt8 × (List UInt8 × Bool) := if k <= r.1.length then (r.1.take k, (r.1.drop k, r.2)) else ([], ([], true))
theorem zn (n k : Nat) : (beB n k).length = k := by
 induction k with
 | zero => rfl
 | succ k ih => simp [beB, ih]
structure Fits (x : Ent) : Prop where
 kind : 0 <= x.kind /\ x.kind < 256
 flags : 0 <= x.flags /\ x.flags < 256
 uid : 0 <= x.uid /\ x.uid < 16777216
 box : x.box.length < 65536
 goal : x.goal.length < 65536
 text : x.text.length < 65536
structure FitB (b : Bat) : Prop where
 user : 0 <= b.user /\ b.user < 256
 many : b.ents.length < 256
 each : ∀ x ∈ b.ents, Fits x
def frB (b : Bat) : List UInt8 := beB (batB b).length 3 ++ batB b
theorem jd9 (b : Bat) : (frB b).length = 3 + (batB b).length := by unfold frB; rw [aB, zn]
theorem jhS (h : vu s = 0) : s.length <= 12 := by
 unfold vu at h; split at h
 . cases h
 . omega
theorem jgh (h : jpz s = 0) : s.length <= 100 := by
 unfold jpz at h; split at h
 . cases h
 . omega
theorem jcG {x : Ent} (h : Formed x) : x.box.length <= 12 /\ x.goal.length <= 100 /\ x.text.length <= 2000 := by
 obtain ⟨⟨k1, k2⟩, ⟨b1, b2, b3, b4, b5⟩, _, _, ht, hg, hn, wG⟩ := h; refine ⟨?_, ?_, ht⟩
 . by_cases h6 : x.kind = 6
   . rw [(b5 h6).1]; simp
   . exact jhS (hn h6)
 . by_cases h6 : x.kind = 6
   . exact jgh (hg h6)
   . by_cases h5 : x.kind = 5
     . have := jhS (wG h5); omega
     . have : x.goal = [] := by
        by_cases h1 : x.kind = 1
        . exact (b1 (.inl h1)).2.2.1
        . by_cases h4 : x.kind = 4
          . exact (b1 (.inr h4)).2.2.1
          . by_cases h2 : x.kind = 2
            . exact (b2 h2).2
            . exact (b3 (by omega)).1
       rw [this]; simp
theorem jgA {x : Ent} (h : Formed x) : Fits x := by
 obtain ⟨h1, h2, h3⟩ := jcG h; have hk := h.kind; have hf := h.flags; have hu := h.uid; exact ⟨by omega, by omega, by omega, by omega, by omega, by omega⟩
structure BatOk (b : Bat) : Prop where
 user : 0 <= b.user /\ b.user < 3
 many : 1 <= b.ents.length /\ b.ents.length <= 10
 each : ∀ x ∈ b.ents, Formed x
theorem BatOk.fit {b : Bat} (h : BatOk b) : FitB b := ⟨by have := h.user; omega, by have := h.many; omega, fun x hx => jgA (h.each x hx)⟩
theorem jmZ (x : Ent) : (entB x).length = 11 + x.box.length + x.goal.length + x.text.length := by
 unfold entB txB; simp only [aB, zn]; omega
theorem jm2 (m : Nat) : ∀ (l : List Ent), (∀ x ∈ l, (entB x).length <= m) -> (zW l).length <= m * l.length := by
 intro l
 induction l with
 | nil => intro _; simp [zW]
 | cons x l ih =>
   intro h; have h1 := ih fun y hy => h y (by simp [hy])
   have h2 := h x (by simp); simp only [zW, aB, aI, Nat.mul_succ]; omega
theorem jmI (b : Bat) : (batB b).length = 2 + (zW b.ents).length := by
 unfold batB; simp only [aB, zn]; omega
theorem BatOk.len {b : Bat} (h : BatOk b) : (batB b).length <= 21232 := by
 have := jm2 2123 b.ents fun x hx => by
  obtain ⟨h1, h2, h3⟩ := jcG (h.each x hx); rw [jmZ]; omega
 have h2 := h.many; rw [jmI]; have : 2123 * b.ents.length <= 2123 * 10 := Nat.mul_le_mul_left _ h2.2; omega
theorem jdU (n k : Nat) : beB n (k + 1) = UInt8.ofNat (n / 256 ^ k) :: beB n k := rfl
end Go.Proofs.YtjdkbdkimbgbfaaGreatDoor
