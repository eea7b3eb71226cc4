/-
  Whole lines that are fed, where a letter that is handed over is no message: plain facts.
-/
import Derived.Test.YtmgdnhjemhhleaaGreatDoorOQLmLine8
import Derived.Test.YtmgdnhjemhhleaaGreatDoorRows
set_option maxHeartbeats 4000000
set_option maxRecDepth 100000
namespace Go.Proofs.YtmgdnhjemhhleaaGreatDoor
open Go.RowKit Go.Proofs
def crO : List UInt8 := [13, 10]
def oddB (K : List (List UInt8)) (x : Ltr) : Bool :=
 decide (jS x.1.1 x.1.2 = 0) && decide (jS x.2.1.1 x.2.1.2 = 0) && oddT x.2.2 && decide (x.1.1.length ≤ 5000 ∧ x.1.2.length ≤ 5000 ∧ x.2.1.1.length ≤ 5000 ∧ x.2.1.2.length ≤ 5000) && (List.range 3).any fun i => decide (K[i]? = some x.2.1.1) && (List.range i).all fun j => decide (K[j]? ≠ some x.2.1.1)
theorem jmv {K : List (List UInt8)} {x : Ltr} (h : oddB K x = true) : OddL x.1.1 x.1.2 x.2.1.1 x.2.1.2 x.2.2 ∧ ∃ i, i < 3 ∧ K[i]? = some x.2.1.1 ∧ ∀ j y, j < i → K[j]? = some y → x.2.1.1 ≠ y := by
 unfold oddB at h; simp only [Bool.and_eq_true, decide_eq_true_eq, List.any_eq_true, List.mem_range, List.all_eq_true] at h; obtain ⟨⟨⟨⟨h1, h2⟩, h3⟩, h4⟩, i, hi, h5, h6⟩ := h; exact ⟨⟨h1, h2, h3, h4⟩, i, hi, h5, fun j y hj hy e => h6 j hj (by rw [hy, e])⟩
structure RomOk (K : List (List UInt8)) (Cs : List (List Cmd)) (R : Rom) : Prop where
 st3 : R.states.length = 3
 cs3 : Cs.length = 3
 ib : ∀ i, i < 3 → R.states[i]? = some ibS
 scr : ∀ i, i < 3 → ∃ C, Cs[i]? = some C ∧ (∀ x ∈ C, zP 5 x) ∧ vu 5 C = 0
def lnCo (n : Ses × Int × List Ltr) : List Int := (if n.2.1 = 0 then [] else [n.2.1]) ++ n.2.2.map fun _ => 554
def qJ (K : List (List UInt8)) : Ses → List (List UInt8) → Ses × List Int
 | s, [] => (s, [])
 | s, x :: t => ((qJ K (jH s K x).1 t).1, lnCo (jH s K x) ++ (qJ K (jH s K x).1 t).2)
def qW (K : List (List UInt8)) : Ses → List (List UInt8) → Bool
 | _, [] => true
 | s, x :: t => !zG x && ((jH s K x).2.2.isEmpty || (!s.large && (jH s K x).2.2.all (oddB K))) && decide ((jH s K x).1.step ≠ 5) && decide (x.length ≤ 3000) && qW K (jH s K x).1 t
def jO (xs : List (List UInt8)) : List UInt8 := (xs.map (· ++ crO)).flatten
def noD (R : Rom) (_ : Ltr) : Rom × Int × Bool := (R, 554, false)
theorem qI (x : List UInt8) (t : List (List UInt8)) : jO (x :: t) = x ++ [13, 10] ++ jO t := by simp [jO, crO]
theorem jbg {K : List (List UInt8)} {s : Ses} {x : List UInt8} {t : List (List UInt8)} (h : qW K s (x :: t) = true) : zG x = false ∧ ((jH s K x).2.2 = [] ∨ (s.large = false ∧ (jH s K x).2.2.all (oddB K) = true)) ∧ (jH s K x).1.step ≠ 5 ∧ x.length ≤ 3000 ∧ qW K (jH s K x).1 t = true := by
 simp only [qW, Bool.and_eq_true, Bool.not_eq_true', Bool.or_eq_true, decide_eq_true_eq, List.isEmpty_iff] at h; exact ⟨h.1.1.1.1, h.1.1.1.2, h.1.1.2, h.1.2, h.2⟩
theorem jbA {s : Ses} (h : mayS s = true) (K : List (List UInt8)) (x : List UInt8) : (jH s K x).2.2.length ≤ 5 := by
 have h5 := jlB h; unfold jH; split
 · simp
 · split
   · unfold vy; split
     · simpa [jF] using h5
     · simp
   · simp
theorem jkq {s : Ses} (h : mayS s = true) (K : List (List UInt8)) (x : List UInt8) : (lnCo (jH s K x)).length ≤ 6 := by
 have h5 := jbA h K x; unfold lnCo; rw [List.length_append, List.length_map]; split <;> simp <;> omega
theorem jci (lg : Bool) : ∀ (ls : List Ltr) (R : Rom), ls = [] ∨ lg = false → tkR noD R lg ls = (R, ls.map (fun _ => 554), false)
 | [], _, _ => rfl
 | x :: t, R, h => by
   obtain rfl : lg = false := h.resolve_left (by simp); simp only [tkR]; rw [if_neg (by decide)]; simp only [noD]; rw [jci false t R (.inr rfl)]; rfl
def lnsC (s : Ses) (held : List UInt8) (l : List Int) : Con := ⟨s, held, [], l⟩
theorem jb8 (K : List (List UInt8)) (R : Rom) (i : Nat) (s : Ses) (held x : List UInt8) (l : List Int) (h1 : (jH s K x).2.2 = [] ∨ (s.large = false ∧ (jH s K x).2.2.all (oddB K) = true)) (h2 : (jH s K x).1.step ≠ 5) :
 jkO noD K (R.put i (lnsC s held l)) i x = R.put i (lnsC (jH s K x).1 held (l ++ lnCo (jH s K x))) := by
 unfold jkO; simp only [jV]
 show (let t := tkR noD ((R.put i (lnsC s held l)).put i (jfO (sesC (lnsC s held l) (jH s K x).1) (jH s K x).2.1)) s.large (jH s K x).2.2; t.1.put i (jcx (zJ (t.1.con i) t.2.1 t.2.2) (jH s K x).1.step)) = _
 rw [jci s.large _ _ (h1.imp id fun h => h.1)]; simp only [jV, qm]
 congr 1
 unfold jcx zJ; rw [if_neg h2, if_neg (by decide)]; unfold lnCo jfO lnsC jbt sesC; split <;> simp
theorem jnl (R : Rom) (i : Nat) (c : Con) : (R.put i c).up = R.up := by
 match i with
 | 0 | 1 | _ + 2 => rfl
theorem jf0 {x : List UInt8} (h : zG x = false) (t : List (List UInt8)) : Lib.cut (jO (x :: t)) [13, 10] = (x, jO t, true) := by
 rw [qI]; exact jf1 h
theorem jlv : Lib.cut ([] : List UInt8) [13, 10] = ([], [], false) := jf2 jgU
theorem jj7 (s : Ses) (l : List Int) : endC (lnsC s [] l) = lnsC s [] l := by unfold endC; rw [if_neg (by show ¬ 3000 < 0; omega)]
theorem jc4 (K : List (List UInt8)) (R : Rom) (i : Nat) : ∀ (xs : List (List UInt8)) (s : Ses) (l : List Int) (n : Nat), qW K s xs = true → (jO xs).length ≤ n →
 jlq noD K i n (R.put i (lnsC s (jO xs) l)) = R.put i (lnsC (qJ K s xs).1 [] (l ++ (qJ K s xs).2))
 | [], s, l, n, _, _ => by
   unfold jlq; refine (jjn ?_).trans ?_
   · rw [jV]
     show ((([] : List Int)).isEmpty && (Lib.cut (jO []) [13, 10]).2.2) = false
     rw [show jO [] = [] from rfl, jlv]; rfl
   · rw [jV, qm, show jO [] = [] from rfl, jj7]
     simp [qJ]
 | x :: t, s, l, n, h, hn => by
   obtain ⟨h1, h2, h3, _, h5⟩ := jbg h; obtain ⟨m, rfl⟩ : ∃ m, n = m + 1 := ⟨n - 1, by rw [qI] at hn; simp at hn; omega⟩; unfold jlq; simp only [runW, jV]
   show (if (([] : List Int).isEmpty && (Lib.cut (jO (x :: t)) [13, 10]).2.2) = true then _ else _) = _
   rw [show (lnsC s (jO (x :: t)) l).held = jO (x :: t) from rfl, jf0 h1, if_pos (show (([] : List Int).isEmpty && (x, jO t, true).2.2) = true from rfl)]; simp only [qm]; rw [show jbp (lnsC s (jO (x :: t)) l) (jO t) = lnsC s (jO t) l from rfl, jb8 K R i s (jO t) x l h2 h3]; have := jc4 K R i t (jH s K x).1 (l ++ lnCo (jH s K x)) m h5 (by rw [qI] at hn; simp at hn; omega); unfold jlq at this; rw [this]; simp only [qJ, List.append_assoc]
theorem LtrsM.at {Q : Nat → Prop} {w : World} {a : Option Addr} {n c : Nat} {l : List Ltr} (h : LtrsM Q w (.slice a n c) l) {i : Nat} {x : Ltr} (hx : l[i]? = some x) : ∃ b o, a = some ⟨b, o, none⟩ ∧ w.cell? ⟨b, o + i * 5, none⟩ = some (.string (S x.1.1)) ∧ w.cell? ⟨b, o + i * 5 + 1, none⟩ = some (.string (S x.1.2)) ∧ w.cell? ⟨b, o + i * 5 + 2, none⟩ = some (.string (S x.2.1.1)) ∧ w.cell? ⟨b, o + i * 5 + 3, none⟩ = some (.string (S x.2.1.2)) ∧ w.cell? ⟨b, o + i * 5 + 4, none⟩ = some (.string (S x.2.2)) := by
 obtain ⟨a', c', hv, _, hr⟩ := h; simp only [Value.slice.injEq] at hv; obtain ⟨b, o, cs, ha, _, _, _, hc, hP⟩ := hr i x hx; have hcs : cs = ltrC x := hP; subst hcs; exact ⟨b, o, by rw [hv.1, ha], hc 0 _ rfl, hc 1 _ rfl, hc 2 _ rfl, hc 3 _ rfl, hc 4 _ rfl⟩
def TdQ (w : World) (n : Nat) (e : Ending) (w' : World) : Prop :=
 ∃ a c, e = .returned (.tuple #[.slice a n c, .bool false]) ∧ w'.ownsRow w.heap.size 3 1 (.slice a n c) n (List.replicate n (.int .i64 554)) ∧ Below w.heap.size w w'
theorem jkQ (n : Nat) (v : Value) : List.replicate (n + 1) v = List.replicate n v ++ [v] := List.replicate_succ'
theorem jjv (p : Option Addr) (ls : List Ltr) (a : Option Addr) (c : Nat) (Q : Nat → Prop) (w : World) (hv : LtrsM Q w (.slice a ls.length c) ls) (hl : ls.length ≤ 5)
 (hD : ∀ x ∈ ls, ∀ v : World, Below w.heap.size w v → Calls Tryz.prog 107 #[.pointer p, .agg #[.string (S x.1.1), .string (S x.1.2), .string (S x.2.1.1), .string (S x.2.1.2), .string (S x.2.2)]] v fun e w' => e = .returned (.tuple #[.int .i64 554, .bool false]) ∧ Below v.heap.size v w') :
 Calls Tryz.prog 75 #[.pointer p, .slice a ls.length c, .bool false] w (TdQ w ls.length) := by
 obtain ⟨i0, hi, hz0, hz1, hz2⟩ := info_parts jly; have HV := hid hv; have HD := hid hD; obtain ⟨n, hn⟩ : ∃ n, n = ls.length := ⟨_, rfl⟩; have HN := hid hn; rw [← hn] at hl ⊢; clear hv hn hD; go_enter Tryz.func75, Tryz.ntmps75; go_wp2
 go_loopw [8, 9, 16] (fun v q i wr => ∃ (k : Nat) (a9 : Option Addr) (c9 : Nat), k ≤ n ∧ i = .int .i64 k ∧ q = .bool false ∧ v = .slice a9 k c9 ∧ Hid (wr.ownsRow w.heap.size 3 1 (.slice a9 k c9) k (List.replicate k (.int .i64 554))) ∧ Hid (Below w.heap.size w wr)) (fun _ _ i _ => n - (intOf i).toNat)
 case atStart => exact ⟨0, none, 0, Nat.zero_le _, rfl, rfl, rfl, World.ownsRow_nil _ _ _ _, Below.refl _ _⟩
 case round =>
  obtain ⟨k, a9, c9, hk, rfl, rfl, rfl, HO, HB⟩ := hrel
  by_cases hlt : k < n
  · have k1 : (k : Int) < (n : Int) := by omega
    have k0 : (0 : Int) ≤ (k : Int) := by omega
    obtain ⟨x, hx⟩ : ∃ x, ls[k]? = some x := ⟨_, List.getElem?_eq_getElem (by have := HN.out; omega)⟩; obtain ⟨g, o, ha, e0, e1, e2, e3, e4⟩ := (show LtrsM Q wr (.slice a ls.length c) ls from RowM.imp HV.out (fun _ h => h) (Keeps.of_below HB.out) fun _ _ h => h).at hx; subst ha; obtain ⟨W3, hW3⟩ : ∃ W3, W3 = wr.alloc (.cells #[.string (S x.1.1), .string (S x.1.2), .string (S x.2.1.1), .string (S x.2.1.2), .string (S x.2.2)] 183) := ⟨_, rfl⟩; have hB3 : Below wr.heap.size wr W3 := by rw [hW3]; exact nb0 _ _
    have HB3 := hid (HB.out.trans (hB3.mono HB.out.size)); have HO3 := hid (j2 HO.out hB3); have HWE := hid hW3; have hX3 : W3.heap[wr.heap.size]? = some (.cells #[.string (S x.1.1), .string (S x.1.2), .string (S x.2.1.1), .string (S x.2.1.2), .string (S x.2.2)] 183) := by rw [hW3]; exact heap_alloc_new wr _
    have l0 := jx (i := 0) hX3 rfl; have l1 := jx (i := 1) hX3 rfl; have l2 := jx (i := 2) hX3 rfl; have l3 := jx (i := 3) hX3 rfl; have l4 := jx (i := 4) hX3 rfl; have HDX := hid (HD.out x (List.mem_of_getElem? hx) W3 HB3.out); clear hx hB3 hW3 hX3; go_upto_region 6 with fail
    rw [← HWE.out]; go_wp2_with fail; refine HDX.out.mono ?_; rintro e w5 ⟨rfl, hb5⟩; have HB5 := hid (HB3.out.trans (hb5.mono HB3.out.size)); have HO5 := hid (j2 HO3.out hb5); clear hb5 l0 l1 l2 l3 l4 HDX HWE
    go_wp2_with (first
        | (at_builtin; refine wpList_append_lies _ rfl _ _ 36 rfl w.heap.size 3 i0 _ 1 8 Tryz.underlying36 hi hz0 hz1 hz2 rfl (by omega) (.slice a9 k c9) k (List.replicate k (.int .i64 554)) rfl (World.ownsRow.alloc HO5.out _) ⟨w5.heap.size, 0, none⟩ 1 1 [.int .i64 554] rfl rfl (qk w5 [.int .i64 554] _) ?c1 (by omega) ?c2 ?c3 ?c4 _ rfl ?_)
        | fail)
    case c1 => simp [Value.oneCell']
    case c2 => unfold maxLen; omega
    case c3 => omega
    case c4 => have := HB5.out.size; simp; omega
    intro gm cap w4 hown hgrow hat hlt4; have HB4 := hid (show Below w.heap.size w w4 from (HB5.out.alloc HB5.out.size _).grown hgrow (by have := HB5.out.size; simp; omega) (fun j hj => (World.ownsRow.lt HO5.out j hj).1)); have HO4 := hid (show w4.ownsRow w.heap.size 3 1 (.slice (some ⟨gm, 0, none⟩) (k + 1) cap) (k + 1) (List.replicate (k + 1) (.int .i64 554)) by
        rw [jkQ]; exact hown)
    clear hown hgrow hat; go_wp2
    go_roundw
    case rel => first | exact ⟨k + 1, _, cap, by omega, by go_num, rfl, rfl, HO4, HB4⟩ | ((repeat apply Exists.intro); exact ⟨⟨k + 1, _, cap, by omega, by go_num, rfl, rfl, HO4, HB4⟩, rfl⟩)
    case measure => simp [intOf]; omega
  · have k1 : ¬ (k : Int) < (n : Int) := by omega
    obtain rfl : k = n := by omega
    go_wp2; go_ret2; exact ⟨a9, c9, rfl, HO.out, HB.out⟩
theorem jk7 (Cs : List (List Cmd)) (B b : Nat) (G : List Nat) (R : Rom) (w : World) (K : List (List UInt8)) (hR : RoomM K Cs B b G R w) (hO : RomOk K Cs R) (hT : TabsM w) (ls : List Ltr) (v : Value) (Q : Nat → Prop) (hv : LtrsM Q w v ls) (hl : ls.length ≤ 5) (lg : Bool) (hq : ls = [] ∨ (lg = false ∧ ls.all (oddB K) = true)) :
 Calls Tryz.prog 75 #[.pointer (some ⟨b, 0, none⟩), v, .bool lg] w (TkQ K Cs B b G w R (ls.map fun _ => 554) false) := by
 obtain ⟨a, c, rfl⟩ := RowM.slice hv
 rcases hq with rfl | ⟨rfl, hq⟩
 · refine (jjw _ a c lg w).mono ?_; rintro e w5 ⟨rfl, rfl⟩; exact ⟨_, G, rfl, hR, Stp.refl _ _ _, jg _ _ _ _ _ _⟩
 · refine (jjv _ ls a c Q w hv hl fun x hx u hu => ?_).mono ?_
   · obtain ⟨h, i, hi, hK, hno⟩ := jmv (List.all_eq_true.1 hq x hx); obtain ⟨C, hC, hsh, hr⟩ := hO.scr i hi; exact jfd K Cs B b G R u (hR.next hu) hO.st3 hO.cs3 i hi (hO.ib i hi) C hC hsh hr _ _ _ _ _ h hK hno (hT.next hu)
   rintro e w5 ⟨a5, c5, rfl, ho, hb⟩; refine ⟨_, G, rfl, hR.next hb, Stp.of hb, jam (f := fun k => .int .i64 k) (B := w.heap.size) (e := 3) (l := ls.map fun _ => (554 : Int)) ?_ ?_ fun g hg => ?_⟩
   · rw [List.length_map, List.map_map]; have : (List.replicate ls.length (.int .i64 554)) = ls.map ((fun k => Value.int .i64 k) ∘ fun _ => 554) := by
        rw [← List.map_const']; rfl
     rw [← this]; exact ho
   · rw [List.length_map]; unfold maxLen; omega
   · have h1 := (World.ownsRow.lt ho g hg).1; exact ⟨by have := hR.lt; omega, jbK hR h1⟩
structure Acu where
 kind : Int
 conn : Int
 user : Int
 keep : Int
 data : List UInt8
 ent : Ent
def jmr : Ent := ⟨0, [], 0, 0, [], []⟩
def acuC (x : Acu) : List Value := [.int .i64 x.kind, .int .i64 x.conn, .int .i64 x.user, .int .i64 x.keep, .string (S x.data), .int .i64 x.ent.kind, .string (S x.ent.box), .int .i64 x.ent.uid, .int .i64 x.ent.flags, .string (S x.ent.goal), .string (S x.ent.text)]
def geaC (g : Gea) : List Value := [.int .i64 g.kind, .int .i64 g.conn, .int .i64 g.user, .int .i64 g.a, .int .i64 g.b, .string g.text]
def GeaM (g : Gea) (cs : List Value) : Prop := cs = geaC g
def GesM (Q : Nat → Prop) (w : World) (v : Value) (l : List Gea) : Prop := RowM Q 6 GeaM w v l
theorem GesM.next {Q : Nat → Prop} {w w' : World} {v : Value} {l : List Gea} (h : GesM Q w v l) (hb : Below w.heap.size w w') : GesM Q w' v l := RowM.imp h (fun _ h => h) (Keeps.of_below hb) fun _ _ h => h
theorem GesM.at {Q : Nat → Prop} {w : World} {a : Option Addr} {n c : Nat} {l : List Gea} (h : GesM Q w (.slice a n c) l) {i : Nat} {x : Gea} (hx : l[i]? = some x) : ∃ b o, a = some ⟨b, o, none⟩ ∧ w.cell? ⟨b, o + i * 6, none⟩ = some (.int .i64 x.kind) ∧ w.cell? ⟨b, o + i * 6 + 1, none⟩ = some (.int .i64 x.conn) ∧ w.cell? ⟨b, o + i * 6 + 2, none⟩ = some (.int .i64 x.user) ∧ w.cell? ⟨b, o + i * 6 + 3, none⟩ = some (.int .i64 x.a) ∧ w.cell? ⟨b, o + i * 6 + 4, none⟩ = some (.int .i64 x.b) ∧ w.cell? ⟨b, o + i * 6 + 5, none⟩ = some (.string x.text) := by
 obtain ⟨a', c', hv, _, hr⟩ := h; simp only [Value.slice.injEq] at hv; obtain ⟨b, o, cs, ha, _, _, _, hc, hP⟩ := hr i x hx; have hcs : cs = geaC x := hP; subst hcs; exact ⟨b, o, by rw [hv.1, ha], hc 0 _ rfl, hc 1 _ rfl, hc 2 _ rfl, hc 3 _ rfl, hc 4 _ rfl, hc 5 _ rfl⟩
def ActM (x : Acu) (cs : List Value) : Prop := cs = acuC x
def AcsM (Q : Nat → Prop) (w : World) (v : Value) (l : List Acu) : Prop := RowM Q 11 ActM w v l
theorem RoomM.up {K : List (List UInt8)} {Cs : List (List Cmd)} {B b : Nat} {G : List Nat} {R : Rom} {w : World} (h : RoomM K Cs B b G R w) : w.cell? ⟨b, 0, none⟩ = some (.bool R.up) := by
 obtain ⟨X, hG, hB, hX, hM, hQ⟩ := h; exact hX.cell rfl
theorem jl7 (K : List (List UInt8)) (Cs : List (List Cmd)) (B b : Nat) (G : List Nat) (R : Rom) (w : World) (hR : RoomM K Cs B b G R w) (i o : Nat) (hi : i < 3) (ho : o = 7 + i * 9) (hup : R.up = true) (x : Acu) (hk : x.kind = 1) (hc : x.conn = i) (hd : x.data ≠ []) (hn : (R.con i).held.length + x.data.length ≤ 1000000000) (R2 : Rom)
 (hW : ∀ (G' : List Nat) (w' : World), Below B w w' → RoomM K Cs B b G' (R.put i (jct (R.con i) x.data)) w' → Calls Tryz.prog 26 #[.pointer (some ⟨b, 0, none⟩), .pointer (some ⟨b, o, none⟩)] w' (RmQ K Cs B b G' w' R2 (.tuple #[]))) :
 Calls Tryz.prog 15 #[.pointer (some ⟨b, 0, none⟩), .agg (acuC x).toArray] w (RmQ K Cs B b G w R2 (.tuple #[])) := by
 obtain ⟨kd, cn, us, kp, da, en⟩ := x; simp only at hk hc hd hn hW; subst hk; subst hc; obtain ⟨W1, hW1⟩ : ∃ W1, W1 = w.alloc (.cells (acuC ⟨1, i, us, kp, da, en⟩).toArray 34) := ⟨_, rfl⟩; have hB1 : Below w.heap.size w W1 := by rw [hW1]; exact nb0 _ _
 have hx : W1.heap[w.heap.size]? = some (.cells (acuC ⟨1, i, us, kp, da, en⟩).toArray 34) := by rw [hW1]; exact heap_alloc_new w _
 have HX := hid (show ∀ (G' : List Nat) (w' : World), Stp b G W1 G' w' → w'.cell? ⟨w.heap.size, 0, none⟩ = some (.int .i64 1) ∧ w'.cell? ⟨w.heap.size, 1, none⟩ = some (.int .i64 i) ∧ w'.cell? ⟨w.heap.size, 4, none⟩ = some (.string (S da)) from fun G' w' h => by
  have hz := (h.block w.heap.size (Array.getElem?_eq_some_iff.1 hx).1 (jbK hR (Nat.le_refl _))).trans hx
  simp [World.cell?, hz, acuC])
 have HR1 := hid (hR.next hB1); have HH := hid (fun (u : World) (hu : Below W1.heap.size W1 u) => jkj K Cs B b G R u (HR1.out.next hu) i o hi ho da hn); have HW := hid (show ∀ (G' : List Nat) (w' : World), Stp b G W1 G' w' → RoomM K Cs B b G' (R.put i (jct (R.con i) da)) w' → Calls Tryz.prog 26 #[.pointer (some ⟨b, 0, none⟩), .pointer (some ⟨b, o, none⟩)] w' (RmQ K Cs B b G' w' R2 (.tuple #[])) from fun G' w' h1 h2 => hW G' w' (hR.low ((Stp.of hB1).trans h1)) h2); have c0 := HR1.out.up; rw [hup] at c0; obtain ⟨p0, p1, p4⟩ := HX.out G W1 (Stp.refl _ _ _); have HB1 := hid hB1; have HWE := hid hW1; have HD := hid hd; have hdn : (S da).toList.isEmpty = false := by
  rw [Lib.toList_data, jj]; cases da with
  | nil => exact absurd rfl HD.out
  | cons c t => rfl
 have hi3 : (i : Int) < 3 := by omega
 have hi0 : (0 : Int) ≤ (i : Int) := by omega
 unfold acuC at HWE ⊢; clear hR hW hup hd hn hx hB1 hW1; subst ho; go_enter Tryz.func15, Tryz.ntmps15; go_wp2; rw [← HWE.out]; have hg3 : decide ((1 : Int) = 5) = false := by decide
 go_quiet (fail)
 have HBQ := hid (qR W1 nq); go_wp2
 go_region_held3 (fun u => u.cell? ⟨w.heap.size, 1, none⟩ = some (.int .i64 i) ∧ u.cell? ⟨w.heap.size, 4, none⟩ = some (.string (S da)))
  (first | exact (HX.out _ _ HS2.out).2 | exact (HX.out _ _ (Stp.of HBQ.out.drew)).2 | exact (HX.out _ _ (Stp.of HBQ.out)).2 | fail)
  (first
    | (go_at_call 25
       refine (HH.out _ HBQ.out.drew).mono ?_; rintro e w2 ⟨rfl, G2, hR2, hs2⟩; have HS2 := hid ((Stp.of (b := b) (G := G) HBQ.out.drew).trans hs2); have HW3 := hid (HW.out G2 w2.drew (HS2.out.trans (jbD _)) (hR2.next (Below.refl _ _).drew)); clear hR2 hs2)
    | fail)
 all_goals
  obtain ⟨q0, q1, q4⟩ := HX.out _ _ HS2.out; go_wp2
  go_region_held3 (fun u => u.cell? ⟨w.heap.size, 1, none⟩ = some (.int .i64 i))
   (first | exact HQ4.out | exact (HX.out _ _ (HS2.out.trans (jbD _))).2.1 | exact (HX.out _ _ HS2.out).2.1 | fail)
   (first
        | (go_at_call 26
           refine (HW3.out.mono ?_); rintro e w4 ⟨rfl, G4, hR4, hs4⟩; have HQ4 := hid (HX.out _ _ ((HS2.out.trans (jbD _)).trans hs4)).2.1; have HF := hid (show RmQ K Cs B b G w R2 (.tuple #[]) (.returned (.tuple #[])) w4 from ⟨rfl, G4, hR4, (Stp.of HB1.out).trans ((HS2.out.trans (jbD _)).trans hs4)⟩); clear hR4 hs4)
        | fail)
  go_wp2; go_end0; exact HF.out
theorem hidp {p : Prop} (h : p) : Hid p := h
theorem jaF {a b : ByteArray} (h : ¬ a = b) : (a.toList == b.toList) = false := by
 rw [beq_eq_false_iff_ne]; intro e; rw [Lib.toList_data, Lib.toList_data] at e
 apply h
 obtain ⟨⟨x⟩⟩ := a; obtain ⟨⟨y⟩⟩ := b; simp only at e; rw [e]
theorem ql (a : ByteArray) : (a.toList == a.toList) = true := by simp
theorem jmB (c u p ek eu ef : Int) (d eb eg et : List UInt8) (w : World) : Calls Tryz.prog 38 #[.agg #[.int .i64 1, .int .i64 c, .int .i64 u, .int .i64 p, .string (S d), .int .i64 ek, .string (S eb), .int .i64 eu, .int .i64 ef, .string (S eg), .string (S et)]] w fun e w' => e = .returned (.agg #[.int .i64 1, .int .i64 c, .int .i64 0, .int .i64 0, .string (S d), .int .i64 0, .string (⟨#[]⟩), .int .i64 0, .int .i64 0, .string (⟨#[]⟩), .string (⟨#[]⟩)]) ∧ Below w.heap.size w w' := by
 have HB := hidp (show ∀ a b c : Obj, Below w.heap.size w (((w.alloc a).alloc b).alloc c) from fun a b c => (((Below.refl _ _).alloc (Nat.le_refl _) a).alloc (by simp) b).alloc (by simp; omega) c); go_enter Tryz.func38, Tryz.ntmps38; go_wp2
 go_region_law (fail)
 all_goals
  go_wp2; refine bodyPost_ret (v := .agg #[.int .i64 1, .int .i64 c, .int .i64 0, .int .i64 0, .string (S d), .int .i64 0, .string (⟨#[]⟩), .int .i64 0, .int .i64 0, .string (⟨#[]⟩), .string (⟨#[]⟩)]) (by simp [results, Tryz.results38, go_sem, *]) rfl ?_
  first | exact ⟨rfl, HB.out _ _ _⟩ | exact ⟨rfl, (HB.out _ _ _).drew⟩
theorem jmC (c u p ek eu ef : Int) (d eb eg et : List UInt8) (w : World) : Calls Tryz.prog 38 #[.agg #[.int .i64 2, .int .i64 c, .int .i64 u, .int .i64 p, .string (S d), .int .i64 ek, .string (S eb), .int .i64 eu, .int .i64 ef, .string (S eg), .string (S et)]] w fun e w' => e = .returned (.agg #[.int .i64 2, .int .i64 0, .int .i64 0, .int .i64 0, .string (⟨#[]⟩), .int .i64 0, .string (⟨#[]⟩), .int .i64 0, .int .i64 0, .string (⟨#[]⟩), .string (⟨#[]⟩)]) ∧ Below w.heap.size w w' := by
 have HB := hidp (show ∀ a b c : Obj, Below w.heap.size w (((w.alloc a).alloc b).alloc c) from fun a b c => (((Below.refl _ _).alloc (Nat.le_refl _) a).alloc (by simp) b).alloc (by simp; omega) c); go_enter Tryz.func38, Tryz.ntmps38; go_wp2
 all_goals
  refine bodyPost_ret (v := .agg #[.int .i64 2, .int .i64 0, .int .i64 0, .int .i64 0, .string (⟨#[]⟩), .int .i64 0, .string (⟨#[]⟩), .int .i64 0, .int .i64 0, .string (⟨#[]⟩), .string (⟨#[]⟩)]) (by simp [results, Tryz.results38, go_sem, *]) rfl ?_
  first | exact ⟨rfl, HB.out _ _ _⟩ | exact ⟨rfl, (HB.out _ _ _).drew⟩
theorem jhR (k c u p ek eu ef yc yu yp yek yeu yef : Int) (d eb eg et yd yeb yeg yet : ByteArray) (h : ¬ (c = yc ∧ u = yu ∧ p = yp ∧ d = yd ∧ ek = yek ∧ eb = yeb ∧ eu = yeu ∧ ef = yef ∧ eg = yeg ∧ et = yet)) (w : World) : (binOp .neq 34 (.agg #[.int .i64 k, .int .i64 c, .int .i64 u, .int .i64 p, .string d, .int .i64 ek, .string eb, .int .i64 eu, .int .i64 ef, .string eg, .string et]) (.agg #[.int .i64 k, .int .i64 yc, .int .i64 yu, .int .i64 yp, .string yd, .int .i64 yek, .string yeb, .int .i64 yeu, .int .i64 yef, .string yeg, .string yet])).run Tryz.prog w = .ok (.bool true) w := by
 by_cases h0 : c = yc
 · subst h0
   by_cases h1 : u = yu
   · subst h1
     by_cases h2 : p = yp
     · subst h2
       by_cases h3 : d = yd
       · subst h3; have e3 := ql d
         by_cases h4 : ek = yek
         · subst h4
           by_cases h5 : eb = yeb
           · subst h5; have e5 := ql eb
             by_cases h6 : eu = yeu
             · subst h6
               by_cases h7 : ef = yef
               · subst h7
                 by_cases h8 : eg = yeg
                 · subst h8; have e8 := ql eg; have h9 : ¬ et = yet := fun h9 => h ⟨rfl, rfl, rfl, rfl, rfl, rfl, rfl, rfl, rfl, h9⟩
                   have e9 := jaF h9; clear h h9
                   simp [go_sem, *]
                 · have e8 := jaF h8; clear h h8
                   simp [go_sem, *]
               · have e7 : (ef == yef) = false := by rw [beq_eq_false_iff_ne]; exact h7
                 clear h h7
                 simp [go_sem, *]
             · have e6 : (eu == yeu) = false := by rw [beq_eq_false_iff_ne]; exact h6
               clear h h6
               simp [go_sem, *]
           · have e5 := jaF h5; clear h h5
             simp [go_sem, *]
         · have e4 : (ek == yek) = false := by rw [beq_eq_false_iff_ne]; exact h4
           clear h h4
           simp [go_sem, *]
       · have e3 := jaF h3; clear h h3
         simp [go_sem, *]
     · have e2 : (p == yp) = false := by rw [beq_eq_false_iff_ne]; exact h2
       clear h h2
       simp [go_sem, *]
   · have e1 : (u == yu) = false := by rw [beq_eq_false_iff_ne]; exact h1
     clear h h1
     simp [go_sem, *]
 · have e0 : (c == yc) = false := by rw [beq_eq_false_iff_ne]; exact h0
   clear h h0
   simp [go_sem, *]
theorem jjR (k c u p ek eu ef : Int) (d eb eg et : ByteArray) (w : World) : (binOp .neq 34 (.agg #[.int .i64 k, .int .i64 c, .int .i64 u, .int .i64 p, .string d, .int .i64 ek, .string eb, .int .i64 eu, .int .i64 ef, .string eg, .string et]) (.agg #[.int .i64 k, .int .i64 c, .int .i64 u, .int .i64 p, .string d, .int .i64 ek, .string eb, .int .i64 eu, .int .i64 ef, .string eg, .string et])).run Tryz.prog w = .ok (.bool false) w := by
 have e1 := ql d; have e2 := ql eb; have e3 := ql eg; have e4 := ql et
 simp [go_sem, *]
theorem jls (k c u p ek eu ef yc yu yp yek yeu yef : Int) (d eb eg et yd yeb yeg yet : ByteArray) (h : c = yc ∧ u = yu ∧ p = yp ∧ d = yd ∧ ek = yek ∧ eb = yeb ∧ eu = yeu ∧ ef = yef ∧ eg = yeg ∧ et = yet) (w : World) : (binOp .neq 34 (.agg #[.int .i64 k, .int .i64 c, .int .i64 u, .int .i64 p, .string d, .int .i64 ek, .string eb, .int .i64 eu, .int .i64 ef, .string eg, .string et]) (.agg #[.int .i64 k, .int .i64 yc, .int .i64 yu, .int .i64 yp, .string yd, .int .i64 yek, .string yeb, .int .i64 yeu, .int .i64 yef, .string yeg, .string yet])).run Tryz.prog w = .ok (.bool false) w := by
 obtain ⟨rfl, rfl, rfl, rfl, rfl, rfl, rfl, rfl, rfl, rfl⟩ := h; exact jjR _ _ _ _ _ _ _ _ _ _ _ w
def entZ (ek eu ef : Int) (eb eg et : List UInt8) : Prop := ek = 0 ∧ eb = [] ∧ eu = 0 ∧ ef = 0 ∧ eg = [] ∧ et = []
def actB (k c u p : Int) (d : List UInt8) (z : Prop) : Prop := (k = 1 ∨ (c = 0 ∧ d = [])) ∧ (k = 3 ∨ p = 0) ∧ (k = 5 ∨ (u = 0 ∧ z))
def actR (k c u p : Int) : Prop := (k = 1 → 0 ≤ c ∧ c ≤ 2) ∧ (k = 3 → 0 ≤ p ∧ p ≤ 100000) ∧ (k = 5 → 0 ≤ u ∧ u ≤ 2)
def ActE (k c u p : Int) (d : List UInt8) (z : Prop) (e : Int) : Prop :=
 (¬ (1 ≤ k ∧ k ≤ 5) ∧ e = 2) ∨ ((1 ≤ k ∧ k ≤ 5) ∧ ((¬ actR k c u p ∧ e = 6) ∨ (actR k c u p ∧ ((k = 1 ∧ 3000 < d.length ∧ e = 1) ∨ (¬ (k = 1 ∧ 3000 < d.length) ∧ ((¬ actB k c u p d z ∧ e = 3) ∨ (actB k c u p d z ∧ e = 0)))))))
theorem jfT {k c u p : Int} {d : List UInt8} {z : Prop} {e f : Int} (h : ActE k c u p d z e) (g : ActE k c u p d z f) : e = f := by
 unfold ActE at h g
 rcases h with ⟨h1, h2⟩ | ⟨h1, ⟨h3, h2⟩ | ⟨h3, ⟨h4, h5, h2⟩ | ⟨h4, ⟨h5, h2⟩ | ⟨h5, h2⟩⟩⟩⟩ <;>
 rcases g with ⟨g1, g2⟩ | ⟨g1, ⟨g3, g2⟩ | ⟨g3, ⟨g4, g5, g2⟩ | ⟨g4, ⟨g5, g2⟩ | ⟨g5, g2⟩⟩⟩⟩ <;>
 first | exact h2.trans g2.symm | (exfalso; first | exact g1 h1 | exact h1 g1 | exact g3 h3 | exact h3 g3 | exact g4 (And.intro h4 h5) | exact h4 (And.intro g4 g5) | exact g5 h5 | exact h5 g5 | fail)
def InP (k c u p : Int) (e : Ending) : Prop := ∃ b : Bool, e = .returned (.bool b) ∧ (b = true ↔ actR k c u p)
def ChP (k c u p : Int) (d : List UInt8) (z : Prop) (e : Ending) : Prop := ∃ r, e = .returned (.int .i64 r) ∧ ActE k c u p d z r
theorem jbJ {l : List UInt8} (h : (S l : ByteArray) = ⟨#[]⟩) : l = [] := by
 have := congrArg (fun b => b.data.toList) h
 simpa [jj] using this
theorem jiv (k c u p : Int) (d : ByteArray) (ek eu ef : Int) (eb eg et : ByteArray) (w : World) : Calls Tryz.prog 37 #[.agg #[.int .i64 k, .int .i64 c, .int .i64 u, .int .i64 p, .string d, .int .i64 ek, .string eb, .int .i64 eu, .int .i64 ef, .string eg, .string et]] w fun e w' => InP k c u p e ∧ Below w.heap.size w w' := by
 have HB := hidp (show ∀ a : Obj, Below w.heap.size w (w.alloc a) from fun a => (Below.refl _ _).alloc (Nat.le_refl _) a); go_enter Tryz.func37, Tryz.ntmps37; go_wp2
 all_goals
  go_ret; refine ⟨⟨_, rfl, ?_⟩, HB.out _⟩; unfold actR
  simp_all <;> omega
theorem jjP {c u p ek eu ef : Int} {d eb eg et : List UInt8} (h : actB 1 c u p d (entZ ek eu ef eb eg et)) : c = c ∧ u = 0 ∧ p = 0 ∧ S d = (S d) ∧ ek = 0 ∧ S eb = ⟨#[]⟩ ∧ eu = 0 ∧ ef = 0 ∧ S eg = ⟨#[]⟩ ∧ S et = ⟨#[]⟩ := by
 unfold actB entZ at h; obtain ⟨h1, h2, h3⟩ := h; have g1 := h1.resolve_left; have g2 := h2.resolve_left; have g3 := h3.resolve_left; obtain h2 := g2 (by decide); obtain ⟨h4, h5, h6, h7, h8, h9, h10⟩ := g3 (by decide)
 subst_vars
 exact ⟨rfl, rfl, rfl, rfl, rfl, rfl, rfl, rfl, rfl, rfl⟩
theorem jkJ (c u p ek eu ef : Int) (d eb eg et : List UInt8) (hd : d.length ≤ 9223372036854775807) (w : World) : Calls Tryz.prog 23 #[.agg #[.int .i64 1, .int .i64 c, .int .i64 u, .int .i64 p, .string (S d), .int .i64 ek, .string (S eb), .int .i64 eu, .int .i64 ef, .string (S eg), .string (S et)]] w fun e w' => ChP 1 c u p d (entZ ek eu ef eb eg et) e ∧ Below w.heap.size w w' := by
 obtain ⟨W1, hW1⟩ : ∃ W1, W1 = w.alloc (.cells #[.int .i64 1, .int .i64 c, .int .i64 u, .int .i64 p, .string (S d), .int .i64 ek, .string (S eb), .int .i64 eu, .int .i64 ef, .string (S eg), .string (S et)] 34) := ⟨_, rfl⟩; have HWE := hidp hW1; have HB1 := hidp (show Below w.heap.size w W1 by rw [hW1]; exact nb0 _ _); have HX := hidp (show ∀ w', Below W1.heap.size W1 w' → w'.cell? ⟨w.heap.size, 0, none⟩ = some (.int .i64 1) ∧ w'.cell? ⟨w.heap.size, 1, none⟩ = some (.int .i64 c) ∧ w'.cell? ⟨w.heap.size, 2, none⟩ = some (.int .i64 u) ∧ w'.cell? ⟨w.heap.size, 3, none⟩ = some (.int .i64 p) ∧ w'.cell? ⟨w.heap.size, 4, none⟩ = some (.string (S d)) ∧ w'.cell? ⟨w.heap.size, 5, none⟩ = some (.int .i64 ek) ∧ w'.cell? ⟨w.heap.size, 6, none⟩ = some (.string (S eb)) ∧ w'.cell? ⟨w.heap.size, 7, none⟩ = some (.int .i64 eu) ∧ w'.cell? ⟨w.heap.size, 8, none⟩ = some (.int .i64 ef) ∧ w'.cell? ⟨w.heap.size, 9, none⟩ = some (.string (S eg)) ∧ w'.cell? ⟨w.heap.size, 10, none⟩ = some (.string (S et)) from fun w' hb => by
  have hs : w.heap.size < W1.heap.size := by rw [hW1]; simp
  refine ⟨?_, ?_, ?_, ?_, ?_, ?_, ?_, ?_, ?_, ?_, ?_⟩ <;> exact (hb.cell hs).trans (by rw [hW1]; simp))
 have HD := hidp hd; have HSZ := hidp (jd d); clear hW1 hd; obtain ⟨x0, x1, x2, x3, x4, x5, x6, x7, x8, x9, x10⟩ := HX.out W1 (Below.refl _ _); go_enter Tryz.func23, Tryz.ntmps23; go_wp2_with fail; rw [← HWE.out]; refine (jiv _ _ _ _ _ _ _ _ _ _ _ W1).mono ?_; rintro e w2 ⟨⟨b, rfl, hb⟩, hb2⟩; have HB := hidp hb; have HB2 := hidp hb2; clear hb x0 x1 x2 x3 x4 x5 x6 x7 x8 x9 x10; obtain ⟨y0, y1, y2, y3, y4, y5, y6, y7, y8, y9, y10⟩ := HX.out w2 hb2; clear hb2; cases b
 · go_wp2; go_ret; refine ⟨⟨6, rfl, Or.inr ⟨by decide, Or.inl ⟨fun h => ?_, rfl⟩⟩⟩, HB1.out.trans (HB2.out.mono HB1.out.size)⟩; have := HB.out.2 h
   simp at this
 · have HR := hidp (HB.out.1 rfl); clear HB
   by_cases hl : 3000 < d.length
   · have hl' : (3000 : Int) < ((S d).size : Int) := by rw [HSZ.out]; omega
     have HL := hidp hl; clear hl; go_wp2; go_ret; exact ⟨⟨1, rfl, Or.inr ⟨by decide, Or.inr ⟨HR.out, Or.inl ⟨rfl, HL.out, rfl⟩⟩⟩⟩, HB1.out.trans (HB2.out.mono HB1.out.size)⟩
   have hl' : ¬ (3000 : Int) < ((S d).size : Int) := by rw [HSZ.out]; omega
   have HL := hidp (show ¬ 3000 < d.length from hl); clear hl; have HBR := hidp (fun v : World => jmB c u p ek eu ef d eb eg et v)
   by_cases hall : c = c ∧ u = 0 ∧ p = 0 ∧ S d = (S d) ∧ ek = 0 ∧ S eb = ⟨#[]⟩ ∧ eu = 0 ∧ ef = 0 ∧ S eg = ⟨#[]⟩ ∧ S et = ⟨#[]⟩
   · have HACT := hidp (show actB 1 c u p d (entZ ek eu ef eb eg et) by
        obtain ⟨h0, h1, h2, h3, h4, h5, h6, h7, h8, h9⟩ := hall; exact ⟨Or.inl rfl, Or.inr h2, Or.inr ⟨h1, h4, jbJ h5, h6, h7, jbJ h8, jbJ h9⟩⟩)
     have hne := fun v : World => jls 1 c u p ek eu ef c 0 0 0 0 0 (S d) (S eb) (S eg) (S et) (S d) ⟨#[]⟩ ⟨#[]⟩ ⟨#[]⟩ hall v
     clear hall; go_upto_region 7 with fail
     go_cut [1, 2, 26] (fun a b c wx => a = .pointer (some ⟨w.heap.size, 0, none⟩) ∧ c = .bool false ∧ Below W1.heap.size W1 wx)
     case first =>
        go_region_held3 (fun w' => w'.cell? ⟨w.heap.size, 0, none⟩ = some (.int .i64 1) ∧ w'.cell? ⟨w.heap.size, 1, none⟩ = some (.int .i64 c) ∧ w'.cell? ⟨w.heap.size, 2, none⟩ = some (.int .i64 u) ∧ w'.cell? ⟨w.heap.size, 3, none⟩ = some (.int .i64 p) ∧ w'.cell? ⟨w.heap.size, 4, none⟩ = some (.string (S d)) ∧ w'.cell? ⟨w.heap.size, 5, none⟩ = some (.int .i64 ek) ∧ w'.cell? ⟨w.heap.size, 6, none⟩ = some (.string (S eb)) ∧ w'.cell? ⟨w.heap.size, 7, none⟩ = some (.int .i64 eu) ∧ w'.cell? ⟨w.heap.size, 8, none⟩ = some (.int .i64 ef) ∧ w'.cell? ⟨w.heap.size, 9, none⟩ = some (.string (S eg)) ∧ w'.cell? ⟨w.heap.size, 10, none⟩ = some (.string (S et))) (go_keep)
         (first
           | (go_at_call 38
              with_reducible refine (HBR.out w2.drew).mono ?_
              rintro e w3 ⟨rfl, hb⟩; have hb3 : Below W1.heap.size W1 w3 := (HB2.out.drew).trans (hb.mono HB2.out.size); have HB3 := hidp hb3; obtain ⟨z0, z1, z2, z3, z4, z5, z6, z7, z8, z9, z10⟩ := HX.out w3 hb3; clear hb hb3)
           | fail)
        all_goals
         go_wp2
         first | (go_meet; exact ⟨rfl, rfl, HB3.out⟩) | fail
     case rest =>
        obtain ⟨rfl, rfl, hb3⟩ := hcut; have HB3 := hidp hb3; clear hb3; go_wp2; go_ret; exact ⟨⟨0, rfl, Or.inr ⟨by decide, Or.inr ⟨HR.out, Or.inr ⟨fun h => HL.out h.2, Or.inr ⟨HACT.out, rfl⟩⟩⟩⟩⟩, HB1.out.trans (HB3.out.mono HB1.out.size)⟩
   · have HACT := hidp (show ¬ actB 1 c u p d (entZ ek eu ef eb eg et) from fun h => hall (jjP h)); have hne := fun v : World => jhR 1 c u p ek eu ef c 0 0 0 0 0 (S d) (S eb) (S eg) (S et) (S d) ⟨#[]⟩ ⟨#[]⟩ ⟨#[]⟩ hall v
     clear hall; go_upto_region 7 with fail
     go_cut [1, 2, 26] (fun a b c wx => a = .pointer (some ⟨w.heap.size, 0, none⟩) ∧ c = .bool true ∧ Below W1.heap.size W1 wx)
     case first =>
        go_region_held3 (fun w' => w'.cell? ⟨w.heap.size, 0, none⟩ = some (.int .i64 1) ∧ w'.cell? ⟨w.heap.size, 1, none⟩ = some (.int .i64 c) ∧ w'.cell? ⟨w.heap.size, 2, none⟩ = some (.int .i64 u) ∧ w'.cell? ⟨w.heap.size, 3, none⟩ = some (.int .i64 p) ∧ w'.cell? ⟨w.heap.size, 4, none⟩ = some (.string (S d)) ∧ w'.cell? ⟨w.heap.size, 5, none⟩ = some (.int .i64 ek) ∧ w'.cell? ⟨w.heap.size, 6, none⟩ = some (.string (S eb)) ∧ w'.cell? ⟨w.heap.size, 7, none⟩ = some (.int .i64 eu) ∧ w'.cell? ⟨w.heap.size, 8, none⟩ = some (.int .i64 ef) ∧ w'.cell? ⟨w.heap.size, 9, none⟩ = some (.string (S eg)) ∧ w'.cell? ⟨w.heap.size, 10, none⟩ = some (.string (S et))) (go_keep)
         (first
           | (go_at_call 38
              with_reducible refine (HBR.out w2.drew).mono ?_
              rintro e w3 ⟨rfl, hb⟩; have hb3 : Below W1.heap.size W1 w3 := (HB2.out.drew).trans (hb.mono HB2.out.size); have HB3 := hidp hb3; obtain ⟨z0, z1, z2, z3, z4, z5, z6, z7, z8, z9, z10⟩ := HX.out w3 hb3; clear hb hb3)
           | fail)
        all_goals
         go_wp2
         first | (go_meet; exact ⟨rfl, rfl, HB3.out⟩) | fail
     case rest =>
        obtain ⟨rfl, rfl, hb3⟩ := hcut; have HB3 := hidp hb3; clear hb3; go_wp2; go_ret; exact ⟨⟨3, rfl, Or.inr ⟨by decide, Or.inr ⟨HR.out, Or.inr ⟨fun h => HL.out h.2, Or.inl ⟨HACT.out, rfl⟩⟩⟩⟩⟩, HB1.out.trans (HB3.out.mono HB1.out.size)⟩
theorem jjQ {c u p ek eu ef : Int} {d eb eg et : List UInt8} (h : actB 2 c u p d (entZ ek eu ef eb eg et)) : c = 0 ∧ u = 0 ∧ p = 0 ∧ S d = ⟨#[]⟩ ∧ ek = 0 ∧ S eb = ⟨#[]⟩ ∧ eu = 0 ∧ ef = 0 ∧ S eg = ⟨#[]⟩ ∧ S et = ⟨#[]⟩ := by
 unfold actB entZ at h; obtain ⟨h1, h2, h3⟩ := h; have g1 := h1.resolve_left; have g2 := h2.resolve_left; have g3 := h3.resolve_left; obtain ⟨h1, h1'⟩ := g1 (by decide); obtain h2 := g2 (by decide); obtain ⟨h4, h5, h6, h7, h8, h9, h10⟩ := g3 (by decide)
 subst_vars
 exact ⟨rfl, rfl, rfl, rfl, rfl, rfl, rfl, rfl, rfl, rfl⟩
theorem jkK (c u p ek eu ef : Int) (d eb eg et : List UInt8) (hd : d.length ≤ 9223372036854775807) (w : World) : Calls Tryz.prog 23 #[.agg #[.int .i64 2, .int .i64 c, .int .i64 u, .int .i64 p, .string (S d), .int .i64 ek, .string (S eb), .int .i64 eu, .int .i64 ef, .string (S eg), .string (S et)]] w fun e w' => ChP 2 c u p d (entZ ek eu ef eb eg et) e ∧ Below w.heap.size w w' := by
 obtain ⟨W1, hW1⟩ : ∃ W1, W1 = w.alloc (.cells #[.int .i64 2, .int .i64 c, .int .i64 u, .int .i64 p, .string (S d), .int .i64 ek, .string (S eb), .int .i64 eu, .int .i64 ef, .string (S eg), .string (S et)] 34) := ⟨_, rfl⟩; have HWE := hidp hW1; have HB1 := hidp (show Below w.heap.size w W1 by rw [hW1]; exact nb0 _ _); have HX := hidp (show ∀ w', Below W1.heap.size W1 w' → w'.cell? ⟨w.heap.size, 0, none⟩ = some (.int .i64 2) ∧ w'.cell? ⟨w.heap.size, 1, none⟩ = some (.int .i64 c) ∧ w'.cell? ⟨w.heap.size, 2, none⟩ = some (.int .i64 u) ∧ w'.cell? ⟨w.heap.size, 3, none⟩ = some (.int .i64 p) ∧ w'.cell? ⟨w.heap.size, 4, none⟩ = some (.string (S d)) ∧ w'.cell? ⟨w.heap.size, 5, none⟩ = some (.int .i64 ek) ∧ w'.cell? ⟨w.heap.size, 6, none⟩ = some (.string (S eb)) ∧ w'.cell? ⟨w.heap.size, 7, none⟩ = some (.int .i64 eu) ∧ w'.cell? ⟨w.heap.size, 8, none⟩ = some (.int .i64 ef) ∧ w'.cell? ⟨w.heap.size, 9, none⟩ = some (.string (S eg)) ∧ w'.cell? ⟨w.heap.size, 10, none⟩ = some (.string (S et)) from fun w' hb => by
  have hs : w.heap.size < W1.heap.size := by rw [hW1]; simp
  refine ⟨?_, ?_, ?_, ?_, ?_, ?_, ?_, ?_, ?_, ?_, ?_⟩ <;> exact (hb.cell hs).trans (by rw [hW1]; simp))
 have HD := hidp hd; have HSZ := hidp (jd d); clear hW1 hd; obtain ⟨x0, x1, x2, x3, x4, x5, x6, x7, x8, x9, x10⟩ := HX.out W1 (Below.refl _ _); go_enter Tryz.func23, Tryz.ntmps23; go_wp2_with fail; rw [← HWE.out]; refine (jiv _ _ _ _ _ _ _ _ _ _ _ W1).mono ?_; rintro e w2 ⟨⟨b, rfl, hb⟩, hb2⟩; have HB := hidp hb; have HB2 := hidp hb2; clear hb x0 x1 x2 x3 x4 x5 x6 x7 x8 x9 x10; obtain ⟨y0, y1, y2, y3, y4, y5, y6, y7, y8, y9, y10⟩ := HX.out w2 hb2; clear hb2; cases b
 · go_wp2; go_ret; refine ⟨⟨6, rfl, Or.inr ⟨by decide, Or.inl ⟨fun h => ?_, rfl⟩⟩⟩, HB1.out.trans (HB2.out.mono HB1.out.size)⟩; have := HB.out.2 h
   simp at this
 · have HR := hidp (HB.out.1 rfl); clear HB
   skip
   have HBR := hidp (fun v : World => jmC c u p ek eu ef d eb eg et v)
   by_cases hall : c = 0 ∧ u = 0 ∧ p = 0 ∧ S d = ⟨#[]⟩ ∧ ek = 0 ∧ S eb = ⟨#[]⟩ ∧ eu = 0 ∧ ef = 0 ∧ S eg = ⟨#[]⟩ ∧ S et = ⟨#[]⟩
   · have HACT := hidp (show actB 2 c u p d (entZ ek eu ef eb eg et) by
        obtain ⟨h0, h1, h2, h3, h4, h5, h6, h7, h8, h9⟩ := hall; exact ⟨Or.inr ⟨h0, jbJ h3⟩, Or.inr h2, Or.inr ⟨h1, h4, jbJ h5, h6, h7, jbJ h8, jbJ h9⟩⟩)
     have hne := fun v : World => jls 2 c u p ek eu ef 0 0 0 0 0 0 (S d) (S eb) (S eg) (S et) ⟨#[]⟩ ⟨#[]⟩ ⟨#[]⟩ ⟨#[]⟩ hall v
     clear hall; go_upto_region 7 with fail
     go_cut [1, 2, 26] (fun a b c wx => a = .pointer (some ⟨w.heap.size, 0, none⟩) ∧ c = .bool false ∧ Below W1.heap.size W1 wx)
     case first =>
        go_region_held3 (fun w' => w'.cell? ⟨w.heap.size, 0, none⟩ = some (.int .i64 2) ∧ w'.cell? ⟨w.heap.size, 1, none⟩ = some (.int .i64 c) ∧ w'.cell? ⟨w.heap.size, 2, none⟩ = some (.int .i64 u) ∧ w'.cell? ⟨w.heap.size, 3, none⟩ = some (.int .i64 p) ∧ w'.cell? ⟨w.heap.size, 4, none⟩ = some (.string (S d)) ∧ w'.cell? ⟨w.heap.size, 5, none⟩ = some (.int .i64 ek) ∧ w'.cell? ⟨w.heap.size, 6, none⟩ = some (.string (S eb)) ∧ w'.cell? ⟨w.heap.size, 7, none⟩ = some (.int .i64 eu) ∧ w'.cell? ⟨w.heap.size, 8, none⟩ = some (.int .i64 ef) ∧ w'.cell? ⟨w.heap.size, 9, none⟩ = some (.string (S eg)) ∧ w'.cell? ⟨w.heap.size, 10, none⟩ = some (.string (S et))) (go_keep)
         (first
           | (go_at_call 38
              with_reducible refine (HBR.out w2.drew).mono ?_
              rintro e w3 ⟨rfl, hb⟩; have hb3 : Below W1.heap.size W1 w3 := (HB2.out.drew).trans (hb.mono HB2.out.size); have HB3 := hidp hb3; obtain ⟨z0, z1, z2, z3, z4, z5, z6, z7, z8, z9, z10⟩ := HX.out w3 hb3; clear hb hb3)
           | fail)
        all_goals
         go_wp2
         first | (go_meet; exact ⟨rfl, rfl, HB3.out⟩) | fail
     case rest =>
        obtain ⟨rfl, rfl, hb3⟩ := hcut; have HB3 := hidp hb3; clear hb3; go_wp2; go_ret; exact ⟨⟨0, rfl, Or.inr ⟨by decide, Or.inr ⟨HR.out, Or.inr ⟨fun h => absurd h.1 (by decide), Or.inr ⟨HACT.out, rfl⟩⟩⟩⟩⟩, HB1.out.trans (HB3.out.mono HB1.out.size)⟩
   · have HACT := hidp (show ¬ actB 2 c u p d (entZ ek eu ef eb eg et) from fun h => hall (jjQ h)); have hne := fun v : World => jhR 2 c u p ek eu ef 0 0 0 0 0 0 (S d) (S eb) (S eg) (S et) ⟨#[]⟩ ⟨#[]⟩ ⟨#[]⟩ ⟨#[]⟩ hall v
     clear hall; go_upto_region 7 with fail
     go_cut [1, 2, 26] (fun a b c wx => a = .pointer (some ⟨w.heap.size, 0, none⟩) ∧ c = .bool true ∧ Below W1.heap.size W1 wx)
     case first =>
        go_region_held3 (fun w' => w'.cell? ⟨w.heap.size, 0, none⟩ = some (.int .i64 2) ∧ w'.cell? ⟨w.heap.size, 1, none⟩ = some (.int .i64 c) ∧ w'.cell? ⟨w.heap.size, 2, none⟩ = some (.int .i64 u) ∧ w'.cell? ⟨w.heap.size, 3, none⟩ = some (.int .i64 p) ∧ w'.cell? ⟨w.heap.size, 4, none⟩ = some (.string (S d)) ∧ w'.cell? ⟨w.heap.size, 5, none⟩ = some (.int .i64 ek) ∧ w'.cell? ⟨w.heap.size, 6, none⟩ = some (.string (S eb)) ∧ w'.cell? ⟨w.heap.size, 7, none⟩ = some (.int .i64 eu) ∧ w'.cell? ⟨w.heap.size, 8, none⟩ = some (.int .i64 ef) ∧ w'.cell? ⟨w.heap.size, 9, none⟩ = some (.string (S eg)) ∧ w'.cell? ⟨w.heap.size, 10, none⟩ = some (.string (S et))) (go_keep)
         (first
           | (go_at_call 38
              with_reducible refine (HBR.out w2.drew).mono ?_
              rintro e w3 ⟨rfl, hb⟩; have hb3 : Below W1.heap.size W1 w3 := (HB2.out.drew).trans (hb.mono HB2.out.size); have HB3 := hidp hb3; obtain ⟨z0, z1, z2, z3, z4, z5, z6, z7, z8, z9, z10⟩ := HX.out w3 hb3; clear hb hb3)
           | fail)
        all_goals
         go_wp2
         first | (go_meet; exact ⟨rfl, rfl, HB3.out⟩) | fail
     case rest =>
        obtain ⟨rfl, rfl, hb3⟩ := hcut; have HB3 := hidp hb3; clear hb3; go_wp2; go_ret; exact ⟨⟨3, rfl, Or.inr ⟨by decide, Or.inr ⟨HR.out, Or.inr ⟨fun h => absurd h.1 (by decide), Or.inl ⟨HACT.out, rfl⟩⟩⟩⟩⟩, HB1.out.trans (HB3.out.mono HB1.out.size)⟩
theorem RomOk.put {K : List (List UInt8)} {Cs : List (List Cmd)} {R : Rom} (h : RomOk K Cs R) (i : Nat) (c : Con) : RomOk K Cs (R.put i c) := by
 obtain ⟨h1, h2, h3, h4⟩ := h
 match i with
 | 0 | 1 | _ + 2 => exact ⟨h1, h2, h3, h4⟩
theorem jdb (K : List (List UInt8)) (Cs : List (List Cmd)) (B b : Nat) (G : List Nat) (R0 : Rom) (w : World) (i o : Nat) (hi : i < 3) (ho : o = 7 + i * 9) (s : Ses) (xs : List (List UInt8)) (l : List Int) (hR : RoomM K Cs B b G (R0.put i (lnsC s (jO xs) l)) w) (hO : RomOk K Cs R0) (hm : mayS s = true) (hok : qW K s xs = true)
 (hl : l.length + 6 * xs.length ≤ 1000000) (hx : (jO xs).length ≤ 1000000) (hM : ∀ w', Below B w w' → TabsM w') :
 Calls Tryz.prog 26 #[.pointer (some ⟨b, 0, none⟩), .pointer (some ⟨b, o, none⟩)] w (RmQ K Cs B b G w (R0.put i (lnsC (qJ K s xs).1 [] (l ++ (qJ K s xs).2))) (.tuple #[])) := by
 rw [← jc4 K R0 i xs s l _ hok (Nat.le_refl _)]; refine jlr K Cs B b G _ w hR i o hi ho (fun R x y => jkO noD K (R.put i (jbp (R.con i) y)) i x) (fun R' => ∃ s xs l, R' = R0.put i (lnsC s (jO xs) l) ∧ mayS s = true ∧ qW K s xs = true ∧ l.length + 6 * xs.length ≤ 1000000 ∧ (jO xs).length ≤ 1000000) ⟨s, xs, l, rfl, hm, hok, hl, hx⟩ (fun v hv => (hM v hv).2) ?_ ?_ _ (by rw [jV]; exact Nat.le_refl _)
 · rintro R' ⟨s', xs', l', rfl, _, _, _, h⟩; rw [jV]
   show (jO xs').length ≤ _
   omega
 · rintro R' G' w' x y ⟨s', xs', l', rfl, hm', hok', hl', hx'⟩ hd hc hb' hR'; simp only [jV, qm] at hc hR' ⊢; have hc1 : Lib.cut (jO xs') [13, 10] = (x, y, true) := hc
   match xs', hok', hl', hx', hc1 with
   | [], _, _, _, hc1 =>
     rw [show jO [] = [] from rfl, jlv] at hc1
     simp at hc1
   | x' :: t, hok', hl', hx', hc1 =>
     obtain ⟨q1, q2, q3, q4, q5⟩ := jbg hok'; rw [jf0 q1] at hc1; obtain ⟨rfl, rfl⟩ : x' = x ∧ jO t = y := by simpa using hc1
     rw [show jbp (lnsC s' (jO (x' :: t)) l') (jO t) = lnsC s' (jO t) l' from rfl] at hR' ⊢; rw [jb8 K R0 i s' (jO t) x' l' q2 q3]; have hlc := jkq hm' K x'; rw [List.length_cons] at hl'; have hft : (jO t).length ≤ 1000000 := by rw [qI] at hx'; simp at hx'; omega
     have hm2 := jku hm' K x'; have hcl : ((jH s' K x').2.2.map fun _ => (554 : Int)).length ≤ 5 := by rw [List.length_map]; exact jbA hm' K x'
     refine ⟨⟨_, t, _, rfl, hm2, q5, by rw [List.length_append]; omega, hft⟩, by rw [jV]; exact Nat.le_refl _, ?_⟩; obtain ⟨R3, hR3⟩ : ∃ R3, R3 = R0.put i (lnsC (jH s' K x').1 (jO t) (l' ++ (if (jH s' K x').2.1 = 0 then [] else [(jH s' K x').2.1]))) := ⟨_, rfl⟩; have e3 : (R0.put i (lnsC s' (jO t) l')).put i (lnC ((R0.put i (lnsC s' (jO t) l')).con i) (jH s' K x').1 (jH s' K x').2.1) = R3 := by
        rw [hR3, jV, qm]
        congr 1
        unfold lnC jfO lnsC jbt sesC; split <;> simp
     have t3 : (R3.con i).told.length ≤ l'.length + 1 := by
        rw [hR3, jV]
        show (l' ++ _).length ≤ _
        rw [List.length_append]; split <;> simp
     have h := jkP K Cs B b G' (R0.put i (lnsC s' (jO t) l')) w' hR' i o hi ho x' (by omega) s' (jH s' K x').1 (by rw [jV]; rfl) hm' (jH s' K x').2.1 (jH s' K x').2.2 rfl (jlB hm2) (jbA hm' K x') (by rw [jV]; show l'.length + 1 ≤ _; omega) R3 ((jH s' K x').2.2.map fun _ => 554) false (by omega)
        fun G4 w4 v hb4 hR4 hv => jk7 Cs B b G4 R3 w4 K (by rw [← e3]; exact hR4) (by rw [hR3]; exact hO.put _ _) (hM w4 (hb'.trans hb4)) _ v _ hv (jbA hm' K x') s'.large q2
     have e4 : R3.put i (jcx (zJ (R3.con i) ((jH s' K x').2.2.map fun _ => 554) false) (jH s' K x').1.step) = R0.put i (lnsC (jH s' K x').1 (jO t) (l' ++ lnCo (jH s' K x'))) := by
        rw [hR3, jV, qm]
        congr 1
        unfold jcx zJ; rw [if_neg q3, if_neg (by decide)]; unfold lnCo jbt lnsC
        simp
     rw [e4] at h; exact h
theorem jcn (K : List (List UInt8)) (Cs : List (List Cmd)) (B b : Nat) (G : List Nat) (R : Rom) (w : World) (hR : RoomM K Cs B b G R w) (i o : Nat) (hi : i < 3) (ho : o = 7 + i * 9) (s : Ses) (l : List Int) (hO : RomOk K Cs R) (hc : R.con i = lnsC s [] l) (hm : mayS s = true) (hl : l.length ≤ 1000000) (hM : ∀ w', Below B w w' → TabsM w') :
 Calls Tryz.prog 26 #[.pointer (some ⟨b, 0, none⟩), .pointer (some ⟨b, o, none⟩)] w (RmQ K Cs B b G w R (.tuple #[])) := by
 have e : R.put i (lnsC s (jO []) l) = R := by
  show R.put i (lnsC s [] l) = R
  rw [← hc]; exact jdn R i hi
 have h := jdb K Cs B b G R w i o hi ho s [] l (by rw [e]; exact hR) hO hm rfl (by simpa using hl) (by simp [jO]) hM; have e2 : R.put i (lnsC (qJ K s []).1 [] (l ++ (qJ K s []).2)) = R := by
  show R.put i (lnsC s [] (l ++ [])) = R
  rw [List.append_nil]; exact e
 rw [e2] at h; exact h
def linA (i : Nat) (xs : List (List UInt8)) : Acu := ⟨1, i, 0, 0, jO xs, jmr⟩
theorem jj5 (K : List (List UInt8)) (Cs : List (List Cmd)) (B b : Nat) (G : List Nat) (R0 : Rom) (w : World) (i : Nat) (hi : i < 3) (s : Ses) (xs : List (List UInt8)) (l : List Int) (hR : RoomM K Cs B b G (R0.put i (lnsC s [] l)) w) (hup : R0.up = true) (hO : RomOk K Cs R0) (hm : mayS s = true) (hs5 : s.step ≠ 5) (hok : qW K s xs = true) (hne : xs ≠ [])
 (hl : l.length + 6 * xs.length ≤ 1000000) (hx : (jO xs).length ≤ 1000000) (hM : ∀ w', Below B w w' → TabsM w') :
 Calls Tryz.prog 15 #[.pointer (some ⟨b, 0, none⟩), .agg (acuC (linA i xs)).toArray] w (RmQ K Cs B b G w (R0.put i (lnsC (qJ K s xs).1 [] (l ++ (qJ K s xs).2))) (.tuple #[])) := by
 have hfe : jO xs ≠ [] := by
  cases xs with
  | nil => exact absurd rfl hne
  | cons x t => rw [qI]; simp
 refine jl7 K Cs B b G (R0.put i (lnsC s [] l)) w hR i (7 + i * 9) hi rfl (by rw [jnl]; exact hup) (linA i xs) rfl rfl hfe (by rw [jV]; show (0 : Nat) + (jO xs).length ≤ _; omega) _ fun G' w' hb' hR' => ?_
 have e1 : (R0.put i (lnsC s [] l)).put i (jct ((R0.put i (lnsC s [] l)).con i) (linA i xs).data) = R0.put i (lnsC s (jO xs) l) := by
  rw [jV, qm]; unfold jct; rw [if_neg (show (lnsC s [] l).ses.step ≠ 5 from hs5)]; rfl
 rw [e1] at hR'; exact jdb K Cs B b G' R0 w' i _ hi rfl s xs l hR' hO hm hok hl hx fun v hv => hM v (hb'.trans hv)
theorem jiI (i : Nat) (hi : i < 3) (xs : List (List UInt8)) (hx : (jO xs).length ≤ 3000) (u : World) : Calls Tryz.prog 23 #[.agg (acuC (linA i xs)).toArray] u fun e u' => e = .returned (.int .i64 0) ∧ Below u.heap.size u u' := by
 refine (jkJ i 0 0 0 0 0 (jO xs) [] [] [] (by omega) u).mono ?_; rintro e u' ⟨⟨r, rfl, hA⟩, hb⟩; refine ⟨?_, hb⟩; have h0 : ActE 1 i 0 0 (jO xs) (entZ 0 0 0 [] [] []) 0 := by
  refine .inr ⟨by decide, .inr ⟨⟨fun _ => by omega, fun h => by omega, fun h => by omega⟩, .inr ⟨fun h => by omega, .inr ⟨⟨.inl rfl, .inr rfl, .inr ⟨rfl, rfl, rfl, rfl, rfl, rfl, rfl⟩⟩, rfl⟩⟩⟩⟩
 rw [jfT hA h0]
theorem jk1 (a : Option Addr) (c : Nat) (l : List UInt8) (s : Int) (Q : Nat → Prop) (w : World) (h : BysM Q w (.slice a l.length c) l) :
 Calls Tryz.prog 76 #[.agg #[.slice a l.length c, .int .i64 s]] w (if mayN l.length s then TpP w l l.length 0 else TpP w [] 0 11) := by
 obtain ⟨W1, hW1⟩ : ∃ W1, W1 = (w.alloc (.cells #[.slice a l.length c, .int .i64 s] 71)).alloc (.cells #[.slice none 0 0, .int .i64 0] 71) := ⟨_, rfl⟩; have HWE := bhid hW1; have HB1 := bhid (show Below w.heap.size w W1 by rw [hW1]; exact jmO _ _ _); have hp0 : W1.heap[w.heap.size]? = some (.cells #[.slice a l.length c, .int .i64 s] 71) := by rw [hW1]; exact (jjD w _ _).1
 have hr0 : W1.heap[w.heap.size + 1]? = some (.cells #[.slice none 0 0, .int .i64 0] 71) := by rw [hW1]; exact (jjD w _ _).2
 have HP := bhid hp0; have HR := bhid hr0; obtain ⟨x0, x1, _, _⟩ := jah hp0; have HH := bhid (h.next HB1.out); cases hm : mayN l.length s with
 | false =>
   rw [if_neg (by simp)]; have HM := bhid hm; clear hm h hp0 hr0 hW1; go_enter Tryz.func76, Tryz.ntmps76; go_wp2_with fail; rw [← HWE.out]; refine (jgo a l.length c s W1).mono ?_; rintro e w2 ⟨rfl, hb⟩; rw [HM.out]; obtain ⟨y0, y1, f0, f1⟩ := jah (jbN hb HR.out); obtain ⟨z0, z1, _, _⟩ := jah (jlt (u0 := .slice none 0 0) (u1 := .int .i64 0) (jbN hb HR.out)); have HE := bhid (TpP.refused w w2 11 (w.heap.size + 1) (Nat.le_succ _) (HB1.out.trans (hb.mono HB1.out.size))); clear hb; go_wp2; refine bodyPost_ret (v := .tuple #[.agg #[.slice none 0 0, .int .i64 0], .int .i64 11]) (by simp [results, Tryz.results76, go_sem, *]) rfl ?_; exact HE.out
 | true =>
   rw [if_pos rfl]; have HM := bhid hm; have hl : l.length ≤ 140737488355328 := by
    unfold mayN at hm
    simp at hm
    omega
   clear hm h hp0 hr0 hW1; go_enter Tryz.func76, Tryz.ntmps76; go_wp2_with fail; rw [← HWE.out]; refine (jgo a l.length c s W1).mono ?_; rintro e w2 ⟨rfl, hb⟩; rw [HM.out]; have hP2 := jbN hb HP.out; have hR2 := jbN hb HR.out; obtain ⟨y0, y1, _, _⟩ := jah hP2; have HB2 := bhid (HB1.out.trans (hb.mono HB1.out.size)); have HC := bhid (fun (u : World) (hu : Below w2.heap.size w2 u) => jjW a c l Q u ((HH.out.next hb).next hu) hl); have HP2 := bhid hP2; have HR2 := bhid hR2; clear hb hP2 hR2 x0 x1 hl; go_upto_region 3 with fail
   go_region_held3 (fun w' => w'.cell? ⟨w.heap.size, 0, none⟩ = some (.slice a l.length c) ∧ w'.cell? ⟨w.heap.size, 1, none⟩ = some (.int .i64 s)) (go_keep)
    (first
        | (go_at_call 109
           with_reducible refine (HC.out w2.drew (Below.refl _ _).drew).mono ?_
           rintro e w3 ⟨a3, c3, rfl, hO3, hb3⟩; have hb3' : Below w2.heap.size w2 w3 := (Below.refl _ _).drew.trans hb3; obtain ⟨z0, z1, _, _⟩ := jah (jbN hb3' HP2.out); obtain ⟨r0, r1, f0, f1⟩ := jah (jbN hb3' HR2.out); obtain ⟨q0, q1, _, _⟩ := jah (jlt (u0 := .slice a3 l.length c3) (u1 := .int .i64 l.length) (jbN hb3' HR2.out)); have HE := bhid (TpP.done (s := l.length) (p := w.heap.size + 1) (Nat.le_succ _) (Array.getElem?_eq_some_iff.1 HR2.out).1 HB2.out (show TpC w2 l (.returned (.slice a3 l.length c3)) w3 from ⟨a3, c3, rfl, hO3, hb3'⟩)); clear hO3 hb3 hb3')
        | fail)
   all_goals
    go_wp2; refine bodyPost_ret (v := .tuple #[.agg #[.slice a3 l.length c3, .int .i64 l.length], .int .i64 0]) (by simp [results, Tryz.results76, go_sem, *]) rfl ?_; exact HE.out
end Go.Proofs.YtmgdnhjemhhleaaGreatDoor
