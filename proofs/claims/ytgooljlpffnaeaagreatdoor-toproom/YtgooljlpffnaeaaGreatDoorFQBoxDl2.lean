/-
  What is deleted goes: the walk of slices.DeleteFunc on mails.
-/
import Derived.Maps.AppendAt
import Derived.Test.YtgooljlpffnaeaaGreatDoorFQBoxSo3
set_option maxHeartbeats 1000000
set_option maxRecDepth 100000
namespace Go.Proofs.YtgooljlpffnaeaaGreatDoor
open Go.RowKit Go.Proofs
theorem jjM (f : Int) (h0 : 0 ≤ f) (h1 : f ≤ 31) : (bits .and .i64 f 8 != 0) = decide (f / 8 % 2 = 1) := by
 obtain ⟨n, rfl⟩ := Int.eq_ofNat_of_zero_le h0; have hn : n < 32 := by omega
 have : ∀ k : Fin 32, (bits .and .i64 ((k.val : Nat) : Int) 8 != 0) = decide (((k.val : Nat) : Int) / 8 % 2 = 1) := by decide
 exact this ⟨n, hn⟩
theorem jdV (z f : Int) (t : List UInt8) (w : World) (h0 : 0 ≤ f) (h1 : f ≤ 31) :
 Calls Tryz.prog 95 #[.agg #[.int .i64 z, .int .i64 f, .string (S t)]] w fun e w' => e = .returned (.bool (decide (f / 8 % 2 = 1))) ∧ Below w.heap.size w w' := by
 have HB := hid (show Below w.heap.size w (w.alloc (.cells #[.int .i64 z, .int .i64 f, .string (S t)] 173)) from nb0 _ _); have HD := hid (jjM f h0 h1); clear h0 h1; go_enter Tryz.func95, Tryz.ntmps95; go_wp2; go_ret; exact ⟨jc HD.out, HB.out⟩
theorem jga (w : World) (b o n c : Nat) (hn : 0 < n) (hc : ∀ j, j < n * 3 → (w.cell? ⟨b, o + j, none⟩).isSome = true) (hf : ∀ j, j < n * 3 → w.frozen? ⟨b, o + j, none⟩ = false) :
 ∃ vs : List Value, vs.length = n * 3 ∧ ∀ ty, (Builtin.clear_ #[38] ty #[.slice (some ⟨b, o, none⟩) n c]).run Tryz.prog w = .ok (.tuple #[]) (w.setCells b o vs) := by
 have hv : ∀ w, (zeroValue 173).run Tryz.prog w = .ok (.agg #[.int .i64 0, .int .i64 0, .string ByteArray.empty]) w := Tryz.zeroValue173; have hz : (Value.agg #[.int .i64 0, .int .i64 0, .string ByteArray.empty]).cells = #[.int .i64 0, .int .i64 0, .string ByteArray.empty] := rfl; have hl : (Builtin.zeroCells #[.int .i64 0, .int .i64 0, .string ByteArray.empty] n).toList.length = n * 3 := by rw [Array.length_toList, size_zeroCells]; rfl
 have h1 : ∀ v ∈ (Builtin.zeroCells #[.int .i64 0, .int .i64 0, .string ByteArray.empty] n).toList, v.oneCell' = true := by
  intro v hv; simp only [Builtin.zeroCells, Array.toList_map, List.mem_map] at hv; obtain ⟨k, _, rfl⟩ := hv; have h3 : k % 3 = 0 ∨ k % 3 = 1 ∨ k % 3 = 2 := by omega
  show ((#[.int .i64 0, .int .i64 0, .string ByteArray.empty] : Array Value)[k % 3]!).oneCell' = true
  rcases h3 with h | h | h <;> rw [h] <;> rfl
 have hst := run_storeCells_cells (P := Tryz.prog) b o (Builtin.zeroCells #[.int .i64 0, .int .i64 0, .string ByteArray.empty] n).toList 0 w (by rw [hl]; simpa using hc) (by rw [hl]; simpa using hf) h1; simp only [Nat.add_zero] at hst; refine ⟨_, hl, fun ty => ?_⟩; obtain ⟨m, rfl⟩ : ∃ m, n = m + 1 := ⟨n - 1, by omega⟩
 simp [Builtin.clear_, run_underlying Tryz.underlying38, hv, hz, hst]
theorem jaq (b : Nat) (t : TypeId) : ∀ (vs : List Value) (o : Nat) (w : World) (cur : Array Value), w.heap[b]? = some (.cells cur t (0, 0)) → ∃ cur', (w.setCells b o vs).heap[b]? = some (.cells cur' t (0, 0)) ∧ cur'.size = cur.size ∧ ∀ j, j < o → cur'[j]? = cur[j]?
 | [], _, _, cur, h => ⟨cur, h, rfl, fun _ _ => rfl⟩
 | v :: r, o, w, cur, h => by
   obtain ⟨cur', h1, h2, h3⟩ := jaq b t r (o + 1) (w.setCell ⟨b, o, none⟩ v) _ (heap_setCell_same w b o cur t v h); refine ⟨cur', h1, by rw [h2]; simp, fun j hj => ?_⟩; rw [h3 j (by omega), Array.getElem?_setIfInBounds_ne (by omega)]
theorem jar (b : Nat) : ∀ (vs : List Value) (o : Nat) (w : World), w.grownBy (w.setCells b o vs) (some b)
 | [], _, w => World.grownBy.refl w _
 | v :: r, o, w => by
   have h1 : w.grownBy (w.setCell ⟨b, o, none⟩ v) (some b) := ⟨rfl, rfl, rfl, by simp [World.setCell], fun k hk hne => jp fun e => hne (by rw [e])⟩; exact h1.trans (jar b r (o + 1) _)
theorem jiS (w : World) (b j : Nat) (v : Value) : w.grownBy (w.setCell ⟨b, j, none⟩ v) (some b) := ⟨rfl, rfl, rfl, by simp [World.setCell], fun k hk hne => jp fun e => hne (by rw [e])⟩
def DelI (l : List Mail) (g cap i j : Nat) (w : World) : Prop := ∃ cur : Array Value, w.heap[g]? = some (.cells cur 173 (0, 0)) ∧ cur.size = cap * 3 ∧ cur.toList.take (i * 3) = (((l.take j).filter fun m => !zU m).map j9).flatten ∧ ((l.take j).filter fun m => !zU m).length = i ∧
 ∀ (q : Nat) x, j ≤ q → l[q]? = some x → ∀ (r : Nat) u, (j9 x)[r]? = some u → cur[q * 3 + r]? = some u
theorem DelI.next {l : List Mail} {g cap i j : Nat} {w w' : World} (h : DelI l g cap i j w) (hb : Below w.heap.size w w') : DelI l g cap i j w' := by
 obtain ⟨cur, h1, h2⟩ := h; exact ⟨cur, (hb.block g (Array.getElem?_eq_some_iff.1 h1).1).trans h1, h2⟩
theorem DelI.lt {l : List Mail} {g cap i j : Nat} {w : World} (h : DelI l g cap i j w) : i ≤ j := by
 obtain ⟨_, _, _, _, h, _⟩ := h; rw [← h]; exact Nat.le_trans (List.length_filter_le _ _) (by rw [List.length_take]; omega)
theorem DelI.at {l : List Mail} {g cap i j : Nat} {w : World} {x : Mail} (h : DelI l g cap i j w) (hx : l[j]? = some x) : w.cell? ⟨g, j * 3, none⟩ = some (.int .i64 x.uid) ∧ w.cell? ⟨g, j * 3 + 1, none⟩ = some (.int .i64 x.flags) ∧ w.cell? ⟨g, j * 3 + 2, none⟩ = some (.string (S x.text)) := by
 obtain ⟨cur, h1, _, _, _, h2⟩ := h; refine ⟨?_, ?_, ?_⟩
 · have := h2 j x (Nat.le_refl _) hx 0 _ rfl; simp [World.cell?, h1] ; simpa using this
 · have := h2 j x (Nat.le_refl _) hx 1 _ rfl; simp [World.cell?, h1, this]
 · have := h2 j x (Nat.le_refl _) hx 2 _ rfl; simp [World.cell?, h1, this]
theorem DelI.there {l : List Mail} {g cap i j : Nat} {w : World} (h : DelI l g cap i j w) : ∀ k, k < cap * 3 → (∃ v, w.cell? ⟨g, k, none⟩ = some v) ∧ w.frozen? ⟨g, k, none⟩ = false := by
 obtain ⟨cur, h1, h2, _⟩ := h; intro k hk; exact ⟨⟨_, by simp [World.cell?, h1]; exact Array.getElem?_eq_getElem (by omega)⟩, by simp [World.frozen?, h1]⟩
theorem jcu {l : List Mail} {j : Nat} {x : Mail} (hx : l[j]? = some x) : l.take (j + 1) = l.take j ++ [x] := by
 have hj : j < l.length := (List.getElem?_eq_some_iff.1 hx).1; rw [List.take_succ_eq_append_getElem hj, (List.getElem?_eq_some_iff.1 hx).2]
theorem DelI.drop {l : List Mail} {g cap i j : Nat} {w : World} {x : Mail} (h : DelI l g cap i j w) (hx : l[j]? = some x) (hd : zU x = true) : DelI l g cap i (j + 1) w := by
 obtain ⟨cur, h1, h2, h3, h4, h5⟩ := h; have e : ((l.take (j + 1)).filter fun m => !zU m) = ((l.take j).filter fun m => !zU m) := by rw [jcu hx, List.filter_append]; simp [hd]
 exact ⟨cur, h1, h2, by rw [e]; exact h3, by rw [e]; exact h4, fun q y hq => h5 q y (by omega)⟩
theorem jkv (cur : Array Value) (i : Nat) (a b c : Value) (h : i + 2 < cur.size) : (((cur.setIfInBounds i a).setIfInBounds (i + 1) b).setIfInBounds (i + 2) c).toList.take (i + 3) = cur.toList.take i ++ [a, b, c] := by
 apply List.ext_getElem?
 intro k; rw [List.getElem?_take]
 by_cases hk : k < i + 3
 · rw [if_pos hk]; simp only [Array.getElem?_toList]
   by_cases h2 : k = i + 2
   · subst h2; rw [Array.getElem?_setIfInBounds_self_of_lt (by simp; omega), List.getElem?_append_right (by simp; omega)]; have : i + 2 - (cur.toList.take i).length = 2 := by simp; omega
     rw [this]; rfl
   · rw [Array.getElem?_setIfInBounds_ne (by omega)]
     by_cases h1 : k = i + 1
     · subst h1; rw [Array.getElem?_setIfInBounds_self_of_lt (by simp; omega), List.getElem?_append_right (by simp; omega)]; have : i + 1 - (cur.toList.take i).length = 1 := by simp; omega
       rw [this]; rfl
     · rw [Array.getElem?_setIfInBounds_ne (by omega)]
       by_cases h0 : k = i
       · subst h0; rw [Array.getElem?_setIfInBounds_self_of_lt (by omega), List.getElem?_append_right (by simp; omega)]; have : k - (cur.toList.take k).length = 0 := by simp; omega
         rw [this]; rfl
       · rw [Array.getElem?_setIfInBounds_ne (by omega), List.getElem?_append_left (by simp; omega), List.getElem?_take, if_pos (by omega), Array.getElem?_toList]
 · rw [if_neg hk, List.getElem?_eq_none (by simp; omega)]
theorem DelI.keep {l : List Mail} {g cap i j : Nat} {w : World} {x : Mail} (h : DelI l g cap i j w) (hx : l[j]? = some x) (hd : zU x = false) (hcap : l.length ≤ cap) :
 DelI l g cap (i + 1) (j + 1) (((w.setCell ⟨g, i * 3, none⟩ (.int .i64 x.uid)).setCell ⟨g, i * 3 + 1, none⟩ (.int .i64 x.flags)).setCell ⟨g, i * 3 + 2, none⟩ (.string (S x.text))) := by
 have hij := h.lt; have hj : j < l.length := (List.getElem?_eq_some_iff.1 hx).1; obtain ⟨cur, h1, h2, h3, h4, h5⟩ := h; have e : ((l.take (j + 1)).filter fun m => !zU m) = ((l.take j).filter fun m => !zU m) ++ [x] := by rw [jcu hx, List.filter_append]; simp [hd]
 have g1 := heap_setCell_same w g (i * 3) cur 173 (.int .i64 x.uid) h1; have g2 := heap_setCell_same _ g (i * 3 + 1) _ 173 (.int .i64 x.flags) g1; have g3 := heap_setCell_same _ g (i * 3 + 2) _ 173 (.string (S x.text)) g2; refine ⟨_, g3, by simp [h2], ?_, by rw [e, List.length_append, h4]; rfl, ?_⟩
 · rw [show (i + 1) * 3 = i * 3 + 3 by omega, jkv _ _ _ _ _ (by omega), h3, e, List.map_append, List.flatten_append]; rfl
 · intro q y hq hy r u hu; have hr : r < 3 := (List.getElem?_eq_some_iff.1 hu).1; rw [Array.getElem?_setIfInBounds_ne (by omega), Array.getElem?_setIfInBounds_ne (by omega), Array.getElem?_setIfInBounds_ne (by omega)]; exact h5 q y (by omega) hy r u hu
theorem DelI.own {l : List Mail} {B g cap i j : Nat} {w : World} (h : DelI l g cap i j w) (hj : l.length ≤ j) (hB : B ≤ g) (hcm : cap ≤ maxLen) (hic : i ≤ cap) (vs : List Value) :
 (w.setCells g (i * 3) vs).ownsRow B 173 3 (.slice (some ⟨g, 0, none⟩) i cap) (l.filter fun m => !zU m).length ((l.filter fun m => !zU m).map j9).flatten ∧ (l.filter fun m => !zU m).length = i := by
 obtain ⟨cur, h1, h2, h3, h4, _⟩ := h; rw [List.take_of_length_le hj] at h3 h4; obtain ⟨cur', k1, k2, k3⟩ := jaq g _ vs (i * 3) w cur h1; refine ⟨?_, h4⟩; rw [h4]; refine ⟨?_, .inr ⟨g, cap, cur', rfl, hB, k1, hic, hcm, by rw [k2, h2], ?_⟩⟩
 · rw [jad (jA (k := 3) j9 (fun _ => rfl) _), List.length_map, h4]
 · rw [← h3]
   apply List.ext_getElem?
   intro q; rw [List.getElem?_take, List.getElem?_take]
   by_cases hq : q < i * 3
   · rw [if_pos hq, if_pos hq, Array.getElem?_toList, Array.getElem?_toList, k3 q hq]
   · rw [if_neg hq, if_neg hq]
def DelP (B : Nat) (w : World) (v : Value) (l : List Mail) (e : Ending) (w' : World) : Prop := ∃ v', e = .returned v' ∧ v'.ownBlock = v.ownBlock ∧ w'.ownsRow B 173 3 v' (l.filter fun m => !zU m).length ((l.filter fun m => !zU m).map j9).flatten ∧ w.grownBy w' v.ownBlock
theorem jmu {w : World} {p : Nat} {v0 v1 v2 : Value} {t : TypeId} (h : w.heap[p]? = some (.cells #[v0, v1, v2] t)) : w.cell? ⟨p, 0, none⟩ = some v0 ∧ w.cell? ⟨p, 1, none⟩ = some v1 ∧ w.cell? ⟨p, 2, none⟩ = some v2 := by
 refine ⟨?_, ?_, ?_⟩ <;> simp [World.cell?, h]
theorem qP {w w' : World} (h : Below w.heap.size w w') (r : Option Nat) : w.grownBy w' r := ⟨h.os, h.tape, h.output, h.size, fun k hk _ => h.block k hk⟩
theorem jbP {w u : World} {r : Option Nat} {b j : Nat} {v : Value} (h : w.grownBy u r) (hr : r = some b) : w.grownBy (u.setCell ⟨b, j, none⟩ v) r := by
 subst hr; exact h.trans (jiS u b j v)
theorem delF (l : List Mail) (v : Value) (B : Nat) (w : World) (h : w.ownsRow B 173 3 v l.length (l.map j9).flatten) (hfl : ∀ m ∈ l, 0 ≤ m.flags ∧ m.flags ≤ 31) (hl : l.length ≤ 1000) :
 Calls Tryz.prog 94 #[v, .func (.func 95) #[] #[]] w (DelP B w v l) := by
 obtain ⟨a, c, rfl⟩ : ∃ a c, v = .slice a l.length c := by
  rcases h.2 with ⟨rfl, hn⟩ | ⟨g, cap, cur, rfl, _⟩
  · exact ⟨none, 0, by rw [hn]⟩
  · exact ⟨_, _, rfl⟩
 have hR : MailsM (fun _ => True) w (.slice a l.length c) l := qB h rfl (by unfold maxLen; omega) (by simp) (jA (k := 3) j9 (fun _ => rfl) l) (fun i x cs hx hc => by rw [List.getElem?_map, hx] at hc; cases hc; rfl) (fun _ _ => trivial); have eg : ∀ args w, (callFunc 95 args).run Tryz.prog w = .ok (.enter 95 args) w := enters_of Tryz.func95 (by kernel_rfl) rfl; have HIX := hid (jmG l zU a c 95 #[] eg w _ hR (fun x u hx _ => jdV x.uid x.flags x.text u (hfl x hx).1 (hfl x hx).2)); have HFL := hid hfl; have HO := hid h; cases hf : l.findIdx? zU with
 | none =>
   have HN := hid (jaA hf); have HF := hid (show (l.filter fun m => !zU m) = l from List.filter_eq_self.2 fun m hm => by rw [jdP hf m hm]; rfl); clear h hR hf hfl eg; rw [HN.out] at HIX; go_enter Tryz.func94, Tryz.ntmps94; go_wp2_with fail; refine HIX.out.mono ?_; rintro e u ⟨rfl, hb⟩; simp only; have HE := hid (show DelP B w (.slice a l.length c) l (.returned (.slice a l.length c)) u from ⟨_, rfl, rfl, by rw [HF.out]; exact je HO.out fun k hk => hb.block k (World.ownsRow.lt HO.out k hk).2, qP hb _⟩); clear hb; go_wp2; go_ret; exact HE.out
 | some k0 =>
   have HN := hid (zC hf); rw [HN.out] at HIX; obtain ⟨x0, hx0, hp0⟩ := jaW hf; have hk0 : k0 < l.length := (List.getElem?_eq_some_iff.1 hx0).1
   rcases h.2 with ⟨e, hn⟩ | ⟨g, cap, cur, e, hB, hg, hcap, hcm, hcs, htk⟩
   · omega
   · simp only [Value.slice.injEq, true_and] at e; obtain ⟨rfl, rfl⟩ := e; have hlow : ∀ m ∈ l.take k0, (!zU m) = true := fun m hm => by
        obtain ⟨_, _, h3⟩ := List.findIdx?_eq_some_iff_getElem.1 hf; obtain ⟨j, hj, rfl⟩ := List.getElem_of_mem hm; have hj' : j < k0 := by rw [List.length_take] at hj; omega
        have := h3 j hj'; rw [List.getElem_take]
        simpa using this
     have HI0 := hid (show DelI l g c k0 k0 w from ⟨cur, hg, hcs, by
      rw [List.filter_eq_self.2 hlow]; have h1 : (l.map j9).flatten.take (k0 * 3) = ((l.take k0).map j9).flatten := by
           rw [← List.take_append_drop k0 l, List.map_append, List.flatten_append]; rw [List.take_append_of_le_length (by rw [jad (jA (k := 3) j9 (fun _ => rfl) _), List.length_map, List.length_take]; omega), List.take_of_length_le (by rw [jad (jA (k := 3) j9 (fun _ => rfl) _), List.length_map, List.length_take]; omega)]
           simp
      rw [← h1, ← htk, List.take_take, Nat.min_eq_left (by omega)], by rw [List.filter_eq_self.2 hlow, List.length_take]; omega, fun q x _ hx r u hu => by
      have hq : q < l.length := (List.getElem?_eq_some_iff.1 hx).1; have hr : r < 3 := (List.getElem?_eq_some_iff.1 hu).1; have hm : (l.map j9)[q]? = some (j9 x) := by rw [List.getElem?_map, hx]; rfl
      have := qT (jA (k := 3) j9 (fun _ => rfl) l) hm hr; rw [hu, ← htk, List.getElem?_take, if_pos (by omega), Array.getElem?_toList] at this; exact this⟩)
     have HX0 := hid (HI0.out.drop hx0 hp0); have HC := hid (fun (x : Mail) (hx : x ∈ l) (u : World) => jdV x.uid x.flags x.text u (HFL.out x hx).1 (HFL.out x hx).2); clear h hR hf hfl hx0 hp0 hlow hg hcs htk; go_enter Tryz.func94, Tryz.ntmps94; go_wp2_with fail; refine HIX.out.mono ?_; rintro e u ⟨rfl, hb⟩; simp only; have HI1 := hid (HX0.out.next hb); have HG1 := hid (qP hb (some g)); clear hb HIX; have nk : ((k0 : Int) == -1) = false := by simp
     go_wp2
     go_loopw [5, 6] (fun s5 s6 wr => ∃ i j : Nat, s5 = .int .i64 i ∧ s6 = .int .i64 j ∧ j ≤ l.length ∧ i < j ∧ Hid (DelI l g c i j wr) ∧ Hid (w.grownBy wr (some g))) (fun _ s6 _ => l.length - (intOf s6).toNat)
     case atStart => exact ⟨k0, k0 + 1, rfl, by go_num, by omega, by omega, HI1, HG1⟩
     case round =>
        obtain ⟨i, j, rfl, rfl, hj, hij, HI, HG⟩ := hrel
        by_cases hlt : j < l.length
        · have j1 : (j : Int) < (l.length : Int) := by omega
          have j0 : (0 : Int) ≤ (j : Int) := by omega
          have i1 : (i : Int) < (l.length : Int) := by omega
          have i0 : (0 : Int) ≤ (i : Int) := by omega
          obtain ⟨x, hx⟩ : ∃ x, l[j]? = some x := ⟨_, List.getElem?_eq_getElem hlt⟩; obtain ⟨e0, e1, e2⟩ := HI.out.at hx; obtain ⟨W2, hW2⟩ : ∃ W2, W2 = wr.alloc (.cells #[.int .i64 x.uid, .int .i64 x.flags, .string (S x.text)] 173) := ⟨_, rfl⟩; have HWE := hid hW2; have hB2 : Below wr.heap.size wr W2 := by rw [hW2]; exact nb0 _ _
          have hX2 : W2.heap[wr.heap.size]? = some (.cells #[.int .i64 x.uid, .int .i64 x.flags, .string (S x.text)] 173) := by rw [hW2]; exact heap_alloc_new wr _
          have hgl : g < wr.heap.size := World.block_lt_of_cell? _ _ e0; have HCX := hid (HC.out x (List.mem_of_getElem? hx) W2); cases hp : zU x with
          | true =>
            have hp' : decide (x.flags / 8 % 2 = 1) = true := hp; rw [hp'] at HCX; have HN2 := hid (fun u (hu : Below W2.heap.size W2 u) => (HI.out.drop hx hp).next (hB2.trans (hu.mono hB2.size))); have HG2 := hid (fun u (hu : Below W2.heap.size W2 u) => HG.out.trans (qP (hB2.trans (hu.mono hB2.size)) (some g))); clear hp hp' hx hW2 hX2 hB2; go_wp2_with fail; rw [← HWE.out]
            go_at_fn 95
            refine HCX.out.mono ?_; rintro e u ⟨rfl, hb⟩; have HN3 := hid (HN2.out u hb); have HG3 := hid (HG2.out u hb); clear hb; go_wp2
            go_roundw
            case rel => first | exact ⟨i, j + 1, rfl, by go_num, by omega, by omega, HN3, HG3⟩ | ((repeat apply Exists.intro); exact ⟨⟨i, j + 1, rfl, by go_num, by omega, by omega, HN3, HG3⟩, rfl⟩)
            case measure => simp [intOf]; omega
          | false =>
            have hp' : decide (x.flags / 8 % 2 = 1) = false := hp; rw [hp'] at HCX; have HN2 := hid (fun u (hu : Below W2.heap.size W2 u) => (HI.out.next (hB2.trans (hu.mono hB2.size))).keep hx hp hcap); have HG2 := hid (fun u (hu : Below W2.heap.size W2 u) => HG.out.trans (qP (hB2.trans (hu.mono hB2.size)) (some g))); have HT := hid (fun u (hu : Below W2.heap.size W2 u) => (HI.out.next (hB2.trans (hu.mono hB2.size))).there); have HX2 := hid hX2; clear hp hp' hx hW2 hX2 hB2; go_wp2_with fail; rw [← HWE.out]
            go_at_fn 95
            refine HCX.out.mono ?_; rintro e u ⟨rfl, hb⟩; have HN3 := hid (HN2.out u hb); have HG3 := hid (jbP (j := i * 3 + 2) (v := .string (S x.text)) (jbP (j := i * 3 + 1) (v := .int .i64 x.flags) (jbP (j := i * 3) (v := .int .i64 x.uid) (HG2.out u hb) rfl) rfl) rfl); obtain ⟨⟨v0, t0⟩, f0⟩ := HT.out u hb (i * 3) (by omega); obtain ⟨⟨v1, t1⟩, f1⟩ := HT.out u hb (i * 3 + 1) (by omega); obtain ⟨⟨v2, t2⟩, f2⟩ := HT.out u hb (i * 3 + 2) (by omega); obtain ⟨y0, y1, y2⟩ := jmu ((hb.block _ (Array.getElem?_eq_some_iff.1 HX2.out).1).trans HX2.out); clear hb; go_wp2
            go_roundw
            case rel => first | exact ⟨i + 1, j + 1, by go_num, by go_num, by omega, by omega, HN3, HG3⟩ | ((repeat apply Exists.intro); exact ⟨⟨i + 1, j + 1, by go_num, by go_num, by omega, by omega, HN3, HG3⟩, rfl⟩)
            case measure => simp [intOf]; omega
        · have j1 : ¬ (j : Int) < (l.length : Int) := by omega
          have i1 : (i : Int) ≤ (l.length : Int) := by omega
          have i2 : (i : Int) ≤ (c : Int) := by omega
          have i0 : (0 : Int) ≤ (i : Int) := by omega
          have i3 : ¬ (i : Int) = (c : Int) := by omega
          have i4 : ¬ i = c := by omega
          have hth := HI.out.there; obtain ⟨vs, _, hcl⟩ := jga wr g (i * 3) (l.length - i) (c - i) (by omega) (fun q hq => by obtain ⟨⟨v, e⟩, _⟩ := hth (i * 3 + q) (by omega); rw [e]; rfl) (fun q hq => (hth (i * 3 + q) (by omega)).2); obtain ⟨W9, hW9⟩ : ∃ W9, W9 = wr.setCells g (i * 3) vs := ⟨_, rfl⟩; have hown := HI.out.own (B := B) (by omega) hB hcm (by omega) vs; have HE := hid (show DelP B w (.slice (some ⟨g, 0, none⟩) l.length c) l (.returned (.slice (some ⟨g, 0, none⟩) i c)) W9 from ⟨_, rfl, rfl, by rw [hW9]; exact hown.1, by rw [hW9]; exact HG.out.trans (jar g vs _ wr)⟩); rw [← hW9] at hcl; clear hth hW9 hown; go_wp2; go_ret; exact HE.out
theorem jiX {B p g c i : Nat} {w w5 : World} {vs v v' : Value} {vm : List Value} {s : Stt} {b : Bx} {ms : List Mail}
 (hp : w.heap[p]? = some (.cells #[.slice (some ⟨g, 0, none⟩) s.boxes.length c, vs] 133)) (hO : OwnS B w (.slice (some ⟨g, 0, none⟩) s.boxes.length c) vs vm s) (hn : ¬ inS (.slice (some ⟨g, 0, none⟩) s.boxes.length c) vs vm p) (hBp : B ≤ p) (hb : s.boxes[i]? = some b) (hv : vm[i]? = some v)
 (hgrow : w.grownBy w5 v.ownBlock) (hown : w5.ownsRow B 173 3 v' ms.length (ms.map j9).flatten) (hat : v'.ownBlock = v.ownBlock) :
 Sto B p (w5.setCell ⟨g, i * 3 + 2, none⟩ v') ⟨s.boxes.set i ⟨b.name, b.next, ms⟩, s.spool⟩ ∧ Below B w (w5.setCell ⟨g, i * 3 + 2, none⟩ v') := by
 have hi0 : i < s.boxes.length := (List.getElem?_eq_some_iff.1 hb).1; have hd : vm.getD i (.slice none 0 0) = v := by rw [List.getD_eq_getElem?_getD, hv]; rfl
 have hgB : B ≤ g := (World.ownsRow.lt hO.boxes g rfl).1; have hpl : p < w.heap.size := (Array.getElem?_eq_some_iff.1 hp).1; have hpg : p ≠ g := fun e => hn (.inl (by rw [e]; rfl))
 have hpv : some p ≠ v.ownBlock := fun e => hn (.inr (.inr ⟨v, List.mem_of_getElem? hv, e.symm⟩))
 have h1 := hO.setMails (v' := v') (ms := ms) hb (w' := w5) (by rw [hd]; exact fun k hk hne => hgrow.block k hk hne) hown (by rw [hd]; exact .inl hat); refine ⟨⟨_, vs, vm.set i v', ?_, by simpa using h1, ?_, hBp⟩, ?_⟩
 · exact (jp hpg).trans ((hgrow.block p hpl hpv).trans hp)
 · rintro (e | e | ⟨u, hu, e⟩)
   · exact hn (.inl e)
   · exact hn (.inr (.inl e))
   · rcases qH hu with rfl | hu
     · exact hpv (by rw [← hat, e])
     · exact hn (.inr (.inr ⟨u, hu, e⟩))
 · have h5 : Below B w w5 := ⟨hgrow.os, hgrow.tape, hgrow.output, hgrow.size, fun k hk => hgrow.block k (by omega) fun e => by have := (World.ownsRow.lt (hO.mails i b v hb hv) k e.symm).1; omega⟩; exact h5.setCell hgB _
theorem jj7 {A C : Type} (f : A → C) (l : List A) (i : Nat) (x : A) : (l.set i x).map f = (l.map f).set i (f x) := by simp
theorem jkz {B p g c gm cm i j : Nat} {w : World} {vs : Value} {vm : List Value} {s : Stt} {b : Bx} {m : Mail} {f : Int}
 (hp : w.heap[p]? = some (.cells #[.slice (some ⟨g, 0, none⟩) s.boxes.length c, vs] 133)) (hO : OwnS B w (.slice (some ⟨g, 0, none⟩) s.boxes.length c) vs vm s) (hn : ¬ inS (.slice (some ⟨g, 0, none⟩) s.boxes.length c) vs vm p) (hBp : B ≤ p) (hb : s.boxes[i]? = some b) (hv : vm[i]? = some (.slice (some ⟨gm, 0, none⟩) b.mails.length cm)) (hm : b.mails[j]? = some m) :
 Sto B p (w.setCell ⟨gm, j * 3 + 1, none⟩ (.int .i64 f)) ⟨s.boxes.set i ⟨b.name, b.next, b.mails.set j ⟨m.uid, f, m.text⟩⟩, s.spool⟩ ∧ Below B w (w.setCell ⟨gm, j * 3 + 1, none⟩ (.int .i64 f)) := by
 have hi0 : i < s.boxes.length := (List.getElem?_eq_some_iff.1 hb).1; have hvm := List.mem_of_getElem? hv; have hrow := hO.mails i b _ hb hv; have hgB : B ≤ gm := (World.ownsRow.lt hrow gm rfl).1; have far : ∀ k, k ≠ gm → (w.setCell ⟨gm, j * 3 + 1, none⟩ (.int .i64 f)).heap[k]? = w.heap[k]? := fun k h => jp h
 have hxs : (bxCs (s.boxes.set i ⟨b.name, b.next, b.mails.set j ⟨m.uid, f, m.text⟩⟩) vm) = bxCs s.boxes vm := by
  have h1 := jbq s.boxes vm i ⟨b.name, b.next, b.mails.set j ⟨m.uid, f, m.text⟩⟩ (.slice (some ⟨gm, 0, none⟩) b.mails.length cm) hO.len; have e1 : vm.set i (.slice (some ⟨gm, 0, none⟩) b.mails.length cm) = vm := by
   obtain ⟨h, e⟩ := List.getElem?_eq_some_iff.1 hv; rw [← e]; exact List.set_getElem_self h
  have h2 := vz s.boxes vm i b _ hb hv; rw [e1] at h1; rw [h1]; obtain ⟨h, e⟩ := List.getElem?_eq_some_iff.1 h2; have e3 : boxC ⟨b.name, b.next, b.mails.set j ⟨m.uid, f, m.text⟩⟩ (.slice (some ⟨gm, 0, none⟩) b.mails.length cm) = (bxCs s.boxes vm)[i] := by rw [e]; rfl
  rw [e3]; exact List.set_getElem_self h
 refine ⟨⟨_, vs, vm, (far p fun e => hn (.inr (.inr ⟨_, hvm, by rw [e]; rfl⟩))).trans hp, ⟨?_, ?_, by simpa using hO.len, ?_, hO.bs, hO.mb, hO.ms, hO.mm⟩, hn, hBp⟩, (Below.refl _ _).setCell hgB _⟩
 · show World.ownsRow _ B _ 3 _ (s.boxes.set i _).length (bxCs (s.boxes.set i _) vm).flatten
   rw [hxs, List.length_set]; exact je hO.boxes fun k hk => far k fun e => hO.mb _ hvm gm rfl (by rw [← e]; exact hk)
 · exact je hO.spool fun k hk => far k fun e => hO.ms _ hvm gm rfl (by rw [← e]; exact hk)
 · intro q c' v hc hv'
   by_cases hq : i = q
   · subst hq; rw [List.getElem?_set_self hi0] at hc; rw [hv] at hv'; cases hc; cases hv'; have h1 := jaF hrow (j * 3 + 1) (.int .i64 f); have hmj : (b.mails.map j9)[j]? = some (j9 m) := by rw [List.getElem?_map, hm]; rfl
     rw [qU _ (jA (k := 3) j9 (fun _ => rfl) _) hmj (by omega)] at h1
     show World.ownsRow _ B _ 3 _ (b.mails.set j _).length ((b.mails.set j _).map j9).flatten
     rw [jj7, List.length_set]; exact h1
   · rw [List.getElem?_set_ne hq] at hc; exact je (hO.mails q c' v hc hv') fun k hk => far k fun e => hO.mm i q _ v hq hv hv' gm rfl (by rw [← e]; exact hk)
theorem Sto.open {B p : Nat} {w : World} {s : Stt} (h : Sto B p w s) : ∃ ab cb vs vm, w.heap[p]? = some (.cells #[.slice ab s.boxes.length cb, vs] 133) ∧ OwnS B w (.slice ab s.boxes.length cb) vs vm s ∧ ¬ inS (.slice ab s.boxes.length cb) vs vm p ∧ B ≤ p := by
 obtain ⟨vb, vs, vm, hp, hO, hn, hBp⟩ := h; obtain ⟨ab, cb, rfl⟩ := jx hO.boxes; exact ⟨ab, cb, vs, vm, hp, hO, hn, hBp⟩
theorem jaj {B : Nat} {w : World} {ab : Option Addr} {cb : Nat} {vs : Value} {vm : List Value} {s : Stt} {i : Nat} {b : Bx} (hO : OwnS B w (.slice ab s.boxes.length cb) vs vm s) (hb : s.boxes[i]? = some b) : ∃ g, ab = some ⟨g, 0, none⟩ := by
 obtain ⟨g, c, v, e, _⟩ := hO.box hb; simp only [Value.slice.injEq] at e; exact ⟨g, e.1⟩
theorem DoP.int {B p : Nat} {w w' : World} {r : Except Int Stt} {e : Ending} (h : DoP B p w r e w') : ∃ z, e = .returned (.int .i64 z) := by
 obtain ⟨_, h⟩ := h; cases r with
 | error z => exact ⟨z, h⟩
 | ok s => exact ⟨0, h.1⟩
def jgc (s : Stt) (nm : List UInt8) (f : Int) (t : List UInt8) : Except Int Stt := match s.boxes.findIdx? (isName nm) with
 | none => .error 7
 | some k => addM s k f t
theorem jgd (B p : Nat) (s : Stt) (nm : List UInt8) (z f : Int) (t : List UInt8) (w : World) (h : Sto B p w s) (hM : May s) (ht : t.length ≤ 2000) :
 Calls Tryz.prog 97 #[.pointer (some ⟨p, 0, none⟩), .string (S nm), .agg #[.int .i64 z, .int .i64 f, .string (S t)]] w (DoP B p w (jgc s nm f t)) := by
 obtain ⟨W1, hW1⟩ : ∃ W1, W1 = w.alloc (.cells #[.int .i64 z, .int .i64 f, .string (S t)] 173) := ⟨_, rfl⟩; have HWE := hid hW1; have hb1 : Below w.heap.size w W1 := by rw [hW1]; exact nb0 _ _
 have hX : W1.heap[w.heap.size]? = some (.cells #[.int .i64 z, .int .i64 f, .string (S t)] 173) := by rw [hW1]; exact heap_alloc_new w _
 obtain ⟨x0, x1, x2⟩ := jmu hX; have hpw : p < w.heap.size := by obtain ⟨_, _, _, hp, _⟩ := h; exact (Array.getElem?_eq_some_iff.1 hp).1
 obtain ⟨ab, cb, vs, vm, hp, hO, hn, hBp⟩ := (h.next hb1).open; have HB1 := hid (show Below B w W1 from hb1.mono (by omega)); obtain ⟨p0, p1, q0, q1⟩ := zu hp; have hSt := hO.stt (Q := fun _ => True) hM (fun _ _ => trivial); have HIX := hid (jN s.boxes nm ab cb W1 _ hSt.1); obtain ⟨r, hr⟩ : ∃ r, r = jgc s nm f t := ⟨_, rfl⟩; rw [← hr]; have HP := hid hp; have HO := hid hO; have HN := hid hn; have HM := hid hM; have hs1 : B ≤ W1.heap.size := by have := hb1.size; omega
 clear h hW1 hb1 hX hSt hp hO hn hM; cases hf : s.boxes.findIdx? (isName nm) with
 | none =>
   have HR := hid (show r = .error 7 by rw [hr]; unfold jgc; rw [hf]); rw [jaA hf] at HIX; clear hr hf; go_enter Tryz.func97, Tryz.ntmps97; go_upto_region 1 with fail
   rw [← HWE.out]; go_wp2_with fail; refine HIX.out.mono ?_; rintro e w2 ⟨rfl, hb⟩; simp only; have HE := hid (show DoP B p w r (.returned (.int .i64 7)) w2 by rw [HR.out]; exact ⟨HB1.out.trans (hb.mono hs1), rfl⟩); clear hb; go_wp2; go_ret; exact HE.out
 | some k =>
   have HR := hid (show r = addM s k f t by rw [hr]; unfold jgc; rw [hf]); rw [zC hf] at HIX; obtain ⟨b, hb, _⟩ := jaW hf; obtain ⟨g, rfl⟩ := jaj HO.out hb; have hk : k < s.boxes.length := (List.getElem?_eq_some_iff.1 hb).1; have k1 : (k : Int) < (s.boxes.length : Int) := by omega
   have k0 : (0 : Int) ≤ (k : Int) := by omega
   have HA := hid (fun u (hu : Below W1.heap.size W1 u) => jfx B p g cb k vs vm s b f t u (zI hu HP.out) (HO.out.next hu) HN.out hBp hb HM.out ht); clear hr hf hb; go_enter Tryz.func97, Tryz.ntmps97; go_upto_region 1 with fail
   rw [← HWE.out]; go_wp2_with fail; refine HIX.out.mono ?_; rintro e w2 ⟨rfl, hb⟩; simp only; have y0 := ja p0 hb; have z1 := ja x1 hb; have z2 := ja x2 hb; have HA2 := hid (HA.out w2.drew hb.drew); have HB2 := hid (show Below B w w2.drew from (HB1.out.trans (hb.mono hs1)).drew); clear hb; go_wp2
   go_region_law
    (first
        | (go_simp
           go_at_call 93
           refine HA2.out.mono ?_; intro e w3 hd; obtain ⟨zz, rfl⟩ := hd.int; have HD := hid (DoP.trans HB2.out hd); clear hd)
        | fail)
   all_goals
    go_wp2; go_ret; rw [HR.out]; exact HD.out
end Go.Proofs.YtgooljlpffnaeaaGreatDoor
