/-
  The acts of the law of what has no room, and what a room makes of them.
-/
import Derived.Test.YtjdkbdkimbgbfaaGreatDoorRQPoSy9
namespace Go.Proofs.YtjdkbdkimbgbfaaGreatDoor
open Go.RowKit Go.Proofs
variable {k m : Nat}
def quL (k : Nat) : List UInt8 := List.replicate k 97
def quT (k : Nat) : List UInt8 := [115, 58, 32, 116, 13, 10, 13, 10] ++ quL k ++ [13, 10]
def quX (k : Nat) : List (List UInt8) := [[77, 65, 73, 76, 32, 70, 82, 79, 77, 58, 60, 97, 64, 98, 62], [82, 67, 80, 84, 32, 84, 79, 58, 60, 97, 110, 110, 64, 98, 62], [68, 65, 84, 65]] ++ [[115, 58, 32, 116], [], quL k]
def quY (k : Nat) : List (List UInt8) := quX k ++ [[46]]
def quH : List (List UInt8) := [[76, 72, 76, 79, 32, 97]]
theorem jgY (k : Nat) : (quL k).length = k := List.length_replicate
theorem jaq (k : Nat) : (quT k).length = k + 10 := by unfold quT; simp only [aB, jgY, aI, aJ]; omega
theorem jhY (k : Nat) : jx (quY k) = [77, 65, 73, 76, 32, 70, 82, 79, 77, 58, 60, 97, 64, 98, 62, 13, 10, 82, 67, 80, 84, 32, 84, 79, 58, 60, 97, 110, 110, 64, 98, 62, 13, 10, 68, 65, 84, 65, 13, 10] ++ quT k ++ [46, 13, 10] := by
 unfold quY quX quT
 simp [jx, crK]
theorem jlD (k : Nat) : (jx (quY k)).length = k + 53 /\ (quY k).length = 7 := by
 refine ⟨?_, rfl⟩; rw [jhY]; simp only [aB, jaq, aI, aJ]; omega
def frQ : Adr := ([97], [98])
def toQ : Adr := (nmA, [98])
def atQ (T : List UInt8) : Ses := ⟨4, frQ, [toQ], T, false⟩
theorem jq0 (k : Nat) : (13 : UInt8) ∉ quL k := fun h => by have := List.eq_of_mem_replicate h; simp at this
theorem joS (hk : k <= 300) : zS usK (atS 1) (quX k) = true /\ sesK usK (atS 1) (quX k) = (atQ (quT k), [250, 250, 354]) := by
 have h1 : sesK usK (atS 1) [[77, 65, 73, 76, 32, 70, 82, 79, 77, 58, 60, 97, 64, 98, 62], [82, 67, 80, 84, 32, 84, 79, 58, 60, 97, 110, 110, 64, 98, 62], [68, 65, 84, 65]] = (atQ [], [250, 250, 354]) := by kernel_rfl
 have h2 : zS usK (atS 1) [[77, 65, 73, 76, 32, 70, 82, 79, 77, 58, 60, 97, 64, 98, 62], [82, 67, 80, 84, 32, 84, 79, 58, 60, 97, 110, 110, 64, 98, 62], [68, 65, 84, 65]] = true := by kernel_rfl
 have hu : zD (quL k) = quL k := by
  cases k with
  | zero => rfl
  | succ k => rfl
 have hb : bodT [[115, 58, 32, 116], [], quL k] = quT k := by
  unfold bodT quT; simp only [List.map_cons, List.map_nil, hu]
  simp [zD]
 obtain ⟨k1, k2⟩ := jex usK frQ [toQ] [[115, 58, 32, 116], [], quL k] [] (fun x hx => by
  simp only [bV, bW, or_false] at hx
  rcases hx with rfl | rfl | rfl
  . exact ⟨by decide, by decide, by decide⟩
  . exact ⟨by decide, by decide, by decide⟩
  . exact ⟨fun e => by
        have h : (46 : UInt8) ∈ quL k := by rw [e]; simp
        have := List.eq_of_mem_replicate h
        simp at this, qO (jq0 k), by rw [jgY]; omega⟩) (by rw [bM, hb, jaq]; omega)
 rw [bM, hb] at k2; unfold quX; refine ⟨?_, ?_⟩
 . rw [jbX, h2, h1]; exact k1
 . rw [jew, h1]
   show ((sesK usK (atQ []) _).1, [250, 250, 354] ++ (sesK usK (atQ []) _).2) = _
   rw [show atQ [] = ⟨4, frQ, [toQ], [], false⟩ from rfl, k2]; rfl
theorem jq4 (hk : k <= 300) : FitK usK (frQ, toQ, quT k) := by
 have hl := jaq k; refine ⟨⟨[([115], [32, 116])], quL k ++ [13, 10], ⟨(show jP [97] [98] = 0 by decide), (show jP nmA [98] = 0 by decide), ?_, fun g hg => ?_, by decide, (show 1 <= 5000 by decide), (show 1 <= 5000 by decide), (show 3 <= 5000 by decide), (show 1 <= 5000 by decide), (show (quT k).length <= 2000 by omega)⟩⟩, rfl, (show (quT k).length <= 2000 by omega)⟩
 . show quT k = _
   unfold quT
   simp [jas, jaj, vq]
 . rw [List.mem_singleton] at hg; subst hg
   decide
theorem jbW (T : List UInt8) (K : List (List UInt8)) : js (atQ T) K [46] = (atS 1, 0, [(frQ, toQ, T)]) := rfl
theorem jrw (hk : k <= 300) : jaV usK (atS 1) (quY k) := by
 obtain ⟨h1, h2⟩ := joS hk; refine qP usK _ _ _ h1 ?_; rw [h2]; exact ⟨by decide, by decide, .inr ⟨rfl, (show (1 : Int) ≠ 5 by decide), _, rfl, jq4 hk⟩, .inr trivial⟩
def quR (k : Nat) : Nat := min (6000 / (k + 10)) 30
def quM (k c : Nat) : List Mail := (List.range c).map fun (i : Nat) => ⟨(i : Int) + 1, 0, quT k⟩
def quS (k c : Nat) : Stt := mlS ((c : Int) + 1) (quM k c)
def quF (k : Nat) : Nat -> List UInt8
 | 0 => []
 | c + 1 => quF k c ++ frB ⟨0, [kpE (quT k)]⟩
def quD (r : Nat) : Nat -> List Int
 | 0 => [250]
 | j + 1 => quD r j ++ [250, 250, 354] ++ [if j < r then 250 else 452]
theorem jlC (k c : Nat) : (quM k c).length = c := by unfold quM; simp
theorem jhX (k c : Nat) : quM k (c + 1) = quM k c ++ [⟨(c : Int) + 1, 0, quT k⟩] := by unfold quM; rw [List.range_succ, bK]; rfl
theorem jnQ (k c : Nat) : zd (quM k c) = c * (k + 10) := by
 induction c with
 | zero => simp [quM, zd]
 | succ c ih => rw [jhX, jbz, ih]; simp only [zd, jaq]; rw [Nat.succ_mul]; try omega
theorem jq3 (k c : Nat) : doM (quS k c) (kpE (quT k)) = if c < quR k then .ok (quS k (c + 1)) else .error 5 := by
 unfold quS; rw [joL, jlC, jnQ, jaq]; have hd : c < 6000 / (k + 10) ↔ c * (k + 10) + (k + 10) <= 6000 := by
  rw [show c * (k + 10) + (k + 10) = (c + 1) * (k + 10) by rw [Nat.succ_mul], <- Nat.le_div_iff_mul_le (by omega)]; exact Iff.rfl
 unfold quR
 by_cases h : c < min (6000 / (k + 10)) 30
 . have h1 : c < 6000 / (k + 10) := by omega
   have h2 := hd.1 h1; rw [if_pos h, if_neg (by omega), jhX]
   congr 3
 . rw [if_neg h, if_pos]
   by_cases h3 : c < 30
   . have h4 : ¬ c < 6000 / (k + 10) := by omega
     exact .inr (.inr (by have := mt hd.2 h4; omega))
   . exact .inl (by omega)
theorem joR (k : Nat) (hk : k <= 300) : ∀ c, c <= quR k -> May (quS k c)
 | 0, _ => jec
 | c + 1, h => by
   have := jq3 k c; rw [if_pos (by omega)] at this; exact jgx (joR k hk c (by omega)) (vj (by rw [jaq]; omega)) this
theorem jq1 (k : Nat) : quR k <= 30 := by unfold quR; omega
theorem jrv (k : Nat) : (frB ⟨0, [kpE (quT k)]⟩).length <= k + 60 := by
 rw [jd9]; unfold batB zW entB txB kpE; simp only [aB, zn, zW, jaq, aI, aJ]; omega
theorem jlB {k : Nat} (hk : k <= 300) : ∀ c, (quF k c).length <= c * 360
 | 0 => by simp [quF]
 | c + 1 => by
   have h1 := jrv k; have h2 := jlB hk c; simp only [quF, aB]; omega
theorem jap (r : Nat) : ∀ j, (quD r j).length = 1 + 4 * j
 | 0 => rfl
 | j + 1 => by
   simp only [quD, aB, jap r j, aI, aJ]; omega
theorem joQ (r : Nat) : ∀ j i, i < j -> (quD r j)[4 + 4 * i]? = some (if i < r then 250 else 452)
 | 0, i, h => by omega
 | j + 1, i, h => by
   simp only [quD]
   by_cases hi : i < j
   . rw [aH, bf (by rw [jap]; omega)]; exact joQ r j i hi
   . obtain rfl : i = j := by omega
     rw [bd (by simp only [aB, jap, aI, aJ]; omega)]; simp only [aB, jap, aI, aJ]; rw [show 4 + 4 * i - (1 + 4 * i + (0 + 1 + 1 + 1)) = 0 by omega]; rfl
def quC (k j : Nat) : Nat := min j (quR k)
def quU (k j : Nat) : Rom := mlR (quF k (quC k j)) ((quF k (quC k j)).length : Int) ((quC k j : Nat) : Int) 0 (quS k (quC k j)) (quS k (quC k j)) (lnsK (atS 1) [] (quD (quR k) j)) con0
def quV (k j : Nat) : Rom := if j < quR k then mlR (quF k (j + 1)) ((quF k j).length : Int) (j : Int) 1 (quS k j) (quS k (j + 1)) ⟨atS 1, [], [250], quD (quR k) j ++ [250, 250, 354]⟩ con0
 else mlR (quF k (quC k j)) ((quF k (quC k j)).length : Int) ((quC k j : Nat) : Int) 0 (quS k (quC k j)) (quS k (quC k j)) (lnsK (atS 1) [] (quD (quR k) (j + 1))) con0
def quW (k : Nat) : Nat -> Rom
 | 0 => rom0
 | i + 1 => if i % 2 = 0 then quU k (i / 2) else quV k (i / 2)
def quA (k : Nat) : Nat -> List Acu
 | 0 => [linK 0 quH]
 | m + 1 => quA k m ++ [linK 0 (quY k), jb2]
theorem qW (k : Nat) : ∀ m, (quA k m).length = 1 + 2 * m
 | 0 => rfl
 | m + 1 => by simp only [quA, aB, qW k m, aI, aJ]; omega
theorem jlA (k : Nat) : ∀ m j x, (quA k m)[j]? = some x -> (j = 0 /\ x = linK 0 quH) ∨ ∃ i, i < m /\ ((j = 2 * i + 1 /\ x = linK 0 (quY k)) ∨ (j = 2 * i + 2 /\ x = jb2))
 | 0, j, x, h => by
   match j, h with
   | 0, h => cases h; exact .inl ⟨rfl, rfl⟩
   | j + 1, h => simp [quA] at h
 | m + 1, j, x, h => by
   simp only [quA] at h
   by_cases hj : j < 1 + 2 * m
   . rw [bf (by rw [qW]; exact hj)] at h
     rcases jlA k m j x h with h | ⟨i, hi, h⟩
     . exact .inl h
     . exact .inr ⟨i, by omega, h⟩
   . rw [bd (by rw [qW]; omega), qW] at h
     match hq : j - (1 + 2 * m), h with
     | 0, h => cases h; exact .inr ⟨m, by omega, .inl ⟨by omega, rfl⟩⟩
     | 1, h => cases h; exact .inr ⟨m, by omega, .inr ⟨by omega, rfl⟩⟩
     | q + 2, h => simp at h
theorem jpN : mayS (atS 1) = true := jbm (by decide) (.inl (by decide)) (by decide)
theorem jqR : mayS (atS 0) = true := jbm (by decide) (.inl (by decide)) (by decide)
theorem jgP {n : Nat} {s : Int} (h : n <= 70000) (h0 : 0 <= s) (h1 : s <= n) : mayN n s = true := by unfold mayN; simp; omega
theorem jhZ : zS usK (atS 0) quH = true /\ qY dlvR usK 0 8 (rom0.put 0 (lnsK (atS 0) (jx quH) [])) = quU 0 0 := ⟨by kernel_rfl, by kernel_rfl⟩
theorem jhJ : jkF con0 := ⟨rfl, jqR, by decide⟩
theorem jq2 (hk : k <= 300) (hm : m <= 40) (w : World) (hM : TabsM w) (j : Nat) (x : Acu) (hx : (quA k m)[j]? = some x) (B b : Nat) (G : List Nat) (u : World) (hB : w.heap.size <= B) (hu : Below w.heap.size w u) (hR : RoomM usK usCs B b G (quW k j) u) :
 Calls Tryz.prog 16 #[.pointer (some ⟨b, 0, none⟩), .agg (acuC x).toArray] u (RmQ usK usCs B b G u (quW k (j + 1)) (.tuple #[])) := by
 have fX : ∀ w', Below B u w' -> TabsM w' := fun w' hw' => hM.next (hu.trans (hw'.mono hB))
 have hr := jq1 k; have km : ∀ c, c <= 30 -> (quF k c).length <= 10800 := fun c hc => by have := jlB hk c; omega
 rcases jlA k m j x hx with ⟨rfl, rfl⟩ | ⟨i, hi, ⟨rfl, rfl⟩ | ⟨rfl, rfl⟩⟩
 . have h := jmX usK usCs B b G rom0 u 0 (by omega) (atS 0) quH [] hR rfl (jlb (s0 := inbS) (nx := 1) (ms := []) (c0 := con0) (c1 := con0) jec rfl (by simp) (by decide)) jqR (qP usK quH _ [] jhZ.1 trivial) (by unfold quH; simp) (by unfold quH; simp) (by decide) fX 8 (by decide); have e : qY dlvR usK 0 8 (rom0.put 0 (lnsK (if (atS 0).step = 5 then atS 0 else atS 0) (jx quH) [])) = quW k 1 := by
    refine jhZ.2.trans ?_
    show quU 0 0 = quU k 0
    unfold quU quC; rw [Nat.zero_min, Nat.zero_min]; rfl
   rw [e] at h; exact h
 . have dw : quW k (2 * i + 1) = quU k i := by show (if (2 * i) % 2 = 0 then quU k (2 * i / 2) else _) = _; rw [if_pos (by omega), show 2 * i / 2 = i by omega]
   have hw2 : quW k (2 * i + 1 + 1) = quV k i := by show (if (2 * i + 1) % 2 = 0 then _ else quV k ((2 * i + 1) / 2)) = _; rw [if_neg (by omega), show (2 * i + 1) / 2 = i by omega]
   rw [dw] at hR; rw [hw2]; have ns : quC k i <= quR k := by unfold quC; omega
   obtain ⟨R0, lc⟩ : ∃ R0, R0 = mlR (quF k (quC k i)) ((quF k (quC k i)).length : Int) ((quC k i : Nat) : Int) 0 (quS k (quC k i)) (quS k (quC k i)) con0 con0 := ⟨_, rfl⟩; have e0 : quU k i = R0.put 0 (lnsK (atS 1) [] (quD (quR k) i)) := by rw [lc]; rfl
   rw [e0] at hR; have hK : RomK usCs R0 := by rw [lc]; exact jlb (joR k hk _ ns) (jgP (by have := km (quC k i) (by omega); omega) (by omega) (by omega)) (by have := km (quC k i) (by omega); omega) (by decide)
   have hs0 : stA R0 = quS k (quC k i) := by rw [lc]; rfl
   have yD := jap (quR k) i; obtain ⟨q1, q2⟩ := jlD k; have h := jmX usK usCs B b G R0 u 0 (by omega) (atS 1) (quY k) (quD (quR k) i) hR (by rw [lc]; rfl) hK jpN (jrw hk) (by unfold quY quX; simp) (by omega) (by omega) fX (2000 + 1 + (quX k).length) (by rw [q1]; omega); obtain ⟨s1, s2⟩ := joS hk; have e : qY dlvR usK 0 (2000 + 1 + (quX k).length) (R0.put 0 (lnsK (if (atS 1).step = 5 then atS 0 else atS 1) (jx (quY k)) (quD (quR k) i))) = quV k i := by
    show qY dlvR usK 0 (2000 + 1 + (quX k).length) (R0.put 0 (lnsK (atS 1) (jx (quX k ++ [[46]])) (quD (quR k) i))) = _
    rw [jbZ usK R0 0 [[46]] _ _ _ (2000 + 1) s1, s2]; have fW : coK (atS 1, (0 : Int), [(frQ, toQ, quT k)]) = [] := rfl; have hd := jq3 k (quC k i); rw [<- hs0] at hd
    by_cases hlt : i < quR k
    . have mj : quC k i = i := by unfold quC; omega
      rw [mj, if_pos hlt] at hd; rw [jfO usK R0 0 [46] [] (atQ (quT k)) _ 2000 (frQ, toQ, quT k) (by decide) (by rw [jbW]) rfl (by rw [jbW]; show (1 : Int) ≠ 5; decide) _ hd (by decide), jbW, lc, mj]; unfold quV; rw [if_pos hlt, fW, bO]; rfl
    . have mj : quC k i = quR k := by unfold quC; omega
      rw [mj, if_neg (by omega)] at hd; rw [jlV usK R0 0 [46] (atQ (quT k)) _ 2000 (frQ, toQ, quT k) (by decide) (by rw [jbW]) rfl (by rw [jbW]; show (1 : Int) ≠ 5; decide) 5 hd, jbW, lc]; unfold quV; rw [if_neg hlt, fW, bO]; simp only [quD]; rw [if_neg hlt]; rfl
   rw [e] at h; exact h
 . have dw : quW k (2 * i + 2) = quV k i := by show (if (2 * i + 1) % 2 = 0 then _ else quV k ((2 * i + 1) / 2)) = _; rw [if_neg (by omega), show (2 * i + 1) / 2 = i by omega]
   have hw2 : quW k (2 * i + 2 + 1) = quU k (i + 1) := by show (if (2 * i + 2) % 2 = 0 then quU k ((2 * i + 2) / 2) else _) = _; rw [if_pos (by omega), show (2 * i + 2) / 2 = i + 1 by omega]
   rw [dw] at hR; rw [hw2]; have yD := jap (quR k) i
   by_cases hlt : i < quR k
   . have hv : quV k i = mlR (quF k (i + 1)) ((quF k i).length : Int) (i : Int) 1 (quS k i) (quS k (i + 1)) ⟨atS 1, [], [250], quD (quR k) i ++ [250, 250, 354]⟩ con0 := by unfold quV; rw [if_pos hlt]
     rw [hv] at hR; have h1 := km (i + 1) (by omega); have h := jhh usK usCs B b G _ u hR rfl (show mayN (quF k (i + 1)).length ((quF k i).length : Int) = true from jgP (by omega) (by omega) (by simp only [quF, aB]; omega)) (show (0 : Int) <= (i : Int) /\ (i : Int) <= 1000000 by omega) (show (0 : Int) <= 1 /\ (1 : Int) <= 1000000 by decide) (show 0 < 3 /\ 3 <= 1000 by decide) rfl ⟨rfl, jpN, by show (quD (quR k) i ++ [250, 250, 354]).length + 1 <= _; rw [aB, yD]; simp; omega⟩ jhJ jhJ fX; have e : relR (zq (mlR (quF k (i + 1)) ((quF k i).length : Int) (i : Int) 1 (quS k i) (quS k (i + 1)) ⟨atS 1, [], [250], quD (quR k) i ++ [250, 250, 354]⟩ con0)) 3 = quU k (i + 1) := by
        have mj : quC k (i + 1) = i + 1 := by unfold quC; omega
        have mn : quD (quR k) (i + 1) = quD (quR k) i ++ [250, 250, 354] ++ [250] := by simp only [quD]; rw [if_pos hlt]
        unfold quU; rw [mj, mn]; rfl
     rw [e] at h; exact h
   . have hv : quV k i = mlR (quF k (quC k i)) ((quF k (quC k i)).length : Int) ((quC k i : Nat) : Int) 0 (quS k (quC k i)) (quS k (quC k i)) (lnsK (atS 1) [] (quD (quR k) (i + 1))) con0 := by unfold quV; rw [if_neg hlt]
     rw [hv] at hR; have ns : quC k i <= 30 := by unfold quC; omega
     have h1 := km (quC k i) ns; have h := jhh usK usCs B b G _ u hR rfl (show mayN (quF k (quC k i)).length ((quF k (quC k i)).length : Int) = true from jgP (by omega) (by omega) (by omega)) (show (0 : Int) <= ((quC k i : Nat) : Int) /\ ((quC k i : Nat) : Int) <= 1000000 by omega) (show (0 : Int) <= 0 /\ (0 : Int) <= 1000000 by decide) (show 0 < 3 /\ 3 <= 1000 by decide) rfl ⟨rfl, jpN, by show (quD (quR k) (i + 1)).length + 0 <= _; rw [jap]; omega⟩ jhJ jhJ fX; have e : relR (zq (mlR (quF k (quC k i)) ((quF k (quC k i)).length : Int) ((quC k i : Nat) : Int) 0 (quS k (quC k i)) (quS k (quC k i)) (lnsK (atS 1) [] (quD (quR k) (i + 1))) con0)) 3 = quU k (i + 1) := by
        have mj : quC k (i + 1) = quC k i := by unfold quC; omega
        have CG : zT (lnsK (atS 1) [] (quD (quR k) (i + 1))) = lnsK (atS 1) [] (quD (quR k) (i + 1)) := by unfold zT dueC jbC lnsK; simp
        have ll : ((quC k i : Nat) : Int) + 0 = ((quC k i : Nat) : Int) := by omega
        unfold quU; rw [mj, jmN]
        show Rom.mk true _ _ (((quC k i : Nat) : Int) + 0) 0 _ _ (zT (lnsK (atS 1) [] (quD (quR k) (i + 1)))) _ _ _ _ = _
        rw [CG, ll]; rfl
     rw [e] at h; exact h
theorem jq5 (Q : Nat -> Prop) (a : Option Addr) (c : Nat) (hk : k <= 300) (hm : m <= 40) (w : World) (hM : TabsM w) (hA : AcsM Q w (.slice a (quA k m).length c) (quA k m)) :
 Calls Tryz.prog 6 #[.slice a (quA k m).length c] w (RanP w (quU k m)) := by
 have hw : quW k (quA k m).length = quU k m := by
  rw [qW, show 1 + 2 * m = 2 * m + 1 by omega]
  show (if (2 * m) % 2 = 0 then quU k (2 * m / 2) else _) = _
  rw [if_pos (by omega), show 2 * m / 2 = m by omega]
 have h := jlE Q a c (quA k m) w hM hA (by rw [qW]; omega) (fun x hx u => by
  obtain ⟨j, hj⟩ := List.getElem?_of_mem hx
  rcases jlA k m j x hj with ⟨_, rfl⟩ | ⟨i, _, ⟨_, rfl⟩ | ⟨_, rfl⟩⟩
  . exact jaN 0 (by omega) _ (by decide) u
  . exact jaN 0 (by omega) _ (by rw [(jlD k).1]; omega) u
  . exact jc1 u) (quW k) rfl (by rw [hw]; rfl) (by rw [hw]; rfl) fun j x hx B b G u hB hu hR => jq2 hk hm w hM j x hx B b G u hB hu hR
 rw [hw] at h; exact h
end Go.Proofs.YtjdkbdkimbgbfaaGreatDoor
