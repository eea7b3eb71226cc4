/-
  Rows that a call owns, boxes: what no function is named in.
  What the laws' maker of scripts does: the walk.
  The laws' Require of all, as its twelve cells.
  Plain facts on addresses: what may be in an atom, what is dotted, how a list of addresses is read. No program is named here.
  Plain facts on lists of addresses that the keeping laws lean on. No program is named here.
  Plain facts on addresses: what is read of a list may be. No program is named here.
  Letters delivered by a Require and one command: plain facts, and their rows in memory.
  A box is found: the walk of the laws' find.
-/
import Derived.Test.YtjfkgfomlnmngaaGreatDoorRowGen
import Derived.Test.YtjfkgfomlnmngaaGreatDoorScrCk
import Derived.Test.YtjfkgfomlnmngaaGreatDoorTokMem
import Derived.Test.YtjfkgfomlnmngaaGreatDoorQWhoPure4
import Derived.Test.YtjfkgfomlnmngaaGreatDoorScrW
import Derived.WalkKit
import Derived.Test.YtjfkgfomlnmngaaGreatDoorQPure2
import Derived.Test.YtjfkgfomlnmngaaGreatDoorQKeepLtr3
import Derived.Test.YtjfkgfomlnmngaaGreatDoorQDelDo6
namespace Go.Proofs.YtjfkgfomlnmngaaGreatDoor
open Go.RowKit Go.Proofs

theorem box_free {w : World} {b : Nat} {cs : Array Value} {t : TypeId} (h : w.heap[b]? = some (.cells cs t)) (o : Nat) : w.frozen? ⟨b, o, none⟩ = false := by simp [World.frozen?, h]
end Go.Proofs.YtjfkgfomlnmngaaGreatDoor
namespace Go.Proofs.YtjfkgfomlnmngaaGreatDoor
open Go.RowKit Go.Proofs

def reqV : Array Value := #[.string ⟨#[102, 105, 108, 101, 105, 110, 116, 111]⟩, .string ⟨#[114, 101, 106, 101, 99, 116]⟩, .string ⟨#[101, 110, 118, 101, 108, 111, 112, 101]⟩, .string ⟨#[105, 109, 97, 112, 52, 102, 108, 97, 103, 115]⟩]
theorem req_txts {Q : Nat → Prop} {w : World} {p : Nat} {t : TypeId} (h : w.heap[p]? = some (.cells reqV t)) (hQ : Q p) : TxtsM Q w (.slice (some ⟨p, 0, none⟩) 4 4) reqT := by
  refine ⟨some ⟨p, 0, none⟩, 4, rfl, by unfold maxLen reqT; simp, fun i x hx => ?_⟩
  have hi : i < 4 := (List.getElem?_eq_some_iff.1 hx).1
  refine ⟨p, 0, [.string (S x)], rfl, (Array.getElem?_eq_some_iff.1 h).1, hQ, rfl, fun j u hj => ?_, rfl⟩
  cases j with
  | succ j => simp at hj
  | zero =>
    simp at hj
    subst hj
    rw [Nat.zero_add, Nat.mul_one, Nat.add_zero, cell_of h]
    match i, hi with
    | 0, _ | 1, _ | 2, _ | 3, _ => cases hx; rfl

theorem second (w : World) (o0 o1 : Obj) : ((w.alloc o0).alloc o1).heap[w.heap.size + 1]? = some o1 := by
  have h1 : (w.alloc o0).heap.size = w.heap.size + 1 := by simp
  rw [← h1]
  exact heap_alloc_new _ o1

set_option maxHeartbeats 4000000 in
set_option maxRecDepth 100000 in
theorem requires_any (w : World) : Calls Tryz.prog 13 #[] w fun e w' => ∃ v, e = .returned v ∧ CmdR (newB w.heap.size) 2 reqC w' v ∧ Below w.heap.size w w' := by
  go_enter Tryz.func13, Tryz.ntmps13
  go_wp2
  refine bodyPost_ret (v := .agg #[.int .i64 1, .slice (some ⟨w.heap.size + 1, 0, none⟩) 4 4, .int .i64 0, .int .i64 0, .int .i64 0, .slice none 0 0, .slice none 0 0, .bool false, .int .i64 0, .slice none 0 0, .slice none 0 0, .slice none 0 0]) (by simp [results, Tryz.results13, go_sem]) rfl ?_
  refine ⟨_, rfl, ⟨[.int .i64 1, .slice (some ⟨w.heap.size + 1, 0, none⟩) 4 4, .int .i64 0, .int .i64 0, .int .i64 0, .slice none 0 0, .slice none 0 0, .bool false, .int .i64 0, .slice none 0 0, .slice none 0 0, .slice none 0 0], rfl, ⟨_, _, _, _, _, _, rfl, ?_, none_tst _ _ _, rowM_nil _ _ _ _ _ _, rowM_nil _ _ _ _ _ _⟩⟩, ?_⟩
  · exact req_txts (t := 9) (second w _ _) (show w.heap.size ≤ w.heap.size + 1 by omega)
  · exact ((Below.refl _ _).alloc (Nat.le_refl _) _).alloc (by simp) _


end Go.Proofs.YtjfkgfomlnmngaaGreatDoor
namespace Go.Proofs.YtjfkgfomlnmngaaGreatDoor
open Go.RowKit Go.Proofs

theorem rowM_duo {A : Type} {Q : Nat → Prop} {k : Nat} {P : A → List Value → Prop} {w : World} {p : Nat} {cs ds : List Value} {t : TypeId} {fr : Nat × Nat} {x y : A} (h : w.heap[p]? = some (.cells (cs ++ ds).toArray t fr)) (h1 : cs.length = k) (h2 : ds.length = k) (hQ : Q p) (hx : P x cs) (hy : P y ds) : RowM Q k P w (.slice (some ⟨p, 0, none⟩) 2 2) [x, y] := by
  have hp : p < w.heap.size := (Array.getElem?_eq_some_iff.1 h).1
  refine ⟨some ⟨p, 0, none⟩, 2, rfl, by unfold maxLen; simp, fun i z hz => ?_⟩
  match i, hz with
  | 0, hz =>
    simp at hz
    subst hz
    refine ⟨p, 0, cs, rfl, hp, hQ, h1, fun j u hj => ?_, hx⟩
    have hj' : j < cs.length := (List.getElem?_eq_some_iff.1 hj).1
    simp only [World.cell?, h]
    rw [Nat.zero_add, Nat.zero_mul, Nat.zero_add, List.getElem?_toArray, List.getElem?_append_left hj']
    exact hj
  | 1, hz =>
    simp at hz
    subst hz
    refine ⟨p, 0, ds, rfl, hp, hQ, h2, fun j u hj => ?_, hy⟩
    simp only [World.cell?, h]
    rw [Nat.zero_add, Nat.one_mul, List.getElem?_toArray, List.getElem?_append_right (by omega), h1, Nat.add_sub_cancel_left]
    exact hj
/-- The law's Require of all. -/
def ReqF (W : World) (e : Ending) (w' : World) : Prop := ∃ v0 v1 v2 v3 v4 v5 v6 v7 v8 v9 v10 v11 : Value, e = .returned (.agg #[v0, v1, v2, v3, v4, v5, v6, v7, v8, v9, v10, v11]) ∧ CmdM (newB W.heap.size) 2 w' reqC [v0, v1, v2, v3, v4, v5, v6, v7, v8, v9, v10, v11] ∧ Below W.heap.size W w'
theorem requires_f (w : World) : Calls Tryz.prog 13 #[] w (ReqF w) := (requires_any w).mono fun e w' h => by
  obtain ⟨v, rfl, ⟨cs, rfl, hC⟩, hb⟩ := h
  obtain ⟨ax, cx, an, cn, ak, ck, at', ct, aa, ca, ae, ce, m0, _, rfl, _⟩ := cmd_form hC
  exact ⟨_, _, _, _, _, _, _, _, _, _, _, _, rfl, hC, hb⟩
end Go.Proofs.YtjfkgfomlnmngaaGreatDoor
namespace Go.Proofs.YtjfkgfomlnmngaaGreatDoor
open Go.RowKit

/- P3.4. -/
end Go.Proofs.YtjfkgfomlnmngaaGreatDoor

namespace Go.Proofs.YtjfkgfomlnmngaaGreatDoor
open Go.RowKit

theorem letter_run {c : UInt8} (h : 97 ≤ c.toNat ∧ c.toNat ≤ 122) : runB c = true := by unfold runB; rw [letter_atom h]; simp
theorem letter_ne {c : UInt8} (h : 97 ≤ c.toNat ∧ c.toNat ≤ 122) (d : UInt8) (hd : d.toNat < 97) : c ≠ d := fun e => by rw [e] at h; omega
theorem letters_run {l : List UInt8} (h : letters l) : ∀ c ∈ l, runB c = true := by
  intro c hc
  rcases h c hc with h | rfl
  · exact letter_run h
  · decide
/-- A text that goes on with no byte of a run, or ends. -/
def stops (t : List UInt8) : Prop := ∀ c u, t = c :: u → runB c = false
theorem stops_nil : stops [] := fun c u h => by cases h
theorem stops_cons {c : UInt8} {u : List UInt8} (h : runB c = false) : stops (c :: u) := fun c' u' e => by cases e; exact h
theorem wrun_app {l t : List UInt8} (h : ∀ c ∈ l, runB c = true) (ht : stops t) : wrun (l ++ t) = l := by
  unfold wrun
  rw [List.takeWhile_append_of_pos h]
  cases t with
  | nil => simp
  | cons c u => rw [List.takeWhile_cons, ht c u rfl]; simp
theorem wrest_app {l t : List UInt8} (h : ∀ c ∈ l, runB c = true) (ht : stops t) : wrest (l ++ t) = t := by
  unfold wrest
  rw [List.dropWhile_append_of_pos h]
  cases t with
  | nil => simp
  | cons c u => rw [List.dropWhile_cons, ht c u rfl]; simp
theorem plainP_text {a : Adr} (h : lawful a) {t : List UInt8} (ht : stops t) : plainP (textA a ++ t) = some (a, t) := by
  obtain ⟨k1, k2⟩ := h.letters
  have e : textA a ++ t = a.1 ++ 64 :: (a.2 ++ t) := by simp [textA]
  unfold plainP
  rw [e, wrest_app (letters_run k1) (stops_cons (by decide)), wrun_app (letters_run k1) (stops_cons (by decide))]
  simp only [takeP, if_true]
  rw [wrun_app (letters_run k2) ht, wrest_app (letters_run k2) ht, if_pos h.check]
/-- A text that opens with no blank. -/
theorem wblanks_keep {c : UInt8} {t : List UInt8} (h : blankB c = false) : wblanks (c :: t) = c :: t := by
  unfold wblanks; rw [List.dropWhile_cons, h]; simp
theorem text_blanks {a : Adr} (h : lawful a) (t : List UInt8) : wblanks (textA a ++ t) = textA a ++ t := by
  obtain ⟨⟨h1, _, h2⟩, _⟩ := h
  unfold textA
  cases e : a.1 with
  | nil => exact absurd e h1
  | cons c u =>
    rw [e] at h2
    refine wblanks_keep ?_
    have := h2 c (by simp)
    unfold blankB
    simp only [Bool.or_eq_false_iff, beq_eq_false_iff_ne]
    exact ⟨letter_ne this _ (by decide), letter_ne this _ (by decide)⟩
theorem addressP_text {a : Adr} (h : lawful a) {t : List UInt8} (ht : stops t) : addressP (textA a ++ t) = some (a, wblanks t) := by
  obtain ⟨k1, k2⟩ := h.letters
  unfold addressP
  rw [text_blanks h]
  have e : wrest (textA a ++ t) = 64 :: (a.2 ++ t) := by
    have e : textA a ++ t = a.1 ++ 64 :: (a.2 ++ t) := by simp [textA]
    rw [e, wrest_app (letters_run k1) (stops_cons (by decide))]
  rw [e]
  simp only [takeP, if_true, Option.isSome_some]
  rw [plainP_text h ht]; rfl

/-- P3: an address is a list of one. -/
theorem listP_text {a : Adr} (h : lawful a) : listP (textA a) = some [a] := by
  have e := addressP_text h stops_nil
  rw [List.append_nil] at e
  exact listP_one e
/- WhoMany. -/
/- WhoFull. -/
end Go.Proofs.YtjfkgfomlnmngaaGreatDoor

namespace Go.Proofs.YtjfkgfomlnmngaaGreatDoor
open Go.RowKit Go.Proofs

end Go.Proofs.YtjfkgfomlnmngaaGreatDoor
namespace Go.Proofs.YtjfkgfomlnmngaaGreatDoor
open Go.RowKit Go.Proofs

theorem row2 {u : World} {p q : Nat} {k : Int} {v0 v1 v2 v3 v4 v5 v6 v7 v8 v9 v10 v11 : Value} {t : List UInt8} (hp : u.heap[p]? = some (.cells #[v0, v1, v2, v3, v4, v5, v6, v7, v8, v9, v10, v11, .int .i64 k, .slice (some ⟨q, 0, none⟩) 1 1, .int .i64 0, .int .i64 0, .int .i64 0, .slice none 0 0, .slice none 0 0, .bool false, .int .i64 0, .slice none 0 0, .slice none 0 0, .slice none 0 0] 54)) (hq : u.heap[q]? = some (.cells #[.string (S t)] 9)) (hR : CmdM anyB 2 u reqC [v0, v1, v2, v3, v4, v5, v6, v7, v8, v9, v10, v11]) : CmdsM anyB 3 u (.slice (some ⟨p, 0, none⟩) 2 2) [reqC, ⟨k, [t], noneT, [], []⟩] :=
  rowM_duo (cs := [v0, v1, v2, v3, v4, v5, v6, v7, v8, v9, v10, v11]) (ds := [.int .i64 k, .slice (some ⟨q, 0, none⟩) 1 1, .int .i64 0, .int .i64 0, .int .i64 0, .slice none 0 0, .slice none 0 0, .bool false, .int .i64 0, .slice none 0 0, .slice none 0 0, .slice none 0 0]) hp rfl rfl trivial (CmdM.more _ 3 _ _ (by omega) hR) (cmd1 hq)
def fileC (nm : List UInt8) : Cmd := ⟨5, [nm], noneT, [], []⟩
def rejC (t : List UInt8) : Cmd := ⟨7, [t], noneT, [], []⟩
theorem reqD_len : (cmdT 3 reqC).length ≤ 20 := by show 11 ≤ 20; omega
theorem good_req (n : Nat) : goodC n reqC := by
  cases n with
  | zero => trivial
  | succ n => exact ⟨fun _ => ⟨by simp [reqC], (fun h => by rcases h with h | h | h <;> cases h), fun h => by cases h⟩, fun h => by cases h⟩
theorem short_req (n : Nat) : ShortC n reqC := by
  cases n with
  | zero => trivial
  | succ n => exact ⟨(fun h => by cases h), (fun x hx => by cases hx), fun x hx => by cases hx⟩
theorem scr_two {x : Cmd} (h1 : ShortC 3 x) (h2 : faultCmd 3 0 x = 0) (h3 : (cmdT 3 x).length ≤ 100) (h4 : NiceC 3 x) (h5 : goodC 3 x) : ScrOk 2 [reqC, x] := by
  refine ⟨?_, rule_allowed ?_ ?_, ?_⟩
  · intro y hy
    rcases List.mem_cons.1 hy with e | e
    · rw [e]; exact short_req _
    · rw [List.mem_singleton.1 e]; exact h1
  · rw [checkM_of fun y hy => ?_]
    · rw [if_neg]
      have := reqD_len
      show ¬ 400 < (cmdsT 3 [reqC, x]).length
      unfold cmdsT
      rw [List.flatMap_cons, List.flatMap_cons, List.flatMap_nil, List.append_nil, List.length_append]
      omega
    · rcases List.mem_cons.1 hy with e | e
      · rw [e]; exact fault_req 3
      · rw [List.mem_singleton.1 e]; exact h2
  · intro y hy
    rw [List.mem_singleton.1 hy]; exact h4
  · intro y hy
    rcases List.mem_cons.1 hy with e | e
    · rw [e]; exact good_req _
    · rw [List.mem_singleton.1 e]; exact h5
theorem scr_file {nm : List UInt8} (h : nameP nm = 0) : ScrOk 2 [reqC, fileC nm] :=
  scr_two ⟨(fun h => by cases h), (fun y hy => by cases hy), fun y hy => by cases hy⟩ rfl (by show 3 ≤ 100; omega)
    ⟨(fun h => by cases h), (fun _ => h), (fun h => by rcases h with h | h <;> cases h), (fun h => by cases h), niceT0 2, (fun y hy => by cases hy), fun y hy => by cases hy⟩
    ⟨fun _ => ⟨.inr (.inr (.inr (.inl rfl))), (fun _ h => by cases h), fun h => by cases h⟩, fun h => by cases h⟩
theorem scr_rej (t : List UInt8) : ScrOk 2 [reqC, rejC t] :=
  scr_two ⟨(fun h => by cases h), (fun y hy => by cases hy), fun y hy => by cases hy⟩ rfl (by show 3 ≤ 100; omega)
    ⟨(fun h => by cases h), (fun h => by cases h), (fun h => by rcases h with h | h <;> cases h), (fun h => by cases h), niceT0 2, (fun y hy => by cases hy), fun y hy => by cases hy⟩
    ⟨fun _ => ⟨.inr (.inr (.inr (.inr (.inr (.inl rfl))))), (fun _ h => by cases h), fun h => by cases h⟩, fun h => by cases h⟩
theorem plan_file (bs : List Bx) (o : Opn) (nm : List UInt8) : [appE (boxFor bs nm) 0 o.tx] = plan bs o (endP (judgeP o 3 [reqC, fileC nm])) := rfl
theorem plan_rej (bs : List Bx) (o : Opn) (t : List UInt8) : [outE (partM 1 o.fl o.fd).1 t] = plan bs o (endP (judgeP o 3 [reqC, rejC t])) := rfl
theorem wordy_name {l : List UInt8} (h : wordy l) : nameP l = 0 := by
  obtain ⟨h0, h8, hc⟩ := h
  have : 0 < l.length := by cases l with
    | nil => exact absurd rfl h0
    | cons _ _ => simp
  unfold nameP
  rw [if_neg (by omega), if_pos]
  rw [List.all_eq_true]
  intro c hm
  have := hc c hm
  unfold inName
  simp only [Bool.and_eq_true, decide_eq_true_eq]
  omega
/- An address that the laws make goes out. -/
theorem part_one {a : Adr} (h : lawful a) : partM 1 a.1 a.2 = (textA a, 0) := by
  have hc : ¬ checkA a.1 a.2 ≠ 0 := by simpa using h.check
  unfold partM; rw [if_neg hc]; rfl
theorem goal_text {a : Adr} (h : lawful a) : goalM (textA a) = 0 := by
  have hl := h.size
  have hm : listM (textA a) = ([a], 0) := by
    unfold listM; rw [if_neg (by omega), listP_text h]; rfl
  unfold goalM
  rw [if_neg (by omega), hm, if_pos ⟨rfl, rfl⟩]
/- INBOX is there. -/
theorem addM_names {s s' : Stt} {i : Nat} {f : Int} {t : List UInt8} (h : addM s i f t = .ok s') : s'.boxes.map Bx.name = s.boxes.map Bx.name := by
  unfold addM at h
  cases hb : s.boxes[i]? with
  | none => rw [hb] at h; cases h
  | some b =>
    rw [hb] at h
    simp only at h
    split at h
    · cases h
    · cases h; exact map_set_same Bx.name _ _ _ _ hb rfl
theorem doM_names {s s' : Stt} {x : Ent} (h : doM s x = .ok s') : ∃ l, s'.boxes.map Bx.name = s.boxes.map Bx.name ++ l := by
  have same : ∀ {i : Nat} {b b' : Bx}, s.boxes[i]? = some b → b'.name = b.name → ∃ l, (s.boxes.set i b').map Bx.name = s.boxes.map Bx.name ++ l := fun hb hn => ⟨[], by rw [List.append_nil]; exact map_set_same Bx.name _ _ _ _ hb hn⟩
  unfold doM at h
  split at h
  · split at h
    · cases h
    · split at h
      · cases h
      · cases h; exact ⟨_, List.map_append⟩
  · split at h
    · split at h
      · cases h
      · cases h; exact ⟨[], (List.append_nil _).symm⟩
    · split at h
      · cases h
      · split at h
        · exact ⟨[], by rw [addM_names h, List.append_nil]⟩
        · split at h
          · cases h
          · rename_i b hb
            split at h
            · cases h; exact same hb rfl
            · split at h
              · cases h
              · split at h
                · cases h
                · split at h
                  · split at h
                    · cases h
                    · exact ⟨[], by rw [addM_names h, List.append_nil]⟩
                  · cases h; exact same hb rfl
theorem boxFor_name (bs : List Bx) {nm : List UInt8} (h : nameP nm = 0) : nameP (boxFor bs nm) = 0 := by
  unfold boxFor; split
  · exact h
  · exact inb_name
def hasInb (s : Stt) : Prop := inbL ∈ s.boxes.map Bx.name
theorem step_inb {s : Stt} (h : hasInb s) (c : Chr) : hasInb (bstepP s c) := by
  unfold bstepP
  cases hd : doM s (entP c) with
  | error z => exact h
  | ok s' =>
    obtain ⟨l, e⟩ := doM_names hd
    show inbL ∈ s'.boxes.map Bx.name
    rw [e]
    exact List.mem_append_left _ h
theorem fold_inb : ∀ (l : List Chr) (s : Stt), hasInb s → hasInb (l.foldl bstepP s) := by
  intro l
  induction l with
  | nil => intro s h; exact h
  | cons c l ih => intro s h; exact ih _ (step_inb h c)
theorem stateP_inb (l : List Chr) : hasInb (stateP l) := fold_inb _ _ (by simp [hasInb, initS, inbL])
theorem boxFor_in {s : Stt} (h : hasInb s) (nm : List UInt8) : ∃ i b, s.boxes.findIdx? (isName (boxFor s.boxes nm)) = some i ∧ s.boxes[i]? = some b := by
  have key : ∀ n, n ∈ s.boxes.map Bx.name → ∃ i b, s.boxes.findIdx? (isName n) = some i ∧ s.boxes[i]? = some b := by
    intro n hn
    cases hf : s.boxes.findIdx? (isName n) with
    | none =>
      obtain ⟨b, hb, e⟩ := List.mem_map.1 hn
      have := find_none hf b hb
      simp [isName, e] at this
    | some i => obtain ⟨b, hb, _⟩ := find_at hf; exact ⟨i, b, rfl, hb⟩
  unfold boxFor
  split
  · rename_i hi
    unfold idxZ at hi
    cases hf : s.boxes.findIdx? (isName nm) with
    | none => rw [hf] at hi; simp at hi
    | some i => obtain ⟨b, hb, _⟩ := find_at hf; exact ⟨i, b, rfl, hb⟩
  · exact key _ h
theorem app_err {s : Stt} (h : hasInb s) {nm tx : List UInt8} {f z : Int} (hd : doM s (appE (boxFor s.boxes nm) f tx) = .error z) : z = 5 := by
  obtain ⟨i, b, hi, hb⟩ := boxFor_in h nm
  unfold doM at hd
  rw [if_neg (by simp [appE]), if_neg (by simp [appE])] at hd
  simp only [appE] at hd
  rw [hi] at hd
  simp only [if_true] at hd
  unfold addM at hd
  rw [hb] at hd
  simp only at hd
  split at hd
  · cases hd; rfl
  · cases hd
/- What Deliver hands back of one entry, in its parts. -/
def DlvF (u : World) (s : Stt) (E : Ent) (a : Option Addr) (n c : Nat) (vb vs : Value) (z : Int) (w' : World) : Prop := match doM s E with
  | .error q => z = q ∧ n = 0
  | .ok s' => z = 0 ∧ n = 1 ∧ ∃ vm, EntsM (fun k => u.heap.size ≤ k) w' (.slice a 1 c) [E] ∧ OwnS u.heap.size w' vb vs vm s'
theorem OwnS.low {B B' : Nat} {w : World} {vb vs : Value} {vm : List Value} {s : Stt} (h : OwnS B' w vb vs vm s) (hB : B ≤ B') : OwnS B w vb vs vm s :=
  ⟨bown_base h.boxes hB, bown_base h.spool hB, h.len, fun i b v hb hv => bown_base (h.mails i b v hb hv) hB, h.bs, h.mb, h.ms, h.mm⟩
theorem DlvP.form {u w' : World} {s : Stt} {E : Ent} {e : Ending} (h : DlvP u s [E] e w') : ∃ a n c a1 n1 d1 a2 n2 d2 z, e = .returned (.tuple #[.slice a n c, .agg #[.slice a1 n1 d1, .slice a2 n2 d2], .int .i64 z]) ∧ DlvF u s E a n c (.slice a1 n1 d1) (.slice a2 n2 d2) z w' ∧ Below u.heap.size u w' := by
  obtain ⟨hb, h⟩ := h
  rw [allM_one] at h
  cases hd : doM s E with
  | error q =>
    rw [hd] at h
    exact ⟨none, 0, 0, none, 0, 0, none, 0, 0, q, h, by unfold DlvF; rw [hd]; exact ⟨rfl, rfl⟩, hb⟩
  | ok s' =>
    rw [hd] at h
    obtain ⟨a, c, t, vb, vs, vm, rfl, h1, h2, h3⟩ := h
    obtain ⟨a1, d1, rfl⟩ := bown_slice h3.boxes
    obtain ⟨a2, d2, rfl⟩ := bown_slice h3.spool
    exact ⟨a, 1, c, a1, _, d1, a2, _, d2, 0, rfl, by unfold DlvF; rw [hd]; exact ⟨rfl, rfl, vm, EntsM.imp h1 (fun _ h => h.1) (Keeps.refl _ _), h3.low h2⟩, hb⟩
/-- The same, its state in a box. -/
def DlvB (W : World) (s : Stt) (E : Ent) (vx vt ve : Value) (wx : World) : Prop := ∃ P a n c a1 n1 d1 a2 n2 d2 z, vt = .pointer (some ⟨P, 0, none⟩) ∧ vx = .slice a n c ∧ ve = .int .i64 z ∧ W.heap.size ≤ P ∧ Below W.heap.size W wx ∧ wx.heap[P]? = some (.cells #[.slice a1 n1 d1, .slice a2 n2 d2] 31) ∧ match doM s E with
  | .error q => z = q ∧ n = 0
  | .ok s' => z = 0 ∧ n = 1 ∧ ∃ vm, EntsM (fun k => k ≠ P) wx (.slice a 1 c) [E] ∧ OwnS W.heap.size wx (.slice a1 n1 d1) (.slice a2 n2 d2) vm s' ∧ ¬ inS (.slice a1 n1 d1) (.slice a2 n2 d2) vm P
theorem DlvB.new {W u w' : World} {s : Stt} {E : Ent} {a a1 a2 : Option Addr} {n c n1 d1 n2 d2 : Nat} {z : Int} (h : DlvF u s E a n c (.slice a1 n1 d1) (.slice a2 n2 d2) z w') (hu : W.heap.size ≤ u.heap.size) (hb : Below W.heap.size W w') : DlvB W s E (.slice a n c) (.pointer (some ⟨w'.heap.size, 0, none⟩)) (.int .i64 z) (w'.alloc (.cells #[.slice a1 n1 d1, .slice a2 n2 d2] 31)) := by
  refine ⟨_, a, n, c, a1, n1, d1, a2, n2, d2, z, rfl, rfl, rfl, hb.size, hb.alloc hb.size _, tl_at _ rfl, ?_⟩
  unfold DlvF at h
  have hn : Below w'.heap.size w' (w'.alloc (.cells #[.slice a1 n1 d1, .slice a2 n2 d2] 31)) := (Below.refl _ _).alloc (Nat.le_refl _) _
  cases hd : doM s E with
  | error q => rw [hd] at h; exact h
  | ok s' =>
    rw [hd] at h
    obtain ⟨h1, h2, vm, h3, h5⟩ := h
    exact ⟨h1, h2, vm, EntsM.imp (RowM.lows h3 fun _ _ h => h) (fun k hk => by show k ≠ w'.heap.size; omega) (Keeps.of_below hn), (h5.low hu).next hn, fun hg => by have := (h5.lt hg).2; omega⟩
theorem DlvB.old {W u w' : World} {s : Stt} {E : Ent} {a a1 a2 : Option Addr} {n c n1 d1 n2 d2 P : Nat} {z : Int} {v0 v1 : Value} (h : DlvF u s E a n c (.slice a1 n1 d1) (.slice a2 n2 d2) z w') (hu : W.heap.size ≤ u.heap.size) (hb : Below W.heap.size W w') (hP : W.heap.size ≤ P) (hl : P < u.heap.size) (hk : w'.heap[P]? = some (.cells #[v0, v1] 31)) : DlvB W s E (.slice a n c) (.pointer (some ⟨P, 0, none⟩)) (.int .i64 z) ((w'.setCell ⟨P, 0, none⟩ (.slice a1 n1 d1)).setCell ⟨P, 1, none⟩ (.slice a2 n2 d2)) := by
  refine ⟨_, a, n, c, a1, n1, d1, a2, n2, d2, z, rfl, rfl, rfl, hP, (hb.setCell hP _).setCell hP _, set2_block hk, ?_⟩
  unfold DlvF at h
  cases hd : doM s E with
  | error q => rw [hd] at h; exact h
  | ok s' =>
    rw [hd] at h
    obtain ⟨h1, h2, vm, h3, h5⟩ := h
    have hK : Keeps (fun k => u.heap.size ≤ k) w' ((w'.setCell ⟨P, 0, none⟩ (.slice a1 n1 d1)).setCell ⟨P, 1, none⟩ (.slice a2 n2 d2)) := (Keeps.set _ (p := ⟨P, 0, none⟩) _ fun b h => by show b ≠ P; omega).trans (Keeps.set _ (p := ⟨P, 1, none⟩) _ fun b h => by show b ≠ P; omega)
    refine ⟨h1, h2, vm, EntsM.imp h3 (fun k h => by show k ≠ P; omega) hK, (h5.low hu).keep fun g hg => ?_, fun hg => by have := (h5.lt hg).1; omega⟩
    have hg' : g ≠ P := by have := (h5.lt hg).1; omega
    exact (set_other hg').trans (set_other hg')
def DlvG (W u : World) (s : Stt) (E : Ent) (e : Ending) (w' : World) : Prop := ∃ a n c a1 n1 d1 a2 n2 d2 z, e = .returned (.tuple #[.slice a n c, .agg #[.slice a1 n1 d1, .slice a2 n2 d2], .int .i64 z]) ∧ DlvF u s E a n c (.slice a1 n1 d1) (.slice a2 n2 d2) z w' ∧ Below u.heap.size u w' ∧ Below W.heap.size W w' ∧ W.heap.size ≤ u.heap.size
theorem DlvP.gen {W u w' : World} {s : Stt} {E : Ent} {e : Ending} (h : DlvP u s [E] e w') (hW : Below W.heap.size W u) : DlvG W u s E e w' := by
  obtain ⟨a, n, c, a1, n1, d1, a2, n2, d2, z, h1, h2, h3⟩ := h.form
  exact ⟨a, n, c, a1, n1, d1, a2, n2, d2, z, h1, h2, h3, hW.trans (h3.mono hW.size), hW.size⟩
theorem tl_at1 {w : World} (p o : Obj) : ((w.alloc p).alloc o).heap[w.heap.size + 1]? = some o := tl_at _ (by simp)
theorem tl_at2 {w : World} (p q o : Obj) : (((w.alloc p).alloc q).alloc o).heap[w.heap.size + 2]? = some o := tl_at _ (by simp)
set_option maxHeartbeats 1000000 in
theorem short_t (s : ByteArray) (w : World) (hs : s.size ≤ maxLen) :
    Calls Tryz.prog 16 #[.string s] w fun e w' => e = .returned (.string (S (cutL s 12))) ∧ w' = w := by
  rw [S_cutL]
  go_enter Tryz.func16, Tryz.ntmps16
  go_wp2_with fail
  refine (cut_any s 12 w hs (by omega)).mono ?_
  rintro e w1 ⟨rfl, rfl⟩
  go_wp2
  go_ret
  exact ⟨rfl, rfl⟩
end Go.Proofs.YtjfkgfomlnmngaaGreatDoor
namespace Go.Proofs.YtjfkgfomlnmngaaGreatDoor
open Go.RowKit Go.Proofs

set_option maxHeartbeats 1000000 in
set_option maxRecDepth 100000 in
theorem find_any (s : Stt) (vb vs : Value) (nm : List UInt8) (w : World) (Q : Nat → Prop) (hS : SttM Q w vb vs s) :
    Calls Tryz.prog 14 #[.agg #[vb, vs], .string (S nm)] w fun e w' => e = .returned (.int .i64 (idxZ (isName nm) s.boxes)) ∧ Below w.heap.size w w' := by
  have hm := RowM.small hS.1
  unfold maxLen at hm
  obtain ⟨ab, cb, rfl⟩ := RowM.slice hS.1
  obtain ⟨aq, cq, rfl⟩ := RowM.slice hS.2.1
  obtain ⟨W1, hW1⟩ : ∃ W1, W1 = w.alloc (.cells #[.slice ab s.boxes.length cb, .slice aq s.spool.length cq] 31) := ⟨_, rfl⟩
  have HWE := hid hW1
  have hB1 : Below w.heap.size w W1 := by rw [hW1]; exact (Below.refl _ _).alloc (Nat.le_refl _) _
  have HB1 := hid hB1
  have x0 : W1.cell? ⟨w.heap.size, 0, none⟩ = some (.slice ab s.boxes.length cb) := by rw [hW1]; simp
  have HL := hid (hS.1.next hB1)
  clear hS hW1 hB1
  go_enter Tryz.func14, Tryz.ntmps14
  go_wp2
  rw [← HWE.out]
  go_loopw [5] (fun v wr => ∃ i : Nat, i ≤ s.boxes.length ∧ v = .int .i64 i ∧ wr = W1 ∧ Hid (∀ (j : Nat) y, j < i → s.boxes[j]? = some y → isName nm y = false)) (fun v _ => s.boxes.length - (intOf v).toNat)
  case atStart => exact ⟨0, Nat.zero_le _, rfl, rfl, fun j y h => by omega⟩
  case round =>
    obtain ⟨i, hi, rfl, hwr, HI⟩ := hrel
    have hwr' := hwr.symm
    subst hwr'
    clear hwr
    by_cases hlt : i < s.boxes.length
    · have i1 : (i : Int) < (s.boxes.length : Int) := by omega
      have i0 : (0 : Int) ≤ (i : Int) := by omega
      obtain ⟨x, hx⟩ : ∃ x, s.boxes[i]? = some x := ⟨_, List.getElem?_eq_getElem hlt⟩
      obtain ⟨b, o, v, rfl, _, e0, e1, e2, _⟩ := HL.out.at hx
      have HS := hid (bS_same x.name nm)
      by_cases hp : x.name = nm
      · have HE := hid (idxZ_hit HI.out hx (show isName nm x = true by unfold isName; simp [hp]))
        have hq : ((S x.name).toList == (S nm).toList) = true := by rw [HS.out]; simp [hp]
        clear hx hp HS
        go_wp2
        go_ret
        exact ⟨ret_int HE.out.symm, HB1.out⟩
      · have HE := hid (miss_more HI.out hx (show isName nm x = false by unfold isName; simp [hp]))
        have hq : ((S x.name).toList == (S nm).toList) = false := by rw [HS.out]; simp [hp]
        clear hx hp HS
        go_wp2
        go_roundw
        case rel => first | exact ⟨i + 1, by omega, by go_num, by first | rfl | trivial, HE⟩ | ((repeat apply Exists.intro); exact ⟨⟨i + 1, by omega, by go_num, by first | rfl | trivial, HE⟩, rfl⟩) | (refine ⟨trivial, ?_⟩; (repeat apply Exists.intro); exact ⟨⟨i + 1, by omega, by go_num, by first | rfl | trivial, HE⟩, rfl⟩) | exact ⟨i + 1, by omega, by go_num, HE⟩
        case measure => simp [intOf]; omega
    · have i1 : ¬ (i : Int) < (s.boxes.length : Int) := by omega
      have HE := hid (idxZ_miss fun (j : Nat) y hj => HI.out j y (by omega))
      go_wp2
      go_ret
      exact ⟨ret_int HE.out.symm, HB1.out⟩
end Go.Proofs.YtjfkgfomlnmngaaGreatDoor
