/-
  Plain facts on tokens: what a script is cut into, what tokens are joined to. No program is named here.
-/
import Derived.Test.YtgfbdgheencmaaaGreatDoorXBoxPur
import Derived.Test.YtgfbdgheencmaaaGreatDoorRows
import Derived.Shelf.Abstract
import Derived.Deep.RegionHeld3
import Derived.Deep.RegionLaw
import Derived.Deep.DeepCutAuto
import Derived.Lib.SliceRun
set_option maxHeartbeats 1000000
set_option maxRecDepth 100000
namespace Go.Proofs.YtgfbdgheencmaaaGreatDoor
open Go.RowKit
open Go.Proofs
def zk (m : Mail) : List Value := [.int .i64 m.uid, .int .i64 m.flags, .string (S m.text)]
def entC (x : Ent) : List Value := [.int .i64 x.kind, .string (S x.box), .int .i64 x.uid, .int .i64 x.flags, .string (S x.goal), .string (S x.text)]
def boxC (b : Bx) (v : Value) : List Value := [.string (S b.name), .int .i64 b.next, v]
def joE (m : Mail) (cs : List Value) : Prop := cs = zk m
def EntM (x : Ent) (cs : List Value) : Prop := cs = entC x
def MailsM (Q : Nat → Prop) (w : World) (v : Value) (l : List Mail) : Prop := RowM Q 3 joE w v l
def EntsM (Q : Nat → Prop) (w : World) (v : Value) (l : List Ent) : Prop := RowM Q 6 EntM w v l
def BoxM (Q : Nat → Prop) (w : World) (b : Bx) (cs : List Value) : Prop := ∃ v, cs = boxC b v ∧ MailsM Q w v b.mails
def BoxsM (Q : Nat → Prop) (w : World) (v : Value) (l : List Bx) : Prop := RowM Q 3 (BoxM Q w) w v l
def SttM (Q : Nat → Prop) (w : World) (vb vs : Value) (s : Stt) : Prop := BoxsM Q w vb s.boxes ∧ EntsM Q w vs s.spool ∧ ∀ a n c, vb = .slice a n c → n ≤ c
theorem MailsM.imp {Q Q' : Nat → Prop} {w w' : World} {v : Value} {l : List Mail} (h : MailsM Q w v l) (hq : ∀ b, Q b → Q' b) (hk : Keeps Q w w') : MailsM Q' w' v l := RowM.imp h hq hk fun _ _ h => h
theorem EntsM.imp {Q Q' : Nat → Prop} {w w' : World} {v : Value} {l : List Ent} (h : EntsM Q w v l) (hq : ∀ b, Q b → Q' b) (hk : Keeps Q w w') : EntsM Q' w' v l := RowM.imp h hq hk fun _ _ h => h
theorem BoxM.imp {Q Q' : Nat → Prop} {w w' : World} {b : Bx} {cs : List Value} (h : BoxM Q w b cs) (hq : ∀ b, Q b → Q' b) (hk : Keeps Q w w') : BoxM Q' w' b cs := by
 obtain ⟨v, e, h⟩ := h; exact ⟨v, e, h.imp hq hk⟩
theorem BoxsM.imp {Q Q' : Nat → Prop} {w w' : World} {v : Value} {l : List Bx} (h : BoxsM Q w v l) (hq : ∀ b, Q b → Q' b) (hk : Keeps Q w w') : BoxsM Q' w' v l := RowM.imp h hq hk fun _ _ h => h.imp hq hk
theorem SttM.imp {Q Q' : Nat → Prop} {w w' : World} {vb vs : Value} {s : Stt} (h : SttM Q w vb vs s) (hq : ∀ b, Q b → Q' b) (hk : Keeps Q w w') : SttM Q' w' vb vs s := ⟨h.1.imp hq hk, h.2.1.imp hq hk, h.2.2⟩
theorem SttM.next {Q : Nat → Prop} {w w' : World} {vb vs : Value} {s : Stt} (h : SttM Q w vb vs s) (hb : Below w.heap.size w w') : SttM Q w' vb vs s := h.imp (fun _ h => h) (Keeps.of_below hb)
theorem BoxsM.next {Q : Nat → Prop} {w w' : World} {v : Value} {l : List Bx} (h : BoxsM Q w v l) (hb : Below w.heap.size w w') : BoxsM Q w' v l := h.imp (fun _ h => h) (Keeps.of_below hb)
theorem EntsM.next {Q : Nat → Prop} {w w' : World} {v : Value} {l : List Ent} (h : EntsM Q w v l) (hb : Below w.heap.size w w') : EntsM Q w' v l := h.imp (fun _ h => h) (Keeps.of_below hb)
theorem MailsM.next {Q : Nat → Prop} {w w' : World} {v : Value} {l : List Mail} (h : MailsM Q w v l) (hb : Below w.heap.size w w') : MailsM Q w' v l := h.imp (fun _ h => h) (Keeps.of_below hb)
theorem MailsM.at {Q : Nat → Prop} {w : World} {a : Option Addr} {n c : Nat} {l : List Mail} (h : MailsM Q w (.slice a n c) l) {i : Nat} {x : Mail} (hx : l[i]? = some x) : ∃ b o, a = some ⟨b, o, none⟩ ∧ Q b ∧ w.cell? ⟨b, o + i * 3, none⟩ = some (.int .i64 x.uid) ∧ w.cell? ⟨b, o + i * 3 + 1, none⟩ = some (.int .i64 x.flags) ∧ w.cell? ⟨b, o + i * 3 + 2, none⟩ = some (.string (S x.text)) := by
 obtain ⟨a', c', hv, _, hr⟩ := h; simp only [Value.slice.injEq] at hv; obtain ⟨rfl, _, rfl⟩ := hv; obtain ⟨b, o, cs, rfl, _, hq, _, hc, hP⟩ := hr i x hx; have hcs : cs = _ := hP; subst hcs; exact ⟨b, o, rfl, hq, by simpa using hc 0 _ rfl, hc 1 _ rfl, hc 2 _ rfl⟩
theorem BoxsM.at {Q : Nat → Prop} {w : World} {a : Option Addr} {n c : Nat} {l : List Bx} (h : BoxsM Q w (.slice a n c) l) {i : Nat} {x : Bx} (hx : l[i]? = some x) : ∃ b o v, a = some ⟨b, o, none⟩ ∧ Q b ∧ w.cell? ⟨b, o + i * 3, none⟩ = some (.string (S x.name)) ∧ w.cell? ⟨b, o + i * 3 + 1, none⟩ = some (.int .i64 x.next) ∧ w.cell? ⟨b, o + i * 3 + 2, none⟩ = some v ∧ MailsM Q w v x.mails := by
 obtain ⟨a', c', hv, _, hr⟩ := h; simp only [Value.slice.injEq] at hv; obtain ⟨rfl, _, rfl⟩ := hv; obtain ⟨b, o, cs, rfl, _, hq, _, hc, v, hcs, hm⟩ := hr i x hx; subst hcs; exact ⟨b, o, v, rfl, hq, by simpa using hc 0 _ rfl, hc 1 _ rfl, hc 2 _ rfl, hm⟩
theorem EntsM.at {Q : Nat → Prop} {w : World} {a : Option Addr} {n c : Nat} {l : List Ent} (h : EntsM Q w (.slice a n c) l) {i : Nat} {x : Ent} (hx : l[i]? = some x) : ∃ b o, a = some ⟨b, o, none⟩ ∧ Q b ∧ w.cell? ⟨b, o + i * 6, none⟩ = some (.int .i64 x.kind) ∧ w.cell? ⟨b, o + i * 6 + 1, none⟩ = some (.string (S x.box)) ∧ w.cell? ⟨b, o + i * 6 + 2, none⟩ = some (.int .i64 x.uid) ∧ w.cell? ⟨b, o + i * 6 + 3, none⟩ = some (.int .i64 x.flags) ∧ w.cell? ⟨b, o + i * 6 + 4, none⟩ = some (.string (S x.goal)) ∧ w.cell? ⟨b, o + i * 6 + 5, none⟩ = some (.string (S x.text)) := by
 obtain ⟨a', c', hv, _, hr⟩ := h; simp only [Value.slice.injEq] at hv; obtain ⟨rfl, _, rfl⟩ := hv; obtain ⟨b, o, cs, rfl, _, hq, _, hc, hP⟩ := hr i x hx; have hcs : cs = _ := hP; subst hcs; exact ⟨b, o, rfl, hq, by simpa using hc 0 _ rfl, hc 1 _ rfl, hc 2 _ rfl, hc 3 _ rfl, hc 4 _ rfl, hc 5 _ rfl⟩
theorem vh {k : Nat} : ∀ {css : List (List Value)} {i j : Nat} {cs : List Value}, (∀ c ∈ css, c.length = k) → css[i]? = some cs → j < k → css.flatten[i * k + j]? = cs[j]? := by
 intro css
 induction css with
 | nil => intro i j cs _ h _; simp at h
 | cons c css ih =>
   intro i j cs hk h hj; have hc : c.length = k := hk c (by simp); cases i with
   | zero =>
     simp at h
     subst h; simp only [Nat.zero_mul, Nat.zero_add, List.flatten_cons]; rw [List.getElem?_append_left (by omega)]
   | succ i =>
     have := ih (j := j) (fun c hc => hk c (by simp [hc])) (by simpa using h) hj; simp only [List.flatten_cons]; rw [List.getElem?_append_right (by rw [hc, Nat.add_mul]; omega), ← this]
     congr 1
     rw [hc, Nat.add_mul]; omega
theorem vi {k : Nat} : ∀ {css : List (List Value)} {i j : Nat} {cs : List Value} (u : Value), (∀ c ∈ css, c.length = k) → css[i]? = some cs → j < k → css.flatten.set (i * k + j) u = (css.set i (cs.set j u)).flatten := by
 intro css
 induction css with
 | nil => intro i j cs u _ h _; simp at h
 | cons c css ih =>
   intro i j cs u hk h hj; have hc : c.length = k := hk c (by simp); cases i with
   | zero =>
     simp at h
     subst h; simp only [Nat.zero_mul, Nat.zero_add, List.flatten_cons, List.set_cons_zero]; rw [List.set_append_left _ _ (by omega)]
   | succ i =>
     have := ih (j := j) u (fun c hc => hk c (by simp [hc])) (by simpa using h) hj; simp only [List.flatten_cons, List.set_cons_succ]; rw [List.set_append_right _ _ (by rw [hc, Nat.add_mul]; omega), ← this]
     congr 2
     rw [hc, Nat.add_mul]; omega
theorem jI {A : Type} {k : Nat} (f : A → List Value) (hf : ∀ x, (f x).length = k) (l : List A) : ∀ cs ∈ l.map f, cs.length = k := by
 intro cs h; obtain ⟨x, _, rfl⟩ := List.mem_map.1 h; exact hf x
def Apart (u v : Value) : Prop := ∀ k, u.ownBlock = some k → v.ownBlock ≠ some k
theorem Apart.symm {u v : Value} (h : Apart u v) : Apart v u := fun k hv hu => h k hu hv
def bxCs : List Bx → List Value → List (List Value)
 | b :: r, v :: vs => boxC b v :: bxCs r vs
 | _, _ => []
theorem jdx : ∀ (l : List Bx) (vs : List Value), vs.length = l.length → (bxCs l vs).length = l.length := by
 intro l
 induction l with
 | nil => intro vs _; cases vs <;> rfl
 | cons b l ih =>
   intro vs h; cases vs with
   | nil => simp at h
   | cons v vs => simp only [bxCs, List.length_cons]; rw [ih vs (by simpa using h)]
theorem qc : ∀ (l : List Bx) (vs : List Value), ∀ cs ∈ bxCs l vs, cs.length = 3 := by
 intro l
 induction l with
 | nil => intro vs cs h; cases vs <;> cases h
 | cons b l ih =>
   intro vs cs h; cases vs with
   | nil => cases h
   | cons v vs =>
     simp only [bxCs, List.mem_cons] at h
     rcases h with rfl | h
     · rfl
     · exact ih vs cs h
theorem vH : ∀ (l : List Bx) (vs : List Value) (i : Nat) (b : Bx) (v : Value), l[i]? = some b → vs[i]? = some v → (bxCs l vs)[i]? = some (boxC b v) := by
 intro l
 induction l with
 | nil => intro vs i b v h; simp at h
 | cons c l ih =>
   intro vs i b v h h'; cases vs with
   | nil => simp at h'
   | cons u vs =>
     cases i with
     | zero => simp at h h'; subst h; subst h'; rfl
     | succ i => simp at h h'; simpa [bxCs] using ih vs i b v h h'
theorem jkP : ∀ (l : List Bx) (vs : List Value) (b : Bx) (v : Value), vs.length = l.length → bxCs (l ++ [b]) (vs ++ [v]) = bxCs l vs ++ [boxC b v] := by
 intro l
 induction l with
 | nil => intro vs b v h; cases vs with
   | nil => rfl
   | cons => simp at h
 | cons c l ih =>
   intro vs b v h; cases vs with
   | nil => simp at h
   | cons u vs => simp only [List.cons_append, bxCs]; rw [ih vs b v (by simpa using h)]
theorem jbG : ∀ (l : List Bx) (vs : List Value) (i : Nat) (b : Bx) (v : Value), vs.length = l.length → bxCs (l.set i b) (vs.set i v) = (bxCs l vs).set i (boxC b v) := by
 intro l
 induction l with
 | nil => intro vs i b v h; cases vs with
   | nil => rfl
   | cons => simp at h
 | cons c l ih =>
   intro vs i b v h; cases vs with
   | nil => simp at h
   | cons u vs =>
     cases i with
     | zero => rfl
     | succ i => simp only [List.set_cons_succ, bxCs]; rw [ih vs i b v (by simpa using h)]
structure OwnS (B : Nat) (w : World) (vb vs : Value) (vm : List Value) (s : Stt) : Prop where
 boxes : w.ownsRow B 54 3 vb s.boxes.length (bxCs s.boxes vm).flatten
 spool : w.ownsRow B 48 6 vs s.spool.length (s.spool.map entC).flatten
 len : vm.length = s.boxes.length
 mails : ∀ (i : Nat) b v, s.boxes[i]? = some b → vm[i]? = some v → w.ownsRow B 92 3 v b.mails.length (b.mails.map zk).flatten
 bs : Apart vb vs
 mb : ∀ v ∈ vm, Apart v vb
 ms : ∀ v ∈ vm, Apart v vs
 mm : ∀ (i j : Nat) u v, i ≠ j → vm[i]? = some u → vm[j]? = some v → Apart u v
def inS (vb vs : Value) (vm : List Value) (k : Nat) : Prop := vb.ownBlock = some k ∨ vs.ownBlock = some k ∨ ∃ v ∈ vm, v.ownBlock = some k
theorem jx {w w' : World} {B n k : Nat} {e : TypeId} {v : Value} {xs : List Value} (h : w.ownsRow B e k v n xs) (hk : ∀ g, v.ownBlock = some g → w'.heap[g]? = w.heap[g]?) : w'.ownsRow B e k v n xs := by
 refine ⟨h.1, ?_⟩
 rcases h.2 with hn | ⟨g, cap, cur, rfl, hb, hgg, rest⟩
 · exact .inl hn
 · exact .inr ⟨g, cap, cur, rfl, hb, (hk g rfl).trans hgg, rest⟩
theorem OwnS.keep {B : Nat} {w w' : World} {vb vs : Value} {vm : List Value} {s : Stt} (h : OwnS B w vb vs vm s) (hk : ∀ g, inS vb vs vm g → w'.heap[g]? = w.heap[g]?) : OwnS B w' vb vs vm s :=
 ⟨jx h.boxes fun g hg => hk g (.inl hg), jx h.spool fun g hg => hk g (.inr (.inl hg)), h.len, fun i b v hb hv => jx (h.mails i b v hb hv) fun g hg => hk g (.inr (.inr ⟨v, List.mem_of_getElem? hv, hg⟩)), h.bs, h.mb, h.ms, h.mm⟩
theorem OwnS.lt {B : Nat} {w : World} {vb vs : Value} {vm : List Value} {s : Stt} (h : OwnS B w vb vs vm s) {g : Nat} (hg : inS vb vs vm g) : B ≤ g ∧ g < w.heap.size := by
 rcases hg with hg | hg | ⟨v, hv, hg⟩
 · exact World.ownsRow.lt h.boxes g hg
 · exact World.ownsRow.lt h.spool g hg
 · obtain ⟨i, hi, rfl⟩ := List.getElem_of_mem hv; have hi' : i < s.boxes.length := by rw [← h.len]; exact hi
   exact World.ownsRow.lt (h.mails i _ _ (List.getElem?_eq_getElem hi') (List.getElem?_eq_getElem hi)) g hg
theorem OwnS.next {B : Nat} {w w' : World} {vb vs : Value} {vm : List Value} {s : Stt} (h : OwnS B w vb vs vm s) (hb : Below w.heap.size w w') : OwnS B w' vb vs vm s := h.keep fun g hg => hb.block g (h.lt hg).2
theorem vV {A : Type} {B n k : Nat} {e : TypeId} {w : World} {v : Value} {l : List A} {css : List (List Value)} {P : A → List Value → Prop} {Q : Nat → Prop} (h : w.ownsRow B e k v n css.flatten) (hn : n = l.length) (hm : n ≤ maxLen) (hl : css.length = l.length) (he : ∀ cs ∈ css, cs.length = k)
 (hP : ∀ (i : Nat) x cs, l[i]? = some x → css[i]? = some cs → P x cs) (hQ : ∀ g, v.ownBlock = some g → Q g) : RowM Q k P w v l := by
 subst hn
 rcases h.2 with ⟨rfl, h0⟩ | ⟨g, cap, cur, rfl, hb, hg, h1, h2, h3, ht⟩
 · have : l = [] := List.length_eq_zero_iff.1 h0; subst this; exact jo _ _ _ _ _ _
 · refine ⟨some ⟨g, 0, none⟩, cap, rfl, hm, fun i x hx => ?_⟩; have hi : i < l.length := (List.getElem?_eq_some_iff.1 hx).1; have hc : css[i]? = some css[i] := List.getElem?_eq_getElem (by omega); refine ⟨g, 0, css[i], rfl, (Array.getElem?_eq_some_iff.1 hg).1, hQ g rfl, he _ (List.mem_of_getElem? hc), ?_, hP i x _ hx hc⟩; intro j u hj; have hjk : j < k := by rw [← he _ (List.mem_of_getElem? hc)]; exact (List.getElem?_eq_some_iff.1 hj).1
   have := World.ownsRow.cells h (g := g) rfl (i * k + j) u (by rw [vh he hc hjk]; exact hj); rw [Addr.add_lit] at this
   simpa [Nat.add_assoc] using this
theorem OwnS.stt {B : Nat} {w : World} {vb vs : Value} {vm : List Value} {s : Stt} {Q : Nat → Prop} (h : OwnS B w vb vs vm s) (hm : May s) (hQ : ∀ g, inS vb vs vm g → Q g) : SttM Q w vb vs s := by
 have h1 := hm.boxes; have h2 := hm.spool; refine ⟨vV h.boxes rfl (by unfold maxLen; omega) (jdx _ _ h.len) (qc _ _) (fun i b cs hb hc => ?_) (fun g hg => hQ g (.inl hg)), vV h.spool rfl (by unfold maxLen; omega) (by simp) (jI entC (fun _ => rfl) _) (fun i x cs hx hc => ?_) (fun g hg => hQ g (.inr (.inl hg))), ?_⟩
 · have hi : i < vm.length := by rw [h.len]; exact (List.getElem?_eq_some_iff.1 hb).1
   have hv : vm[i]? = some vm[i] := List.getElem?_eq_getElem hi; rw [vH _ _ _ _ _ hb hv] at hc; cases hc; have h3 := (hm.each b (List.mem_of_getElem? hb)).many; exact ⟨_, rfl, vV (h.mails i b _ hb hv) rfl (by unfold maxLen; omega) (by simp) (jI zk (fun _ => rfl) _) (fun j x cs hx hc => by
    rw [List.getElem?_map, hx] at hc; cases hc; rfl) (fun g hg => hQ g (.inr (.inr ⟨_, List.mem_of_getElem? hv, hg⟩)))⟩
 · rw [List.getElem?_map, hx] at hc; cases hc; rfl
 · intro a n c e
   rcases h.boxes.2 with ⟨e', _⟩ | ⟨g, cap, cur, e', _, _, h1, _⟩
   · rw [e'] at e; cases e; exact Nat.le_refl _
   · rw [e'] at e; cases e; exact h1
theorem OwnS.small {B : Nat} {w : World} {vb vs : Value} {vm : List Value} {s : Stt} (h : OwnS B w vb vs vm s) : ∃ a c, vb = .slice a s.boxes.length c := by
 rcases h.boxes.2 with ⟨rfl, hn⟩ | ⟨g, cap, cur, rfl, _⟩
 · exact ⟨none, 0, by rw [hn]⟩
 · exact ⟨_, _, rfl⟩
theorem OwnS.box {B : Nat} {w : World} {vb vs : Value} {vm : List Value} {s : Stt} (h : OwnS B w vb vs vm s) {i : Nat} {b : Bx} (hb : s.boxes[i]? = some b) : ∃ g c v, vb = .slice (some ⟨g, 0, none⟩) s.boxes.length c ∧ vm[i]? = some v ∧ w.cell? ⟨g, i * 3, none⟩ = some (.string (S b.name)) ∧ w.cell? ⟨g, i * 3 + 1, none⟩ = some (.int .i64 b.next) ∧ w.cell? ⟨g, i * 3 + 2, none⟩ = some v ∧
 w.frozen? ⟨g, i * 3 + 1, none⟩ = false ∧ w.frozen? ⟨g, i * 3 + 2, none⟩ = false := by
 have hi0 : i < s.boxes.length := (List.getElem?_eq_some_iff.1 hb).1; have hi : i < vm.length := by rw [h.len]; exact hi0
 have hv : vm[i]? = some vm[i] := List.getElem?_eq_getElem hi
 rcases h.boxes.2 with ⟨_, hn⟩ | ⟨g, cap, cur, e, _, hg, _⟩
 · omega
 · have hat := vH _ _ _ _ _ hb hv; have hc : ∀ j u, (boxC b vm[i])[j]? = some u → w.cell? ⟨g, i * 3 + j, none⟩ = some u := fun j u hj => by
    have hj3 : j < 3 := (List.getElem?_eq_some_iff.1 hj).1; have := World.ownsRow.cells h.boxes (g := g) (by rw [e]; rfl) (i * 3 + j) u (by rw [vh (qc _ _) hat hj3]; exact hj); rw [Addr.add_lit] at this
    simpa using this
   exact ⟨g, cap, _, e, hv, hc 0 _ rfl, hc 1 _ rfl, hc 2 _ rfl, by simp [World.frozen?, hg], by simp [World.frozen?, hg]⟩
theorem jbM {w : World} {B n c g : Nat} {e : TypeId} {k : Nat} {xs : List Value} (h : w.ownsRow B e k (.slice (some ⟨g, 0, none⟩) n c) n xs) (j : Nat) (u : Value) :
 (w.setCell ⟨g, j, none⟩ u).ownsRow B e k (.slice (some ⟨g, 0, none⟩) n c) n (xs.set j u) := by
 refine ⟨by rw [List.length_set]; exact h.1, .inr ?_⟩
 rcases h.2 with ⟨h', _⟩ | ⟨g', cap', cur, h', hb, hg, h1, h2, h3, htake⟩
 · simp at h'
 · simp only [Value.slice.injEq, Option.some.injEq, Addr.mk.injEq, and_true, true_and] at h'; obtain ⟨rfl, rfl⟩ := h'; refine ⟨g, c, cur.setIfInBounds j u, rfl, hb, heap_setCell_same w g j cur e u hg, h1, h2, by simpa using h3, ?_⟩; rw [Array.toList_setIfInBounds, List.take_set, htake]
theorem jk {w : World} {g j k : Nat} {u : Value} (h : k ≠ g) : (w.setCell ⟨g, j, none⟩ u).heap[k]? = w.heap[k]? := Below.heap_setCell _ _ _ _ h
theorem OwnS.setNext {B : Nat} {w : World} {g c : Nat} {vs : Value} {vm : List Value} {s : Stt} {i : Nat} {b : Bx} {n : Int} (h : OwnS B w (.slice (some ⟨g, 0, none⟩) s.boxes.length c) vs vm s) (hb : s.boxes[i]? = some b) :
 OwnS B (w.setCell ⟨g, i * 3 + 1, none⟩ (.int .i64 n)) (.slice (some ⟨g, 0, none⟩) s.boxes.length c) vs vm ⟨s.boxes.set i ⟨b.name, n, b.mails⟩, s.spool⟩ := by
 have hi0 : i < s.boxes.length := (List.getElem?_eq_some_iff.1 hb).1; have hi : i < vm.length := by rw [h.len]; exact hi0
 have hv : vm[i]? = some vm[i] := List.getElem?_eq_getElem hi; refine ⟨?_, jx h.spool fun k hk => jk fun e => h.bs g rfl (by rw [← e]; exact hk), by simpa using h.len, ?_, h.bs, h.mb, h.ms, h.mm⟩
 · have := jbM h.boxes (i * 3 + 1) (.int .i64 n); rw [vi _ (qc _ _) (vH _ _ _ _ _ hb hv) (by omega)] at this; have e : (bxCs s.boxes vm).set i ((boxC b vm[i]).set 1 (.int .i64 n)) = bxCs (s.boxes.set i ⟨b.name, n, b.mails⟩) vm := by
    have := jbG s.boxes vm i ⟨b.name, n, b.mails⟩ vm[i] h.len; rw [List.set_getElem_self] at this; rw [this]; rfl
   rw [e] at this
   simpa using this
 · intro j c' v hc hv'; have hk : ∀ k, v.ownBlock = some k → (w.setCell ⟨g, i * 3 + 1, none⟩ (.int .i64 n)).heap[k]? = w.heap[k]? := fun k hk => jk fun e => h.mb v (List.mem_of_getElem? hv') k hk (by rw [e]; rfl)
   by_cases hij : i = j
   · subst hij; rw [List.getElem?_set_self hi0] at hc; cases hc; exact jx (h.mails i b v hb hv') hk
   · rw [List.getElem?_set_ne hij] at hc; exact jx (h.mails j c' v hc hv') hk
theorem OwnS.setMails {B : Nat} {w : World} {g c : Nat} {vs v' : Value} {vm : List Value} {s : Stt} {i : Nat} {b : Bx} {ms : List Mail} (h : OwnS B w (.slice (some ⟨g, 0, none⟩) s.boxes.length c) vs vm s) (hb : s.boxes[i]? = some b) {w' : World}
 (hw : ∀ k, k < w.heap.size → some k ≠ (vm.getD i (.slice none 0 0)).ownBlock → w'.heap[k]? = w.heap[k]?) (hm : w'.ownsRow B 92 3 v' ms.length (ms.map zk).flatten) (hat : v'.ownBlock = (vm.getD i (.slice none 0 0)).ownBlock ∨ ∀ k, v'.ownBlock = some k → w.heap.size ≤ k) :
 OwnS B (w'.setCell ⟨g, i * 3 + 2, none⟩ v') (.slice (some ⟨g, 0, none⟩) s.boxes.length c) vs (vm.set i v') ⟨s.boxes.set i ⟨b.name, b.next, ms⟩, s.spool⟩ := by
 have hi0 : i < s.boxes.length := (List.getElem?_eq_some_iff.1 hb).1; have hi : i < vm.length := by rw [h.len]; exact hi0
 have hv : vm[i]? = some vm[i] := List.getElem?_eq_getElem hi; have hd : vm.getD i (.slice none 0 0) = vm[i] := by simp [hi]
 rw [hd] at hw hat; have hmem : vm[i] ∈ vm := List.mem_of_getElem? hv; have ap : ∀ u, Apart vm[i] u → (∀ k, u.ownBlock = some k → k < w.heap.size) → Apart v' u := fun u hu hl k hk hk' => by
  rcases hat with e | e
  · exact hu k (by rw [← e]; exact hk) hk'
  · have := e k hk; have := hl k hk'; omega
 have hgs : ∀ k, (Value.slice (some ⟨g, 0, none⟩) s.boxes.length c).ownBlock = some k → k < w.heap.size := fun k hk => (World.ownsRow.lt h.boxes k hk).2
 have hss : ∀ k, vs.ownBlock = some k → k < w.heap.size := fun k hk => (World.ownsRow.lt h.spool k hk).2
 have hms : ∀ (j : Nat) u, vm[j]? = some u → ∀ k, u.ownBlock = some k → k < w.heap.size := fun j u hu k hk => (h.lt (.inr (.inr ⟨u, List.mem_of_getElem? hu, hk⟩))).2
 have hg : w'.heap[g]? = w.heap[g]? := hw g (hgs g rfl) fun e => h.mb _ hmem g e.symm rfl
 have hbx : w'.ownsRow B 54 3 (.slice (some ⟨g, 0, none⟩) s.boxes.length c) s.boxes.length (bxCs s.boxes vm).flatten := jx h.boxes fun k hk => by cases hk; exact hg
 have hne : ∀ k, v'.ownBlock = some k → k ≠ g := fun k hk e => ap _ (h.mb _ hmem) hgs k hk (by rw [e]; rfl)
 refine ⟨?_, ?_, by simpa using h.len, ?_, h.bs, ?_, ?_, ?_⟩
 · have := jbM hbx (i * 3 + 2) v'; rw [vi _ (qc _ _) (vH _ _ _ _ _ hb hv) (by omega)] at this; have e : (bxCs s.boxes vm).set i ((boxC b vm[i]).set 2 v') = bxCs (s.boxes.set i ⟨b.name, b.next, ms⟩) (vm.set i v') := by
    rw [jbG _ _ _ _ _ h.len]; rfl
   rw [e] at this
   simpa using this
 · refine jx h.spool fun k hk => ?_
   rw [jk fun e => h.bs g rfl (by rw [← e]; exact hk)]; exact hw k (hss k hk) fun e => h.ms _ hmem k e.symm hk
 · intro j c' v hc hv'
   by_cases hij : i = j
   · subst hij; rw [List.getElem?_set_self hi0] at hc; rw [List.getElem?_set_self hi] at hv'; cases hc; cases hv'; exact jx hm fun k hk => jk (hne k hk)
   · rw [List.getElem?_set_ne hij] at hc; rw [List.getElem?_set_ne hij] at hv'; refine jx (h.mails j c' v hc hv') fun k hk => ?_
     rw [jk fun e => h.mb v (List.mem_of_getElem? hv') k hk (by rw [e]; rfl)]; exact hw k (hms j v hv' k hk) fun e => h.mm i j _ _ hij hv hv' k e.symm hk
 · intro u hu
   rcases qT hu with rfl | hu
   · exact ap _ (h.mb _ hmem) hgs
   · exact h.mb u hu
 · intro u hu
   rcases qT hu with rfl | hu
   · exact ap _ (h.ms _ hmem) hss
   · exact h.ms u hu
 · intro j k u v hjk hu hv'
   by_cases hij : i = j
   · subst hij; rw [List.getElem?_set_self hi] at hu; rw [List.getElem?_set_ne hjk] at hv'; cases hu; exact ap _ (h.mm i k _ _ hjk hv hv') (hms k v hv')
   · by_cases hik : i = k
     · subst hik; rw [List.getElem?_set_self hi] at hv'; rw [List.getElem?_set_ne hij] at hu; cases hv'; exact (ap _ (h.mm i j _ _ hij hv hu) (hms j u hu)).symm
     · rw [List.getElem?_set_ne hij] at hu; rw [List.getElem?_set_ne hik] at hv'; exact h.mm j k u v hjk hu hv'
def idxZ {A : Type} (p : A → Bool) (l : List A) : Int := match l.findIdx? p with
 | none => -1
 | some i => i
theorem jbK {A : Type} {p : A → Bool} {l : List A} {i : Nat} {x : A} (h : ∀ (j : Nat) y, j < i → l[j]? = some y → p y = false) (hx : l[i]? = some x) (hp : p x = true) : idxZ p l = i := by
 have hi : i < l.length := (List.getElem?_eq_some_iff.1 hx).1; have : l.findIdx? p = some i := List.findIdx?_eq_some_iff_getElem.2 ⟨hi, by rw [(List.getElem?_eq_some_iff.1 hx).2]; exact hp, fun j hj => by rw [h j l[j] hj (List.getElem?_eq_getElem (by omega))]; simp⟩; unfold idxZ; rw [this]
theorem qP {A : Type} {p : A → Bool} {l : List A} (h : ∀ (j : Nat) y, j < l.length → l[j]? = some y → p y = false) : idxZ p l = -1 := by
 have : l.findIdx? p = none := List.findIdx?_eq_none_iff.2 fun x hx => by
  obtain ⟨j, hj, rfl⟩ := List.getElem_of_mem hx; rw [h j _ hj (List.getElem?_eq_getElem hj)]
 unfold idxZ; rw [this]
theorem jaR {A : Type} {p : A → Bool} {l : List A} {i : Nat} {x : A} (h : ∀ (j : Nat) y, j < i → l[j]? = some y → p y = false) (hx : l[i]? = some x) (hp : p x = false) : ∀ (j : Nat) y, j < i + 1 → l[j]? = some y → p y = false := by
 intro j y hj hy
 by_cases e : j = i
 · subst e; rw [hx] at hy; cases hy; exact hp
 · exact h j y (by omega) hy
theorem jaN {A : Type} {p : A → Bool} {l : List A} (h : l.findIdx? p = none) : idxZ p l = -1 := by unfold idxZ; rw [h]
theorem zS {A : Type} {p : A → Bool} {l : List A} {i : Nat} (h : l.findIdx? p = some i) : idxZ p l = i := by unfold idxZ; rw [h]
theorem jom (l : List Bx) (p : Bx → Bool) (a : Option Addr) (c f : Nat) (cap : Array Value) (eg : ∀ args w, (callFunc f args).run Tryz.prog w = .ok (.enter f args) w) (w : World) (Q : Nat → Prop) (hL : BoxsM Q w (.slice a l.length c) l)
 (hf : ∀ b v u, Below w.heap.size w u → Calls Tryz.prog f (#[.agg #[.string (S b.name), .int .i64 b.next, v]] ++ cap) u fun e u' => e = .returned (.bool (p b)) ∧ Below u.heap.size u u') :
 Calls Tryz.prog 81 #[.slice a l.length c, .func (.func f) #[] cap] w fun e w' => e = .returned (.int .i64 (idxZ p l)) ∧ Below w.heap.size w w' := by
 have hm := RowM.small hL; have HL := hid hL; have HF := hid hf; unfold maxLen at hm; clear hL hf; go_enter Tryz.func81, Tryz.ntmps81; go_wp2
 go_loopw [8] (fun v wr => ∃ i : Nat, i ≤ l.length ∧ v = .int .i64 i ∧ Hid (Below w.heap.size w wr) ∧ Hid (∀ (j : Nat) y, j < i → l[j]? = some y → p y = false)) (fun v _ => l.length - (intOf v).toNat)
 case atStart => exact ⟨0, Nat.zero_le _, rfl, Below.refl _ _, fun j y h => by omega⟩
 case round =>
  obtain ⟨i, hi, rfl, HB, HI⟩ := hrel
  by_cases hlt : i < l.length
  · have i1 : (i : Int) < (l.length : Int) := by omega
    have i0 : (0 : Int) ≤ (i : Int) := by omega
    obtain ⟨x, hx⟩ : ∃ x, l[i]? = some x := ⟨_, List.getElem?_eq_getElem hlt⟩; obtain ⟨b, o, v, rfl, _, e0, e1, e2, _⟩ := (HL.out.next HB.out).at hx; have HC := hid (HF.out x v wr HB.out); have HX := hid hx; clear hx; cases hp : p x with
    | true =>
      have HE := hid (jbK HI.out HX.out hp); rw [hp] at HC; clear hp
      go_wp2_with (go_at_fn f; refine Calls.mono HC.out ?_; rintro e u ⟨rfl, hb⟩)
      have HB2 := hid (HB.out.trans (hb.mono HB.out.size)); go_ret; exact ⟨jh HE.out.symm, HB2.out⟩
    | false =>
      have HE := hid (jaR HI.out HX.out hp); rw [hp] at HC; clear hp
      go_wp2_with (go_at_fn f; refine Calls.mono HC.out ?_; rintro e u ⟨rfl, hb⟩)
      have HB2 := hid (HB.out.trans (hb.mono HB.out.size))
      go_roundw
      case rel => first | exact ⟨i + 1, by omega, by go_num, HB2, HE⟩ | ((repeat apply Exists.intro); exact ⟨⟨i + 1, by omega, by go_num, HB2, HE⟩, rfl⟩) | (refine ⟨trivial, ?_⟩; (repeat apply Exists.intro); exact ⟨⟨i + 1, by omega, by go_num, HB2, HE⟩, rfl⟩)
      case measure => simp [intOf]; omega
  · have i1 : ¬ (i : Int) < (l.length : Int) := by omega
    have HE := hid (qP fun (j : Nat) y hj => HI.out j y (by omega)); go_wp2; go_ret; exact ⟨jh HE.out.symm, HB.out⟩
theorem jon (l : List Mail) (p : Mail → Bool) (a : Option Addr) (c f : Nat) (cap : Array Value) (eg : ∀ args w, (callFunc f args).run Tryz.prog w = .ok (.enter f args) w) (w : World) (Q : Nat → Prop) (hL : MailsM Q w (.slice a l.length c) l)
 (hf : ∀ (x : Mail) u, x ∈ l → Below w.heap.size w u → Calls Tryz.prog f (#[.agg #[.int .i64 x.uid, .int .i64 x.flags, .string (S x.text)]] ++ cap) u fun e u' => e = .returned (.bool (p x)) ∧ Below u.heap.size u u') :
 Calls Tryz.prog 83 #[.slice a l.length c, .func (.func f) #[] cap] w fun e w' => e = .returned (.int .i64 (idxZ p l)) ∧ Below w.heap.size w w' := by
 have hm := RowM.small hL; have HL := hid hL; have HF := hid hf; unfold maxLen at hm; clear hL hf; go_enter Tryz.func83, Tryz.ntmps83; go_wp2
 go_loopw [8] (fun v wr => ∃ i : Nat, i ≤ l.length ∧ v = .int .i64 i ∧ Hid (Below w.heap.size w wr) ∧ Hid (∀ (j : Nat) y, j < i → l[j]? = some y → p y = false)) (fun v _ => l.length - (intOf v).toNat)
 case atStart => exact ⟨0, Nat.zero_le _, rfl, Below.refl _ _, fun j y h => by omega⟩
 case round =>
  obtain ⟨i, hi, rfl, HB, HI⟩ := hrel
  by_cases hlt : i < l.length
  · have i1 : (i : Int) < (l.length : Int) := by omega
    have i0 : (0 : Int) ≤ (i : Int) := by omega
    obtain ⟨x, hx⟩ : ∃ x, l[i]? = some x := ⟨_, List.getElem?_eq_getElem hlt⟩; obtain ⟨b, o, rfl, _, e0, e1, e2⟩ := (HL.out.next HB.out).at hx; have HC := hid (HF.out x wr (List.mem_of_getElem? hx) HB.out); have HX := hid hx; clear hx; cases hp : p x with
    | true =>
      have HE := hid (jbK HI.out HX.out hp); rw [hp] at HC; clear hp
      go_wp2_with (go_at_fn f; refine Calls.mono HC.out ?_; rintro e u ⟨rfl, hb⟩)
      have HB2 := hid (HB.out.trans (hb.mono HB.out.size)); go_ret; exact ⟨jh HE.out.symm, HB2.out⟩
    | false =>
      have HE := hid (jaR HI.out HX.out hp); rw [hp] at HC; clear hp
      go_wp2_with (go_at_fn f; refine Calls.mono HC.out ?_; rintro e u ⟨rfl, hb⟩)
      have HB2 := hid (HB.out.trans (hb.mono HB.out.size))
      go_roundw
      case rel => first | exact ⟨i + 1, by omega, by go_num, HB2, HE⟩ | ((repeat apply Exists.intro); exact ⟨⟨i + 1, by omega, by go_num, HB2, HE⟩, rfl⟩) | (refine ⟨trivial, ?_⟩; (repeat apply Exists.intro); exact ⟨⟨i + 1, by omega, by go_num, HB2, HE⟩, rfl⟩)
      case measure => simp [intOf]; omega
  · have i1 : ¬ (i : Int) < (l.length : Int) := by omega
    have HE := hid (qP fun (j : Nat) y hj => HI.out j y (by omega)); go_wp2; go_ret; exact ⟨jh HE.out.symm, HB.out⟩
theorem joT (l : List Ent) (p : Ent → Bool) (a : Option Addr) (c f : Nat) (cap : Array Value) (eg : ∀ args w, (callFunc f args).run Tryz.prog w = .ok (.enter f args) w) (w : World) (Q : Nat → Prop) (hL : EntsM Q w (.slice a l.length c) l)
 (hf : ∀ (x : Ent) u, x ∈ l → Below w.heap.size w u → Calls Tryz.prog f (#[.agg #[.int .i64 x.kind, .string (S x.box), .int .i64 x.uid, .int .i64 x.flags, .string (S x.goal), .string (S x.text)]] ++ cap) u fun e u' => e = .returned (.bool (p x)) ∧ Below u.heap.size u u') :
 Calls Tryz.prog 88 #[.slice a l.length c, .func (.func f) #[] cap] w fun e w' => e = .returned (.int .i64 (idxZ p l)) ∧ Below w.heap.size w w' := by
 have hm := RowM.small hL; have HL := hid hL; have HF := hid hf; unfold maxLen at hm; clear hL hf; go_enter Tryz.func88, Tryz.ntmps88; go_wp2
 go_loopw [8] (fun v wr => ∃ i : Nat, i ≤ l.length ∧ v = .int .i64 i ∧ Hid (Below w.heap.size w wr) ∧ Hid (∀ (j : Nat) y, j < i → l[j]? = some y → p y = false)) (fun v _ => l.length - (intOf v).toNat)
 case atStart => exact ⟨0, Nat.zero_le _, rfl, Below.refl _ _, fun j y h => by omega⟩
 case round =>
  obtain ⟨i, hi, rfl, HB, HI⟩ := hrel
  by_cases hlt : i < l.length
  · have i1 : (i : Int) < (l.length : Int) := by omega
    have i0 : (0 : Int) ≤ (i : Int) := by omega
    obtain ⟨x, hx⟩ : ∃ x, l[i]? = some x := ⟨_, List.getElem?_eq_getElem hlt⟩; obtain ⟨b, o, rfl, _, e0, e1, e2, e3, e4, e5⟩ := (HL.out.next HB.out).at hx; have HC := hid (HF.out x wr (List.mem_of_getElem? hx) HB.out); have HX := hid hx; clear hx; cases hp : p x with
    | true =>
      have HE := hid (jbK HI.out HX.out hp); rw [hp] at HC; clear hp
      go_wp2_with (go_at_fn f; refine Calls.mono HC.out ?_; rintro e u ⟨rfl, hb⟩)
      have HB2 := hid (HB.out.trans (hb.mono HB.out.size)); go_ret; exact ⟨jh HE.out.symm, HB2.out⟩
    | false =>
      have HE := hid (jaR HI.out HX.out hp); rw [hp] at HC; clear hp
      go_wp2_with (go_at_fn f; refine Calls.mono HC.out ?_; rintro e u ⟨rfl, hb⟩)
      have HB2 := hid (HB.out.trans (hb.mono HB.out.size))
      go_roundw
      case rel => first | exact ⟨i + 1, by omega, by go_num, HB2, HE⟩ | ((repeat apply Exists.intro); exact ⟨⟨i + 1, by omega, by go_num, HB2, HE⟩, rfl⟩) | (refine ⟨trivial, ?_⟩; (repeat apply Exists.intro); exact ⟨⟨i + 1, by omega, by go_num, HB2, HE⟩, rfl⟩)
      case measure => simp [intOf]; omega
  · have i1 : ¬ (i : Int) < (l.length : Int) := by omega
    have HE := hid (qP fun (j : Nat) y hj => HI.out j y (by omega)); go_wp2; go_ret; exact ⟨jh HE.out.symm, HB.out⟩
theorem jbV (a b : List UInt8) : ((S a).toList == (S b).toList) = decide (a = b) := by
 rw [Lib.toList_data, Lib.toList_data, jt, jt]
 by_cases h : a = b
 · subst h; simp
 · simp [h]
theorem jfj (s n : List UInt8) (z : Int) (v : Value) (B : Nat) (w : World) (hc : w.cell? ⟨B, 0, none⟩ = some (.string (S s))) :
 Calls Tryz.prog 82 #[.agg #[.string (S n), .int .i64 z, v], .pointer (some ⟨B, 0, none⟩)] w fun e w' => e = .returned (.bool (decide (n = s))) ∧ Below w.heap.size w w' := by
 have HS := hid (jbV n s); have hc2 := jz hc (.cells #[.string (S n), .int .i64 z, v] 54); have HB := hid (show Below w.heap.size w (w.alloc (.cells #[.string (S n), .int .i64 z, v] 54)) from nb0 _ _); go_enter Tryz.func82, Tryz.ntmps82; go_wp2; go_ret; exact ⟨jg (by rw [← HS.out]), HB.out⟩
theorem jjm (u z f : Int) (t : List UInt8) (B : Nat) (w : World) (hc : w.cell? ⟨B, 0, none⟩ = some (.int .i64 u)) :
 Calls Tryz.prog 84 #[.agg #[.int .i64 z, .int .i64 f, .string (S t)], .pointer (some ⟨B, 0, none⟩)] w fun e w' => e = .returned (.bool (decide (z = u))) ∧ Below w.heap.size w w' := by
 have hc2 := jz hc (.cells #[.int .i64 z, .int .i64 f, .string (S t)] 92); have HB := hid (show Below w.heap.size w (w.alloc (.cells #[.int .i64 z, .int .i64 f, .string (S t)] 92)) from nb0 _ _); go_enter Tryz.func84, Tryz.ntmps84; go_wp2; go_ret; exact ⟨jg (by first | rfl | simp), HB.out⟩
theorem jT (l : List Bx) (s : List UInt8) (a : Option Addr) (c : Nat) (w : World) (Q : Nat → Prop) (hL : BoxsM Q w (.slice a l.length c) l) :
 Calls Tryz.prog 51 #[.slice a l.length c, .string (S s)] w fun e w' => e = .returned (.int .i64 (idxZ (isName s) l)) ∧ Below w.heap.size w w' := by
 have hmf : ∀ (fn : Fn) (first cap : Array Value) (w : World), (Instr.makeFunc fn first cap).run Tryz.prog w = .ok (.func fn first cap) w := fun _ _ _ _ => rfl
 have eg : ∀ args w, (callFunc 82 args).run Tryz.prog w = .ok (.enter 82 args) w := enters_of Tryz.func82 (by kernel_rfl) rfl; have hB1 : Below w.heap.size w (w.alloc (.cells #[.string (S s)] 9)) := nb0 _ _; have hcell : (w.alloc (.cells #[.string (S s)] 9)).cell? ⟨w.heap.size, 0, none⟩ = some (.string (S s)) := by simp
 have HC := hid (jom l (isName s) a c 82 #[.pointer (some ⟨w.heap.size, 0, none⟩)] eg (w.alloc (.cells #[.string (S s)] 9)) Q (hL.next hB1)
  (fun b v u hu => jfj s b.name b.next v w.heap.size u (jb hcell hu)))
 have HB1 := hid hB1; clear hL hB1 hcell; go_enter Tryz.func51, Tryz.ntmps51; go_wp2_with fail; refine HC.out.mono ?_; rintro e w2 ⟨rfl, hb⟩; have HB2 := hid (HB1.out.trans (hb.mono HB1.out.size)); clear hb; simp only; go_wp2; go_ret; exact ⟨rfl, HB2.out⟩
theorem qu (l : List Mail) (u : Int) (a : Option Addr) (c : Nat) (w : World) (Q : Nat → Prop) (hL : MailsM Q w (.slice a l.length c) l) :
 Calls Tryz.prog 55 #[.slice a l.length c, .int .i64 u] w fun e w' => e = .returned (.int .i64 (idxZ (jcf u) l)) ∧ Below w.heap.size w w' := by
 have hmf : ∀ (fn : Fn) (first cap : Array Value) (w : World), (Instr.makeFunc fn first cap).run Tryz.prog w = .ok (.func fn first cap) w := fun _ _ _ _ => rfl
 have eg : ∀ args w, (callFunc 84 args).run Tryz.prog w = .ok (.enter 84 args) w := enters_of Tryz.func84 (by kernel_rfl) rfl; have hB1 : Below w.heap.size w (w.alloc (.cells #[.int .i64 u] 3)) := nb0 _ _; have hcell : (w.alloc (.cells #[.int .i64 u] 3)).cell? ⟨w.heap.size, 0, none⟩ = some (.int .i64 u) := by simp
 have HC := hid (jon l (jcf u) a c 84 #[.pointer (some ⟨w.heap.size, 0, none⟩)] eg (w.alloc (.cells #[.int .i64 u] 3)) Q (hL.next hB1)
  (fun x u' _ hu => jjm u x.uid x.flags x.text w.heap.size u' (jb hcell hu)))
 have HB1 := hid hB1; clear hL hB1 hcell; go_enter Tryz.func55, Tryz.ntmps55; go_wp2_with fail; refine HC.out.mono ?_; rintro e w2 ⟨rfl, hb⟩; have HB2 := hid (HB1.out.trans (hb.mono HB1.out.size)); clear hb; simp only; go_wp2; go_ret; exact ⟨rfl, HB2.out⟩
theorem jdC {k : Nat} : ∀ {css : List (List Value)} {j : Nat} {u : Value}, (∀ c ∈ css, c.length = k) → css.flatten[j]? = some u → ∃ i r cs, j = i * k + r ∧ r < k ∧ css[i]? = some cs ∧ cs[r]? = some u := by
 intro css
 induction css with
 | nil => intro j u _ h; simp at h
 | cons c css ih =>
   intro j u hk h; have hc : c.length = k := hk c (by simp); simp only [List.flatten_cons] at h
   rcases Nat.lt_or_ge j k with hj | hj
   · rw [List.getElem?_append_left (by omega)] at h; exact ⟨0, j, c, by omega, hj, rfl, h⟩
   · rw [List.getElem?_append_right (by omega), hc] at h; obtain ⟨i, r, cs, e, hr, h1, h2⟩ := ih (fun c hc => hk c (by simp [hc])) h; exact ⟨i + 1, r, cs, by rw [Nat.add_mul]; omega, hr, by simpa using h1, h2⟩
theorem jae {k : Nat} : ∀ {css : List (List Value)}, (∀ c ∈ css, c.length = k) → css.flatten.length = css.length * k := by
 intro css
 induction css with
 | nil => intro _; simp
 | cons c css ih =>
   intro h; rw [List.flatten_cons, List.length_append, ih fun c hc => h c (by simp [hc]), h c (by simp), List.length_cons, Nat.add_mul]; omega
theorem jlD (l : List Mail) : ∀ u ∈ (l.map zk).flatten, u.oneCell' = true := by
 intro u hu; obtain ⟨cs, hcs, hu⟩ := List.mem_flatten.1 hu; obtain ⟨m, _, rfl⟩ := List.mem_map.1 hcs; simp only [zk, List.mem_cons, List.not_mem_nil, or_false] at hu
 rcases hu with rfl | rfl | rfl <;> rfl
theorem jm4 (l : List Ent) : ∀ u ∈ (l.map entC).flatten, u.oneCell' = true := by
 intro u hu; obtain ⟨cs, hcs, hu⟩ := List.mem_flatten.1 hu; obtain ⟨m, _, rfl⟩ := List.mem_map.1 hcs; simp only [entC, List.mem_cons, List.not_mem_nil, or_false] at hu
 rcases hu with rfl | rfl | rfl | rfl | rfl | rfl <;> rfl
theorem jmx : (Tryz.prog.info? 92).map (fun i => (i.zero, i.size, i.bytes)) = some (some (.agg #[.int .i64 0, .int .i64 0, .string ByteArray.empty]), 3, 32) := by kernel_rfl
theorem jmw : (Tryz.prog.info? 54).map (fun i => (i.zero, i.size, i.bytes)) = some (some (.agg #[.string ByteArray.empty, .int .i64 0, .slice none 0 0]), 3, 48) := by kernel_rfl
theorem jgo : (Tryz.prog.info? 48).map (fun i => (i.zero, i.size, i.bytes)) = some (some (.agg #[.int .i64 0, .string ByteArray.empty, .int .i64 0, .int .i64 0, .string ByteArray.empty, .string ByteArray.empty]), 6, 72) := by kernel_rfl
theorem jmY (ad : Addr) (n c : Nat) (news : List Value) (w : World) (hl : news.length = n * 3) (hn : n ≤ 1000) (hc : ∀ j u, news[j]? = some u → w.cell? (ad.add j) = some u) (h1 : ∀ u ∈ news, u.oneCell' = true) :
 Calls Tryz.prog 45 #[.slice (some ad) n c] w fun e w' => ∃ v', e = .returned v' ∧ (w'.ownsRow w.heap.size 92 3 v' n news) ∧ Below w.heap.size w w' := by
 obtain ⟨i0, hi, hz0, hz1, hz2⟩ := info_parts jmx; have q22 : ∀ (w : World) (a : Option Addr) (n c n' c' : Nat), (binOp .eql 52 (.slice a n c) (.slice none n' c')).run Tryz.prog w = .ok (.bool a.isNone) w := fun w a n c n' c' => Lib.run_eql_slice_nil w _ _ a n c n' c' Tryz.underlying52
 have HC := hid hc; have H1 := hid h1; have HL := hid hl; clear hc h1 hl; go_enter Tryz.func45, Tryz.ntmps45
 go_wp2_with (at_builtin; refine wpList_append_own _ rfl _ _ 52 rfl w.heap.size 92 i0 _ 3 32 Tryz.underlying52 hi hz0 hz1 hz2 rfl (by decide) _ _ _ rfl (World.ownsRow_made w #[] 0 (Nat.le_refl _) (Nat.zero_le _) rfl) ad n c news rfl ?qc1 ?qc2 ?qc3 ?qc4 ?qc5 ?qc6 ?_)
 case qc1 => exact HL.out
 case qc2 => exact fun j u hj => Lib.cell?_alloc_some _ (HC.out j u hj)
 case qc3 => exact H1.out
 case qc4 => unfold maxLen; omega
 case qc5 => omega
 case qc6 => simp
 intro v' w1 hown hgrow hnil; have HO := hid hown; have HB := hid (show Below w.heap.size w w1 from ((Below.refl _ w).alloc (Nat.le_refl _) _).grown hgrow (by simp) (by intro k hk; simp [Value.ownBlock] at hk; omega)); clear hown hgrow hnil; go_wp2; go_ret; exact ⟨v', rfl, by simpa using HO.out, HB.out⟩
theorem jfs (n c : Nat) (w : World) :
 Calls Tryz.prog 45 #[.slice none n c] w fun e w' => e = .returned (.slice none 0 0) ∧ w' = w := by
 have q22 : ∀ (w : World) (a : Option Addr) (n c n' c' : Nat), (binOp .eql 52 (.slice a n c) (.slice none n' c')).run Tryz.prog w = .ok (.bool a.isNone) w := fun w a n c n' c' => Lib.run_eql_slice_nil w _ _ a n c n' c' Tryz.underlying52
 go_enter Tryz.func45, Tryz.ntmps45; go_wp2; go_ret; exact ⟨rfl, rfl⟩
theorem jmW (ad : Addr) (n c : Nat) (news : List Value) (w : World) (hl : news.length = n * 3) (hn : n ≤ 1000) (hc : ∀ j u, news[j]? = some u → w.cell? (ad.add j) = some u) (h1 : ∀ u ∈ news, u.oneCell' = true) :
 Calls Tryz.prog 43 #[.slice (some ad) n c] w fun e w' => ∃ v', e = .returned v' ∧ (w'.ownsRow w.heap.size 54 3 v' n news) ∧ Below w.heap.size w w' := by
 obtain ⟨i0, hi, hz0, hz1, hz2⟩ := info_parts jmw; have q22 : ∀ (w : World) (a : Option Addr) (n c n' c' : Nat), (binOp .eql 29 (.slice a n c) (.slice none n' c')).run Tryz.prog w = .ok (.bool a.isNone) w := fun w a n c n' c' => Lib.run_eql_slice_nil w _ _ a n c n' c' Tryz.underlying29
 have HC := hid hc; have H1 := hid h1; have HL := hid hl; clear hc h1 hl; go_enter Tryz.func43, Tryz.ntmps43
 go_wp2_with (at_builtin; refine wpList_append_own _ rfl _ _ 29 rfl w.heap.size 54 i0 _ 3 48 Tryz.underlying29 hi hz0 hz1 hz2 rfl (by decide) _ _ _ rfl (World.ownsRow_made w #[] 0 (Nat.le_refl _) (Nat.zero_le _) rfl) ad n c news rfl ?qc1 ?qc2 ?qc3 ?qc4 ?qc5 ?qc6 ?_)
 case qc1 => exact HL.out
 case qc2 => exact fun j u hj => Lib.cell?_alloc_some _ (HC.out j u hj)
 case qc3 => exact H1.out
 case qc4 => unfold maxLen; omega
 case qc5 => omega
 case qc6 => simp
 intro v' w1 hown hgrow hnil; have HO := hid hown; have HB := hid (show Below w.heap.size w w1 from ((Below.refl _ w).alloc (Nat.le_refl _) _).grown hgrow (by simp) (by intro k hk; simp [Value.ownBlock] at hk; omega)); clear hown hgrow hnil; go_wp2; go_ret; exact ⟨v', rfl, by simpa using HO.out, HB.out⟩
theorem jfq (n c : Nat) (w : World) :
 Calls Tryz.prog 43 #[.slice none n c] w fun e w' => e = .returned (.slice none 0 0) ∧ w' = w := by
 have q22 : ∀ (w : World) (a : Option Addr) (n c n' c' : Nat), (binOp .eql 29 (.slice a n c) (.slice none n' c')).run Tryz.prog w = .ok (.bool a.isNone) w := fun w a n c n' c' => Lib.run_eql_slice_nil w _ _ a n c n' c' Tryz.underlying29
 go_enter Tryz.func43, Tryz.ntmps43; go_wp2; go_ret; exact ⟨rfl, rfl⟩
theorem jmX (ad : Addr) (n c : Nat) (news : List Value) (w : World) (hl : news.length = n * 6) (hn : n ≤ 1000) (hc : ∀ j u, news[j]? = some u → w.cell? (ad.add j) = some u) (h1 : ∀ u ∈ news, u.oneCell' = true) :
 Calls Tryz.prog 44 #[.slice (some ad) n c] w fun e w' => ∃ v', e = .returned v' ∧ (w'.ownsRow w.heap.size 48 6 v' n news) ∧ Below w.heap.size w w' := by
 obtain ⟨i0, hi, hz0, hz1, hz2⟩ := info_parts jgo; have q22 : ∀ (w : World) (a : Option Addr) (n c n' c' : Nat), (binOp .eql 30 (.slice a n c) (.slice none n' c')).run Tryz.prog w = .ok (.bool a.isNone) w := fun w a n c n' c' => Lib.run_eql_slice_nil w _ _ a n c n' c' Tryz.underlying30
 have HC := hid hc; have H1 := hid h1; have HL := hid hl; clear hc h1 hl; go_enter Tryz.func44, Tryz.ntmps44
 go_wp2_with (at_builtin; refine wpList_append_own _ rfl _ _ 30 rfl w.heap.size 48 i0 _ 6 72 Tryz.underlying30 hi hz0 hz1 hz2 rfl (by decide) _ _ _ rfl (World.ownsRow_made w #[] 0 (Nat.le_refl _) (Nat.zero_le _) rfl) ad n c news rfl ?qc1 ?qc2 ?qc3 ?qc4 ?qc5 ?qc6 ?_)
 case qc1 => exact HL.out
 case qc2 => exact fun j u hj => Lib.cell?_alloc_some _ (HC.out j u hj)
 case qc3 => exact H1.out
 case qc4 => unfold maxLen; omega
 case qc5 => omega
 case qc6 => simp
 intro v' w1 hown hgrow hnil; have HO := hid hown; have HB := hid (show Below w.heap.size w w1 from ((Below.refl _ w).alloc (Nat.le_refl _) _).grown hgrow (by simp) (by intro k hk; simp [Value.ownBlock] at hk; omega)); clear hown hgrow hnil; go_wp2; go_ret; exact ⟨v', rfl, by simpa using HO.out, HB.out⟩
theorem jfr (n c : Nat) (w : World) :
 Calls Tryz.prog 44 #[.slice none n c] w fun e w' => e = .returned (.slice none 0 0) ∧ w' = w := by
 have q22 : ∀ (w : World) (a : Option Addr) (n c n' c' : Nat), (binOp .eql 30 (.slice a n c) (.slice none n' c')).run Tryz.prog w = .ok (.bool a.isNone) w := fun w a n c n' c' => Lib.run_eql_slice_nil w _ _ a n c n' c' Tryz.underlying30
 go_enter Tryz.func44, Tryz.ntmps44; go_wp2; go_ret; exact ⟨rfl, rfl⟩
def ClM (w : World) (l : List Mail) (e : Ending) (w' : World) : Prop := ∃ v', e = .returned v' ∧ (w'.ownsRow w.heap.size 92 3 v' l.length (l.map zk).flatten) ∧ Below w.heap.size w w'
def ClE (w : World) (l : List Ent) (e : Ending) (w' : World) : Prop := ∃ v', e = .returned v' ∧ (w'.ownsRow w.heap.size 48 6 v' l.length (l.map entC).flatten) ∧ Below w.heap.size w w'
def ClB (Q : Nat → Prop) (w : World) (l : List Bx) (e : Ending) (w' : World) : Prop := ∃ v' vm, e = .returned v' ∧ (w'.ownsRow w.heap.size 54 3 v' l.length (bxCs l vm).flatten) ∧ vm.length = l.length ∧ (∀ (i : Nat) b v, l[i]? = some b → vm[i]? = some v → MailsM Q w v b.mails) ∧ Below w.heap.size w w'
theorem jn6 (l : List Mail) (v : Value) (w : World) (Q : Nat → Prop) (h : MailsM Q w v l) (hm : l.length ≤ 1000) : Calls Tryz.prog 45 #[v] w (ClM w l) := by
 obtain ⟨a, c, rfl⟩ := RowM.slice h; cases a with
 | none =>
   have hl : l = [] := by
    cases l with
    | nil => rfl
    | cons x r => obtain ⟨_, _, e, _⟩ := h.at (i := 0) (x := x) rfl; cases e
   subst hl; refine (jfs 0 c w).mono ?_; rintro e w' ⟨rfl, rfl⟩; exact ⟨_, rfl, World.ownsRow_nil _ _ _ _, Below.refl _ _⟩
 | some ad =>
   refine (jmY ad l.length c ((l.map zk).flatten) w ?_ hm ?_ (jlD l)).mono ?_
   · rw [jae (jI (k := 3) zk (fun _ => rfl) l), List.length_map]
   · intro j u hj; obtain ⟨i, r, cs, rfl, hr, h1, h2⟩ := jdC (jI (k := 3) zk (fun _ => rfl) l) hj; rw [List.getElem?_map] at h1; obtain ⟨x, hx, rfl⟩ := Option.map_eq_some_iff.1 h1; obtain ⟨b, o, e, _, c0, c1, c2⟩ := h.at hx; cases e; rw [Addr.add_lit]
     match r, hr, h2 with
     | 0, _, h2 => cases h2; simpa using c0
     | 1, _, h2 => cases h2; simpa [Nat.add_assoc] using c1
     | 2, _, h2 => cases h2; simpa [Nat.add_assoc] using c2
   · rintro e w' ⟨v', rfl, ho, hb⟩; exact ⟨v', rfl, ho, hb⟩
theorem jn5 (l : List Ent) (v : Value) (w : World) (Q : Nat → Prop) (h : EntsM Q w v l) (hm : l.length ≤ 1000) : Calls Tryz.prog 44 #[v] w (ClE w l) := by
 obtain ⟨a, c, rfl⟩ := RowM.slice h; cases a with
 | none =>
   have hl : l = [] := by
    cases l with
    | nil => rfl
    | cons x r => obtain ⟨_, _, e, _⟩ := h.at (i := 0) (x := x) rfl; cases e
   subst hl; refine (jfr 0 c w).mono ?_; rintro e w' ⟨rfl, rfl⟩; exact ⟨_, rfl, World.ownsRow_nil _ _ _ _, Below.refl _ _⟩
 | some ad =>
   refine (jmX ad l.length c ((l.map entC).flatten) w ?_ hm ?_ (jm4 l)).mono ?_
   · rw [jae (jI (k := 6) entC (fun _ => rfl) l), List.length_map]
   · intro j u hj; obtain ⟨i, r, cs, rfl, hr, h1, h2⟩ := jdC (jI (k := 6) entC (fun _ => rfl) l) hj; rw [List.getElem?_map] at h1; obtain ⟨x, hx, rfl⟩ := Option.map_eq_some_iff.1 h1; obtain ⟨b, o, e, _, c0, c1, c2, c3, c4, c5⟩ := h.at hx; cases e; rw [Addr.add_lit]
     match r, hr, h2 with
     | 0, _, h2 => cases h2; simpa using c0
     | 1, _, h2 => cases h2; simpa [Nat.add_assoc] using c1
     | 2, _, h2 => cases h2; simpa [Nat.add_assoc] using c2
     | 3, _, h2 => cases h2; simpa [Nat.add_assoc] using c3
     | 4, _, h2 => cases h2; simpa [Nat.add_assoc] using c4
     | 5, _, h2 => cases h2; simpa [Nat.add_assoc] using c5
   · rintro e w' ⟨v', rfl, ho, hb⟩; exact ⟨v', rfl, ho, hb⟩
theorem jn4 (l : List Bx) (v : Value) (w : World) (Q : Nat → Prop) (h : BoxsM Q w v l) (hm : l.length ≤ 1000) : Calls Tryz.prog 43 #[v] w (ClB Q w l) := by
 obtain ⟨a, c, rfl⟩ := RowM.slice h; cases a with
 | none =>
   have hl : l = [] := by
    cases l with
    | nil => rfl
    | cons x r => obtain ⟨_, _, _, e, _⟩ := h.at (i := 0) (x := x) rfl; cases e
   subst hl; refine (jfq 0 c w).mono ?_; rintro e w' ⟨rfl, rfl⟩; exact ⟨_, [], rfl, World.ownsRow_nil _ _ _ _, rfl, fun i b v hb => by simp at hb, Below.refl _ _⟩
 | some ad =>
   have hvm : ∀ (i : Nat) x, l[i]? = some x → ∃ v, ((List.range l.length).map fun i => (w.cell? (ad.add (i * 3 + 2))).getD (.slice none 0 0))[i]? = some v ∧ MailsM Q w v x.mails ∧ ∀ r u, (boxC x v)[r]? = some u → w.cell? (ad.add (i * 3 + r)) = some u := by
    intro i x hx; have hi : i < l.length := (List.getElem?_eq_some_iff.1 hx).1; obtain ⟨b, o, v, e, _, c0, c1, c2, hM⟩ := h.at hx; cases e; refine ⟨v, ?_, hM, ?_⟩
    · rw [List.getElem?_map, List.getElem?_range hi]; simp only [Option.map_some, Addr.add_lit]; rw [← Nat.add_assoc, c2]; rfl
    · intro r u hu; have hr : r < 3 := (List.getElem?_eq_some_iff.1 hu).1; rw [Addr.add_lit]
      match r, hr, hu with
      | 0, _, h2 => cases h2; simpa using c0
      | 1, _, h2 => cases h2; simpa [Nat.add_assoc] using c1
      | 2, _, h2 => cases h2; simpa [Nat.add_assoc] using c2
   have hlen : ((List.range l.length).map fun i => (w.cell? (ad.add (i * 3 + 2))).getD (.slice none 0 0)).length = l.length := by simp
   generalize ((List.range l.length).map fun i => (w.cell? (ad.add (i * 3 + 2))).getD (.slice none 0 0)) = vm at hvm hlen; have hcs : ∀ (i : Nat) cs, (bxCs l vm)[i]? = some cs → ∃ x v, l[i]? = some x ∧ vm[i]? = some v ∧ cs = boxC x v := by
    intro i cs hc; have hi : i < l.length := by rw [← jdx l vm hlen]; exact (List.getElem?_eq_some_iff.1 hc).1
    have hx : l[i]? = some l[i] := List.getElem?_eq_getElem hi; obtain ⟨v, hv, _⟩ := hvm i _ hx; rw [vH l vm i _ v hx hv] at hc; cases hc; exact ⟨_, v, hx, hv, rfl⟩
   refine (jmW ad l.length c ((bxCs l vm).flatten) w ?_ hm ?_ ?_).mono ?_
   · rw [jae (qc l vm), jdx l vm hlen]
   · intro j u hj; obtain ⟨i, r, cs, rfl, hr, h1, h2⟩ := jdC (qc l vm) hj; obtain ⟨x, v, hx, hv, rfl⟩ := hcs i cs h1; obtain ⟨v', hv', _, hc⟩ := hvm i x hx; rw [hv] at hv'; cases hv'; exact hc r u h2
   · intro u hu; obtain ⟨cs, hcs', hu⟩ := List.mem_flatten.1 hu; obtain ⟨i, hi, rfl⟩ := List.getElem_of_mem hcs'; obtain ⟨x, v, hx, hv, e⟩ := hcs i _ (List.getElem?_eq_getElem hi); obtain ⟨v', hv', hM, _⟩ := hvm i x hx; rw [hv] at hv'; cases hv'; obtain ⟨a, c, rfl⟩ := RowM.slice hM; rw [e] at hu; simp only [boxC, List.mem_cons, List.not_mem_nil, or_false] at hu
     rcases hu with rfl | rfl | rfl <;> rfl
   · rintro e w' ⟨v', rfl, ho, hb⟩; refine ⟨v', vm, rfl, ho, hlen, ?_, hb⟩; intro i b v hb' hv; obtain ⟨v', hv', hM, _⟩ := hvm i b hb'; rw [hv] at hv'; cases hv'; exact hM
end Go.Proofs.YtgfbdgheencmaaaGreatDoor
