/-
  States of boxes in memory: how they are read, and one that a call has made and may write into. No function of the program is named here.
-/
import Derived.Test.YtmgdnhjemhhleaaGreatDoorOBoxPur
import Derived.Test.YtmgdnhjemhhleaaGreatDoorRows
import Derived.Test.YtmgdnhjemhhleaaGreatDoorOQScrCard9
set_option maxHeartbeats 1000000
set_option maxRecDepth 100000
namespace Go.Proofs.YtmgdnhjemhhleaaGreatDoor
open Go.RowKit Go.Proofs
def jnb (m : Mail) : List Value := [.int .i64 m.uid, .int .i64 m.flags, .string (S m.text)]
def entC (x : Ent) : List Value := [.int .i64 x.kind, .string (S x.box), .int .i64 x.uid, .int .i64 x.flags, .string (S x.goal), .string (S x.text)]
def boxC (b : Bx) (v : Value) : List Value := [.string (S b.name), .int .i64 b.next, v]
def jnx (m : Mail) (cs : List Value) : Prop := cs = jnb m
def EntM (x : Ent) (cs : List Value) : Prop := cs = entC x
def MailsM (Q : Nat → Prop) (w : World) (v : Value) (l : List Mail) : Prop := RowM Q 3 jnx w v l
def EntsM (Q : Nat → Prop) (w : World) (v : Value) (l : List Ent) : Prop := RowM Q 6 EntM w v l
def BoxM (Q : Nat → Prop) (w : World) (b : Bx) (cs : List Value) : Prop := ∃ v, cs = boxC b v ∧ MailsM Q w v b.mails
def BoxsM (Q : Nat → Prop) (w : World) (v : Value) (l : List Bx) : Prop := RowM Q 3 (BoxM Q w) w v l
def SttM (Q : Nat → Prop) (w : World) (vb vs : Value) (s : Stt) : Prop := BoxsM Q w vb s.boxes ∧ EntsM Q w vs s.spool ∧ ∀ a n c, vb = .slice a n c → n ≤ c
theorem MailsM.imp {Q Q' : Nat → Prop} {w w' : World} {v : Value} {l : List Mail} (h : MailsM Q w v l) (hq : ∀ b, Q b → Q' b) (hk : Keeps Q w w') : MailsM Q' w' v l := RowM.imp h hq hk fun _ _ h => h
theorem EntsM.imp {Q Q' : Nat → Prop} {w w' : World} {v : Value} {l : List Ent} (h : EntsM Q w v l) (hq : ∀ b, Q b → Q' b) (hk : Keeps Q w w') : EntsM Q' w' v l := RowM.imp h hq hk fun _ _ h => h
theorem BoxM.imp {Q Q' : Nat → Prop} {w w' : World} {b : Bx} {cs : List Value} (h : BoxM Q w b cs) (hq : ∀ b, Q b → Q' b) (hk : Keeps Q w w') : BoxM Q' w' b cs := by
 obtain ⟨v, e, h⟩ := h; exact ⟨v, e, h.imp hq hk⟩
theorem BoxsM.imp {Q Q' : Nat → Prop} {w w' : World} {v : Value} {l : List Bx} (h : BoxsM Q w v l) (hq : ∀ b, Q b → Q' b) (hk : Keeps Q w w') : BoxsM Q' w' v l := RowM.imp h hq hk fun _ _ h => h.imp hq hk
theorem SttM.imp {Q Q' : Nat → Prop} {w w' : World} {vb vs : Value} {s : Stt} (h : SttM Q w vb vs s) (hq : ∀ b, Q b → Q' b) (hk : Keeps Q w w') : SttM Q' w' vb vs s := ⟨h.1.imp hq hk, h.2.1.imp hq hk, h.2.2⟩
theorem SttM.next {Q : Nat → Prop} {w w' : World} {vb vs : Value} {s : Stt} (h : SttM Q w vb vs s) (hb : Below w.heap.size w w') : SttM Q w' vb vs s := h.imp (fun _ h => h) (Keeps.of_below hb)
theorem BoxsM.next {Q : Nat → Prop} {w w' : World} {v : Value} {l : List Bx} (h : BoxsM Q w v l) (hb : Below w.heap.size w w') : BoxsM Q w' v l := h.imp (fun _ h => h) (Keeps.of_below hb)
theorem EntsM.next {Q : Nat → Prop} {w w' : World} {v : Value} {l : List Ent} (h : EntsM Q w v l) (hb : Below w.heap.size w w') : EntsM Q w' v l := h.imp (fun _ h => h) (Keeps.of_below hb)
theorem MailsM.next {Q : Nat → Prop} {w w' : World} {v : Value} {l : List Mail} (h : MailsM Q w v l) (hb : Below w.heap.size w w') : MailsM Q w' v l := h.imp (fun _ h => h) (Keeps.of_below hb)
theorem MailsM.at {Q : Nat → Prop} {w : World} {a : Option Addr} {n c : Nat} {l : List Mail} (h : MailsM Q w (.slice a n c) l) {i : Nat} {x : Mail} (hx : l[i]? = some x) : ∃ b o, a = some ⟨b, o, none⟩ ∧ Q b ∧ w.cell? ⟨b, o + i * 3, none⟩ = some (.int .i64 x.uid) ∧ w.cell? ⟨b, o + i * 3 + 1, none⟩ = some (.int .i64 x.flags) ∧ w.cell? ⟨b, o + i * 3 + 2, none⟩ = some (.string (S x.text)) := by
 obtain ⟨a', c', hv, _, hr⟩ := h; simp only [Value.slice.injEq] at hv; obtain ⟨rfl, _, rfl⟩ := hv; obtain ⟨b, o, cs, rfl, _, hq, _, hc, hP⟩ := hr i x hx; have hcs : cs = _ := hP; subst hcs; exact ⟨b, o, rfl, hq, by simpa using hc 0 _ rfl, hc 1 _ rfl, hc 2 _ rfl⟩
theorem BoxsM.at {Q : Nat → Prop} {w : World} {a : Option Addr} {n c : Nat} {l : List Bx} (h : BoxsM Q w (.slice a n c) l) {i : Nat} {x : Bx} (hx : l[i]? = some x) : ∃ b o v, a = some ⟨b, o, none⟩ ∧ Q b ∧ w.cell? ⟨b, o + i * 3, none⟩ = some (.string (S x.name)) ∧ w.cell? ⟨b, o + i * 3 + 1, none⟩ = some (.int .i64 x.next) ∧ w.cell? ⟨b, o + i * 3 + 2, none⟩ = some v ∧ MailsM Q w v x.mails := by
 obtain ⟨a', c', hv, _, hr⟩ := h; simp only [Value.slice.injEq] at hv; obtain ⟨rfl, _, rfl⟩ := hv; obtain ⟨b, o, cs, rfl, _, hq, _, hc, v, hcs, hm⟩ := hr i x hx; subst hcs; exact ⟨b, o, v, rfl, hq, by simpa using hc 0 _ rfl, hc 1 _ rfl, hc 2 _ rfl, hm⟩
theorem EntsM.at {Q : Nat → Prop} {w : World} {a : Option Addr} {n c : Nat} {l : List Ent} (h : EntsM Q w (.slice a n c) l) {i : Nat} {x : Ent} (hx : l[i]? = some x) : ∃ b o, a = some ⟨b, o, none⟩ ∧ Q b ∧ w.cell? ⟨b, o + i * 6, none⟩ = some (.int .i64 x.kind) ∧ w.cell? ⟨b, o + i * 6 + 1, none⟩ = some (.string (S x.box)) ∧ w.cell? ⟨b, o + i * 6 + 2, none⟩ = some (.int .i64 x.uid) ∧ w.cell? ⟨b, o + i * 6 + 3, none⟩ = some (.int .i64 x.flags) ∧ w.cell? ⟨b, o + i * 6 + 4, none⟩ = some (.string (S x.goal)) ∧ w.cell? ⟨b, o + i * 6 + 5, none⟩ = some (.string (S x.text)) := by
 obtain ⟨a', c', hv, _, hr⟩ := h; simp only [Value.slice.injEq] at hv; obtain ⟨rfl, _, rfl⟩ := hv; obtain ⟨b, o, cs, rfl, _, hq, _, hc, hP⟩ := hr i x hx; have hcs : cs = _ := hP; subst hcs; exact ⟨b, o, rfl, hq, by simpa using hc 0 _ rfl, hc 1 _ rfl, hc 2 _ rfl, hc 3 _ rfl, hc 4 _ rfl, hc 5 _ rfl⟩
theorem jbX {k : Nat} : ∀ {css : List (List Value)} {i j : Nat} {cs : List Value}, (∀ c ∈ css, c.length = k) → css[i]? = some cs → j < k → css.flatten[i * k + j]? = cs[j]? := by
 intro css
 induction css with
 | nil => intro i j cs _ h _; simp at h
 | cons c css ih =>
   intro i j cs hk h hj; have hc : c.length = k := hk c (by simp); cases i with
   | zero =>
     simp at h
     subst h; simp only [Nat.zero_mul, Nat.zero_add, List.flatten_cons]; rw [List.getElem?_append_left (by omega)]
   | succ i =>
     have := ih (j := j) (fun c hc => hk c (by simp [hc])) (by simpa using h) hj; simp only [List.flatten_cons]; rw [List.getElem?_append_right (by rw [hc, Nat.add_mul]; omega), ← this]
     congr 1
     rw [hc, Nat.add_mul]; omega
def Apart (u v : Value) : Prop := ∀ k, u.ownBlock = some k → v.ownBlock ≠ some k
theorem Apart.symm {u v : Value} (h : Apart u v) : Apart v u := fun k hv hu => h k hu hv
def bxCs : List Bx → List Value → List (List Value)
 | b :: r, v :: vs => boxC b v :: bxCs r vs
 | _, _ => []
theorem jhX : ∀ (l : List Bx) (vs : List Value), ∀ cs ∈ bxCs l vs, cs.length = 3 := by
 intro l
 induction l with
 | nil => intro vs cs h; cases vs <;> cases h
 | cons b l ih =>
   intro vs cs h; cases vs with
   | nil => cases h
   | cons v vs =>
     simp only [bxCs, List.mem_cons] at h
     rcases h with rfl | h
     · rfl
     · exact ih vs cs h
theorem jlY : ∀ (l : List Bx) (vs : List Value) (i : Nat) (b : Bx) (v : Value), l[i]? = some b → vs[i]? = some v → (bxCs l vs)[i]? = some (boxC b v) := by
 intro l
 induction l with
 | nil => intro vs i b v h; simp at h
 | cons c l ih =>
   intro vs i b v h h'; cases vs with
   | nil => simp at h'
   | cons u vs =>
     cases i with
     | zero => simp at h h'; subst h; subst h'; rfl
     | succ i => simp at h h'; simpa [bxCs] using ih vs i b v h h'
structure OwnS (B : Nat) (w : World) (vb vs : Value) (vm : List Value) (s : Stt) : Prop where
 boxes : w.ownsRow B 67 3 vb s.boxes.length (bxCs s.boxes vm).flatten
 spool : w.ownsRow B 32 6 vs s.spool.length (s.spool.map entC).flatten
 len : vm.length = s.boxes.length
 mails : ∀ (i : Nat) b v, s.boxes[i]? = some b → vm[i]? = some v → w.ownsRow B 94 3 v b.mails.length (b.mails.map jnb).flatten
 bs : Apart vb vs
 mb : ∀ v ∈ vm, Apart v vb
 ms : ∀ v ∈ vm, Apart v vs
 mm : ∀ (i j : Nat) u v, i ≠ j → vm[i]? = some u → vm[j]? = some v → Apart u v
def inS (vb vs : Value) (vm : List Value) (k : Nat) : Prop := vb.ownBlock = some k ∨ vs.ownBlock = some k ∨ ∃ v ∈ vm, v.ownBlock = some k
theorem jI {w w' : World} {B n k : Nat} {e : TypeId} {v : Value} {xs : List Value} (h : w.ownsRow B e k v n xs) (hk : ∀ g, v.ownBlock = some g → w'.heap[g]? = w.heap[g]?) : w'.ownsRow B e k v n xs := by
 refine ⟨h.1, ?_⟩
 rcases h.2 with hn | ⟨g, cap, cur, rfl, hb, hgg, rest⟩
 · exact .inl hn
 · exact .inr ⟨g, cap, cur, rfl, hb, (hk g rfl).trans hgg, rest⟩
theorem OwnS.keep {B : Nat} {w w' : World} {vb vs : Value} {vm : List Value} {s : Stt} (h : OwnS B w vb vs vm s) (hk : ∀ g, inS vb vs vm g → w'.heap[g]? = w.heap[g]?) : OwnS B w' vb vs vm s :=
 ⟨jI h.boxes fun g hg => hk g (.inl hg), jI h.spool fun g hg => hk g (.inr (.inl hg)), h.len, fun i b v hb hv => jI (h.mails i b v hb hv) fun g hg => hk g (.inr (.inr ⟨v, List.mem_of_getElem? hv, hg⟩)), h.bs, h.mb, h.ms, h.mm⟩
theorem OwnS.lt {B : Nat} {w : World} {vb vs : Value} {vm : List Value} {s : Stt} (h : OwnS B w vb vs vm s) {g : Nat} (hg : inS vb vs vm g) : B ≤ g ∧ g < w.heap.size := by
 rcases hg with hg | hg | ⟨v, hv, hg⟩
 · exact World.ownsRow.lt h.boxes g hg
 · exact World.ownsRow.lt h.spool g hg
 · obtain ⟨i, hi, rfl⟩ := List.getElem_of_mem hv; have hi' : i < s.boxes.length := by rw [← h.len]; exact hi
   exact World.ownsRow.lt (h.mails i _ _ (List.getElem?_eq_getElem hi') (List.getElem?_eq_getElem hi)) g hg
theorem OwnS.next {B : Nat} {w w' : World} {vb vs : Value} {vm : List Value} {s : Stt} (h : OwnS B w vb vs vm s) (hb : Below w.heap.size w w') : OwnS B w' vb vs vm s := h.keep fun g hg => hb.block g (h.lt hg).2
theorem jdC {A : Type} {B n k : Nat} {e : TypeId} {w : World} {v : Value} {l : List A} {css : List (List Value)} {P : A → List Value → Prop} {Q : Nat → Prop} (h : w.ownsRow B e k v n css.flatten) (hn : n = l.length) (hm : n ≤ maxLen) (hl : css.length = l.length) (he : ∀ cs ∈ css, cs.length = k)
 (hP : ∀ (i : Nat) x cs, l[i]? = some x → css[i]? = some cs → P x cs) (hQ : ∀ g, v.ownBlock = some g → Q g) : RowM Q k P w v l := by
 subst hn
 rcases h.2 with ⟨rfl, h0⟩ | ⟨g, cap, cur, rfl, hb, hg, h1, h2, h3, ht⟩
 · have : l = [] := List.length_eq_zero_iff.1 h0; subst this; exact jg _ _ _ _ _ _
 · refine ⟨some ⟨g, 0, none⟩, cap, rfl, hm, fun i x hx => ?_⟩; have hi : i < l.length := (List.getElem?_eq_some_iff.1 hx).1; have hc : css[i]? = some css[i] := List.getElem?_eq_getElem (by omega); refine ⟨g, 0, css[i], rfl, (Array.getElem?_eq_some_iff.1 hg).1, hQ g rfl, he _ (List.mem_of_getElem? hc), ?_, hP i x _ hx hc⟩; intro j u hj; have hjk : j < k := by rw [← he _ (List.mem_of_getElem? hc)]; exact (List.getElem?_eq_some_iff.1 hj).1
   have := World.ownsRow.cells h (g := g) rfl (i * k + j) u (by rw [jbX he hc hjk]; exact hj); rw [Addr.add_lit] at this
   simpa [Nat.add_assoc] using this
theorem OwnS.small {B : Nat} {w : World} {vb vs : Value} {vm : List Value} {s : Stt} (h : OwnS B w vb vs vm s) : ∃ a c, vb = .slice a s.boxes.length c := by
 rcases h.boxes.2 with ⟨rfl, hn⟩ | ⟨g, cap, cur, rfl, _⟩
 · exact ⟨none, 0, by rw [hn]⟩
 · exact ⟨_, _, rfl⟩
theorem OwnS.box {B : Nat} {w : World} {vb vs : Value} {vm : List Value} {s : Stt} (h : OwnS B w vb vs vm s) {i : Nat} {b : Bx} (hb : s.boxes[i]? = some b) : ∃ g c v, vb = .slice (some ⟨g, 0, none⟩) s.boxes.length c ∧ vm[i]? = some v ∧ w.cell? ⟨g, i * 3, none⟩ = some (.string (S b.name)) ∧ w.cell? ⟨g, i * 3 + 1, none⟩ = some (.int .i64 b.next) ∧ w.cell? ⟨g, i * 3 + 2, none⟩ = some v ∧
 w.frozen? ⟨g, i * 3 + 1, none⟩ = false ∧ w.frozen? ⟨g, i * 3 + 2, none⟩ = false := by
 have hi0 : i < s.boxes.length := (List.getElem?_eq_some_iff.1 hb).1; have hi : i < vm.length := by rw [h.len]; exact hi0
 have hv : vm[i]? = some vm[i] := List.getElem?_eq_getElem hi
 rcases h.boxes.2 with ⟨_, hn⟩ | ⟨g, cap, cur, e, _, hg, _⟩
 · omega
 · have hat := jlY _ _ _ _ _ hb hv; have hc : ∀ j u, (boxC b vm[i])[j]? = some u → w.cell? ⟨g, i * 3 + j, none⟩ = some u := fun j u hj => by
    have hj3 : j < 3 := (List.getElem?_eq_some_iff.1 hj).1; have := World.ownsRow.cells h.boxes (g := g) (by rw [e]; rfl) (i * 3 + j) u (by rw [jbX (jhX _ _) hat hj3]; exact hj); rw [Addr.add_lit] at this
    simpa using this
   exact ⟨g, cap, _, e, hv, hc 0 _ rfl, hc 1 _ rfl, hc 2 _ rfl, by simp [World.frozen?, hg], by simp [World.frozen?, hg]⟩
theorem jkG {w : World} {B n c g : Nat} {e : TypeId} {k : Nat} {xs : List Value} (h : w.ownsRow B e k (.slice (some ⟨g, 0, none⟩) n c) n xs) (j : Nat) (u : Value) :
 (w.setCell ⟨g, j, none⟩ u).ownsRow B e k (.slice (some ⟨g, 0, none⟩) n c) n (xs.set j u) := by
 refine ⟨by rw [List.length_set]; exact h.1, .inr ?_⟩
 rcases h.2 with ⟨h', _⟩ | ⟨g', cap', cur, h', hb, hg, h1, h2, h3, htake⟩
 · simp at h'
 · simp only [Value.slice.injEq, Option.some.injEq, Addr.mk.injEq, and_true, true_and] at h'; obtain ⟨rfl, rfl⟩ := h'; refine ⟨g, c, cur.setIfInBounds j u, rfl, hb, heap_setCell_same w g j cur e u hg, h1, h2, by simpa using h3, ?_⟩; rw [Array.toList_setIfInBounds, List.take_set, htake]
def ibN : List UInt8 := [73, 78, 66, 79, 88]
theorem jmX (a : Option Addr) (c : Nat) (f : Value) (w : World) :
 Calls Tryz.prog 86 #[.slice a 0 c, f] w fun e w' => e = .returned (.int .i64 (-1)) ∧ Below w.heap.size w w' := by
 go_enter Tryz.func86, Tryz.ntmps86; go_wp2
 go_loopw [8] (fun v wr => v = .int .i64 0 ∧ Hid (Below w.heap.size w wr)) (fun _ _ => 0)
 case atStart => exact ⟨rfl, Below.refl _ _⟩
 case round =>
  obtain ⟨rfl, HB⟩ := hrel; go_wp2; go_ret; exact ⟨rfl, HB.out⟩
theorem jmW (a : Option Addr) (c : Nat) (f : Value) (w : World) :
 Calls Tryz.prog 84 #[.slice a 0 c, f] w fun e w' => e = .returned (.bool false) ∧ Below w.heap.size w w' := by
 have HI : Hid (∀ (u : World), Calls Tryz.prog 112 #[.slice a 0 c, f] u fun e w' => e = .returned (.int .i64 (-1)) ∧ Below u.heap.size u w') := fun u => by
  go_enter Tryz.func112, Tryz.ntmps112; go_wp2
  go_loopw [8] (fun v wr => v = .int .i64 0 ∧ Hid (Below u.heap.size u wr)) (fun _ _ => 0)
  case atStart => exact ⟨rfl, Below.refl _ _⟩
  case round =>
   obtain ⟨rfl, HB⟩ := hrel; go_wp2; go_ret; exact ⟨rfl, HB.out⟩
 go_enter Tryz.func84, Tryz.ntmps84; go_wp2_with fail; refine (HI.out _).mono ?_; rintro e w1 ⟨rfl, hb⟩; have HB := hid hb; clear hb; go_wp2; go_ret; exact ⟨by first | rfl | simp, HB.out⟩
theorem jmc (p : Nat) (o : Nat) (c : Nat) (am : Option Addr) (cm : Nat) (w : World) (e0 : w.cell? ⟨p, o, none⟩ = some (.string (S ibN))) (e1 : w.cell? ⟨p, o + 1, none⟩ = some (.int .i64 1)) (e2 : w.cell? ⟨p, o + 2, none⟩ = some (.slice am 0 cm)) :
 Calls Tryz.prog 83 #[.slice (some ⟨p, o, none⟩) 1 c] w fun e w' => e = .returned (.int .i64 0) ∧ Below w.heap.size w w' := by
 go_enter Tryz.func83, Tryz.ntmps83; go_wp2
 go_loopw [3, 10] (fun n v wr => ∃ i : Nat, i ≤ 1 ∧ v = .int .i64 i ∧ n = .int .i64 0 ∧ Hid (Below w.heap.size w wr)) (fun _ v _ => 1 - (intOf v).toNat)
 case atStart => exact ⟨0, Nat.zero_le _, rfl, rfl, Below.refl _ _⟩
 case round =>
  obtain ⟨i, hi, rfl, rfl, HB⟩ := hrel
  by_cases hlt : i < 1
  · obtain rfl : i = 0 := by omega
    have y0 := ja e0 HB.out; have y1 := ja e1 HB.out; have y2 := ja e2 HB.out; obtain ⟨wo, rfl⟩ : ∃ W, W = wr := ⟨_, rfl⟩; go_wp2
    go_loopw [3, 17] (fun n v wr => v = .int .i64 0 ∧ n = .int .i64 0 ∧ Hid (Below w.heap.size w wr)) (fun _ _ _ => 0)
    case atStart => exact ⟨rfl, rfl, HB.out.alloc HB.out.size _⟩
    case round =>
        obtain ⟨rfl, rfl, HB2⟩ := hrel; go_wp2
        go_roundw
        case rel => first | exact ⟨0 + 1, by omega, by go_num, by first | rfl | trivial, HB2⟩ | ((repeat apply Exists.intro); exact ⟨⟨0 + 1, by omega, by go_num, by first | rfl | trivial, HB2⟩, rfl⟩) | (refine ⟨trivial, ?_⟩; (repeat apply Exists.intro); exact ⟨⟨0 + 1, by omega, by go_num, by first | rfl | trivial, HB2⟩, rfl⟩)
        case measure => simp [intOf]
  · obtain rfl : i = 1 := by omega
    go_wp2; go_ret; exact ⟨rfl, HB.out⟩
theorem jmV (am : Option Addr) (cm : Nat) (w : World) :
 Calls Tryz.prog 82 #[.agg #[.string (S ibN), .int .i64 1, .slice am 0 cm]] w fun e w' => e = .returned (.bool true) ∧ Below w.heap.size w w' := by
 obtain ⟨W1, hW1⟩ : ∃ W1, W1 = w.alloc (.cells #[.string (S ibN), .int .i64 1, .slice am 0 cm] 67) := ⟨_, rfl⟩; have HWE := hid hW1; have HB1 := hid (show Below w.heap.size w W1 by rw [hW1]; exact nb0 _ _); have hX : W1.heap[w.heap.size]? = some (.cells #[.string (S ibN), .int .i64 1, .slice am 0 cm] 67) := by rw [hW1]; exact heap_alloc_new w _
 have x0 : W1.cell? ⟨w.heap.size, 0, none⟩ = some (.string (S ibN)) := by simp [World.cell?, hX]
 have x1 : W1.cell? ⟨w.heap.size, 1, none⟩ = some (.int .i64 1) := by simp [World.cell?, hX]
 have x2 : W1.cell? ⟨w.heap.size, 2, none⟩ = some (.slice am 0 cm) := by simp [World.cell?, hX]
 have HN := hid (show jak (S ibN).data.toList = 0 by rw [jj]; decide); clear hX hW1; go_enter Tryz.func82, Tryz.ntmps82; go_wp2_with fail; rw [← HWE.out]; refine (jez (S ibN) W1).mono ?_; rintro e u ⟨rfl, hu⟩; have hu' := hu.symm; subst hu'; rw [HN.out]; clear hu; go_wp2
 go_loopw [3, 29] (fun n v wr => v = .int .i64 0 ∧ n = .int .i64 0 ∧ Hid (Below W1.heap.size W1 wr)) (fun _ _ _ => 0)
 case atStart => exact ⟨rfl, rfl, Below.refl _ _⟩
 case round =>
  obtain ⟨rfl, rfl, HB⟩ := hrel; have HE := hid (show Below w.heap.size w wr from HB1.out.trans (HB.out.mono HB1.out.size)); go_wp2; go_ret; exact ⟨rfl, HE.out⟩
theorem jnB (a : Option Addr) (c : Nat) (s : List UInt8) (w : World) :
 Calls Tryz.prog 56 #[.slice a 0 c, .string (S s)] w fun e w' => e = .returned (.int .i64 (-1)) ∧ Below w.heap.size w w' := by
 have hmf : ∀ (fn : Fn) (first cap : Array Value) (w : World), (Instr.makeFunc fn first cap).run Tryz.prog w = .ok (.func fn first cap) w := fun _ _ _ _ => rfl
 have HB1 := hid (show Below w.heap.size w (w.alloc (.cells #[.string (S s)] 9)) from nb0 _ _); go_enter Tryz.func56, Tryz.ntmps56; go_wp2_with fail; refine (jmX _ _ _ _).mono ?_; rintro e w2 ⟨rfl, hb⟩; have HB2 := hid (HB1.out.trans (hb.mono HB1.out.size)); clear hb; simp only; go_wp2; go_ret; exact ⟨rfl, HB2.out⟩
theorem jmY (vb vs : Value) (w : World) (Q : Nat → Prop) (hS : SttM Q w vb vs ⟨[⟨ibN, 1, []⟩], []⟩) :
 Calls Tryz.prog 50 #[.agg #[vb, vs]] w fun e w' => e = .returned (.bool true) ∧ Below w.heap.size w w' := by
 have hmf : ∀ (fn : Fn) (first cap : Array Value) (w : World), (Instr.makeFunc fn first cap).run Tryz.prog w = .ok (.func fn first cap) w := fun _ _ _ _ => rfl
 obtain ⟨ab, cb, rfl⟩ := RowM.slice hS.1; obtain ⟨aq, cs, rfl⟩ := RowM.slice hS.2.1; have hcap := hS.2.2 _ _ _ rfl; obtain ⟨p, o, v, rfl, _, e0, e1, e2, hm⟩ := hS.1.at (i := 0) rfl; obtain ⟨am, cm, rfl⟩ := RowM.slice hm
 try simp only [Nat.zero_mul, Nat.add_zero] at e0 e1 e2
 obtain ⟨W1, hW1⟩ : ∃ W1, W1 = w.alloc (.cells #[.slice (some ⟨p, o, none⟩) 1 cb, .slice aq 0 cs] 49) := ⟨_, rfl⟩; have HWE := hid hW1; have hB1 : Below w.heap.size w W1 := by rw [hW1]; exact nb0 _ _
 have HB1 := hid hB1; have hX : W1.heap[w.heap.size]? = some (.cells #[.slice (some ⟨p, o, none⟩) 1 cb, .slice aq 0 cs] 49) := by rw [hW1]; exact heap_alloc_new w _
 have x0 : W1.cell? ⟨w.heap.size, 0, none⟩ = some (.slice (some ⟨p, o, none⟩) 1 cb) := by simp [World.cell?, hX]
 have x1 : W1.cell? ⟨w.heap.size, 1, none⟩ = some (.slice aq 0 cs) := by simp [World.cell?, hX]
 have HC := hid (show ∀ u, Below W1.heap.size W1 u → u.cell? ⟨w.heap.size, 0, none⟩ = some (.slice (some ⟨p, o, none⟩) 1 cb) ∧ u.cell? ⟨w.heap.size, 1, none⟩ = some (.slice aq 0 cs) ∧ u.cell? ⟨p, o, none⟩ = some (.string (S ibN)) ∧ u.cell? ⟨p, o + 1, none⟩ = some (.int .i64 1) ∧ u.cell? ⟨p, o + 2, none⟩ = some (.slice am 0 cm) from fun u hu => ⟨ja x0 hu, ja x1 hu, ja (ja e0 hB1) hu, ja (ja e1 hB1) hu, ja (ja e2 hB1) hu⟩); have hcb : (1 : Int) ≤ (cb : Int) := by have : 1 ≤ cb := hcap; omega
 clear hS hW1 hX hB1 x0 x1 e0 e1 e2 hcap hm; go_enter Tryz.func50, Tryz.ntmps50; obtain ⟨x0, x1, _⟩ := HC.out W1 (Below.refl _ _); go_upto_region 1 with fail
 try simp only [List.length_cons, List.length_nil, Nat.zero_add]
 go_wp2; rw [← HWE.out]
 go_loopw [18] (fun v wr => ∃ i : Nat, i ≤ 1 ∧ v = .int .i64 i ∧ Hid (Below W1.heap.size W1 wr)) (fun v _ => 1 - (intOf v).toNat)
 case atStart => exact ⟨0, Nat.zero_le _, rfl, Below.refl _ _⟩
 case round =>
  obtain ⟨i, hi, rfl, HB⟩ := hrel; obtain ⟨y0, y1, y2, y3, y4⟩ := HC.out wr HB.out
  by_cases hlt : i < 1
  · obtain rfl : i = 0 := by omega
    obtain ⟨W2, hW2⟩ : ∃ W2, W2 = wr.alloc (.cells #[.string (S ibN), .int .i64 1, .slice am 0 cm] 67) := ⟨_, rfl⟩; have HWE2 := hid hW2; have hB2 : Below wr.heap.size wr W2 := by rw [hW2]; exact nb0 _ _
    have hX2 : W2.heap[wr.heap.size]? = some (.cells #[.string (S ibN), .int .i64 1, .slice am 0 cm] 67) := by rw [hW2]; exact heap_alloc_new wr _
    have m0 : W2.cell? ⟨wr.heap.size, 0, none⟩ = some (.string (S ibN)) := by simp [World.cell?, hX2]
    have m1 : W2.cell? ⟨wr.heap.size, 1, none⟩ = some (.int .i64 1) := by simp [World.cell?, hX2]
    have m2 : W2.cell? ⟨wr.heap.size, 2, none⟩ = some (.slice am 0 cm) := by simp [World.cell?, hX2]
    have z0 := ja y0 hB2; have HB3 := hid (show Below W1.heap.size W1 W2 from HB.out.trans (hB2.mono HB.out.size)); have HBM := hid (fun u => jmV am cm u); have HIX := hid (fun u => jnB (some ⟨p, o, none⟩) cb ibN u); clear hW2 hX2 hB2; go_wp2; rw [← HWE2.out]
    go_cut [35] (fun c wx => c = .bool false ∧ Below W2.heap.size W2 wx)
    case first =>
        go_region_held3 (fun w' => w'.cell? ⟨wr.heap.size, 0, none⟩ = some (.string (S ibN)) ∧ w'.cell? ⟨wr.heap.size, 1, none⟩ = some (.int .i64 1) ∧ w'.cell? ⟨wr.heap.size, 2, none⟩ = some (.slice am 0 cm) ∧ w'.cell? ⟨w.heap.size, 0, none⟩ = some (.slice (some ⟨p, o, none⟩) 1 cb)) (go_keep)
         (first
            | (go_at_call 56
               with_reducible refine (HIX.out _).mono ?_
               rintro e w4 ⟨rfl, hb⟩; have HB5 := hid (HB4.out.trans (hb.mono HB4.out.size)); have q0 := ja k0 hb; have q1 := ja k1 hb; have q2 := ja k2 hb; have q3 := ja k3 hb; clear hb)
            | (go_at_call 82
               with_reducible refine (HBM.out W2.drew).mono ?_
               rintro e w3 ⟨rfl, hb⟩; have hb2 : Below W2.heap.size W2 w3 := (Below.refl _ _).drew.trans hb; have HB4 := hid hb2; have k0 := ja m0 hb2; have k1 := ja m1 hb2; have k2 := ja m2 hb2; have k3 := ja z0 hb2; clear hb hb2))
        all_goals
         go_wp2_with fail
         go_meet
         exact ⟨by first | rfl | simp, HB5.out⟩
    case rest =>
        obtain ⟨rfl, hb⟩ := hcut; have HB6 := hid (show Below W1.heap.size W1 wc from HB3.out.trans (hb.mono HB3.out.size)); clear hb; go_wp2
        go_roundw
        case rel => first | exact ⟨0 + 1, by omega, by go_num, HB6⟩ | ((repeat apply Exists.intro); exact ⟨⟨0 + 1, by omega, by go_num, HB6⟩, rfl⟩)
        case measure => simp [intOf]
  · obtain rfl : i = 1 := by omega
    have HSZ := hid (jmc p o cb am cm wr y2 y3 y4); go_wp2_with fail; refine HSZ.out.mono ?_; rintro e w2 ⟨rfl, hb⟩; have HB2 := hid (show Below w.heap.size w w2 from (HB1.out.trans (HB.out.mono HB1.out.size)).trans (hb.mono (Nat.le_trans HB1.out.size HB.out.size))); have q1 := ja y1 hb; clear hb; go_wp2_with fail; refine (jmW _ _ _ w2).mono ?_; rintro e w3 ⟨rfl, hb⟩; have HB3 := hid (HB2.out.trans (hb.mono HB2.out.size)); clear hb; go_wp2; go_ret; exact ⟨by first | rfl | simp, HB3.out⟩
theorem jkk (vb vs : Value) (w : World) (Q : Nat → Prop) (hS : SttM Q w vb vs ⟨[⟨ibN, 1, []⟩], []⟩) :
 Calls Tryz.prog 30 #[.agg #[vb, vs]] w fun e w' => e = .returned (.int .i64 0) ∧ Below w.heap.size w w' := by
 obtain ⟨W1, hW1⟩ : ∃ W1, W1 = w.alloc (.cells #[vb, vs] 49) := ⟨_, rfl⟩; have HWE := hid hW1; have hB1 : Below w.heap.size w W1 := by rw [hW1]; exact nb0 _ _
 have HB1 := hid hB1; have HC := hid (jmY vb vs W1 Q (SttM.imp hS (fun _ h => h) (Keeps.of_below hB1))); clear hS hW1 hB1; go_enter Tryz.func30, Tryz.ntmps30; go_wp2_with fail; rw [← HWE.out]; refine HC.out.mono ?_; rintro e w2 ⟨rfl, hb⟩; have HB2 := hid (HB1.out.trans (hb.mono HB1.out.size)); clear hb; go_wp2; go_ret; exact ⟨rfl, HB2.out⟩
theorem jfu {w : World} {p : Nat} {u v : Value} {t : TypeId} (h : w.heap[p]? = some (.cells #[u, v] t)) : w.cell? ⟨p, 0, none⟩ = some u ∧ w.cell? ⟨p, 1, none⟩ = some v ∧ w.frozen? ⟨p, 0, none⟩ = false ∧ w.frozen? ⟨p, 1, none⟩ = false := by
 refine ⟨?_, ?_, ?_, ?_⟩ <;> simp [World.cell?, World.frozen?, h]
theorem jeS (n : Nat) (l : List Cmd) (a : Option Addr) (k : Nat) (fl fd tl td tx : List UInt8) (vb vs : Value) (w : World) (hw : Tabs w) (hm : maxLenCell w) (h : OddL fl fd tl td tx) (hk : l.length ≤ k) (hn : l = [] → a = none ∧ k = 0) (hs : ∀ x ∈ l, zP (n + 1) x) (hC : CmdsM anyB (n + 1) w (.slice a l.length k) l) (hr : vu (n + 1) l = 0) (Q : Nat → Prop) (hS : SttM Q w vb vs ⟨[⟨ibN, 1, []⟩], []⟩) :
 Calls Tryz.prog 145 #[.agg #[vb, vs], .agg #[.string (S fl), .string (S fd), .string (S tl), .string (S td), .string (S tx)], .slice a l.length k] w fun e w' => ∃ er : Int, e = .returned (.tuple #[.slice none 0 0, .agg #[.slice none 0 0, .slice none 0 0], .int .i64 er]) ∧ (er = 3 ∨ er = 4) ∧ Below w.heap.size w w' := by
 obtain ⟨ab, cb, rfl⟩ := RowM.slice hS.1; obtain ⟨aq, cq, rfl⟩ := RowM.slice hS.2.1; obtain ⟨W1, hW1⟩ : ∃ W1, W1 = ((w.alloc (.cells #[.slice ab 1 cb, .slice aq 0 cq] 49)).alloc (.cells #[.string (S fl), .string (S fd), .string (S tl), .string (S td), .string (S tx)] 183)).alloc (.cells #[.slice none 0 0, .slice none 0 0] 49) := ⟨_, rfl⟩; have HWE := hid hW1; have hB1 : Below w.heap.size w W1 := by rw [hW1]; exact ((nb0 _ _).alloc (by simp) _).alloc (by simp; omega) _
 have HB1 := hid hB1; have hX1 : W1.heap[w.heap.size]? = some (.cells #[.slice ab 1 cb, .slice aq 0 cq] 49) := by rw [hW1]; exact jal _ (jal _ (heap_alloc_new w _))
 have HL1 := hid (show W1.heap[w.heap.size + 1]? = some (.cells #[.string (S fl), .string (S fd), .string (S tl), .string (S td), .string (S tx)] 183) by rw [hW1]; refine jal _ ?_; have := heap_alloc_new (w.alloc (.cells #[.slice ab 1 cb, .slice aq 0 cq] 49)) (.cells #[.string (S fl), .string (S fd), .string (S tl), .string (S td), .string (S tx)] 183); simpa using this); have HZ1 := hid (show W1.heap[w.heap.size + 2]? = some (.cells #[.slice none 0 0, .slice none 0 0] 49) by rw [hW1]; have := heap_alloc_new ((w.alloc (.cells #[.slice ab 1 cb, .slice aq 0 cq] 49)).alloc (.cells #[.string (S fl), .string (S fd), .string (S tl), .string (S td), .string (S tx)] 183)) (.cells #[.slice none 0 0, .slice none 0 0] 49); simpa using this); obtain ⟨x0, x1, _, _⟩ := jfu hX1; have HCK : Hid (Calls Tryz.prog 30 #[.agg #[.slice ab 1 cb, .slice aq 0 cq]] W1 fun e w' => e = .returned (.int .i64 0) ∧ Below W1.heap.size W1 w') := jkk _ _ W1 Q (SttM.imp hS (fun _ h => h) (Keeps.of_below hB1)); have HAC := hid (fun u (hu : Below w.heap.size w u) => jdc n l a k fl fd tl td tx u (hw.next hu) (maxLenCell_below hm hu) h hk hn hs (CmdsM.next hC hu) hr); clear hw hm hk hn hs hC hr hW1 hB1 hS h hX1; go_enter Tryz.func145, Tryz.ntmps145; go_upto_region 1 with fail
 try simp only [List.length_cons, List.length_nil, Nat.zero_add]
 rw [← HWE.out]; go_wp2_with fail; refine HCK.out.mono ?_; rintro e w2 ⟨rfl, hb2⟩; simp only; have HB2 := hid (show Below w.heap.size w w2 from HB1.out.trans (hb2.mono HB1.out.size)); have HL2 := hid (zg HL1.out hb2); have HZ2 := hid (zg HZ1.out hb2); have l0 := jx (i := 0) HL2.out rfl; have l1 := jx (i := 1) HL2.out rfl; have l2 := jx (i := 2) HL2.out rfl; have l3 := jx (i := 3) HL2.out rfl; have l4 := jx (i := 4) HL2.out rfl; have HA2 := hid (HAC.out w2 HB2.out); clear hb2 HCK HAC HWE x0 x1 HL1 HZ1; go_wp2_with fail; refine HA2.out.mono ?_; rintro e w7 ⟨er, rfl, her, hb7⟩; simp only; have HB7 := hid (show Below w.heap.size w w7 from HB2.out.trans (hb7.mono HB2.out.size)); have heb : (er == 0) = false := by rcases her with rfl | rfl <;> rfl
 have hZ8 := zg HZ2.out hb7; obtain ⟨u0, u1, h0, h1⟩ := jfu hZ8; have HE := hid (show Below w.heap.size w ((w7.setCell ⟨w.heap.size + 2, 0, none⟩ (.slice none 0 0)).setCell ⟨w.heap.size + 2, 1, none⟩ (.slice none 0 0)) from (HB7.out.setCell (by simp) _).setCell (by simp) _); have HER := hid her; clear hb7 her HA2 hZ8 l0 l1 l2 l3 l4; go_wp2; refine bodyPost_ret (v := .tuple #[.slice none 0 0, .agg #[.slice none 0 0, .slice none 0 0], .int .i64 er]) (by simp [results, Tryz.results145, go_sem, *]) rfl ?_; exact ⟨er, rfl, HER.out, HE.out⟩
end Go.Proofs.YtmgdnhjemhhleaaGreatDoor
