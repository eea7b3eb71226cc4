/-
  A postroom at work: its plain meaning, over what delivering a letter does.
-/
import Derived.Test.YtgooljlpffnaeaaGreatDoorFLmPur
import Derived.Test.YtgooljlpffnaeaaGreatDoorFBoxPur
import Derived.Test.YtgooljlpffnaeaaGreatDoorRows
import Derived.Deep.DeepCutAuto
import Derived.Lib.SliceRun
import Derived.Laws.StructEq
import Derived.Test.YtgooljlpffnaeaaGreatDoorFQScrCard6
set_option maxHeartbeats 2000000
set_option maxRecDepth 100000
namespace Go.Proofs.YtgooljlpffnaeaaGreatDoor
open Go.RowKit
structure Con where
 ses : Ses
 held : List UInt8
 due : List Int
 told : List Int
structure Rom where
 up : Bool
 tape : List UInt8
 tsyn : Int
 syn : Int
 waits : Int
 safe : List Stt
 states : List Stt
 c0 : Con
 c1 : Con
 c2 : Con
 orders : List (List Int)
 due : List Int
def Rom.con (R : Rom) : Nat → Con
 | 0 => R.c0
 | 1 => R.c1
 | _ => R.c2
def Rom.put (R : Rom) (i : Nat) (c : Con) : Rom :=
 match i with
 | 0 => { R with c0 := c }
 | 1 => { R with c1 := c }
 | _ => { R with c2 := c }
def jbC (c : Con) (k : Int) : Con := ⟨atS k, [], [], c.told⟩
def jhd (c : Con) (l : List Int) : Con := ⟨c.ses, c.held, c.due, c.told ++ l⟩
def sesC (c : Con) (s : Ses) : Con := ⟨s, c.held, c.due, c.told⟩
def jeV (c : Con) (h : List UInt8) : Con := ⟨c.ses, h, c.due, c.told⟩
def dueC (c : Con) (l : List Int) : Con := ⟨c.ses, c.held, l, c.told⟩
def jdj (c : Con) : Con := dueC (jhd c c.due) []
section
variable (D : Rom → Ltr → Rom × Int × Bool) (K : List (List UInt8))
def endC (c : Con) : Con := if 3000 < c.held.length then jbC c 5 else c
def runW (rd : Rom → List UInt8 → List UInt8 → Rom) (i : Nat) : Nat → Rom → Rom
 | 0, R => R.put i (endC (R.con i))
 | n + 1, R =>
   if (R.con i).due.isEmpty && (Lib.cut (R.con i).held [13, 10]).2.2 then runW rd i n (rd R (Lib.cut (R.con i).held [13, 10]).1 (Lib.cut (R.con i).held [13, 10]).2.1)
   else R.put i (endC (R.con i))
end
open Go.RowKit Go.Proofs
def FnP (w : World) (e : Ending) (w' : World) : Prop := ∃ b, e = .returned (.tuple #[.agg #[.slice (some ⟨b, 0, none⟩) 1 1, .slice none 0 0], .int .i64 0]) ∧ w'.heap[b]? = some (.cells #[.string ⟨#[73, 78, 66, 79, 88]⟩, .int .i64 1, .slice none 0 0] 40) ∧ w.heap.size ≤ b ∧ Below w.heap.size w w'
theorem jl8 (u : Nat) (hu : u < 3) (w : World) : Calls Tryz.prog 38 #[.int .i64 u] w fun e w' => e = .returned (.bool true) ∧ w' = w := by
 have h0 : (0 : Int) ≤ (u : Int) := by omega
 have h1 : (u : Int) < 3 := by omega
 have h2 : (u : Int) ≤ 2 := by omega
 go_enter Tryz.func38, Tryz.ntmps38; go_wp2; go_ret; exact ⟨rfl, rfl⟩
theorem jjY (u : Nat) (hu : u < 3) (w : World) : Calls Tryz.prog 22 #[.slice none 0 0, .int .i64 u] w (FnP w) := by
 have HU := hid (fun v => jl8 u hu v); go_enter Tryz.func22, Tryz.ntmps22; go_wp2
 go_loopw [16] (fun i wr => i = .int .i64 0 ∧ wr = w.alloc (.cells #[.slice none 0 0, .slice none 0 0] 44)) (fun _ _ => 0)
 case atStart => exact ⟨rfl, rfl⟩
 case round =>
  obtain ⟨rfl, rfl⟩ := hrel; go_wp2_with fail; refine (HU.out _).mono ?_; rintro e v ⟨rfl, hv⟩; have hv' := hv.symm; subst hv'; clear hv; go_wp2
  go_loopw [36] (fun i wr => i = .int .i64 0 ∧ wr = ((w.alloc (.cells #[.slice none 0 0, .slice none 0 0] 44)).alloc (.cells #[.string ⟨#[73, 78, 66, 79, 88]⟩, .int .i64 1, .slice none 0 0] 40)).alloc (.cells #[.slice (some ⟨w.heap.size + 1, 0, none⟩) 1 1, .slice none 0 0] 44)) (fun _ _ => 0)
  case atStart => exact ⟨rfl, rfl⟩
  case round =>
   obtain ⟨rfl, rfl⟩ := hrel; go_wp2; refine bodyPost_ret (v := .tuple #[.agg #[.slice (some ⟨w.heap.size + 1, 0, none⟩) 1 1, .slice none 0 0], .int .i64 0]) (by simp [results, Tryz.results22, go_sem]) rfl ?_; refine ⟨w.heap.size + 1, rfl, ?_, by omega, (((nb0 _ _).alloc (by simp) _).alloc (by simp; omega) _)⟩; have h1 := heap_alloc_new (w.alloc (.cells #[.slice (some ⟨w.heap.size + 1, 0, none⟩) 1 1, .slice none 0 0] 44)) (.cells #[.string ⟨#[73, 78, 66, 79, 88]⟩, .int .i64 1, .slice none 0 0] 40); have h2 : (w.alloc (.cells #[.slice (some ⟨w.heap.size + 1, 0, none⟩) 1 1, .slice none 0 0] 44)).heap.size = w.heap.size + 1 := by simp
   rw [h2] at h1; exact ((nb0 _ _).block (w.heap.size + 1) (by simp)).trans h1
def j9 (m : Mail) : List Value := [.int .i64 m.uid, .int .i64 m.flags, .string (S m.text)]
def entC (x : Ent) : List Value := [.int .i64 x.kind, .string (S x.box), .int .i64 x.uid, .int .i64 x.flags, .string (S x.goal), .string (S x.text)]
def boxC (b : Bx) (v : Value) : List Value := [.string (S b.name), .int .i64 b.next, v]
def jnb (m : Mail) (cs : List Value) : Prop := cs = j9 m
def EntM (x : Ent) (cs : List Value) : Prop := cs = entC x
def MailsM (Q : Nat → Prop) (w : World) (v : Value) (l : List Mail) : Prop := RowM Q 3 jnb w v l
def EntsM (Q : Nat → Prop) (w : World) (v : Value) (l : List Ent) : Prop := RowM Q 6 EntM w v l
def BoxM (Q : Nat → Prop) (w : World) (b : Bx) (cs : List Value) : Prop := ∃ v, cs = boxC b v ∧ MailsM Q w v b.mails
def BoxsM (Q : Nat → Prop) (w : World) (v : Value) (l : List Bx) : Prop := RowM Q 3 (BoxM Q w) w v l
def SttM (Q : Nat → Prop) (w : World) (vb vs : Value) (s : Stt) : Prop := BoxsM Q w vb s.boxes ∧ EntsM Q w vs s.spool ∧ ∀ a n c, vb = .slice a n c → n ≤ c
theorem MailsM.imp {Q Q' : Nat → Prop} {w w' : World} {v : Value} {l : List Mail} (h : MailsM Q w v l) (hq : ∀ b, Q b → Q' b) (hk : Keeps Q w w') : MailsM Q' w' v l := RowM.imp h hq hk fun _ _ h => h
theorem EntsM.imp {Q Q' : Nat → Prop} {w w' : World} {v : Value} {l : List Ent} (h : EntsM Q w v l) (hq : ∀ b, Q b → Q' b) (hk : Keeps Q w w') : EntsM Q' w' v l := RowM.imp h hq hk fun _ _ h => h
theorem BoxM.imp {Q Q' : Nat → Prop} {w w' : World} {b : Bx} {cs : List Value} (h : BoxM Q w b cs) (hq : ∀ b, Q b → Q' b) (hk : Keeps Q w w') : BoxM Q' w' b cs := by
 obtain ⟨v, e, h⟩ := h; exact ⟨v, e, h.imp hq hk⟩
theorem BoxsM.imp {Q Q' : Nat → Prop} {w w' : World} {v : Value} {l : List Bx} (h : BoxsM Q w v l) (hq : ∀ b, Q b → Q' b) (hk : Keeps Q w w') : BoxsM Q' w' v l := RowM.imp h hq hk fun _ _ h => h.imp hq hk
theorem SttM.imp {Q Q' : Nat → Prop} {w w' : World} {vb vs : Value} {s : Stt} (h : SttM Q w vb vs s) (hq : ∀ b, Q b → Q' b) (hk : Keeps Q w w') : SttM Q' w' vb vs s := ⟨h.1.imp hq hk, h.2.1.imp hq hk, h.2.2⟩
theorem SttM.next {Q : Nat → Prop} {w w' : World} {vb vs : Value} {s : Stt} (h : SttM Q w vb vs s) (hb : Below w.heap.size w w') : SttM Q w' vb vs s := h.imp (fun _ h => h) (Keeps.of_below hb)
theorem BoxsM.next {Q : Nat → Prop} {w w' : World} {v : Value} {l : List Bx} (h : BoxsM Q w v l) (hb : Below w.heap.size w w') : BoxsM Q w' v l := h.imp (fun _ h => h) (Keeps.of_below hb)
theorem EntsM.next {Q : Nat → Prop} {w w' : World} {v : Value} {l : List Ent} (h : EntsM Q w v l) (hb : Below w.heap.size w w') : EntsM Q w' v l := h.imp (fun _ h => h) (Keeps.of_below hb)
theorem MailsM.next {Q : Nat → Prop} {w w' : World} {v : Value} {l : List Mail} (h : MailsM Q w v l) (hb : Below w.heap.size w w') : MailsM Q w' v l := h.imp (fun _ h => h) (Keeps.of_below hb)
theorem MailsM.at {Q : Nat → Prop} {w : World} {a : Option Addr} {n c : Nat} {l : List Mail} (h : MailsM Q w (.slice a n c) l) {i : Nat} {x : Mail} (hx : l[i]? = some x) : ∃ b o, a = some ⟨b, o, none⟩ ∧ Q b ∧ w.cell? ⟨b, o + i * 3, none⟩ = some (.int .i64 x.uid) ∧ w.cell? ⟨b, o + i * 3 + 1, none⟩ = some (.int .i64 x.flags) ∧ w.cell? ⟨b, o + i * 3 + 2, none⟩ = some (.string (S x.text)) := by
 obtain ⟨a', c', hv, _, hr⟩ := h; simp only [Value.slice.injEq] at hv; obtain ⟨rfl, _, rfl⟩ := hv; obtain ⟨b, o, cs, rfl, _, hq, _, hc, hP⟩ := hr i x hx; have hcs : cs = _ := hP; subst hcs; exact ⟨b, o, rfl, hq, by simpa using hc 0 _ rfl, hc 1 _ rfl, hc 2 _ rfl⟩
theorem BoxsM.at {Q : Nat → Prop} {w : World} {a : Option Addr} {n c : Nat} {l : List Bx} (h : BoxsM Q w (.slice a n c) l) {i : Nat} {x : Bx} (hx : l[i]? = some x) : ∃ b o v, a = some ⟨b, o, none⟩ ∧ Q b ∧ w.cell? ⟨b, o + i * 3, none⟩ = some (.string (S x.name)) ∧ w.cell? ⟨b, o + i * 3 + 1, none⟩ = some (.int .i64 x.next) ∧ w.cell? ⟨b, o + i * 3 + 2, none⟩ = some v ∧ MailsM Q w v x.mails := by
 obtain ⟨a', c', hv, _, hr⟩ := h; simp only [Value.slice.injEq] at hv; obtain ⟨rfl, _, rfl⟩ := hv; obtain ⟨b, o, cs, rfl, _, hq, _, hc, v, hcs, hm⟩ := hr i x hx; subst hcs; exact ⟨b, o, v, rfl, hq, by simpa using hc 0 _ rfl, hc 1 _ rfl, hc 2 _ rfl, hm⟩
theorem EntsM.at {Q : Nat → Prop} {w : World} {a : Option Addr} {n c : Nat} {l : List Ent} (h : EntsM Q w (.slice a n c) l) {i : Nat} {x : Ent} (hx : l[i]? = some x) : ∃ b o, a = some ⟨b, o, none⟩ ∧ Q b ∧ w.cell? ⟨b, o + i * 6, none⟩ = some (.int .i64 x.kind) ∧ w.cell? ⟨b, o + i * 6 + 1, none⟩ = some (.string (S x.box)) ∧ w.cell? ⟨b, o + i * 6 + 2, none⟩ = some (.int .i64 x.uid) ∧ w.cell? ⟨b, o + i * 6 + 3, none⟩ = some (.int .i64 x.flags) ∧ w.cell? ⟨b, o + i * 6 + 4, none⟩ = some (.string (S x.goal)) ∧ w.cell? ⟨b, o + i * 6 + 5, none⟩ = some (.string (S x.text)) := by
 obtain ⟨a', c', hv, _, hr⟩ := h; simp only [Value.slice.injEq] at hv; obtain ⟨rfl, _, rfl⟩ := hv; obtain ⟨b, o, cs, rfl, _, hq, _, hc, hP⟩ := hr i x hx; have hcs : cs = _ := hP; subst hcs; exact ⟨b, o, rfl, hq, by simpa using hc 0 _ rfl, hc 1 _ rfl, hc 2 _ rfl, hc 3 _ rfl, hc 4 _ rfl, hc 5 _ rfl⟩
theorem qT {k : Nat} : ∀ {css : List (List Value)} {i j : Nat} {cs : List Value}, (∀ c ∈ css, c.length = k) → css[i]? = some cs → j < k → css.flatten[i * k + j]? = cs[j]? := by
 intro css
 induction css with
 | nil => intro i j cs _ h _; simp at h
 | cons c css ih =>
   intro i j cs hk h hj; have hc : c.length = k := hk c (by simp); cases i with
   | zero =>
     simp at h
     subst h; simp only [Nat.zero_mul, Nat.zero_add, List.flatten_cons]; rw [List.getElem?_append_left (by omega)]
   | succ i =>
     have := ih (j := j) (fun c hc => hk c (by simp [hc])) (by simpa using h) hj; simp only [List.flatten_cons]; rw [List.getElem?_append_right (by rw [hc, Nat.add_mul]; omega), ← this]
     congr 1
     rw [hc, Nat.add_mul]; omega
theorem qU {k : Nat} : ∀ {css : List (List Value)} {i j : Nat} {cs : List Value} (u : Value), (∀ c ∈ css, c.length = k) → css[i]? = some cs → j < k → css.flatten.set (i * k + j) u = (css.set i (cs.set j u)).flatten := by
 intro css
 induction css with
 | nil => intro i j cs u _ h _; simp at h
 | cons c css ih =>
   intro i j cs u hk h hj; have hc : c.length = k := hk c (by simp); cases i with
   | zero =>
     simp at h
     subst h; simp only [Nat.zero_mul, Nat.zero_add, List.flatten_cons, List.set_cons_zero]; rw [List.set_append_left _ _ (by omega)]
   | succ i =>
     have := ih (j := j) u (fun c hc => hk c (by simp [hc])) (by simpa using h) hj; simp only [List.flatten_cons, List.set_cons_succ]; rw [List.set_append_right _ _ (by rw [hc, Nat.add_mul]; omega), ← this]
     congr 2
     rw [hc, Nat.add_mul]; omega
theorem jA {A : Type} {k : Nat} (f : A → List Value) (hf : ∀ x, (f x).length = k) (l : List A) : ∀ cs ∈ l.map f, cs.length = k := by
 intro cs h; obtain ⟨x, _, rfl⟩ := List.mem_map.1 h; exact hf x
def Apart (u v : Value) : Prop := ∀ k, u.ownBlock = some k → v.ownBlock ≠ some k
theorem Apart.symm {u v : Value} (h : Apart u v) : Apart v u := fun k hv hu => h k hu hv
def bxCs : List Bx → List Value → List (List Value)
 | b :: r, v :: vs => boxC b v :: bxCs r vs
 | _, _ => []
theorem jcV : ∀ (l : List Bx) (vs : List Value), vs.length = l.length → (bxCs l vs).length = l.length := by
 intro l
 induction l with
 | nil => intro vs _; cases vs <;> rfl
 | cons b l ih =>
   intro vs h; cases vs with
   | nil => simp at h
   | cons v vs => simp only [bxCs, List.length_cons]; rw [ih vs (by simpa using h)]
theorem zO : ∀ (l : List Bx) (vs : List Value), ∀ cs ∈ bxCs l vs, cs.length = 3 := by
 intro l
 induction l with
 | nil => intro vs cs h; cases vs <;> cases h
 | cons b l ih =>
   intro vs cs h; cases vs with
   | nil => cases h
   | cons v vs =>
     simp only [bxCs, List.mem_cons] at h
     rcases h with rfl | h
     · rfl
     · exact ih vs cs h
theorem vz : ∀ (l : List Bx) (vs : List Value) (i : Nat) (b : Bx) (v : Value), l[i]? = some b → vs[i]? = some v → (bxCs l vs)[i]? = some (boxC b v) := by
 intro l
 induction l with
 | nil => intro vs i b v h; simp at h
 | cons c l ih =>
   intro vs i b v h h'; cases vs with
   | nil => simp at h'
   | cons u vs =>
     cases i with
     | zero => simp at h h'; subst h; subst h'; rfl
     | succ i => simp at h h'; simpa [bxCs] using ih vs i b v h h'
theorem jjz : ∀ (l : List Bx) (vs : List Value) (b : Bx) (v : Value), vs.length = l.length → bxCs (l ++ [b]) (vs ++ [v]) = bxCs l vs ++ [boxC b v] := by
 intro l
 induction l with
 | nil => intro vs b v h; cases vs with
   | nil => rfl
   | cons => simp at h
 | cons c l ih =>
   intro vs b v h; cases vs with
   | nil => simp at h
   | cons u vs => simp only [List.cons_append, bxCs]; rw [ih vs b v (by simpa using h)]
theorem jbq : ∀ (l : List Bx) (vs : List Value) (i : Nat) (b : Bx) (v : Value), vs.length = l.length → bxCs (l.set i b) (vs.set i v) = (bxCs l vs).set i (boxC b v) := by
 intro l
 induction l with
 | nil => intro vs i b v h; cases vs with
   | nil => rfl
   | cons => simp at h
 | cons c l ih =>
   intro vs i b v h; cases vs with
   | nil => simp at h
   | cons u vs =>
     cases i with
     | zero => rfl
     | succ i => simp only [List.set_cons_succ, bxCs]; rw [ih vs i b v (by simpa using h)]
structure OwnS (B : Nat) (w : World) (vb vs : Value) (vm : List Value) (s : Stt) : Prop where
 boxes : w.ownsRow B 40 3 vb s.boxes.length (bxCs s.boxes vm).flatten
 spool : w.ownsRow B 25 6 vs s.spool.length (s.spool.map entC).flatten
 len : vm.length = s.boxes.length
 mails : ∀ (i : Nat) b v, s.boxes[i]? = some b → vm[i]? = some v → w.ownsRow B 173 3 v b.mails.length (b.mails.map j9).flatten
 bs : Apart vb vs
 mb : ∀ v ∈ vm, Apart v vb
 ms : ∀ v ∈ vm, Apart v vs
 mm : ∀ (i j : Nat) u v, i ≠ j → vm[i]? = some u → vm[j]? = some v → Apart u v
def inS (vb vs : Value) (vm : List Value) (k : Nat) : Prop := vb.ownBlock = some k ∨ vs.ownBlock = some k ∨ ∃ v ∈ vm, v.ownBlock = some k
theorem je {w w' : World} {B n k : Nat} {e : TypeId} {v : Value} {xs : List Value} (h : w.ownsRow B e k v n xs) (hk : ∀ g, v.ownBlock = some g → w'.heap[g]? = w.heap[g]?) : w'.ownsRow B e k v n xs := by
 refine ⟨h.1, ?_⟩
 rcases h.2 with hn | ⟨g, cap, cur, rfl, hb, hgg, rest⟩
 · exact .inl hn
 · exact .inr ⟨g, cap, cur, rfl, hb, (hk g rfl).trans hgg, rest⟩
theorem OwnS.keep {B : Nat} {w w' : World} {vb vs : Value} {vm : List Value} {s : Stt} (h : OwnS B w vb vs vm s) (hk : ∀ g, inS vb vs vm g → w'.heap[g]? = w.heap[g]?) : OwnS B w' vb vs vm s :=
 ⟨je h.boxes fun g hg => hk g (.inl hg), je h.spool fun g hg => hk g (.inr (.inl hg)), h.len, fun i b v hb hv => je (h.mails i b v hb hv) fun g hg => hk g (.inr (.inr ⟨v, List.mem_of_getElem? hv, hg⟩)), h.bs, h.mb, h.ms, h.mm⟩
theorem OwnS.lt {B : Nat} {w : World} {vb vs : Value} {vm : List Value} {s : Stt} (h : OwnS B w vb vs vm s) {g : Nat} (hg : inS vb vs vm g) : B ≤ g ∧ g < w.heap.size := by
 rcases hg with hg | hg | ⟨v, hv, hg⟩
 · exact World.ownsRow.lt h.boxes g hg
 · exact World.ownsRow.lt h.spool g hg
 · obtain ⟨i, hi, rfl⟩ := List.getElem_of_mem hv; have hi' : i < s.boxes.length := by rw [← h.len]; exact hi
   exact World.ownsRow.lt (h.mails i _ _ (List.getElem?_eq_getElem hi') (List.getElem?_eq_getElem hi)) g hg
theorem OwnS.next {B : Nat} {w w' : World} {vb vs : Value} {vm : List Value} {s : Stt} (h : OwnS B w vb vs vm s) (hb : Below w.heap.size w w') : OwnS B w' vb vs vm s := h.keep fun g hg => hb.block g (h.lt hg).2
theorem qB {A : Type} {B n k : Nat} {e : TypeId} {w : World} {v : Value} {l : List A} {css : List (List Value)} {P : A → List Value → Prop} {Q : Nat → Prop} (h : w.ownsRow B e k v n css.flatten) (hn : n = l.length) (hm : n ≤ maxLen) (hl : css.length = l.length) (he : ∀ cs ∈ css, cs.length = k)
 (hP : ∀ (i : Nat) x cs, l[i]? = some x → css[i]? = some cs → P x cs) (hQ : ∀ g, v.ownBlock = some g → Q g) : RowM Q k P w v l := by
 subst hn
 rcases h.2 with ⟨rfl, h0⟩ | ⟨g, cap, cur, rfl, hb, hg, h1, h2, h3, ht⟩
 · have : l = [] := List.length_eq_zero_iff.1 h0; subst this; exact jj _ _ _ _ _ _
 · refine ⟨some ⟨g, 0, none⟩, cap, rfl, hm, fun i x hx => ?_⟩; have hi : i < l.length := (List.getElem?_eq_some_iff.1 hx).1; have hc : css[i]? = some css[i] := List.getElem?_eq_getElem (by omega); refine ⟨g, 0, css[i], rfl, (Array.getElem?_eq_some_iff.1 hg).1, hQ g rfl, he _ (List.mem_of_getElem? hc), ?_, hP i x _ hx hc⟩; intro j u hj; have hjk : j < k := by rw [← he _ (List.mem_of_getElem? hc)]; exact (List.getElem?_eq_some_iff.1 hj).1
   have := World.ownsRow.cells h (g := g) rfl (i * k + j) u (by rw [qT he hc hjk]; exact hj); rw [Addr.add_lit] at this
   simpa [Nat.add_assoc] using this
theorem OwnS.stt {B : Nat} {w : World} {vb vs : Value} {vm : List Value} {s : Stt} {Q : Nat → Prop} (h : OwnS B w vb vs vm s) (hm : May s) (hQ : ∀ g, inS vb vs vm g → Q g) : SttM Q w vb vs s := by
 have h1 := hm.boxes; have h2 := hm.spool; refine ⟨qB h.boxes rfl (by unfold maxLen; omega) (jcV _ _ h.len) (zO _ _) (fun i b cs hb hc => ?_) (fun g hg => hQ g (.inl hg)), qB h.spool rfl (by unfold maxLen; omega) (by simp) (jA entC (fun _ => rfl) _) (fun i x cs hx hc => ?_) (fun g hg => hQ g (.inr (.inl hg))), ?_⟩
 · have hi : i < vm.length := by rw [h.len]; exact (List.getElem?_eq_some_iff.1 hb).1
   have hv : vm[i]? = some vm[i] := List.getElem?_eq_getElem hi; rw [vz _ _ _ _ _ hb hv] at hc; cases hc; have h3 := (hm.each b (List.mem_of_getElem? hb)).many; exact ⟨_, rfl, qB (h.mails i b _ hb hv) rfl (by unfold maxLen; omega) (by simp) (jA j9 (fun _ => rfl) _) (fun j x cs hx hc => by
    rw [List.getElem?_map, hx] at hc; cases hc; rfl) (fun g hg => hQ g (.inr (.inr ⟨_, List.mem_of_getElem? hv, hg⟩)))⟩
 · rw [List.getElem?_map, hx] at hc; cases hc; rfl
 · intro a n c e
   rcases h.boxes.2 with ⟨e', _⟩ | ⟨g, cap, cur, e', _, _, h1, _⟩
   · rw [e'] at e; cases e; exact Nat.le_refl _
   · rw [e'] at e; cases e; exact h1
theorem OwnS.small {B : Nat} {w : World} {vb vs : Value} {vm : List Value} {s : Stt} (h : OwnS B w vb vs vm s) : ∃ a c, vb = .slice a s.boxes.length c := by
 rcases h.boxes.2 with ⟨rfl, hn⟩ | ⟨g, cap, cur, rfl, _⟩
 · exact ⟨none, 0, by rw [hn]⟩
 · exact ⟨_, _, rfl⟩
theorem OwnS.box {B : Nat} {w : World} {vb vs : Value} {vm : List Value} {s : Stt} (h : OwnS B w vb vs vm s) {i : Nat} {b : Bx} (hb : s.boxes[i]? = some b) : ∃ g c v, vb = .slice (some ⟨g, 0, none⟩) s.boxes.length c ∧ vm[i]? = some v ∧ w.cell? ⟨g, i * 3, none⟩ = some (.string (S b.name)) ∧ w.cell? ⟨g, i * 3 + 1, none⟩ = some (.int .i64 b.next) ∧ w.cell? ⟨g, i * 3 + 2, none⟩ = some v ∧
 w.frozen? ⟨g, i * 3 + 1, none⟩ = false ∧ w.frozen? ⟨g, i * 3 + 2, none⟩ = false := by
 have hi0 : i < s.boxes.length := (List.getElem?_eq_some_iff.1 hb).1; have hi : i < vm.length := by rw [h.len]; exact hi0
 have hv : vm[i]? = some vm[i] := List.getElem?_eq_getElem hi
 rcases h.boxes.2 with ⟨_, hn⟩ | ⟨g, cap, cur, e, _, hg, _⟩
 · omega
 · have hat := vz _ _ _ _ _ hb hv; have hc : ∀ j u, (boxC b vm[i])[j]? = some u → w.cell? ⟨g, i * 3 + j, none⟩ = some u := fun j u hj => by
    have hj3 : j < 3 := (List.getElem?_eq_some_iff.1 hj).1; have := World.ownsRow.cells h.boxes (g := g) (by rw [e]; rfl) (i * 3 + j) u (by rw [qT (zO _ _) hat hj3]; exact hj); rw [Addr.add_lit] at this
    simpa using this
   exact ⟨g, cap, _, e, hv, hc 0 _ rfl, hc 1 _ rfl, hc 2 _ rfl, by simp [World.frozen?, hg], by simp [World.frozen?, hg]⟩
theorem jaF {w : World} {B n c g : Nat} {e : TypeId} {k : Nat} {xs : List Value} (h : w.ownsRow B e k (.slice (some ⟨g, 0, none⟩) n c) n xs) (j : Nat) (u : Value) :
 (w.setCell ⟨g, j, none⟩ u).ownsRow B e k (.slice (some ⟨g, 0, none⟩) n c) n (xs.set j u) := by
 refine ⟨by rw [List.length_set]; exact h.1, .inr ?_⟩
 rcases h.2 with ⟨h', _⟩ | ⟨g', cap', cur, h', hb, hg, h1, h2, h3, htake⟩
 · simp at h'
 · simp only [Value.slice.injEq, Option.some.injEq, Addr.mk.injEq, and_true, true_and] at h'; obtain ⟨rfl, rfl⟩ := h'; refine ⟨g, c, cur.setIfInBounds j u, rfl, hb, heap_setCell_same w g j cur e u hg, h1, h2, by simpa using h3, ?_⟩; rw [Array.toList_setIfInBounds, List.take_set, htake]
theorem jp {w : World} {g j k : Nat} {u : Value} (h : k ≠ g) : (w.setCell ⟨g, j, none⟩ u).heap[k]? = w.heap[k]? := Below.heap_setCell _ _ _ _ h
theorem OwnS.setNext {B : Nat} {w : World} {g c : Nat} {vs : Value} {vm : List Value} {s : Stt} {i : Nat} {b : Bx} {n : Int} (h : OwnS B w (.slice (some ⟨g, 0, none⟩) s.boxes.length c) vs vm s) (hb : s.boxes[i]? = some b) :
 OwnS B (w.setCell ⟨g, i * 3 + 1, none⟩ (.int .i64 n)) (.slice (some ⟨g, 0, none⟩) s.boxes.length c) vs vm ⟨s.boxes.set i ⟨b.name, n, b.mails⟩, s.spool⟩ := by
 have hi0 : i < s.boxes.length := (List.getElem?_eq_some_iff.1 hb).1; have hi : i < vm.length := by rw [h.len]; exact hi0
 have hv : vm[i]? = some vm[i] := List.getElem?_eq_getElem hi; refine ⟨?_, je h.spool fun k hk => jp fun e => h.bs g rfl (by rw [← e]; exact hk), by simpa using h.len, ?_, h.bs, h.mb, h.ms, h.mm⟩
 · have := jaF h.boxes (i * 3 + 1) (.int .i64 n); rw [qU _ (zO _ _) (vz _ _ _ _ _ hb hv) (by omega)] at this; have e : (bxCs s.boxes vm).set i ((boxC b vm[i]).set 1 (.int .i64 n)) = bxCs (s.boxes.set i ⟨b.name, n, b.mails⟩) vm := by
    have := jbq s.boxes vm i ⟨b.name, n, b.mails⟩ vm[i] h.len; rw [List.set_getElem_self] at this; rw [this]; rfl
   rw [e] at this
   simpa using this
 · intro j c' v hc hv'; have hk : ∀ k, v.ownBlock = some k → (w.setCell ⟨g, i * 3 + 1, none⟩ (.int .i64 n)).heap[k]? = w.heap[k]? := fun k hk => jp fun e => h.mb v (List.mem_of_getElem? hv') k hk (by rw [e]; rfl)
   by_cases hij : i = j
   · subst hij; rw [List.getElem?_set_self hi0] at hc; cases hc; exact je (h.mails i b v hb hv') hk
   · rw [List.getElem?_set_ne hij] at hc; exact je (h.mails j c' v hc hv') hk
theorem OwnS.setMails {B : Nat} {w : World} {g c : Nat} {vs v' : Value} {vm : List Value} {s : Stt} {i : Nat} {b : Bx} {ms : List Mail} (h : OwnS B w (.slice (some ⟨g, 0, none⟩) s.boxes.length c) vs vm s) (hb : s.boxes[i]? = some b) {w' : World}
 (hw : ∀ k, k < w.heap.size → some k ≠ (vm.getD i (.slice none 0 0)).ownBlock → w'.heap[k]? = w.heap[k]?) (hm : w'.ownsRow B 173 3 v' ms.length (ms.map j9).flatten) (hat : v'.ownBlock = (vm.getD i (.slice none 0 0)).ownBlock ∨ ∀ k, v'.ownBlock = some k → w.heap.size ≤ k) :
 OwnS B (w'.setCell ⟨g, i * 3 + 2, none⟩ v') (.slice (some ⟨g, 0, none⟩) s.boxes.length c) vs (vm.set i v') ⟨s.boxes.set i ⟨b.name, b.next, ms⟩, s.spool⟩ := by
 have hi0 : i < s.boxes.length := (List.getElem?_eq_some_iff.1 hb).1; have hi : i < vm.length := by rw [h.len]; exact hi0
 have hv : vm[i]? = some vm[i] := List.getElem?_eq_getElem hi; have hd : vm.getD i (.slice none 0 0) = vm[i] := by simp [hi]
 rw [hd] at hw hat; have hmem : vm[i] ∈ vm := List.mem_of_getElem? hv; have ap : ∀ u, Apart vm[i] u → (∀ k, u.ownBlock = some k → k < w.heap.size) → Apart v' u := fun u hu hl k hk hk' => by
  rcases hat with e | e
  · exact hu k (by rw [← e]; exact hk) hk'
  · have := e k hk; have := hl k hk'; omega
 have hgs : ∀ k, (Value.slice (some ⟨g, 0, none⟩) s.boxes.length c).ownBlock = some k → k < w.heap.size := fun k hk => (World.ownsRow.lt h.boxes k hk).2
 have hss : ∀ k, vs.ownBlock = some k → k < w.heap.size := fun k hk => (World.ownsRow.lt h.spool k hk).2
 have hms : ∀ (j : Nat) u, vm[j]? = some u → ∀ k, u.ownBlock = some k → k < w.heap.size := fun j u hu k hk => (h.lt (.inr (.inr ⟨u, List.mem_of_getElem? hu, hk⟩))).2
 have hg : w'.heap[g]? = w.heap[g]? := hw g (hgs g rfl) fun e => h.mb _ hmem g e.symm rfl
 have hbx : w'.ownsRow B 40 3 (.slice (some ⟨g, 0, none⟩) s.boxes.length c) s.boxes.length (bxCs s.boxes vm).flatten := je h.boxes fun k hk => by cases hk; exact hg
 have hne : ∀ k, v'.ownBlock = some k → k ≠ g := fun k hk e => ap _ (h.mb _ hmem) hgs k hk (by rw [e]; rfl)
 refine ⟨?_, ?_, by simpa using h.len, ?_, h.bs, ?_, ?_, ?_⟩
 · have := jaF hbx (i * 3 + 2) v'; rw [qU _ (zO _ _) (vz _ _ _ _ _ hb hv) (by omega)] at this; have e : (bxCs s.boxes vm).set i ((boxC b vm[i]).set 2 v') = bxCs (s.boxes.set i ⟨b.name, b.next, ms⟩) (vm.set i v') := by
    rw [jbq _ _ _ _ _ h.len]; rfl
   rw [e] at this
   simpa using this
 · refine je h.spool fun k hk => ?_
   rw [jp fun e => h.bs g rfl (by rw [← e]; exact hk)]; exact hw k (hss k hk) fun e => h.ms _ hmem k e.symm hk
 · intro j c' v hc hv'
   by_cases hij : i = j
   · subst hij; rw [List.getElem?_set_self hi0] at hc; rw [List.getElem?_set_self hi] at hv'; cases hc; cases hv'; exact je hm fun k hk => jp (hne k hk)
   · rw [List.getElem?_set_ne hij] at hc; rw [List.getElem?_set_ne hij] at hv'; refine je (h.mails j c' v hc hv') fun k hk => ?_
     rw [jp fun e => h.mb v (List.mem_of_getElem? hv') k hk (by rw [e]; rfl)]; exact hw k (hms j v hv' k hk) fun e => h.mm i j _ _ hij hv hv' k e.symm hk
 · intro u hu
   rcases qH hu with rfl | hu
   · exact ap _ (h.mb _ hmem) hgs
   · exact h.mb u hu
 · intro u hu
   rcases qH hu with rfl | hu
   · exact ap _ (h.ms _ hmem) hss
   · exact h.ms u hu
 · intro j k u v hjk hu hv'
   by_cases hij : i = j
   · subst hij; rw [List.getElem?_set_self hi] at hu; rw [List.getElem?_set_ne hjk] at hv'; cases hu; exact ap _ (h.mm i k _ _ hjk hv hv') (hms k v hv')
   · by_cases hik : i = k
     · subst hik; rw [List.getElem?_set_self hi] at hv'; rw [List.getElem?_set_ne hij] at hu; cases hv'; exact (ap _ (h.mm i j _ _ hij hv hu) (hms j u hu)).symm
     · rw [List.getElem?_set_ne hij] at hu; rw [List.getElem?_set_ne hik] at hv'; exact h.mm j k u v hjk hu hv'
theorem jk5 : (Tryz.prog.info? 44).map (fun i => (i.zero, i.size, i.bytes)) = some (some (.agg #[.slice none 0 0, .slice none 0 0]), 2, 48) := by kernel_rfl
theorem jhB (ad : Addr) (n c : Nat) (news : List Value) (w : World) (hl : news.length = n * 2) (hn : n ≤ 1000) (hc : ∀ j u, news[j]? = some u → w.cell? (ad.add j) = some u) (h1 : ∀ u ∈ news, u.oneCell' = true) :
 Calls Tryz.prog 40 #[.slice (some ad) n c] w fun e w' => ∃ v', e = .returned v' ∧ (w'.ownsRow w.heap.size 44 2 v' n news) ∧ Below w.heap.size w w' := by
 obtain ⟨i0, hi, hz0, hz1, hz2⟩ := info_parts jk5; have q22 : ∀ (w : World) (a : Option Addr) (n c n' c' : Nat), (binOp .eql 30 (.slice a n c) (.slice none n' c')).run Tryz.prog w = .ok (.bool a.isNone) w := fun w a n c n' c' => Lib.run_eql_slice_nil w _ _ a n c n' c' Tryz.underlying30
 have HC := hid hc; have H1 := hid h1; have HL := hid hl; clear hc h1 hl; go_enter Tryz.func40, Tryz.ntmps40
 go_wp2_with (at_builtin; refine wpList_append_own _ rfl _ _ 30 rfl w.heap.size 44 i0 _ 2 48 Tryz.underlying30 hi hz0 hz1 hz2 rfl (by decide) _ _ _ rfl (World.ownsRow_made w #[] 0 (Nat.le_refl _) (Nat.zero_le _) rfl) ad n c news rfl ?qc1 ?qc2 ?qc3 ?qc4 ?qc5 ?qc6 ?_)
 case qc1 => exact HL.out
 case qc2 => exact fun j u hj => Lib.cell?_alloc_some _ (HC.out j u hj)
 case qc3 => exact H1.out
 case qc4 => unfold maxLen; omega
 case qc5 => omega
 case qc6 => simp
 intro v' w1 hown hgrow hnil; have HO := hid hown; have HB := hid (show Below w.heap.size w w1 from ((Below.refl _ w).alloc (Nat.le_refl _) _).grown hgrow (by simp) (by intro k hk; simp [Value.ownBlock] at hk; omega)); clear hown hgrow hnil; go_wp2; go_ret; exact ⟨v', rfl, by simpa using HO.out, HB.out⟩
theorem jbF {b : Nat} {w w' : World} (h : But b w w') (o : Nat) (v : Value) : But b w (w'.setCell ⟨b, o, none⟩ v) :=
 ⟨h.os, h.tape, h.output, by simpa [World.setCell] using h.size, fun k hk hn => (Below.heap_setCell _ _ _ _ hn).trans (h.block k hk hn)⟩
theorem jfz {b : Nat} {w w' : World} (h : But b w w') : But b w w'.drew := ⟨h.os, h.tape, h.output, h.size, h.block⟩
theorem jjy {b : Nat} {w w' : World} {p : Addr} {v : Value} (h : But b w w') (hp : w.cell? p = some v) (hn : p.block ≠ b) : w'.cell? p = some v :=
 (World.cell?_of_block (w := w) (h.block p.block (World.block_lt_of_cell? w _ hp) hn)).trans hp
theorem jhq (a : Addr) (j : Nat) : (a.add j).block = a.block := by unfold Addr.add; split <;> rfl
def LgR (w : World) (b : Nat) (v0 v1 v2 v3 v4 v5 : Value) (wx : World) : Prop := wx.heap[b]? = some (.cells #[v0, v1, v2, v3, v4, v5] 62) ∧ But b w wx
theorem LgR.of {w : World} {b : Nat} {v0 v1 v2 v3 v4 v5 : Value} (h : w.heap[b]? = some (.cells #[v0, v1, v2, v3, v4, v5] 62)) (x y : Value) : LgR w b v0 v1 x y v4 v5 ((w.setCell ⟨b, 2, none⟩ x).setCell ⟨b, 3, none⟩ y).drew := by
 refine ⟨?_, jfz (jbF (jbF (But.refl _ _) 2 x) 3 y)⟩; have h1 := heap_setCell_same _ b 3 _ _ y (heap_setCell_same w b 2 _ _ x h)
 simp at h1
 exact h1
theorem LgR.of' {w : World} {b : Nat} {v0 v1 v2 v3 v4 v5 : Value} (h : w.heap[b]? = some (.cells #[v0, v1, v2, v3, v4, v5] 62)) (x y : Value) : LgR w b v0 v1 x y v4 v5 ((w.setCell ⟨b, 3, none⟩ y).setCell ⟨b, 2, none⟩ x).drew := by
 refine ⟨?_, jfz (jbF (jbF (But.refl _ _) 3 y) 2 x)⟩; have h1 := heap_setCell_same _ b 2 _ _ x (heap_setCell_same w b 3 _ _ y h)
 simp at h1
 exact h1
theorem jbT {w : World} {B B' : Nat} {e : TypeId} {k n : Nat} {v : Value} {xs : List Value} (h : w.ownsRow B e k v n xs) (hB : B' ≤ B) : w.ownsRow B' e k v n xs := by
 refine ⟨h.1, ?_⟩
 rcases h.2 with h' | ⟨g, cap, cur, h1, h2, h3⟩
 · exact .inl h'
 · exact .inr ⟨g, cap, cur, h1, Nat.le_trans hB h2, h3⟩
def StP (w : World) (b : Nat) (td ts : Value) (sy wa : Int) (ad : Addr) (n c : Nat) (news : List Value) (e : Ending) (w' : World) : Prop :=
 (∃ v, e = .returned v) ∧ ∃ v', w'.heap[b]? = some (.cells #[td, ts, .int .i64 (sy + wa), .int .i64 0, v', .slice (some ad) n c] 62) ∧ w'.ownsRow w.heap.size 44 2 v' n news ∧ But b w w'
theorem jg8 (b : Nat) (td ts v4 : Value) (sy wa : Int) (ad : Addr) (n c : Nat) (news : List Value) (w : World) (hb : w.heap[b]? = some (.cells #[td, ts, .int .i64 sy, .int .i64 wa, v4, .slice (some ad) n c] 62))
 (hsy : 0 ≤ sy ∧ sy ≤ 1000000) (hwa : 0 ≤ wa ∧ wa ≤ 1000000) (hl : news.length = n * 2) (hn : n ≤ 1000) (hc : ∀ j u, news[j]? = some u → w.cell? (ad.add j) = some u) (h1 : ∀ u ∈ news, u.oneCell' = true) (had : ad.block ≠ b) :
 Calls Tryz.prog 23 #[.pointer (some ⟨b, 0, none⟩)] w (StP w b td ts sy wa ad n c news) := by
 have HB := hid hb; have HC := hid hc; have H1 := hid h1; have HL := hid hl; have hwr : IntKind.i64.wrap (sy + wa) = sy + wa := by rw [IntKind.wrap_i64]; omega
 obtain ⟨c0, c1, c2, c3, c4, c5⟩ := bx6 hb; have zf : ∀ o, w.frozen? ⟨b, o, none⟩ = false := fun o => by simp [World.frozen?, hb]
 clear hb hc h1 hl; go_enter Tryz.func23, Tryz.ntmps23; go_upto_region 0 with fail
 have HE1 := hid (LgR.of HB.out (.int .i64 (sy + wa)) (.int .i64 0)); have HE2 := hid (LgR.of' HB.out (.int .i64 (sy + wa)) (.int .i64 0))
 go_cut [] (fun wx => LgR w b td ts (.int .i64 (sy + wa)) (.int .i64 0) v4 (.slice (some ad) n c) wx)
 case first =>
  go_region_law (fail)
  all_goals first
   | (have HE := HE1; go_wp2_with fail; go_meet; exact HE.out)
   | (have HE := HE2; go_wp2_with fail; go_meet; exact HE.out)
   | fail
 case rest =>
  obtain ⟨hx, hB⟩ := hcut; obtain ⟨W1, rfl⟩ : ∃ W, W = wc := ⟨_, rfl⟩; have hlt : b < W1.heap.size := (Array.getElem?_eq_some_iff.1 hx).1; have HX := hid hx; have HBT := hid hB; have d5 : W1.cell? ⟨b, 5, none⟩ = some (.slice (some ad) n c) := by simp [World.cell?, hx]
  clear hx hB c0 c1 c2 c3 c4 c5 zf; go_wp2_with fail; refine (jhB ad n c news W1 HL.out hn (fun j u hj => jjy HBT.out (HC.out j u hj) (by rw [jhq]; exact had)) H1.out).mono ?_; rintro e w2 ⟨v', rfl, ho, hb2⟩; obtain ⟨a', c', rfl⟩ := jbu ho; have hx2 := (hb2.block b hlt).trans HX.out; have e4 : w2.cell? ⟨b, 4, none⟩ = some v4 := by simp [World.cell?, hx2]
  have zf : ∀ o, w2.frozen? ⟨b, o, none⟩ = false := fun o => by simp [World.frozen?, hx2]
  have hz1 := HBT.out.size; have HE := hid (show StP w b td ts sy wa ad n c news (.returned (.tuple #[])) (w2.setCell ⟨b, 4, none⟩ (.slice a' n c')) from ⟨⟨_, rfl⟩, .slice a' n c', by have := heap_setCell_same w2 b 4 _ _ (.slice a' n c') hx2; simpa using this, by
   have h := je (w' := w2.setCell ⟨b, 4, none⟩ (.slice a' n c')) ho fun g hg => Below.heap_setCell _ _ _ _ (fun e => by have e' : g = b := e; have := (World.ownsRow.lt ho g hg).1; omega)
   exact jbT h hz1, jbF ((HBT.out).trans (But.of hb2)) 4 _⟩)
  clear ho hb2 hx2; go_wp2; go_end0; exact HE.out
def inbC (bs : List Nat) : List Value := bs.flatMap fun b => [.slice (some ⟨b, 0, none⟩) 1 1, .slice none 0 0]
def inbB (w : World) (B : Nat) (bs : List Nat) : Prop := ∀ b ∈ bs, B ≤ b ∧ w.heap[b]? = some (.cells #[.string ⟨#[73, 78, 66, 79, 88]⟩, .int .i64 1, .slice none 0 0] 40)
theorem zD (w : World) (cs : List Value) (t : TypeId) : ∀ j u, cs[j]? = some u → (w.alloc (.cells cs.toArray t)).cell? ((⟨w.heap.size, 0, none⟩ : Addr).add j) = some u := by
 intro j u hj; rw [Addr.add_lit]; have := heap_alloc_new w (.cells cs.toArray t); simp only [World.cell?, this, Nat.zero_add]
 simpa using hj
theorem But.lowB' {b B : Nat} {w w' : World} (h : But b w w') (hb : B ≤ b) (hB : B ≤ w.heap.size) : Below B w w' := ⟨h.os, h.tape, h.output, h.size, fun k hk => h.block k (by omega) (by omega)⟩
theorem put6 {w : World} {b : Nat} {t : TypeId} (v0 v1 v2 v3 v4 v5 : Value) {u0 u1 u2 u3 u4 u5 : Value} (h : w.heap[b]? = some (.cells #[u0, u1, u2, u3, u4, u5] t)) : (w.setCells b 0 [v0, v1, v2, v3, v4, v5]).heap[b]? = some (.cells #[v0, v1, v2, v3, v4, v5] t) := by
 have h := heap_setCell_same _ b 0 _ t v0 h; have h := heap_setCell_same _ b 1 _ t v1 h; have h := heap_setCell_same _ b 2 _ t v2 h; have h := heap_setCell_same _ b 3 _ t v3 h; have h := heap_setCell_same _ b 4 _ t v4 h; have h := heap_setCell_same _ b 5 _ t v5 h; simp only [World.setCells, Nat.reduceAdd]
 simpa using h
theorem jeL {b k : Nat} (hn : k ≠ b) : ∀ (vs : List Value) (o : Nat) (w : World), (w.setCells b o vs).heap[k]? = w.heap[k]? := by
 intro vs
 induction vs with
 | nil => intro o w; rfl
 | cons v vs ih => intro o w; exact (ih (o + 1) _).trans (Below.heap_setCell _ _ _ _ hn)
theorem jhA {B b : Nat} {w w2 : World} {vs : List Value} {o : Nat} (hb : B ≤ b) (h : Below B w w2) : Below B w (w2.setCells b o vs) := by
 induction vs generalizing w2 o with
 | nil => exact h
 | cons v vs ih => exact ih (h.setCell hb v)
theorem jfE (bs : List Nat) : (inbC bs).length = bs.length * 2 := by
 induction bs with
 | nil => rfl
 | cons b bs ih => rw [inbC, List.flatMap_cons, List.length_append, show (bs.flatMap fun b => [Value.slice (some ⟨b, 0, none⟩) 1 1, .slice none 0 0]) = inbC bs from rfl, ih]; simp; omega
theorem jh4 (bs : List Nat) (b : Nat) : inbC (bs ++ [b]) = inbC bs ++ [.slice (some ⟨b, 0, none⟩) 1 1, .slice none 0 0] := by simp [inbC]
theorem jj3 (bs : List Nat) : ∀ u ∈ inbC bs, u.oneCell' = true := by
 intro u hu; obtain ⟨b, _, h⟩ := List.mem_flatMap.1 hu
 simp at h
 rcases h with rfl | rfl <;> rfl
def NlP (w : World) (n : Nat) (e : Ending) (w' : World) : Prop :=
 ∃ (bs : List Nat) (sa ta : Option Addr) (cs cst : Nat), e = .returned (.agg #[.slice none 0 0, .int .i64 0, .int .i64 0, .int .i64 0, .slice sa n cs, .slice ta n cst]) ∧ bs.length = n ∧ inbB w' w.heap.size bs ∧
   w'.ownsRow w.heap.size 44 2 (.slice sa n cs) n (inbC bs) ∧ w'.ownsRow w.heap.size 44 2 (.slice ta n cst) n (inbC bs) ∧ (∀ q, (Value.slice sa n cs).ownBlock = some q → (Value.slice ta n cst).ownBlock ≠ some q) ∧ Below w.heap.size w w'
theorem jda (n : Nat) (hn : 0 < n ∧ n ≤ 3) (w : World) : Calls Tryz.prog 14 #[.int .i64 n] w (NlP w n) := by
 obtain ⟨i0, hi, hz0, hz1, hz2⟩ := info_parts jk5; obtain ⟨W0, hW0⟩ : ∃ W0, W0 = (w.alloc (.cells #[.slice none 0 0, .int .i64 0, .int .i64 0, .int .i64 0, .slice none 0 0, .slice none 0 0] 62)).alloc (.cells #[.slice none 0 0, .int .i64 0, .int .i64 0, .int .i64 0, .slice none 0 0, .slice none 0 0] 62) := ⟨_, rfl⟩; have hB0 : Below w.heap.size w W0 := by rw [hW0]; exact (nb0 _ _).alloc (by simp) _
 have hz : W0.heap.size = w.heap.size + 2 := by rw [hW0]; simp
 have hr0 : W0.heap[w.heap.size]? = some (.cells #[.slice none 0 0, .int .i64 0, .int .i64 0, .int .i64 0, .slice none 0 0, .slice none 0 0] 62) := by
  rw [hW0]; exact ((nb0 _ _).block w.heap.size (by simp)).trans (heap_alloc_new w _)
 have hl0 : W0.heap[w.heap.size + 1]? = some (.cells #[.slice none 0 0, .int .i64 0, .int .i64 0, .int .i64 0, .slice none 0 0, .slice none 0 0] 62) := by
  rw [hW0]; have := heap_alloc_new (w.alloc (.cells #[.slice none 0 0, .int .i64 0, .int .i64 0, .int .i64 0, .slice none 0 0, .slice none 0 0] 62)) (.cells #[.slice none 0 0, .int .i64 0, .int .i64 0, .int .i64 0, .slice none 0 0, .slice none 0 0] 62)
  simpa using this
 have HWE := hid hW0; have HB0 := hid hB0; have HR0 := hid hr0; have HL0 := hid hl0; clear hW0 hB0 hr0 hl0; go_enter Tryz.func14, Tryz.ntmps14; go_wp2; rw [← HWE.out]
 go_loopw [8] (fun i wr => ∃ (k : Nat) (bs : List Nat) (a9 : Option Addr) (c9 : Nat), k ≤ n ∧ i = .int .i64 k ∧ bs.length = k ∧ Hid (wr.heap[w.heap.size + 1]? = some (.cells #[.slice none 0 0, .int .i64 0, .int .i64 0, .int .i64 0, .slice none 0 0, .slice a9 k c9] 62)) ∧ Hid (wr.ownsRow W0.heap.size 44 2 (.slice a9 k c9) k (inbC bs)) ∧ Hid (inbB wr W0.heap.size bs) ∧ Hid (∀ q ∈ bs, (Value.slice a9 k c9).ownBlock ≠ some q) ∧ Hid (But (w.heap.size + 1) W0 wr)) (fun i _ => n - (intOf i).toNat)
 case atStart => exact ⟨0, [], none, 0, Nat.zero_le _, rfl, rfl, HL0, hid (World.ownsRow_nil _ _ _ _), hid (fun b hb => by cases hb), hid (fun b hb => by cases hb), hid (But.refl _ _)⟩
 case round =>
  obtain ⟨k, bs, a9, c9, hk, rfl, hbl, HX, HO, HI, HAP, HBT⟩ := hrel
  by_cases hlt : k < n
  · have k1 : (k : Int) < (n : Int) := by omega
    have k0 : (0 : Int) ≤ (k : Int) := by omega
    go_wp2_with fail; refine (jjY k (by omega) wr).mono ?_; rintro e w2 ⟨b, rfl, hbx, hbw, hb2⟩; have hnb : w.heap.size + 1 < wr.heap.size := by have := HBT.out.size; omega
    obtain ⟨W3, hW3⟩ : ∃ W3, W3 = w2.alloc (.cells #[.slice (some ⟨b, 0, none⟩) 1 1, .slice none 0 0] 44) := ⟨_, rfl⟩; have HWE3 := hid hW3; have hB3 : Below wr.heap.size wr W3 := by rw [hW3]; exact hb2.alloc hb2.size _
    have hX3 : W3.heap[w2.heap.size]? = some (.cells #[.slice (some ⟨b, 0, none⟩) 1 1, .slice none 0 0] 44) := by rw [hW3]; exact heap_alloc_new w2 _
    have x0 : W3.cell? ⟨w2.heap.size, 0, none⟩ = some (.slice (some ⟨b, 0, none⟩) 1 1) := by simp [World.cell?, hX3]
    have x1 : W3.cell? ⟨w2.heap.size, 1, none⟩ = some (.slice none 0 0) := by simp [World.cell?, hX3]
    have hL3 := (hB3.block _ hnb).trans HX.out; have y5 : W3.cell? ⟨w.heap.size + 1, 5, none⟩ = some (.slice a9 k c9) := by simp [World.cell?, hL3]
    have HL3 := hid hL3; have HO3 := hid (je HO.out fun g hg => hB3.block g (World.ownsRow.lt HO.out g hg).2); have hlb : b < w2.heap.size := (Array.getElem?_eq_some_iff.1 hbx).1; have HI3 := hid (show inbB W3 W0.heap.size (bs ++ [b]) from fun q hq => by
        rcases List.mem_append.1 hq with h | h
        · obtain ⟨h1, h2⟩ := HI.out q h; exact ⟨h1, (hB3.block q (Array.getElem?_eq_some_iff.1 h2).1).trans h2⟩
        · rw [show q = b by simpa using h]; refine ⟨by have := HBT.out.size; omega, ?_⟩; rw [hW3]; exact ((nb0 _ _).block b hlb).trans hbx)
    have HB3 := hid (HBT.out.trans (But.of hB3)); have hz3 := HB3.out.size; clear hb2 hB3 hW3 hX3 hbx hL3; go_upto_region 6 with fail
    rw [← HWE3.out]
    go_wp2_with (first
        | (at_builtin; refine wpList_append_lies _ rfl _ _ 30 rfl W0.heap.size 44 i0 _ 2 48 Tryz.underlying30 hi hz0 hz1 hz2 rfl (by omega) (.slice a9 k c9) k (inbC bs) rfl (World.ownsRow.alloc HO3.out _) ⟨W3.heap.size, 0, none⟩ 1 1 [.slice (some ⟨b, 0, none⟩) 1 1, .slice none 0 0] rfl rfl (zD W3 [.slice (some ⟨b, 0, none⟩) 1 1, .slice none 0 0] _) ?c1 (by omega) ?c2 ?c3 ?c4 _ rfl ?_)
        | fail)
    case c1 => simp [Value.oneCell']
    case c2 => unfold maxLen; omega
    case c3 => omega
    case c4 => simp; omega
    intro gm cap w4 hown hgrow hat hlt4; have hW3z : w2.heap.size < W3.heap.size := by rw [HWE3.out]; simp
    have hne : ∀ q ∈ bs ++ [b], (Value.slice a9 k c9).ownBlock ≠ some q := fun q hq e => by
        rcases List.mem_append.1 hq with h | h
        · exact HAP.out q h e
        · have h1 := (World.ownsRow.lt HO.out q e).2; rw [show q = b by simpa using h] at h1; omega
    have hoL : (Value.slice a9 k c9).ownBlock ≠ some (w.heap.size + 1) := fun e => by have := (World.ownsRow.lt HO3.out _ e).1; omega
    have al : ∀ q x, W3.heap[q]? = some x → (Value.slice a9 k c9).ownBlock ≠ some q → w4.heap[q]? = some x := fun q x hx hq => by
        have hql := (Array.getElem?_eq_some_iff.1 hx).1; exact (hgrow.block q (by simp; omega) (fun e => hq e.symm)).trans ((((Below.refl _ W3).alloc (Nat.le_refl _) _).block q hql).trans hx)
    have hL4 := al _ _ HL3.out hoL; have z5 : w4.cell? ⟨w.heap.size + 1, 5, none⟩ = some (.slice a9 k c9) := by simp [World.cell?, hL4]
    have zf : w4.frozen? ⟨w.heap.size + 1, 5, none⟩ = false := by simp [World.frozen?, hL4]
    have hgm : W0.heap.size ≤ gm := by
        rcases hat with e | e
        · exact (World.ownsRow.lt HO3.out gm e).1
        · have e' : gm = W3.heap.size + 1 := by simpa using e
          omega
    obtain ⟨W5, hW5⟩ : ∃ W5, W5 = w4.setCell ⟨w.heap.size + 1, 5, none⟩ (.slice (some ⟨gm, 0, none⟩) (k + 1) cap) := ⟨_, rfl⟩; have HW5 := hid hW5; have st : ∀ q, q ≠ w.heap.size + 1 → W5.heap[q]? = w4.heap[q]? := fun q hq => by rw [hW5]; exact Below.heap_setCell _ _ _ _ hq
    have HX5 := hid (show W5.heap[w.heap.size + 1]? = some (.cells #[.slice none 0 0, .int .i64 0, .int .i64 0, .int .i64 0, .slice none 0 0, .slice (some ⟨gm, 0, none⟩) (k + 1) cap] 62) by
        rw [hW5]; have := heap_setCell_same w4 (w.heap.size + 1) 5 _ _ (.slice (some ⟨gm, 0, none⟩) (k + 1) cap) hL4
        simpa using this)
    have HO5 := hid (show W5.ownsRow W0.heap.size 44 2 (.slice (some ⟨gm, 0, none⟩) (k + 1) cap) (k + 1) (inbC (bs ++ [b])) from je (by rw [jh4, hz]; exact hown) fun g hg => st g (fun e => by have : gm = g := Option.some.inj hg; omega)); have HI5 := hid (show inbB W5 W0.heap.size (bs ++ [b]) from fun q hq => ⟨(HI3.out q hq).1, (st q (fun e => by have := (HI3.out q hq).1; omega)).trans (al _ _ (HI3.out q hq).2 (hne q hq))⟩); have HAP5 := hid (show ∀ q ∈ bs ++ [b], (Value.slice (some (⟨gm, 0, none⟩ : Addr)) (k + 1) cap).ownBlock ≠ some q from fun q hq e => by
        have e1 : gm = q := Option.some.inj e; have hql := (Array.getElem?_eq_some_iff.1 (HI3.out q hq).2).1
        rcases hat with h | h
        · exact hne q hq (by rw [h, e1])
        · have e' : gm = W3.heap.size + 1 := by simpa using h
          omega)
    have HBT5 := hid (show But (w.heap.size + 1) W0 W5 by
        refine ⟨?_, ?_, ?_, ?_, fun q hq hn => ?_⟩
        · rw [hW5]; exact hgrow.os.trans HB3.out.os
        · rw [hW5]; exact hgrow.tape.trans HB3.out.tape
        · rw [hW5]; exact hgrow.output.trans HB3.out.output
        · rw [hW5]; have := hgrow.size; simp [World.setCell] at this ⊢; omega
        · rw [st q hn]; have hx : W0.heap[q]? = some W0.heap[q] := Array.getElem?_eq_getElem hq; rw [hx]; exact al q _ ((HB3.out.block q hq hn).trans hx) (fun e => by have := (World.ownsRow.lt HO3.out _ e).1; omega))
    clear hown hgrow hat al st hW5; go_wp2; rw [← HW5.out]
    go_roundw
    case rel => first | exact ⟨k + 1, bs ++ [b], _, cap, by omega, by go_num, by simp [hbl], HX5, HO5, HI5, HAP5, HBT5⟩ | ((repeat apply Exists.intro); exact ⟨⟨k + 1, bs ++ [b], _, cap, by omega, by go_num, by simp [hbl], HX5, HO5, HI5, HAP5, HBT5⟩, rfl⟩)
    case measure => simp [intOf]; omega
  · have k1 : ¬ (k : Int) < (n : Int) := by omega
    obtain rfl : k = n := by omega
    obtain ⟨g, rfl⟩ : ∃ g, a9 = some ⟨g, 0, none⟩ := by
        rcases HO.out.2 with ⟨_, h0⟩ | ⟨g, cap, cur, hv, _⟩
        · omega
        · simp only [Value.slice.injEq] at hv; exact ⟨g, hv.1⟩
    have hgl := World.ownsRow.lt HO.out g rfl; go_wp2_with fail; refine (jg8 (w.heap.size + 1) (.slice none 0 0) (.int .i64 0) (.slice none 0 0) 0 0 ⟨g, 0, none⟩ k c9 (inbC bs) wr HX.out (by omega) (by omega) (by rw [jfE, hbl]) (by omega) (fun j u hj => by
        have hj2 : j < (inbC bs).length := (List.getElem?_eq_some_iff.1 hj).1; rw [Addr.add_lit, Nat.zero_add, World.ownsRow.cellAt HO.out j (by rw [jfE, hbl] at hj2; omega)]; exact hj) (jj3 bs) (by show g ≠ w.heap.size + 1; omega)).mono ?_
    rintro e w2 ⟨⟨v, rfl⟩, v', hx2, ho2, hbt2⟩; obtain ⟨sa, cs, rfl⟩ := jbu ho2; have hs2 := hbt2.size; have hbz := HBT.out.size; have hr2 : w2.heap[w.heap.size]? = some (.cells #[.slice none 0 0, .int .i64 0, .int .i64 0, .int .i64 0, .slice none 0 0, .slice none 0 0] 62) := (hbt2.block _ (by omega) (by omega)).trans ((HBT.out.block _ (by omega) (by omega)).trans HR0.out); have HO2 := hid (je HO.out fun q hq => hbt2.block q (World.ownsRow.lt HO.out q hq).2 (fun e => by have := (World.ownsRow.lt HO.out q hq).1; omega)); have HI2 := hid (show inbB w2 W0.heap.size bs from fun q hq => ⟨(HI.out q hq).1, (hbt2.block q (Array.getElem?_eq_some_iff.1 (HI.out q hq).2).1 (fun e => by have := (HI.out q hq).1; omega)).trans (HI.out q hq).2⟩); have HS2 := hid ho2; have HB2 := hid (show Below w.heap.size w w2 from HB0.out.trans ((HBT.out.trans hbt2).lowB' (by omega) (by omega))); obtain ⟨x0, x1, x2, x3, x4, x5⟩ := bx6 hx2; obtain ⟨r0, r1, r2, r3, r4, r5⟩ := bx6 hr2; have zf : ∀ o, w2.frozen? ⟨w.heap.size, o, none⟩ = false := fun o => by simp [World.frozen?, hr2]
    have HR2 := hid hr2; clear hx2 ho2 hbt2 hr2; go_wp2; have hput := put6 (w := w2) (b := w.heap.size) (.slice none 0 0) (.int .i64 0) (.int .i64 0) (.int .i64 0) (.slice sa k cs) (.slice (some ⟨g, 0, none⟩) k c9) HR2.out; have hst : ∀ q, q ≠ w.heap.size → (w2.setCells w.heap.size 0 [.slice none 0 0, .int .i64 0, .int .i64 0, .int .i64 0, .slice sa k cs, .slice (some ⟨g, 0, none⟩) k c9]).heap[q]? = w2.heap[q]? := fun q hq => jeL hq _ _ _
    have hlow := jhA (b := w.heap.size) (o := 0) (vs := [.slice none 0 0, .int .i64 0, .int .i64 0, .int .i64 0, .slice sa k cs, .slice (some ⟨g, 0, none⟩) k c9]) (Nat.le_refl _) HB2.out; simp only [World.setCells, Nat.reduceAdd] at hput hst hlow; have m0 := hput; have c0 : ∀ (W : World), W.heap[w.heap.size]? = some (.cells #[.slice none 0 0, .int .i64 0, .int .i64 0, .int .i64 0, .slice sa k cs, .slice (some ⟨g, 0, none⟩) k c9] 62) → W.cell? ⟨w.heap.size, 0, none⟩ = some (.slice none 0 0) ∧ W.cell? ⟨w.heap.size, 1, none⟩ = some (.int .i64 0) ∧ W.cell? ⟨w.heap.size, 2, none⟩ = some (.int .i64 0) ∧ W.cell? ⟨w.heap.size, 3, none⟩ = some (.int .i64 0) ∧ W.cell? ⟨w.heap.size, 4, none⟩ = some (.slice sa k cs) ∧ W.cell? ⟨w.heap.size, 5, none⟩ = some (.slice (some ⟨g, 0, none⟩) k c9) := fun W h => by
        refine ⟨?_, ?_, ?_, ?_, ?_, ?_⟩ <;> simp [World.cell?, h]
    obtain ⟨m0, m1, m2, m3, m4, m5⟩ := c0 _ hput; refine bodyPost_ret (v := .agg #[.slice none 0 0, .int .i64 0, .int .i64 0, .int .i64 0, .slice sa k cs, .slice (some ⟨g, 0, none⟩) k c9]) (by simp only [results, Tryz.results14]; simp [go_sem, m0, m1, m2, m3, m4, m5]) rfl ?_; refine ⟨bs, sa, some ⟨g, 0, none⟩, cs, c9, rfl, hbl, ?_, ?_, ?_, fun q hq e => ?_, hlow⟩
    · exact fun q hq => ⟨by have := (HI2.out q hq).1; omega, (hst q (fun e => by have := (HI2.out q hq).1; omega)).trans (HI2.out q hq).2⟩
    · exact jbT (je HS2.out fun q hq => hst q (fun e => by have := (World.ownsRow.lt HS2.out q hq).1; omega)) (by omega)
    · exact jbT (je HO2.out fun q hq => hst q (fun e => by have := (World.ownsRow.lt HO2.out q hq).1; omega)) (by omega)
    · have h1 := (World.ownsRow.lt HS2.out q hq).1; have h2 : g = q := Option.some.inj e; omega
theorem jno {a b : ByteArray} (h : ¬ a = b) : (a.toList == b.toList) = false := by
 rw [beq_eq_false_iff_ne]; intro e; rw [Lib.toList_data, Lib.toList_data] at e
 apply h
 obtain ⟨⟨x⟩⟩ := a; obtain ⟨⟨y⟩⟩ := b; simp only at e; rw [e]
theorem jmO (a b : List UInt8) : ((S a).toList == (S b).toList) = decide (a = b) := by
 by_cases h : a = b
 · subst h; simp
 · rw [jno fun e => h (jnc e)]; simp [h]
def AdrM (x : Adr) (cs : List Value) : Prop := cs = [.string (S x.1), .string (S x.2)]
def AdrsM (Q : Nat → Prop) (w : World) (v : Value) (l : List Adr) : Prop := RowM Q 2 AdrM w v l
def jdG (l : List Adr) : List Value := (l.map fun x => [Value.string (S x.1), .string (S x.2)]).flatten
def OwnL (w : World) (B : Nat) (v : Value) (l : List Adr) : Prop := w.ownsRow B 65 2 v l.length (jdG l)
theorem jmp {Q : Nat → Prop} {w : World} {a : Option Addr} {c : Nat} {l : List (List UInt8)} (h : TxtsM Q w (.slice a l.length c) l) {i : Nat} {x : List UInt8} (hx : l[i]? = some x) :
 ∃ b o, a = some ⟨b, o, none⟩ ∧ b < w.heap.size ∧ Q b ∧ w.cell? ⟨b, o + i, none⟩ = some (.string (S x)) := by
 obtain ⟨a', c', hv, _, hr⟩ := h; simp only [Value.slice.injEq, true_and] at hv; obtain ⟨rfl, rfl⟩ := hv; obtain ⟨b, o, cs, rfl, hb, hQ, _, hc, hP⟩ := hr i x hx; have hcs : cs = _ := hP; subst hcs; exact ⟨b, o, rfl, hb, hQ, by simpa using hc 0 _ rfl⟩
theorem AdrsM.next {Q : Nat → Prop} {w w' : World} {v : Value} {l : List Adr} (h : AdrsM Q w v l) (hb : Below w.heap.size w w') : AdrsM Q w' v l := RowM.imp h (fun _ h => h) (Keeps.of_below hb) fun _ _ h => h
theorem AdrsM.any {Q : Nat → Prop} {w : World} {v : Value} {l : List Adr} (h : AdrsM Q w v l) : AdrsM anyB w v l := RowM.imp h (fun _ _ => trivial) (Keeps.refl _ _) fun _ _ h => h
theorem AdrsM.same {Q : Nat → Prop} {w w' : World} {v : Value} {l : List Adr} (h : AdrsM Q w v l) (he : w'.heap = w.heap) : AdrsM Q w' v l := RowM.imp h (fun _ h => h) ⟨by rw [he]; exact Nat.le_refl _, fun _ _ _ => by rw [he]⟩ fun _ _ h => h
theorem jf7 {l : List Adr} {i : Nat} {x : Adr} (h : l[i]? = some x) : (jdG l)[i * 2]? = some (.string (S x.1)) ∧ (jdG l)[i * 2 + 1]? = some (.string (S x.2)) := by
 induction l generalizing i with
 | nil => simp at h
 | cons g l ih =>
   cases i with
   | zero => simp at h; subst h; simp [jdG]
   | succ i =>
     have := ih (i := i) (by simpa using h); have e1 : (i + 1) * 2 = i * 2 + 2 := by omega
     rw [e1]
     simpa [jdG] using this
theorem OwnL.slice {w : World} {B : Nat} {v : Value} {l : List Adr} (h : OwnL w B v l) : ∃ a c, v = .slice a l.length c := by
 rcases h.2 with ⟨rfl, hn⟩ | ⟨g, cap, cur, rfl, _⟩
 · exact ⟨none, 0, by rw [hn]⟩
 · exact ⟨_, _, rfl⟩
theorem OwnL.row {w : World} {B : Nat} {v : Value} {l : List Adr} (h : OwnL w B v l) (hm : l.length ≤ maxLen) : AdrsM (B ≤ ·) w v l := by
 obtain ⟨a, c, rfl⟩ := h.slice; refine ⟨a, c, rfl, hm, fun i x hx => ?_⟩; have hi : i < l.length := (List.getElem?_eq_some_iff.1 hx).1; obtain ⟨g, cap, e, hb, hg⟩ := World.ownsRow.form h (by omega); simp only [Value.slice.injEq, true_and] at e; obtain ⟨rfl, rfl⟩ := e; obtain ⟨h1, h2⟩ := jf7 hx; refine ⟨g, 0, _, rfl, hg, hb, rfl, ?_, rfl⟩; intro j u hj
 match j, hj with
 | 0, hj =>
   simp only [List.getElem?_cons_zero, Option.some.injEq] at hj; subst hj; rw [show 0 + i * 2 + 0 = i * 2 by omega, World.ownsRow.cellAt h (i * 2) (by omega)]; exact h1
 | 1, hj =>
   simp only [List.getElem?_cons_succ, List.getElem?_cons_zero, Option.some.injEq] at hj; subst hj; rw [show 0 + i * 2 + 1 = i * 2 + 1 by omega, World.ownsRow.cellAt h (i * 2 + 1) (by omega)]; exact h2
theorem OwnL.nil (w : World) (B : Nat) : OwnL w B (.slice none 0 0) [] := World.ownsRow_nil _ _ _ _
theorem jjB {A : Type} [DecidableEq A] {l : List A} {i : Nat} {x y : A} (h : l[i]? = some y) : (l.drop i).any (fun z => decide (x = z)) = (decide (x = y) || (l.drop (i + 1)).any (fun z => decide (x = z))) := by
 have hi : i < l.length := (List.getElem?_eq_some_iff.1 h).1; have e : l[i] = y := (List.getElem?_eq_some_iff.1 h).2; rw [List.drop_eq_getElem_cons hi, e]; rfl
theorem jlF {A : Type} [BEq A] [LawfulBEq A] [DecidableEq A] (l : List A) (x : A) : l.any (fun z => decide (x = z)) = l.contains x := by
 induction l with
 | nil => rfl
 | cons y l ih =>
   rw [List.any_cons, ih, List.contains_cons]
   by_cases h : x = y
   · subst h; simp
   · simp [h]
def IxP (w : World) (q : Bool) (e : Ending) (w' : World) : Prop := ∃ z : Int, e = .returned (.int .i64 z) ∧ decide (0 ≤ z) = q ∧ Below w.heap.size w w'
theorem jgw (Q : Nat → Prop) (l : List (List UInt8)) (x : List UInt8) (a : Option Addr) (c : Nat) (w : World) (h : TxtsM Q w (.slice a l.length c) l) :
 Calls Tryz.prog 42 #[.slice a l.length c, .string (S x)] w (IxP w (l.any fun z => decide (x = z))) := by
 have hm : l.length ≤ maxLen := by obtain ⟨_, _, _, hm, _⟩ := h; exact hm
 unfold maxLen at hm; have HL := hid h; clear h; have HN : Hid ((l.any fun z => decide (x = z)) = (l.drop 0).any fun z => decide (x = z)) := rfl; obtain ⟨q, hq⟩ : ∃ q, q = l.any fun z => decide (x = z) := ⟨_, rfl⟩
 rw [← hq] at HN ⊢; clear hq; go_enter Tryz.func42, Tryz.ntmps42; go_wp2
 go_loopw [8] (fun v wr => ∃ i : Nat, i ≤ l.length ∧ v = .int .i64 i ∧ wr = w ∧ Hid (q = (l.drop i).any fun z => decide (x = z))) (fun v _ => l.length - (intOf v).toNat)
 case atStart => exact ⟨0, Nat.zero_le _, rfl, rfl, HN⟩
 case round =>
  obtain ⟨i, hi, rfl, rfl, HI⟩ := hrel
  by_cases hlt : i < l.length
  · have i1 : (i : Int) < (l.length : Int) := by omega
    have i0 : (0 : Int) ≤ (i : Int) := by omega
    obtain ⟨y, hy⟩ : ∃ y, l[i]? = some y := ⟨_, List.getElem?_eq_getElem hlt⟩; have HS := hid (jjB (x := x) hy); obtain ⟨b, o, rfl, _, _, e0⟩ := jmp HL.out hy; have eq1 := jmO x y; clear hy
    by_cases hp : x = y
    · have HE := hid (show q = true by rw [HI.out, HS.out]; simp [hp]); have ed : decide (x = y) = true := by simp [hp]
      rw [ed] at eq1; clear hp ed; go_wp2; go_ret; exact ⟨_, rfl, by rw [HE.out]; simp, Below.refl _ _⟩
    · have HE := hid (show q = (l.drop (i + 1)).any fun z => decide (x = z) by rw [HI.out, HS.out]; simp [hp]); have ed : decide (x = y) = false := by simp [hp]
      rw [ed] at eq1; clear hp ed; go_wp2
      go_roundw
      case rel => first | exact ⟨i + 1, by omega, by go_num, by first | rfl | trivial, HE⟩ | ((repeat apply Exists.intro); exact ⟨⟨i + 1, by omega, by go_num, by first | rfl | trivial, HE⟩, rfl⟩) | (refine ⟨trivial, ?_⟩; (repeat apply Exists.intro); exact ⟨⟨i + 1, by omega, by go_num, by first | rfl | trivial, HE⟩, rfl⟩)
      case measure => simp [intOf]; omega
  · have i1 : ¬ (i : Int) < (l.length : Int) := by omega
    have HE := hid (show q = false by rw [HI.out, List.drop_eq_nil_of_le (by omega)]; rfl); go_wp2; go_ret; exact ⟨_, rfl, by rw [HE.out]; rfl, Below.refl _ _⟩
theorem jc2 (Q : Nat → Prop) (l : List (List UInt8)) (x : List UInt8) (a : Option Addr) (c : Nat) (w : World) (h : TxtsM Q w (.slice a l.length c) l) :
 Calls Tryz.prog 25 #[.slice a l.length c, .string (S x)] w fun e w' => e = .returned (.bool (l.contains x)) ∧ Below w.heap.size w w' := by
 have HX := hid (jgw Q l x a c _ h); rw [← jlF]; clear h; go_enter Tryz.func25, Tryz.ntmps25; go_wp2_with fail; refine HX.out.mono ?_; rintro e u ⟨z, rfl, hz, hb⟩; have HZ := hid hz; have HB := hid hb; clear hz hb; go_wp2; go_ret; exact ⟨jc (by rw [← HZ.out]), HB.out⟩
def RmB (w : World) (b : Nat) (cs : List Value) : Prop := w.heap[b]? = some (.cells cs.toArray 76) ∧ cs.length = 38
theorem RmB.cell {w : World} {b : Nat} {cs : List Value} (h : RmB w b cs) {j : Nat} {v : Value} (hj : cs[j]? = some v) : w.cell? ⟨b, j, none⟩ = some v := by
 simp only [World.cell?, h.1]
 simpa using hj
theorem RmB.next {w w' : World} {b : Nat} {cs : List Value} (h : RmB w b cs) (hb : Below w.heap.size w w') : RmB w' b cs := ⟨(hb.block b (Array.getElem?_eq_some_iff.1 h.1).1).trans h.1, h.2⟩
def AdE (w : World) (r : Int) (e : Ending) (w' : World) : Prop := e = .returned (.int .i64 r) ∧ Below w.heap.size w w'
def OpE (w : World) (r : Int) (e : Ending) (w' : World) : Prop := e = .returned (.tuple #[.pointer none, .int .i64 r]) ∧ Below w.heap.size w w'
theorem jmU (a : Option Addr) (c : Nat) (w : World) : Calls Tryz.prog 10 #[.slice a 0 c] w (OpE w 1) := by
 go_enter Tryz.func10, Tryz.ntmps10; go_wp2; go_ret2; exact ⟨rfl, Below.refl _ _⟩
theorem jmT (a : Option Addr) (c : Nat) (w : World) : Calls Tryz.prog 10 #[.slice a 4 c] w (OpE w 1) := by
 go_enter Tryz.func10, Tryz.ntmps10; go_wp2; go_ret2; exact ⟨rfl, Below.refl _ _⟩
end Go.Proofs.YtgooljlpffnaeaaGreatDoor
