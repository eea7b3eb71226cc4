/-
  A postroom at work: its plain meaning, over what delivering a letter does.
-/
import Derived.Test.YtjdkbdkimbgbfaaGreatDoorRLmPur
import Derived.Test.YtjdkbdkimbgbfaaGreatDoorRBoxPur
import Derived.Test.YtjdkbdkimbgbfaaGreatDoorRows
import Derived.Deep.DeepCutAuto
import Derived.Lib.SliceRun
import Derived.Test.YtjdkbdkimbgbfaaGreatDoorRQRowGen7
import Derived.Laws.StructEq
set_option maxHeartbeats 2000000
set_option maxRecDepth 100000
namespace Go.Proofs.YtjdkbdkimbgbfaaGreatDoor
open Go.RowKit
variable {p : Addr} {listed : Array Bool} {l : List Adr} {G G' rs : List Nat} {vm xs : List Value} {B N b c fuel g i k n o : Nat} {Q : Nat -> Prop} {a : Option Addr} {s : Stt} {A : Type} {e : TypeId} {u v v0 v1 v2 v3 v4 v5 vb vs : Value} {w w' : World}
structure Con where
 ses : Ses
 held : List UInt8
 due : List Int
 told : List Int
structure Rom where
 up : Bool
 tape : List UInt8
 tsyn : Int
 syn : Int
 waits : Int
 safe : List Stt
 states : List Stt
 c0 : Con
 c1 : Con
 c2 : Con
 orders : List (List Int)
 due : List Int
def Rom.con (R : Rom) : Nat -> Con
 | 0 => R.c0
 | 1 => R.c1
 | _ => R.c2
def Rom.put (R : Rom) (i : Nat) (c : Con) : Rom :=
 match i with
 | 0 => { R with c0 := c }
 | 1 => { R with c1 := c }
 | _ => { R with c2 := c }
def jbe (c : Con) (k : Int) : Con := ⟨atS k, [], [], c.told⟩
def jbC (c : Con) (l : List Int) : Con := ⟨c.ses, c.held, c.due, c.told ++ l⟩
def sesC (c : Con) (s : Ses) : Con := ⟨s, c.held, c.due, c.told⟩
def ja7 (c : Con) (h : List UInt8) : Con := ⟨c.ses, h, c.due, c.told⟩
def dueC (c : Con) (l : List Int) : Con := ⟨c.ses, c.held, l, c.told⟩
def zi (c : Con) (l : List Int) (wait : Bool) : Con := if wait = true then dueC c l else jbC c l
def zT (c : Con) : Con := dueC (jbC c c.due) []
def jda (c : Con) (d : List UInt8) : Con := if c.ses.step = 5 then ⟨atS 0, d, [], c.told⟩ else ja7 c (c.held ++ d)
section
variable (D : Rom -> Ltr -> Rom × Int × Bool) (K : List (List UInt8))
def tkR (R : Rom) (lg : Bool) : List Ltr -> Rom × List Int × Bool
 | [] => (R, [], false)
 | x :: t =>
   let d := if lg = true then (R, (552 : Int), false) else D R x
   let r := tkR d.1 lg t
   (r.1, d.2.1 :: r.2.1, d.2.2 || r.2.2)
def jme (c : Con) (k : Int) : Con := if k = 0 then c else jbC c [k]
def jbo (c : Con) (k : Int) : Con := if k = 5 then jbe c 5 else c
def jfI (R : Rom) (i : Nat) (line : List UInt8) : Rom :=
 let n := js (R.con i).ses K line
 let t := tkR D (R.put i (jme (sesC (R.con i) n.1) n.2.1)) (R.con i).ses.large n.2.2
 t.1.put i (jbo (zi (t.1.con i) t.2.1 t.2.2) n.1.step)
def endC (c : Con) : Con := if 3000 < c.held.length then jbe c 5 else c
def runW (rd : Rom -> List UInt8 -> List UInt8 -> Rom) (i : Nat) : Nat -> Rom -> Rom
 | 0, R => R.put i (endC (R.con i))
 | n + 1, R =>
   if (R.con i).due.isEmpty && (Lib.cut (R.con i).held [13, 10]).2.2 then runW rd i n (rd R (Lib.cut (R.con i).held [13, 10]).1 (Lib.cut (R.con i).held [13, 10]).2.1)
   else R.put i (endC (R.con i))
def qY (i : Nat) : Nat -> Rom -> Rom := runW (fun R x y => jfI D K (R.put i (ja7 (R.con i) y)) i x) i
end
open Go.RowKit Go.Proofs
def FnP (w : World) (e : Ending) (w' : World) : Prop := ∃ b, e = .returned (.tuple #[.agg #[.slice (some ⟨b, 0, none⟩) 1 1, .slice none 0 0], .int .i64 0]) /\ w'.heap[b]? = some (.cells #[.string ⟨#[73, 78, 66, 79, 88]⟩, .int .i64 1, .slice none 0 0] 40) /\ w.heap.size <= b /\ Below w.heap.size w w'
theorem jp7 (u : Nat) (hu : u < 3) (w : World) : Calls Tryz.prog 43 #[.int .i64 u] w fun e w' => e = .returned (.bool true) /\ w' = w := by
 have h0 : (0 : Int) <= (u : Int) := by omega
 have h1 : (u : Int) < 3 := by omega
 have h2 : (u : Int) <= 2 := by omega
 go_enter Tryz.func43, Tryz.ntmps43; go_wp2; go_ret; exact ⟨rfl, rfl⟩
theorem jm8 (u : Nat) (hu : u < 3) (w : World) : Calls Tryz.prog 27 #[.slice none 0 0, .int .i64 u] w (FnP w) := by
 have HU := hid (fun v => jp7 u hu v); go_enter Tryz.func27, Tryz.ntmps27; go_wp2
 go_loopw [16] (fun i wr => i = .int .i64 0 /\ wr = w.alloc (.cells #[.slice none 0 0, .slice none 0 0] 44)) (fun _ _ => 0)
 case atStart => exact ⟨rfl, rfl⟩
 case round =>
  obtain ⟨rfl, rfl⟩ := hrel; go_wp2_with fail; refine (HU.out _).mono ?_; rintro e v ⟨rfl, hv⟩; have hv' := hv.symm; subst hv'; clear hv; go_wp2
  go_loopw [36] (fun i wr => i = .int .i64 0 /\ wr = ((w.alloc (.cells #[.slice none 0 0, .slice none 0 0] 44)).alloc (.cells #[.string ⟨#[73, 78, 66, 79, 88]⟩, .int .i64 1, .slice none 0 0] 40)).alloc (.cells #[.slice (some ⟨w.heap.size + 1, 0, none⟩) 1 1, .slice none 0 0] 44)) (fun _ _ => 0)
  case atStart => exact ⟨rfl, rfl⟩
  case round =>
   obtain ⟨rfl, rfl⟩ := hrel; go_wp2; refine aD (v := .tuple #[.agg #[.slice (some ⟨w.heap.size + 1, 0, none⟩) 1 1, .slice none 0 0], .int .i64 0]) (by simp [results, Tryz.results27, go_sem]) rfl ?_; refine ⟨w.heap.size + 1, rfl, ?_, by omega, (((nb0 _ _).alloc (by simp) _).alloc (by simp; omega) _)⟩; have h1 := az (w.alloc (.cells #[.slice (some ⟨w.heap.size + 1, 0, none⟩) 1 1, .slice none 0 0] 44)) (.cells #[.string ⟨#[73, 78, 66, 79, 88]⟩, .int .i64 1, .slice none 0 0] 40); have h2 : (w.alloc (.cells #[.slice (some ⟨w.heap.size + 1, 0, none⟩) 1 1, .slice none 0 0] 44)).heap.size = w.heap.size + 1 := by simp
   rw [h2] at h1; exact ((nb0 _ _).block (w.heap.size + 1) (by simp)).trans h1
def jaT (m : Mail) : List Value := [.int .i64 m.uid, .int .i64 m.flags, .string (S m.text)]
def entC (x : Ent) : List Value := [.int .i64 x.kind, .string (S x.box), .int .i64 x.uid, .int .i64 x.flags, .string (S x.goal), .string (S x.text)]
def boxC (b : Bx) (v : Value) : List Value := [.string (S b.name), .int .i64 b.next, v]
def jrk (m : Mail) (cs : List Value) : Prop := cs = jaT m
def EntM (x : Ent) (cs : List Value) : Prop := cs = entC x
def MailsM (Q : Nat -> Prop) (w : World) (v : Value) (l : List Mail) : Prop := RowM Q 3 jrk w v l
def EntsM (Q : Nat -> Prop) (w : World) (v : Value) (l : List Ent) : Prop := RowM Q 6 EntM w v l
def BoxM (Q : Nat -> Prop) (w : World) (b : Bx) (cs : List Value) : Prop := ∃ v, cs = boxC b v /\ MailsM Q w v b.mails
def BoxsM (Q : Nat -> Prop) (w : World) (v : Value) (l : List Bx) : Prop := RowM Q 3 (BoxM Q w) w v l
def SttM (Q : Nat -> Prop) (w : World) (vb vs : Value) (s : Stt) : Prop := BoxsM Q w vb s.boxes /\ EntsM Q w vs s.spool /\ ∀ a n c, vb = .slice a n c -> n <= c
theorem MailsM.imp {Q Q' : Nat -> Prop} {w w' : World} {v : Value} {l : List Mail} (h : MailsM Q w v l) (hq : ∀ b, Q b -> Q' b) (hk : Keeps Q w w') : MailsM Q' w' v l := RowM.imp h hq hk fun _ _ h => h
theorem EntsM.imp {Q Q' : Nat -> Prop} {w w' : World} {v : Value} {l : List Ent} (h : EntsM Q w v l) (hq : ∀ b, Q b -> Q' b) (hk : Keeps Q w w') : EntsM Q' w' v l := RowM.imp h hq hk fun _ _ h => h
theorem BoxM.imp {Q Q' : Nat -> Prop} {w w' : World} {b : Bx} {cs : List Value} (h : BoxM Q w b cs) (hq : ∀ b, Q b -> Q' b) (hk : Keeps Q w w') : BoxM Q' w' b cs := by
 obtain ⟨v, e, h⟩ := h; exact ⟨v, e, h.imp hq hk⟩
theorem BoxsM.imp {Q Q' : Nat -> Prop} {w w' : World} {v : Value} {l : List Bx} (h : BoxsM Q w v l) (hq : ∀ b, Q b -> Q' b) (hk : Keeps Q w w') : BoxsM Q' w' v l := RowM.imp h hq hk fun _ _ h => h.imp hq hk
theorem SttM.imp {Q Q' : Nat -> Prop} {w w' : World} {vb vs : Value} {s : Stt} (h : SttM Q w vb vs s) (hq : ∀ b, Q b -> Q' b) (hk : Keeps Q w w') : SttM Q' w' vb vs s := ⟨h.1.imp hq hk, h.2.1.imp hq hk, h.2.2⟩
theorem SttM.next (h : SttM Q w vb vs s) (hb : Below w.heap.size w w') : SttM Q w' vb vs s := h.imp (fun _ h => h) (Keeps.of_below hb)
theorem BoxsM.next {l : List Bx} (h : BoxsM Q w v l) (hb : Below w.heap.size w w') : BoxsM Q w' v l := h.imp (fun _ h => h) (Keeps.of_below hb)
theorem EntsM.next {l : List Ent} (h : EntsM Q w v l) (hb : Below w.heap.size w w') : EntsM Q w' v l := h.imp (fun _ h => h) (Keeps.of_below hb)
theorem MailsM.next {l : List Mail} (h : MailsM Q w v l) (hb : Below w.heap.size w w') : MailsM Q w' v l := h.imp (fun _ h => h) (Keeps.of_below hb)
theorem MailsM.at {l : List Mail} (h : MailsM Q w (.slice a n c) l) {x : Mail} (hx : l[i]? = some x) : ∃ b o, a = some ⟨b, o, none⟩ /\ Q b /\ w.cell? ⟨b, o + i * 3, none⟩ = some (.int .i64 x.uid) /\ w.cell? ⟨b, o + i * 3 + 1, none⟩ = some (.int .i64 x.flags) /\ w.cell? ⟨b, o + i * 3 + 2, none⟩ = some (.string (S x.text)) := by
 obtain ⟨a', c', hv, _, hr⟩ := h; simp only [aE] at hv; obtain ⟨rfl, _, rfl⟩ := hv; obtain ⟨b, o, cs, rfl, _, hq, _, hc, hP⟩ := hr i x hx; have hcs : cs = _ := hP; subst hcs; exact ⟨b, o, rfl, hq, by simpa using hc 0 _ rfl, hc 1 _ rfl, hc 2 _ rfl⟩
theorem BoxsM.at {l : List Bx} (h : BoxsM Q w (.slice a n c) l) {x : Bx} (hx : l[i]? = some x) : ∃ b o v, a = some ⟨b, o, none⟩ /\ Q b /\ w.cell? ⟨b, o + i * 3, none⟩ = some (.string (S x.name)) /\ w.cell? ⟨b, o + i * 3 + 1, none⟩ = some (.int .i64 x.next) /\ w.cell? ⟨b, o + i * 3 + 2, none⟩ = some v /\ MailsM Q w v x.mails := by
 obtain ⟨a', c', hv, _, hr⟩ := h; simp only [aE] at hv; obtain ⟨rfl, _, rfl⟩ := hv; obtain ⟨b, o, cs, rfl, _, hq, _, hc, v, hcs, hm⟩ := hr i x hx; subst hcs; exact ⟨b, o, v, rfl, hq, by simpa using hc 0 _ rfl, hc 1 _ rfl, hc 2 _ rfl, hm⟩
theorem EntsM.at {l : List Ent} (h : EntsM Q w (.slice a n c) l) {x : Ent} (hx : l[i]? = some x) : ∃ b o, a = some ⟨b, o, none⟩ /\ Q b /\ w.cell? ⟨b, o + i * 6, none⟩ = some (.int .i64 x.kind) /\ w.cell? ⟨b, o + i * 6 + 1, none⟩ = some (.string (S x.box)) /\ w.cell? ⟨b, o + i * 6 + 2, none⟩ = some (.int .i64 x.uid) /\ w.cell? ⟨b, o + i * 6 + 3, none⟩ = some (.int .i64 x.flags) /\ w.cell? ⟨b, o + i * 6 + 4, none⟩ = some (.string (S x.goal)) /\ w.cell? ⟨b, o + i * 6 + 5, none⟩ = some (.string (S x.text)) := by
 obtain ⟨a', c', hv, _, hr⟩ := h; simp only [aE] at hv; obtain ⟨rfl, _, rfl⟩ := hv; obtain ⟨b, o, cs, rfl, _, hq, _, hc, hP⟩ := hr i x hx; have hcs : cs = _ := hP; subst hcs; exact ⟨b, o, rfl, hq, by simpa using hc 0 _ rfl, hc 1 _ rfl, hc 2 _ rfl, hc 3 _ rfl, hc 4 _ rfl, hc 5 _ rfl⟩
theorem ja5 : ∀ {css : List (List Value)} {i j : Nat} {cs : List Value}, (∀ c ∈ css, c.length = k) -> css[i]? = some cs -> j < k -> css.flatten[i * k + j]? = cs[j]? := by
 intro css
 induction css with
 | nil => intro i j cs _ h _; simp at h
 | cons c css ih =>
   intro i j cs hk h hj; have hc : c.length = k := hk c (by simp); cases i with
   | zero =>
     simp at h
     subst h; simp only [Nat.zero_mul, bc, bw]; rw [bf (by omega)]
   | succ i =>
     have := ih (j := j) (fun c hc => hk c (by simp [hc])) (by simpa using h) hj; simp only [bw]; rw [bd (by rw [hc, Nat.add_mul]; omega), <- this]
     congr 1
     rw [hc, Nat.add_mul]; omega
theorem ja6 : ∀ {css : List (List Value)} {i j : Nat} {cs : List Value} (u : Value), (∀ c ∈ css, c.length = k) -> css[i]? = some cs -> j < k -> css.flatten.set (i * k + j) u = (css.set i (cs.set j u)).flatten := by
 intro css
 induction css with
 | nil => intro i j cs u _ h _; simp at h
 | cons c css ih =>
   intro i j cs u hk h hj; have hc : c.length = k := hk c (by simp); cases i with
   | zero =>
     simp at h
     subst h; simp only [Nat.zero_mul, bc, bw, ah]; rw [List.set_append_left _ _ (by omega)]
   | succ i =>
     have := ih (j := j) u (fun c hc => hk c (by simp [hc])) (by simpa using h) hj; simp only [bw, ag]; rw [List.set_append_right _ _ (by rw [hc, Nat.add_mul]; omega), <- this]
     congr 2
     rw [hc, Nat.add_mul]; omega
theorem zI (f : A -> List Value) (hf : ∀ x, (f x).length = k) (l : List A) : ∀ cs ∈ l.map f, cs.length = k := by
 intro cs h; obtain ⟨x, _, rfl⟩ := bE.1 h; exact hf x
def Apart (u v : Value) : Prop := ∀ k, u.ownBlock = some k -> v.ownBlock ≠ some k
theorem Apart.symm (h : Apart u v) : Apart v u := fun k hv hu => h k hu hv
def bxCs : List Bx -> List Value -> List (List Value)
 | b :: r, v :: vs => boxC b v :: bxCs r vs
 | _, _ => []
theorem jdW : ∀ (l : List Bx) (vs : List Value), vs.length = l.length -> (bxCs l vs).length = l.length := by
 intro l
 induction l with
 | nil => intro vs _; cases vs <;> rfl
 | cons b l ih =>
   intro vs h; cases vs with
   | nil => simp at h
   | cons v vs => simp only [bxCs, aI]; rw [ih vs (by simpa using h)]
theorem qg : ∀ (l : List Bx) (vs : List Value), ∀ cs ∈ bxCs l vs, cs.length = 3 := by
 intro l
 induction l with
 | nil => intro vs cs h; cases vs <;> cases h
 | cons b l ih =>
   intro vs cs h; cases vs with
   | nil => cases h
   | cons v vs =>
     simp only [bxCs, bV] at h
     rcases h with rfl | h
     . rfl
     . exact ih vs cs h
theorem ja2 : ∀ (l : List Bx) (vs : List Value) (i : Nat) (b : Bx) (v : Value), l[i]? = some b -> vs[i]? = some v -> (bxCs l vs)[i]? = some (boxC b v) := by
 intro l
 induction l with
 | nil => intro vs i b v h; simp at h
 | cons c l ih =>
   intro vs i b v h h'; cases vs with
   | nil => simp at h'
   | cons u vs =>
     cases i with
     | zero => simp at h h'; subst h; subst h'; rfl
     | succ i => simp at h h'; simpa [bxCs] using ih vs i b v h h'
theorem jdX : ∀ (l : List Bx) (vs : List Value) (i : Nat) (b : Bx) (v : Value), vs.length = l.length -> bxCs (l.set i b) (vs.set i v) = (bxCs l vs).set i (boxC b v) := by
 intro l
 induction l with
 | nil => intro vs i b v h; cases vs with
   | nil => rfl
   | cons => simp at h
 | cons c l ih =>
   intro vs i b v h; cases vs with
   | nil => simp at h
   | cons u vs =>
     cases i with
     | zero => rfl
     | succ i => simp only [ag, bxCs]; rw [ih vs i b v (by simpa using h)]
structure OwnS (B : Nat) (w : World) (vb vs : Value) (vm : List Value) (s : Stt) : Prop where
 boxes : w.ownsRow B 40 3 vb s.boxes.length (bxCs s.boxes vm).flatten
 spool : w.ownsRow B 32 6 vs s.spool.length (s.spool.map entC).flatten
 len : vm.length = s.boxes.length
 mails : ∀ (i : Nat) b v, s.boxes[i]? = some b -> vm[i]? = some v -> w.ownsRow B 47 3 v b.mails.length (b.mails.map jaT).flatten
 bs : Apart vb vs
 mb : ∀ v ∈ vm, Apart v vb
 ms : ∀ v ∈ vm, Apart v vs
 mm : ∀ (i j : Nat) u v, i ≠ j -> vm[i]? = some u -> vm[j]? = some v -> Apart u v
def inS (vb vs : Value) (vm : List Value) (k : Nat) : Prop := vb.ownBlock = some k ∨ vs.ownBlock = some k ∨ ∃ v ∈ vm, v.ownBlock = some k
theorem jf (h : w.ownsRow B e k v n xs) (hk : ∀ g, v.ownBlock = some g -> w'.heap[g]? = w.heap[g]?) : w'.ownsRow B e k v n xs := by
 refine ⟨h.1, ?_⟩
 rcases h.2 with hn | ⟨g, cap, cur, rfl, hb, lf, rest⟩
 . exact .inl hn
 . exact .inr ⟨g, cap, cur, rfl, hb, (hk g rfl).trans lf, rest⟩
theorem OwnS.keep (h : OwnS B w vb vs vm s) (hk : ∀ g, inS vb vs vm g -> w'.heap[g]? = w.heap[g]?) : OwnS B w' vb vs vm s :=
 ⟨jf h.boxes fun g hg => hk g (.inl hg), jf h.spool fun g hg => hk g (.inr (.inl hg)), h.len, fun i b v hb hv => jf (h.mails i b v hb hv) fun g hg => hk g (.inr (.inr ⟨v, aF hv, hg⟩)), h.bs, h.mb, h.ms, h.mm⟩
theorem OwnS.lt {B : Nat} {w : World} {vb vs : Value} {vm : List Value} {s : Stt} (h : OwnS B w vb vs vm s) {g : Nat} (hg : inS vb vs vm g) : B <= g /\ g < w.heap.size := by
 rcases hg with hg | hg | ⟨v, hv, hg⟩
 . exact aA h.boxes g hg
 . exact aA h.spool g hg
 . obtain ⟨i, hi, rfl⟩ := List.getElem_of_mem hv; have hi' : i < s.boxes.length := by rw [<- h.len]; exact hi
   exact aA (h.mails i _ _ (aw hi') (aw hi)) g hg
theorem OwnS.next (h : OwnS B w vb vs vm s) (hb : Below w.heap.size w w') : OwnS B w' vb vs vm s := h.keep fun g hg => hb.block g (h.lt hg).2
theorem jao {l : List A} {css : List (List Value)} {P : A -> List Value -> Prop} (h : w.ownsRow B e k v n css.flatten) (hn : n = l.length) (hm : n <= maxLen) (hl : css.length = l.length) (he : ∀ cs ∈ css, cs.length = k)
 (hP : ∀ (i : Nat) x cs, l[i]? = some x -> css[i]? = some cs -> P x cs) (hQ : ∀ g, v.ownBlock = some g -> Q g) : RowM Q k P w v l := by
 subst hn
 rcases h.2 with ⟨rfl, h0⟩ | ⟨g, cap, cur, rfl, hb, hg, h1, h2, h3, ht⟩
 . have : l = [] := bh.1 h0; subst this; exact jh _ _ _ _ _ _
 . refine ⟨some ⟨g, 0, none⟩, cap, rfl, hm, fun i x hx => ?_⟩; have hi : i < l.length := (au.1 hx).1; have hc : css[i]? = some css[i] := aw (by omega); refine ⟨g, 0, css[i], rfl, (aj.1 hg).1, hQ g rfl, he _ (aF hc), ?_, hP i x _ hx hc⟩; intro j u hj; have hjk : j < k := by rw [<- he _ (aF hc)]; exact (au.1 hj).1
   have := bD h (g := g) rfl (i * k + j) u (by rw [ja5 he hc hjk]; exact hj); rw [bg] at this
   simpa [Nat.add_assoc] using this
theorem OwnS.stt (h : OwnS B w vb vs vm s) (hm : May s) (hQ : ∀ g, inS vb vs vm g -> Q g) : SttM Q w vb vs s := by
 have h1 := hm.boxes; have h2 := hm.spool; refine ⟨jao h.boxes rfl (by unfold maxLen; omega) (jdW _ _ h.len) (qg _ _) (fun i b cs hb hc => ?_) (fun g hg => hQ g (.inl hg)), jao h.spool rfl (by unfold maxLen; omega) (by simp) (zI entC (fun _ => rfl) _) (fun i x cs hx hc => ?_) (fun g hg => hQ g (.inr (.inl hg))), ?_⟩
 . have hi : i < vm.length := by rw [h.len]; exact (au.1 hb).1
   have hv : vm[i]? = some vm[i] := aw hi; rw [ja2 _ _ _ _ _ hb hv] at hc; cases hc; have h3 := (hm.each b (aF hb)).many; exact ⟨_, rfl, jao (h.mails i b _ hb hv) rfl (by unfold maxLen; omega) (by simp) (zI jaT (fun _ => rfl) _) (fun j x cs hx hc => by
    rw [ba, hx] at hc; cases hc; rfl) (fun g hg => hQ g (.inr (.inr ⟨_, aF hv, hg⟩)))⟩
 . rw [ba, hx] at hc; cases hc; rfl
 . intro a n c e
   rcases h.boxes.2 with ⟨e', _⟩ | ⟨g, cap, cur, e', _, _, h1, _⟩
   . rw [e'] at e; cases e; exact ai _
   . rw [e'] at e; cases e; exact h1
theorem OwnS.small (h : OwnS B w vb vs vm s) : ∃ a c, vb = .slice a s.boxes.length c := by
 rcases h.boxes.2 with ⟨rfl, hn⟩ | ⟨g, cap, cur, rfl, _⟩
 . exact ⟨none, 0, by rw [hn]⟩
 . exact ⟨_, _, rfl⟩
theorem OwnS.box (h : OwnS B w vb vs vm s) {b : Bx} (hb : s.boxes[i]? = some b) : ∃ g c v, vb = .slice (some ⟨g, 0, none⟩) s.boxes.length c /\ vm[i]? = some v /\ w.cell? ⟨g, i * 3, none⟩ = some (.string (S b.name)) /\ w.cell? ⟨g, i * 3 + 1, none⟩ = some (.int .i64 b.next) /\ w.cell? ⟨g, i * 3 + 2, none⟩ = some v /\
 w.frozen? ⟨g, i * 3 + 1, none⟩ = false /\ w.frozen? ⟨g, i * 3 + 2, none⟩ = false := by
 have dE : i < s.boxes.length := (au.1 hb).1; have hi : i < vm.length := by rw [h.len]; exact dE
 have hv : vm[i]? = some vm[i] := aw hi
 rcases h.boxes.2 with ⟨_, hn⟩ | ⟨g, cap, cur, e, _, hg, _⟩
 . omega
 . have hat := ja2 _ _ _ _ _ hb hv; have hc : ∀ j u, (boxC b vm[i])[j]? = some u -> w.cell? ⟨g, i * 3 + j, none⟩ = some u := fun j u hj => by
    have Ch : j < 3 := (au.1 hj).1; have := bD h.boxes (g := g) (by rw [e]; rfl) (i * 3 + j) u (by rw [ja5 (qg _ _) hat Ch]; exact hj); rw [bg] at this
    simpa using this
   exact ⟨g, cap, _, e, hv, hc 0 _ rfl, hc 1 _ rfl, hc 2 _ rfl, by simp [World.frozen?, hg], by simp [World.frozen?, hg]⟩
theorem jcq (h : w.ownsRow B e k (.slice (some ⟨g, 0, none⟩) n c) n xs) (j : Nat) (u : Value) :
 (w.setCell ⟨g, j, none⟩ u).ownsRow B e k (.slice (some ⟨g, 0, none⟩) n c) n (xs.set j u) := by
 refine ⟨by rw [List.length_set]; exact h.1, .inr ?_⟩
 rcases h.2 with ⟨h', _⟩ | ⟨g', cap', cur, h', hb, hg, h1, h2, h3, eU⟩
 . simp at h'
 . simp only [aE, aS, Addr.mk.injEq, and_true, true_and] at h'; obtain ⟨rfl, rfl⟩ := h'; refine ⟨g, c, cur.setIfInBounds j u, rfl, hb, aM w g j cur e u hg, h1, h2, by simpa using h3, ?_⟩; rw [Array.toList_setIfInBounds, List.take_set, eU]
theorem jB {j : Nat} (h : k ≠ g) : (w.setCell ⟨g, j, none⟩ u).heap[k]? = w.heap[k]? := aC _ _ _ _ h
theorem OwnS.setNext {b : Bx} {n : Int} (h : OwnS B w (.slice (some ⟨g, 0, none⟩) s.boxes.length c) vs vm s) (hb : s.boxes[i]? = some b) :
 OwnS B (w.setCell ⟨g, i * 3 + 1, none⟩ (.int .i64 n)) (.slice (some ⟨g, 0, none⟩) s.boxes.length c) vs vm ⟨s.boxes.set i ⟨b.name, n, b.mails⟩, s.spool⟩ := by
 have dE : i < s.boxes.length := (au.1 hb).1; have hi : i < vm.length := by rw [h.len]; exact dE
 have hv : vm[i]? = some vm[i] := aw hi; refine ⟨?_, jf h.spool fun k hk => jB fun e => h.bs g rfl (by rw [<- e]; exact hk), by simpa using h.len, ?_, h.bs, h.mb, h.ms, h.mm⟩
 . have := jcq h.boxes (i * 3 + 1) (.int .i64 n); rw [ja6 _ (qg _ _) (ja2 _ _ _ _ _ hb hv) (by omega)] at this; have e : (bxCs s.boxes vm).set i ((boxC b vm[i]).set 1 (.int .i64 n)) = bxCs (s.boxes.set i ⟨b.name, n, b.mails⟩) vm := by
    have := jdX s.boxes vm i ⟨b.name, n, b.mails⟩ vm[i] h.len; rw [List.set_getElem_self] at this; rw [this]; rfl
   rw [e] at this
   simpa using this
 . intro j c' v hc hv'; have hk : ∀ k, v.ownBlock = some k -> (w.setCell ⟨g, i * 3 + 1, none⟩ (.int .i64 n)).heap[k]? = w.heap[k]? := fun k hk => jB fun e => h.mb v (aF hv') k hk (by rw [e]; rfl)
   by_cases iG : i = j
   . subst iG; rw [br dE] at hc; cases hc; exact jf (h.mails i b v hb hv') hk
   . rw [bj iG] at hc; exact jf (h.mails j c' v hc hv') hk
theorem OwnS.setMails {v' : Value} {b : Bx} {ms : List Mail} (h : OwnS B w (.slice (some ⟨g, 0, none⟩) s.boxes.length c) vs vm s) (hb : s.boxes[i]? = some b)
 (hw : ∀ k, k < w.heap.size -> some k ≠ (vm.getD i (.slice none 0 0)).ownBlock -> w'.heap[k]? = w.heap[k]?) (hm : w'.ownsRow B 47 3 v' ms.length (ms.map jaT).flatten) (hat : v'.ownBlock = (vm.getD i (.slice none 0 0)).ownBlock ∨ ∀ k, v'.ownBlock = some k -> w.heap.size <= k) :
 OwnS B (w'.setCell ⟨g, i * 3 + 2, none⟩ v') (.slice (some ⟨g, 0, none⟩) s.boxes.length c) vs (vm.set i v') ⟨s.boxes.set i ⟨b.name, b.next, ms⟩, s.spool⟩ := by
 have dE : i < s.boxes.length := (au.1 hb).1; have hi : i < vm.length := by rw [h.len]; exact dE
 have hv : vm[i]? = some vm[i] := aw hi; have hd : vm.getD i (.slice none 0 0) = vm[i] := by simp [hi]
 rw [hd] at hw hat; have kw : vm[i] ∈ vm := aF hv; have ap : ∀ u, Apart vm[i] u -> (∀ k, u.ownBlock = some k -> k < w.heap.size) -> Apart v' u := fun u hu hl k hk dF => by
  rcases hat with e | e
  . exact hu k (by rw [<- e]; exact hk) dF
  . have := e k hk; have := hl k dF; omega
 have uV : ∀ k, (Value.slice (some ⟨g, 0, none⟩) s.boxes.length c).ownBlock = some k -> k < w.heap.size := fun k hk => (aA h.boxes k hk).2
 have lS : ∀ k, vs.ownBlock = some k -> k < w.heap.size := fun k hk => (aA h.spool k hk).2
 have nC : ∀ (j : Nat) u, vm[j]? = some u -> ∀ k, u.ownBlock = some k -> k < w.heap.size := fun j u hu k hk => (h.lt (.inr (.inr ⟨u, aF hu, hk⟩))).2
 have hg : w'.heap[g]? = w.heap[g]? := hw g (uV g rfl) fun e => h.mb _ kw g e.symm rfl
 have gn : w'.ownsRow B 40 3 (.slice (some ⟨g, 0, none⟩) s.boxes.length c) s.boxes.length (bxCs s.boxes vm).flatten := jf h.boxes fun k hk => by cases hk; exact hg
 have hne : ∀ k, v'.ownBlock = some k -> k ≠ g := fun k hk e => ap _ (h.mb _ kw) uV k hk (by rw [e]; rfl)
 refine ⟨?_, ?_, by simpa using h.len, ?_, h.bs, ?_, ?_, ?_⟩
 . have := jcq gn (i * 3 + 2) v'; rw [ja6 _ (qg _ _) (ja2 _ _ _ _ _ hb hv) (by omega)] at this; have e : (bxCs s.boxes vm).set i ((boxC b vm[i]).set 2 v') = bxCs (s.boxes.set i ⟨b.name, b.next, ms⟩) (vm.set i v') := by
    rw [jdX _ _ _ _ _ h.len]; rfl
   rw [e] at this
   simpa using this
 . refine jf h.spool fun k hk => ?_
   rw [jB fun e => h.bs g rfl (by rw [<- e]; exact hk)]; exact hw k (lS k hk) fun e => h.ms _ kw k e.symm hk
 . intro j c' v hc hv'
   by_cases iG : i = j
   . subst iG; rw [br dE] at hc; rw [br hi] at hv'; cases hc; cases hv'; exact jf hm fun k hk => jB (hne k hk)
   . rw [bj iG] at hc; rw [bj iG] at hv'; refine jf (h.mails j c' v hc hv') fun k hk => ?_
     rw [jB fun e => h.mb v (aF hv') k hk (by rw [e]; rfl)]; exact hw k (nC j v hv' k hk) fun e => h.mm i j _ _ iG hv hv' k e.symm hk
 . intro u hu
   rcases jaO hu with rfl | hu
   . exact ap _ (h.mb _ kw) uV
   . exact h.mb u hu
 . intro u hu
   rcases jaO hu with rfl | hu
   . exact ap _ (h.ms _ kw) lS
   . exact h.ms u hu
 . intro j k u v hjk hu hv'
   by_cases iG : i = j
   . subst iG; rw [br hi] at hu; rw [bj hjk] at hv'; cases hu; exact ap _ (h.mm i k _ _ hjk hv hv') (nC k v hv')
   . by_cases hik : i = k
     . subst hik; rw [br hi] at hv'; rw [bj iG] at hu; cases hv'; exact (ap _ (h.mm i j _ _ iG hv hu) (nC j u hu)).symm
     . rw [bj iG] at hu; rw [bj hik] at hv'; exact h.mm j k u v hjk hu hv'
theorem joI : (Tryz.prog.info? 44).map (fun i => (i.zero, i.size, i.bytes)) = some (some (.agg #[.slice none 0 0, .slice none 0 0]), 2, 48) := by kernel_rfl
theorem jj7 (ad : Addr) (n c : Nat) (news : List Value) (w : World) (hl : news.length = n * 2) (hn : n <= 1000) (hc : ∀ j u, news[j]? = some u -> w.cell? (ad.add j) = some u) (h1 : ∀ u ∈ news, u.oneCell' = true) :
 Calls Tryz.prog 45 #[.slice (some ad) n c] w fun e w' => ∃ v', e = .returned v' /\ (w'.ownsRow w.heap.size 44 2 v' n news) /\ Below w.heap.size w w' := by
 obtain ⟨i0, hi, hz0, hz1, hz2⟩ := info_parts joI; have q22 : ∀ (w : World) (a : Option Addr) (n c n' c' : Nat), (binOp .eql 26 (.slice a n c) (.slice none n' c')).run Tryz.prog w = .ok (.bool a.isNone) w := fun w a n c n' c' => Lib.run_eql_slice_nil w _ _ a n c n' c' Tryz.underlying26
 have HC := hid hc; have H1 := hid h1; have HL := hid hl; clear hc h1 hl; go_enter Tryz.func45, Tryz.ntmps45
 go_wp2_with (at_builtin; refine wpList_append_own _ rfl _ _ 26 rfl w.heap.size 44 i0 _ 2 48 Tryz.underlying26 hi hz0 hz1 hz2 rfl (by decide) _ _ _ rfl (World.ownsRow_made w #[] 0 (ai _) (aQ _) rfl) ad n c news rfl ?qc1 ?qc2 ?qc3 ?qc4 ?qc5 ?qc6 ?_)
 case qc1 => exact HL.out
 case qc2 => exact fun j u hj => Lib.cell?_alloc_some _ (HC.out j u hj)
 case qc3 => exact H1.out
 case qc4 => unfold maxLen; omega
 case qc5 => omega
 case qc6 => simp
 intro v' w1 hown hgrow hnil; have HO := hid hown; have HB := hid (show Below w.heap.size w w1 from ((ay _ w).alloc (ai _) _).grown hgrow (by simp) (by intro k hk; simp [Value.ownBlock] at hk; omega)); clear hown hgrow hnil; go_wp2; go_ret; exact ⟨v', rfl, by simpa using HO.out, HB.out⟩
theorem jcw (h : But b w w') (o : Nat) (v : Value) : But b w (w'.setCell ⟨b, o, none⟩ v) :=
 ⟨h.os, h.tape, h.output, by simpa [World.setCell] using h.size, fun k hk hn => (aC _ _ _ _ hn).trans (h.block k hk hn)⟩
theorem jhz (h : But b w w') : But b w w'.drew := ⟨h.os, h.tape, h.output, h.size, h.block⟩
theorem jmM (h : But b w w') (hp : w.cell? p = some v) (hn : p.block ≠ b) : w'.cell? p = some v :=
 (aP (w := w) (h.block p.block (aG w _ hp) hn)).trans hp
theorem jjS (a : Addr) (j : Nat) : (a.add j).block = a.block := by unfold Addr.add; split <;> rfl
def LgR (w : World) (b : Nat) (v0 v1 v2 v3 v4 v5 : Value) (wx : World) : Prop := wx.heap[b]? = some (.cells #[v0, v1, v2, v3, v4, v5] 70) /\ But b w wx
theorem LgR.of (h : w.heap[b]? = some (.cells #[v0, v1, v2, v3, v4, v5] 70)) (x y : Value) : LgR w b v0 v1 x y v4 v5 ((w.setCell ⟨b, 2, none⟩ x).setCell ⟨b, 3, none⟩ y).drew := by
 refine ⟨?_, jhz (jcw (jcw (But.refl _ _) 2 x) 3 y)⟩; have h1 := aM _ b 3 _ _ y (aM w b 2 _ _ x h)
 simp at h1
 exact h1
theorem LgR.of' (h : w.heap[b]? = some (.cells #[v0, v1, v2, v3, v4, v5] 70)) (x y : Value) : LgR w b v0 v1 x y v4 v5 ((w.setCell ⟨b, 3, none⟩ y).setCell ⟨b, 2, none⟩ x).drew := by
 refine ⟨?_, jhz (jcw (jcw (But.refl _ _) 3 y) 2 x)⟩; have h1 := aM _ b 2 _ _ x (aM w b 3 _ _ y h)
 simp at h1
 exact h1
theorem jcL {B' : Nat} (h : w.ownsRow B e k v n xs) (hB : B' <= B) : w.ownsRow B' e k v n xs := by
 refine ⟨h.1, ?_⟩
 rcases h.2 with h' | ⟨g, cap, cur, h1, h2, h3⟩
 . exact .inl h'
 . exact .inr ⟨g, cap, cur, h1, aN hB h2, h3⟩
def StP (w : World) (b : Nat) (td ts : Value) (sy wa : Int) (ad : Addr) (n c : Nat) (news : List Value) (e : Ending) (w' : World) : Prop :=
 (∃ v, e = .returned v) /\ ∃ v', w'.heap[b]? = some (.cells #[td, ts, .int .i64 (sy + wa), .int .i64 0, v', .slice (some ad) n c] 70) /\ w'.ownsRow w.heap.size 44 2 v' n news /\ But b w w'
theorem jjA (b : Nat) (td ts v4 : Value) (sy wa : Int) (ad : Addr) (n c : Nat) (news : List Value) (w : World) (hb : w.heap[b]? = some (.cells #[td, ts, .int .i64 sy, .int .i64 wa, v4, .slice (some ad) n c] 70))
 (ll : 0 <= sy /\ sy <= 1000000) (mC : 0 <= wa /\ wa <= 1000000) (hl : news.length = n * 2) (hn : n <= 1000) (hc : ∀ j u, news[j]? = some u -> w.cell? (ad.add j) = some u) (h1 : ∀ u ∈ news, u.oneCell' = true) (had : ad.block ≠ b) :
 Calls Tryz.prog 28 #[.pointer (some ⟨b, 0, none⟩)] w (StP w b td ts sy wa ad n c news) := by
 have HB := hid hb; have HC := hid hc; have H1 := hid h1; have HL := hid hl; have hwr : IntKind.i64.wrap (sy + wa) = sy + wa := by rw [IntKind.wrap_i64]; omega
 obtain ⟨c0, c1, c2, c3, c4, c5⟩ := bx6 hb; have zf : ∀ o, w.frozen? ⟨b, o, none⟩ = false := fun o => by simp [World.frozen?, hb]
 clear hb hc h1 hl; go_enter Tryz.func28, Tryz.ntmps28; go_upto_region 0 with fail
 have dG := hid (LgR.of HB.out (.int .i64 (sy + wa)) (.int .i64 0)); have dq := hid (LgR.of' HB.out (.int .i64 (sy + wa)) (.int .i64 0))
 go_cut [] (fun wx => LgR w b td ts (.int .i64 (sy + wa)) (.int .i64 0) v4 (.slice (some ad) n c) wx)
 case first =>
  go_region_law (fail)
  all_goals first
   | (have HE := dG; go_wp2_with fail; go_meet; exact HE.out)
   | (have HE := dq; go_wp2_with fail; go_meet; exact HE.out)
   | fail
 case rest =>
  obtain ⟨hx, hB⟩ := hcut; obtain ⟨W1, rfl⟩ : ∃ W, W = wc := ⟨_, rfl⟩; have hlt : b < W1.heap.size := (aj.1 hx).1; have HX := hid hx; have kJ := hid hB; have d5 : W1.cell? ⟨b, 5, none⟩ = some (.slice (some ad) n c) := by simp [World.cell?, hx]
  clear hx hB c0 c1 c2 c3 c4 c5 zf; go_wp2_with fail; refine (jj7 ad n c news W1 HL.out hn (fun j u hj => jmM kJ.out (HC.out j u hj) (by rw [jjS]; exact had)) H1.out).mono ?_; rintro e w2 ⟨v', rfl, ho, hb2⟩; obtain ⟨a', c', rfl⟩ := jaP ho; have hx2 := (hb2.block b hlt).trans HX.out; have e4 : w2.cell? ⟨b, 4, none⟩ = some v4 := by simp [World.cell?, hx2]
  have zf : ∀ o, w2.frozen? ⟨b, o, none⟩ = false := fun o => by simp [World.frozen?, hx2]
  have hz1 := kJ.out.size; have HE := hid (show StP w b td ts sy wa ad n c news (.returned (.tuple #[])) (w2.setCell ⟨b, 4, none⟩ (.slice a' n c')) from ⟨⟨_, rfl⟩, .slice a' n c', by have := aM w2 b 4 _ _ (.slice a' n c') hx2; simpa using this, by
   have h := jf (w' := w2.setCell ⟨b, 4, none⟩ (.slice a' n c')) ho fun g hg => aC _ _ _ _ (fun e => by have e' : g = b := e; have := (aA ho g hg).1; omega)
   exact jcL h hz1, jcw ((kJ.out).trans (But.of hb2)) 4 _⟩)
  clear ho hb2 hx2; go_wp2; go_end0; exact HE.out
def inbC (bs : List Nat) : List Value := bs.flatMap fun b => [.slice (some ⟨b, 0, none⟩) 1 1, .slice none 0 0]
def inbB (w : World) (B : Nat) (bs : List Nat) : Prop := ∀ b ∈ bs, B <= b /\ w.heap[b]? = some (.cells #[.string ⟨#[73, 78, 66, 79, 88]⟩, .int .i64 1, .slice none 0 0] 40)
theorem qk (w : World) (cs : List Value) (t : TypeId) : ∀ j u, cs[j]? = some u -> (w.alloc (.cells cs.toArray t)).cell? ((⟨w.heap.size, 0, none⟩ : Addr).add j) = some u := by
 intro j u hj; rw [bg]; have := az w (.cells cs.toArray t); simp only [World.cell?, this, bc]
 simpa using hj
theorem But.lowB' (h : But b w w') (hb : B <= b) (hB : B <= w.heap.size) : Below B w w' := ⟨h.os, h.tape, h.output, h.size, fun k hk => h.block k (by omega) (by omega)⟩
theorem put6 {t : TypeId} (v0 v1 v2 v3 v4 v5 : Value) {u0 u1 u2 u3 u4 u5 : Value} (h : w.heap[b]? = some (.cells #[u0, u1, u2, u3, u4, u5] t)) : (w.setCells b 0 [v0, v1, v2, v3, v4, v5]).heap[b]? = some (.cells #[v0, v1, v2, v3, v4, v5] t) := by
 have h := aM _ b 0 _ t v0 h; have h := aM _ b 1 _ t v1 h; have h := aM _ b 2 _ t v2 h; have h := aM _ b 3 _ t v3 h; have h := aM _ b 4 _ t v4 h; have h := aM _ b 5 _ t v5 h; simp only [World.setCells, Nat.reduceAdd]
 simpa using h
theorem jgp (hn : k ≠ b) : ∀ (vs : List Value) (o : Nat) (w : World), (w.setCells b o vs).heap[k]? = w.heap[k]? := by
 intro vs
 induction vs with
 | nil => intro o w; rfl
 | cons v vs ih => intro o w; exact (ih (o + 1) _).trans (aC _ _ _ _ hn)
theorem jj6 {w2 : World} {vs : List Value} (hb : B <= b) (h : Below B w w2) : Below B w (w2.setCells b o vs) := by
 induction vs generalizing w2 o with
 | nil => exact h
 | cons v vs ih => exact ih (h.setCell hb v)
theorem jhK (bs : List Nat) : (inbC bs).length = bs.length * 2 := by
 induction bs with
 | nil => rfl
 | cons b bs ih => rw [inbC, List.flatMap_cons, aB, show (bs.flatMap fun b => [Value.slice (some ⟨b, 0, none⟩) 1 1, .slice none 0 0]) = inbC bs from rfl, ih]; simp; omega
theorem jkJ (bs : List Nat) (b : Nat) : inbC (bs ++ [b]) = inbC bs ++ [.slice (some ⟨b, 0, none⟩) 1 1, .slice none 0 0] := by simp [inbC]
theorem jni (bs : List Nat) : ∀ u ∈ inbC bs, u.oneCell' = true := by
 intro u hu; obtain ⟨b, _, h⟩ := List.mem_flatMap.1 hu
 simp at h
 rcases h with rfl | rfl <;> rfl
def NlP (w : World) (n : Nat) (e : Ending) (w' : World) : Prop :=
 ∃ (bs : List Nat) (sa ta : Option Addr) (cs cst : Nat), e = .returned (.agg #[.slice none 0 0, .int .i64 0, .int .i64 0, .int .i64 0, .slice sa n cs, .slice ta n cst]) /\ bs.length = n /\ inbB w' w.heap.size bs /\
   w'.ownsRow w.heap.size 44 2 (.slice sa n cs) n (inbC bs) /\ w'.ownsRow w.heap.size 44 2 (.slice ta n cst) n (inbC bs) /\ (∀ q, (Value.slice sa n cs).ownBlock = some q -> (Value.slice ta n cst).ownBlock ≠ some q) /\ Below w.heap.size w w'
theorem jel (n : Nat) (hn : 0 < n /\ n <= 3) (w : World) : Calls Tryz.prog 19 #[.int .i64 n] w (NlP w n) := by
 obtain ⟨i0, hi, hz0, hz1, hz2⟩ := info_parts joI; obtain ⟨W0, hW0⟩ : ∃ W0, W0 = (w.alloc (.cells #[.slice none 0 0, .int .i64 0, .int .i64 0, .int .i64 0, .slice none 0 0, .slice none 0 0] 70)).alloc (.cells #[.slice none 0 0, .int .i64 0, .int .i64 0, .int .i64 0, .slice none 0 0, .slice none 0 0] 70) := ⟨_, rfl⟩; have dc : Below w.heap.size w W0 := by rw [hW0]; exact (nb0 _ _).alloc (by simp) _
 have hz : W0.heap.size = w.heap.size + 2 := by rw [hW0]; simp
 have oA : W0.heap[w.heap.size]? = some (.cells #[.slice none 0 0, .int .i64 0, .int .i64 0, .int .i64 0, .slice none 0 0, .slice none 0 0] 70) := by
  rw [hW0]; exact ((nb0 _ _).block w.heap.size (by simp)).trans (az w _)
 have hl0 : W0.heap[w.heap.size + 1]? = some (.cells #[.slice none 0 0, .int .i64 0, .int .i64 0, .int .i64 0, .slice none 0 0, .slice none 0 0] 70) := by
  rw [hW0]; have := az (w.alloc (.cells #[.slice none 0 0, .int .i64 0, .int .i64 0, .int .i64 0, .slice none 0 0, .slice none 0 0] 70)) (.cells #[.slice none 0 0, .int .i64 0, .int .i64 0, .int .i64 0, .slice none 0 0, .slice none 0 0] 70)
  simpa using this
 have b9 := hid hW0; have cj := hid dc; have dj := hid oA; have tj := hid hl0; clear hW0 dc oA hl0; go_enter Tryz.func19, Tryz.ntmps19; go_wp2; rw [<- b9.out]
 go_loopw [8] (fun i wr => ∃ (k : Nat) (bs : List Nat) (a9 : Option Addr) (c9 : Nat), k <= n /\ i = .int .i64 k /\ bs.length = k /\ Hid (wr.heap[w.heap.size + 1]? = some (.cells #[.slice none 0 0, .int .i64 0, .int .i64 0, .int .i64 0, .slice none 0 0, .slice a9 k c9] 70)) /\ Hid (wr.ownsRow W0.heap.size 44 2 (.slice a9 k c9) k (inbC bs)) /\ Hid (inbB wr W0.heap.size bs) /\ Hid (∀ q ∈ bs, (Value.slice a9 k c9).ownBlock ≠ some q) /\ Hid (But (w.heap.size + 1) W0 wr)) (fun i _ => n - (intOf i).toNat)
 case atStart => exact ⟨0, [], none, 0, aQ _, rfl, rfl, tj, hid (aR _ _ _ _), hid (fun b hb => by cases hb), hid (fun b hb => by cases hb), hid (But.refl _ _)⟩
 case round =>
  obtain ⟨k, bs, a9, c9, hk, rfl, hbl, HX, HO, HI, mH, kJ⟩ := hrel
  by_cases hlt : k < n
  . have k1 : (k : Int) < (n : Int) := by omega
    have k0 : (0 : Int) <= (k : Int) := by omega
    go_wp2_with fail; refine (jm8 k (by omega) wr).mono ?_; rintro e w2 ⟨b, rfl, gn, pI, hb2⟩; have dt : w.heap.size + 1 < wr.heap.size := by have := kJ.out.size; omega
    obtain ⟨W3, hW3⟩ : ∃ W3, W3 = w2.alloc (.cells #[.slice (some ⟨b, 0, none⟩) 1 1, .slice none 0 0] 44) := ⟨_, rfl⟩; have cM := hid hW3; have cy : Below wr.heap.size wr W3 := by rw [hW3]; exact hb2.alloc hb2.size _
    have df : W3.heap[w2.heap.size]? = some (.cells #[.slice (some ⟨b, 0, none⟩) 1 1, .slice none 0 0] 44) := by rw [hW3]; exact az w2 _
    have x0 : W3.cell? ⟨w2.heap.size, 0, none⟩ = some (.slice (some ⟨b, 0, none⟩) 1 1) := by simp [World.cell?, df]
    have x1 : W3.cell? ⟨w2.heap.size, 1, none⟩ = some (.slice none 0 0) := by simp [World.cell?, df]
    have hL3 := (cy.block _ dt).trans HX.out; have y5 : W3.cell? ⟨w.heap.size + 1, 5, none⟩ = some (.slice a9 k c9) := by simp [World.cell?, hL3]
    have l7 := hid hL3; have db := hid (jf HO.out fun g hg => cy.block g (aA HO.out g hg).2); have sB : b < w2.heap.size := (aj.1 gn).1; have rH := hid (show inbB W3 W0.heap.size (bs ++ [b]) from fun q hq => by
        rcases bo.1 hq with h | h
        . obtain ⟨h1, h2⟩ := HI.out q h; exact ⟨h1, (cy.block q (aj.1 h2).1).trans h2⟩
        . rw [show q = b by simpa using h]; refine ⟨by have := kJ.out.size; omega, ?_⟩; rw [hW3]; exact ((nb0 _ _).block b sB).trans gn)
    have bZ := hid (kJ.out.trans (But.of cy)); have hz3 := bZ.out.size; clear hb2 cy hW3 df gn hL3; go_upto_region 6 with fail
    rw [<- cM.out]
    go_wp2_with (first
        | (at_builtin; refine wpList_append_lies _ rfl _ _ 26 rfl W0.heap.size 44 i0 _ 2 48 Tryz.underlying26 hi hz0 hz1 hz2 rfl (by omega) (.slice a9 k c9) k (inbC bs) rfl (aO db.out _) ⟨W3.heap.size, 0, none⟩ 1 1 [.slice (some ⟨b, 0, none⟩) 1 1, .slice none 0 0] rfl rfl (qk W3 [.slice (some ⟨b, 0, none⟩) 1 1, .slice none 0 0] _) ?c1 (by omega) ?c2 ?c3 ?c4 _ rfl ?_)
        | fail)
    case c1 => simp [Value.oneCell']
    case c2 => unfold maxLen; omega
    case c3 => omega
    case c4 => simp; omega
    intro gm cap w4 hown hgrow hat ei; have hW3z : w2.heap.size < W3.heap.size := by rw [cM.out]; simp
    have hne : ∀ q ∈ bs ++ [b], (Value.slice a9 k c9).ownBlock ≠ some q := fun q hq e => by
        rcases bo.1 hq with h | h
        . exact mH.out q h e
        . have h1 := (aA HO.out q e).2; rw [show q = b by simpa using h] at h1; omega
    have CA : (Value.slice a9 k c9).ownBlock ≠ some (w.heap.size + 1) := fun e => by have := (aA db.out _ e).1; omega
    have al : ∀ q x, W3.heap[q]? = some x -> (Value.slice a9 k c9).ownBlock ≠ some q -> w4.heap[q]? = some x := fun q x hx hq => by
        have gR := (aj.1 hx).1; exact (hgrow.block q (by simp; omega) (fun e => hq e.symm)).trans ((((ay _ W3).alloc (ai _) _).block q gR).trans hx)
    have hL4 := al _ _ l7.out CA; have z5 : w4.cell? ⟨w.heap.size + 1, 5, none⟩ = some (.slice a9 k c9) := by simp [World.cell?, hL4]
    have zf : w4.frozen? ⟨w.heap.size + 1, 5, none⟩ = false := by simp [World.frozen?, hL4]
    have nw : W0.heap.size <= gm := by
        rcases hat with e | e
        . exact (aA db.out gm e).1
        . have e' : gm = W3.heap.size + 1 := by simpa using e
          omega
    obtain ⟨W5, cQ⟩ : ∃ W5, W5 = w4.setCell ⟨w.heap.size + 1, 5, none⟩ (.slice (some ⟨gm, 0, none⟩) (k + 1) cap) := ⟨_, rfl⟩; have iY := hid cQ; have st : ∀ q, q ≠ w.heap.size + 1 -> W5.heap[q]? = w4.heap[q]? := fun q hq => by rw [cQ]; exact aC _ _ _ _ hq
    have i5 := hid (show W5.heap[w.heap.size + 1]? = some (.cells #[.slice none 0 0, .int .i64 0, .int .i64 0, .int .i64 0, .slice none 0 0, .slice (some ⟨gm, 0, none⟩) (k + 1) cap] 70) by
        rw [cQ]; have := aM w4 (w.heap.size + 1) 5 _ _ (.slice (some ⟨gm, 0, none⟩) (k + 1) cap) hL4
        simpa using this)
    have eO := hid (show W5.ownsRow W0.heap.size 44 2 (.slice (some ⟨gm, 0, none⟩) (k + 1) cap) (k + 1) (inbC (bs ++ [b])) from jf (by rw [jkJ, hz]; exact hown) fun g hg => st g (fun e => by have : gm = g := bk hg; omega)); have xe := hid (show inbB W5 W0.heap.size (bs ++ [b]) from fun q hq => ⟨(rH.out q hq).1, (st q (fun e => by have := (rH.out q hq).1; omega)).trans (al _ _ (rH.out q hq).2 (hne q hq))⟩); have oD := hid (show ∀ q ∈ bs ++ [b], (Value.slice (some (⟨gm, 0, none⟩ : Addr)) (k + 1) cap).ownBlock ≠ some q from fun q hq e => by
        have e1 : gm = q := bk e; have gR := (aj.1 (rH.out q hq).2).1
        rcases hat with h | h
        . exact hne q hq (by rw [h, e1])
        . have e' : gm = W3.heap.size + 1 := by simpa using h
          omega)
    have oF := hid (show But (w.heap.size + 1) W0 W5 by
        refine ⟨?_, ?_, ?_, ?_, fun q hq hn => ?_⟩
        . rw [cQ]; exact hgrow.os.trans bZ.out.os
        . rw [cQ]; exact hgrow.tape.trans bZ.out.tape
        . rw [cQ]; exact hgrow.output.trans bZ.out.output
        . rw [cQ]; have := hgrow.size; simp [World.setCell] at this ⊢; omega
        . rw [st q hn]; have hx : W0.heap[q]? = some W0.heap[q] := aY hq; rw [hx]; exact al q _ ((bZ.out.block q hq hn).trans hx) (fun e => by have := (aA db.out _ e).1; omega))
    clear hown hgrow hat al st cQ; go_wp2; rw [<- iY.out]
    go_roundw
    case rel => first | exact ⟨k + 1, bs ++ [b], _, cap, by omega, by go_num, by simp [hbl], i5, eO, xe, oD, oF⟩ | ((repeat apply Exists.intro); exact ⟨⟨k + 1, bs ++ [b], _, cap, by omega, by go_num, by simp [hbl], i5, eO, xe, oD, oF⟩, rfl⟩)
    case measure => simp [intOf]; omega
  . have k1 : ¬ (k : Int) < (n : Int) := by omega
    obtain rfl : k = n := by omega
    obtain ⟨g, rfl⟩ : ∃ g, a9 = some ⟨g, 0, none⟩ := by
        rcases HO.out.2 with ⟨_, h0⟩ | ⟨g, cap, cur, hv, _⟩
        . omega
        . simp only [aE] at hv; exact ⟨g, hv.1⟩
    have ip := aA HO.out g rfl; go_wp2_with fail; refine (jjA (w.heap.size + 1) (.slice none 0 0) (.int .i64 0) (.slice none 0 0) 0 0 ⟨g, 0, none⟩ k c9 (inbC bs) wr HX.out (by omega) (by omega) (by rw [jhK, hbl]) (by omega) (fun j u hj => by
        have Cg : j < (inbC bs).length := (au.1 hj).1; rw [bg, bc, bv HO.out j (by rw [jhK, hbl] at Cg; omega)]; exact hj) (jni bs) (by show g ≠ w.heap.size + 1; omega)).mono ?_
    rintro e w2 ⟨⟨v, rfl⟩, v', hx2, gM, io⟩; obtain ⟨sa, cs, rfl⟩ := jaP gM; have hs2 := io.size; have Db := kJ.out.size; have hr2 : w2.heap[w.heap.size]? = some (.cells #[.slice none 0 0, .int .i64 0, .int .i64 0, .int .i64 0, .slice none 0 0, .slice none 0 0] 70) := (io.block _ (by omega) (by omega)).trans ((kJ.out.block _ (by omega) (by omega)).trans dj.out); have dQ := hid (jf HO.out fun q hq => io.block q (aA HO.out q hq).2 (fun e => by have := (aA HO.out q hq).1; omega)); have iP := hid (show inbB w2 W0.heap.size bs from fun q hq => ⟨(HI.out q hq).1, (io.block q (aj.1 (HI.out q hq).2).1 (fun e => by have := (HI.out q hq).1; omega)).trans (HI.out q hq).2⟩); have cJ := hid gM; have bY := hid (show Below w.heap.size w w2 from cj.out.trans ((kJ.out.trans io).lowB' (by omega) (by omega))); obtain ⟨x0, x1, x2, x3, x4, x5⟩ := bx6 hx2; obtain ⟨r0, r1, r2, r3, r4, r5⟩ := bx6 hr2; have zf : ∀ o, w2.frozen? ⟨w.heap.size, o, none⟩ = false := fun o => by simp [World.frozen?, hr2]
    have cD := hid hr2; clear hx2 gM io hr2; go_wp2; have hput := put6 (w := w2) (b := w.heap.size) (.slice none 0 0) (.int .i64 0) (.int .i64 0) (.int .i64 0) (.slice sa k cs) (.slice (some ⟨g, 0, none⟩) k c9) cD.out; have hst : ∀ q, q ≠ w.heap.size -> (w2.setCells w.heap.size 0 [.slice none 0 0, .int .i64 0, .int .i64 0, .int .i64 0, .slice sa k cs, .slice (some ⟨g, 0, none⟩) k c9]).heap[q]? = w2.heap[q]? := fun q hq => jgp hq _ _ _
    have fg := jj6 (b := w.heap.size) (o := 0) (vs := [.slice none 0 0, .int .i64 0, .int .i64 0, .int .i64 0, .slice sa k cs, .slice (some ⟨g, 0, none⟩) k c9]) (ai _) bY.out; simp only [World.setCells, Nat.reduceAdd] at hput hst fg; have m0 := hput; have c0 : ∀ (W : World), W.heap[w.heap.size]? = some (.cells #[.slice none 0 0, .int .i64 0, .int .i64 0, .int .i64 0, .slice sa k cs, .slice (some ⟨g, 0, none⟩) k c9] 70) -> W.cell? ⟨w.heap.size, 0, none⟩ = some (.slice none 0 0) /\ W.cell? ⟨w.heap.size, 1, none⟩ = some (.int .i64 0) /\ W.cell? ⟨w.heap.size, 2, none⟩ = some (.int .i64 0) /\ W.cell? ⟨w.heap.size, 3, none⟩ = some (.int .i64 0) /\ W.cell? ⟨w.heap.size, 4, none⟩ = some (.slice sa k cs) /\ W.cell? ⟨w.heap.size, 5, none⟩ = some (.slice (some ⟨g, 0, none⟩) k c9) := fun W h => by
        refine ⟨?_, ?_, ?_, ?_, ?_, ?_⟩ <;> simp [World.cell?, h]
    obtain ⟨m0, m1, m2, m3, m4, m5⟩ := c0 _ hput; refine aD (v := .agg #[.slice none 0 0, .int .i64 0, .int .i64 0, .int .i64 0, .slice sa k cs, .slice (some ⟨g, 0, none⟩) k c9]) (by simp only [results, Tryz.results19]; simp [go_sem, m0, m1, m2, m3, m4, m5]) rfl ?_; refine ⟨bs, sa, some ⟨g, 0, none⟩, cs, c9, rfl, hbl, ?_, ?_, ?_, fun q hq e => ?_, fg⟩
    . exact fun q hq => ⟨by have := (iP.out q hq).1; omega, (hst q (fun e => by have := (iP.out q hq).1; omega)).trans (iP.out q hq).2⟩
    . exact jcL (jf cJ.out fun q hq => hst q (fun e => by have := (aA cJ.out q hq).1; omega)) (by omega)
    . exact jcL (jf dQ.out fun q hq => hst q (fun e => by have := (aA dQ.out q hq).1; omega)) (by omega)
    . have h1 := (aA cJ.out q hq).1; have h2 : g = q := bk e; omega
theorem jpK {a b : ByteArray} (h : ¬ a = b) : (a.toList == b.toList) = false := by
 rw [bA]; intro e; rw [aW, aW] at e
 apply h
 obtain ⟨⟨x⟩⟩ := a; obtain ⟨⟨y⟩⟩ := b; simp only at e; rw [e]
theorem jqN (a : ByteArray) : (a.toList == a.toList) = true := by simp
theorem joJ (a b : List UInt8) : ((S a).toList == (S b).toList) = decide (a = b) := by
 by_cases h : a = b
 . subst h; simp
 . rw [jpK fun e => h (jo0 e)]; simp [h]
theorem jjT (x y : Adr) (w : World) : (binOp .eql 73 (.agg #[.string (S x.1), .string (S x.2)]) (.agg #[.string (S y.1), .string (S y.2)])).run Tryz.prog w = .ok (.bool (decide (x = y))) w := by
 obtain ⟨a, b⟩ := x; obtain ⟨c, d⟩ := y
 by_cases h1 : a = c
 . subst h1; have e1 := jqN (S a)
   by_cases h2 : b = d
   . subst h2; have e2 := jqN (S b)
     simp [go_sem, *]
   . have e2 : ((S b).toList == (S d).toList) = false := jpK fun e => h2 (jo0 e)
     have e3 : decide ((a, b) = (a, d)) = false := by simp [h2]
     clear h2; simp only [e3]
     simp [go_sem, *]
 . have e1 : ((S a).toList == (S c).toList) = false := jpK fun e => h1 (jo0 e)
   have e3 : decide ((a, b) = (c, d)) = false := by simp [h1]
   clear h1; simp only [e3]
   simp [go_sem, *]
def AdrM (x : Adr) (cs : List Value) : Prop := cs = [.string (S x.1), .string (S x.2)]
def AdrsM (Q : Nat -> Prop) (w : World) (v : Value) (l : List Adr) : Prop := RowM Q 2 AdrM w v l
def qs (l : List Adr) : List Value := (l.map fun x => [Value.string (S x.1), .string (S x.2)]).flatten
def OwnL (w : World) (B : Nat) (v : Value) (l : List Adr) : Prop := w.ownsRow B 73 2 v l.length (qs l)
theorem jdQ (h : AdrsM Q w (.slice a l.length c) l) {x : Adr} (hx : l[i]? = some x) :
 ∃ b o, a = some ⟨b, o, none⟩ /\ b < w.heap.size /\ Q b /\ w.cell? ⟨b, o + i * 2, none⟩ = some (.string (S x.1)) /\ w.cell? ⟨b, o + i * 2 + 1, none⟩ = some (.string (S x.2)) := by
 obtain ⟨a', c', hv, _, hr⟩ := h; simp only [aE, true_and] at hv; obtain ⟨rfl, rfl⟩ := hv; obtain ⟨b, o, cs, rfl, hb, hQ, _, hc, hP⟩ := hr i x hx; have hcs : cs = _ := hP; subst hcs; exact ⟨b, o, rfl, hb, hQ, by simpa using hc 0 _ rfl, by simpa using hc 1 _ rfl⟩
theorem jml {l : List (List UInt8)} (h : TxtsM Q w (.slice a l.length c) l) {x : List UInt8} (hx : l[i]? = some x) :
 ∃ b o, a = some ⟨b, o, none⟩ /\ b < w.heap.size /\ Q b /\ w.cell? ⟨b, o + i, none⟩ = some (.string (S x)) := by
 obtain ⟨a', c', hv, _, hr⟩ := h; simp only [aE, true_and] at hv; obtain ⟨rfl, rfl⟩ := hv; obtain ⟨b, o, cs, rfl, hb, hQ, _, hc, hP⟩ := hr i x hx; have hcs : cs = _ := hP; subst hcs; exact ⟨b, o, rfl, hb, hQ, by simpa using hc 0 _ rfl⟩
theorem AdrsM.next (h : AdrsM Q w v l) (hb : Below w.heap.size w w') : AdrsM Q w' v l := RowM.imp h (fun _ h => h) (Keeps.of_below hb) fun _ _ h => h
theorem AdrsM.any (h : AdrsM Q w v l) : AdrsM anyB w v l := RowM.imp h (fun _ _ => trivial) (Keeps.refl _ _) fun _ _ h => h
theorem TxtsM.nextB {l : List (List UInt8)} (h : TxtsM (· < n) w v l) (hb : Below n w w') : TxtsM (· < n) w' v l := TxtsM.imp h (fun _ h => h) (Keeps.of_below' hb fun _ h => h)
theorem AdrsM.same (h : AdrsM Q w v l) (he : w'.heap = w.heap) : AdrsM Q w' v l := RowM.imp h (fun _ h => h) ⟨by rw [he]; exact ai _, fun _ _ _ => by rw [he]⟩ fun _ _ h => h
theorem jk1 {x : Option Value} (h : w.cell? p = x) (he : w'.heap = w.heap) : w'.cell? p = x := (aP (w := w) (by rw [he])).trans h
theorem qv (l : List Adr) : (qs l).length = l.length * 2 := by
 induction l with
 | nil => rfl
 | cons x l ih => simp only [qs, List.map_cons, bw, aB, aI, aJ] at *; omega
theorem jgo (l : List Adr) (x : Adr) : qs (l ++ [x]) = qs l ++ [.string (S x.1), .string (S x.2)] := by simp [qs]
theorem jdu {x : Adr} (h : l[i]? = some x) : (qs l)[i * 2]? = some (.string (S x.1)) /\ (qs l)[i * 2 + 1]? = some (.string (S x.2)) := by
 induction l generalizing i with
 | nil => simp at h
 | cons g l ih =>
   cases i with
   | zero => simp at h; subst h; simp [qs]
   | succ i =>
     have := ih (i := i) (by simpa using h); have e1 : (i + 1) * 2 = i * 2 + 2 := by omega
     rw [e1]
     simpa [qs] using this
theorem OwnL.slice (h : OwnL w B v l) : ∃ a c, v = .slice a l.length c := by
 rcases h.2 with ⟨rfl, hn⟩ | ⟨g, cap, cur, rfl, _⟩
 . exact ⟨none, 0, by rw [hn]⟩
 . exact ⟨_, _, rfl⟩
theorem OwnL.row (h : OwnL w B v l) (hm : l.length <= maxLen) : AdrsM (B <= ·) w v l := by
 obtain ⟨a, c, rfl⟩ := h.slice; refine ⟨a, c, rfl, hm, fun i x hx => ?_⟩; have hi : i < l.length := (au.1 hx).1; obtain ⟨g, cap, e, hb, hg⟩ := World.ownsRow.form h (by omega); simp only [aE, true_and] at e; obtain ⟨rfl, rfl⟩ := e; obtain ⟨h1, h2⟩ := jdu hx; refine ⟨g, 0, _, rfl, hg, hb, rfl, ?_, rfl⟩; intro j u hj
 match j, hj with
 | 0, hj =>
   simp only [bQ, aS] at hj; subst hj; rw [show 0 + i * 2 + 0 = i * 2 by omega, bv h (i * 2) (by omega)]; exact h1
 | 1, hj =>
   simp only [bR, bQ, aS] at hj; subst hj; rw [show 0 + i * 2 + 1 = i * 2 + 1 by omega, bv h (i * 2 + 1) (by omega)]; exact h2
theorem OwnL.nil (w : World) (B : Nat) : OwnL w B (.slice none 0 0) [] := aR _ _ _ _
theorem jhD [DecidableEq A] {l : List A} {x y : A} (h : l[i]? = some y) : (l.drop i).any (fun z => decide (x = z)) = (decide (x = y) || (l.drop (i + 1)).any (fun z => decide (x = z))) := by
 have hi : i < l.length := (au.1 h).1; have e : l[i] = y := (au.1 h).2; rw [aT hi, e]; rfl
theorem jka [BEq A] [LawfulBEq A] [DecidableEq A] (l : List A) (x : A) : l.any (fun z => decide (x = z)) = l.contains x := by
 induction l with
 | nil => rfl
 | cons y l ih =>
   rw [List.any_cons, ih, List.contains_cons]
   by_cases h : x = y
   . subst h; simp
   . simp [h]
def IxP (w : World) (q : Bool) (e : Ending) (w' : World) : Prop := ∃ z : Int, e = .returned (.int .i64 z) /\ decide (0 <= z) = q /\ Below w.heap.size w w'
theorem jiS (Q : Nat -> Prop) (l : List Adr) (x : Adr) (a : Option Addr) (c : Nat) (w : World) (h : AdrsM Q w (.slice a l.length c) l) :
 Calls Tryz.prog 213 #[.slice a l.length c, .agg #[.string (S x.1), .string (S x.2)]] w (IxP w (l.any fun z => decide (x = z))) := by
 have hm : l.length <= maxLen := by obtain ⟨_, _, _, hm, _⟩ := h; exact hm
 unfold maxLen at hm; obtain ⟨W1, hW1⟩ : ∃ W1, W1 = w.alloc (.cells #[.string (S x.1), .string (S x.2)] 73) := ⟨_, rfl⟩; have b9 := hid hW1; have bX := hid (show Below w.heap.size w W1 by rw [hW1]; exact nb0 _ _); have c0 : W1.cell? ⟨w.heap.size, 0, none⟩ = some (.string (S x.1)) := by rw [hW1]; simp
 have c1 : W1.cell? ⟨w.heap.size, 1, none⟩ = some (.string (S x.2)) := by rw [hW1]; simp
 have HL := hid (h.next bX.out); clear hW1 h; have HN : Hid ((l.any fun z => decide (x = z)) = (l.drop 0).any fun z => decide (x = z)) := rfl; obtain ⟨q, hq⟩ : ∃ q, q = l.any fun z => decide (x = z) := ⟨_, rfl⟩
 rw [<- hq] at HN ⊢; clear hq; have AD := hid (jjT x); go_enter Tryz.func213, Tryz.ntmps213; go_wp2_with fail; rw [<- b9.out]; go_wp2
 go_loopw [8] (fun v wr => ∃ i : Nat, i <= l.length /\ v = .int .i64 i /\ Hid (wr.heap = W1.heap) /\ Hid (Below w.heap.size w wr) /\ Hid (q = (l.drop i).any fun z => decide (x = z))) (fun v _ => l.length - (intOf v).toNat)
 case atStart => exact ⟨0, aQ _, rfl, rfl, bX, HN⟩
 case round =>
  obtain ⟨i, hi, rfl, HW, HB, HI⟩ := hrel; have d0 := jk1 c0 HW.out; have d1 := jk1 c1 HW.out; have AY := hid (HL.out.same HW.out)
  by_cases hlt : i < l.length
  . have i1 : (i : Int) < (l.length : Int) := by omega
    have i0 : (0 : Int) <= (i : Int) := by omega
    obtain ⟨y, hy⟩ : ∃ y, l[i]? = some y := ⟨_, aw hlt⟩; have HS := hid (jhD (x := x) hy); obtain ⟨b, o, rfl, _, _, e0, e1⟩ := jdQ AY.out hy; have eq1 : ∀ w : World, (binOp .eql 73 (.agg #[.string (S x.1), .string (S x.2)]) (.agg #[.string (S y.1), .string (S y.2)])).run Tryz.prog w = .ok (.bool (decide (x = y))) w := AD.out y; clear hy
    by_cases hp : x = y
    . have HE := hid (show q = true by rw [HI.out, HS.out]; simp [hp]); have ed : decide (x = y) = true := by simp [hp]
      rw [ed] at eq1; clear hp ed; go_wp2
      go_quiet (fail)
      go_wp2; go_ret; exact ⟨_, rfl, by rw [HE.out]; simp, qG HB.out _⟩
    . have HE := hid (show q = (l.drop (i + 1)).any fun z => decide (x = z) by rw [HI.out, HS.out]; simp [hp]); have ed : decide (x = y) = false := by simp [hp]
      rw [ed] at eq1; clear hp ed; go_wp2
      go_quiet (fail)
      go_wp2
      go_roundw
      case rel => first | exact ⟨i + 1, by omega, by go_num, HW, qG HB.out _, HE⟩ | ((repeat apply Exists.intro); exact ⟨⟨i + 1, by omega, by go_num, HW, qG HB.out _, HE⟩, rfl⟩) | (refine ⟨trivial, ?_⟩; (repeat apply Exists.intro); exact ⟨⟨i + 1, by omega, by go_num, HW, qG HB.out _, HE⟩, rfl⟩)
      case measure => simp [intOf]; omega
  . have i1 : ¬ (i : Int) < (l.length : Int) := by omega
    have HE := hid (show q = false by rw [HI.out, aZ (by omega)]; rfl); go_wp2; go_ret; exact ⟨_, rfl, by rw [HE.out]; rfl, HB.out⟩
theorem jiT (Q : Nat -> Prop) (l : List (List UInt8)) (x : List UInt8) (a : Option Addr) (c : Nat) (w : World) (h : TxtsM Q w (.slice a l.length c) l) :
 Calls Tryz.prog 47 #[.slice a l.length c, .string (S x)] w (IxP w (l.any fun z => decide (x = z))) := by
 have hm : l.length <= maxLen := by obtain ⟨_, _, _, hm, _⟩ := h; exact hm
 unfold maxLen at hm; have HL := hid h; clear h; have HN : Hid ((l.any fun z => decide (x = z)) = (l.drop 0).any fun z => decide (x = z)) := rfl; obtain ⟨q, hq⟩ : ∃ q, q = l.any fun z => decide (x = z) := ⟨_, rfl⟩
 rw [<- hq] at HN ⊢; clear hq; go_enter Tryz.func47, Tryz.ntmps47; go_wp2
 go_loopw [8] (fun v wr => ∃ i : Nat, i <= l.length /\ v = .int .i64 i /\ wr = w /\ Hid (q = (l.drop i).any fun z => decide (x = z))) (fun v _ => l.length - (intOf v).toNat)
 case atStart => exact ⟨0, aQ _, rfl, rfl, HN⟩
 case round =>
  obtain ⟨i, hi, rfl, rfl, HI⟩ := hrel
  by_cases hlt : i < l.length
  . have i1 : (i : Int) < (l.length : Int) := by omega
    have i0 : (0 : Int) <= (i : Int) := by omega
    obtain ⟨y, hy⟩ : ∃ y, l[i]? = some y := ⟨_, aw hlt⟩; have HS := hid (jhD (x := x) hy); obtain ⟨b, o, rfl, _, _, e0⟩ := jml HL.out hy; have eq1 := joJ x y; clear hy
    by_cases hp : x = y
    . have HE := hid (show q = true by rw [HI.out, HS.out]; simp [hp]); have ed : decide (x = y) = true := by simp [hp]
      rw [ed] at eq1; clear hp ed; go_wp2; go_ret; exact ⟨_, rfl, by rw [HE.out]; simp, ay _ _⟩
    . have HE := hid (show q = (l.drop (i + 1)).any fun z => decide (x = z) by rw [HI.out, HS.out]; simp [hp]); have ed : decide (x = y) = false := by simp [hp]
      rw [ed] at eq1; clear hp ed; go_wp2
      go_roundw
      case rel => first | exact ⟨i + 1, by omega, by go_num, by first | rfl | trivial, HE⟩ | ((repeat apply Exists.intro); exact ⟨⟨i + 1, by omega, by go_num, by first | rfl | trivial, HE⟩, rfl⟩) | (refine ⟨trivial, ?_⟩; (repeat apply Exists.intro); exact ⟨⟨i + 1, by omega, by go_num, by first | rfl | trivial, HE⟩, rfl⟩)
      case measure => simp [intOf]; omega
  . have i1 : ¬ (i : Int) < (l.length : Int) := by omega
    have HE := hid (show q = false by rw [HI.out, aZ (by omega)]; rfl); go_wp2; go_ret; exact ⟨_, rfl, by rw [HE.out]; rfl, ay _ _⟩
theorem jbg (Q : Nat -> Prop) (l : List Adr) (x : Adr) (a : Option Addr) (c : Nat) (w : World) (h : AdrsM Q w (.slice a l.length c) l) :
 Calls Tryz.prog 178 #[.slice a l.length c, .agg #[.string (S x.1), .string (S x.2)]] w fun e w' => e = .returned (.bool (l.contains x)) /\ Below w.heap.size w w' := by
 have bX := hid (show Below w.heap.size w (w.alloc (.cells #[.string (S x.1), .string (S x.2)] 73)) from nb0 _ _); have HX := hid (jiS Q l x a c _ (h.next bX.out)); rw [<- jka]; clear h; go_enter Tryz.func178, Tryz.ntmps178; go_wp2_with fail; refine HX.out.mono ?_; rintro e u ⟨z, rfl, hz, hb⟩; have HZ := hid hz; have HB := hid hb; clear hz hb; go_wp2; go_ret; exact ⟨jc (by rw [<- HZ.out]), jjL bX.out HB.out (ai _)⟩
theorem vF (Q : Nat -> Prop) (l : List (List UInt8)) (x : List UInt8) (a : Option Addr) (c : Nat) (w : World) (h : TxtsM Q w (.slice a l.length c) l) :
 Calls Tryz.prog 30 #[.slice a l.length c, .string (S x)] w fun e w' => e = .returned (.bool (l.contains x)) /\ Below w.heap.size w w' := by
 have HX := hid (jiT Q l x a c _ h); rw [<- jka]; clear h; go_enter Tryz.func30, Tryz.ntmps30; go_wp2_with fail; refine HX.out.mono ?_; rintro e u ⟨z, rfl, hz, hb⟩; have HZ := hid hz; have HB := hid hb; clear hz hb; go_wp2; go_ret; exact ⟨jc (by rw [<- HZ.out]), HB.out⟩
theorem jo3 (l : List Adr) : ∀ u ∈ qs l, u.oneCell' = true := by
 intro u hu; obtain ⟨cs, hcs, hu⟩ := List.mem_flatten.1 hu; obtain ⟨m, _, rfl⟩ := bE.1 hcs; simp only [bV, bW, or_false] at hu
 rcases hu with rfl | rfl <;> rfl
theorem jhL : (Tryz.prog.info? 73).map (fun i => (i.zero, i.size, i.bytes)) = some (some (.agg #[.string ByteArray.empty, .string ByteArray.empty]), 2, 32) := by kernel_rfl
theorem jgn (h : AdrsM Q w (.slice (some ⟨b, o, none⟩) l.length c) l) : ∀ j u, (qs l)[j]? = some u -> w.cell? ((⟨b, o, none⟩ : Addr).add j) = some u := by
 intro j u hj; have hlen : j < l.length * 2 := by rw [<- qv]; exact (au.1 hj).1
 obtain ⟨x, hx⟩ : ∃ x, l[j / 2]? = some x := ⟨_, aw (by omega)⟩; obtain ⟨b', o', e, _, _, e0, e1⟩ := jdQ h hx; simp only [aS, Addr.mk.injEq, and_true] at e; obtain ⟨rfl, rfl⟩ := e; obtain ⟨g0, g1⟩ := jdu hx; rw [bg]
 rcases Nat.mod_two_eq_zero_or_one j with hm | hm
 . have ej : j = j / 2 * 2 := by omega
   rw [<- ej] at g0 e0; rw [g0] at hj; rw [<- hj]; exact e0
 . have ej : j = j / 2 * 2 + 1 := by omega
   rw [<- ej] at g1; rw [show o + j / 2 * 2 + 1 = o + j by omega] at e1; rw [g1] at hj; rw [<- hj]; exact e1
theorem jiu (Q : Nat -> Prop) (l : List Adr) (v : Value) (w : World) (h : AdrsM Q w v l) (hn : l.length <= 1000) :
 Calls Tryz.prog 129 #[v] w fun e w' => ∃ v', e = .returned v' /\ OwnL w' w.heap.size v' l /\ Below w.heap.size w w' := by
 obtain ⟨i0, hi, hz0, hz1, hz2⟩ := info_parts jhL; have q22 : ∀ (w : World) (a : Option Addr) (n c n' c' : Nat), (binOp .eql 74 (.slice a n c) (.slice none n' c')).run Tryz.prog w = .ok (.bool a.isNone) w := fun w a n c n' c' => Lib.run_eql_slice_nil w _ _ a n c n' c' Tryz.underlying74
 obtain ⟨a, c, rfl, hm, hr⟩ := h; cases a with
 | none =>
   have hl : l = [] := by
    cases l with
    | nil => rfl
    | cons x t => obtain ⟨_, _, _, e, _⟩ := hr 0 x rfl; cases e
   subst hl; clear hr; go_enter Tryz.func129, Tryz.ntmps129; go_wp2; go_ret; exact ⟨_, rfl, OwnL.nil _ _, ay _ _⟩
 | some ad =>
   have hc : ∀ j u, (qs l)[j]? = some u -> w.cell? (ad.add j) = some u := by
    intro j u hj; have hlen : j < l.length * 2 := by rw [<- qv]; exact (au.1 hj).1
    obtain ⟨x, hx⟩ : ∃ x, l[0]? = some x := ⟨_, aw (by omega)⟩; obtain ⟨b, o, cs, e, _⟩ := hr 0 x hx; simp only [aS] at e; subst e; exact jgn (c := c) (show AdrsM Q w (.slice (some ⟨b, o, none⟩) l.length c) l from ⟨some ⟨b, o, none⟩, c, rfl, hm, hr⟩) j u hj
   have HC := hid hc; have H1 := hid (jo3 l); have HL := hid (qv l); clear hc hr; go_enter Tryz.func129, Tryz.ntmps129
   go_wp2_with (at_builtin; refine wpList_append_own _ rfl _ _ 74 rfl w.heap.size 73 i0 _ 2 32 Tryz.underlying74 hi hz0 hz1 hz2 rfl (by decide) _ _ _ rfl (World.ownsRow_made w #[] 0 (ai _) (aQ _) rfl) ad l.length c (qs l) rfl ?qc1 ?qc2 ?qc3 ?qc4 ?qc5 ?qc6 ?_)
   case qc1 => exact HL.out
   case qc2 => exact fun j u hj => Lib.cell?_alloc_some _ (HC.out j u hj)
   case qc3 => exact H1.out
   case qc4 => unfold maxLen; omega
   case qc5 => omega
   case qc6 => simp
   intro v' w1 hown hgrow hnil; have HO := hid hown; have HB := hid (show Below w.heap.size w w1 from ((ay _ w).alloc (ai _) _).grown hgrow (by simp) (by intro k hk; simp [Value.ownBlock] at hk; omega)); clear hown hgrow hnil; go_wp2; go_ret; exact ⟨v', rfl, by unfold OwnL; simpa using HO.out, HB.out⟩
def RmB (w : World) (b : Nat) (cs : List Value) : Prop := w.heap[b]? = some (.cells cs.toArray 82) /\ cs.length = 38
theorem RmB.cell {w : World} {b : Nat} {cs : List Value} (h : RmB w b cs) {j : Nat} {v : Value} (hj : cs[j]? = some v) : w.cell? ⟨b, j, none⟩ = some v := by
 simp only [World.cell?, h.1]
 simpa using hj
theorem RmB.next {cs : List Value} (h : RmB w b cs) (hb : Below w.heap.size w w') : RmB w' b cs := ⟨(hb.block b (aj.1 h.1).1).trans h.1, h.2⟩
def AdE (w : World) (r : Int) (e : Ending) (w' : World) : Prop := e = .returned (.int .i64 r) /\ Below w.heap.size w w'
theorem jjU (b : Nat) (lo sc : List UInt8) (cs : List Value) (L : List (List UInt8)) (al : Option Addr) (cl : Nat) (v35 : Value) (Q : Nat -> Prop) (w : World) (hR : RmB w b cs) (rV : cs[34]? = some (.slice al L.length cl)) (i8 : cs[35]? = some v35) (hX : TxtsM Q w (.slice al L.length cl) L) (hc : jP lo [120] = 0) (hl : lo.length <= 2000) (hm : L.contains lo = true) :
 Calls Tryz.prog 20 #[.pointer (some ⟨b, 0, none⟩), .agg #[.string (S lo), .string (S sc)]] w (AdE w 10) := by
 have HC := hid (fun u => zM (S lo) ⟨#[120]⟩ u (by rw [jb]; omega) (by decide)); have HK := hid hc; have HR := hid hR; have tq := hid hX; have hbl : b < w.heap.size := (aj.1 hR.1).1; clear hc hR hX; go_enter Tryz.func20, Tryz.ntmps20; go_wp2_with fail; refine (HC.out _).mono ?_; rw [show jP (S lo).data.toList (⟨#[120]⟩ : ByteArray).data.toList = 0 by rw [ji]; exact HK.out]; rintro e w1 ⟨rfl, hb1⟩; have b8 : Below w.heap.size w w1 := (nb0 _ _).trans (hb1.mono (by simp)); have bX := hid b8; have iu : w1.heap[w.heap.size]? = some (.cells #[.string (S lo), .string (S sc)] 65) := (hb1.block _ (by simp)).trans (az w _); have hz1 : w.heap.size < w1.heap.size := (aj.1 iu).1; have u0 : w1.cell? ⟨w.heap.size, 0, none⟩ = some (.string (S lo)) := by simp [World.cell?, iu]
 have u1 : w1.cell? ⟨w.heap.size, 1, none⟩ = some (.string (S sc)) := by simp [World.cell?, iu]
 have r34 := (HR.out.next b8).cell rV; have r35 := (HR.out.next b8).cell i8; have kL := hid (show ∀ v, Below w1.heap.size w1 v -> Calls Tryz.prog 30 #[.slice al L.length cl, .string (S lo)] v fun e w' => e = .returned (.bool (L.contains lo)) /\ Below w1.heap.size w1 w' from fun v hv => (vF Q L lo al cl v (tq.out.next (b8.trans (hv.mono b8.size)))).mono fun e w' h => ⟨h.1, hv.trans (h.2.mono hv.size)⟩); obtain ⟨q, hq⟩ : ∃ q, q = L.contains lo := ⟨_, rfl⟩; rw [<- hq] at hm kL; have HQ := hid hm; clear hq hm; have ix := hid (show ∀ v, Below w1.heap.size w1 v -> v.cell? ⟨b, 34, none⟩ = some (.slice al L.length cl) /\ v.cell? ⟨w.heap.size, 0, none⟩ = some (.string (S lo)) from fun v hv => ⟨ja r34 hv, ja u0 hv⟩); clear hb1 b8 iu; go_upto_region 3 with fail
 go_cut [13] (fun v wx => v = .bool q /\ Below w1.heap.size w1 wx)
 case first =>
  go_region_held3 (fun w' => w'.cell? ⟨b, 34, none⟩ = some (.slice al L.length cl) /\ w'.cell? ⟨w.heap.size, 0, none⟩ = some (.string (S lo))) (first | exact ix.out _ cU.out | exact ix.out _ ((ay _ _).drew) | exact ix.out _ (ay _ _) | fail)
   (first
        | (go_at_call 30
           with_reducible refine (kL.out _ ?_).mono ?_
           . first | exact ay _ _ | exact (ay _ _).drew
           rintro e w2 ⟨rfl, hb2⟩; have cU := hid hb2; clear hb2)
        | fail)
  all_goals (go_wp2_with fail; go_meet; exact ⟨rfl, cU.out⟩)
 case rest =>
  obtain ⟨hv, iE⟩ := hcut; subst hv; obtain ⟨W2, rfl⟩ : ∃ W, W = wc := ⟨_, rfl⟩; have bY := hid (show Below w.heap.size w W2 from bX.out.trans (iE.mono bX.out.size)); have u1 := ja u1 iE; rw [HQ.out]; clear iE; go_wp2; go_ret; exact ⟨rfl, bY.out⟩
def OpE (w : World) (r : Int) (e : Ending) (w' : World) : Prop := e = .returned (.tuple #[.pointer none, .int .i64 r]) /\ Below w.heap.size w w'
theorem jqW (a : Option Addr) (c : Nat) (w : World) : Calls Tryz.prog 14 #[.slice a 0 c] w (OpE w 1) := by
 go_enter Tryz.func14, Tryz.ntmps14; go_wp2; go_ret2; exact ⟨rfl, ay _ _⟩
theorem jqV (a : Option Addr) (c : Nat) (w : World) : Calls Tryz.prog 14 #[.slice a 4 c] w (OpE w 1) := by
 go_enter Tryz.func14, Tryz.ntmps14; go_wp2; go_ret2; exact ⟨rfl, ay _ _⟩
structure MRow where
 e : TypeId
 k : Nat
 v : Value
 n : Nat
 xs : List Value
def mB (M : List MRow) : List Nat := M.filterMap (·.v.ownBlock)
def Av (b : Nat) (G : List Nat) (k : Nat) : Prop := k ≠ b /\ k ∉ G
structure Stp (b : Nat) (G : List Nat) (w : World) (G' : List Nat) (w' : World) : Prop where
 os : w'.os = w.os
 tape : w'.tape = w.tape
 output : w'.output = w.output
 size : w.heap.size <= w'.heap.size
 block : ∀ k, k < w.heap.size -> Av b G k -> w'.heap[k]? = w.heap[k]?
 row : ∀ k ∈ G', k ∈ G ∨ w.heap.size <= k
theorem Stp.of (h : Below w.heap.size w w') : Stp b G w G w' := ⟨h.os, h.tape, h.output, h.size, fun k hk _ => h.block k hk, fun _ h => .inl h⟩
theorem Stp.refl (b : Nat) (G : List Nat) (w : World) : Stp b G w G w := .of (ay _ _)
theorem Stp.trans {b : Nat} {G G' G'' : List Nat} {x y z : World} (h : Stp b G x G' y) (k : Stp b G' y G'' z) : Stp b G x G'' z := by
 refine ⟨k.os.trans h.os, k.tape.trans h.tape, k.output.trans h.output, aN h.size k.size, fun i hi hA => ?_, fun i hi => ?_⟩
 . refine (k.block i (aK hi h.size) ⟨hA.1, fun e => ?_⟩).trans (h.block i hi hA)
   rcases h.row i e with q | q
   . exact hA.2 q
   . omega
 . rcases k.row i hi with q | q
   . exact h.row i q
   . exact .inr (aN h.size q)
theorem Stp.below (h : Stp b G w G' w') (hB : B <= b) (hw : B <= w.heap.size) (hG : ∀ k ∈ G, B <= k) : Below B w w' :=
 ⟨h.os, h.tape, h.output, h.size, fun k hk => h.block k (by omega) ⟨by omega, fun e => by have := hG k e; omega⟩⟩
theorem Stp.keeps (h : Stp b G w G' w') : Keeps (Av b G) w w' := ⟨h.size, h.block⟩
theorem Stp.av (h : Stp b G w G' w') (hk : k < w.heap.size) (hA : Av b G k) : Av b G' k :=
 ⟨hA.1, fun e => by rcases h.row k e with q | q; exact hA.2 q; omega⟩
theorem RowM.stp {P P' : A -> List Value -> Prop} {l : List A} (h : RowM (Av b G) k P w v l) (hs : Stp b G w G' w') (hp : ∀ x cs, P x cs -> P' x cs) : RowM (Av b G') k P' w' v l := by
 obtain ⟨a, c, hv, hm, hx⟩ := h; refine ⟨a, c, hv, hm, fun i x hi => ?_⟩; obtain ⟨g, o, cs, ha, hg, hQ, hl, hc, hP⟩ := hx i x hi; exact ⟨g, o, cs, ha, aK hg hs.size, hs.av hg hQ, hl, fun j u hj => (aP (hs.block g hg hQ)).trans (hc j u hj), hp x cs hP⟩
def AvN (N b : Nat) (G : List Nat) (k : Nat) : Prop := N <= k /\ Av b G k
theorem RowM.stpN {P P' : A -> List Value -> Prop} {l : List A} (h : RowM (AvN N b G) k P w v l) (hs : Stp b G w G' w') (hp : ∀ x cs, P x cs -> P' x cs) : RowM (AvN N b G') k P' w' v l := by
 obtain ⟨a, c, hv, hm, hx⟩ := h; refine ⟨a, c, hv, hm, fun i x eN => ?_⟩; obtain ⟨g, o, cs, ha, hg, hQ, hl, hc, hP⟩ := hx i x eN; exact ⟨g, o, cs, ha, aK hg hs.size, ⟨hQ.1, hs.av hg hQ.2⟩, hl, fun j u hj => (aP (hs.block g hg hQ.2)).trans (hc j u hj), hp x cs hP⟩
theorem TxtsM.stp {l : List (List UInt8)} (h : TxtsM (AvN N b G) w v l) (hs : Stp b G w G' w') : TxtsM (AvN N b G') w' v l := RowM.stpN h hs fun _ _ h => h
structure MOk (w : World) (B b : Nat) (M : List MRow) : Prop where
 own : ∀ r ∈ M, w.ownsRow B r.e r.k r.v r.n r.xs
 nd : (mB M).Nodup
 far : b ∉ mB M
 lt : b < w.heap.size
theorem jqQ {M : List MRow} (h : k ∈ mB M) : ∃ r ∈ M, r.v.ownBlock = some k := bu.1 h
theorem MOk.rng {M : List MRow} (h : MOk w B b M) : ∀ k ∈ mB M, B <= k /\ k < w.heap.size := fun k hk => by
 obtain ⟨r, hr, e⟩ := jqQ hk; exact aA (h.own r hr) k e
theorem MOk.next {M : List MRow} (h : MOk w B b M) (hb : Below w.heap.size w w') : MOk w' B b M := ⟨fun r hr => jX (h.own r hr) hb, h.nd, h.far, aK h.lt hb.size⟩
theorem MOk.box {M : List MRow} (h : MOk w B b M) (j : Nat) (u : Value) : MOk (w.setCell ⟨b, j, none⟩ u) B b M := by
 refine ⟨fun r hr => ?_, h.nd, h.far, by have := h.lt; simpa [World.setCell] using this⟩; obtain ⟨h1, h2⟩ := h.own r hr; refine ⟨h1, h2.imp id ?_⟩; rintro ⟨g, cap, cur, hv, hB, hg, hx⟩; refine ⟨g, cap, cur, hv, hB, (aC _ _ _ _ (show g ≠ b from fun e => h.far ?_)).trans hg, hx⟩; exact bu.2 ⟨r, hr, by rw [hv]; exact congrArg some e⟩
theorem jnG {row : Option Nat} {e : Nat} (h : w.ownsRow B e k v n xs) (hg : w.grownBy w' row) (hne : ∀ g, v.ownBlock = some g -> row ≠ some g) : w'.ownsRow B e k v n xs := by
 obtain ⟨h1, h2⟩ := h; refine ⟨h1, h2.imp id ?_⟩; rintro ⟨g, cap, cur, rfl, hB, gv, hr⟩; exact ⟨g, cap, cur, rfl, hB, (hg.block g (aj.1 gv).1 (fun e => hne g rfl e.symm)).trans gv, hr⟩
theorem jbl (A Z : List MRow) : mB (A ++ Z) = mB A ++ mB Z := List.filterMap_append
theorem jak (r : MRow) (Z : List MRow) : mB (r :: Z) = r.v.ownBlock.toList ++ mB Z := by
 unfold mB; rw [List.filterMap_cons]; cases r.v.ownBlock <;> rfl
theorem MOk.grow {H : Nat} {A Z : List MRow} {r r' : MRow} (h : MOk w B b (A ++ r :: Z)) (hg : w.grownBy w' r.v.ownBlock) (ho : w'.ownsRow B r'.e r'.k r'.v r'.n r'.xs) (hH : w.heap.size <= H)
 (hat : ∀ g, r'.v.ownBlock = some g -> r.v.ownBlock = some g ∨ H <= g) : MOk w' B b (A ++ r' :: Z) /\ Stp b (mB (A ++ r :: Z)) w (mB (A ++ r' :: Z)) w' := by
 have hlt := h.rng; have hd := h.nd; have hf := h.far; have hbl := h.lt; rw [jbl, jak] at hd hlt hf; have mn := List.nodup_append.1 hd; have yv := List.nodup_append.1 mn.2.1; have yP : ∀ g, r.v.ownBlock = some g -> g ∉ mB A := fun g e hA => mn.2.2 g hA g (by simp [e]) rfl
 have yQ : ∀ g, r.v.ownBlock = some g -> g ∉ mB Z := fun g e hB => yv.2.2 g (by simp [e]) g hB rfl
 have yF : ∀ x ∈ A ++ Z, w'.ownsRow B x.e x.k x.v x.n x.xs := fun x hx => by
  refine jnG (h.own x (by rcases bo.1 hx with q | q <;> simp [q])) hg fun g e e' => ?_
  have hm : g ∈ mB (A ++ Z) := bu.2 ⟨x, hx, e⟩; rw [jbl] at hm
  rcases bo.1 hm with q | q
  . exact yP g e' q
  . exact yQ g e' q
 have fI : ∀ g, r'.v.ownBlock = some g -> g ∉ mB A /\ g ∉ mB Z := fun g e => by
  rcases hat g e with q | q
  . exact ⟨yP g q, yQ g q⟩
  . exact ⟨fun hA => by have := hlt g (by simp [hA]); omega, fun hB => by have := hlt g (by simp [hB]); omega⟩
 refine ⟨⟨fun x hx => ?_, ?_, ?_, aK hbl hg.size⟩, hg.os, hg.tape, hg.output, hg.size, fun k hk hA => hg.block k hk fun e => hA.2 ?_, fun k hk => ?_⟩
 . rcases bo.1 hx with q | q
   . exact yF x (by simp [q])
   . rcases bV.1 q with rfl | q
     . exact ho
     . exact yF x (by simp [q])
 . rw [jbl, jak]; refine List.nodup_append.2 ⟨mn.1, List.nodup_append.2 ⟨by cases r'.v.ownBlock <;> simp, yv.2.1, ?_⟩, ?_⟩
   . intro a ha c hc e; subst e; exact (fI a (by simpa using ha)).2 hc
   . intro a ha c hc e; subst e
     rcases bo.1 hc with q | q
     . exact (fI a (by simpa using q)).1 ha
     . exact mn.2.2 a ha a (by simp [q]) rfl
 . rw [jbl, jak]; intro hc
   rcases bo.1 hc with q | q
   . exact hf (by simp [q])
   . rcases bo.1 q with q | q
     . have q : r'.v.ownBlock = some b := by simpa using q
       rcases hat b q with e | e
       . exact hf (by simp [e])
       . omega
     . exact hf (by simp [q])
 . rw [jbl, jak]
   simp [e]
 . rw [jbl, jak] at hk ⊢
   rcases bo.1 hk with q | q
   . exact .inl (by simp [q])
   . rcases bo.1 q with q | q
     . have q : r'.v.ownBlock = some k := by simpa using q
       rcases hat k q with e | e
       . exact .inl (by simp [e])
       . exact .inr (by omega)
     . exact .inl (by simp [q])
theorem Stp.box (h : Stp b G w G' w') (j : Nat) (u : Value) : Stp b G w G' (w'.setCell ⟨b, j, none⟩ u) :=
 ⟨h.os, h.tape, h.output, by have := h.size; simpa [World.setCell] using this, fun k hk hA => (aC _ _ _ _ hA.1).trans (h.block k hk hA), h.row⟩
theorem jan {l : List A} {f : A -> Value} (h : w.ownsRow B e 1 v l.length (l.map f)) (hs : l.length <= maxLen) (hQ : ∀ g, v.ownBlock = some g -> Q g) : RowM Q 1 (fun x cs => cs = [f x]) w v l := by
 rcases h.2 with ⟨rfl, h0⟩ | ⟨g, cap, cur, rfl, hB, hg, pT, hcm, hcs, gC⟩
 . obtain rfl : l = [] := bh.1 h0; exact jh _ _ _ _ _ _
 . refine ⟨some ⟨g, 0, none⟩, cap, rfl, hs, fun i x hx => ⟨g, 0, [f x], rfl, (aj.1 hg).1, hQ g rfl, rfl, fun j u hj => ?_, rfl⟩⟩; have hi : i < l.length := (au.1 hx).1
   match j, hj with
   | 0, hj =>
     cases hj; have h1 : cur.toList[i]? = some (f x) := by
        rw [<- List.getElem?_take_of_lt (show i < l.length * 1 by omega), gC, ba, hx]; rfl
     simp only [World.cell?, hg, bc, Nat.mul_one, bC]
     simpa using h1
section
variable {P : Program} {ops : Array Oper} {Q : Exit -> Act -> World -> Prop} {md : Region.Mode} {T : World -> Prop} {late : Nat -> Bool}
def jG (P : Program) (md : Region.Mode) (ops : Array Oper) (Q : Exit -> Act -> World -> Prop) (late : Nat -> Bool) (T : World -> Prop) : Nat -> Array Bool -> Act -> World -> Prop
 | 0, listed, a, w => Region.ready md ops listed = [] /\ Q .normal a w
 | fuel + 1, listed, a, w =>
   (Region.ready md ops listed = [] -> Q .normal a w) /\
   ∀ i ∈ Region.ready md ops listed, wpOp P ops Q i (fun a' w' => (late i = false -> T w -> T w') /\ jG P md ops Q late T fuel (listed.setIfInBounds i true) a' w') a w
theorem jbE : ∀ (fuel : Nat) (listed : Array Bool) (a : Act) (w : World), jG P md ops Q late T fuel listed a w -> wpAny P md ops Q fuel listed a w
 | 0, _, _, _, h => h
 | fuel + 1, _, _, _, h => ⟨h.1, fun i hi => wpOp_mono (fun a' w' h' => jbE fuel _ a' w' h'.2) (h.2 i hi)⟩
def waits (md : Region.Mode) (ops : Array Oper) (late : Nat -> Bool) (i : Nat) : Bool :=
 (List.range ops.size).all fun j => !late j || match ops[j]? with
    | some o => o.after.toList.any fun e => Region.binds md e && e.on == i
    | none => true
theorem jjJ (h : waits md ops late i = true) (j : Nat) (oj : Oper) (hj : ops[j]? = some oj) (hl : late j = true) : ∃ e ∈ oj.after, Region.binds md e = true /\ e.on = i := by
 have hs : j < ops.size := (aj.1 hj).1; have := List.all_eq_true.1 h j (List.mem_range.2 hs); rw [hl, hj] at this; simp only [Bool.not_true, Bool.false_or, List.any_eq_true, aX, beq_iff_eq] at this; obtain ⟨e, he, h1, h2⟩ := this; exact ⟨e, by simpa using he, h1, h2⟩
theorem jf6 {oi : Oper} (hi : ops[i]? = some oi) (kC : ∀ (j : Nat) (o : Oper) cs b, ops[j]? = some o -> o.op ≠ .select cs b)
 (hQ : ∀ c a w, Q (.panic c) (a.put oi.dst v) w -> Q (.panic c) a w) (hwt : waits md ops late i = true) :
 ∀ (fuel : Nat) (listed : Array Bool) (a : Act) (w : World),
   (∀ j oj, ops[j]? = some oj -> j ≠ i -> listed.getD j true = false -> (∀ e ∈ oj.after, Region.binds md e = true -> e.on ≠ i) -> oi.apart ops oj = true) ->
   i ∈ Region.ready md ops listed -> YieldsIf P ops T oi v a -> T w ->
   jG P md ops Q late T fuel (listed.setIfInBounds i true) (a.put oi.dst v) w -> jG P md ops Q late T (fuel + 1) listed a w := by
 intro fuel
 induction fuel with
 | zero =>
   intro listed a w _ hr hy hS H; refine ⟨fun h => (by rw [h] at hr; cases hr), fun j hj => ?_⟩
   by_cases fE : j = i
   . subst fE; exact hy.wpOp hi hS ⟨fun _ h => h, H⟩
   . have := ready_mono hj fE; rw [H.1] at this; cases this
 | succ fuel ih =>
   intro listed a w fB hr hy hS H; refine ⟨fun h => (by rw [h] at hr; cases hr), fun j hj => ?_⟩
   by_cases fE : j = i
   . subst fE; exact hy.wpOp hi hS ⟨fun _ h => h, H⟩
   . have h1 := H.2 j (ready_mono hj fE); obtain ⟨kq, oj, mw, hall⟩ := mem_ready.1 hj; have lN : ∀ e ∈ oj.after, Region.binds md e = true -> e.on ≠ i := fun e he hb uQ => by
        have h1 := hall e he hb; have h0 := (mem_ready.1 hr).1; rw [uQ] at h1
        rcases bz i listed.size with h' | h'
        . simp [h'] at h0 h1; rw [h0] at h1; cases h1
        . simp [Array.getElem?_eq_none h'] at h1
     have hlt : late j = false := by
        cases hl : late j with
        | false => rfl
        | true => obtain ⟨e, he, hb, CB⟩ := jjJ hwt j oj mw hl; exact absurd CB (lN e he hb)
     have h2 := wpOp_putIf mw (fB j oj mw fE kq lN) (fun cs b => kC i oi cs b hi) (fun cs b => kC j oj cs b mw) hQ hy h1; have gu : ∀ k ok, ops[k]? = some ok -> k ≠ i -> (listed.setIfInBounds j true).getD k true = false ->
      (∀ e ∈ ok.after, Region.binds md e = true -> e.on ≠ i) -> oi.apart ops ok = true := fun k ok hk pO lV hno => by
        refine fB k ok hk pO ?_ hno
        by_cases hjk : j = k
        . subst hjk; exact kq
        . rw [getD_set_ne true hjk] at lV; exact lV
     refine wpOp_mono (fun a' w' h3 => ⟨h3.2.1, ih (listed.setIfInBounds j true) a' w' gu (ready_mono hr (Ne.symm fE)) h3.1 (h3.2.1 hlt hS) ?_⟩) h2; rw [Array.setIfInBounds_comm _ _ fE]; exact h3.2.2
theorem ja9 {oi : Oper} {a : Act} (hi : ops[i]? = some oi)
 (hs : Region.noSelect ops = true) (hf : Region.free md ops listed i = true) (hr : (Region.ready md ops listed).contains i = true) (hwt : waits md ops late i = true)
 (hQ : ∀ c a w, Q (.panic c) (a.put oi.dst v) w -> Q (.panic c) a w) (hy : YieldsIf P ops T oi v a) (hS : T w)
 (h : jG P md ops Q late T fuel (listed.setIfInBounds i true) (a.put oi.dst v) w) : jG P md ops Q late T (fuel + 1) listed a w :=
 jf6 hi (Region.noSelect_spec hs) hQ hwt fuel listed a w (Region.free_spec hi hf) (by simpa using hr) hy hS h
theorem jjP {oi : Oper} (hi : ops[i]? = some oi) (kC : ∀ (j : Nat) (o : Oper) cs b, ops[j]? = some o -> o.op ≠ .select cs b)
 (hQ : ∀ c a w, Q (.panic c) (a.put oi.dst v) w -> Q (.panic c) a w) :
 ∀ (fuel : Nat) (listed : Array Bool) (a : Act) (w : World),
   (∀ j oj, ops[j]? = some oj -> j ≠ i -> listed.getD j true = false -> (∀ e ∈ oj.after, Region.binds md e = true -> e.on ≠ i) -> oi.apart ops oj = true) ->
   i ∈ Region.ready md ops listed -> YieldsIf P ops (fun _ => True) oi v a ->
   jG P md ops Q late T fuel (listed.setIfInBounds i true) (a.put oi.dst v) w -> jG P md ops Q late T (fuel + 1) listed a w := by
 intro fuel
 induction fuel with
 | zero =>
   intro listed a w _ hr hy H; refine ⟨fun h => (by rw [h] at hr; cases hr), fun j hj => ?_⟩
   by_cases fE : j = i
   . subst fE; exact hy.wpOp hi trivial ⟨fun _ h => h, H⟩
   . have := ready_mono hj fE; rw [H.1] at this; cases this
 | succ fuel ih =>
   intro listed a w fB hr hy H; refine ⟨fun h => (by rw [h] at hr; cases hr), fun j hj => ?_⟩
   by_cases fE : j = i
   . subst fE; exact hy.wpOp hi trivial ⟨fun _ h => h, H⟩
   . have h1 := H.2 j (ready_mono hj fE); obtain ⟨kq, oj, mw, hall⟩ := mem_ready.1 hj; have lN : ∀ e ∈ oj.after, Region.binds md e = true -> e.on ≠ i := fun e he hb uQ => by
        have h1 := hall e he hb; have h0 := (mem_ready.1 hr).1; rw [uQ] at h1
        rcases bz i listed.size with h' | h'
        . simp [h'] at h0 h1; rw [h0] at h1; cases h1
        . simp [Array.getElem?_eq_none h'] at h1
     have h2 := wpOp_putIf mw (fB j oj mw fE kq lN) (fun cs b => kC i oi cs b hi) (fun cs b => kC j oj cs b mw) hQ hy h1; have gu : ∀ k ok, ops[k]? = some ok -> k ≠ i -> (listed.setIfInBounds j true).getD k true = false ->
      (∀ e ∈ ok.after, Region.binds md e = true -> e.on ≠ i) -> oi.apart ops ok = true := fun k ok hk pO lV hno => by
        refine fB k ok hk pO ?_ hno
        by_cases hjk : j = k
        . subst hjk; exact kq
        . rw [getD_set_ne true hjk] at lV; exact lV
     refine wpOp_mono (fun a' w' h3 => ⟨h3.2.1, ih (listed.setIfInBounds j true) a' w' gu (ready_mono hr (Ne.symm fE)) h3.1 ?_⟩) h2; rw [Array.setIfInBounds_comm _ _ fE]; exact h3.2.2
theorem jq {oi : Oper} {a : Act} (hi : ops[i]? = some oi)
 (hs : Region.noSelect ops = true) (hf : Region.free md ops listed i = true) (hr : (Region.ready md ops listed).contains i = true)
 (hQ : ∀ c a w, Q (.panic c) (a.put oi.dst v) w -> Q (.panic c) a w) (hy : YieldsIf P ops (fun _ => True) oi v a)
 (h : jG P md ops Q late T fuel (listed.setIfInBounds i true) (a.put oi.dst v) w) : jG P md ops Q late T (fuel + 1) listed a w :=
 jjP hi (Region.noSelect_spec hs) hQ fuel listed a w (Region.free_spec hi hf) (by simpa using hr) hy h
theorem jjO {a : Act} (hr : Region.ready md ops listed = rs) (hne : rs ≠ [])
 (h : ∀ i ∈ rs, wpOp P ops Q i (fun a' w' => (late i = false -> T w -> T w') /\ jG P md ops Q late T fuel (listed.setIfInBounds i true) a' w') a w) : jG P md ops Q late T (fuel + 1) listed a w :=
 ⟨fun h0 => absurd (hr ▸ h0) hne, hr ▸ h⟩
theorem ja8 {a : Act} (hr : Region.ready md ops listed = []) (h : Q .normal a w) :
 ∀ fuel, jG P md ops Q late T fuel listed a w
 | 0 => ⟨hr, h⟩
 | _ + 1 => ⟨fun _ => h, by rw [hr]; simp⟩
def AllL (P : Program) (md : Region.Mode) (ops : Array Oper) (Q : Exit -> Act -> World -> Prop) (late : Nat -> Bool) (T : World -> Prop) (fuel : Nat) (listed : Array Bool) (a : Act) (w : World) (rs : List Nat) : Prop :=
 ∀ i ∈ rs, wpOp P ops Q i (fun a' w' => (late i = false -> T w -> T w') /\ jG P md ops Q late T fuel (listed.setIfInBounds i true) a' w') a w
theorem zh {a : Act} : AllL P md ops Q late T fuel listed a w [] := fun _ h => by cases h
theorem jR {a : Act} {o : Oper} (ho : ops[i]? = some o)
 (h : ∀ K' : Act -> World -> Prop, Shut (∀ a' w', (late i = false -> T w -> T w') -> jG P md ops Q late T fuel (listed.setIfInBounds i true) a' w' -> K' a' w') -> if Region.wanted o (yielded ops a.tmps) = true then Oper.wp P o a w K' Q else K' (a.put o.dst undef) w)
 (hs : AllL P md ops Q late T fuel listed a w rs) : AllL P md ops Q late T fuel listed a w (i :: rs) := fun j hj => by
 rcases bV.1 hj with rfl | hj
 . exact wpOp_step ho (fun K' hK => h K' (fun a' w' hS hW => hK a' w' ⟨hS, hW⟩))
 . exact hs j hj
theorem jC {a : Act} (hr : Region.ready md ops listed = rs) (hne : rs ≠ [])
 (h : AllL P md ops Q late T fuel listed a w rs) : jG P md ops Q late T (fuel + 1) listed a w := jjO hr hne h
theorem jdo {id : Nat} {a : Act} (hm : P.follows .mixedOrders = true)
 (h : jG P .any ops Q late T ops.size (Array.replicate ops.size false) a w.drew) : (Code.region id ops true).wp P Q a w :=
 wp_region_any hm (jbE _ _ _ _ h)
end
end Go.Proofs.YtjdkbdkimbgbfaaGreatDoor
