/-
  States of boxes in memory: how they are read, and one that a call has made and may write into. No function of the program is named here.
-/
import Derived.Test.YtkkkbggbeihbnaaDoorBoxPur
import Derived.Test.YtkkkbggbeihbnaaDoorTxt
import Derived.Test.YtkkkbggbeihbnaaDoorScrMemX
import Derived.Laws.AppendOwn
namespace Go.Proofs.YtkkkbggbeihbnaaDoor
open Go.RowKit Go.Proofs

def mailC (m : Mail) : List Value := [.int .i64 m.uid, .int .i64 m.flags, .string (S m.text)]
def entC (x : Ent) : List Value := [.int .i64 x.kind, .string (S x.box), .int .i64 x.uid, .int .i64 x.flags, .string (S x.goal), .string (S x.text)]
def boxC (b : Bx) (v : Value) : List Value := [.string (S b.name), .int .i64 b.next, v]
def MailM (m : Mail) (cs : List Value) : Prop := cs = mailC m
def EntM (x : Ent) (cs : List Value) : Prop := cs = entC x
def MailsM (Q : Nat → Prop) (w : World) (v : Value) (l : List Mail) : Prop := RowM Q 3 MailM w v l
def EntsM (Q : Nat → Prop) (w : World) (v : Value) (l : List Ent) : Prop := RowM Q 6 EntM w v l
def BoxM (Q : Nat → Prop) (w : World) (b : Bx) (cs : List Value) : Prop := ∃ v, cs = boxC b v ∧ MailsM Q w v b.mails
def BoxsM (Q : Nat → Prop) (w : World) (v : Value) (l : List Bx) : Prop := RowM Q 3 (BoxM Q w) w v l
/-- A state in memory: its boxes and what goes out. -/
def SttM (Q : Nat → Prop) (w : World) (vb vs : Value) (s : Stt) : Prop := BoxsM Q w vb s.boxes ∧ EntsM Q w vs s.spool ∧ ∀ a n c, vb = .slice a n c → n ≤ c
theorem MailsM.imp {Q Q' : Nat → Prop} {w w' : World} {v : Value} {l : List Mail} (h : MailsM Q w v l) (hq : ∀ b, Q b → Q' b) (hk : Keeps Q w w') : MailsM Q' w' v l := RowM.imp h hq hk fun _ _ h => h
theorem EntsM.imp {Q Q' : Nat → Prop} {w w' : World} {v : Value} {l : List Ent} (h : EntsM Q w v l) (hq : ∀ b, Q b → Q' b) (hk : Keeps Q w w') : EntsM Q' w' v l := RowM.imp h hq hk fun _ _ h => h
theorem BoxM.imp {Q Q' : Nat → Prop} {w w' : World} {b : Bx} {cs : List Value} (h : BoxM Q w b cs) (hq : ∀ b, Q b → Q' b) (hk : Keeps Q w w') : BoxM Q' w' b cs := by
  obtain ⟨v, e, h⟩ := h; exact ⟨v, e, h.imp hq hk⟩
theorem BoxsM.imp {Q Q' : Nat → Prop} {w w' : World} {v : Value} {l : List Bx} (h : BoxsM Q w v l) (hq : ∀ b, Q b → Q' b) (hk : Keeps Q w w') : BoxsM Q' w' v l := RowM.imp h hq hk fun _ _ h => h.imp hq hk
theorem SttM.imp {Q Q' : Nat → Prop} {w w' : World} {vb vs : Value} {s : Stt} (h : SttM Q w vb vs s) (hq : ∀ b, Q b → Q' b) (hk : Keeps Q w w') : SttM Q' w' vb vs s := ⟨h.1.imp hq hk, h.2.1.imp hq hk, h.2.2⟩
theorem SttM.next {Q : Nat → Prop} {w w' : World} {vb vs : Value} {s : Stt} (h : SttM Q w vb vs s) (hb : Below w.heap.size w w') : SttM Q w' vb vs s := h.imp (fun _ h => h) (Keeps.of_below hb)
theorem BoxsM.next {Q : Nat → Prop} {w w' : World} {v : Value} {l : List Bx} (h : BoxsM Q w v l) (hb : Below w.heap.size w w') : BoxsM Q w' v l := h.imp (fun _ h => h) (Keeps.of_below hb)
theorem EntsM.next {Q : Nat → Prop} {w w' : World} {v : Value} {l : List Ent} (h : EntsM Q w v l) (hb : Below w.heap.size w w') : EntsM Q w' v l := h.imp (fun _ h => h) (Keeps.of_below hb)
theorem MailsM.next {Q : Nat → Prop} {w w' : World} {v : Value} {l : List Mail} (h : MailsM Q w v l) (hb : Below w.heap.size w w') : MailsM Q w' v l := h.imp (fun _ h => h) (Keeps.of_below hb)

/- One element. -/
theorem MailsM.at {Q : Nat → Prop} {w : World} {a : Option Addr} {n c : Nat} {l : List Mail} (h : MailsM Q w (.slice a n c) l) {i : Nat} {x : Mail} (hx : l[i]? = some x) : ∃ b o, a = some ⟨b, o, none⟩ ∧ Q b ∧ w.cell? ⟨b, o + i * 3, none⟩ = some (.int .i64 x.uid) ∧ w.cell? ⟨b, o + i * 3 + 1, none⟩ = some (.int .i64 x.flags) ∧ w.cell? ⟨b, o + i * 3 + 2, none⟩ = some (.string (S x.text)) := by
  obtain ⟨a', c', hv, _, hr⟩ := h
  simp only [Value.slice.injEq] at hv
  obtain ⟨rfl, _, rfl⟩ := hv
  obtain ⟨b, o, cs, rfl, _, hq, _, hc, hP⟩ := hr i x hx
  have hcs : cs = _ := hP
  subst hcs
  exact ⟨b, o, rfl, hq, by simpa using hc 0 _ rfl, hc 1 _ rfl, hc 2 _ rfl⟩
theorem BoxsM.at {Q : Nat → Prop} {w : World} {a : Option Addr} {n c : Nat} {l : List Bx} (h : BoxsM Q w (.slice a n c) l) {i : Nat} {x : Bx} (hx : l[i]? = some x) : ∃ b o v, a = some ⟨b, o, none⟩ ∧ Q b ∧ w.cell? ⟨b, o + i * 3, none⟩ = some (.string (S x.name)) ∧ w.cell? ⟨b, o + i * 3 + 1, none⟩ = some (.int .i64 x.next) ∧ w.cell? ⟨b, o + i * 3 + 2, none⟩ = some v ∧ MailsM Q w v x.mails := by
  obtain ⟨a', c', hv, _, hr⟩ := h
  simp only [Value.slice.injEq] at hv
  obtain ⟨rfl, _, rfl⟩ := hv
  obtain ⟨b, o, cs, rfl, _, hq, _, hc, v, hcs, hm⟩ := hr i x hx
  subst hcs
  exact ⟨b, o, v, rfl, hq, by simpa using hc 0 _ rfl, hc 1 _ rfl, hc 2 _ rfl, hm⟩
theorem EntsM.at {Q : Nat → Prop} {w : World} {a : Option Addr} {n c : Nat} {l : List Ent} (h : EntsM Q w (.slice a n c) l) {i : Nat} {x : Ent} (hx : l[i]? = some x) : ∃ b o, a = some ⟨b, o, none⟩ ∧ Q b ∧ w.cell? ⟨b, o + i * 6, none⟩ = some (.int .i64 x.kind) ∧ w.cell? ⟨b, o + i * 6 + 1, none⟩ = some (.string (S x.box)) ∧ w.cell? ⟨b, o + i * 6 + 2, none⟩ = some (.int .i64 x.uid) ∧ w.cell? ⟨b, o + i * 6 + 3, none⟩ = some (.int .i64 x.flags) ∧ w.cell? ⟨b, o + i * 6 + 4, none⟩ = some (.string (S x.goal)) ∧ w.cell? ⟨b, o + i * 6 + 5, none⟩ = some (.string (S x.text)) := by
  obtain ⟨a', c', hv, _, hr⟩ := h
  simp only [Value.slice.injEq] at hv
  obtain ⟨rfl, _, rfl⟩ := hv
  obtain ⟨b, o, cs, rfl, _, hq, _, hc, hP⟩ := hr i x hx
  have hcs : cs = _ := hP
  subst hcs
  exact ⟨b, o, rfl, hq, by simpa using hc 0 _ rfl, hc 1 _ rfl, hc 2 _ rfl, hc 3 _ rfl, hc 4 _ rfl, hc 5 _ rfl⟩

theorem flatten_nth {k : Nat} : ∀ {css : List (List Value)} {i j : Nat} {cs : List Value}, (∀ c ∈ css, c.length = k) → css[i]? = some cs → j < k → css.flatten[i * k + j]? = cs[j]? := by
  intro css
  induction css with
  | nil => intro i j cs _ h _; simp at h
  | cons c css ih =>
    intro i j cs hk h hj
    have hc : c.length = k := hk c (by simp)
    cases i with
    | zero =>
      simp at h
      subst h
      simp only [Nat.zero_mul, Nat.zero_add, List.flatten_cons]
      rw [List.getElem?_append_left (by omega)]
    | succ i =>
      have := ih (j := j) (fun c hc => hk c (by simp [hc])) (by simpa using h) hj
      simp only [List.flatten_cons]
      rw [List.getElem?_append_right (by rw [hc, Nat.add_mul]; omega), ← this]
      congr 1
      rw [hc, Nat.add_mul]
      omega
theorem flatten_put {k : Nat} : ∀ {css : List (List Value)} {i j : Nat} {cs : List Value} (u : Value), (∀ c ∈ css, c.length = k) → css[i]? = some cs → j < k → css.flatten.set (i * k + j) u = (css.set i (cs.set j u)).flatten := by
  intro css
  induction css with
  | nil => intro i j cs u _ h _; simp at h
  | cons c css ih =>
    intro i j cs u hk h hj
    have hc : c.length = k := hk c (by simp)
    cases i with
    | zero =>
      simp at h
      subst h
      simp only [Nat.zero_mul, Nat.zero_add, List.flatten_cons, List.set_cons_zero]
      rw [List.set_append_left _ _ (by omega)]
    | succ i =>
      have := ih (j := j) u (fun c hc => hk c (by simp [hc])) (by simpa using h) hj
      simp only [List.flatten_cons, List.set_cons_succ]
      rw [List.set_append_right _ _ (by rw [hc, Nat.add_mul]; omega), ← this]
      congr 2
      rw [hc, Nat.add_mul]
      omega
theorem map_flat_len {A : Type} {k : Nat} (f : A → List Value) (hf : ∀ x, (f x).length = k) (l : List A) : ∀ cs ∈ l.map f, cs.length = k := by
  intro cs h; obtain ⟨x, _, rfl⟩ := List.mem_map.1 h; exact hf x

/- What a call owns: rows in blocks of their own. -/
def Apart (u v : Value) : Prop := ∀ k, u.ownBlock = some k → v.ownBlock ≠ some k
theorem Apart.symm {u v : Value} (h : Apart u v) : Apart v u := fun k hv hu => h k hu hv
def bxCs : List Bx → List Value → List (List Value)
  | b :: r, v :: vs => boxC b v :: bxCs r vs
  | _, _ => []
theorem bxCs_len : ∀ (l : List Bx) (vs : List Value), vs.length = l.length → (bxCs l vs).length = l.length := by
  intro l
  induction l with
  | nil => intro vs _; cases vs <;> rfl
  | cons b l ih =>
    intro vs h
    cases vs with
    | nil => simp at h
    | cons v vs => simp only [bxCs, List.length_cons]; rw [ih vs (by simpa using h)]
theorem bxCs_each : ∀ (l : List Bx) (vs : List Value), ∀ cs ∈ bxCs l vs, cs.length = 3 := by
  intro l
  induction l with
  | nil => intro vs cs h; cases vs <;> cases h
  | cons b l ih =>
    intro vs cs h
    cases vs with
    | nil => cases h
    | cons v vs =>
      simp only [bxCs, List.mem_cons] at h
      rcases h with rfl | h
      · rfl
      · exact ih vs cs h
theorem bxCs_at : ∀ (l : List Bx) (vs : List Value) (i : Nat) (b : Bx) (v : Value), l[i]? = some b → vs[i]? = some v → (bxCs l vs)[i]? = some (boxC b v) := by
  intro l
  induction l with
  | nil => intro vs i b v h; simp at h
  | cons c l ih =>
    intro vs i b v h h'
    cases vs with
    | nil => simp at h'
    | cons u vs =>
      cases i with
      | zero => simp at h h'; subst h; subst h'; rfl
      | succ i => simp at h h'; simpa [bxCs] using ih vs i b v h h'
theorem bxCs_app : ∀ (l : List Bx) (vs : List Value) (b : Bx) (v : Value), vs.length = l.length → bxCs (l ++ [b]) (vs ++ [v]) = bxCs l vs ++ [boxC b v] := by
  intro l
  induction l with
  | nil => intro vs b v h; cases vs with
    | nil => rfl
    | cons => simp at h
  | cons c l ih =>
    intro vs b v h
    cases vs with
    | nil => simp at h
    | cons u vs => simp only [List.cons_append, bxCs]; rw [ih vs b v (by simpa using h)]
theorem bxCs_set : ∀ (l : List Bx) (vs : List Value) (i : Nat) (b : Bx) (v : Value), vs.length = l.length → bxCs (l.set i b) (vs.set i v) = (bxCs l vs).set i (boxC b v) := by
  intro l
  induction l with
  | nil => intro vs i b v h; cases vs with
    | nil => rfl
    | cons => simp at h
  | cons c l ih =>
    intro vs i b v h
    cases vs with
    | nil => simp at h
    | cons u vs =>
      cases i with
      | zero => rfl
      | succ i => simp only [List.set_cons_succ, bxCs]; rw [ih vs i b v (by simpa using h)]
/-- A state in rows that a call has made: rows apart from each other. -/
structure OwnS (B : Nat) (w : World) (vb vs : Value) (vm : List Value) (s : Stt) : Prop where
  boxes : w.ownsRow B 65 3 vb s.boxes.length (bxCs s.boxes vm).flatten
  spool : w.ownsRow B 70 6 vs s.spool.length (s.spool.map entC).flatten
  len : vm.length = s.boxes.length
  mails : ∀ (i : Nat) b v, s.boxes[i]? = some b → vm[i]? = some v → w.ownsRow B 73 3 v b.mails.length (b.mails.map mailC).flatten
  bs : Apart vb vs
  mb : ∀ v ∈ vm, Apart v vb
  ms : ∀ v ∈ vm, Apart v vs
  mm : ∀ (i j : Nat) u v, i ≠ j → vm[i]? = some u → vm[j]? = some v → Apart u v
/-- The blocks of a state's rows. -/
def inS (vb vs : Value) (vm : List Value) (k : Nat) : Prop := vb.ownBlock = some k ∨ vs.ownBlock = some k ∨ ∃ v ∈ vm, v.ownBlock = some k
theorem owns_keep {w w' : World} {B n k : Nat} {e : TypeId} {v : Value} {xs : List Value} (h : w.ownsRow B e k v n xs) (hk : ∀ g, v.ownBlock = some g → w'.heap[g]? = w.heap[g]?) : w'.ownsRow B e k v n xs := by
  refine ⟨h.1, ?_⟩
  rcases h.2 with hn | ⟨g, cap, cur, rfl, hb, hgg, rest⟩
  · exact .inl hn
  · exact .inr ⟨g, cap, cur, rfl, hb, (hk g rfl).trans hgg, rest⟩
theorem OwnS.keep {B : Nat} {w w' : World} {vb vs : Value} {vm : List Value} {s : Stt} (h : OwnS B w vb vs vm s) (hk : ∀ g, inS vb vs vm g → w'.heap[g]? = w.heap[g]?) : OwnS B w' vb vs vm s :=
  ⟨owns_keep h.boxes fun g hg => hk g (.inl hg), owns_keep h.spool fun g hg => hk g (.inr (.inl hg)), h.len, fun i b v hb hv => owns_keep (h.mails i b v hb hv) fun g hg => hk g (.inr (.inr ⟨v, List.mem_of_getElem? hv, hg⟩)), h.bs, h.mb, h.ms, h.mm⟩
theorem OwnS.lt {B : Nat} {w : World} {vb vs : Value} {vm : List Value} {s : Stt} (h : OwnS B w vb vs vm s) {g : Nat} (hg : inS vb vs vm g) : B ≤ g ∧ g < w.heap.size := by
  rcases hg with hg | hg | ⟨v, hv, hg⟩
  · exact World.ownsRow.lt h.boxes g hg
  · exact World.ownsRow.lt h.spool g hg
  · obtain ⟨i, hi, rfl⟩ := List.getElem_of_mem hv
    have hi' : i < s.boxes.length := by rw [← h.len]; exact hi
    exact World.ownsRow.lt (h.mails i _ _ (List.getElem?_eq_getElem hi') (List.getElem?_eq_getElem hi)) g hg
theorem OwnS.next {B : Nat} {w w' : World} {vb vs : Value} {vm : List Value} {s : Stt} (h : OwnS B w vb vs vm s) (hb : Below w.heap.size w w') : OwnS B w' vb vs vm s := h.keep fun g hg => hb.block g (h.lt hg).2
/- What is owned can be read. -/
theorem own_row {A : Type} {B n k : Nat} {e : TypeId} {w : World} {v : Value} {l : List A} {css : List (List Value)} {P : A → List Value → Prop} {Q : Nat → Prop} (h : w.ownsRow B e k v n css.flatten) (hn : n = l.length) (hm : n ≤ maxLen) (hl : css.length = l.length) (he : ∀ cs ∈ css, cs.length = k)
    (hP : ∀ (i : Nat) x cs, l[i]? = some x → css[i]? = some cs → P x cs) (hQ : ∀ g, v.ownBlock = some g → Q g) : RowM Q k P w v l := by
  subst hn
  rcases h.2 with ⟨rfl, h0⟩ | ⟨g, cap, cur, rfl, hb, hg, h1, h2, h3, ht⟩
  · have : l = [] := List.length_eq_zero_iff.1 h0
    subst this
    exact rowM_nil _ _ _ _ _ _
  · refine ⟨some ⟨g, 0, none⟩, cap, rfl, hm, fun i x hx => ?_⟩
    have hi : i < l.length := (List.getElem?_eq_some_iff.1 hx).1
    have hc : css[i]? = some css[i] := List.getElem?_eq_getElem (by omega)
    refine ⟨g, 0, css[i], rfl, (Array.getElem?_eq_some_iff.1 hg).1, hQ g rfl, he _ (List.mem_of_getElem? hc), ?_, hP i x _ hx hc⟩
    intro j u hj
    have hjk : j < k := by rw [← he _ (List.mem_of_getElem? hc)]; exact (List.getElem?_eq_some_iff.1 hj).1
    have := World.ownsRow.cells h (g := g) rfl (i * k + j) u (by rw [flatten_nth he hc hjk]; exact hj)
    rw [Addr.add_lit] at this
    simpa [Nat.add_assoc] using this
theorem OwnS.stt {B : Nat} {w : World} {vb vs : Value} {vm : List Value} {s : Stt} {Q : Nat → Prop} (h : OwnS B w vb vs vm s) (hm : May s) (hQ : ∀ g, inS vb vs vm g → Q g) : SttM Q w vb vs s := by
  have h1 := hm.boxes
  have h2 := hm.spool
  refine ⟨own_row h.boxes rfl (by unfold maxLen; omega) (bxCs_len _ _ h.len) (bxCs_each _ _) (fun i b cs hb hc => ?_) (fun g hg => hQ g (.inl hg)), own_row h.spool rfl (by unfold maxLen; omega) (by simp) (map_flat_len entC (fun _ => rfl) _) (fun i x cs hx hc => ?_) (fun g hg => hQ g (.inr (.inl hg))), ?_⟩
  · have hi : i < vm.length := by rw [h.len]; exact (List.getElem?_eq_some_iff.1 hb).1
    have hv : vm[i]? = some vm[i] := List.getElem?_eq_getElem hi
    rw [bxCs_at _ _ _ _ _ hb hv] at hc
    cases hc
    have h3 := (hm.each b (List.mem_of_getElem? hb)).many
    exact ⟨_, rfl, own_row (h.mails i b _ hb hv) rfl (by unfold maxLen; omega) (by simp) (map_flat_len mailC (fun _ => rfl) _) (fun j x cs hx hc => by
      rw [List.getElem?_map, hx] at hc
      cases hc
      rfl) (fun g hg => hQ g (.inr (.inr ⟨_, List.mem_of_getElem? hv, hg⟩)))⟩
  · rw [List.getElem?_map, hx] at hc
    cases hc
    rfl
  · intro a n c e
    rcases h.boxes.2 with ⟨e', _⟩ | ⟨g, cap, cur, e', _, _, h1, _⟩
    · rw [e'] at e; cases e; exact Nat.le_refl _
    · rw [e'] at e; cases e; exact h1
theorem OwnS.small {B : Nat} {w : World} {vb vs : Value} {vm : List Value} {s : Stt} (h : OwnS B w vb vs vm s) : ∃ a c, vb = .slice a s.boxes.length c := by
  rcases h.boxes.2 with ⟨rfl, hn⟩ | ⟨g, cap, cur, rfl, _⟩
  · exact ⟨none, 0, by rw [hn]⟩
  · exact ⟨_, _, rfl⟩
/-- A box in its row: where it lies. -/
theorem OwnS.box {B : Nat} {w : World} {vb vs : Value} {vm : List Value} {s : Stt} (h : OwnS B w vb vs vm s) {i : Nat} {b : Bx} (hb : s.boxes[i]? = some b) : ∃ g c v, vb = .slice (some ⟨g, 0, none⟩) s.boxes.length c ∧ vm[i]? = some v ∧ w.cell? ⟨g, i * 3, none⟩ = some (.string (S b.name)) ∧ w.cell? ⟨g, i * 3 + 1, none⟩ = some (.int .i64 b.next) ∧ w.cell? ⟨g, i * 3 + 2, none⟩ = some v ∧
    w.frozen? ⟨g, i * 3 + 1, none⟩ = false ∧ w.frozen? ⟨g, i * 3 + 2, none⟩ = false := by
  have hi0 : i < s.boxes.length := (List.getElem?_eq_some_iff.1 hb).1
  have hi : i < vm.length := by rw [h.len]; exact hi0
  have hv : vm[i]? = some vm[i] := List.getElem?_eq_getElem hi
  rcases h.boxes.2 with ⟨_, hn⟩ | ⟨g, cap, cur, e, _, hg, _⟩
  · omega
  · have hat := bxCs_at _ _ _ _ _ hb hv
    have hc : ∀ j u, (boxC b vm[i])[j]? = some u → w.cell? ⟨g, i * 3 + j, none⟩ = some u := fun j u hj => by
      have hj3 : j < 3 := (List.getElem?_eq_some_iff.1 hj).1
      have := World.ownsRow.cells h.boxes (g := g) (by rw [e]; rfl) (i * 3 + j) u (by rw [flatten_nth (bxCs_each _ _) hat hj3]; exact hj)
      rw [Addr.add_lit] at this
      simpa using this
    exact ⟨g, cap, _, e, hv, hc 0 _ rfl, hc 1 _ rfl, hc 2 _ rfl, by simp [World.frozen?, hg], by simp [World.frozen?, hg]⟩
theorem owns_set {w : World} {B n c g : Nat} {e : TypeId} {k : Nat} {xs : List Value} (h : w.ownsRow B e k (.slice (some ⟨g, 0, none⟩) n c) n xs) (j : Nat) (u : Value) :
    (w.setCell ⟨g, j, none⟩ u).ownsRow B e k (.slice (some ⟨g, 0, none⟩) n c) n (xs.set j u) := by
  refine ⟨by rw [List.length_set]; exact h.1, .inr ?_⟩
  rcases h.2 with ⟨h', _⟩ | ⟨g', cap', cur, h', hb, hg, h1, h2, h3, htake⟩
  · simp at h'
  · simp only [Value.slice.injEq, Option.some.injEq, Addr.mk.injEq, and_true, true_and] at h'
    obtain ⟨rfl, rfl⟩ := h'
    refine ⟨g, c, cur.setIfInBounds j u, rfl, hb, heap_setCell_same w g j cur e u hg, h1, h2, by simpa using h3, ?_⟩
    rw [Array.toList_setIfInBounds, List.take_set, htake]
theorem set_other {w : World} {g j k : Nat} {u : Value} (h : k ≠ g) : (w.setCell ⟨g, j, none⟩ u).heap[k]? = w.heap[k]? := Below.heap_setCell _ _ _ _ h
/-- A box's Next, or its mails, changed in its row. -/
theorem OwnS.setNext {B : Nat} {w : World} {g c : Nat} {vs : Value} {vm : List Value} {s : Stt} {i : Nat} {b : Bx} {n : Int} (h : OwnS B w (.slice (some ⟨g, 0, none⟩) s.boxes.length c) vs vm s) (hb : s.boxes[i]? = some b) :
    OwnS B (w.setCell ⟨g, i * 3 + 1, none⟩ (.int .i64 n)) (.slice (some ⟨g, 0, none⟩) s.boxes.length c) vs vm ⟨s.boxes.set i ⟨b.name, n, b.mails⟩, s.spool⟩ := by
  have hi0 : i < s.boxes.length := (List.getElem?_eq_some_iff.1 hb).1
  have hi : i < vm.length := by rw [h.len]; exact hi0
  have hv : vm[i]? = some vm[i] := List.getElem?_eq_getElem hi
  refine ⟨?_, owns_keep h.spool fun k hk => set_other fun e => h.bs g rfl (by rw [← e]; exact hk), by simpa using h.len, ?_, h.bs, h.mb, h.ms, h.mm⟩
  · have := owns_set h.boxes (i * 3 + 1) (.int .i64 n)
    rw [flatten_put _ (bxCs_each _ _) (bxCs_at _ _ _ _ _ hb hv) (by omega)] at this
    have e : (bxCs s.boxes vm).set i ((boxC b vm[i]).set 1 (.int .i64 n)) = bxCs (s.boxes.set i ⟨b.name, n, b.mails⟩) vm := by
      have := bxCs_set s.boxes vm i ⟨b.name, n, b.mails⟩ vm[i] h.len
      rw [List.set_getElem_self] at this
      rw [this]; rfl
    rw [e] at this
    simpa using this
  · intro j c' v hc hv'
    have hk : ∀ k, v.ownBlock = some k → (w.setCell ⟨g, i * 3 + 1, none⟩ (.int .i64 n)).heap[k]? = w.heap[k]? := fun k hk => set_other fun e => h.mb v (List.mem_of_getElem? hv') k hk (by rw [e]; rfl)
    by_cases hij : i = j
    · subst hij
      rw [List.getElem?_set_self hi0] at hc
      cases hc
      exact owns_keep (h.mails i b v hb hv') hk
    · rw [List.getElem?_set_ne hij] at hc
      exact owns_keep (h.mails j c' v hc hv') hk
theorem OwnS.setMails {B : Nat} {w : World} {g c : Nat} {vs v' : Value} {vm : List Value} {s : Stt} {i : Nat} {b : Bx} {ms : List Mail} (h : OwnS B w (.slice (some ⟨g, 0, none⟩) s.boxes.length c) vs vm s) (hb : s.boxes[i]? = some b) {w' : World}
    (hw : ∀ k, k < w.heap.size → some k ≠ (vm.getD i (.slice none 0 0)).ownBlock → w'.heap[k]? = w.heap[k]?) (hm : w'.ownsRow B 73 3 v' ms.length (ms.map mailC).flatten) (hat : v'.ownBlock = (vm.getD i (.slice none 0 0)).ownBlock ∨ ∀ k, v'.ownBlock = some k → w.heap.size ≤ k) :
    OwnS B (w'.setCell ⟨g, i * 3 + 2, none⟩ v') (.slice (some ⟨g, 0, none⟩) s.boxes.length c) vs (vm.set i v') ⟨s.boxes.set i ⟨b.name, b.next, ms⟩, s.spool⟩ := by
  have hi0 : i < s.boxes.length := (List.getElem?_eq_some_iff.1 hb).1
  have hi : i < vm.length := by rw [h.len]; exact hi0
  have hv : vm[i]? = some vm[i] := List.getElem?_eq_getElem hi
  have hd : vm.getD i (.slice none 0 0) = vm[i] := by simp [hi]
  rw [hd] at hw hat
  have hmem : vm[i] ∈ vm := List.mem_of_getElem? hv
  have ap : ∀ u, Apart vm[i] u → (∀ k, u.ownBlock = some k → k < w.heap.size) → Apart v' u := fun u hu hl k hk hk' => by
    rcases hat with e | e
    · exact hu k (by rw [← e]; exact hk) hk'
    · have := e k hk; have := hl k hk'; omega
  have hgs : ∀ k, (Value.slice (some ⟨g, 0, none⟩) s.boxes.length c).ownBlock = some k → k < w.heap.size := fun k hk => (World.ownsRow.lt h.boxes k hk).2
  have hss : ∀ k, vs.ownBlock = some k → k < w.heap.size := fun k hk => (World.ownsRow.lt h.spool k hk).2
  have hms : ∀ (j : Nat) u, vm[j]? = some u → ∀ k, u.ownBlock = some k → k < w.heap.size := fun j u hu k hk => (h.lt (.inr (.inr ⟨u, List.mem_of_getElem? hu, hk⟩))).2
  have hg : w'.heap[g]? = w.heap[g]? := hw g (hgs g rfl) fun e => h.mb _ hmem g e.symm rfl
  have hbx : w'.ownsRow B 65 3 (.slice (some ⟨g, 0, none⟩) s.boxes.length c) s.boxes.length (bxCs s.boxes vm).flatten := owns_keep h.boxes fun k hk => by cases hk; exact hg
  have hne : ∀ k, v'.ownBlock = some k → k ≠ g := fun k hk e => ap _ (h.mb _ hmem) hgs k hk (by rw [e]; rfl)
  refine ⟨?_, ?_, by simpa using h.len, ?_, h.bs, ?_, ?_, ?_⟩
  · have := owns_set hbx (i * 3 + 2) v'
    rw [flatten_put _ (bxCs_each _ _) (bxCs_at _ _ _ _ _ hb hv) (by omega)] at this
    have e : (bxCs s.boxes vm).set i ((boxC b vm[i]).set 2 v') = bxCs (s.boxes.set i ⟨b.name, b.next, ms⟩) (vm.set i v') := by
      rw [bxCs_set _ _ _ _ _ h.len]; rfl
    rw [e] at this
    simpa using this
  · refine owns_keep h.spool fun k hk => ?_
    rw [set_other fun e => h.bs g rfl (by rw [← e]; exact hk)]
    exact hw k (hss k hk) fun e => h.ms _ hmem k e.symm hk
  · intro j c' v hc hv'
    by_cases hij : i = j
    · subst hij
      rw [List.getElem?_set_self hi0] at hc
      rw [List.getElem?_set_self hi] at hv'
      cases hc
      cases hv'
      exact owns_keep hm fun k hk => set_other (hne k hk)
    · rw [List.getElem?_set_ne hij] at hc
      rw [List.getElem?_set_ne hij] at hv'
      refine owns_keep (h.mails j c' v hc hv') fun k hk => ?_
      rw [set_other fun e => h.mb v (List.mem_of_getElem? hv') k hk (by rw [e]; rfl)]
      exact hw k (hms j v hv' k hk) fun e => h.mm i j _ _ hij hv hv' k e.symm hk
  · intro u hu
    rcases mem_set_or hu with rfl | hu
    · exact ap _ (h.mb _ hmem) hgs
    · exact h.mb u hu
  · intro u hu
    rcases mem_set_or hu with rfl | hu
    · exact ap _ (h.ms _ hmem) hss
    · exact h.ms u hu
  · intro j k u v hjk hu hv'
    by_cases hij : i = j
    · subst hij
      rw [List.getElem?_set_self hi] at hu
      rw [List.getElem?_set_ne hjk] at hv'
      cases hu
      exact ap _ (h.mm i k _ _ hjk hv hv') (hms k v hv')
    · by_cases hik : i = k
      · subst hik
        rw [List.getElem?_set_self hi] at hv'
        rw [List.getElem?_set_ne hij] at hu
        cases hv'
        exact (ap _ (h.mm i j _ _ hij hv hu) (hms j u hu)).symm
      · rw [List.getElem?_set_ne hij] at hu
        rw [List.getElem?_set_ne hik] at hv'
        exact h.mm j k u v hjk hu hv'
end Go.Proofs.YtkkkbggbeihbnaaDoor
