/-
  Plain facts on boxes of mails: which states may be, which entries have their form, what an entry does. No program is named here.
-/
import Derived.Test.YtgooljlpffnaeaaGreatDoorFQScrRd135
namespace Go.Proofs.YtgooljlpffnaeaaGreatDoor
open Go.RowKit
structure Mail where
 uid : Int
 flags : Int
 text : List UInt8
structure Bx where
 name : List UInt8
 next : Int
 mails : List Mail
structure Ent where
 kind : Int
 box : List UInt8
 uid : Int
 flags : Int
 goal : List UInt8
 text : List UInt8
structure Stt where
 boxes : List Bx
 spool : List Ent
def zh : List Mail → Nat
 | [] => 0
 | m :: r => m.text.length + zh r
def jY : List Bx → Nat
 | [] => 0
 | b :: r => zh b.mails + jY r
theorem jb7 (l r : List Mail) : zh (l ++ r) = zh l + zh r := by
 induction l with
 | nil => simp [zh]
 | cons m l ih => simp only [List.cons_append, zh, ih]; omega
theorem jb5 (l r : List Bx) : jY (l ++ r) = jY l + jY r := by
 induction l with
 | nil => simp [jY]
 | cons m l ih => simp only [List.cons_append, jY, ih]; omega
theorem jb6 : ∀ (l : List Bx) (i : Nat) (b b' : Bx), l[i]? = some b → jY (l.set i b') + zh b.mails = jY l + zh b'.mails := by
 intro l
 induction l with
 | nil => intro i b b' h; simp at h
 | cons c l ih =>
   intro i b b' h; cases i with
   | zero => simp only [List.getElem?_cons_zero, Option.some.injEq] at h; subst h; simp only [List.set_cons_zero, jY]; omega
   | succ i => simp only [List.getElem?_cons_succ] at h; have := ih i b b' h; simp only [List.set_cons_succ, jY]; omega
theorem jdm (l : List Bx) (i : Nat) : jY (l.take i) ≤ jY l := by
 have h := jb5 (l.take i) (l.drop i); rw [List.take_append_drop] at h; omega
theorem jdn (l : List Mail) (i : Nat) : zh (l.take i) ≤ zh l := by
 have h := jb7 (l.take i) (l.drop i); rw [List.take_append_drop] at h; omega
def jhZ (s : List UInt8) : Int := if 100 < s.length then 3 else if (qn s).2 = 0 ∧ (qn s).1.length = 1 then 0 else 3
def jmt (x : Ent) : Prop :=
 ((x.kind = 1 ∨ x.kind = 4) → x.uid = 0 ∧ x.flags = 0 ∧ x.goal = [] ∧ x.text = []) ∧
 (x.kind = 2 → x.uid = 0 ∧ x.goal = []) ∧
 (x.kind = 3 → x.goal = [] ∧ x.text = []) ∧
 (x.kind = 5 → x.flags = 0 ∧ x.text = []) ∧
 (x.kind = 6 → x.box = [] ∧ x.uid = 0 ∧ x.flags = 0)
structure Formed (x : Ent) : Prop where
 kind : 1 ≤ x.kind ∧ x.kind ≤ 6
 bare : jmt x
 flags : 0 ≤ x.flags ∧ x.flags ≤ 31
 uid : 0 ≤ x.uid ∧ x.uid ≤ 1048576
 text : x.text.length ≤ 2000
 goal : x.kind = 6 → jhZ x.goal = 0
 name : x.kind ≠ 6 → qI x.box = 0
 to : x.kind = 5 → qI x.goal = 0
def jbo : Int → Int → List Mail → Prop
 | _, _, [] => True
 | last, next, m :: r => last < m.uid ∧ m.uid < next ∧ 0 ≤ m.flags ∧ m.flags ≤ 31 ∧ m.text.length ≤ 2000 ∧ jbo m.uid next r
structure BoxMay (b : Bx) : Prop where
 name : qI b.name = 0
 next : 1 ≤ b.next ∧ b.next ≤ 1048577
 many : b.mails.length ≤ 30
 mails : jbo 0 b.next b.mails
structure May (s : Stt) : Prop where
 boxes : s.boxes.length ≤ 5
 spool : s.spool.length ≤ 20
 each : ∀ b ∈ s.boxes, BoxMay b
 names : (s.boxes.map Bx.name).Nodup
 size : jY s.boxes ≤ 6000
 out : ∀ x ∈ s.spool, x.kind = 6 ∧ Formed x
theorem jg0 {a a' next : Int} (h : a' ≤ a) : ∀ (l : List Mail), jbo a next l → jbo a' next l := by
 intro l; cases l with
 | nil => intro _; trivial
 | cons m l => intro ⟨h1, h2⟩; exact ⟨by omega, h2⟩
theorem jg1 {next : Int} {m : Mail} (h2 : m.uid = next) (h3 : 0 ≤ m.flags) (h4 : m.flags ≤ 31) (h5 : m.text.length ≤ 2000) : ∀ (l : List Mail) (last : Int), last < next → jbo last next l → jbo last (next + 1) (l ++ [m]) := by
 intro l
 induction l with
 | nil => intro last hl _; exact ⟨by omega, by omega, h3, h4, h5, trivial⟩
 | cons c l ih => intro last hl ⟨k1, k2, k3, k4, k5, k6⟩; exact ⟨k1, by omega, k3, k4, k5, ih _ (by omega) k6⟩
theorem jd9 {next : Int} (p : Mail → Bool) : ∀ (l : List Mail) (last : Int), jbo last next l → jbo last next (l.filter p) := by
 intro l
 induction l with
 | nil => intro _ _; trivial
 | cons m l ih =>
   intro last ⟨h1, h2, h3, h4, h5, h6⟩; cases hp : p m with
   | true => rw [List.filter_cons_of_pos hp]; exact ⟨h1, h2, h3, h4, h5, ih _ h6⟩
   | false => rw [List.filter_cons_of_neg (by rw [hp]; simp)]; exact ih _ (jg0 (by omega) _ h6)
theorem je9 {next f : Int} (h1 : 0 ≤ f) (h2 : f ≤ 31) : ∀ (l : List Mail) (last : Int) (j : Nat) (m : Mail), l[j]? = some m → jbo last next l → jbo last next (l.set j ⟨m.uid, f, m.text⟩) := by
 intro l
 induction l with
 | nil => intro _ j m h; simp at h
 | cons c l ih =>
   intro last j m h ⟨k1, k2, k3, k4, k5, k6⟩; cases j with
   | zero => simp only [List.getElem?_cons_zero, Option.some.injEq] at h; subst h; exact ⟨k1, k2, h1, h2, k5, k6⟩
   | succ j => simp only [List.getElem?_cons_succ] at h; exact ⟨k1, k2, k3, k4, k5, ih _ j m h k6⟩
theorem jb0 {next : Int} : ∀ {l : List Mail} {last : Int} {m : Mail}, jbo last next l → m ∈ l → last < m.uid ∧ m.uid < next ∧ 0 ≤ m.flags ∧ m.flags ≤ 31 ∧ m.text.length ≤ 2000 := by
 intro l
 induction l with
 | nil => intro _ m _ h; cases h
 | cons c l ih =>
   intro last m ⟨k1, k2, k3, k4, k5, k6⟩ h; cases h with
   | head => exact ⟨k1, k2, k3, k4, k5⟩
   | tail _ h => have := ih k6 h; exact ⟨by omega, this.2⟩
def isName (s : List UInt8) (b : Bx) : Bool := decide (b.name = s)
def jbS (u : Int) (m : Mail) : Bool := decide (m.uid = u)
def zU (m : Mail) : Bool := decide (m.flags / 8 % 2 = 1)
def addM (s : Stt) (i : Nat) (f : Int) (t : List UInt8) : Except Int Stt :=
 match s.boxes[i]? with
 | none => .error 7
 | some b => if 30 ≤ b.mails.length ∨ 1048576 < b.next ∨ 6000 < jY s.boxes + t.length then .error 5 else .ok ⟨s.boxes.set i ⟨b.name, b.next + 1, b.mails ++ [⟨b.next, f, t⟩]⟩, s.spool⟩
def doM (s : Stt) (x : Ent) : Except Int Stt :=
 if x.kind = 1 then
    if (s.boxes.findIdx? (isName x.box)).isSome then .error 10
    else if 5 ≤ s.boxes.length then .error 5 else .ok ⟨s.boxes ++ [⟨x.box, 1, []⟩], s.spool⟩
 else if x.kind = 6 then
    if 20 ≤ s.spool.length then .error 5 else .ok ⟨s.boxes, s.spool ++ [x]⟩
 else match s.boxes.findIdx? (isName x.box) with
    | none => .error 7
    | some i =>
      if x.kind = 2 then addM s i x.flags x.text
      else match s.boxes[i]? with
        | none => .error 7
        | some b =>
          if x.kind = 4 then .ok ⟨s.boxes.set i ⟨b.name, b.next, b.mails.filter fun m => !zU m⟩, s.spool⟩
          else match b.mails.findIdx? (jbS x.uid) with
           | none => .error 7
           | some j =>
             match b.mails[j]? with
             | none => .error 7
             | some m =>
               if x.kind = 5 then
                  match s.boxes.findIdx? (isName x.goal) with
                  | none => .error 7
                  | some k => addM s k m.flags m.text
               else .ok ⟨s.boxes.set i ⟨b.name, b.next, b.mails.set j ⟨m.uid, x.flags, m.text⟩⟩, s.spool⟩
theorem jaW {A : Type} {p : A → Bool} : ∀ {l : List A} {i : Nat}, l.findIdx? p = some i → ∃ x, l[i]? = some x ∧ p x = true := by
 intro l i h; obtain ⟨hi, hp, _⟩ := List.findIdx?_eq_some_iff_getElem.1 h; exact ⟨l[i], List.getElem?_eq_getElem hi, hp⟩
theorem jdP {A : Type} {p : A → Bool} {l : List A} (h : l.findIdx? p = none) : ∀ x ∈ l, p x = false := by
 intro x hx; have := List.findIdx?_eq_none_iff.1 h x hx
 simpa using this
theorem jd0 {A B : Type} (f : A → B) : ∀ (l : List A) (i : Nat) (x y : A), l[i]? = some x → f y = f x → (l.set i y).map f = l.map f := by
 intro l
 induction l with
 | nil => intro i x y h; simp at h
 | cons c l ih =>
   intro i x y h e; cases i with
   | zero => simp only [List.getElem?_cons_zero, Option.some.injEq] at h; subst h; simp [e]
   | succ i => simp only [List.getElem?_cons_succ] at h; simp [ih i x y h e]
theorem qH {A : Type} {l : List A} {i : Nat} {x y : A} (h : y ∈ l.set i x) : y = x ∨ y ∈ l := by
 rcases List.mem_or_eq_of_mem_set h with h | h
 · exact .inr h
 · exact .inl h
theorem May.changed {s : Stt} {i : Nat} {b b' : Bx} (h : May s) (hb : s.boxes[i]? = some b) (hn : b'.name = b.name) (hm : BoxMay b') (hz : jY (s.boxes.set i b') ≤ 6000) : May ⟨s.boxes.set i b', s.spool⟩ := by
 refine ⟨by simpa using h.boxes, h.spool, ?_, ?_, hz, h.out⟩
 · intro c hc
   rcases qH hc with rfl | hc
   · exact hm
   · exact h.each c hc
 · show ((s.boxes.set i b').map Bx.name).Nodup
   rw [jd0 Bx.name _ _ _ _ hb hn]; exact h.names
theorem jfs {s s' : Stt} {i : Nat} {f : Int} {t : List UInt8} (h : May s) (hf : 0 ≤ f ∧ f ≤ 31) (ht : t.length ≤ 2000) (ha : addM s i f t = .ok s') : May s' := by
 unfold addM at ha; cases hb : s.boxes[i]? with
 | none => rw [hb] at ha; cases ha
 | some b =>
   rw [hb] at ha
   by_cases hfull : 30 ≤ b.mails.length ∨ 1048576 < b.next ∨ 6000 < jY s.boxes + t.length
   · simp only [if_pos hfull] at ha; cases ha
   · simp only [if_neg hfull] at ha; cases ha; have hB := h.each b (List.mem_of_getElem? hb); refine h.changed hb rfl ⟨hB.name, ⟨by have := hB.next; show 1 ≤ b.next + 1; omega, by show b.next + 1 ≤ 1048577; omega⟩, by simp; omega, ?_⟩ ?_
     · exact jg1 (next := b.next) (m := ⟨b.next, f, t⟩) rfl hf.1 hf.2 ht b.mails 0 (by have := hB.next; omega) hB.mails
     · have := jb6 s.boxes i b ⟨b.name, b.next + 1, b.mails ++ [⟨b.next, f, t⟩]⟩ hb; simp only [jb7, zh] at this; omega
theorem jeg (p : Mail → Bool) (l : List Mail) : zh (l.filter p) ≤ zh l := by
 induction l with
 | nil => simp [zh]
 | cons m l ih =>
   cases hp : p m with
   | true => rw [List.filter_cons_of_pos hp]; simp only [zh]; omega
   | false => rw [List.filter_cons_of_neg (by rw [hp]; simp)]; simp only [zh]; omega
theorem jfi : ∀ (l : List Mail) (j : Nat) (m : Mail) (f : Int), l[j]? = some m → zh (l.set j ⟨m.uid, f, m.text⟩) = zh l := by
 intro l
 induction l with
 | nil => intro j m f h; simp at h
 | cons c l ih =>
   intro j m f h; cases j with
   | zero => simp only [List.getElem?_cons_zero, Option.some.injEq] at h; subst h; rfl
   | succ j => simp only [List.getElem?_cons_succ] at h; simp only [List.set_cons_succ, zh, ih j m f h]
theorem jeR {s s' : Stt} {x : Ent} (h : May s) (hx : Formed x) (hd : doM s x = .ok s') : May s' := by
 unfold doM at hd
 by_cases k1 : x.kind = 1
 · rw [if_pos k1] at hd; cases hf : s.boxes.findIdx? (isName x.box) with
   | some i => rw [hf] at hd; cases hd
   | none =>
     rw [hf] at hd; simp only [Option.isSome_none, Bool.false_eq_true, if_false] at hd
     by_cases h5 : 5 ≤ s.boxes.length
     · rw [if_pos h5] at hd; cases hd
     · rw [if_neg h5] at hd; cases hd; refine ⟨by simp; omega, h.spool, ?_, ?_, ?_, h.out⟩
       · intro c hc
         rcases List.mem_append.1 hc with hc | hc
         · exact h.each c hc
         · simp at hc; subst hc; exact ⟨hx.name (by omega), ⟨by show (1:Int) ≤ 1; omega, by show (1:Int) ≤ 1048577; omega⟩, by simp, trivial⟩
       · rw [List.map_append, List.nodup_append]; refine ⟨h.names, by simp, ?_⟩; intro a ha b hb
         simp at hb
         subst hb; obtain ⟨c, hc, rfl⟩ := List.mem_map.1 ha; have := jdP hf c hc
         simpa [isName] using this
       · show jY (s.boxes ++ [⟨x.box, 1, []⟩]) ≤ 6000
         rw [jb5]; simp only [jY, zh]; have := h.size; omega
 · rw [if_neg k1] at hd
   by_cases k6 : x.kind = 6
   · rw [if_pos k6] at hd
     by_cases h20 : 20 ≤ s.spool.length
     · rw [if_pos h20] at hd; cases hd
     · rw [if_neg h20] at hd; cases hd; refine ⟨h.boxes, by simp; omega, h.each, h.names, h.size, ?_⟩; intro y hy
       rcases List.mem_append.1 hy with hy | hy
       · exact h.out y hy
       · simp at hy; subst hy; exact ⟨k6, hx⟩
   · rw [if_neg k6] at hd; cases hi : s.boxes.findIdx? (isName x.box) with
     | none => rw [hi] at hd; cases hd
     | some i =>
       rw [hi] at hd; simp only at hd
       by_cases k2 : x.kind = 2
       · rw [if_pos k2] at hd; exact jfs h hx.flags hx.text hd
       · rw [if_neg k2] at hd; cases hb : s.boxes[i]? with
         | none => rw [hb] at hd; cases hd
         | some b =>
           rw [hb] at hd; simp only at hd; have hB := h.each b (List.mem_of_getElem? hb)
           by_cases k4 : x.kind = 4
           · rw [if_pos k4] at hd; cases hd; refine h.changed hb rfl ⟨hB.name, hB.next, Nat.le_trans (List.length_filter_le _ _) hB.many, jd9 _ _ _ hB.mails⟩ ?_; have h1 := jb6 s.boxes i b ⟨b.name, b.next, b.mails.filter fun m => !zU m⟩ hb; have h2 := jeg (fun m => !zU m) b.mails; have h3 := h.size; simp only at h1; omega
           · rw [if_neg k4] at hd; cases hj : b.mails.findIdx? (jbS x.uid) with
             | none => rw [hj] at hd; cases hd
             | some j =>
               rw [hj] at hd; simp only at hd; cases hm : b.mails[j]? with
               | none => rw [hm] at hd; cases hd
               | some m =>
                 rw [hm] at hd; simp only at hd; have hM := jb0 hB.mails (List.mem_of_getElem? hm)
                 by_cases k5 : x.kind = 5
                 · rw [if_pos k5] at hd; cases hk : s.boxes.findIdx? (isName x.goal) with
                   | none => rw [hk] at hd; cases hd
                   | some k =>
                     rw [hk] at hd; exact jfs h ⟨hM.2.2.1, hM.2.2.2.1⟩ hM.2.2.2.2 hd
                 · rw [if_neg k5] at hd; cases hd; refine h.changed hb rfl ⟨hB.name, hB.next, by simpa using hB.many, je9 hx.flags.1 hx.flags.2 _ _ _ _ hm hB.mails⟩ ?_; have h1 := jb6 s.boxes i b ⟨b.name, b.next, b.mails.set j ⟨m.uid, x.flags, m.text⟩⟩ hb; have h2 := jfi b.mails j m x.flags hm; have h3 := h.size; simp only at h1; omega
def allM : Stt → List Ent → Except Int Stt
 | s, [] => .ok s
 | s, x :: r => match doM s x with
   | .error e => .error e
   | .ok s' => allM s' r
theorem jju : ∀ {l : List Ent} {s s' : Stt}, May s → (∀ x ∈ l, Formed x) → allM s l = .ok s' → May s' := by
 intro l
 induction l with
 | nil => intro s s' h _ e; cases e; exact h
 | cons x l ih =>
   intro s s' h hx e; unfold allM at e; cases hd : doM s x with
   | error e' => rw [hd] at e; cases e
   | ok s1 => rw [hd] at e; exact ih (jeR h (hx x (by simp)) hd) (fun y hy => hx y (by simp [hy])) e
end Go.Proofs.YtgooljlpffnaeaaGreatDoor
