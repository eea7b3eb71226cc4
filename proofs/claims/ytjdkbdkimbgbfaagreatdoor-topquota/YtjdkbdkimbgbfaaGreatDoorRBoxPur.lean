/-
  Plain facts on boxes of mails: which states may be, which entries have their form, what an entry does. No program is named here.
-/
import Derived.Test.YtjdkbdkimbgbfaaGreatDoorRQScrRd117
namespace Go.Proofs.YtjdkbdkimbgbfaaGreatDoor
open Go.RowKit
variable {f next : Int} {i : Nat} {A : Type}
structure Mail where
 uid : Int
 flags : Int
 text : List UInt8
structure Bx where
 name : List UInt8
 next : Int
 mails : List Mail
structure Ent where
 kind : Int
 box : List UInt8
 uid : Int
 flags : Int
 goal : List UInt8
 text : List UInt8
structure Stt where
 boxes : List Bx
 spool : List Ent
def zd : List Mail -> Nat
 | [] => 0
 | m :: r => m.text.length + zd r
def j4 : List Bx -> Nat
 | [] => 0
 | b :: r => zd b.mails + j4 r
theorem jbz (l r : List Mail) : zd (l ++ r) = zd l + zd r := by
 induction l with
 | nil => simp [zd]
 | cons m l ih => simp only [bL, zd, ih]; omega
theorem jcV (l r : List Bx) : j4 (l ++ r) = j4 l + j4 r := by
 induction l with
 | nil => simp [j4]
 | cons m l ih => simp only [bL, j4, ih]; omega
theorem jcW : ∀ (l : List Bx) (i : Nat) (b b' : Bx), l[i]? = some b -> j4 (l.set i b') + zd b.mails = j4 l + zd b'.mails := by
 intro l
 induction l with
 | nil => intro i b b' h; simp at h
 | cons c l ih =>
   intro i b b' h; cases i with
   | zero => simp only [bQ, aS] at h; subst h; simp only [ah, j4]; omega
   | succ i => simp only [bR] at h; have := ih i b b' h; simp only [ag, j4]; omega
theorem jeB (l : List Bx) (i : Nat) : j4 (l.take i) <= j4 l := by
 have h := jcV (l.take i) (l.drop i); rw [List.take_append_drop] at h; omega
theorem jeC (l : List Mail) (i : Nat) : zd (l.take i) <= zd l := by
 have h := jbz (l.take i) (l.drop i); rw [List.take_append_drop] at h; omega
def jpz (s : List UInt8) : Int := if 100 < s.length then 3 else if (jno s).2 = 0 /\ (jno s).1.length = 1 then 0 else 3
def jrl (x : Ent) : Prop :=
 ((x.kind = 1 ∨ x.kind = 4) -> x.uid = 0 /\ x.flags = 0 /\ x.goal = [] /\ x.text = []) /\
 (x.kind = 2 -> x.uid = 0 /\ x.goal = []) /\
 (x.kind = 3 -> x.goal = [] /\ x.text = []) /\
 (x.kind = 5 -> x.flags = 0 /\ x.text = []) /\
 (x.kind = 6 -> x.box = [] /\ x.uid = 0 /\ x.flags = 0)
structure Formed (x : Ent) : Prop where
 kind : 1 <= x.kind /\ x.kind <= 6
 bare : jrl x
 flags : 0 <= x.flags /\ x.flags <= 31
 uid : 0 <= x.uid /\ x.uid <= 1048576
 text : x.text.length <= 2000
 goal : x.kind = 6 -> jpz x.goal = 0
 name : x.kind ≠ 6 -> vu x.box = 0
 to : x.kind = 5 -> vu x.goal = 0
 one : x = ⟨2, [73, 78, 66, 79, 88], 0, 0, [], x.text⟩
def jch : Int -> Int -> List Mail -> Prop
 | _, _, [] => True
 | last, next, m :: r => last < m.uid /\ m.uid < next /\ 0 <= m.flags /\ m.flags <= 31 /\ m.text.length <= 2000 /\ jch m.uid next r
structure BoxMay (b : Bx) : Prop where
 name : vu b.name = 0
 next : 1 <= b.next /\ b.next <= 1048577
 many : b.mails.length <= 30
 mails : jch 0 b.next b.mails
structure May (s : Stt) : Prop where
 boxes : s.boxes.length <= 5
 spool : s.spool.length <= 20
 each : ∀ b ∈ s.boxes, BoxMay b
 names : (s.boxes.map Bx.name).Nodup
 size : j4 s.boxes <= 6000
 out : ∀ x ∈ s.spool, x.kind = 6 /\ Formed x
theorem jjr {a a' : Int} (h : a' <= a) : ∀ (l : List Mail), jch a next l -> jch a' next l := by
 intro l; cases l with
 | nil => intro _; trivial
 | cons m l => intro ⟨h1, h2⟩; exact ⟨by omega, h2⟩
theorem jjs {m : Mail} (h2 : m.uid = next) (h3 : 0 <= m.flags) (h4 : m.flags <= 31) (h5 : m.text.length <= 2000) : ∀ (l : List Mail) (last : Int), last < next -> jch last next l -> jch last (next + 1) (l ++ [m]) := by
 intro l
 induction l with
 | nil => intro last hl _; exact ⟨by omega, by omega, h3, h4, h5, trivial⟩
 | cons c l ih => intro last hl ⟨k1, k2, k3, k4, k5, k6⟩; exact ⟨k1, by omega, k3, k4, k5, ih _ (by omega) k6⟩
theorem jfK (p : Mail -> Bool) : ∀ (l : List Mail) (last : Int), jch last next l -> jch last next (l.filter p) := by
 intro l
 induction l with
 | nil => intro _ _; trivial
 | cons m l ih =>
   intro last ⟨h1, h2, h3, h4, h5, h6⟩; cases hp : p m with
   | true => rw [List.filter_cons_of_pos hp]; exact ⟨h1, h2, h3, h4, h5, ih _ h6⟩
   | false => rw [List.filter_cons_of_neg (by rw [hp]; simp)]; exact ih _ (jjr (by omega) _ h6)
theorem jg2 (h1 : 0 <= f) (h2 : f <= 31) : ∀ (l : List Mail) (last : Int) (j : Nat) (m : Mail), l[j]? = some m -> jch last next l -> jch last next (l.set j ⟨m.uid, f, m.text⟩) := by
 intro l
 induction l with
 | nil => intro _ j m h; simp at h
 | cons c l ih =>
   intro last j m h ⟨k1, k2, k3, k4, k5, k6⟩; cases j with
   | zero => simp only [bQ, aS] at h; subst h; exact ⟨k1, k2, h1, h2, k5, k6⟩
   | succ j => simp only [bR] at h; exact ⟨k1, k2, k3, k4, k5, ih _ j m h k6⟩
theorem jlL : ∀ {l : List Mail} {last : Int} {m : Mail}, jch last next l -> m ∈ l -> last < m.uid /\ m.uid < next /\ 0 <= m.flags /\ m.flags <= 31 /\ m.text.length <= 2000 := by
 intro l
 induction l with
 | nil => intro _ m _ h; cases h
 | cons c l ih =>
   intro last m ⟨k1, k2, k3, k4, k5, k6⟩ h; cases h with
   | head => exact ⟨k1, k2, k3, k4, k5⟩
   | tail _ h => have := ih k6 h; exact ⟨by omega, this.2⟩
def isName (s : List UInt8) (b : Bx) : Bool := decide (b.name = s)
def jqI (u : Int) (m : Mail) : Bool := decide (m.uid = u)
def jpF (m : Mail) : Bool := decide (m.flags / 8 % 2 = 1)
def addM (s : Stt) (i : Nat) (f : Int) (t : List UInt8) : Except Int Stt :=
 match s.boxes[i]? with
 | none => .error 7
 | some b => if 30 <= b.mails.length ∨ 1048576 < b.next ∨ 6000 < j4 s.boxes + t.length then .error 5 else .ok ⟨s.boxes.set i ⟨b.name, b.next + 1, b.mails ++ [⟨b.next, f, t⟩]⟩, s.spool⟩
def doM (s : Stt) (x : Ent) : Except Int Stt :=
 if x.kind = 1 then
    if (s.boxes.findIdx? (isName x.box)).isSome then .error 10
    else if 5 <= s.boxes.length then .error 5 else .ok ⟨s.boxes ++ [⟨x.box, 1, []⟩], s.spool⟩
 else if x.kind = 6 then
    if 20 <= s.spool.length then .error 5 else .ok ⟨s.boxes, s.spool ++ [x]⟩
 else match s.boxes.findIdx? (isName x.box) with
    | none => .error 7
    | some i =>
      if x.kind = 2 then addM s i x.flags x.text
      else match s.boxes[i]? with
        | none => .error 7
        | some b =>
          if x.kind = 4 then .ok ⟨s.boxes.set i ⟨b.name, b.next, b.mails.filter fun m => !jpF m⟩, s.spool⟩
          else match b.mails.findIdx? (jqI x.uid) with
           | none => .error 7
           | some j =>
             match b.mails[j]? with
             | none => .error 7
             | some m =>
               if x.kind = 5 then
                  match s.boxes.findIdx? (isName x.goal) with
                  | none => .error 7
                  | some k => addM s k m.flags m.text
               else .ok ⟨s.boxes.set i ⟨b.name, b.next, b.mails.set j ⟨m.uid, x.flags, m.text⟩⟩, s.spool⟩
theorem jkw {p : A -> Bool} : ∀ {l : List A} {i : Nat}, l.findIdx? p = some i -> ∃ x, l[i]? = some x /\ p x = true := by
 intro l i h; obtain ⟨hi, hp, _⟩ := List.findIdx?_eq_some_iff_getElem.1 h; exact ⟨l[i], aw hi, hp⟩
theorem jkx {p : A -> Bool} {l : List A} (h : l.findIdx? p = none) : ∀ x ∈ l, p x = false := by
 intro x hx; have := List.findIdx?_eq_none_iff.1 h x hx
 simpa using this
theorem jfA {B : Type} (f : A -> B) : ∀ (l : List A) (i : Nat) (x y : A), l[i]? = some x -> f y = f x -> (l.set i y).map f = l.map f := by
 intro l
 induction l with
 | nil => intro i x y h; simp at h
 | cons c l ih =>
   intro i x y h e; cases i with
   | zero => simp only [bQ, aS] at h; subst h; simp [e]
   | succ i => simp only [bR] at h; simp [ih i x y h e]
theorem jaO {l : List A} {x y : A} (h : y ∈ l.set i x) : y = x ∨ y ∈ l := by
 rcases List.mem_or_eq_of_mem_set h with h | h
 . exact .inr h
 . exact .inl h
theorem May.changed {s : Stt} {b b' : Bx} (h : May s) (hb : s.boxes[i]? = some b) (hn : b'.name = b.name) (hm : BoxMay b') (hz : j4 (s.boxes.set i b') <= 6000) : May ⟨s.boxes.set i b', s.spool⟩ := by
 refine ⟨by simpa using h.boxes, h.spool, ?_, ?_, hz, h.out⟩
 . intro c hc
   rcases jaO hc with rfl | hc
   . exact hm
   . exact h.each c hc
 . show ((s.boxes.set i b').map Bx.name).Nodup
   rw [jfA Bx.name _ _ _ _ hb hn]; exact h.names
theorem jht {s s' : Stt} {t : List UInt8} (h : May s) (hf : 0 <= f /\ f <= 31) (ht : t.length <= 2000) (ha : addM s i f t = .ok s') : May s' := by
 unfold addM at ha; cases hb : s.boxes[i]? with
 | none => rw [hb] at ha; cases ha
 | some b =>
   rw [hb] at ha
   by_cases mo : 30 <= b.mails.length ∨ 1048576 < b.next ∨ 6000 < j4 s.boxes + t.length
   . simp only [if_pos mo] at ha; cases ha
   . simp only [if_neg mo] at ha; cases ha; have hB := h.each b (aF hb); refine h.changed hb rfl ⟨hB.name, ⟨by have := hB.next; show 1 <= b.next + 1; omega, by show b.next + 1 <= 1048577; omega⟩, by simp; omega, ?_⟩ ?_
     . exact jjs (next := b.next) (m := ⟨b.next, f, t⟩) rfl hf.1 hf.2 ht b.mails 0 (by have := hB.next; omega) hB.mails
     . have := jcW s.boxes i b ⟨b.name, b.next + 1, b.mails ++ [⟨b.next, f, t⟩]⟩ hb; simp only [jbz, zd] at this; omega
theorem jfT (p : Mail -> Bool) (l : List Mail) : zd (l.filter p) <= zd l := by
 induction l with
 | nil => simp [zd]
 | cons m l ih =>
   cases hp : p m with
   | true => rw [List.filter_cons_of_pos hp]; simp only [zd]; omega
   | false => rw [List.filter_cons_of_neg (by rw [hp]; simp)]; simp only [zd]; omega
theorem jhd : ∀ (l : List Mail) (j : Nat) (m : Mail) (f : Int), l[j]? = some m -> zd (l.set j ⟨m.uid, f, m.text⟩) = zd l := by
 intro l
 induction l with
 | nil => intro j m f h; simp at h
 | cons c l ih =>
   intro j m f h; cases j with
   | zero => simp only [bQ, aS] at h; subst h; rfl
   | succ j => simp only [bR] at h; simp only [ag, zd, ih j m f h]
theorem jgx {s s' : Stt} {x : Ent} (h : May s) (hx : Formed x) (hd : doM s x = .ok s') : May s' := by
 unfold doM at hd
 by_cases k1 : x.kind = 1
 . rw [if_pos k1] at hd; cases hf : s.boxes.findIdx? (isName x.box) with
   | some i => rw [hf] at hd; cases hd
   | none =>
     rw [hf] at hd; simp only [Option.isSome_none, Bool.false_eq_true, if_false] at hd
     by_cases h5 : 5 <= s.boxes.length
     . rw [if_pos h5] at hd; cases hd
     . rw [if_neg h5] at hd; cases hd; refine ⟨by simp; omega, h.spool, ?_, ?_, ?_, h.out⟩
       . intro c hc
         rcases bo.1 hc with hc | hc
         . exact h.each c hc
         . simp at hc; subst hc; exact ⟨hx.name (by omega), ⟨by show (1:Int) <= 1; omega, by show (1:Int) <= 1048577; omega⟩, by simp, trivial⟩
       . rw [bK, List.nodup_append]; refine ⟨h.names, by simp, ?_⟩; intro a ha b hb
         simp at hb
         subst hb; obtain ⟨c, hc, rfl⟩ := bE.1 ha; have := jkx hf c hc
         simpa [isName] using this
       . show j4 (s.boxes ++ [⟨x.box, 1, []⟩]) <= 6000
         rw [jcV]; simp only [j4, zd]; have := h.size; omega
 . rw [if_neg k1] at hd
   by_cases k6 : x.kind = 6
   . rw [if_pos k6] at hd
     by_cases xB : 20 <= s.spool.length
     . rw [if_pos xB] at hd; cases hd
     . rw [if_neg xB] at hd; cases hd; refine ⟨h.boxes, by simp; omega, h.each, h.names, h.size, ?_⟩; intro y hy
       rcases bo.1 hy with hy | hy
       . exact h.out y hy
       . simp at hy; subst hy; exact ⟨k6, hx⟩
   . rw [if_neg k6] at hd; cases hi : s.boxes.findIdx? (isName x.box) with
     | none => rw [hi] at hd; cases hd
     | some i =>
       rw [hi] at hd; simp only at hd
       by_cases k2 : x.kind = 2
       . rw [if_pos k2] at hd; exact jht h hx.flags hx.text hd
       . rw [if_neg k2] at hd; cases hb : s.boxes[i]? with
         | none => rw [hb] at hd; cases hd
         | some b =>
           rw [hb] at hd; simp only at hd; have hB := h.each b (aF hb)
           by_cases k4 : x.kind = 4
           . rw [if_pos k4] at hd; cases hd; refine h.changed hb rfl ⟨hB.name, hB.next, aN (List.length_filter_le _ _) hB.many, jfK _ _ _ hB.mails⟩ ?_; have h1 := jcW s.boxes i b ⟨b.name, b.next, b.mails.filter fun m => !jpF m⟩ hb; have h2 := jfT (fun m => !jpF m) b.mails; have h3 := h.size; simp only at h1; omega
           . rw [if_neg k4] at hd; cases hj : b.mails.findIdx? (jqI x.uid) with
             | none => rw [hj] at hd; cases hd
             | some j =>
               rw [hj] at hd; simp only at hd; cases hm : b.mails[j]? with
               | none => rw [hm] at hd; cases hd
               | some m =>
                 rw [hm] at hd; simp only at hd; have hM := jlL hB.mails (aF hm)
                 by_cases k5 : x.kind = 5
                 . rw [if_pos k5] at hd; cases hk : s.boxes.findIdx? (isName x.goal) with
                   | none => rw [hk] at hd; cases hd
                   | some k =>
                     rw [hk] at hd; exact jht h ⟨hM.2.2.1, hM.2.2.2.1⟩ hM.2.2.2.2 hd
                 . rw [if_neg k5] at hd; cases hd; refine h.changed hb rfl ⟨hB.name, hB.next, by simpa using hB.many, jg2 hx.flags.1 hx.flags.2 _ _ _ _ hm hB.mails⟩ ?_; have h1 := jcW s.boxes i b ⟨b.name, b.next, b.mails.set j ⟨m.uid, x.flags, m.text⟩⟩ hb; have h2 := jhd b.mails j m x.flags hm; have h3 := h.size; simp only at h1; omega
def allM : Stt -> List Ent -> Except Int Stt
 | s, [] => .ok s
 | s, x :: r => match doM s x with
   | .error e => .error e
   | .ok s' => allM s' r
theorem jmE : ∀ {l : List Ent} {s s' : Stt}, May s -> (∀ x ∈ l, Formed x) -> allM s l = .ok s' -> May s' := by
 intro l
 induction l with
 | nil => intro s s' h _ e; cases e; exact h
 | cons x l ih =>
   intro s s' h hx e; unfold allM at e; cases hd : doM s x with
   | error e' => rw [hd] at e; cases e
   | ok s1 => rw [hd] at e; exact ih (jgx h (hx x (by simp)) hd) (fun y hy => hx y (by simp [hy])) e
end Go.Proofs.YtjdkbdkimbgbfaaGreatDoor
