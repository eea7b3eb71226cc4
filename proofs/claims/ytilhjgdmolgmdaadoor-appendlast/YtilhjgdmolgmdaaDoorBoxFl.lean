/-
  Mails with a Uid: plain facts on the last one of that Uid, and on flags that are given back.
-/
import Derived.Test.YtilhjgdmolgmdaaDoorBoxDo
namespace Go.Proofs.YtilhjgdmolgmdaaDoor
open Go.RowKit Go.Proofs

def lastF (u : Int) (d : Int) (m : Mail) : Int := if m.uid = u then m.flags else d
theorem fold_step {A : Type} {l : List Mail} {k : Nat} {m : Mail} (f : A → Mail → A) (h : l[k]? = some m) (d : A) : (l.take (k + 1)).foldl f d = f ((l.take k).foldl f d) m := by
  have hk : k < l.length := (List.getElem?_eq_some_iff.1 h).1
  rw [List.take_succ_eq_append_getElem hk, (List.getElem?_eq_some_iff.1 h).2, List.foldl_append]
  rfl
theorem fold_none (u : Int) : ∀ (l : List Mail) (d : Int), (∀ m ∈ l, isUid u m = false) → l.foldl (lastF u) d = d := by
  intro l
  induction l with
  | nil => intro d _; rfl
  | cons m l ih =>
    intro d h
    have hm : ¬ m.uid = u := by have := h m (by simp); unfold isUid at this; simpa using this
    show l.foldl (lastF u) (lastF u d m) = d
    rw [show lastF u d m = d by unfold lastF; rw [if_neg hm]]
    exact ih d fun m hm => h m (by simp [hm])
theorem risen_above {next : Int} : ∀ (l : List Mail) (last : Int), risen last next l → ∀ m ∈ l, last < m.uid := fun _ _ h _ hm => (risen_mem h hm).1
theorem fold_some {u next : Int} : ∀ (l : List Mail) (last : Int) (j : Nat) (m : Mail) (d : Int), risen last next l → l.findIdx? (isUid u) = some j → l[j]? = some m → l.foldl (lastF u) d = m.flags := by
  intro l
  induction l with
  | nil => intro last j m d _ h; simp at h
  | cons c l ih =>
    intro last j m d hr hf hm
    have hr' := hr.2.2.2.2.2
    by_cases hc : c.uid = u
    · have hcu : isUid u c = true := by unfold isUid; simp [hc]
      rw [List.findIdx?_cons, if_pos hcu] at hf
      cases hf
      simp at hm
      subst hm
      show l.foldl (lastF u) (lastF u d c) = c.flags
      rw [show lastF u d c = c.flags by unfold lastF; rw [if_pos hc]]
      refine fold_none u l _ fun y hy => ?_
      have := risen_above l c.uid hr' y hy
      unfold isUid
      simp
      omega
    · have hcu : ¬ isUid u c = true := by unfold isUid; simp [hc]
      rw [List.findIdx?_cons, if_neg hcu] at hf
      cases hq : l.findIdx? (isUid u) with
      | none => rw [hq] at hf; cases hf
      | some j' =>
        rw [hq] at hf
        simp only [Option.map_some, Option.some.injEq] at hf
        subst hf
        simp only [List.getElem?_cons_succ] at hm
        show l.foldl (lastF u) (lastF u d c) = m.flags
        exact ih c.uid j' m _ hr' hq hm
theorem find_set {A : Type} {p : A → Bool} {l : List A} {i : Nat} {x : A} (hf : l.findIdx? p = some i) (hx : p x = true) : (l.set i x).findIdx? p = some i := by
  obtain ⟨h1, h2, h3⟩ := List.findIdx?_eq_some_iff_getElem.1 hf
  refine List.findIdx?_eq_some_iff_getElem.2 ⟨by simpa using h1, ?_, ?_⟩
  · simpa using hx
  · intro j hj
    rw [List.getElem_set_ne (by omega)]
    exact h3 j hj
theorem set_same {A : Type} {l : List A} {i : Nat} {x : A} (h : l[i]? = some x) : l.set i x = l := by
  obtain ⟨hi, rfl⟩ := List.getElem?_eq_some_iff.1 h
  exact List.set_getElem_self hi
theorem flag_back {s : Stt} {E : Ent} {i j : Nat} {b : Bx} {m : Mail} (hk : E.kind = 3) (hf : s.boxes.findIdx? (isName E.box) = some i) (hb : s.boxes[i]? = some b) (hj : b.mails.findIdx? (isUid E.uid) = some j) (hm : b.mails[j]? = some m) :
    doM ⟨s.boxes.set i ⟨b.name, b.next, b.mails.set j ⟨m.uid, E.flags, m.text⟩⟩, s.spool⟩ ⟨E.kind, E.box, E.uid, m.flags, E.goal, E.text⟩ = .ok s := by
  have hi : i < s.boxes.length := (List.getElem?_eq_some_iff.1 hb).1
  have hj0 : j < b.mails.length := (List.getElem?_eq_some_iff.1 hm).1
  obtain ⟨b', hb', hn⟩ := find_at hf
  rw [hb] at hb'
  cases hb'
  obtain ⟨m', hm', hu⟩ := find_at hj
  rw [hm] at hm'
  cases hm'
  rw [doM_k3 (x := ⟨E.kind, E.box, E.uid, m.flags, E.goal, E.text⟩) (i := i) (j := j) (b := ⟨b.name, b.next, b.mails.set j ⟨m.uid, E.flags, m.text⟩⟩) (m := ⟨m.uid, E.flags, m.text⟩) hk (find_set (x := ⟨b.name, b.next, b.mails.set j ⟨m.uid, E.flags, m.text⟩⟩) hf hn) (List.getElem?_set_self hi) (find_set (x := ⟨m.uid, E.flags, m.text⟩) hj hu) (List.getElem?_set_self hj0)]
  simp only [List.set_set]
  have e1 : b.mails.set j ⟨m.uid, m.flags, m.text⟩ = b.mails := set_same hm
  rw [e1]
  have e2 : s.boxes.set i ⟨b.name, b.next, b.mails⟩ = s.boxes := set_same hb
  rw [e2]
theorem flag_size {s : Stt} {i j : Nat} {b : Bx} {m : Mail} {f : Int} (hb : s.boxes[i]? = some b) (hm : b.mails[j]? = some m) : sizeB (s.boxes.set i ⟨b.name, b.next, b.mails.set j ⟨m.uid, f, m.text⟩⟩) = sizeB s.boxes := by
  have h1 := sizeB_set s.boxes i b ⟨b.name, b.next, b.mails.set j ⟨m.uid, f, m.text⟩⟩ hb
  have h2 := sizeM_flags b.mails j m f hm
  simp only at h1
  omega
end Go.Proofs.YtilhjgdmolgmdaaDoor
