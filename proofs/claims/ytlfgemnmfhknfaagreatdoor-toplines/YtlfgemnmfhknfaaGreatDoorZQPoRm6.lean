/-
  A postroom in memory: its box, the rows that it writes, what it reads alone.
  A room that open hands back, in memory.
  The lines of the law of lines, and what sessions make of them: plain facts.
  What the methods of a connection do, the room being in memory: the walks.
  What more methods of a connection do: holding, the next line, answers, what is released.
  What a room does with a line of a connection that hands no letter over: the walks.
-/
import Derived.Test.YtlfgemnmfhknfaaGreatDoorZQLmGo8
import Derived.Test.YtlfgemnmfhknfaaGreatDoorZQPoAk3
import Derived.Test.YtlfgemnmfhknfaaGreatDoorZQLmMem8
import Derived.Test.YtlfgemnmfhknfaaGreatDoorZQPoAc4
import Derived.Deep.AppendLies
import Derived.Test.YtlfgemnmfhknfaaGreatDoorZQScrCard11
namespace Go.Proofs.YtlfgemnmfhknfaaGreatDoor
open Go.RowKit Go.Proofs
structure Cv where
  t : Value
  d : Value
  l : Value
structure Vals where
  td : Value
  sf : Value
  st : Value
  lo : Value
  sc : Value
  od : Value
  du : Value
  c0 : Cv
  c1 : Cv
  c2 : Cv
  os : List Value
  sv : List (Value × Value)
def Vals.con (X : Vals) : Nat → Cv
  | 0 => X.c0
  | 1 => X.c1
  | _ => X.c2
def Vals.put (X : Vals) (i : Nat) (c : Cv) : Vals :=
  match i with
  | 0 => { X with c0 := c }
  | 1 => { X with c1 := c }
  | _ => { X with c2 := c }
def conC (c : Con) (x : Cv) : List Value := [.int .i64 c.ses.step, .string (S c.ses.frm.1), .string (S c.ses.frm.2), x.t, .string (S c.ses.text), .bool c.ses.large, .string (S c.held), x.d, x.l]
def vg (R : Rom) (X : Vals) : List Value := [.bool R.up, X.td, .int .i64 R.tsyn, .int .i64 R.syn, .int .i64 R.waits, X.sf, X.st] ++ conC R.c0 X.c0 ++ conC R.c1 X.c1 ++ conC R.c2 X.c2 ++ [X.lo, X.sc, X.od, X.du]
def intR (t : TypeId) (v : Value) (l : List Int) : MRow := ⟨t, 1, v, l.length, l.map fun k => .int .i64 k⟩
def sttR (v : Value) (l : List (Value × Value)) : MRow := ⟨55, 2, v, l.length, (l.map fun x => [x.1, x.2]).flatten⟩
def ordR (v : Value) (l : List Value) : MRow := ⟨143, 1, v, l.length, l⟩
def zk (R : Rom) (X : Vals) : List MRow := [intR 3 X.c0.l R.c0.told, intR 3 X.c1.l R.c1.told, intR 3 X.c2.l R.c2.told, intR 3 X.du R.due, sttR X.st X.sv, ordR X.od X.os] ++ (List.range 3).map fun u => intR 46 (X.os.getD u (.slice none 0 0)) (R.orders.getD u [])
def IntsM (Q : Nat → Prop) (w : World) (v : Value) (l : List Int) : Prop := RowM Q 1 (fun x cs => cs = [.int .i64 x]) w v l
structure ConM (Q : Nat → Prop) (w : World) (c : Con) (x : Cv) : Prop where
  gl : AdrsM Q w x.t c.ses.to
  ry : jan x.t
  du : IntsM Q w x.d c.due
def SttV (Q : Nat → Prop) (w : World) (s : Stt) (cs : List Value) : Prop := ∃ vb vs, cs = [vb, vs] ∧ SttM Q w vb vs s
def ScrV (Q : Nat → Prop) (w : World) (C : List Cmd) (cs : List Value) : Prop := ∃ a c, cs = [.slice a C.length c] ∧ jbt a C.length c ∧ CmdsM Q 5 w (.slice a C.length c) C
structure RoM (Q : Nat → Prop) (w : World) (K : List (List UInt8)) (Cs : List (List Cmd)) (R : Rom) (X : Vals) : Prop where
  k0 : ConM Q w R.c0 X.c0
  k1 : ConM Q w R.c1 X.c1
  k2 : ConM Q w R.c2 X.c2
  lo : TxtsM Q w X.lo K
  sc : RowM Q 1 (ScrV Q w) w X.sc Cs
  sf : RowM Q 2 (SttV Q w) w X.sf R.safe
  sv : X.sv.length = R.states.length ∧ ∀ (i : Nat) s x, R.states[i]? = some s → X.sv[i]? = some x → SttM Q w x.1 x.2 s
  os : X.os.length = 3 ∧ R.orders.length = 3
  td : BysM Q w X.td R.tape
def RoomM (K : List (List UInt8)) (Cs : List (List Cmd)) (B b : Nat) (G : List Nat) (R : Rom) (w : World) : Prop :=
  ∃ X, G = mB (zk R X) ∧ B ≤ b ∧ RmB w b (vg R X) ∧ MOk w B b (zk R X) ∧ RoM (AvN B b G) w K Cs R X
theorem BysM.stp {N b : Nat} {G G' : List Nat} {w w' : World} {v : Value} {l : List UInt8} (h : BysM (AvN N b G) w v l) (hs : Stp b G w G' w') : BysM (AvN N b G') w' v l := by
  obtain ⟨a, c, h1, h2, h3, h4⟩ := h; refine ⟨a, c, h1, h2, h3, fun j x hx => ?_⟩; obtain ⟨g, o, e, q, hc⟩ := h4 j x hx; have hg := World.block_lt_of_cell? w _ hc; exact ⟨g, o, e, ⟨q.1, hs.av hg q.2⟩, (World.cell?_of_block (hs.block g hg q.2)).trans hc⟩
theorem IntsM.stp {N b : Nat} {G G' : List Nat} {w w' : World} {v : Value} {l : List Int} (h : IntsM (AvN N b G) w v l) (hs : Stp b G w G' w') : IntsM (AvN N b G') w' v l := RowM.stpN h hs fun _ _ h => h
theorem AdrsM.stp {N b : Nat} {G G' : List Nat} {w w' : World} {v : Value} {l : List Adr} (h : AdrsM (AvN N b G) w v l) (hs : Stp b G w G' w') : AdrsM (AvN N b G') w' v l := RowM.stpN h hs fun _ _ h => h
theorem ConM.stp {N b : Nat} {G G' : List Nat} {w w' : World} {c : Con} {x : Cv} (h : ConM (AvN N b G) w c x) (hs : Stp b G w G' w') : ConM (AvN N b G') w' c x := ⟨h.gl.stp hs, h.ry, h.du.stp hs⟩
theorem SttM.stp {N b : Nat} {G G' : List Nat} {w w' : World} {vb vs : Value} {s : Stt} (h : SttM (AvN N b G) w vb vs s) (hs : Stp b G w G' w') : SttM (AvN N b G') w' vb vs s := by
  obtain ⟨h1, h2, h3⟩ := h; exact ⟨RowM.stpN h1 hs fun x cs h => by
    obtain ⟨v, k1, k2⟩ := h; exact ⟨v, k1, RowM.stpN k2 hs fun _ _ h => h⟩, RowM.stpN h2 hs fun _ _ h => h, h3⟩
theorem RoM.stp {N b : Nat} {G G' : List Nat} {w w' : World} {K : List (List UInt8)} {Cs : List (List Cmd)} {R : Rom} {X : Vals} (h : RoM (AvN N b G) w K Cs R X) (hs : Stp b G w G' w') : RoM (AvN N b G') w' K Cs R X where
  k0 := h.k0.stp hs
  k1 := h.k1.stp hs
  k2 := h.k2.stp hs
  lo := h.lo.stp hs
  sc := RowM.stpN h.sc hs fun _ _ h => by
    obtain ⟨a, c, h1, h2, h3⟩ := h; exact ⟨a, c, h1, h2, h3.stpN hs⟩
  sf := RowM.stpN h.sf hs fun _ _ h => by
    obtain ⟨a, c, h1, h2⟩ := h; exact ⟨a, c, h1, h2.stp hs⟩
  sv := ⟨h.sv.1, fun i s x hi hx => (h.sv.2 i s x hi hx).stp hs⟩
  os := h.os
  td := h.td.stp hs
theorem RoomM.next {K : List (List UInt8)} {Cs : List (List Cmd)} {B b : Nat} {G : List Nat} {R : Rom} {w w' : World} (h : RoomM K Cs B b G R w) (hb : Below w.heap.size w w') : RoomM K Cs B b G R w' := by
  obtain ⟨X, h1, h2, h3, h4, h5⟩ := h; exact ⟨X, h1, h2, h3.next hb, h4.next hb, h5.stp (.of hb)⟩
theorem RoomM.lt {K : List (List UInt8)} {Cs : List (List Cmd)} {B b : Nat} {G : List Nat} {R : Rom} {w : World} (h : RoomM K Cs B b G R w) : b < w.heap.size ∧ B ≤ b ∧ ∀ k ∈ G, B ≤ k ∧ k < w.heap.size := by
  obtain ⟨X, h1, h2, h3, h4, h5⟩ := h; exact ⟨h4.lt, h2, fun k hk => h4.rng k (by rw [← h1]; exact hk)⟩
theorem RoomM.low {K : List (List UInt8)} {Cs : List (List Cmd)} {B b : Nat} {G G' : List Nat} {R : Rom} {w w' : World} (h : RoomM K Cs B b G R w) (hs : Stp b G w G' w') : Below B w w' :=
  hs.below h.lt.2.1 (by have := h.lt; omega) fun k hk => (h.lt.2.2 k hk).1
end Go.Proofs.YtlfgemnmfhknfaaGreatDoor
namespace Go.Proofs.YtlfgemnmfhknfaaGreatDoor
open Go.RowKit Go.Proofs
def inbS : Stt := ⟨[⟨[73, 78, 66, 79, 88], 1, []⟩], []⟩
def con0 : Con := ⟨atS 0, [], [], []⟩
def rom0 : Rom := ⟨true, [], 0, 0, 0, [inbS, inbS, inbS], [inbS, inbS, inbS], con0, con0, con0, [[], [], []], []⟩
theorem jf3 {w : World} {g g' : Nat} {c c' : Array Value} {t t' : TypeId} {f f' : Nat × Nat} (h : w.heap[g]? = some (.cells c t f)) (h' : w.heap[g']? = some (.cells c' t' f')) (hne : t ≠ t') : g ≠ g' := fun e => by
  subst e; rw [h] at h'; cases h'; exact hne rfl
theorem qt {w : World} {B n k g : Nat} {e : TypeId} {v : Value} {xs : List Value} (h : w.ownsRow B e k v n xs) (hg : v.ownBlock = some g) : ∃ cur, w.heap[g]? = some (.cells cur e (0, 0)) := by
  rcases h.2 with ⟨rfl, _⟩ | ⟨g', cap, cur, rfl, _, h', _⟩
  · cases hg
  · cases hg; exact ⟨cur, h'⟩
theorem jky {A : Type} {Q : Nat → Prop} {P : A → List Value → Prop} {w : World} {v : Value} {vs : List Value} {ls : List A} (h : RowM Q 1 (fun x cs => cs = [x]) w v vs) (hl : vs.length = ls.length) (hx : ∀ (i : Nat) x l, vs[i]? = some x → ls[i]? = some l → P l [x]) : RowM Q 1 P w v ls := by
  obtain ⟨a, c, hv, hm, hr⟩ := h; refine ⟨a, c, by rw [← hl]; exact hv, by rw [← hl]; exact hm, fun i l hi => ?_⟩; have hi' : i < vs.length := by rw [hl]; exact (List.getElem?_eq_some_iff.1 hi).1
  obtain ⟨b, o, cs, h1, h2, h3, h4, h5, h6⟩ := hr i vs[i] (List.getElem?_eq_getElem hi'); exact ⟨b, o, cs, h1, h2, h3, h4, h5, by rw [h6]; exact hx i _ l (List.getElem?_eq_getElem hi') hi⟩
theorem jiM {w : World} {Q : Nat → Prop} {b : Nat} (h : w.heap[b]? = some (.cells #[.string ⟨#[73, 78, 66, 79, 88]⟩, .int .i64 1, .slice none 0 0] 73)) (hQ : Q b) : SttM Q w (.slice (some ⟨b, 0, none⟩) 1 1) (.slice none 0 0) inbS := by
  refine ⟨⟨some ⟨b, 0, none⟩, 1, rfl, by unfold maxLen; decide, fun i x hx => ?_⟩, jh _ _ _ _ _ _, fun a n c e => by cases e; exact Nat.le_refl _⟩
  match i, hx with
  | 0, hx =>
    cases hx; refine ⟨b, 0, boxC ⟨[73, 78, 66, 79, 88], 1, []⟩ (.slice none 0 0), rfl, (Array.getElem?_eq_some_iff.1 h).1, hQ, rfl, fun j u hj => ?_, _, rfl, jh _ _ _ _ _ _⟩; have hl : j < 3 := (List.getElem?_eq_some_iff.1 hj).1; simp only [World.cell?, h]
    match j, hl, hj with
    | 0, _, hj => cases hj; rfl
    | 1, _, hj => cases hj; rfl
    | 2, _, hj => cases hj; rfl
  | n + 1, hx => simp [inbS] at hx
theorem jd0 (bs : List Nat) : inbC bs = (bs.map fun b => [Value.slice (some ⟨b, 0, none⟩) 1 1, .slice none 0 0]).flatten := by
  simp [inbC, List.flatMap_def]
theorem RoomM.of_open {W W1 w' : World} {b : Nat} {v5 v6 v36 : Value} {L : List (List UInt8)} {Cs : List (List Cmd)} (h1 : RmB W1 b (jdN v5 v6 (.slice none 0 0) (.slice none 0 0) v36)) (hb : W.heap.size ≤ b) (hL : LdN W1 W.heap.size v5 v6) (hO : OwO W1 W.heap.size v36) (hI : RoI W1 W.heap.size b v5 v6 v36 L Cs w') (hW : W.heap.size ≤ W1.heap.size) (hLl : L.length ≤ 10) (hCl : Cs.length ≤ 10) :
    ∃ G, RoomM L Cs W.heap.size b G rom0 w' := by
  obtain ⟨bs, hbl, hin, h5, h6, hap⟩ := hL; obtain ⟨v34, v35, X, hX, hM, hS, hT⟩ := hI; have keep : ∀ k o, W1.heap[k]? = some o → k ≠ b → w'.heap[k]? = some o := fun k o hk hn => (hT.block k (Array.getElem?_eq_some_iff.1 hk).1 ⟨hn, by simp⟩).trans hk
  have far5 : ∀ g, v5.ownBlock = some g → g ≠ b := fun g hg => by obtain ⟨c, h⟩ := qt h5 hg; exact jf3 h h1.1 (by decide)
  have far6 : ∀ g, v6.ownBlock = some g → g ≠ b := fun g hg => by obtain ⟨c, h⟩ := qt h6 hg; exact jf3 h h1.1 (by decide)
  have farO : ∀ g, v36.ownBlock = some g → g ≠ b := fun g hg => by obtain ⟨c, h⟩ := qt hO hg; exact jf3 h h1.1 (by decide)
  have k5 : w'.ownsRow W.heap.size 55 2 v5 3 (inbC bs) := jR h5 fun g hg => by obtain ⟨c, h⟩ := qt h5 hg; rw [keep g _ h (far5 g hg), h]
  have k6 : w'.ownsRow W.heap.size 55 2 v6 3 (inbC bs) := jR h6 fun g hg => by obtain ⟨c, h⟩ := qt h6 hg; rw [keep g _ h (far6 g hg), h]
  have kO : w'.ownsRow W.heap.size 143 1 v36 3 [.slice none 0 0, .slice none 0 0, .slice none 0 0] := jR hO fun g hg => by obtain ⟨c, h⟩ := qt hO hg; rw [keep g _ h (farO g hg), h]
  have hbx : ∀ q ∈ bs, q ≠ b ∧ w'.heap[q]? = some (.cells #[.string ⟨#[73, 78, 66, 79, 88]⟩, .int .i64 1, .slice none 0 0] 73) := fun q hq => by
    have hn : q ≠ b := jf3 (hin q hq).2 h1.1 (by decide); exact ⟨hn, keep q _ (hin q hq).2 hn⟩
  obtain ⟨V, hV⟩ : ∃ V : Vals, V = ⟨.slice none 0 0, v5, v6, v34, v35, v36, .slice none 0 0, ⟨.slice none 0 0, .slice none 0 0, .slice none 0 0⟩, ⟨.slice none 0 0, .slice none 0 0, .slice none 0 0⟩, ⟨.slice none 0 0, .slice none 0 0, .slice none 0 0⟩, [.slice none 0 0, .slice none 0 0, .slice none 0 0], bs.map fun b => (.slice (some ⟨b, 0, none⟩) 1 1, .slice none 0 0)⟩ := ⟨_, rfl⟩; have hG : mB (zk rom0 V) = v6.ownBlock.toList ++ v36.ownBlock.toList := by
    subst hV; simp only [zk, jbC, ja2, rom0, con0, intR, sttR, ordR]
    simp [mB, Value.ownBlock, List.range, List.range.loop]
  have inG : ∀ g, g ∈ mB (zk rom0 V) → v6.ownBlock = some g ∨ v36.ownBlock = some g := fun g hg => by rw [hG] at hg; simpa using hg
  have ty6 : ∀ g, g ∈ mB (zk rom0 V) → ∃ c t, w'.heap[g]? = some (.cells c t (0, 0)) ∧ (t = 55 ∨ t = 143) ∧ g < W1.heap.size := fun g hg => by
    rcases inG g hg with h | h
    · obtain ⟨c, hc⟩ := qt k6 h; exact ⟨c, _, hc, .inl rfl, (World.ownsRow.lt h6 g h).2⟩
    · obtain ⟨c, hc⟩ := qt kO h; exact ⟨c, _, hc, .inr rfl, (World.ownsRow.lt hO g h).2⟩
  have avT : ∀ {g : Nat} {c : Array Value} {t : TypeId} {f : Nat × Nat}, w'.heap[g]? = some (.cells c t f) → g ≠ b → t ≠ 55 → t ≠ 143 → Av b (mB (zk rom0 V)) g := fun {g c t f} hg hn h1 h2 => ⟨hn, fun e => by
    obtain ⟨c', t', h', ht, _⟩ := ty6 g e; rw [hg] at h'; cases h'
    rcases ht with h | h
    · exact h1 h
    · exact h2 h⟩
  have avN : ∀ k, AvN W1.heap.size b (mB [locR v34 L, scrR v35 X]) k → AvN W.heap.size b (mB (zk rom0 V)) k := fun k hk => ⟨Nat.le_trans hW hk.1, hk.2.1, fun e => by
    obtain ⟨_, _, _, _, h⟩ := ty6 k e; have := hk.1; omega⟩
  refine ⟨mB (zk rom0 V), V, rfl, hb, ?_, ⟨?_, ?_, ?_, hM.lt⟩, ?_⟩
  · subst hV; exact hX
  · subst hV; intro r hr; simp only [zk, rom0, con0, List.range, List.range.loop, List.map_cons, List.map_nil, List.cons_append, List.nil_append, List.mem_cons, List.not_mem_nil, or_false] at hr
    rcases hr with rfl | rfl | rfl | rfl | rfl | rfl | rfl | rfl | rfl
    · exact World.ownsRow_nil _ _ _ _
    · exact World.ownsRow_nil _ _ _ _
    · exact World.ownsRow_nil _ _ _ _
    · exact World.ownsRow_nil _ _ _ _
    · have := k6; rw [jd0] at this
      simpa [sttR, hbl, Function.comp_def] using this
    · exact kO
    · exact World.ownsRow_nil _ _ _ _
    · exact World.ownsRow_nil _ _ _ _
    · exact World.ownsRow_nil _ _ _ _
  · rw [hG]; refine List.nodup_append.2 ⟨by cases v6.ownBlock <;> simp, by cases v36.ownBlock <;> simp, fun g h g' h' e => ?_⟩; subst e; obtain ⟨c, hc⟩ := qt k6 (by simpa using h); obtain ⟨c', hc'⟩ := qt kO (by simpa using h'); exact jf3 hc hc' (by decide) rfl
  · intro e
    rcases inG b e with h | h
    · exact far6 b h rfl
    · exact farO b h rfl
  · have hc0 : ConM (AvN W.heap.size b (mB (zk rom0 V))) w' con0 ⟨.slice none 0 0, .slice none 0 0, .slice none 0 0⟩ := ⟨jh _ _ _ _ _ _, fun a n c e => by cases e; exact Nat.le_refl _, jh _ _ _ _ _ _⟩; have hlo : TxtsM (AvN W.heap.size b (mB (zk rom0 V))) w' v34 L := jaN (f := fun l => .string (S l)) (hM.own (locR v34 L) (by simp)) (by unfold maxLen; omega) fun g hg => by
      obtain ⟨c, h⟩ := qt (hM.own (locR v34 L) (by simp)) hg; exact ⟨(World.ownsRow.lt (hM.own (locR v34 L) (by simp)) g hg).1, avT h (fun e => hM.far (List.mem_filterMap.2 ⟨locR v34 L, by simp, by rw [← e]; exact hg⟩)) (show (9 : TypeId) ≠ 55 by decide) (show (9 : TypeId) ≠ 143 by decide)⟩
    have hsx : RowM (AvN W.heap.size b (mB (zk rom0 V))) 1 (fun x cs => cs = [x]) w' v35 X := jaN (f := fun x => x) (by simpa [scrR] using hM.own (scrR v35 X) (by simp)) (by rw [hS.1]; unfold maxLen; omega) fun g hg => by
      obtain ⟨c, h⟩ := qt (hM.own (scrR v35 X) (by simp)) hg; exact ⟨(World.ownsRow.lt (hM.own (scrR v35 X) (by simp)) g hg).1, avT h (fun e => hM.far (List.mem_filterMap.2 ⟨scrR v35 X, by simp, by rw [← e]; exact hg⟩)) (show (107 : TypeId) ≠ 55 by decide) (show (107 : TypeId) ≠ 143 by decide)⟩
    have hsc : RowM (AvN W.heap.size b (mB (zk rom0 V))) 1 (ScrV (AvN W.heap.size b (mB (zk rom0 V))) w') w' v35 Cs := jky hsx hS.1 fun i x C h1 h2 => by
      obtain ⟨C', a, c, e1, e2, e3, e4⟩ := hS.2 i x h1; rw [h2] at e1; cases e1; subst e2; exact ⟨a, c, rfl, e3, RowM.imp e4 avN (Keeps.refl _ _) fun _ _ hx => CmdM.imp avN (Keeps.refl _ _) _ _ _ hx⟩
    have hb1 : ∀ (i : Nat) q, bs[i]? = some q → SttM (AvN W.heap.size b (mB (zk rom0 V))) w' (.slice (some ⟨q, 0, none⟩) 1 1) (.slice none 0 0) inbS := fun i q hq => by
      have h := hbx q (List.mem_of_getElem? hq); exact jiM h.2 ⟨(hin q (List.mem_of_getElem? hq)).1, avT h.2 h.1 (by decide) (by decide)⟩
    have h3 : ∀ (i : Nat) s, [inbS, inbS, inbS][i]? = some s → s = inbS := fun i s h => by
      have := List.mem_of_getElem? h
      simpa using this
    have hsf : RowM (AvN W.heap.size b (mB (zk rom0 V))) 2 (SttV (AvN W.heap.size b (mB (zk rom0 V))) w') w' v5 [inbS, inbS, inbS] := je7 (css := bs.map fun b => [Value.slice (some ⟨b, 0, none⟩) 1 1, .slice none 0 0]) (by rw [← jd0]; exact k5) rfl (by unfold maxLen; decide) (by simp [hbl]) (fun cs hcs => by
        obtain ⟨q, _, rfl⟩ := List.mem_map.1 hcs; rfl) (fun i s cs hs hcs => by
        rw [List.getElem?_map] at hcs; cases hq : bs[i]? with
        | none => rw [hq] at hcs; cases hcs
        | some q =>
          rw [hq] at hcs; cases hcs; rw [h3 i s hs]; exact ⟨_, _, rfl, hb1 i q hq⟩) fun g hg => ⟨(World.ownsRow.lt k5 g hg).1, far5 g hg, fun e => by
        rcases inG g e with h | h
        · exact hap g hg h
        · obtain ⟨c, hc⟩ := qt k5 hg; obtain ⟨c', hc'⟩ := qt kO h; exact jf3 hc hc' (by decide) rfl⟩
    subst hV; exact ⟨hc0, hc0, hc0, hlo, hsc, hsf, ⟨by simp [hbl, rom0], fun i s x hs hx => by
      rw [List.getElem?_map] at hx; cases hq : bs[i]? with
      | none => rw [hq] at hx; cases hx
      | some q =>
        rw [hq] at hx; cases hx; rw [h3 i s hs]; exact hb1 i q hq⟩, ⟨rfl, rfl⟩, BysM.nil _ _ _ _⟩
end Go.Proofs.YtlfgemnmfhknfaaGreatDoor
namespace Go.Proofs.YtlfgemnmfhknfaaGreatDoor
open Go.RowKit Go.Proofs
def tlK (k : Nat) : Int := match k with | 0 => 0 | 1 => 2 | 2 => 5 | 3 => 9 | _ => 14
def tlG (g : Gea) : Gea := ⟨tlK (zn g.kind 5), 0, g.user, g.a, 0, g.text⟩
def jha : List UInt8 := [82, 83, 69, 84]
def jkl : List UInt8 := [78, 79, 79, 80]
def tlS (g : Gea) : List UInt8 := if (zV (tlG g)).length = 4 ∧ zV (tlG g) ≠ jha then jkl else zV (tlG g)
theorem jiU (g : Gea) : zV (tlG g) = jlH ∨ (∃ k, k < 2 ∧ zV (tlG g) = jhN k) ∨ (∃ k, k < 4 ∧ zV (tlG g) = ji4 k) ∨ zV (tlG g) = jha ∨ zV (tlG g) = valL g.text.data.toList := by
  have h5 := qz g.kind 5 (by decide); have h2 := qz g.a 2 (by decide); have h4 := qz g.user 4 (by decide); have e : zV (tlG g) = jff (tlG g) (zn (tlK (zn g.kind 5)) 16) := rfl; rw [e]; generalize zn g.kind 5 = k at h5
  match k, h5 with
  | 0, _ => exact .inl rfl
  | 1, _ => exact .inr (.inl ⟨_, h2, rfl⟩)
  | 2, _ => exact .inr (.inr (.inl ⟨_, h4, rfl⟩))
  | 3, _ => exact .inr (.inr (.inr (.inl rfl)))
  | 4, _ => exact .inr (.inr (.inr (.inr rfl)))
theorem jbX (g : Gea) : tlS g = jkl ∨ (tlS g = zV (tlG g) ∧ (tlS g = jha ∨ (tlS g).length ≠ 4)) := by
  unfold tlS; split
  · exact .inl rfl
  · rename_i h; refine .inr ⟨rfl, ?_⟩
    by_cases hr : zV (tlG g) = jha
    · exact .inl hr
    · exact .inr fun e => h ⟨e, hr⟩
theorem jkT (g : Gea) : ze (tlS g) = false := by
  rcases jbX g with h | ⟨h, _⟩
  · rw [h]; decide
  · rw [h]
    rcases jiU g with h | ⟨k, hk, h⟩ | ⟨k, hk, h⟩ | h | h
    · rw [h]; decide
    · rw [h]; match k, hk with | 0, _ | 1, _ => decide
    · rw [h]; match k, hk with | 0, _ | 1, _ | 2, _ | 3, _ => decide
    · rw [h]; decide
    · rw [h]; exact jj2 _
theorem jcZ (g : Gea) : (tlS g).length ≤ 60 := by
  rcases jbX g with h | ⟨h, _⟩
  · rw [h]; decide
  · rw [h]; exact jgH _
theorem jlh (g : Gea) : lowL (tlS g) ≠ jce ∧ lowL (tlS g) ≠ jcm := by
  rcases jbX g with h | ⟨_, h | h⟩
  · rw [h]; decide
  · rw [h]; decide
  · constructor <;> intro e <;> apply h <;> have := congrArg List.length e <;> simpa [lowL, jce, jcm] using this
def TlI (s : Ses) : Prop := mayS s = true ∧ 0 ≤ s.step ∧ s.step ≤ 3
theorem jid {s : Ses} (h : TlI s) (K : List (List UInt8)) (x : List UInt8) (hx : lowL x ≠ jce ∧ lowL x ≠ jcm) : ∃ r co, qs s K x = (r, co, []) ∧ TlI r ∧ co ≠ 0 := by
  obtain ⟨hm, h0, h3⟩ := h; have h5 : s.step ≠ 5 := by omega
  have h4 : s.step ≠ 4 := by omega
  have hl : qs s K x = ((cmdM s K x).1, (cmdM s K x).2, []) := by
    unfold qs; rw [if_neg h5, if_neg h4]
  refine ⟨_, _, hl, ⟨jlu hm h4 K x, ?_⟩, ?_⟩
  · unfold cmdM; split
    · exact ⟨h0, h3⟩
    · unfold cmd1; split
      · unfold vr; split <;> simp [atS, h0, h3]
      · unfold cmd2; split
        · unfold jbc; split
          · unfold jec; split <;> simp [h0, h3]
          · exact ⟨h0, h3⟩
        · unfold cmd3; split
          · unfold jaa; split
            · unfold jct; split
              · exact ⟨h0, h3⟩
              · split
                · exact ⟨h0, h3⟩
                · split
                  · exact ⟨h0, h3⟩
                  · split <;> simp [h0, h3]
            · exact ⟨h0, h3⟩
          · unfold jbh; rw [if_neg hx.1]; split
            · unfold jcj; split <;> simp [atS, h0, h3]
            · split
              · exact ⟨h0, h3⟩
              · rw [if_neg hx.2]; exact ⟨h0, h3⟩
  · unfold cmdM; split
    · simp
    · unfold cmd1; split
      · unfold vr; split <;> simp
      · unfold cmd2; split
        · unfold jbc; split
          · unfold jec; split <;> simp
          · simp
        · unfold cmd3; split
          · unfold jaa; split
            · unfold jct; split
              · simp
              · split
                · simp
                · split
                  · simp
                  · split <;> simp
            · simp
          · unfold jbh; rw [if_neg hx.1]; split
            · simp
            · split
              · simp
              · rw [if_neg hx.2]; simp
def tlC (s : Ses) (l : List Int) : Con := ⟨s, [], [], l⟩
end Go.Proofs.YtlfgemnmfhknfaaGreatDoor
namespace Go.Proofs.YtlfgemnmfhknfaaGreatDoor
open Go.RowKit Go.Proofs
theorem RmB.put {w : World} {b : Nat} {cs : List Value} (h : RmB w b cs) (j : Nat) (v : Value) : RmB (w.setCell ⟨b, j, none⟩ v) b (cs.set j v) := by
  refine ⟨?_, by simpa using h.2⟩; have := heap_setCell_same w b j _ _ v h.1; rw [this]
  simp
theorem RmB.frz {w : World} {b : Nat} {cs : List Value} (h : RmB w b cs) (j : Nat) : w.frozen? ⟨b, j, none⟩ = false := by simp [World.frozen?, h.1]
theorem RmB.ty {w : World} {b : Nat} {cs cs' : List Value} (h : RmB w b cs) (e : cs = cs') : RmB w b cs' := e ▸ h
theorem jc2 (R : Rom) (X : Vals) {i : Nat} (hi : i < 3) {k : Nat} (hk : k < 9) : (vg R X)[7 + i * 9 + k]? = (conC (R.con i) (X.con i))[k]? := by
  match i, hi with
  | 0, _ | 1, _ | 2, _ =>
    match k, hk with
    | 0, _ | 1, _ | 2, _ | 3, _ | 4, _ | 5, _ | 6, _ | 7, _ | 8, _ => rfl
theorem jh6 (R : Rom) (X : Vals) {i : Nat} (hi : i < 3) (v : Value) (l : List Int) : (vg R X).set (7 + i * 9 + 8) v = vg (R.put i ⟨(R.con i).ses, (R.con i).held, (R.con i).due, l⟩) (X.put i ⟨(X.con i).t, (X.con i).d, v⟩) := by
  match i, hi with
  | 0, _ | 1, _ | 2, _ => rfl
theorem jkz (R : Rom) (X : Vals) {i : Nat} (hi : i < 3) (v : Value) (l : List Int) : (vg R X).set (7 + i * 9 + 7) v = vg (R.put i (dueC (R.con i) l)) (X.put i ⟨(X.con i).t, v, (X.con i).l⟩) := by
  match i, hi with
  | 0, _ | 1, _ | 2, _ => rfl
theorem jiO (R : Rom) (X : Vals) {i : Nat} (hi : i < 3) (h : List UInt8) : (vg R X).set (7 + i * 9 + 6) (.string (S h)) = vg (R.put i (jdK (R.con i) h)) (X.put i (X.con i)) := by
  match i, hi with
  | 0, _ | 1, _ | 2, _ => rfl
theorem vL (R : Rom) (X : Vals) {i : Nat} (hi : i < 3) : ∃ A Z, zk R X = A ++ intR 3 (X.con i).l (R.con i).told :: Z ∧ ∀ c x, zk (R.put i c) (X.put i x) = A ++ intR 3 x.l c.told :: Z := by
  match i, hi with
  | 0, _ => exact ⟨[], _, rfl, fun _ _ => rfl⟩
  | 1, _ => exact ⟨[_], _, rfl, fun _ _ => rfl⟩
  | 2, _ => exact ⟨[_, _], _, rfl, fun _ _ => rfl⟩
theorem RoM.con {Q : Nat → Prop} {w : World} {K : List (List UInt8)} {Cs : List (List Cmd)} {R : Rom} {X : Vals} (h : RoM Q w K Cs R X) {i : Nat} (hi : i < 3) : ConM Q w (R.con i) (X.con i) := by
  match i, hi with
  | 0, _ => exact h.k0
  | 1, _ => exact h.k1
  | 2, _ => exact h.k2
theorem RoM.put {Q : Nat → Prop} {w : World} {K : List (List UInt8)} {Cs : List (List Cmd)} {R : Rom} {X : Vals} (h : RoM Q w K Cs R X) {i : Nat} (hi : i < 3) {c : Con} {x : Cv} (hc : ConM Q w c x) : RoM Q w K Cs (R.put i c) (X.put i x) := by
  match i, hi with
  | 0, _ => exact ⟨hc, h.k1, h.k2, h.lo, h.sc, h.sf, h.sv, h.os, h.td⟩
  | 1, _ => exact ⟨h.k0, hc, h.k2, h.lo, h.sc, h.sf, h.sv, h.os, h.td⟩
  | 2, _ => exact ⟨h.k0, h.k1, hc, h.lo, h.sc, h.sf, h.sv, h.os, h.td⟩
theorem jdT {w : World} {b o i : Nat} {R : Rom} {X : Vals} (h : RmB w b (vg R X)) (hi : i < 3) (ho : o = 7 + i * 9) : w.cell? ⟨b, o, none⟩ = some (.int .i64 (R.con i).ses.step) ∧ w.cell? ⟨b, o + 1, none⟩ = some (.string (S (R.con i).ses.frm.1)) ∧ w.cell? ⟨b, o + 2, none⟩ = some (.string (S (R.con i).ses.frm.2)) ∧ w.cell? ⟨b, o + 3, none⟩ = some (X.con i).t ∧
    w.cell? ⟨b, o + 4, none⟩ = some (.string (S (R.con i).ses.text)) ∧ w.cell? ⟨b, o + 5, none⟩ = some (.bool (R.con i).ses.large) ∧ w.cell? ⟨b, o + 6, none⟩ = some (.string (S (R.con i).held)) ∧ w.cell? ⟨b, o + 7, none⟩ = some (X.con i).d ∧ w.cell? ⟨b, o + 8, none⟩ = some (X.con i).l := by
  subst ho; have hc : ∀ k, k < 9 → ∀ v, (conC (R.con i) (X.con i))[k]? = some v → w.cell? ⟨b, 7 + i * 9 + k, none⟩ = some v := fun k hk v hv => h.cell (by rw [jc2 R X hi hk]; exact hv)
  exact ⟨hc 0 (by omega) _ rfl, hc 1 (by omega) _ rfl, hc 2 (by omega) _ rfl, hc 3 (by omega) _ rfl, hc 4 (by omega) _ rfl, hc 5 (by omega) _ rfl, hc 6 (by omega) _ rfl, hc 7 (by omega) _ rfl, hc 8 (by omega) _ rfl⟩
theorem jk5 {w : World} {b : Nat} {cs : List Value} (h : RmB w b cs) (o : Nat) : w.frozen? ⟨b, o, none⟩ = false ∧ w.frozen? ⟨b, o + 1, none⟩ = false ∧ w.frozen? ⟨b, o + 2, none⟩ = false ∧ w.frozen? ⟨b, o + 3, none⟩ = false ∧ w.frozen? ⟨b, o + 4, none⟩ = false ∧ w.frozen? ⟨b, o + 5, none⟩ = false ∧ w.frozen? ⟨b, o + 6, none⟩ = false ∧ w.frozen? ⟨b, o + 7, none⟩ = false ∧ w.frozen? ⟨b, o + 8, none⟩ = false :=
  ⟨h.frz _, h.frz _, h.frz _, h.frz _, h.frz _, h.frz _, h.frz _, h.frz _, h.frz _⟩
def RmQ (K : List (List UInt8)) (Cs : List (List Cmd)) (B b : Nat) (G : List Nat) (w : World) (R : Rom) (r : Value) (e : Ending) (w' : World) : Prop :=
  e = .returned r ∧ ∃ G', RoomM K Cs B b G' R w' ∧ Stp b G w G' w'
theorem jl8 : (Tryz.prog.info? 3).map (fun i => (i.zero, i.size, i.bytes)) = some (some (.int .i64 0), 1, 8) := by kernel_rfl
theorem vD {w : World} {B n k : Nat} {e : TypeId} {v : Value} {xs : List Value} (h : w.ownsRow B e k v n xs) : ∃ a c, v = .slice a n c ∧ n ≤ c := by
  rcases h.2 with ⟨h1, h0⟩ | ⟨g, cap, _, h, _, _, hc, _⟩
  · exact ⟨none, 0, by rw [h1, h0], Nat.le_of_eq h0⟩
  · exact ⟨_, _, h, hc⟩
set_option maxHeartbeats 1000000 in
set_option maxRecDepth 100000 in
theorem jem (K : List (List UInt8)) (Cs : List (List Cmd)) (B b : Nat) (G : List Nat) (R : Rom) (w : World) (hR : RoomM K Cs B b G R w) (i o : Nat) (hi : i < 3) (ho : o = 7 + i * 9) (ad : Addr) (c : Nat) (l : List Int) (hl : 0 < l.length) (hn : (R.con i).told.length + l.length ≤ 1000000000) (hc : ∀ j u, (l.map fun k => Value.int .i64 k)[j]? = some u → w.cell? (ad.add j) = some u) :
    Calls Tryz.prog 77 #[.pointer (some ⟨b, o, none⟩), .slice (some ad) l.length c] w (RmQ K Cs B b G w (R.put i (jd3 (R.con i) l)) (.tuple #[])) := by
  obtain ⟨X, hG, hB, hX, hM, hQ⟩ := hR; obtain ⟨A, Z, hA, hA'⟩ := vL R X hi; obtain ⟨i0, hi0, hz0, hz1, hz2⟩ := info_parts jl8; have hown := hM.own (intR 3 (X.con i).l (R.con i).told) (by rw [hA]; simp); have h8 : w.cell? ⟨b, o + 8, none⟩ = some (X.con i).l := hX.cell (by rw [ho, jc2 R X hi (by omega)]; rfl); have HEND := hid (show ∀ (g cap : Nat) (w1 : World), w1.ownsRow B 3 1 (.slice (some ⟨g, 0, none⟩) ((R.con i).told.length + l.length) cap) ((R.con i).told.length + l.length) (((R.con i).told.map fun k => .int .i64 k) ++ l.map fun k => .int .i64 k) → w.grownBy w1 (X.con i).l.ownBlock → ((X.con i).l.ownBlock = some g ∨ g = w.heap.size) →
      RmQ K Cs B b G w (R.put i (jd3 (R.con i) l)) (.tuple #[]) (.returned (.tuple #[])) (w1.setCell ⟨b, o + 8, none⟩ (.slice (some ⟨g, 0, none⟩) ((R.con i).told.length + l.length) cap)) ∧ w1.cell? ⟨b, o + 8, none⟩ = some (X.con i).l ∧ w1.frozen? ⟨b, o + 8, none⟩ = false from fun g cap w1 h1 h2 h3 => by
    have hM' := hM; rw [hA] at hM'; obtain ⟨k1, k2⟩ := hM'.grow (H := w.heap.size) (r' := intR 3 (.slice (some ⟨g, 0, none⟩) ((R.con i).told.length + l.length) cap) ((R.con i).told ++ l)) h2 (by simpa [intR] using h1) (Nat.le_refl _) (fun g' e => by cases e; exact h3.imp id fun h => Nat.le_of_eq h.symm); have hbx : w1.heap[b]? = w.heap[b]? := h2.block b hM.lt fun e => hM.far (by rw [hA]; exact List.mem_filterMap.2 ⟨intR 3 (X.con i).l (R.con i).told, by simp, e.symm⟩)
    have hX1 : RmB w1 b (vg R X) := ⟨hbx.trans hX.1, hX.2⟩; refine ⟨⟨rfl, _, ⟨X.put i ⟨(X.con i).t, (X.con i).d, .slice (some ⟨g, 0, none⟩) ((R.con i).told.length + l.length) cap⟩, rfl, hB, ?_, ?_, ?_⟩, ?_⟩, ?_, ?_⟩
    · rw [ho]; exact (hX1.put _ _).ty (jh6 R X hi _ _)
    · rw [hA']; exact k1.box _ _
    · rw [hG] at hQ; rw [hA'] at *; rw [hA] at hQ; have hQ2 := hQ.stp (k2.box (o + 8) (.slice (some ⟨g, 0, none⟩) ((R.con i).told.length + l.length) cap)); have hc2 := hQ2.con hi; exact hQ2.put hi ⟨hc2.gl, hc2.ry, hc2.du⟩
    · rw [hG, hA', hA]; exact k2.box _ _
    · exact (World.cell?_of_block hbx).trans h8
    · exact hX1.frz _)
  have hbB : B ≤ w.heap.size := by have := hM.lt; omega
  obtain ⟨al, cl, hal, hcap⟩ := vD hown; simp only [intR] at hal hown; rw [hal] at h8 hown HEND; have HO := hid hown; clear hM hQ hX hA hA' hown hG hal ho; go_enter Tryz.func77, Tryz.ntmps77
  go_wp2_with (first
    | (at_builtin; refine wpList_append_lies _ rfl _ _ 25 rfl B 3 i0 _ 1 8 Tryz.underlying25 hi0 hz0 hz1 hz2 rfl (by decide) (.slice al (R.con i).told.length cl) (R.con i).told.length ((R.con i).told.map fun k => .int .i64 k) rfl HO.out ad l.length c (l.map fun k => .int .i64 k) rfl ?q1 hc ?q2 hl ?q3 ?q4 ?q5 w.heap.size rfl ?_)
    | fail)
  case q1 => simp
  case q2 =>
    intro u hu; obtain ⟨k, _, rfl⟩ := List.mem_map.1 hu; rfl
  case q3 => unfold maxLen; omega
  case q4 => omega
  case q5 => exact hbB
  intro g cap w1 hown hgrow hat hlt; obtain ⟨HF, z0, z1⟩ := HEND.out g cap w1 hown hgrow hat; have HF := hid HF; clear hown hgrow hat HEND; go_wp2; go_end0; exact HF.out
theorem jfS {A : Type} : ∀ {l : List A} {j : Nat} {v : A}, l[j]? = some v → l.set j v = l
  | [], _, _, h => by simp at h
  | _ :: _, 0, _, h => by cases h; rfl
  | _ :: l, j + 1, _, h => congrArg _ (jfS (l := l) h)
theorem jfJ (c : Con) : jd3 c [] = c := by cases c; simp [jd3]
theorem jfX (R : Rom) (i : Nat) (hi : i < 3) : R.put i (R.con i) = R := by
  match i, hi with
  | 0, _ | 1, _ | 2, _ => rfl
set_option maxHeartbeats 1000000 in
set_option maxRecDepth 100000 in
theorem jix (K : List (List UInt8)) (Cs : List (List Cmd)) (B b : Nat) (G : List Nat) (R : Rom) (w : World) (hR : RoomM K Cs B b G R w) (i o : Nat) (hi : i < 3) (ho : o = 7 + i * 9) (a : Option Addr) (c : Nat) (hn : (R.con i).told.length ≤ 1000000000) :
    Calls Tryz.prog 77 #[.pointer (some ⟨b, o, none⟩), .slice a 0 c] w (RmQ K Cs B b G w R (.tuple #[])) := by
  obtain ⟨X, hG, hB, hX, hM, hQ⟩ := hR; obtain ⟨A, Z, hA, hA'⟩ := vL R X hi; have hown := hM.own (intR 3 (X.con i).l (R.con i).told) (by rw [hA]; simp); obtain ⟨al, cl, hal, hcap⟩ := vD hown; simp only [intR] at hal hown hcap; have hc8 : (vg R X)[o + 8]? = some (.slice al (R.con i).told.length cl) := by rw [ho, jc2 R X hi (by omega), ← hal]; rfl
  have h8 : w.cell? ⟨b, o + 8, none⟩ = some (.slice al (R.con i).told.length cl) := hX.cell hc8; have z8 := hX.frz (o + 8); have HEND := hid (show RmQ K Cs B b G w R (.tuple #[]) (.returned (.tuple #[])) (w.setCell ⟨b, o + 8, none⟩ (.slice al (R.con i).told.length cl)) from
    ⟨rfl, G, ⟨X, hG, hB, (hX.put _ _).ty (jfS hc8), hM.box _ _, hQ.stp ((Stp.refl b G w).box _ _)⟩, (Stp.refl b G w).box _ _⟩)
  generalize (R.con i).told.length = n at *; have hn2 : (n : Int) ≤ 1000000000 := by omega
  clear hM hQ hX hA hA' hown hG hal ho hc8; cases a <;> cases al
  all_goals
    go_enter Tryz.func77, Tryz.ntmps77; go_wp2; go_end0; exact HEND.out
theorem jgD (R : Rom) (X : Vals) {i : Nat} (hi : i < 3) (k : Int) : (((((((((vg R X).set (7 + i * 9) (.int .i64 k)).set (7 + i * 9 + 1) (.string ⟨#[]⟩)).set (7 + i * 9 + 2) (.string ⟨#[]⟩)).set (7 + i * 9 + 3) (.slice none 0 0)).set (7 + i * 9 + 4) (.string ⟨#[]⟩)).set (7 + i * 9 + 5) (.bool false)).set (7 + i * 9 + 6) (.string ⟨#[]⟩)).set (7 + i * 9 + 7) (.slice none 0 0)).set (7 + i * 9 + 8) (X.con i).l = vg (R.put i (jaB (R.con i) k)) (X.put i ⟨.slice none 0 0, .slice none 0 0, (X.con i).l⟩) := by
  match i, hi with
  | 0, _ | 1, _ | 2, _ => rfl
set_option maxHeartbeats 1000000 in
set_option maxRecDepth 100000 in
theorem jb7 (K : List (List UInt8)) (Cs : List (List Cmd)) (B b : Nat) (G : List Nat) (R : Rom) (w : World) (hR : RoomM K Cs B b G R w) (i o : Nat) (hi : i < 3) (ho : o = 7 + i * 9) (k : Int) :
    Calls Tryz.prog 45 #[.pointer (some ⟨b, o, none⟩), .int .i64 k] w (RmQ K Cs B b G w (R.put i (jaB (R.con i) k)) (.tuple #[])) := by
  obtain ⟨X, hG, hB, hX, hM, hQ⟩ := hR; obtain ⟨A, Z, hA, hA'⟩ := vL R X hi; have hown := hM.own (intR 3 (X.con i).l (R.con i).told) (by rw [hA]; simp); obtain ⟨al, cl, hal, hcap⟩ := vD hown; simp only [intR] at hal; obtain ⟨c0, c1, c2, c3, c4, c5, c6, c7, c8⟩ := jdT hX hi ho; obtain ⟨z0, z1, z2, z3, z4, z5, z6, z7, z8⟩ := jk5 hX o; rw [hal] at c8; have hRb := jgD R X hi k; rw [← ho, hal] at hRb; have HEND := hid (show ∀ w', RmB w' b (vg (R.put i (jaB (R.con i) k)) (X.put i ⟨.slice none 0 0, .slice none 0 0, (X.con i).l⟩)) → MOk w' B b (zk R X) → Stp b G w G w' → RmQ K Cs B b G w (R.put i (jaB (R.con i) k)) (.tuple #[]) (.returned (.tuple #[])) w' from fun w' h1 h2 h3 => by
    have e : zk (R.put i (jaB (R.con i) k)) (X.put i ⟨.slice none 0 0, .slice none 0 0, (X.con i).l⟩) = zk R X := by rw [hA', hA]; rfl
    exact ⟨rfl, G, ⟨_, by rw [e]; exact hG, hB, h1, by rw [e]; exact h2, (hQ.stp h3).put hi ⟨jh _ _ _ _ _ _, fun a n c h => by cases h; exact Nat.le_refl _, jh _ _ _ _ _ _⟩⟩, h3⟩)
  have HRB := hid hRb; have HX := hid hX; have HM := hid hM; rw [hal] at HEND; clear hRb hM hQ hX hA hA' hG ho hown hal hcap; go_enter Tryz.func45, Tryz.ntmps45; go_wp2; go_end0; exact HEND.out _ ((((((((((HX.out.put _ _).put _ _).put _ _).put _ _).put _ _).put _ _).put _ _).put _ _).put _ _).ty HRB.out) (((((((((HM.out.box _ _).box _ _).box _ _).box _ _).box _ _).box _ _).box _ _).box _ _).box _ _) ((((((((((Stp.refl b G w).box _ _).box _ _).box _ _).box _ _).box _ _).box _ _).box _ _).box _ _).box _ _)
end Go.Proofs.YtlfgemnmfhknfaaGreatDoor
namespace Go.Proofs.YtlfgemnmfhknfaaGreatDoor
open Go.RowKit Go.Proofs
theorem jbx (R : Rom) (i : Nat) (c : Con) : (R.put i c).con i = c := by
  match i with
  | 0 | 1 | _ + 2 => rfl
theorem jeS (R : Rom) (i : Nat) (c d : Con) : (R.put i c).put i d = R.put i d := by
  match i with
  | 0 | 1 | _ + 2 => rfl
theorem RmQ.trans {K : List (List UInt8)} {Cs : List (List Cmd)} {B b : Nat} {G G' : List Nat} {w w1 w' : World} {R : Rom} {r : Value} {e : Ending} (hs : Stp b G w G' w1) (h : RmQ K Cs B b G' w1 R r e w') : RmQ K Cs B b G w R r e w' := by
  obtain ⟨h1, G2, h2, h3⟩ := h; exact ⟨h1, G2, h2, hs.trans h3⟩
theorem zc {Q : Nat → Prop} {w : World} {v : Value} {l : List Int} (h : IntsM Q w v l) : ∃ a c, v = .slice a l.length c := RowM.slice h
theorem RoomM.cells {K : List (List UInt8)} {Cs : List (List Cmd)} {B b i o : Nat} {G : List Nat} {R : Rom} {w : World} (h : RoomM K Cs B b G R w) (hi : i < 3) (ho : o = 7 + i * 9) : ∃ at_ ct ad cd,
    w.cell? ⟨b, o, none⟩ = some (.int .i64 (R.con i).ses.step) ∧ w.cell? ⟨b, o + 1, none⟩ = some (.string (S (R.con i).ses.frm.1)) ∧ w.cell? ⟨b, o + 2, none⟩ = some (.string (S (R.con i).ses.frm.2)) ∧ w.cell? ⟨b, o + 3, none⟩ = some (.slice at_ (R.con i).ses.to.length ct) ∧
    w.cell? ⟨b, o + 4, none⟩ = some (.string (S (R.con i).ses.text)) ∧ w.cell? ⟨b, o + 5, none⟩ = some (.bool (R.con i).ses.large) ∧ w.cell? ⟨b, o + 6, none⟩ = some (.string (S (R.con i).held)) ∧ w.cell? ⟨b, o + 7, none⟩ = some (.slice ad (R.con i).due.length cd) ∧
    AdrsM (AvN B b G) w (.slice at_ (R.con i).ses.to.length ct) (R.con i).ses.to ∧ jan (.slice at_ (R.con i).ses.to.length ct) ∧ IntsM (AvN B b G) w (.slice ad (R.con i).due.length cd) (R.con i).due := by
  obtain ⟨X, hG, hB, hX, hM, hQ⟩ := h; obtain ⟨h1, h2, h3⟩ := hQ.con hi; obtain ⟨at_, ct, ht⟩ := RowM.slice h1; obtain ⟨ad, cd, hd⟩ := zc h3; obtain ⟨c0, c1, c2, c3, c4, c5, c6, c7, c8⟩ := jdT hX hi ho; rw [ht] at h1 h2 c3; rw [hd] at h3 c7; exact ⟨at_, ct, ad, cd, c0, c1, c2, c3, c4, c5, c6, c7, h1, h2, h3⟩
theorem RoomM.frz {K : List (List UInt8)} {Cs : List (List Cmd)} {B b : Nat} {G : List Nat} {R : Rom} {w : World} (h : RoomM K Cs B b G R w) (j : Nat) : w.frozen? ⟨b, j, none⟩ = false := by
  obtain ⟨X, hG, hB, hX, hM, hQ⟩ := h; exact hX.frz j
theorem jb4 (R : Rom) (X : Vals) {i : Nat} (hi : i < 3) {c : Con} {x : Cv} (hc : c.told = (R.con i).told) (hx : x.l = (X.con i).l) : zk (R.put i c) (X.put i x) = zk R X := by
  obtain ⟨A, Z, h1, h2⟩ := vL R X hi; rw [h1, h2, hc, hx]
theorem RoomM.held {K : List (List UInt8)} {Cs : List (List Cmd)} {B b i o : Nat} {G : List Nat} {R : Rom} {w : World} (h : RoomM K Cs B b G R w) (hi : i < 3) (ho : o = 7 + i * 9) (t : List UInt8) : RoomM K Cs B b G (R.put i (jdK (R.con i) t)) (w.setCell ⟨b, o + 6, none⟩ (.string (S t))) ∧ Stp b G w G (w.setCell ⟨b, o + 6, none⟩ (.string (S t))) := by
  obtain ⟨X, hG, hB, hX, hM, hQ⟩ := h; have hs : Stp b G w G (w.setCell ⟨b, o + 6, none⟩ (.string (S t))) := (Stp.refl b G w).box _ _; have e := jb4 R X hi (c := jdK (R.con i) t) (x := X.con i) rfl rfl; have hc := (hQ.stp hs).con hi; exact ⟨⟨_, by rw [e]; exact hG, hB, (hX.put _ _).ty (by rw [ho]; exact jiO R X hi t), by rw [e]; exact hM.box _ _, (hQ.stp hs).put hi ⟨hc.gl, hc.ry, hc.du⟩⟩, hs⟩
theorem RoomM.due {K : List (List UInt8)} {Cs : List (List Cmd)} {B b i o : Nat} {G : List Nat} {R : Rom} {w : World} (h : RoomM K Cs B b G R w) (hi : i < 3) (ho : o = 7 + i * 9) (v : Value) (l : List Int) (hv : IntsM (AvN B b G) w v l) : RoomM K Cs B b G (R.put i (dueC (R.con i) l)) (w.setCell ⟨b, o + 7, none⟩ v) ∧ Stp b G w G (w.setCell ⟨b, o + 7, none⟩ v) := by
  obtain ⟨X, hG, hB, hX, hM, hQ⟩ := h; have hs : Stp b G w G (w.setCell ⟨b, o + 7, none⟩ v) := (Stp.refl b G w).box _ _; have e := jb4 R X hi (c := dueC (R.con i) l) (x := ⟨(X.con i).t, v, (X.con i).l⟩) rfl rfl; have hc := (hQ.stp hs).con hi; exact ⟨⟨X.put i ⟨(X.con i).t, v, (X.con i).l⟩, by rw [e]; exact hG, hB, (hX.put _ _).ty (by rw [ho]; exact jkz R X hi v l), by rw [e]; exact hM.box _ _, (hQ.stp hs).put hi ⟨hc.gl, hc.ry, hv.stp hs⟩⟩, hs⟩
set_option maxHeartbeats 1000000 in
set_option maxRecDepth 100000 in
theorem jjD (K : List (List UInt8)) (Cs : List (List Cmd)) (B b : Nat) (G : List Nat) (R : Rom) (w : World) (hR : RoomM K Cs B b G R w) (i o : Nat) (hi : i < 3) (ho : o = 7 + i * 9) (d : List UInt8) (hn : (R.con i).held.length + d.length ≤ 1000000000) :
    Calls Tryz.prog 29 #[.pointer (some ⟨b, o, none⟩), .string (S d)] w (RmQ K Cs B b G w (R.put i (jb9 (R.con i) d)) (.tuple #[])) := by
  obtain ⟨at_, ct, ad, cd, c0, c1, c2, c3, c4, c5, c6, c7, _⟩ := hR.cells hi ho; have hz := hR.frz (o + 6); have HR := hid hR; have HO := hid ho; clear hR ho
  by_cases h5 : (R.con i).ses.step = 5
  · have HB := hid (jb7 K Cs B b G R w HR.out i o hi HO.out 0); have HE := hid (show jb9 (R.con i) d = ⟨atS 0, d, [], (R.con i).told⟩ by unfold jb9; rw [if_pos h5]); rw [h5] at c0; clear h5 c1 c2 c3 c4 c5 c6 c7 hz; go_enter Tryz.func29, Tryz.ntmps29; go_wp2_with fail; refine HB.out.mono ?_; rintro e w1 ⟨rfl, G1, hR1, hs1⟩; obtain ⟨_, _, _, _, _, _, _, _, _, _, d6, _⟩ := hR1.cells hi HO.out; rw [jbx, show (jaB (R.con i) 0).held = [] from rfl] at d6; have hz1 := hR1.frz (o + 6); obtain ⟨k1, k2⟩ := hR1.held hi HO.out d; rw [jbx, jeS] at k1; have HF := hid (show RmQ K Cs B b G w (R.put i (jb9 (R.con i) d)) (.tuple #[]) (.returned (.tuple #[])) (w1.setCell ⟨b, o + 6, none⟩ (.string (S d))) from ⟨rfl, G1, by rw [HE.out]; exact k1, hs1.trans k2⟩); have hsz : ¬ 9223372036854775807 < (S ([] : List UInt8)).size + (S d).size := by rw [jf, jf]; simp; omega
    have hap : S ([] : List UInt8) ++ S d = S d := by rw [jbN]; rfl
    clear k1 k2 hR1 hs1; go_wp2; go_end0
    first | exact HF.out | (rw [hap]; exact HF.out)
  · have h5' : ((R.con i).ses.step == 5) = false := by simpa using h5
    obtain ⟨k1, k2⟩ := HR.out.held hi HO.out ((R.con i).held ++ d); have HF := hid (show RmQ K Cs B b G w (R.put i (jb9 (R.con i) d)) (.tuple #[]) (.returned (.tuple #[])) (w.setCell ⟨b, o + 6, none⟩ (.string (S ((R.con i).held ++ d)))) from ⟨rfl, G, by unfold jb9; rw [if_neg h5]; exact k1, k2⟩); have hsz : ¬ 9223372036854775807 < (S (R.con i).held).size + (S d).size := by rw [jf, jf]; omega
    have HAP := hid (jbN (R.con i).held d); clear k1 k2; go_enter Tryz.func29, Tryz.ntmps29; go_wp2; go_end0; rw [HAP.out]; exact HF.out
set_option maxHeartbeats 1000000 in
set_option maxRecDepth 100000 in
theorem jea (K : List (List UInt8)) (Cs : List (List Cmd)) (B b : Nat) (G : List Nat) (R : Rom) (w : World) (hR : RoomM K Cs B b G R w) (i o : Nat) (hi : i < 3) (ho : o = 7 + i * 9) :
    Calls Tryz.prog 74 #[.pointer (some ⟨b, o, none⟩)] w fun e w' => e = .returned (.bool (decide (0 < (R.con i).due.length))) ∧ w' = w := by
  obtain ⟨at_, ct, ad, cd, c0, c1, c2, c3, c4, c5, c6, c7, _⟩ := hR.cells hi ho; generalize (R.con i).due.length = n at *; clear ho hR c0 c1 c2 c3 c4 c5 c6; go_enter Tryz.func74, Tryz.ntmps74; go_wp2; go_ret
  simp
theorem jbq {b : Nat} {G : List Nat} (w : World) : Stp b G w G w.drew := .of (Below.refl _ _).drew
theorem jai (w : World) (n : Nat) : Below w.heap.size w (w.drewN n) :=
  ⟨rfl, rfl, rfl, Nat.le_refl _, fun _ _ => rfl⟩
set_option maxHeartbeats 1000000 in
set_option maxRecDepth 100000 in
theorem jjv (K : List (List UInt8)) (Cs : List (List Cmd)) (B b : Nat) (G : List Nat) (R : Rom) (w : World) (hR : RoomM K Cs B b G R w) (i o : Nat) (hi : i < 3) (ho : o = 7 + i * 9) (hm : maxLenCell w) (hn : (R.con i).held.length ≤ 1000000000) (hd : (R.con i).due = []) (x y : List UInt8) (hx : Lib.cut (R.con i).held [13, 10] = (x, y, true)) :
    Calls Tryz.prog 46 #[.pointer (some ⟨b, o, none⟩)] w (RmQ K Cs B b G w (R.put i (jdK (R.con i) y)) (.tuple #[.string (S x), .bool true])) := by
  have HW := hid (jea K Cs B b G R w hR i o hi ho); rw [hd] at HW; obtain ⟨at_, ct, ad, cd, c0, c1, c2, c3, c4, c5, c6, c7, _⟩ := hR.cells hi ho; have HC := hid (jiE (S (R.con i).held) ⟨#[13, 10]⟩ [13, 10] x y true rfl (by rw [jo]; exact hx) w (by rw [jf]; omega) hm); have HR := hid hR; have HO := hid ho; clear hR ho hd c0 c1 c2 c3 c4 c5 c7 hm hx; go_enter Tryz.func46, Tryz.ntmps46; go_wp2_with fail; refine HW.out.mono ?_; rintro e w1 ⟨rfl, hw1⟩; have hw1' := hw1.symm; subst hw1'; clear hw1; go_wp2_with fail; refine HC.out.mono ?_; rintro e w2 ⟨rfl, n, hw2⟩; have hb2 : Below w.heap.size w w2 := by rw [hw2]; exact jai _ _
  have hR2 := HR.out.next hb2; have hz := hR2.frz (o + 6); obtain ⟨_, _, _, _, _, _, _, _, _, _, d6, _⟩ := hR2.cells hi HO.out; obtain ⟨k1, k2⟩ := hR2.held hi HO.out y; have HF := hid (show RmQ K Cs B b G w (R.put i (jdK (R.con i) y)) (.tuple #[.string (S x), .bool true]) (.returned (.tuple #[.string (S x), .bool true])) (w2.setCell ⟨b, o + 6, none⟩ (.string (S y))) from ⟨rfl, G, k1, (Stp.of hb2).trans k2⟩); clear k1 k2 hR2 hw2 hb2 c6; go_wp2; go_ret2; exact HF.out
set_option maxHeartbeats 1000000 in
set_option maxRecDepth 100000 in
theorem jlc (K : List (List UInt8)) (Cs : List (List Cmd)) (B b : Nat) (G : List Nat) (R : Rom) (w : World) (hR : RoomM K Cs B b G R w) (i o : Nat) (hi : i < 3) (ho : o = 7 + i * 9) (hm : maxLenCell w) (hn : (R.con i).held.length ≤ 1000000000) (x y : List UInt8) (hx : (R.con i).due ≠ [] ∨ Lib.cut (R.con i).held [13, 10] = (x, y, false)) :
    Calls Tryz.prog 46 #[.pointer (some ⟨b, o, none⟩)] w (RmQ K Cs B b G w R (.tuple #[.string ⟨#[]⟩, .bool false])) := by
  have HW := hid (jea K Cs B b G R w hR i o hi ho); obtain ⟨at_, ct, ad, cd, c0, c1, c2, c3, c4, c5, c6, c7, _⟩ := hR.cells hi ho; have HR := hid hR; have HX := hid hx; have HM := hid hm; obtain ⟨q, hq⟩ : ∃ q, q = decide (0 < (R.con i).due.length) := ⟨_, rfl⟩; rw [← hq] at HW; have HQ := hid hq; clear hR ho c0 c1 c2 c3 c4 c5 c7 hm hx hq; go_enter Tryz.func46, Tryz.ntmps46; go_wp2_with fail; refine HW.out.mono ?_; rintro e w1 ⟨rfl, hw1⟩; have hw1' := hw1.symm; subst hw1'; clear hw1; cases q with
  | true =>
    go_wp2; go_ret2; exact ⟨rfl, G, HR.out, Stp.refl _ _ _⟩
  | false =>
    have hcx : Lib.cut (R.con i).held [13, 10] = (x, y, false) := by
      rcases HX.out with h | h
      · have := HQ.out; have h0 : 0 < (R.con i).due.length := List.length_pos_iff.2 h; rw [decide_eq_true h0] at this; cases this
      · exact h
    have HC := hid (jiE (S (R.con i).held) ⟨#[13, 10]⟩ [13, 10] x y false rfl (by rw [jo]; exact hcx) w (by rw [jf]; omega) HM.out); clear hcx; go_wp2_with fail; refine HC.out.mono ?_; rintro e w2 ⟨rfl, n, hw2⟩; have HB2 := hid (show Below w.heap.size w w2 by rw [hw2]; exact jai _ _); clear hw2 c6; go_wp2; go_ret2; exact ⟨rfl, G, HR.out.next HB2.out, .of HB2.out⟩
end Go.Proofs.YtlfgemnmfhknfaaGreatDoor
namespace Go.Proofs.YtlfgemnmfhknfaaGreatDoor
open Go.RowKit Go.Proofs
theorem jjI (K : List (List UInt8)) (Cs : List (List Cmd)) (B b : Nat) (G : List Nat) (R : Rom) (w : World) (hR : RoomM K Cs B b G R w) (i o : Nat) (hi : i < 3) (ho : o = 7 + i * 9) {Q : Nat → Prop} (v : Value) (l : List Int) (hv : IntsM Q w v l) (hn : (R.con i).told.length + l.length ≤ 1000000000) :
    Calls Tryz.prog 77 #[.pointer (some ⟨b, o, none⟩), v] w (RmQ K Cs B b G w (R.put i (jd3 (R.con i) l)) (.tuple #[])) := by
  obtain ⟨a, c, rfl⟩ := zc hv
  match l, hv, hn with
  | [], hv, hn =>
    rw [jfJ, jfX R i hi]; exact jix K Cs B b G R w hR i o hi ho a c (by simpa using hn)
  | x :: t, hv, hn =>
    obtain ⟨a', c', he, _, hx⟩ := hv; obtain ⟨g, q, cs, ha, _⟩ := hx 0 x rfl; simp only [Value.slice.injEq, true_and] at he; obtain ⟨rfl, rfl⟩ := he; subst ha; refine jem K Cs B b G R w hR i o hi ho ⟨g, q, none⟩ c (x :: t) (by simp) hn fun j u hj => ?_
    rw [Addr.add_lit]; rw [List.getElem?_map] at hj; cases hk : (x :: t)[j]? with
    | none => rw [hk] at hj; cases hj
    | some k =>
      rw [hk] at hj; cases hj; obtain ⟨g', q', cs', ha', _, _, _, hc, rfl⟩ := hx j k hk; cases ha'; have := hc 0 _ rfl
      simpa using this
set_option maxHeartbeats 1000000 in
set_option maxRecDepth 100000 in
theorem jgc (K : List (List UInt8)) (Cs : List (List Cmd)) (B b : Nat) (G : List Nat) (R : Rom) (w : World) (hR : RoomM K Cs B b G R w) (i o : Nat) (hi : i < 3) (ho : o = 7 + i * 9) (v : Value) (l : List Int) (hv : IntsM (AvN B b G) w v l) (q : Bool) (hn : (R.con i).told.length + l.length ≤ 1000000000) :
    Calls Tryz.prog 78 #[.pointer (some ⟨b, o, none⟩), v, .bool q] w (RmQ K Cs B b G w (R.put i (qB (R.con i) l q)) (.tuple #[])) := by
  cases q with
  | true =>
    obtain ⟨k1, k2⟩ := hR.due hi ho v l hv; have HF := hid (show RmQ K Cs B b G w (R.put i (qB (R.con i) l true)) (.tuple #[]) (.returned (.tuple #[])) (w.setCell ⟨b, o + 7, none⟩ v) from ⟨rfl, G, k1, k2⟩); obtain ⟨_, _, _, _, _, _, _, _, _, _, _, c7, _⟩ := hR.cells hi ho; have hz := hR.frz (o + 7); obtain ⟨a, c, rfl⟩ := zc hv; clear k1 k2 ho hv hR; go_enter Tryz.func78, Tryz.ntmps78; go_wp2; go_end0; exact HF.out
  | false =>
    have HT := hid (jjI K Cs B b G R w hR i o hi ho v l hv hn); clear ho hv hR; go_enter Tryz.func78, Tryz.ntmps78; go_wp2_with fail; refine HT.out.mono ?_; rintro e w1 ⟨rfl, h⟩; have HF := hid (show RmQ K Cs B b G w (R.put i (qB (R.con i) l false)) (.tuple #[]) (.returned (.tuple #[])) w1 from ⟨rfl, h⟩); clear h; go_wp2; go_end0; exact HF.out
set_option maxHeartbeats 1000000 in
set_option maxRecDepth 100000 in
theorem jht (p : Option Addr) (a : Option Addr) (c : Nat) (q : Bool) (w : World) :
    Calls Tryz.prog 79 #[.pointer p, .slice a 0 c, .bool q] w fun e w' => e = .returned (.tuple #[.slice none 0 0, .bool false]) ∧ w' = w := by
  go_enter Tryz.func79, Tryz.ntmps79; go_wp2
  go_loopw [8, 9, 16] (fun c q i wr => c = .slice none 0 0 ∧ q = .bool false ∧ i = .int .i64 0 ∧ wr = w) (fun _ _ _ _ => 0)
  case atStart => exact ⟨rfl, rfl, rfl, rfl⟩
  case round =>
    obtain ⟨rfl, rfl, rfl, rfl⟩ := hrel; go_wp2; go_ret2; exact ⟨rfl, rfl⟩
theorem RoomM.names {K : List (List UInt8)} {Cs : List (List Cmd)} {B b : Nat} {G : List Nat} {R : Rom} {w : World} (h : RoomM K Cs B b G R w) : ∃ a c, w.cell? ⟨b, 34, none⟩ = some (.slice a K.length c) ∧ TxtsM (AvN B b G) w (.slice a K.length c) K := by
  obtain ⟨X, hG, hB, hX, hM, hQ⟩ := h; obtain ⟨a, c, e⟩ := RowM.slice hQ.lo; exact ⟨a, c, hX.cell (by rw [← e]; rfl), by rw [← e]; exact hQ.lo⟩
theorem jjP (R : Rom) (X : Vals) {i : Nat} (hi : i < 3) (s : Ses) (v : Value) : ((((((vg R X).set (7 + i * 9) (.int .i64 s.step)).set (7 + i * 9 + 1) (.string (S s.frm.1))).set (7 + i * 9 + 2) (.string (S s.frm.2))).set (7 + i * 9 + 3) v).set (7 + i * 9 + 4) (.string (S s.text))).set (7 + i * 9 + 5) (.bool s.large) = vg (R.put i (sesC (R.con i) s)) (X.put i ⟨v, (X.con i).d, (X.con i).l⟩) := by
  match i, hi with
  | 0, _ | 1, _ | 2, _ => rfl
theorem RoomM.ses {K : List (List UInt8)} {Cs : List (List Cmd)} {B b i o : Nat} {G : List Nat} {R : Rom} {w : World} (h : RoomM K Cs B b G R w) (hi : i < 3) (ho : o = 7 + i * 9) (s : Ses) (v : Value) (hv : AdrsM (AvN B b G) w v s.to) (hr : jan v) :
    RoomM K Cs B b G (R.put i (sesC (R.con i) s)) ((((((w.setCell ⟨b, o, none⟩ (.int .i64 s.step)).setCell ⟨b, o + 1, none⟩ (.string (S s.frm.1))).setCell ⟨b, o + 2, none⟩ (.string (S s.frm.2))).setCell ⟨b, o + 3, none⟩ v).setCell ⟨b, o + 4, none⟩ (.string (S s.text))).setCell ⟨b, o + 5, none⟩ (.bool s.large)) ∧
    Stp b G w G ((((((w.setCell ⟨b, o, none⟩ (.int .i64 s.step)).setCell ⟨b, o + 1, none⟩ (.string (S s.frm.1))).setCell ⟨b, o + 2, none⟩ (.string (S s.frm.2))).setCell ⟨b, o + 3, none⟩ v).setCell ⟨b, o + 4, none⟩ (.string (S s.text))).setCell ⟨b, o + 5, none⟩ (.bool s.large)) := by
  obtain ⟨X, hG, hB, hX, hM, hQ⟩ := h; have hs := ((((((Stp.refl b G w).box o (.int .i64 s.step)).box (o + 1) (.string (S s.frm.1))).box (o + 2) (.string (S s.frm.2))).box (o + 3) v).box (o + 4) (.string (S s.text))).box (o + 5) (.bool s.large); have e := jb4 R X hi (c := sesC (R.con i) s) (x := ⟨v, (X.con i).d, (X.con i).l⟩) rfl rfl; have hc := (hQ.stp hs).con hi; exact ⟨⟨X.put i ⟨v, (X.con i).d, (X.con i).l⟩, by rw [e]; exact hG, hB, ((((((hX.put _ _).put _ _).put _ _).put _ _).put _ _).put _ _).ty (by rw [ho]; exact jjP R X hi s v), by rw [e]; exact (((((hM.box _ _).box _ _).box _ _).box _ _).box _ _).box _ _, (hQ.stp hs).put hi ⟨hv.stp hs, hr, hc.du⟩⟩, hs⟩
theorem jfC {K : List (List UInt8)} {Cs : List (List Cmd)} {B b : Nat} {G : List Nat} {R : Rom} {w : World} (h : RoomM K Cs B b G R w) {k : Nat} (hk : w.heap.size ≤ k) : Av b G k := by
  obtain ⟨h1, _, h3⟩ := h.lt; exact ⟨by omega, fun e => by have := (h3 k e).2; omega⟩
theorem LtrsM.stp {b : Nat} {G G' : List Nat} {w w' : World} {v : Value} {l : List Ltr} (h : LtrsM (Av b G) w v l) (hs : Stp b G w G' w') : LtrsM (Av b G') w' v l := RowM.stp h hs fun _ _ h => h
def TkQ (K : List (List UInt8)) (Cs : List (List Cmd)) (B b : Nat) (G : List Nat) (w : World) (R : Rom) (l : List Int) (q : Bool) (e : Ending) (w' : World) : Prop :=
  ∃ v G', e = .returned (.tuple #[v, .bool q]) ∧ RoomM K Cs B b G' R w' ∧ Stp b G w G' w' ∧ IntsM (AvN B b G') w' v l
def lnC (c : Con) (r : Ses) (co : Int) : Con := jj0 (sesC c r) co
set_option maxHeartbeats 4000000 in
set_option maxRecDepth 100000 in
theorem jje (K : List (List UInt8)) (Cs : List (List Cmd)) (B b : Nat) (G : List Nat) (R : Rom) (w : World) (hR : RoomM K Cs B b G R w) (i o : Nat) (hi : i < 3) (ho : o = 7 + i * 9) (line : List UInt8) (hlen : line.length ≤ 140737488355328) (s r : Ses) (hs : s = (R.con i).ses) (hm : mayS s = true) (co : Int) (ls : List Ltr) (hl : qs s K line = (r, co, ls)) (hrl : r.to.length ≤ 5) (hll : ls.length ≤ 5) (hn : (R.con i).told.length + 1 ≤ 1000000000)
    (R3 : Rom) (codes : List Int) (q : Bool) (hn3 : (R3.con i).told.length + codes.length ≤ 1000000000)
    (hT : ∀ (G' : List Nat) (w' : World) (v : Value), Below B w w' → RoomM K Cs B b G' (R.put i (lnC (R.con i) r co)) w' → LtrsM (Av b G') w' v ls → Calls Tryz.prog 79 #[.pointer (some ⟨b, 0, none⟩), v, .bool s.large] w' (TkQ K Cs B b G' w' R3 codes q)) :
    Calls Tryz.prog 47 #[.pointer (some ⟨b, 0, none⟩), .pointer (some ⟨b, o, none⟩), .string (S line)] w (RmQ K Cs B b G w (R3.put i (jfl (qB (R3.con i) codes q) r.step)) (.tuple #[])) := by
  obtain ⟨at_, ct, ad, cd, c0, c1, c2, c3, c4, c5, _, _, hA, hY, _⟩ := hR.cells hi ho; obtain ⟨al, cl, c34, hTx⟩ := hR.names; rw [← hs] at c0 c1 c2 c3 c4 c5 hA hY; have HR := hid hR; have HO := hid ho; have HT := hid hT; have HLN := hid (fun (u : World) (hu : Below w.heap.size w u) => jlL (W := w) hm hl (hA.any.next hu) hY ((hTx.imp (fun _ _ => trivial) (Keeps.refl _ _)).next hu) hlen hu); have HC := hid (show ∀ u, Below w.heap.size w u → u.cell? ⟨b, o, none⟩ = some (.int .i64 s.step) ∧ u.cell? ⟨b, o + 1, none⟩ = some (.string (S s.frm.1)) ∧ u.cell? ⟨b, o + 2, none⟩ = some (.string (S s.frm.2)) ∧ u.cell? ⟨b, o + 3, none⟩ = some (.slice at_ s.to.length ct) ∧ u.cell? ⟨b, o + 4, none⟩ = some (.string (S s.text)) ∧ u.cell? ⟨b, o + 5, none⟩ = some (.bool s.large) ∧ u.cell? ⟨b, 34, none⟩ = some (.slice al K.length cl) from
    fun u hu => ⟨ja c0 hu, ja c1 hu, ja c2 hu, ja c3 hu, ja c4 hu, ja c5 hu, ja c34 hu⟩)
  have HN := hid hn; have HN3 := hid hn3; clear hR ho hA hY hTx hm hl hn hs hT hn3; go_enter Tryz.func47, Tryz.ntmps47; go_upto_region 1 with fail
  go_cut [7, 8, 9, 10] (fun vp vc vl ve wx => LnB w r co ls vp vc vl ve wx)
  case first =>
    go_region_held3 (fun u => u.cell? ⟨b, o, none⟩ = some (.int .i64 s.step) ∧ u.cell? ⟨b, o + 1, none⟩ = some (.string (S s.frm.1)) ∧ u.cell? ⟨b, o + 2, none⟩ = some (.string (S s.frm.2)) ∧ u.cell? ⟨b, o + 3, none⟩ = some (.slice at_ s.to.length ct) ∧ u.cell? ⟨b, o + 4, none⟩ = some (.string (S s.text)) ∧ u.cell? ⟨b, o + 5, none⟩ = some (.bool s.large) ∧ u.cell? ⟨b, 34, none⟩ = some (.slice al K.length cl))
      (first | (refine HC.out _ ?_; (repeat (first | with_reducible exact HB8.out | with_reducible exact Below.refl _ _ | with_reducible refine Below.drew ?_ | with_reducible refine Below.alloc ?_ (by first | exact Nat.le_refl _ | exact HZ8.out | (simp <;> omega) | simp) _ | with_reducible refine Below.setCell ?_ (by first | exact Nat.le_refl _ | (simp <;> omega) | simp) _))) | fail)
      (first
        | (go_at_call 76
           refine (HLN.out _ ?_).mono ?_
           · repeat (first | exact Below.refl _ _ | refine Below.drew ?_ | refine Below.alloc ?_ (by first | exact Nat.le_refl _ | simp) _)
           rintro e w8 ⟨a8, k8, bl, ml, rfl, ho8, ht8, hb8, hB8, hz8⟩; have HO8 := hid ho8; have HT8 := hid ht8; have HB8 := hid hB8; have HZ8 := hid hB8.size; have HU8 := hid hz8
           first
             | (have HK8 : Hid (w8.heap[w.heap.size]? = some (.cells #[.int .i64 0, .string ⟨#[]⟩, .string ⟨#[]⟩, .slice none 0 0, .string ⟨#[]⟩, .bool false] 85)) := hid (jS hb8 (jhA (jlU _))); have hk8 := HK8.out; obtain ⟨g0, g1, g2, g3, g4, g5⟩ := je8 hk8; obtain ⟨x0, x1, x2, x3, x4, x5⟩ := zL hk8; clear hk8)
             | skip
           clear ho8 ht8 hB8 hb8 hz8)
        | fail)
    all_goals
      first
        | (have HE := hid (LnB.old (c := co) HO8.out HT8.out HB8.out HU8.out (by first | exact Nat.le_refl _ | omega) (by first | (simp; done) | (simp; omega)) HK8.out)
           go_wp2_with fail
           go_meet
           exact HE.out)
        | (have HE := hid (LnB.new (c := co) HO8.out HT8.out HB8.out HU8.out)
           go_wp2_with fail
           go_meet
           exact HE.out)
        | fail
  case rest =>
    obtain ⟨P, bl, ml, rfl, rfl, rfl, rfl, hP, ⟨ra, rk, hRx, hRO⟩, hRT, hb⟩ := hcut; obtain ⟨W1, rfl⟩ : ∃ W, W = wc := ⟨_, rfl⟩; have hR1 := HR.out.next hb; have hz := hR1.frz; obtain ⟨z0, z1, z2, z3, z4, z5⟩ : W1.frozen? ⟨b, o, none⟩ = false ∧ W1.frozen? ⟨b, o + 1, none⟩ = false ∧ W1.frozen? ⟨b, o + 2, none⟩ = false ∧ W1.frozen? ⟨b, o + 3, none⟩ = false ∧ W1.frozen? ⟨b, o + 4, none⟩ = false ∧ W1.frozen? ⟨b, o + 5, none⟩ = false := ⟨hz _, hz _, hz _, hz _, hz _, hz _⟩; obtain ⟨d0, d1, d2, d3, d4, d5, _⟩ := HC.out W1 hb; obtain ⟨q0, q1, q2, q3, q4, q5⟩ := zL hRx; have hvA : AdrsM (AvN B b G) W1 (.slice ra r.to.length rk) r.to := RowM.imp (OwnL.row hRO (by unfold maxLen; omega)) (fun k hk => ⟨by have := HR.out.lt; omega, jfC HR.out hk⟩) (Keeps.refl _ _) fun _ _ h => h
    have hvL : LtrsM (Av b G) W1 (.slice bl ls.length ml) ls := RowM.imp (LOwnT.row hRT (by unfold maxLen; omega)) (fun k hk => jfC HR.out hk) (Keeps.refl _ _) fun _ _ h => h
    obtain ⟨k1, k2⟩ := hR1.ses hi HO.out r _ hvA (jhZ hRO); have hPav : Av b G P := jfC HR.out hP; have hPl : P < W1.heap.size := (Array.getElem?_eq_some_iff.1 hRx).1; obtain ⟨W2, hW2⟩ : ∃ W2, W2 = ((((((W1.setCell ⟨b, o, none⟩ (.int .i64 r.step)).setCell ⟨b, o + 1, none⟩ (.string (S r.frm.1))).setCell ⟨b, o + 2, none⟩ (.string (S r.frm.2))).setCell ⟨b, o + 3, none⟩ (.slice ra r.to.length rk)).setCell ⟨b, o + 4, none⟩ (.string (S r.text))).setCell ⟨b, o + 5, none⟩ (.bool r.large)) := ⟨_, rfl⟩; rw [← hW2] at k1 k2; have HSW := hid (show Stp b G w G W2 from (Stp.of hb).trans k2); have HK1 := hid k1; have HVL := hid (hvL.stp k2); have HP := hid (show ∀ (G' : List Nat) (w' : World), Stp b G W2 G' w' → w'.cell? ⟨P, 0, none⟩ = some (.int .i64 r.step) from fun G' w' h => (World.cell?_of_block ((k2.trans h).block P hPl hPav)).trans q0); have HW2 := hid hW2; have HTK := hid (show ∀ (G3 : List Nat) (w3 : World), RoomM K Cs B b G3 (R.put i (lnC (R.con i) r co)) w3 → Stp b G W2 G3 w3 → Calls Tryz.prog 79 #[.pointer (some ⟨b, 0, none⟩), .slice bl ls.length ml, .bool s.large] w3 (TkQ K Cs B b G3 w3 R3 codes q) from fun G3 w3 h1 h2 => HT.out G3 w3 _ (HR.out.low (HSW.out.trans h2)) h1 (HVL.out.stp h2)); have HANS := hid (show ∀ (G4 : List Nat) (w4 : World) (v : Value), RoomM K Cs B b G4 R3 w4 → IntsM (AvN B b G4) w4 v codes → Calls Tryz.prog 78 #[.pointer (some ⟨b, o, none⟩), v, .bool q] w4 (RmQ K Cs B b G4 w4 (R3.put i (qB (R3.con i) codes q)) (.tuple #[])) from fun G4 w4 v h1 h2 => jgc K Cs B b G4 R3 w4 h1 i o hi HO.out v codes h2 q HN3.out); have HFIN := hid (show ∀ (G4 : List Nat) (w4 : World), RoomM K Cs B b G4 (R3.put i (qB (R3.con i) codes q)) w4 → Stp b G W2 G4 w4 → w4.cell? ⟨P, 0, none⟩ = some (.int .i64 r.step) ∧ (r.step = 5 → Calls Tryz.prog 45 #[.pointer (some ⟨b, o, none⟩), .int .i64 5] w4 (RmQ K Cs B b G w (R3.put i (jfl (qB (R3.con i) codes q) r.step)) (.tuple #[]))) ∧
        (¬ r.step = 5 → RmQ K Cs B b G w (R3.put i (jfl (qB (R3.con i) codes q) r.step)) (.tuple #[]) (.returned (.tuple #[])) w4) from fun G4 w4 h1 h2 => by
      refine ⟨HP.out G4 w4 h2, fun h5 => ?_, fun h5 => ?_⟩
      · refine (jb7 K Cs B b G4 _ w4 h1 i o hi HO.out 5).mono fun e w5 h => ?_
        rw [jbx, jeS] at h; unfold jfl; rw [if_pos h5]; exact RmQ.trans (HSW.out.trans h2) h
      · unfold jfl; rw [if_neg h5]; exact ⟨rfl, G4, h1, HSW.out.trans h2⟩)
    clear hR1 hz hvA hvL k1 k2 hPav hb hRx hRO hRT c34 HLN HC HT hW2 c0 c1 c2 c3 c4 c5
    by_cases hco : co = 0
    · have HK3 := hid (show RoomM K Cs B b G (R.put i (lnC (R.con i) r co)) W2 from by unfold lnC jj0; rw [if_pos hco]; exact HK1.out); have hcb : (co == 0) = true := by simp [hco]
      clear hco; go_wp2_with fail; rw [← HW2.out]; refine (HTK.out G W2 HK3.out (Stp.refl _ _ _)).mono ?_; rintro e w4 ⟨v4, G4, rfl, hR4, hs4, hi4⟩; have HS4 := hid (Stp.trans (show Stp b G W2 G W2 from (Stp.refl _ _ _)) hs4); have HA4 := hid (HANS.out G4 w4 v4 hR4 hi4); obtain ⟨a4, c4, rfl⟩ := zc hi4; clear hR4 hs4 hi4 HTK HANS; go_wp2_with fail; refine HA4.out.mono ?_; rintro e w5 ⟨rfl, G5, hR5, hs5⟩; obtain ⟨hp, hy, hno⟩ := HFIN.out G5 w5 hR5 (HS4.out.trans hs5); have HY := hid hy; have HNO := hid hno; clear hR5 hs5 hy hno
      by_cases h5 : r.step = 5
      · have h5b : (r.step == 5) = true := by simp [h5]
        have HY5 := hid (HY.out h5); clear h5; go_wp2_with fail; refine HY5.out.mono ?_; rintro e w6 ⟨rfl, hq⟩; have HQ := hid hq; clear hq; go_wp2; go_end0; exact ⟨rfl, HQ.out⟩
      · have h5b : (r.step == 5) = false := by simp [h5]
        have HF := hid (HNO.out h5); clear h5; go_wp2; go_end0; exact HF.out
    · have hcb : (co == 0) = false := by simp [hco]
      have HLC := hid (show lnC (R.con i) r co = jd3 (sesC (R.con i) r) [co] by unfold lnC jj0; rw [if_neg hco]); have HTE := hid (fun (c : Nat) (hc : ∀ j u, ([co].map fun k => Value.int .i64 k)[j]? = some u → (W2.alloc (.cells #[.int .i64 co] 3)).cell? ((⟨W2.heap.size, 0, none⟩ : Addr).add j) = some u) => jem K Cs B b G (R.put i (sesC (R.con i) r)) (W2.alloc (.cells #[.int .i64 co] 3)) (HK1.out.next ((Below.refl _ _).alloc (Nat.le_refl _) _)) i o hi HO.out ⟨W2.heap.size, 0, none⟩ c [co] (by simp) (by rw [jbx]; exact HN.out) hc); have hz2 : W2.heap.size = W1.heap.size := by rw [HW2.out]; simp [World.setCell]
      have HZ2 := hid hz2; clear hz2; clear hco; go_wp2_with fail; rw [← HW2.out]
      try rw [← HZ2.out]
      refine (HTE.out 1 (zE W2 [.int .i64 co] _)).mono ?_; rintro e w3 ⟨rfl, G3, hR3, hs3⟩; rw [jbx, jeS, ← HLC.out] at hR3; have HK3 := hid hR3; have HS3 := hid (show Stp b G W2 G3 w3 from (Stp.of ((Below.refl _ _).alloc (Nat.le_refl _) (.cells #[.int .i64 co] 3))).trans hs3); clear hR3 hs3; go_wp2_with fail; refine (HTK.out G3 w3 HK3.out HS3.out).mono ?_; rintro e w4 ⟨v4, G4, rfl, hR4, hs4, hi4⟩; have HS4 := hid (Stp.trans (show Stp b G W2 G3 w3 from HS3.out) hs4); have HA4 := hid (HANS.out G4 w4 v4 hR4 hi4); obtain ⟨a4, c4, rfl⟩ := zc hi4; clear hR4 hs4 hi4 HTK HANS; go_wp2_with fail; refine HA4.out.mono ?_; rintro e w5 ⟨rfl, G5, hR5, hs5⟩; obtain ⟨hp, hy, hno⟩ := HFIN.out G5 w5 hR5 (HS4.out.trans hs5); have HY := hid hy; have HNO := hid hno; clear hR5 hs5 hy hno
      by_cases h5 : r.step = 5
      · have h5b : (r.step == 5) = true := by simp [h5]
        have HY5 := hid (HY.out h5); clear h5; go_wp2_with fail; refine HY5.out.mono ?_; rintro e w6 ⟨rfl, hq⟩; have HQ := hid hq; clear hq; go_wp2; go_end0; exact ⟨rfl, HQ.out⟩
      · have h5b : (r.step == 5) = false := by simp [h5]
        have HF := hid (HNO.out h5); clear h5; go_wp2; go_end0; exact HF.out
end Go.Proofs.YtlfgemnmfhknfaaGreatDoor
