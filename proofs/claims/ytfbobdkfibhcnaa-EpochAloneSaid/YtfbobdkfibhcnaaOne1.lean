/- Several Advances between one another: how they lie, and what a step of one leaves. Conditions: those that each theorem names. -/
import Derived.Test.YtfbobdkfibhcnaaKEpB
import Derived.Test.YtfbobdkfibhcnaaPk
namespace Go.Proofs.Ytfbobdkfibhcnaa
open Go.ChangeShapes Go.WideShapes Go.ChangeAt Go.RowKit
set_option linter.unusedVariables false
/-- Who has which machine: its block, and its state. -/
abbrev Hs := List (Option (Nat × AMs))
def ptrA (o : Option (Nat × AMs)) : Value := .pointer (o.map fun p => ⟨p.1, 0, none⟩)
structure OneAt (w1 w : World) (gm : Nat) (dv pv : Value) (gl gh T : Nat) (F : Nat → Int) (hs : Hs) (s : MSt) : Prop where
  m : IsMem (fun q => q = gl ∨ q = gh ∨ ∃ (t : Nat) (p : Nat × AMs), hs[t]? = some (some p) ∧ q = p.1) w w1 w gm dv pv s
  l : Blk w gl 138 (cellsF F)
  h : Blk w gh 60 (hs.map ptrA)
  a : ∀ (t : Nat) (p : Nat × AMs), hs[t]? = some (some p) → Blk w p.1 126 (p.2.cells gl t) ∧ p.2.Wf T ∧ p.1 ≠ gl ∧ p.1 ≠ gh ∧ w1.heap.size ≤ p.1
  d : ∀ (t t' : Nat) (p p' : Nat × AMs), hs[t]? = some (some p) → hs[t']? = some (some p') → p.1 = p'.1 → t = t'
  len : hs.length = T
  lh : gl ≠ gh
  gh0 : w1.heap.size ≤ gh
theorem set_get {α : Type} (l : List α) (t t' : Nat) (v : α) (h : t < l.length) : (l.set t v)[t']? = if t' = t then some v else l[t']? := by
  rw [List.getElem?_set]
  by_cases e : t' = t
  · subst e
    rw [if_pos rfl, if_pos rfl, if_pos h]
  · rw [if_neg (fun x => e x.symm), if_neg e]
section
variable {w1 w w' : World} {gm gl gh T : Nat} {dv pv : Value} {F : Nat → Int} {hs : Hs} {s s' : MSt}
theorem OneAt.ext (h : OneAt w1 w gm dv pv gl gh T F hs s) (x : Ext w w') : OneAt w1 w' gm dv pv gl gh T F hs s :=
  ⟨(h.m.ext x).here, h.l.ext x, h.h.ext x, fun t p e => ⟨(h.a t p e).1.ext x, (h.a t p e).2⟩, h.d, h.len, h.lh, h.gh0⟩
/-- A new machine of a thread. -/
theorem OneAt.make (h : OneAt w1 w gm dv pv gl gh T F hs s) (x : Ext w w') {g t : Nat} (ht : t < T) (hg : w.heap.size ≤ g) (hb : Blk w' g 126 (acells gl t false false 0 0 false)) :
    OneAt w1 (w'.setCell ⟨gh, t, none⟩ (.pointer (some ⟨g, 0, none⟩))) gm dv pv gl gh T F (hs.set t (some (g, ⟨false, false, 0, 0, false⟩))) s := by
  have hgl := h.l.lt
  have hgh := h.h.lt
  have hlt : t < hs.length := by rw [h.len]; exact ht
  have hold : ∀ (t' : Nat) (p : Nat × AMs), (hs.set t (some (g, ⟨false, false, 0, 0, false⟩)))[t']? = some (some p) → (t' = t ∧ p = (g, ⟨false, false, 0, 0, false⟩)) ∨ (t' ≠ t ∧ hs[t']? = some (some p)) := fun t' p e => by
    rw [set_get _ _ _ _ hlt] at e
    by_cases e' : t' = t
    · rw [if_pos e'] at e
      exact Or.inl ⟨e', by injection e with e; injection e with e; exact e.symm⟩
    · rw [if_neg e'] at e
      exact Or.inr ⟨e', e⟩
  have low : ∀ (t' : Nat) (p : Nat × AMs), hs[t']? = some (some p) → p.1 < w.heap.size := fun t' p e => (h.a t' p e).1.lt
  have f : Fr (fun b => b = gh) w' (w'.setCell ⟨gh, t, none⟩ (.pointer (some ⟨g, 0, none⟩))) := Fr.setCell (S := fun b => b = gh) (p := ⟨gh, t, none⟩) (Fr.refl _ w') (Or.inl rfl) _
  have m2 := h.m.hold (Q' := fun q => q = gl ∨ q = gh ∨ ∃ (t' : Nat) (p : Nat × AMs), (hs.set t (some (g, ⟨false, false, 0, 0, false⟩)))[t']? = some (some p) ∧ q = p.1) x (fun q hq => by
    rcases hq with e | e | ⟨t', p, e, e2⟩
    · rw [e]; exact ⟨Nat.lt_of_lt_of_le hgl x.size, Or.inl (Or.inl rfl)⟩
    · rw [e]; exact ⟨Nat.lt_of_lt_of_le hgh x.size, Or.inl (Or.inr (Or.inl rfl))⟩
    · rw [e2]
      rcases hold t' p e with ⟨_, e3⟩ | ⟨_, e3⟩
      · rw [e3]; exact ⟨hb.lt, Or.inr hg⟩
      · exact ⟨Nat.lt_of_lt_of_le (low t' p e3) x.size, Or.inl (Or.inr (Or.inr ⟨t', p, e3, rfl⟩))⟩)
  refine ⟨m2.turn f (fun b e => Or.inr (Or.inl e)) (fun b e => by rw [e]; exact h.gh0), (h.l.ext x).far h.lh _, ?_, fun t' p e => ?_, fun t1 t2 p1 p2 e1 e2 e => ?_, by rw [List.length_set]; exact h.len, h.lh, h.gh0⟩
  · have := (h.h.ext x).set t (.pointer (some ⟨g, 0, none⟩))
    rw [List.map_set]
    exact this
  · rcases hold t' p e with ⟨e2, e3⟩ | ⟨_, e3⟩
    · subst e2 e3
      refine ⟨hb.far (by show g ≠ gh; omega) _, ⟨⟨Int.le_refl 0, by show (0 : Int) < _; decide⟩, Nat.zero_le _⟩, by show g ≠ gl; omega, by show g ≠ gh; omega, ?_⟩
      have := h.m.lt.1.size
      show w1.heap.size ≤ g
      omega
    · obtain ⟨b1, b2, b3, b4, b5⟩ := h.a t' p e3
      exact ⟨(b1.ext x).far b4 _, b2, b3, b4, b5⟩
  · rcases hold t1 p1 e1 with ⟨a1, a2⟩ | ⟨a1, a2⟩ <;> rcases hold t2 p2 e2 with ⟨c1, c2⟩ | ⟨c1, c2⟩
    · omega
    · have := low t2 p2 c2
      rw [a2] at e
      have : g = p2.1 := e
      omega
    · have := low t1 p1 a2
      rw [c2] at e
      have : p1.1 = g := e
      omega
    · exact h.d t1 t2 p1 p2 a2 c2 e
/-- A step of a thread's machine. -/
theorem OneAt.step (h : OneAt w1 w gm dv pv gl gh T F hs s) {t g : Nat} {x y : AMs} (e0 : hs[t]? = some (some (g, x))) (hy : y.Wf T)
    (m : IsMem (fun q => q = gl ∨ q = gh ∨ ∃ (t : Nat) (p : Nat × AMs), hs[t]? = some (some p) ∧ q = p.1) w' w1 w' gm dv pv s') (hb : Blk w' g 126 (y.cells gl t)) (k : ∀ b, (b = gl ∨ b = gh ∨ ∃ (t : Nat) (p : Nat × AMs), hs[t]? = some (some p) ∧ b = p.1) → b ≠ g → w'.heap[b]? = w.heap[b]?) :
    OneAt w1 w' gm dv pv gl gh T F (hs.set t (some (g, y))) s' := by
  obtain ⟨a1, a2, a3, a4, a5⟩ := h.a t (g, x) e0
  have hlt : t < hs.length := (List.getElem?_eq_some_iff.1 e0).1
  have hold : ∀ (t' : Nat) (p : Nat × AMs), (hs.set t (some (g, y)))[t']? = some (some p) → (t' = t ∧ p = (g, y)) ∨ (t' ≠ t ∧ hs[t']? = some (some p)) := fun t' p e => by
    rw [set_get _ _ _ _ hlt] at e
    by_cases e' : t' = t
    · rw [if_pos e'] at e
      exact Or.inl ⟨e', by injection e with e; injection e with e; exact e.symm⟩
    · rw [if_neg e'] at e
      exact Or.inr ⟨e', e⟩
  refine ⟨m.less (fun q hq => ?_) (fun _ _ => rfl), (k gl (Or.inl rfl) (fun e => a3 e.symm)).trans h.l, ?_, fun t' p e => ?_, fun t1 t2 p1 p2 e1 e2 e => ?_, by rw [List.length_set]; exact h.len, h.lh, h.gh0⟩
  · rcases hq with e | e | ⟨t', p, e, e2⟩
    · exact Or.inl e
    · exact Or.inr (Or.inl e)
    · rcases hold t' p e with ⟨_, e3⟩ | ⟨_, e3⟩
      · exact Or.inr (Or.inr ⟨t, _, e0, by rw [e2, e3]⟩)
      · exact Or.inr (Or.inr ⟨t', p, e3, e2⟩)
  · have e : (hs.set t (some (g, y))).map ptrA = hs.map ptrA := by
      rw [List.map_set]
      refine List.ext_getElem? (fun i => ?_)
      rw [set_get _ _ _ _ (by rw [List.length_map]; exact hlt)]
      by_cases ei : i = t
      · subst ei
        rw [if_pos rfl, List.getElem?_map, e0]
        rfl
      · rw [if_neg ei]
    rw [e]
    exact (k gh (Or.inr (Or.inl rfl)) (fun e => a4 e.symm)).trans h.h
  · rcases hold t' p e with ⟨e2, e3⟩ | ⟨e2, e3⟩
    · subst e2 e3
      exact ⟨hb, hy, a3, a4, a5⟩
    · obtain ⟨b1, b2, b3, b4, b5⟩ := h.a t' p e3
      exact ⟨(k p.1 (Or.inr (Or.inr ⟨t', p, e3, rfl⟩)) (fun e => e2 (h.d t' t p (g, x) e3 e0 e))).trans b1, b2, b3, b4, b5⟩
  · rcases hold t1 p1 e1 with ⟨c1, c2⟩ | ⟨c1, c2⟩ <;> rcases hold t2 p2 e2 with ⟨c3, c4⟩ | ⟨c3, c4⟩
    · omega
    · rw [c2] at e
      have := h.d t t2 (g, x) p2 e0 c4 e
      omega
    · rw [c4] at e
      have := h.d t1 t p1 (g, x) c2 e0 e
      omega
    · exact h.d t1 t2 p1 p2 c2 c4 e
end
/-- How often was something done at most. -/
def CalmN (n : Int) (s : MSt) : Prop := 0 ≤ s.clock ∧ s.clock ≤ n ∧ 0 ≤ s.bad ∧ s.bad ≤ n
theorem CalmN.calm {n : Int} {s : MSt} (h : CalmN n s) (hn : n ≤ 1000000000) : Calm s := ⟨h.1, by have := h.2.1; omega, h.2.2.1, by have := h.2.2.2; omega⟩
theorem CalmN.mono {n m : Int} {s : MSt} (h : CalmN n s) (hn : n ≤ m) : CalmN m s := ⟨h.1, by have := h.2.1; omega, h.2.2.1, by have := h.2.2.2; omega⟩
theorem CalmN.note {n : Int} {s : MSt} (h : CalmN n s) (x : Acc) (b : Bool) : CalmN (n + 1) (s.note x b) := by
  obtain ⟨h0, h1, h2, h3⟩ := h
  unfold MSt.note CalmN
  cases b <;> simp <;> omega
theorem CalmN.put {n : Int} {s : MSt} (h : CalmN n s) (a x : Int) : CalmN n (s.put a x) := by
  obtain ⟨_, _, _, e1, e2⟩ := put_parts s a x
  unfold CalmN
  rw [e1, e2]
  exact h
theorem CalmN.load {n : Int} {s : MSt} (h : CalmN n s) (t a : Int) : CalmN (n + 1) (s.load t a) := by
  unfold MSt.load
  split <;> exact h.note _ _
theorem CalmN.store {n : Int} {s : MSt} (h : CalmN n s) (t a x : Int) : CalmN (n + 1) (s.store t a x) := by
  unfold MSt.store
  split
  · exact (h.put a x).note _ _
  · exact h.note _ _
theorem CalmN.swap {n : Int} {s : MSt} (h : CalmN n s) (t a o x : Int) : CalmN (n + 1) (s.swap t a o x) := by
  unfold MSt.swap
  split
  · split
    · exact (h.put a x).note _ _
    · exact h.note _ _
  · exact h.note _ _
/-- What a step of an Advance does to the epoch. -/
theorem advS_one {P N T : Nat} {F : Nat → Int} {t E n : Int} {x : AMs} {s : MSt} (ok : MOk P N s) (hP : 0 < P) (hE : peekV s (-1) = E) (hW : W64 E) (hc : CalmN n s) (hx : x.Wf T) (hd : x.dn = false) (hm : x.mv = false) :
    MOk P N (advS F T t x s).2 ∧ peekV (advS F T t x s).2 (-1) = (if ((advS F T t x s).1.dn && (advS F T t x s).1.mv) = true then next64 E else E) ∧ CalmN (n + 1) (advS F T t x s).2 ∧ (advS F T t x s).1.Wf T ∧ ((advS F T t x s).1.dn = false → (advS F T t x s).1.mv = false) := by
  have hp : peekB s (-1) = true := ok.is (by omega) (by omega)
  unfold advS
  rw [if_neg (by rw [hd]; decide)]
  by_cases hl : x.ld = false
  · rw [if_pos hl]
    refine ⟨ok.load _ _, ?_, hc.load _ _, ⟨?_, hx.asked⟩, fun _ => hm⟩
    · rw [peekV_load]
      exact hE
    · show W64 (peekV s (-1))
      rw [hE]
      exact hW
  · rw [if_neg hl]
    by_cases ha : x.asked < T
    · rw [if_pos ha]
      refine ⟨ok.load _ _, ?_, hc.load _ _, ⟨hx.ep, ha⟩, fun _ => hm⟩
      rw [peekV_load, hm, Bool.and_false]
      exact hE
    · rw [if_neg ha]
      refine ⟨ok.swap _ _ _ _, ?_, hc.swap _ _ _ _, ⟨hx.ep, hx.asked⟩, fun e => by simp at e⟩
      rw [peekV_swap ok hp, swapB_is hp, hE]
      by_cases e : E = x.ep
      · rw [if_pos ⟨rfl, e⟩, if_pos (by simp [e]), e]
      · rw [if_neg (fun hh => e hh.2), if_neg (by simp [e])]
end Go.Proofs.Ytfbobdkfibhcnaa
