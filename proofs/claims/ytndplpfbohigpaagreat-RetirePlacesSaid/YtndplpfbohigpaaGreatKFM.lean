/- What is at a word of a memory behind an access. Conditions: those that each theorem names. -/
import Derived.Test.YtndplpfbohigpaaGreatKEpA
import Derived.Test.YtndplpfbohigpaaGreatKEpB
namespace Go.Proofs.YtndplpfbohigpaaGreat
open Go.ChangeShapes Go.WideShapes Go.ChangeAt Go.RowKit
set_option linter.unusedVariables false
theorem load_parts (s : MSt) (t a : Int) : (s.load t a).dev = s.dev ∧ (s.load t a).pas = s.pas ∧ (s.load t a).clock = s.clock + 1 := by
  unfold MSt.load
  split <;> exact ⟨rfl, rfl, rfl⟩
theorem peekV_eq {s s' : MSt} (hd : s'.dev = s.dev) (hp : s'.pas = s.pas) (b : Int) : peekV s' b = peekV s b := by
  unfold peekV
  rw [hd, hp]
theorem peekB_eq {s s' : MSt} (hd : s'.dev = s.dev) (hp : s'.pas = s.pas) (b : Int) : peekB s' b = peekB s b := by
  unfold peekB
  rw [hd, hp]
theorem peekV_load (s : MSt) (t a b : Int) : peekV (s.load t a) b = peekV s b := peekV_eq (load_parts s t a).1 (load_parts s t a).2.1 b
theorem peekB_load (s : MSt) (t a b : Int) : peekB (s.load t a) b = peekB s b := peekB_eq (load_parts s t a).1 (load_parts s t a).2.1 b
theorem peekV_put2 {s : MSt} {a : Int} (b x : Int) (hs : s.dev.seen.length = s.dev.n * 8) (h : peekB s a = true) : peekV (s.put a x) b = if b = a then x else peekV s b := by
  unfold peekB at h
  unfold peekV MSt.put
  by_cases ha : 0 ≤ a
  · rw [if_pos ha] at h
    have h' : a < (s.dev.n : Int) * 8 := by simpa using h
    rw [if_pos ha]
    have hst : s.dev.store a x = { s.dev with seen := s.dev.seen.set a.toNat x } := by
      unfold DSt.store
      rw [if_pos ⟨ha, h'⟩]
    rw [hst]
    by_cases hb : 0 ≤ b
    · rw [if_pos hb, if_pos hb]
      unfold loadV
      simp only
      by_cases e : b = a
      · subst e
        rw [if_pos ⟨hb, h'⟩, if_pos rfl, List.getD_eq_getElem?_getD, List.getElem?_set_self (by omega)]
        rfl
      · rw [if_neg e]
        split
        · rw [List.getD_eq_getElem?_getD, List.getElem?_set_ne (by omega), ← List.getD_eq_getElem?_getD]
        · rfl
    · rw [if_neg hb, if_neg hb, if_neg (by omega)]
  · rw [if_neg ha] at h
    have h' : -1 - a < (s.pas.length : Int) := by simpa using h
    rw [if_neg ha]
    by_cases hb : 0 ≤ b
    · rw [if_pos hb, if_pos hb, if_neg (by omega)]
    · rw [if_neg hb, if_neg hb]
      simp only
      by_cases e : b = a
      · subst e
        rw [if_pos rfl, List.getD_eq_getElem?_getD, List.getElem?_set_self (by omega)]
        rfl
      · rw [if_neg e, List.getD_eq_getElem?_getD, List.getElem?_set_ne (by omega), ← List.getD_eq_getElem?_getD]
theorem put_parts (s : MSt) (a x : Int) : (s.put a x).pas.length = s.pas.length ∧ (s.put a x).dev.n = s.dev.n ∧ (s.put a x).dev.seen.length = s.dev.seen.length ∧ (s.put a x).clock = s.clock ∧ (s.put a x).bad = s.bad := by
  unfold MSt.put DSt.store
  (repeat' split) <;> simp
/-- How many words a memory has. -/
structure MOk (P N : Nat) (s : MSt) : Prop where
  p : s.pas.length = P
  n : s.dev.n = N
  l : s.dev.seen.length = s.dev.n * 8
theorem MOk.same {P N : Nat} {s s' : MSt} (h : MOk P N s) (hd : s'.dev = s.dev) (hp : s'.pas = s.pas) : MOk P N s' := ⟨by rw [hp]; exact h.p, by rw [hd]; exact h.n, by rw [hd]; exact h.l⟩
theorem MOk.put {P N : Nat} {s : MSt} (h : MOk P N s) (a x : Int) : MOk P N (s.put a x) := by
  obtain ⟨e1, e2, e3, _⟩ := put_parts s a x
  exact ⟨e1.trans h.p, e2.trans h.n, by rw [e3, e2]; exact h.l⟩
theorem MOk.note {P N : Nat} {s : MSt} (h : MOk P N s) (x : Acc) (b : Bool) : MOk P N (s.note x b) := ⟨h.p, h.n, h.l⟩
theorem MOk.load {P N : Nat} {s : MSt} (h : MOk P N s) (t a : Int) : MOk P N (s.load t a) := h.same (load_parts s t a).1 (load_parts s t a).2.1
theorem MOk.store {P N : Nat} {s : MSt} (h : MOk P N s) (t a x : Int) : MOk P N (s.store t a x) := by
  unfold MSt.store
  split
  · exact (h.put a x).note _ _
  · exact h.note _ _
theorem MOk.swap {P N : Nat} {s : MSt} (h : MOk P N s) (t a o x : Int) : MOk P N (s.swap t a o x) := by
  unfold MSt.swap
  split
  · split
    · exact (h.put a x).note _ _
    · exact h.note _ _
  · exact h.note _ _
theorem MOk.is {P N : Nat} {s : MSt} (h : MOk P N s) {a : Int} (h0 : -1 - (P : Int) < a) (h1 : a < (N : Int) * 8) : peekB s a = true := by
  unfold peekB
  rw [h.p, h.n]
  split <;> simp <;> omega
theorem peekV_store {P N : Nat} {s : MSt} (h : MOk P N s) {a : Int} (ha : peekB s a = true) (t x b : Int) : peekV (s.store t a x) b = if b = a then x else peekV s b := by
  unfold MSt.store
  rw [if_pos ha]
  exact (peekV_eq rfl rfl b).trans (peekV_put2 b x h.l ha)
theorem store_clock (s : MSt) (t a x : Int) : (s.store t a x).clock = s.clock + 1 := by
  unfold MSt.store
  split
  · show (s.put a x).clock + 1 = _
    rw [(put_parts s a x).2.2.2.1]
  · rfl
theorem swap_clock (s : MSt) (t a o x : Int) : (s.swap t a o x).clock = s.clock + 1 := by
  unfold MSt.swap
  split
  · split
    · show (s.put a x).clock + 1 = _
      rw [(put_parts s a x).2.2.2.1]
    · rfl
  · rfl
theorem peekV_swap {P N : Nat} {s : MSt} (h : MOk P N s) {a : Int} (ha : peekB s a = true) (t o x b : Int) : peekV (s.swap t a o x) b = if b = a ∧ peekV s a = o then x else peekV s b := by
  unfold MSt.swap
  rw [if_pos ha]
  by_cases e : peekV s a = o
  · rw [if_pos e]
    refine (peekV_eq rfl rfl b).trans ((peekV_put2 b x h.l ha).trans ?_)
    by_cases eb : b = a
    · rw [if_pos eb, if_pos ⟨eb, e⟩]
    · rw [if_neg eb, if_neg (fun hh => eb hh.1)]
  · rw [if_neg e, if_neg (fun hh => e hh.2)]
    exact peekV_eq rfl rfl b
theorem swapB_is {s : MSt} {a : Int} (ha : peekB s a = true) (o : Int) : swapB s a o = decide (peekV s a = o) := by
  unfold swapB
  rw [ha, Bool.true_and]
theorem MOk.start (t s l b : Nat) : MOk (2 + t + s) (wN t s l b) (startSt t s l b) := ⟨by simp [startSt, MSt.new], rfl, by simp [startSt, MSt.new, DSt.new]⟩
theorem putAll_append (s : MSt) (ys zs : List Put) : putAll s (ys ++ zs) = putAll (putAll s ys) zs := List.foldl_append ..
theorem MOk.putAll {P N : Nat} : ∀ {s : MSt} (h : MOk P N s) (ys : List Put), MOk P N (putAll s ys)
  | _, h, [] => h
  | _, h, y :: ys => MOk.putAll (h.store 0 y.1 y.2) ys
theorem start_peek (t s l b : Nat) (a : Int) : peekV (startSt t s l b) a = 0 := by
  have e : ∀ (n i : Nat), (List.replicate n (0 : Int)).getD i 0 = 0 := fun n i => by
    rw [List.getD_eq_getElem?_getD, List.getElem?_replicate]
    split <;> rfl
  unfold peekV
  split
  · unfold loadV
    split
    · exact e _ _
    · rfl
  · exact e _ _
theorem putAll_clock : ∀ (s : MSt) (ys : List Put), (putAll s ys).clock = s.clock + ys.length
  | s, [] => by simp [putAll]
  | s, y :: ys => by
    rw [show putAll s (y :: ys) = putAll (s.store 0 y.1 y.2) ys from rfl, putAll_clock, store_clock]
    simp only [List.length_cons]
    omega
/-- The words of a config's passing parts. -/
theorem ann_at {t s l b : Nat} {n : Int} (h0 : 0 ≤ n) (h1 : n < (t : Int)) : ann (layF t s l b) n = -3 - n := by
  have e : ann (layF t s l b) n = wordAt (layF t s l b 4) (-3) (-1) (t : Int) n 0 := rfl
  rw [e]
  unfold wordAt
  rw [if_pos ⟨h0, h1⟩]
  omega
theorem aft_at {t s l b : Nat} {n : Int} (h0 : 0 ≤ n) (h1 : n < (s : Int)) : aft (layF t s l b) n = -3 - (t : Int) - n := by
  have e : aft (layF t s l b) n = wordAt (layF t s l b 4) (-1 - (2 + (t : Int))) (-1) (s : Int) n 0 := rfl
  rw [e]
  unfold wordAt
  rw [if_pos ⟨h0, h1⟩]
  omega
end Go.Proofs.YtndplpfbohigpaaGreat

/- Several Advances between one another: how they lie, and what a step of one leaves. Conditions: those that each theorem names. -/
namespace Go.Proofs.YtndplpfbohigpaaGreat
open Go.ChangeShapes Go.WideShapes Go.ChangeAt Go.RowKit
set_option linter.unusedVariables false
/-- Who has which machine: its block, and its state. -/
abbrev Hs := List (Option (Nat × AMs))
def ptrA (o : Option (Nat × AMs)) : Value := .pointer (o.map fun p => ⟨p.1, 0, none⟩)
structure OneAt (w1 w : World) (gm : Nat) (dv pv : Value) (gl gh T : Nat) (F : Nat → Int) (hs : Hs) (s : MSt) : Prop where
  m : IsMem (fun q => q = gl ∨ q = gh ∨ ∃ (t : Nat) (p : Nat × AMs), hs[t]? = some (some p) ∧ q = p.1) w w1 w gm dv pv s
  l : Blk w gl 256 (cellsF F)
  h : Blk w gh 217 (hs.map ptrA)
  a : ∀ (t : Nat) (p : Nat × AMs), hs[t]? = some (some p) → Blk w p.1 299 (p.2.cells gl t) ∧ p.2.Wf T ∧ p.1 ≠ gl ∧ p.1 ≠ gh ∧ w1.heap.size ≤ p.1
  d : ∀ (t t' : Nat) (p p' : Nat × AMs), hs[t]? = some (some p) → hs[t']? = some (some p') → p.1 = p'.1 → t = t'
  len : hs.length = T
  lh : gl ≠ gh
  gh0 : w1.heap.size ≤ gh
theorem set_get {α : Type} (l : List α) (t t' : Nat) (v : α) (h : t < l.length) : (l.set t v)[t']? = if t' = t then some v else l[t']? := by
  rw [List.getElem?_set]
  by_cases e : t' = t
  · subst e
    rw [if_pos rfl, if_pos rfl, if_pos h]
  · rw [if_neg (fun x => e x.symm), if_neg e]
section
variable {w1 w w' : World} {gm gl gh T : Nat} {dv pv : Value} {F : Nat → Int} {hs : Hs} {s s' : MSt}
theorem OneAt.ext (h : OneAt w1 w gm dv pv gl gh T F hs s) (x : Ext w w') : OneAt w1 w' gm dv pv gl gh T F hs s :=
  ⟨(h.m.ext x).here, h.l.ext x, h.h.ext x, fun t p e => ⟨(h.a t p e).1.ext x, (h.a t p e).2⟩, h.d, h.len, h.lh, h.gh0⟩
/-- A new machine of a thread. -/
theorem OneAt.make (h : OneAt w1 w gm dv pv gl gh T F hs s) (x : Ext w w') {g t : Nat} (ht : t < T) (hg : w.heap.size ≤ g) (hb : Blk w' g 299 (acells gl t false false 0 0 false)) :
    OneAt w1 (w'.setCell ⟨gh, t, none⟩ (.pointer (some ⟨g, 0, none⟩))) gm dv pv gl gh T F (hs.set t (some (g, ⟨false, false, 0, 0, false⟩))) s := by
  have hgl := h.l.lt
  have hgh := h.h.lt
  have hlt : t < hs.length := by rw [h.len]; exact ht
  have hold : ∀ (t' : Nat) (p : Nat × AMs), (hs.set t (some (g, ⟨false, false, 0, 0, false⟩)))[t']? = some (some p) → (t' = t ∧ p = (g, ⟨false, false, 0, 0, false⟩)) ∨ (t' ≠ t ∧ hs[t']? = some (some p)) := fun t' p e => by
    rw [set_get _ _ _ _ hlt] at e
    by_cases e' : t' = t
    · rw [if_pos e'] at e
      exact Or.inl ⟨e', by injection e with e; injection e with e; exact e.symm⟩
    · rw [if_neg e'] at e
      exact Or.inr ⟨e', e⟩
  have low : ∀ (t' : Nat) (p : Nat × AMs), hs[t']? = some (some p) → p.1 < w.heap.size := fun t' p e => (h.a t' p e).1.lt
  have f : Fr (fun b => b = gh) w' (w'.setCell ⟨gh, t, none⟩ (.pointer (some ⟨g, 0, none⟩))) := Fr.setCell (S := fun b => b = gh) (p := ⟨gh, t, none⟩) (Fr.refl _ w') (Or.inl rfl) _
  have m2 := h.m.hold (Q' := fun q => q = gl ∨ q = gh ∨ ∃ (t' : Nat) (p : Nat × AMs), (hs.set t (some (g, ⟨false, false, 0, 0, false⟩)))[t']? = some (some p) ∧ q = p.1) x (fun q hq => by
    rcases hq with e | e | ⟨t', p, e, e2⟩
    · rw [e]; exact ⟨Nat.lt_of_lt_of_le hgl x.size, Or.inl (Or.inl rfl)⟩
    · rw [e]; exact ⟨Nat.lt_of_lt_of_le hgh x.size, Or.inl (Or.inr (Or.inl rfl))⟩
    · rw [e2]
      rcases hold t' p e with ⟨_, e3⟩ | ⟨_, e3⟩
      · rw [e3]; exact ⟨hb.lt, Or.inr hg⟩
      · exact ⟨Nat.lt_of_lt_of_le (low t' p e3) x.size, Or.inl (Or.inr (Or.inr ⟨t', p, e3, rfl⟩))⟩)
  refine ⟨m2.turn f (fun b e => Or.inr (Or.inl e)) (fun b e => by rw [e]; exact h.gh0), (h.l.ext x).far h.lh _, ?_, fun t' p e => ?_, fun t1 t2 p1 p2 e1 e2 e => ?_, by rw [List.length_set]; exact h.len, h.lh, h.gh0⟩
  · have := (h.h.ext x).set t (.pointer (some ⟨g, 0, none⟩))
    rw [List.map_set]
    exact this
  · rcases hold t' p e with ⟨e2, e3⟩ | ⟨_, e3⟩
    · subst e2 e3
      refine ⟨hb.far (by show g ≠ gh; omega) _, ⟨⟨Int.le_refl 0, by show (0 : Int) < _; decide⟩, Nat.zero_le _⟩, by show g ≠ gl; omega, by show g ≠ gh; omega, ?_⟩
      have := h.m.lt.1.size
      show w1.heap.size ≤ g
      omega
    · obtain ⟨b1, b2, b3, b4, b5⟩ := h.a t' p e3
      exact ⟨(b1.ext x).far b4 _, b2, b3, b4, b5⟩
  · rcases hold t1 p1 e1 with ⟨a1, a2⟩ | ⟨a1, a2⟩ <;> rcases hold t2 p2 e2 with ⟨c1, c2⟩ | ⟨c1, c2⟩
    · omega
    · have := low t2 p2 c2
      rw [a2] at e
      have : g = p2.1 := e
      omega
    · have := low t1 p1 a2
      rw [c2] at e
      have : p1.1 = g := e
      omega
    · exact h.d t1 t2 p1 p2 a2 c2 e
/-- A step of a thread's machine. -/
theorem OneAt.step (h : OneAt w1 w gm dv pv gl gh T F hs s) {t g : Nat} {x y : AMs} (e0 : hs[t]? = some (some (g, x))) (hy : y.Wf T)
    (m : IsMem (fun q => q = gl ∨ q = gh ∨ ∃ (t : Nat) (p : Nat × AMs), hs[t]? = some (some p) ∧ q = p.1) w' w1 w' gm dv pv s') (hb : Blk w' g 299 (y.cells gl t)) (k : ∀ b, (b = gl ∨ b = gh ∨ ∃ (t : Nat) (p : Nat × AMs), hs[t]? = some (some p) ∧ b = p.1) → b ≠ g → w'.heap[b]? = w.heap[b]?) :
    OneAt w1 w' gm dv pv gl gh T F (hs.set t (some (g, y))) s' := by
  obtain ⟨a1, a2, a3, a4, a5⟩ := h.a t (g, x) e0
  have hlt : t < hs.length := (List.getElem?_eq_some_iff.1 e0).1
  have hold : ∀ (t' : Nat) (p : Nat × AMs), (hs.set t (some (g, y)))[t']? = some (some p) → (t' = t ∧ p = (g, y)) ∨ (t' ≠ t ∧ hs[t']? = some (some p)) := fun t' p e => by
    rw [set_get _ _ _ _ hlt] at e
    by_cases e' : t' = t
    · rw [if_pos e'] at e
      exact Or.inl ⟨e', by injection e with e; injection e with e; exact e.symm⟩
    · rw [if_neg e'] at e
      exact Or.inr ⟨e', e⟩
  refine ⟨m.less (fun q hq => ?_) (fun _ _ => rfl), (k gl (Or.inl rfl) (fun e => a3 e.symm)).trans h.l, ?_, fun t' p e => ?_, fun t1 t2 p1 p2 e1 e2 e => ?_, by rw [List.length_set]; exact h.len, h.lh, h.gh0⟩
  · rcases hq with e | e | ⟨t', p, e, e2⟩
    · exact Or.inl e
    · exact Or.inr (Or.inl e)
    · rcases hold t' p e with ⟨_, e3⟩ | ⟨_, e3⟩
      · exact Or.inr (Or.inr ⟨t, _, e0, by rw [e2, e3]⟩)
      · exact Or.inr (Or.inr ⟨t', p, e3, e2⟩)
  · have e : (hs.set t (some (g, y))).map ptrA = hs.map ptrA := by
      rw [List.map_set]
      refine List.ext_getElem? (fun i => ?_)
      rw [set_get _ _ _ _ (by rw [List.length_map]; exact hlt)]
      by_cases ei : i = t
      · subst ei
        rw [if_pos rfl, List.getElem?_map, e0]
        rfl
      · rw [if_neg ei]
    rw [e]
    exact (k gh (Or.inr (Or.inl rfl)) (fun e => a4 e.symm)).trans h.h
  · rcases hold t' p e with ⟨e2, e3⟩ | ⟨e2, e3⟩
    · subst e2 e3
      exact ⟨hb, hy, a3, a4, a5⟩
    · obtain ⟨b1, b2, b3, b4, b5⟩ := h.a t' p e3
      exact ⟨(k p.1 (Or.inr (Or.inr ⟨t', p, e3, rfl⟩)) (fun e => e2 (h.d t' t p (g, x) e3 e0 e))).trans b1, b2, b3, b4, b5⟩
  · rcases hold t1 p1 e1 with ⟨c1, c2⟩ | ⟨c1, c2⟩ <;> rcases hold t2 p2 e2 with ⟨c3, c4⟩ | ⟨c3, c4⟩
    · omega
    · rw [c2] at e
      have := h.d t t2 (g, x) p2 e0 c4 e
      omega
    · rw [c4] at e
      have := h.d t1 t p1 (g, x) c2 e0 e
      omega
    · exact h.d t1 t2 p1 p2 c2 c4 e
end
/-- How often was something done at most. -/
def CalmN (n : Int) (s : MSt) : Prop := 0 ≤ s.clock ∧ s.clock ≤ n ∧ 0 ≤ s.bad ∧ s.bad ≤ n
theorem CalmN.calm {n : Int} {s : MSt} (h : CalmN n s) (hn : n ≤ 1000000000) : Calm s := ⟨h.1, by have := h.2.1; omega, h.2.2.1, by have := h.2.2.2; omega⟩
theorem CalmN.mono {n m : Int} {s : MSt} (h : CalmN n s) (hn : n ≤ m) : CalmN m s := ⟨h.1, by have := h.2.1; omega, h.2.2.1, by have := h.2.2.2; omega⟩
theorem CalmN.note {n : Int} {s : MSt} (h : CalmN n s) (x : Acc) (b : Bool) : CalmN (n + 1) (s.note x b) := by
  obtain ⟨h0, h1, h2, h3⟩ := h
  unfold MSt.note CalmN
  cases b <;> simp <;> omega
theorem CalmN.put {n : Int} {s : MSt} (h : CalmN n s) (a x : Int) : CalmN n (s.put a x) := by
  obtain ⟨_, _, _, e1, e2⟩ := put_parts s a x
  unfold CalmN
  rw [e1, e2]
  exact h
theorem CalmN.load {n : Int} {s : MSt} (h : CalmN n s) (t a : Int) : CalmN (n + 1) (s.load t a) := by
  unfold MSt.load
  split <;> exact h.note _ _
theorem CalmN.store {n : Int} {s : MSt} (h : CalmN n s) (t a x : Int) : CalmN (n + 1) (s.store t a x) := by
  unfold MSt.store
  split
  · exact (h.put a x).note _ _
  · exact h.note _ _
theorem CalmN.swap {n : Int} {s : MSt} (h : CalmN n s) (t a o x : Int) : CalmN (n + 1) (s.swap t a o x) := by
  unfold MSt.swap
  split
  · split
    · exact (h.put a x).note _ _
    · exact h.note _ _
  · exact h.note _ _
/-- What a step of an Advance does to the epoch. -/
theorem advS_one {P N T : Nat} {F : Nat → Int} {t E n : Int} {x : AMs} {s : MSt} (ok : MOk P N s) (hP : 0 < P) (hE : peekV s (-1) = E) (hW : W64 E) (hc : CalmN n s) (hx : x.Wf T) (hd : x.dn = false) (hm : x.mv = false) :
    MOk P N (advS F T t x s).2 ∧ peekV (advS F T t x s).2 (-1) = (if ((advS F T t x s).1.dn && (advS F T t x s).1.mv) = true then next64 E else E) ∧ CalmN (n + 1) (advS F T t x s).2 ∧ (advS F T t x s).1.Wf T ∧ ((advS F T t x s).1.dn = false → (advS F T t x s).1.mv = false) := by
  have hp : peekB s (-1) = true := ok.is (by omega) (by omega)
  unfold advS
  rw [if_neg (by rw [hd]; decide)]
  by_cases hl : x.ld = false
  · rw [if_pos hl]
    refine ⟨ok.load _ _, ?_, hc.load _ _, ⟨?_, hx.asked⟩, fun _ => hm⟩
    · rw [peekV_load]
      exact hE
    · show W64 (peekV s (-1))
      rw [hE]
      exact hW
  · rw [if_neg hl]
    by_cases ha : x.asked < T
    · rw [if_pos ha]
      refine ⟨ok.load _ _, ?_, hc.load _ _, ⟨hx.ep, ha⟩, fun _ => hm⟩
      rw [peekV_load, hm, Bool.and_false]
      exact hE
    · rw [if_neg ha]
      refine ⟨ok.swap _ _ _ _, ?_, hc.swap _ _ _ _, ⟨hx.ep, hx.asked⟩, fun e => by simp at e⟩
      rw [peekV_swap ok hp, swapB_is hp, hE]
      by_cases e : E = x.ep
      · rw [if_pos ⟨rfl, e⟩, if_pos (by simp [e]), e]
      · rw [if_neg (fun hh => e hh.2), if_neg (by simp [e])]
end Go.Proofs.YtndplpfbohigpaaGreat

/- An Advance alone: what its steps leave. Conditions: those that each theorem names. -/
namespace Go.Proofs.YtndplpfbohigpaaGreat
open Go.ChangeShapes Go.WideShapes Go.ChangeAt Go.RowKit
set_option linter.unusedVariables false
/-- So many steps of an Advance, alone. -/
def advRun (F : Nat → Int) (T : Nat) (t : Int) (s : MSt) (k : Nat) : AMs × MSt := stepsE (advS F T t) (⟨false, false, 0, 0, false⟩, s) k
theorem advRun_succ (F : Nat → Int) (T : Nat) (t : Int) (s : MSt) (k : Nat) : advRun F T t s (k + 1) = advS F T t (advRun F T t s k).1 (advRun F T t s k).2 := rfl
theorem advS_done {F : Nat → Int} {T : Nat} {t : Int} {x : AMs} {s : MSt} (h : x.dn = true) : advS F T t x s = (x, s) := by
  unfold advS
  rw [if_pos h]
theorem advRun_stay {F : Nat → Int} {T : Nat} {t : Int} {s : MSt} {k : Nat} (h : (advRun F T t s k).1.dn = true) : ∀ j, advRun F T t s (k + j) = advRun F T t s k
  | 0 => rfl
  | j + 1 => by
    rw [show k + (j + 1) = (k + j) + 1 by omega, advRun_succ, advRun_stay h j, advS_done h]
/-- Whatever a step leaves, it is well. -/
theorem advS_wf {F : Nat → Int} {T : Nat} {t n : Int} {x : AMs} {s : MSt} (hU : W64 (peekV s (-1))) (hx : x.Wf T) (hc : CalmN n s) : (advS F T t x s).1.Wf T ∧ CalmN (n + 1) (advS F T t x s).2 := by
  unfold advS
  by_cases hd : x.dn = true
  · rw [if_pos hd]
    exact ⟨hx, hc.mono (by omega)⟩
  rw [if_neg hd]
  by_cases hl : x.ld = false
  · rw [if_pos hl]
    exact ⟨⟨hU, hx.asked⟩, hc.load _ _⟩
  rw [if_neg hl]
  by_cases ha : x.asked < T
  · rw [if_pos ha]
    exact ⟨⟨hx.ep, ha⟩, hc.load _ _⟩
  rw [if_neg ha]
  exact ⟨⟨hx.ep, hx.asked⟩, hc.swap _ _ _ _⟩
section
variable {F : Nat → Int} {T : Nat} {t E : Int} {s : MSt}
/-- Ahead of the first one that holds it up. -/
theorem advRun_ask (hE : peekV s (-1) = E) : ∀ j : Nat, j ≤ T → (∀ i : Nat, i < j → holds E (peekV s (ann F i)) = false) →
    (advRun F T t s (j + 1)).1 = ⟨false, true, E, j, false⟩ ∧ (advRun F T t s (j + 1)).2.dev = s.dev ∧ (advRun F T t s (j + 1)).2.pas = s.pas ∧ (advRun F T t s (j + 1)).2.clock = s.clock + (j : Int) + 1
  | 0, _, _ => by
    have e : advRun F T t s 1 = (⟨false, true, peekV s (-1), 0, false⟩, s.load t (-1)) := rfl
    rw [e, hE]
    obtain ⟨e1, e2, e3⟩ := load_parts s t (-1)
    exact ⟨rfl, e1, e2, by rw [e3]; omega⟩
  | j + 1, hj, hn => by
    obtain ⟨h1, h2, h3, h4⟩ := advRun_ask hE j (by omega) (fun i hi => hn i (by omega))
    rw [advRun_succ F T t s (j + 1), h1]
    generalize (advRun F T t s (j + 1)).2 = s1 at *
    have e : advS F T t ⟨false, true, E, j, false⟩ s1 = (⟨holds E (peekV s1 (ann F j)), true, E, j + 1, false⟩, s1.load t (ann F j)) := by
      unfold advS
      rw [if_neg (by simp), if_neg (by simp), if_pos (by show j < T; omega)]
    rw [e, peekV_eq h2 h3, hn j (by omega)]
    obtain ⟨e1, e2, e3⟩ := load_parts s1 t (ann F j)
    exact ⟨rfl, e1.trans h2, e2.trans h3, by rw [e3, h4]; omega⟩
/-- One holds it up. -/
theorem advRun_held (hE : peekV s (-1) = E) (j : Nat) (hj : j < T) (hn : ∀ i : Nat, i < j → holds E (peekV s (ann F i)) = false) (hh : holds E (peekV s (ann F j)) = true) (k : Nat) (hk : j + 2 ≤ k) :
    (advRun F T t s k).1 = ⟨true, true, E, j + 1, false⟩ ∧ peekV (advRun F T t s k).2 (-1) = E ∧ (advRun F T t s k).2.clock = s.clock + (j : Int) + 2 := by
  obtain ⟨h1, h2, h3, h4⟩ := advRun_ask (F := F) (T := T) (t := t) hE j (by omega) hn
  have key : (advRun F T t s (j + 2)).1 = ⟨true, true, E, j + 1, false⟩ ∧ peekV (advRun F T t s (j + 2)).2 (-1) = E ∧ (advRun F T t s (j + 2)).2.clock = s.clock + (j : Int) + 2 := by
    rw [advRun_succ F T t s (j + 1), h1]
    generalize (advRun F T t s (j + 1)).2 = s1 at *
    have e : advS F T t ⟨false, true, E, j, false⟩ s1 = (⟨holds E (peekV s1 (ann F j)), true, E, j + 1, false⟩, s1.load t (ann F j)) := by
      unfold advS
      rw [if_neg (by simp), if_neg (by simp), if_pos (by show j < T; omega)]
    rw [e, peekV_eq h2 h3, hh]
    obtain ⟨e1, e2, e3⟩ := load_parts s1 t (ann F j)
    refine ⟨rfl, ?_, by rw [e3, h4]; omega⟩
    rw [peekV_load, peekV_eq h2 h3]
    exact hE
  have st := advRun_stay (k := j + 2) (F := F) (T := T) (t := t) (s := s) (by rw [key.1]) (k - (j + 2))
  rw [show j + 2 + (k - (j + 2)) = k by omega] at st
  rw [st]
  exact key
/-- Nobody holds it up. -/
theorem advRun_moves {P N : Nat} (ok : MOk P N s) (hP : 0 < P) (hE : peekV s (-1) = E) (hn : ∀ i : Nat, i < T → holds E (peekV s (ann F i)) = false) (k : Nat) (hk : T + 2 ≤ k) :
    (advRun F T t s k).1 = ⟨true, true, E, T, true⟩ ∧ peekV (advRun F T t s k).2 (-1) = next64 E ∧ (advRun F T t s k).2.clock = s.clock + (T : Int) + 2 := by
  obtain ⟨h1, h2, h3, h4⟩ := advRun_ask (F := F) (T := T) (t := t) hE T (Nat.le_refl _) hn
  have key : (advRun F T t s (T + 2)).1 = ⟨true, true, E, T, true⟩ ∧ peekV (advRun F T t s (T + 2)).2 (-1) = next64 E ∧ (advRun F T t s (T + 2)).2.clock = s.clock + (T : Int) + 2 := by
    rw [advRun_succ F T t s (T + 1), h1]
    generalize (advRun F T t s (T + 1)).2 = s1 at *
    have ok1 : MOk P N s1 := ok.same h2 h3
    have hp : peekB s1 (-1) = true := ok1.is (by omega) (by omega)
    have hE1 : peekV s1 (-1) = E := (peekV_eq h2 h3 _).trans hE
    have e : advS F T t ⟨false, true, E, T, false⟩ s1 = (⟨true, true, E, T, swapB s1 (-1) E⟩, s1.swap t (-1) E (next64 E)) := by
      unfold advS
      rw [if_neg (by simp), if_neg (by simp), if_neg (by show ¬ T < T; omega)]
    rw [e, swapB_is hp, hE1]
    refine ⟨by simp, ?_, by rw [swap_clock, h4]; omega⟩
    rw [peekV_swap ok1 hp, hE1, if_pos ⟨rfl, rfl⟩]
  have st := advRun_stay (k := T + 2) (F := F) (T := T) (t := t) (s := s) (by rw [key.1]) (k - (T + 2))
  rw [show T + 2 + (k - (T + 2)) = k by omega] at st
  rw [st]
  exact key
end
/-- Words that are put one behind the other at different places. -/
theorem putAll_peek {P N : Nat} {s : MSt} (h : MOk P N s) (f : Nat → Put) (hin : ∀ j, peekB s (f j).1 = true ∨ True) : ∀ k : Nat, (∀ i, i < k → -1 - (P : Int) < (f i).1 ∧ (f i).1 < (N : Int) * 8) → (∀ i j, i < j → j < k → (f i).1 ≠ (f j).1) →
    (∀ i, i < k → peekV (putAll s ((List.range k).map f)) (f i).1 = (f i).2) ∧ (∀ a, (∀ i, i < k → (f i).1 ≠ a) → peekV (putAll s ((List.range k).map f)) a = peekV s a)
  | 0, _, _ => ⟨fun i hi => absurd hi (by omega), fun a _ => rfl⟩
  | k + 1, hr, hd => by
    obtain ⟨h1, h2⟩ := putAll_peek h f hin k (fun i hi => hr i (by omega)) (fun i j hij hj => hd i j hij (by omega))
    have e : putAll s ((List.range (k + 1)).map f) = (putAll s ((List.range k).map f)).store 0 (f k).1 (f k).2 := by
      rw [List.range_succ, List.map_append, putAll_append]
      rfl
    have ok := h.putAll ((List.range k).map f)
    have hp := ok.is (hr k (by omega)).1 (hr k (by omega)).2
    rw [e]
    refine ⟨fun i hi => ?_, fun a ha => ?_⟩
    · rw [peekV_store ok hp]
      by_cases ei : i = k
      · rw [ei, if_pos rfl]
      · rw [if_neg (hd i k (by omega) (by omega))]
        exact h1 i (by omega)
    · rw [peekV_store ok hp, if_neg (fun e => ha k (by omega) e.symm)]
      exact h2 a (fun i hi => ha i (by omega))
end Go.Proofs.YtndplpfbohigpaaGreat

/- The free list alone: what a Pop and a Push leave. Conditions: those that each theorem names. -/
namespace Go.Proofs.YtndplpfbohigpaaGreat
open Go.ChangeShapes Go.WideShapes Go.ChangeAt Go.RowKit
set_option linter.unusedVariables false
/-- The slots 0 .. n - 1. -/
def upN (n : Nat) : List Int := (List.range n).map fun (i : Nat) => (i : Int)
theorem upN_len (n : Nat) : (upN n).length = n := by simp [upN]
theorem upN_at {n i : Nat} (h : i < n) : (upN n).getD i 0 = (i : Int) := by
  unfold upN
  rw [List.getD_eq_getElem?_getD, List.getElem?_map, List.getElem?_range h]
  rfl
theorem upN_succ (n : Nat) : upN (n + 1) = upN n ++ [(n : Int)] := by simp [upN, List.range_succ]
theorem upN_mem {n : Nat} {x : Int} : x ∈ upN n ↔ 0 ≤ x ∧ x < (n : Int) := by
  unfold upN
  rw [List.mem_map]
  constructor
  · rintro ⟨i, hi, rfl⟩
    have := List.mem_range.1 hi
    omega
  · rintro ⟨h0, h1⟩
    obtain ⟨i, rfl⟩ := Int.eq_ofNat_of_zero_le h0
    exact ⟨i, List.mem_range.2 (by omega), rfl⟩
theorem chain_up {nx : Int → Int} {N n : Nat} (hn : n ≤ N) (h1 : ∀ i : Nat, i + 1 < n → nx i = (i : Int) + 1) (h2 : ∀ i : Nat, i + 1 = n → nx i = -1) : ∀ (j k f : Nat), j + k = n → N + 1 ≤ f + k → chain nx N f (if k < n then (k : Int) else -1) (upN k) = (upN n, true)
  | 0, k, f, h, hf => by
    obtain rfl : k = n := by omega
    rw [if_neg (by omega)]
    obtain ⟨f', rfl⟩ : ∃ f', f = f' + 1 := ⟨f - 1, by omega⟩
    exact chain_end (by omega)
  | j + 1, k, f, h, hf => by
    rw [if_pos (by omega)]
    obtain ⟨f', rfl⟩ : ∃ f', f = f' + 1 := ⟨f - 1, by omega⟩
    rw [chain_on (by omega) (by
      rintro (e | e)
      · omega
      · have := upN_mem.1 e
        omega), ← upN_succ]
    have key := chain_up hn h1 h2 j (k + 1) f' (by omega) (by omega)
    by_cases hk : k + 1 < n
    · rw [if_pos hk] at key
      rw [h1 k hk]
      exact key
    · rw [if_neg hk] at key
      rw [h2 k (by omega)]
      exact key
theorem toN_small {x : Int} (h0 : 0 ≤ x) (h1 : x < 4294967296) : toN x = x - 1 := by unfold toN; omega
theorem toN_top {a v : Int} (h0 : -1 ≤ a) (h1 : a < 4294967295) : toN (topN a v) = a := by unfold toN topN; omega
section
variable {t s l b n : Nat}
/-- What a ground whose free list is 0 .. n - 1 holds. -/
structure FreeAt (t s l b n : Nat) (st : MSt) : Prop where
  ok : MOk (2 + t + s) (wN t s l b) st
  top : toN (peekV st (-2)) = if 0 < n then 0 else -1
  nx : ∀ i : Nat, i + 1 < n → nextS (layF t s l b) st i = (i : Int) + 1
  nl : ∀ i : Nat, i + 1 = n → nextS (layF t s l b) st i = -1
theorem FreeAt.list {st : MSt} (h : FreeAt t s l b n st) (hn : n ≤ s) : freeList (layF t s l b) s st = (upN n, true) := by
  have key := chain_up (N := s) hn h.nx h.nl n 0 (s + 1) (by omega) (by omega)
  unfold freeList
  rw [h.top]
  exact key
theorem ground_free (hn : n ≤ s) (hs1 : s ≤ 1000000) : FreeAt t s l b n (groundSt t s l b (rowPs (layF t s l b) (upN n) n)) := by
  have pl : ∀ i, i < n → (rowP (layF t s l b) (upN n) i).1 = if i = 0 then -2 else -3 - (t : Int) - ((i - 1 : Nat) : Int) := fun i hi => by
    unfold rowP
    by_cases h : i = 0
    · rw [if_pos h, if_pos h]
    · rw [if_neg h, if_neg h]
      show aft (layF t s l b) ((upN n).getD (i - 1) 0) = _
      rw [upN_at (by omega), aft_at (by omega) (by omega)]
  have key := putAll_peek (MOk.start t s l b) (rowP (layF t s l b) (upN n)) (fun _ => Or.inr trivial) n (fun i hi => by
    rw [pl i hi]
    split <;> omega) (fun i j hij hj => by
    rw [pl i (by omega), pl j hj, if_neg (show ¬ j = 0 by omega)]
    split <;> omega)
  have val : ∀ i, i < n → (rowP (layF t s l b) (upN n) i).2 = (i : Int) + 1 := fun i hi => by
    show (upN n).getD i 0 + 1 = _
    rw [upN_at hi]
  have e0 : groundSt t s l b (rowPs (layF t s l b) (upN n) n) = putAll (startSt t s l b) ((List.range n).map (rowP (layF t s l b) (upN n))) := rfl
  rw [e0]
  refine ⟨(MOk.start t s l b).putAll _, ?_, fun i hi => ?_, fun i hi => ?_⟩
  · by_cases h : 0 < n
    · have h1 := key.1 0 h
      rw [pl 0 h, val 0 h, if_pos rfl] at h1
      rw [h1, if_pos h]
      rfl
    · have h1 := key.2 (-2) (fun i hi => absurd hi (by omega))
      rw [h1, start_peek, if_neg h]
      rfl
  · unfold nextS
    rw [aft_at (by omega) (by omega)]
    have h1 := key.1 (i + 1) hi
    rw [pl (i + 1) hi, val (i + 1) hi, if_neg (by omega), show i + 1 - 1 = i by omega] at h1
    have e2 := toN_small (x := ((i + 1 : Nat) : Int) + 1) (by omega) (by omega)
    rw [h1, e2]
    omega
  · unfold nextS
    rw [aft_at (by omega) (by omega)]
    have h1 := key.2 (-3 - (t : Int) - (i : Int)) (fun j hj => by
      rw [pl j hj]
      split <;> omega)
    rw [h1, start_peek]
    rfl
theorem swapB_self {P N : Nat} {st : MSt} (ok : MOk P N st) (hP : 2 ≤ P) : swapB st (-2) (peekV st (-2)) = true := by
  rw [swapB_is (ok.is (by omega) (by omega))]
  simp
/-- A Pop alone where no slot is free. -/
theorem pop_none {F : Nat → Int} {th : Int} {st : MSt} (h : toN (peekV st (-2)) = -1) : ∀ k : Nat, steps (popS F th) (⟨0, 0, 0, false⟩, st) (k + 1) = (⟨1, peekV st (-2), 0, true⟩, st.load th (-2))
  | 0 => by
    show popS F th ⟨0, 0, 0, false⟩ st = _
    unfold popS
    rw [if_neg (by simp), if_pos rfl, h]
    rfl
  | k + 1 => by
    show popS F th (steps (popS F th) (⟨0, 0, 0, false⟩, st) (k + 1)).1 (steps (popS F th) (⟨0, 0, 0, false⟩, st) (k + 1)).2 = _
    rw [pop_none h k]
    unfold popS
    rw [if_pos rfl]
/-- A Pop alone. -/
theorem pop_one (hn : 0 < n) (hs : n ≤ s) {th : Int} {st : MSt} (h : FreeAt t s l b n st) :
    ∃ s3 : MSt, (∀ k : Nat, steps (popS (layF t s l b) th) (⟨0, 0, 0, false⟩, st) (k + 3) = (⟨0, peekV st (-2), nextS (layF t s l b) st 0, true⟩, s3)) ∧
      MOk (2 + t + s) (wN t s l b) s3 ∧ peekV s3 (-2) = topN (nextS (layF t s l b) st 0) (ver1 (peekV st (-2))) ∧ (∀ a, a ≠ -2 → peekV s3 a = peekV st a) ∧ s3.clock = st.clock + 3 := by
  have ht : toN (peekV st (-2)) = 0 := by rw [h.top, if_pos hn]
  obtain ⟨v, hv⟩ : ∃ v, peekV st (-2) = v := ⟨_, rfl⟩
  rw [hv] at ht
  have e1 : steps (popS (layF t s l b) th) (⟨0, 0, 0, false⟩, st) 1 = (⟨1, v, 0, false⟩, st.load th (-2)) := by
    show popS (layF t s l b) th ⟨0, 0, 0, false⟩ st = _
    unfold popS
    rw [if_neg (by simp), if_pos rfl, hv, ht]
    rfl
  obtain ⟨d1, d2, d3⟩ := load_parts st th (-2)
  have e2 : steps (popS (layF t s l b) th) (⟨0, 0, 0, false⟩, st) 2 = (⟨2, v, nextS (layF t s l b) st 0, false⟩, (st.load th (-2)).load th (aft (layF t s l b) 0)) := by
    show popS (layF t s l b) th (steps (popS (layF t s l b) th) (⟨0, 0, 0, false⟩, st) 1).1 (steps (popS (layF t s l b) th) (⟨0, 0, 0, false⟩, st) 1).2 = _
    rw [e1]
    unfold popS
    rw [if_neg (by simp), if_neg (by simp), if_pos rfl]
    show (PMs.mk 2 v (toN (peekV (st.load th (-2)) (aft (layF t s l b) (toN v)))) false, (st.load th (-2)).load th (aft (layF t s l b) (toN v))) = _
    rw [ht, peekV_load]
    rfl
  obtain ⟨f1, f2, f3⟩ := load_parts (st.load th (-2)) th (aft (layF t s l b) 0)
  obtain ⟨s2, hs2⟩ : ∃ s2, (st.load th (-2)).load th (aft (layF t s l b) 0) = s2 := ⟨_, rfl⟩
  rw [hs2] at e2 f1 f2 f3
  have ok2 : MOk (2 + t + s) (wN t s l b) s2 := h.ok.same (f1.trans d1) (f2.trans d2)
  have pv : ∀ a, peekV s2 a = peekV st a := fun a => peekV_eq (f1.trans d1) (f2.trans d2) a
  have hp : peekB s2 (-2) = true := ok2.is (by omega) (by omega)
  refine ⟨s2.swap th (-2) v (topN (nextS (layF t s l b) st 0) (ver1 v)), ?_, ok2.swap _ _ _ _, ?_, fun a ha => ?_, ?_⟩
  · have e3 : steps (popS (layF t s l b) th) (⟨0, 0, 0, false⟩, st) 3 = (⟨0, v, nextS (layF t s l b) st 0, true⟩, s2.swap th (-2) v (topN (nextS (layF t s l b) st 0) (ver1 v))) := by
      show popS (layF t s l b) th (steps (popS (layF t s l b) th) (⟨0, 0, 0, false⟩, st) 2).1 (steps (popS (layF t s l b) th) (⟨0, 0, 0, false⟩, st) 2).2 = _
      rw [e2]
      unfold popS
      rw [if_neg (by simp), if_neg (by simp), if_neg (by simp)]
      have : swapB s2 (-2) v = true := by rw [← hv, ← pv]; exact swapB_self ok2 (by omega)
      show (PMs.mk 0 v (nextS (layF t s l b) st 0) (swapB s2 (-2) v), _) = _
      rw [this]
    intro k
    rw [hv]
    induction k with
    | zero => exact e3
    | succ k ih =>
      show popS (layF t s l b) th (steps (popS (layF t s l b) th) (⟨0, 0, 0, false⟩, st) (k + 3)).1 (steps (popS (layF t s l b) th) (⟨0, 0, 0, false⟩, st) (k + 3)).2 = _
      rw [ih]
      unfold popS
      rw [if_pos rfl]
  · rw [peekV_swap ok2 hp, if_pos ⟨rfl, by rw [pv, hv]⟩, hv]
  · rw [peekV_swap ok2 hp, if_neg (fun e => ha e.1), pv]
  · rw [swap_clock, f3, d3]
    omega
/-- A Push of the slot 0 alone, behind that Pop. -/
theorem push_one (hn : 0 < n) (hs : n ≤ s) {th nx v : Int} {st s3 : MSt} (ok : MOk (2 + t + s) (wN t s l b) s3) (hx : nx = nextS (layF t s l b) st 0) (hr : -1 ≤ nx ∧ nx < 4294967295) (h : FreeAt t s l b n st) (ht : peekV s3 (-2) = topN nx v) (hv : 0 ≤ v ∧ v < 4294967296) (hk : ∀ a, a ≠ -2 → peekV s3 a = peekV st a) :
    ∃ s6 : MSt, ∃ y : Int, (∀ k : Nat, steps (pushS (layF t s l b) th) (⟨0, 0, 0, false⟩, s3) (k + 3) = (⟨0, y, 0, true⟩, s6)) ∧ FreeAt t s l b n s6 ∧ s6.clock = s3.clock + 3 := by
  obtain ⟨u, hu⟩ : ∃ u, peekV s3 (-2) = u := ⟨_, rfl⟩
  have hun : toN u = nx := by rw [← hu, ht]; exact toN_top hr.1 hr.2
  have e1 : steps (pushS (layF t s l b) th) (⟨0, 0, 0, false⟩, s3) 1 = (⟨1, u, 0, false⟩, s3.load th (-2)) := by
    show pushS (layF t s l b) th ⟨0, 0, 0, false⟩ s3 = _
    unfold pushS
    rw [if_neg (by simp), if_pos rfl, hu]
  obtain ⟨d1, d2, d3⟩ := load_parts s3 th (-2)
  have ok1 : MOk (2 + t + s) (wN t s l b) (s3.load th (-2)) := ok.same d1 d2
  have ha : aft (layF t s l b) 0 = -3 - (t : Int) := by rw [aft_at (Int.le_refl 0) (by omega)]; omega
  have hpa : peekB (s3.load th (-2)) (aft (layF t s l b) 0) = true := by rw [ha]; exact ok1.is (by omega) (by omega)
  have e2 : steps (pushS (layF t s l b) th) (⟨0, 0, 0, false⟩, s3) 2 = (⟨2, u, 0, false⟩, (s3.load th (-2)).store th (aft (layF t s l b) 0) (nx + 1)) := by
    show pushS (layF t s l b) th (steps (pushS (layF t s l b) th) (⟨0, 0, 0, false⟩, s3) 1).1 (steps (pushS (layF t s l b) th) (⟨0, 0, 0, false⟩, s3) 1).2 = _
    rw [e1]
    unfold pushS
    rw [if_neg (by simp), if_neg (by simp), if_pos rfl]
    show (PMs.mk 2 u 0 false, (s3.load th (-2)).store th (aft (layF t s l b) 0) (toN u + 1)) = _
    rw [hun]
  obtain ⟨s5, hs5⟩ : ∃ s5, (s3.load th (-2)).store th (aft (layF t s l b) 0) (nx + 1) = s5 := ⟨_, rfl⟩
  have ok5 : MOk (2 + t + s) (wN t s l b) s5 := by rw [← hs5]; exact ok1.store _ _ _
  have p5 : ∀ a, peekV s5 a = if a = aft (layF t s l b) 0 then nx + 1 else peekV s3 a := fun a => by
    rw [← hs5, peekV_store ok1 hpa, peekV_load]
  have c5 : s5.clock = s3.clock + 2 := by rw [← hs5, store_clock, d3]; omega
  rw [hs5] at e2
  have hp : peekB s5 (-2) = true := ok5.is (by omega) (by omega)
  have p52 : peekV s5 (-2) = u := by rw [p5, if_neg (by rw [ha]; omega), hu]
  have h6 : ∀ a, peekV (s5.swap th (-2) u (topN 0 (ver1 u))) a = if a = -2 then topN 0 (ver1 u) else if a = aft (layF t s l b) 0 then nx + 1 else peekV st a := fun a => by
    rw [peekV_swap ok5 hp]
    by_cases e : a = -2
    · rw [if_pos ⟨e, p52⟩, if_pos e]
    · rw [if_neg (fun hh => e hh.1), if_neg e, p5]
      by_cases e' : a = aft (layF t s l b) 0
      · rw [if_pos e', if_pos e']
      · rw [if_neg e', if_neg e', hk a e]
  refine ⟨s5.swap th (-2) u (topN 0 (ver1 u)), u, ?_, ⟨ok5.swap _ _ _ _, ?_, fun i hi => ?_, fun i hi => ?_⟩, by rw [swap_clock, c5]; omega⟩
  · have e3 : steps (pushS (layF t s l b) th) (⟨0, 0, 0, false⟩, s3) 3 = (⟨0, u, 0, true⟩, s5.swap th (-2) u (topN 0 (ver1 u))) := by
      show pushS (layF t s l b) th (steps (pushS (layF t s l b) th) (⟨0, 0, 0, false⟩, s3) 2).1 (steps (pushS (layF t s l b) th) (⟨0, 0, 0, false⟩, s3) 2).2 = _
      rw [e2]
      unfold pushS
      rw [if_neg (by simp), if_neg (by simp), if_neg (by simp)]
      have : swapB s5 (-2) u = true := by rw [← p52]; exact swapB_self ok5 (by omega)
      show (PMs.mk 0 u 0 (swapB s5 (-2) u), _) = _
      rw [this]
    intro k
    induction k with
    | zero => exact e3
    | succ k ih =>
      show pushS (layF t s l b) th (steps (pushS (layF t s l b) th) (⟨0, 0, 0, false⟩, s3) (k + 3)).1 (steps (pushS (layF t s l b) th) (⟨0, 0, 0, false⟩, s3) (k + 3)).2 = _
      rw [ih]
      unfold pushS
      rw [if_pos rfl]
  · rw [h6, if_pos rfl, toN_top (by omega) (by omega), if_pos hn]
  · have hi0 := h.nx i hi
    unfold nextS at hi0 ⊢
    have hai : aft (layF t s l b) i = -3 - (t : Int) - (i : Int) := aft_at (by omega) (by omega)
    rw [h6, if_neg (by rw [hai]; omega)]
    by_cases e : i = 0
    · subst e
      have e2 := toN_small (x := nx + 1) (by omega) (by omega)
      rw [if_pos (show aft (layF t s l b) ((0 : Nat) : Int) = aft (layF t s l b) 0 from rfl), e2]
      have : nx = ((0 : Nat) : Int) + 1 := by rw [hx]; exact h.nx 0 hi
      omega
    · rw [if_neg (by rw [hai, ha]; omega)]
      exact hi0
  · have hi0 := h.nl i hi
    unfold nextS at hi0 ⊢
    have hai : aft (layF t s l b) i = -3 - (t : Int) - (i : Int) := aft_at (by omega) (by omega)
    rw [h6, if_neg (by rw [hai]; omega)]
    by_cases e : i = 0
    · subst e
      have e2 := toN_small (x := nx + 1) (by omega) (by omega)
      rw [if_pos (show aft (layF t s l b) ((0 : Nat) : Int) = aft (layF t s l b) 0 from rfl), e2]
      have : nx = -1 := by rw [hx]; exact h.nl 0 hi
      omega
    · rw [if_neg (by rw [hai, ha]; omega)]
      exact hi0
end
end Go.Proofs.YtndplpfbohigpaaGreat

/- A Pop and a Push alone, step by step: what they leave is well. Conditions: those that each theorem names. -/
namespace Go.Proofs.YtndplpfbohigpaaGreat
open Go.ChangeShapes Go.WideShapes Go.ChangeAt Go.RowKit
set_option linter.unusedVariables false
open Go.Sort in
theorem grown_extF (w : World) (d : Nat) (os : Array Obj) : Ext w (grow (redrawn w d) os) := Ext.of (below_regrown w d os)
theorem PMs.wf0 : (⟨0, 0, 0, false⟩ : PMs).Wf := ⟨Or.inl rfl, ⟨Int.le_refl 0, by show (0 : Int) < _; decide⟩, ⟨by show _ ≤ (0 : Int); decide, by show (0 : Int) < _; decide⟩⟩
theorem popS_wf {F : Nat → Int} {t n : Int} {x : PMs} {s : MSt} (hU : ∀ a, W64 (peekV s a)) (hx : x.Wf) (hc : CalmN n s) : (popS F t x s).1.Wf ∧ CalmN (n + 1) (popS F t x s).2 := by
  unfold popS
  by_cases hd : x.dn = true
  · rw [if_pos hd]
    exact ⟨hx, hc.mono (by omega)⟩
  rw [if_neg hd]
  by_cases h0 : x.part = 0
  · rw [if_pos h0]
    exact ⟨⟨Or.inr (Or.inl rfl), hU (-2), hx.y⟩, hc.load _ _⟩
  rw [if_neg h0]
  by_cases h1 : x.part = 1
  · rw [if_pos h1]
    have := toN_rng (hU (aft F (toN x.top)))
    exact ⟨⟨Or.inr (Or.inr rfl), hx.top, ⟨by show _ ≤ toN (peekV s (aft F (toN x.top))); omega, by show toN (peekV s (aft F (toN x.top))) < _; omega⟩⟩, hc.load _ _⟩
  rw [if_neg h1]
  exact ⟨⟨Or.inl rfl, hx.top, hx.y⟩, hc.swap _ _ _ _⟩
theorem pushS_wf {F : Nat → Int} {t n : Int} {x : PMs} {s : MSt} (hU : ∀ a, W64 (peekV s a)) (hx : x.Wf) (hc : CalmN n s) : (pushS F t x s).1.Wf ∧ CalmN (n + 1) (pushS F t x s).2 := by
  unfold pushS
  by_cases hd : x.dn = true
  · rw [if_pos hd]
    exact ⟨hx, hc.mono (by omega)⟩
  rw [if_neg hd]
  by_cases h0 : x.part = 0
  · rw [if_pos h0]
    exact ⟨⟨Or.inr (Or.inl rfl), hU (-2), hx.y⟩, hc.load _ _⟩
  rw [if_neg h0]
  by_cases h1 : x.part = 1
  · rw [if_pos h1]
    exact ⟨⟨Or.inr (Or.inr rfl), hx.top, hx.y⟩, hc.store _ _ _⟩
  rw [if_neg h1]
  exact ⟨⟨Or.inl rfl, hx.top, hx.y⟩, hc.swap _ _ _ _⟩
def popRun (F : Nat → Int) (t : Int) (s : MSt) (k : Nat) : PMs × MSt := steps (popS F t) (⟨0, 0, 0, false⟩, s) k
theorem popRun_succ (F : Nat → Int) (t : Int) (s : MSt) (k : Nat) : popRun F t s (k + 1) = popS F t (popRun F t s k).1 (popRun F t s k).2 := rfl
def pushRun (F : Nat → Int) (t : Int) (s : MSt) (k : Nat) : PMs × MSt := steps (pushS F t) (⟨0, 0, 0, false⟩, s) k
theorem pushRun_succ (F : Nat → Int) (t : Int) (s : MSt) (k : Nat) : pushRun F t s (k + 1) = pushS F t (pushRun F t s k).1 (pushRun F t s k).2 := rfl
end Go.Proofs.YtndplpfbohigpaaGreat

/- Several threads that take slots and give them back between one another: what holds, and what a step keeps. Conditions: those that each theorem names. -/
namespace Go.Proofs.YtndplpfbohigpaaGreat
open Go.ChangeShapes Go.WideShapes Go.ChangeAt Go.RowKit
set_option linter.unusedVariables false
/-- Slots that hang together. -/
def IsCh (nx : Int → Int) : Int → List Int → Prop
  | cur, [] => cur = -1
  | cur, a :: L => cur = a ∧ IsCh nx (nx a) L
theorem IsCh.run {nx : Int → Int} {N : Nat} : ∀ (L : List Int) (cur : Int) (f : Nat) (out : List Int), IsCh nx cur L → (∀ x ∈ L, 0 ≤ x ∧ x < (N : Int)) → L.Nodup → (∀ x ∈ L, x ∉ out) → L.length < f → chain nx N f cur out = (out ++ L, true)
  | [], cur, f, out, h, _, _, _, hf => by
    have e : cur = -1 := h
    obtain ⟨f', rfl⟩ : ∃ f', f = f' + 1 := ⟨f - 1, by simp at hf; omega⟩
    rw [List.append_nil]
    exact chain_end (by omega)
  | a :: L, cur, f, out, h, hr, hd, ho, hf => by
    obtain ⟨e, h2⟩ := h
    subst e
    simp only [List.length_cons] at hf
    obtain ⟨f', rfl⟩ : ∃ f', f = f' + 1 := ⟨f - 1, by omega⟩
    have ha := hr cur (by simp)
    rw [chain_on (by omega) (by
      rintro (e | e)
      · omega
      · exact ho cur (by simp) e)]
    have hd2 := List.nodup_cons.1 hd
    have key := IsCh.run L (nx cur) f' (out ++ [cur]) h2 (fun x hx => hr x (by simp [hx])) hd2.2 (fun x hx => by
      simp only [List.mem_append, List.mem_singleton, not_or]
      exact ⟨ho x (by simp [hx]), fun e => hd2.1 (e ▸ hx)⟩) (by omega)
    rw [key, List.append_assoc]
    rfl
theorem IsCh.turn {nx nx' : Int → Int} : ∀ (L : List Int) (cur : Int), IsCh nx cur L → (∀ x ∈ L, nx' x = nx x) → IsCh nx' cur L
  | [], cur, h, _ => h
  | a :: L, cur, h, hx => by
    refine ⟨h.1, ?_⟩
    rw [hx a (by simp)]
    exact IsCh.turn L _ h.2 (fun x m => hx x (by simp [m]))
/-- A thread: does it take, which machine it has, and how that stands; it gives back the machine's slot. -/
structure Hd where
  pop : Bool
  g : Nat
  x : PMs
def had1 (k : Int) (h : Hd) : Nat := if h.pop = true then 0 else if h.x.y = k then 1 else 0
def hadC (k : Int) : List Hd → Nat
  | [] => 0
  | h :: hs => had1 k h + hadC k hs
theorem hadC_set (k : Int) : ∀ (hs : List Hd) (i : Nat) (h h' : Hd), hs[i]? = some h → hadC k (hs.set i h') + had1 k h = hadC k hs + had1 k h'
  | [], i, h, h', e => by simp at e
  | a :: hs, 0, h, h', e => by
    simp at e
    subst e
    simp only [List.set_cons_zero, hadC]
    omega
  | a :: hs, i + 1, h, h', e => by
    simp at e
    have := hadC_set k hs i h h' e
    simp only [List.set_cons_succ, hadC]
    omega
theorem hadC_one {k : Int} : ∀ {hs : List Hd} {i : Nat} {h : Hd}, hs[i]? = some h → had1 k h ≤ hadC k hs
  | [], i, h, e => by simp at e
  | a :: hs, 0, h, e => by
    simp at e
    subst e
    simp only [hadC]
    omega
  | a :: hs, i + 1, h, e => by
    simp at e
    have := hadC_one (k := k) e
    simp only [hadC]
    omega
theorem hadC_two {k : Int} : ∀ {hs : List Hd} {i j : Nat} {h h' : Hd}, hs[i]? = some h → hs[j]? = some h' → i ≠ j → had1 k h + had1 k h' ≤ hadC k hs
  | [], i, j, h, h', e, _, _ => by simp at e
  | a :: hs, 0, 0, h, h', e, e', n => absurd rfl n
  | a :: hs, 0, j + 1, h, h', e, e', n => by
    simp at e e'
    subst e
    have := hadC_one (k := k) e'
    simp only [hadC]
    omega
  | a :: hs, i + 1, 0, h, h', e, e', n => by
    simp at e e'
    subst e'
    have := hadC_one (k := k) e
    simp only [hadC]
    omega
  | a :: hs, i + 1, j + 1, h, h', e, e', n => by
    simp at e e'
    have := hadC_two (k := k) e e' (by omega)
    simp only [hadC]
    omega
theorem nodup_of_count : ∀ L : List Int, (∀ x ∈ L, L.count x ≤ 1) → L.Nodup
  | [], _ => List.nodup_nil
  | a :: L, h => by
    refine List.nodup_cons.2 ⟨fun m => ?_, nodup_of_count L (fun x m => ?_)⟩
    · have h1 := h a (by simp)
      rw [List.count_cons_self] at h1
      have := List.count_pos_iff.2 m
      omega
    · have h1 := h x (by simp [m])
      rw [List.count_cons] at h1
      omega
/-- How one thread's machine stands. -/
structure HI (F : Nat → Int) (s : Nat) (st : MSt) (h : Hd) : Prop where
  dn : h.x.dn = false
  wf : h.x.Wf
  yr : h.pop = false → 0 ≤ h.x.y ∧ h.x.y < (s : Int)
  top : h.x.part ≠ 0 → verN h.x.top ≤ verN (peekV st (-2)) ∧ (verN h.x.top = verN (peekV st (-2)) → h.x.top = peekV st (-2))
  p1 : h.pop = true → h.x.part ≠ 0 → 0 ≤ toN h.x.top
  p2 : h.pop = true → h.x.part = 2 → h.x.top = peekV st (-2) → h.x.y = nextS F st (toN (peekV st (-2)))
  q2 : h.pop = false → h.x.part = 2 → nextS F st h.x.y = toN h.x.top
theorem HI.new (F : Nat → Int) (s : Nat) (st : MSt) (g : Nat) : HI F s st ⟨true, g, ⟨0, 0, 0, false⟩⟩ :=
  ⟨rfl, PMs.wf0, fun e => by simp at e, fun e => absurd rfl e, fun _ e => absurd rfl e, fun _ e => by simp at e, fun e => by simp at e⟩
theorem HI.newPush (F : Nat → Int) (s : Nat) (st : MSt) (g : Nat) {a : Int} (h0 : 0 ≤ a) (h1 : a < (s : Int)) (hs : (s : Int) ≤ 1000000) : HI F s st ⟨false, g, ⟨0, 0, a, false⟩⟩ :=
  ⟨rfl, ⟨Or.inl rfl, ⟨Int.le_refl 0, by show (0 : Int) < _; decide⟩, ⟨by show _ ≤ a; omega, by show a < _; omega⟩⟩, fun _ => ⟨h0, h1⟩, fun e => absurd rfl e, fun e => by simp at e, fun e => by simp at e, fun _ e => by simp at e⟩
theorem HI.same {F : Nat → Int} {s : Nat} {st st' : MSt} {h : Hd} (k : HI F s st h) (ht : peekV st' (-2) = peekV st (-2)) (hn : ∀ a, (h.pop = true ∧ a = toN (peekV st (-2)) ∧ 0 ≤ a) ∨ (h.pop = false ∧ a = h.x.y) → nextS F st' a = nextS F st a) : HI F s st' h :=
  ⟨k.dn, k.wf, k.yr, fun e => by rw [ht]; exact k.top e, k.p1, fun e e2 e3 => by
    rw [ht] at e3 ⊢
    have h0 := k.p1 e (by rw [e2]; decide)
    rw [e3] at h0
    rw [hn _ (Or.inl ⟨e, rfl, h0⟩)]
    exact k.p2 e e2 e3, fun e e2 => by
    rw [hn _ (Or.inr ⟨e, rfl⟩)]
    exact k.q2 e e2⟩
theorem HI.next {F : Nat → Int} {s : Nat} {st st' : MSt} {h : Hd} (k : HI F s st h) (ht : verN (peekV st' (-2)) = verN (peekV st (-2)) + 1) (hn : h.pop = false → nextS F st' h.x.y = nextS F st h.x.y) : HI F s st' h :=
  ⟨k.dn, k.wf, k.yr, fun e => by
    have := (k.top e).1
    exact ⟨by omega, fun e2 => by omega⟩, k.p1, fun e e2 e3 => by
    have := (k.top (by rw [e2]; decide)).1
    rw [e3] at this
    omega, fun e e2 => by
    rw [hn e]
    exact k.q2 e e2⟩
theorem nextS_r {F : Nat → Int} {st : MSt} (hU : ∀ a, W64 (peekV st a)) (a : Int) : -1 ≤ nextS F st a ∧ nextS F st a < 4294967295 := toN_rng (hU _)
section
variable {t s l b n : Nat}
/-- What holds of all of them. -/
structure FM (t s l b n : Nat) (hs : List Hd) (L : List Int) (st : MSt) : Prop where
  ok : MOk (2 + t + s) (wN t s l b) st
  ch : IsCh (nextS (layF t s l b) st) (toN (peekV st (-2))) L
  v : verN (peekV st (-2)) ≤ (n : Int)
  rng : ∀ x ∈ L, 0 ≤ x ∧ x < (s : Int)
  cnt : ∀ k : Int, 0 ≤ k → k < (s : Int) → L.count k + hadC k hs = 1
  each : ∀ (i : Nat) (h : Hd), hs[i]? = some h → HI (layF t s l b) s st h
theorem FM.nodup {hs : List Hd} {L : List Int} {st : MSt} (h : FM t s l b n hs L st) : L.Nodup := nodup_of_count L (fun x m => by
  obtain ⟨h0, h1⟩ := h.rng x m
  have := h.cnt x h0 h1
  omega)
theorem FM.list {hs : List Hd} {L : List Int} {st : MSt} (h : FM t s l b n hs L st) : freeList (layF t s l b) s st = (L, true) := by
  have hl := pigeon s L h.nodup h.rng
  have key := IsCh.run (N := s) L _ (s + 1) [] h.ch h.rng h.nodup (fun x _ => by simp) (by omega)
  unfold freeList
  rw [key, List.nil_append]
theorem next_same {st st' : MSt} {k : Int} (h0 : 0 ≤ k) (h1 : k < (s : Int)) (h : peekV st' (-3 - (t : Int) - k) = peekV st (-3 - (t : Int) - k)) : nextS (layF t s l b) st' k = nextS (layF t s l b) st k := by
  unfold nextS
  rw [aft_at h0 h1, h]
theorem FM.head {hs : List Hd} {L : List Int} {st : MSt} (h : FM t s l b n hs L st) (h0 : 0 ≤ toN (peekV st (-2))) : ∃ L', L = toN (peekV st (-2)) :: L' ∧ IsCh (nextS (layF t s l b) st) (nextS (layF t s l b) st (toN (peekV st (-2)))) L' := by
  cases L with
  | nil => have e : toN (peekV st (-2)) = -1 := h.ch; omega
  | cons a L' =>
    obtain ⟨e, h2⟩ := h.ch
    refine ⟨L', by rw [← e], ?_⟩
    rw [e]
    exact h2
/-- A step by which no word that matters is turned. -/
theorem FM.calm {hs : List Hd} {L : List Int} {st st' : MSt} (h : FM t s l b n hs L st) (ok : MOk (2 + t + s) (wN t s l b) st') (hp : ∀ a, peekV st' a = peekV st a) {i : Nat} {h' : Hd} {h0 : Hd} (e0 : hs[i]? = some h0) (hi : HI (layF t s l b) s st h') (hc : ∀ k, had1 k h' = had1 k h0) : FM t s l b (n + 1) (hs.set i h') L st' := by
  have hlt : i < hs.length := (List.getElem?_eq_some_iff.1 e0).1
  have nx : ∀ a, nextS (layF t s l b) st' a = nextS (layF t s l b) st a := fun a => by unfold nextS; rw [hp]
  refine ⟨ok, ?_, by rw [hp]; have := h.v; omega, h.rng, fun k k0 k1 => ?_, fun j hj e => ?_⟩
  · rw [hp]
    exact h.ch.turn _ _ (fun x _ => nx x)
  · have h1 := h.cnt k k0 k1
    have h2 := hadC_set k hs i h0 h' e0
    rw [hc k] at h2
    omega
  · rw [set_get _ _ _ _ hlt] at e
    by_cases ej : j = i
    · rw [if_pos ej] at e
      injection e with e
      subst e
      exact hi.same (hp _) (fun a _ => nx a)
    · rw [if_neg ej] at e
      exact (h.each j hj e).same (hp _) (fun a _ => nx a)
theorem verN_top {a v : Int} (h0 : -1 ≤ a) (h1 : a < 4294967295) (v0 : 0 ≤ v) (v1 : v < 4294967296) : verN (topN a v) = v := by unfold verN topN; omega
theorem ver1_small {x : Int} (hx : W64 x) (h : verN x < 4294967295) : ver1 x = verN x + 1 := by
  have := (verN_rng hx).1
  unfold ver1
  omega
/-- A step of a thread that takes. -/
theorem FM.pop {hs : List Hd} {L : List Int} {st : MSt} (h : FM t s l b n hs L st) (hn : n ≤ 1000) (hs1 : s ≤ 1000000) (hU : ∀ a, W64 (peekV st a)) {i : Nat} {h0 : Hd} (e0 : hs[i]? = some h0) (hp : h0.pop = true) (th : Int) :
    ((popS (layF t s l b) th h0.x st).1.dn = false → FM t s l b (n + 1) (hs.set i ⟨true, h0.g, (popS (layF t s l b) th h0.x st).1⟩) L (popS (layF t s l b) th h0.x st).2) ∧
    ((popS (layF t s l b) th h0.x st).1.dn = true → (toN (popS (layF t s l b) th h0.x st).1.top = -1 ∧ ∀ g, FM t s l b (n + 1) (hs.set i ⟨true, g, ⟨0, 0, 0, false⟩⟩) L (popS (layF t s l b) th h0.x st).2) ∨
      ∃ (a : Int) (L' : List Int), toN (popS (layF t s l b) th h0.x st).1.top = a ∧ 0 ≤ a ∧ a < (s : Int) ∧ ∀ g, FM t s l b (n + 1) (hs.set i ⟨false, g, ⟨0, 0, a, false⟩⟩) L' (popS (layF t s l b) th h0.x st).2) := by
  have hi := h.each i h0 e0
  have hlt : i < hs.length := (List.getElem?_eq_some_iff.1 e0).1
  have hx := hi.wf
  obtain ⟨pp, g0, ⟨part, top, y, dn⟩⟩ := h0
  simp only at hp
  subst hp
  have hd : dn = false := hi.dn
  subst hd
  have hT := hU (-2)
  have had0 : ∀ k, had1 k ⟨true, g0, ⟨part, top, y, false⟩⟩ = 0 := fun k => by unfold had1; rw [if_pos rfl]
  rcases hx.part with e | e | e
  · have e' : part = 0 := e
    subst e'
    obtain ⟨T, hTe⟩ : ∃ T, peekV st (-2) = T := ⟨_, rfl⟩
    have es : popS (layF t s l b) th ⟨0, top, y, false⟩ st = (⟨1, T, y, toN T == -1⟩, st.load th (-2)) := by
      rw [← hTe]
      rfl
    show ((popS (layF t s l b) th ⟨0, top, y, false⟩ st).1.dn = false → _) ∧ _
    rw [es]
    refine ⟨fun hd => ?_, fun hd => Or.inl ?_⟩
    · have hne : toN T ≠ -1 := by simpa using hd
      have hr := toN_rng hT
      rw [hTe] at hr
      refine h.calm (h.ok.load _ _) (peekV_load st th (-2)) e0 ⟨hd, ⟨Or.inr (Or.inl rfl), by show W64 T; rw [← hTe]; exact hT, hx.y⟩, fun e => by simp at e, fun _ => ?_, fun _ _ => ?_, fun _ e => by simp at e, fun e => by simp at e⟩ (fun k => by rw [had0]; rfl)
      · rw [hTe]
        exact ⟨Int.le_refl _, fun _ => rfl⟩
      · show 0 ≤ toN T
        omega
    · have he : toN T = -1 := by simpa using hd
      exact ⟨he, fun g => h.calm (h.ok.load _ _) (peekV_load st th (-2)) e0 (HI.new _ _ _ _) (fun k => by rw [had0]; rfl)⟩
  · have e' : part = 1 := e
    subst e'
    have es : popS (layF t s l b) th ⟨1, top, y, false⟩ st = (⟨2, top, nextS (layF t s l b) st (toN top), false⟩, st.load th (aft (layF t s l b) (toN top))) := rfl
    show ((popS (layF t s l b) th ⟨1, top, y, false⟩ st).1.dn = false → _) ∧ _
    rw [es]
    refine ⟨fun _ => ?_, fun e => by simp at e⟩
    have hr := toN_rng (hU (aft (layF t s l b) (toN top)))
    refine h.calm (h.ok.load _ _) (peekV_load st th _) e0 ⟨rfl, ⟨Or.inr (Or.inr rfl), hx.top, ⟨by show _ ≤ toN (peekV st (aft (layF t s l b) (toN top))); omega, by show toN (peekV st (aft (layF t s l b) (toN top))) < _; omega⟩⟩, fun e => by simp at e, fun _ => hi.top (by show (1 : Int) ≠ 0; decide), fun _ _ => hi.p1 rfl (by show (1 : Int) ≠ 0; decide), fun _ _ e => ?_, fun e => by simp at e⟩ (fun k => by rw [had0]; rfl)
    have e1 : top = peekV st (-2) := e
    show nextS (layF t s l b) st (toN top) = _
    rw [e1]
  · have e' : part = 2 := e
    subst e'
    have hq : peekB st (-2) = true := h.ok.is (by omega) (by omega)
    have es : popS (layF t s l b) th ⟨2, top, y, false⟩ st = (⟨0, top, y, swapB st (-2) top⟩, st.swap th (-2) top (topN y (ver1 top))) := rfl
    show ((popS (layF t s l b) th ⟨2, top, y, false⟩ st).1.dn = false → _) ∧ _
    rw [es, swapB_is hq]
    have pk : ∀ a, peekV (st.swap th (-2) top (topN y (ver1 top))) a = if a = -2 ∧ peekV st (-2) = top then topN y (ver1 top) else peekV st a := fun a => peekV_swap h.ok hq th top _ a
    refine ⟨fun hd => ?_, fun hd => Or.inr ?_⟩
    · have hne : ¬ peekV st (-2) = top := by simpa using hd
      refine h.calm (h.ok.swap _ _ _ _) (fun a => by rw [pk, if_neg (fun e => hne e.2)]) e0 ⟨hd, ⟨Or.inl rfl, hx.top, hx.y⟩, fun e => by simp at e, fun e => absurd rfl e, fun _ e => absurd rfl e, fun _ e => by simp at e, fun e => by simp at e⟩ (fun k => by rw [had0]; rfl)
    · have he : peekV st (-2) = top := by simpa using hd
      have a0 : 0 ≤ toN top := hi.p1 rfl (by show (2 : Int) ≠ 0; decide)
      have hy : y = nextS (layF t s l b) st (toN (peekV st (-2))) := hi.p2 rfl rfl he.symm
      obtain ⟨L', hL, hch⟩ := h.head (by rw [he]; exact a0)
      rw [he] at hL hch hy
      rw [← hy] at hch
      have hya := nextS_r (F := layF t s l b) hU (toN top)
      rw [← hy] at hya
      have hv := h.v
      rw [he] at hv
      have hw := hU (-2)
      rw [he] at hw
      have hv1 := ver1_small hw (by omega)
      have hv0 := (verN_rng hw).1
      have tn : toN (topN y (ver1 top)) = y := toN_top hya.1 hya.2
      have vn : verN (topN y (ver1 top)) = verN top + 1 := by rw [verN_top hya.1 hya.2 (by omega) (by omega), hv1]
      have p2 : peekV (st.swap th (-2) top (topN y (ver1 top))) (-2) = topN y (ver1 top) := by rw [pk, if_pos ⟨rfl, he⟩]
      have nx : ∀ k, 0 ≤ k → k < (s : Int) → nextS (layF t s l b) (st.swap th (-2) top (topN y (ver1 top))) k = nextS (layF t s l b) st k := fun k k0 k1 => next_same k0 k1 (by rw [pk, if_neg (fun e => by have := e.1; omega)])
      have ra := h.rng (toN top) (by rw [hL]; simp)
      refine ⟨toN top, L', rfl, a0, ra.2, fun g => ⟨h.ok.swap _ _ _ _, ?_, by rw [p2, vn]; omega, fun x m => h.rng x (by rw [hL]; simp [m]), fun k k0 k1 => ?_, fun j hj ej => ?_⟩⟩
      · rw [p2, tn]
        exact hch.turn _ _ (fun x m => by
          have := h.rng x (by rw [hL]; simp [m])
          exact nx x this.1 this.2)
      · have h1 := h.cnt k k0 k1
        have h2 := hadC_set k hs i _ ⟨false, g, ⟨0, 0, toN top, false⟩⟩ e0
        rw [hL, List.count_cons] at h1
        rw [had0] at h2
        have h3 : had1 k ⟨false, g, ⟨0, 0, toN top, false⟩⟩ = if toN top = k then 1 else 0 := by unfold had1; rw [if_neg (by simp)]
        rw [h3] at h2
        by_cases ek : toN top = k
        · rw [if_pos ek] at h2
          rw [if_pos (by simpa using ek)] at h1
          omega
        · rw [if_neg ek] at h2
          rw [if_neg (by simpa using ek)] at h1
          omega
      · rw [set_get _ _ _ _ hlt] at ej
        by_cases eji : j = i
        · rw [if_pos eji] at ej
          injection ej with ej
          subst ej
          exact HI.newPush _ _ _ _ a0 ra.2 (by omega)
        · rw [if_neg eji] at ej
          have kj := h.each j hj ej
          exact kj.next (by rw [p2, vn, he]) (fun e => nx _ (kj.yr e).1 (kj.yr e).2)
/-- A step of a thread that gives back. -/
theorem FM.push {hs : List Hd} {L : List Int} {st : MSt} (h : FM t s l b n hs L st) (hn : n ≤ 1000) (hs1 : s ≤ 1000000) (hU : ∀ a, W64 (peekV st a)) {i : Nat} {h0 : Hd} (e0 : hs[i]? = some h0) (hp : h0.pop = false) (th : Int) :
    ((pushS (layF t s l b) th h0.x st).1.dn = false → FM t s l b (n + 1) (hs.set i ⟨false, h0.g, (pushS (layF t s l b) th h0.x st).1⟩) L (pushS (layF t s l b) th h0.x st).2) ∧
    ((pushS (layF t s l b) th h0.x st).1.dn = true → ∀ g, FM t s l b (n + 1) (hs.set i ⟨true, g, ⟨0, 0, 0, false⟩⟩) (h0.x.y :: L) (pushS (layF t s l b) th h0.x st).2) := by
  have hi := h.each i h0 e0
  have hlt : i < hs.length := (List.getElem?_eq_some_iff.1 e0).1
  have hx := hi.wf
  have yr := hi.yr hp
  obtain ⟨pp, g0, ⟨part, top, y, dn⟩⟩ := h0
  simp only at hp yr
  subst hp
  have hd : dn = false := hi.dn
  subst hd
  have hT := hU (-2)
  have had0 : ∀ (k : Int) (g : Nat) (p v : Int) (d : Bool), had1 k ⟨false, g, ⟨p, v, y, d⟩⟩ = if y = k then 1 else 0 := fun k g p v d => by unfold had1; rw [if_neg (by simp)]
  rcases hx.part with e | e | e
  · have e' : part = 0 := e
    subst e'
    have es : pushS (layF t s l b) th ⟨0, top, y, false⟩ st = (⟨1, peekV st (-2), y, false⟩, st.load th (-2)) := rfl
    show ((pushS (layF t s l b) th ⟨0, top, y, false⟩ st).1.dn = false → _) ∧ _
    rw [es]
    refine ⟨fun hd => ?_, fun hd => by simp at hd⟩
    exact h.calm (h.ok.load _ _) (peekV_load st th (-2)) e0 ⟨rfl, ⟨Or.inr (Or.inl rfl), hT, hx.y⟩, fun _ => yr, fun _ => ⟨Int.le_refl _, fun _ => rfl⟩, fun e => by simp at e, fun e => by simp at e, fun _ e => by simp at e⟩ (fun k => by rw [had0, had0])
  · have e' : part = 1 := e
    subst e'
    have es : pushS (layF t s l b) th ⟨1, top, y, false⟩ st = (⟨2, top, y, false⟩, st.store th (aft (layF t s l b) y) (toN top + 1)) := rfl
    show ((pushS (layF t s l b) th ⟨1, top, y, false⟩ st).1.dn = false → _) ∧ _
    rw [es]
    refine ⟨fun _ => ?_, fun e => by simp at e⟩
    have ha : aft (layF t s l b) y = -3 - (t : Int) - y := aft_at yr.1 yr.2
    have hq : peekB st (aft (layF t s l b) y) = true := by rw [ha]; exact h.ok.is (by omega) (by omega)
    have pk : ∀ a, peekV (st.store th (aft (layF t s l b) y) (toN top + 1)) a = if a = aft (layF t s l b) y then toN top + 1 else peekV st a := fun a => peekV_store h.ok hq th _ a
    have tr := toN_rng hx.top
    have p2 : peekV (st.store th (aft (layF t s l b) y) (toN top + 1)) (-2) = peekV st (-2) := by rw [pk, if_neg (by rw [ha]; omega)]
    have nx : ∀ k, 0 ≤ k → k < (s : Int) → k ≠ y → nextS (layF t s l b) (st.store th (aft (layF t s l b) y) (toN top + 1)) k = nextS (layF t s l b) st k := fun k k0 k1 k2 => next_same k0 k1 (by rw [pk, if_neg (by rw [ha]; omega)])
    have ny : nextS (layF t s l b) (st.store th (aft (layF t s l b) y) (toN top + 1)) y = toN top := by
      unfold nextS
      rw [pk, if_pos rfl]
      have e2 := toN_small (x := toN top + 1) (by simp only at tr; omega) (by simp only at tr; omega)
      rw [e2]
      omega
    have hny : y ∉ L := fun m => by
      have h1 := h.cnt y yr.1 yr.2
      have h2 := hadC_one (k := y) e0
      rw [had0, if_pos rfl] at h2
      have := List.count_pos_iff.2 m
      omega
    have oth : ∀ j hj, j ≠ i → hs[j]? = some hj → HI (layF t s l b) s (st.store th (aft (layF t s l b) y) (toN top + 1)) hj := fun j hj nj ej => by
      have kj := h.each j hj ej
      refine kj.same p2 (fun a ha' => ?_)
      rcases ha' with ⟨_, e1, e2⟩ | ⟨e1, e2⟩
      · obtain ⟨L', hL, _⟩ := h.head (by rw [← e1]; exact e2)
        have hm : a ∈ L := by rw [hL, ← e1]; simp
        have hr := h.rng a hm
        exact nx a hr.1 hr.2 (fun e => hny (e ▸ hm))
      · have hr := kj.yr e1
        rw [e2]
        refine nx _ hr.1 hr.2 (fun e => ?_)
        have h1 := h.cnt y yr.1 yr.2
        have h2 := hadC_two (k := y) e0 ej (fun e => nj e.symm)
        rw [had0, if_pos rfl] at h2
        have h3 : had1 y hj = 1 := by unfold had1; rw [if_neg (by rw [e1]; simp), if_pos e]
        omega
    refine ⟨h.ok.store _ _ _, ?_, by rw [p2]; have := h.v; omega, h.rng, fun k k0 k1 => ?_, fun j hj ej => ?_⟩
    · rw [p2]
      exact h.ch.turn _ _ (fun x m => by
        have hr := h.rng x m
        exact nx x hr.1 hr.2 (fun e => hny (e ▸ m)))
    · have h1 := h.cnt k k0 k1
      have h2 := hadC_set k hs i _ ⟨false, g0, ⟨2, top, y, false⟩⟩ e0
      rw [had0, had0] at h2
      show L.count k + hadC k (hs.set i ⟨false, g0, ⟨2, top, y, false⟩⟩) = 1
      omega
    · rw [set_get _ _ _ _ hlt] at ej
      by_cases eji : j = i
      · rw [if_pos eji] at ej
        injection ej with ej
        subst ej
        have kt := hi.top (by show (1 : Int) ≠ 0; decide)
        exact ⟨rfl, ⟨Or.inr (Or.inr rfl), hx.top, hx.y⟩, fun _ => yr, fun _ => by rw [p2]; exact kt, fun e => by simp at e, fun e => by simp at e, fun _ _ => ny⟩
      · rw [if_neg eji] at ej
        exact oth j hj eji ej
  · have e' : part = 2 := e
    subst e'
    have hq : peekB st (-2) = true := h.ok.is (by omega) (by omega)
    have es : pushS (layF t s l b) th ⟨2, top, y, false⟩ st = (⟨0, top, y, swapB st (-2) top⟩, st.swap th (-2) top (topN y (ver1 top))) := rfl
    show ((pushS (layF t s l b) th ⟨2, top, y, false⟩ st).1.dn = false → _) ∧ _
    rw [es, swapB_is hq]
    have pk : ∀ a, peekV (st.swap th (-2) top (topN y (ver1 top))) a = if a = -2 ∧ peekV st (-2) = top then topN y (ver1 top) else peekV st a := fun a => peekV_swap h.ok hq th top _ a
    refine ⟨fun hd => ?_, fun hd g => ?_⟩
    · have hne : ¬ peekV st (-2) = top := by simpa using hd
      exact h.calm (h.ok.swap _ _ _ _) (fun a => by rw [pk, if_neg (fun e => hne e.2)]) e0 ⟨hd, ⟨Or.inl rfl, hx.top, hx.y⟩, fun _ => yr, fun e => absurd rfl e, fun e => by simp at e, fun e => by simp at e, fun _ e => by simp at e⟩ (fun k => by rw [had0, had0])
    · have he : peekV st (-2) = top := by simpa using hd
      have hny := hi.q2 rfl rfl
      simp only at hny
      have hv := h.v
      rw [he] at hv
      have hw := hU (-2)
      rw [he] at hw
      have hv1 := ver1_small hw (by omega)
      have hv0 := (verN_rng hw).1
      have tn : toN (topN y (ver1 top)) = y := toN_top (by omega) (by omega)
      have vn : verN (topN y (ver1 top)) = verN top + 1 := by rw [verN_top (by omega) (by omega) (by omega) (by omega), hv1]
      have p2 : peekV (st.swap th (-2) top (topN y (ver1 top))) (-2) = topN y (ver1 top) := by rw [pk, if_pos ⟨rfl, he⟩]
      have nx : ∀ k, 0 ≤ k → k < (s : Int) → nextS (layF t s l b) (st.swap th (-2) top (topN y (ver1 top))) k = nextS (layF t s l b) st k := fun k k0 k1 => next_same k0 k1 (by rw [pk, if_neg (fun e => by have := e.1; omega)])
      refine ⟨h.ok.swap _ _ _ _, ?_, by rw [p2, vn]; omega, fun x m => ?_, fun k k0 k1 => ?_, fun j hj ej => ?_⟩
      · rw [p2, tn]
        refine ⟨rfl, ?_⟩
        show IsCh _ (nextS (layF t s l b) (st.swap th (-2) top (topN y (ver1 top))) y) L
        rw [nx y yr.1 yr.2, hny]
        have key := h.ch.turn (nx' := nextS (layF t s l b) (st.swap th (-2) top (topN y (ver1 top)))) _ _ (fun x m => by
          have hr := h.rng x m
          exact nx x hr.1 hr.2)
        rw [he] at key
        exact key
      · rcases List.mem_cons.1 m with e | m
        · have e1 : x = y := e
          rw [e1]
          exact yr
        · exact h.rng x m
      · have h1 := h.cnt k k0 k1
        have h2 := hadC_set k hs i _ ⟨true, g, ⟨0, 0, 0, false⟩⟩ e0
        rw [had0] at h2
        have h3 : had1 k ⟨true, g, ⟨0, 0, 0, false⟩⟩ = 0 := rfl
        rw [h3] at h2
        show (y :: L).count k + _ = 1
        rw [List.count_cons]
        by_cases ek : y = k
        · rw [if_pos ek] at h2
          rw [if_pos (by simpa using ek)]
          omega
        · rw [if_neg ek] at h2
          rw [if_neg (by simpa using ek)]
          omega
      · rw [set_get _ _ _ _ hlt] at ej
        by_cases eji : j = i
        · rw [if_pos eji] at ej
          injection ej with ej
          subst ej
          exact HI.new _ _ _ _
        · rw [if_neg eji] at ej
          have kj := h.each j hj ej
          exact kj.next (by rw [p2, vn, he]) (fun e => nx _ (kj.yr e).1 (kj.yr e).2)
end
end Go.Proofs.YtndplpfbohigpaaGreat

/- Several machines between one another, with a row of what each thread has: how they lie, and what a step of one leaves. Conditions: those that each theorem names. -/
namespace Go.Proofs.YtndplpfbohigpaaGreat
open Go.ChangeShapes Go.WideShapes Go.ChangeAt Go.RowKit
set_option linter.unusedVariables false
theorem flat_get {sz : Nat} : ∀ (rows : List (List Value)) (i f : Nat), (∀ r ∈ rows, r.length = sz) → f < sz → rows.flatten[i * sz + f]? = (rows[i]?).bind (fun r => r[f]?)
  | [], i, f, _, _ => by simp
  | r :: rows, 0, f, hl, hf => by
    have h0 := hl r (by simp)
    rw [List.flatten_cons, Nat.zero_mul, Nat.zero_add, List.getElem?_append_left (by omega)]
    rfl
  | r :: rows, i + 1, f, hl, hf => by
    have h0 := hl r (by simp)
    rw [List.flatten_cons, Nat.succ_mul, List.getElem?_append_right (by omega), show i * sz + sz + f - r.length = i * sz + f by omega, flat_get rows i f (fun x m => hl x (by simp [m])) hf]
    rfl
theorem flat_set {sz : Nat} : ∀ (rows : List (List Value)) (i f : Nat) (v : Value) (r : List Value), (∀ r ∈ rows, r.length = sz) → f < sz → rows[i]? = some r → rows.flatten.set (i * sz + f) v = (rows.set i (r.set f v)).flatten
  | [], i, f, v, r, _, _, e => by simp at e
  | a :: rows, 0, f, v, r, hl, hf, e => by
    have h0 := hl a (by simp)
    simp at e
    subst e
    rw [List.flatten_cons, Nat.zero_mul, Nat.zero_add, List.set_append_left _ _ (by omega)]
    rfl
  | a :: rows, i + 1, f, v, r, hl, hf, e => by
    have h0 := hl a (by simp)
    simp at e
    rw [List.flatten_cons, Nat.succ_mul, List.set_append_right _ _ (by omega), show i * sz + sz + f - a.length = i * sz + f by omega, flat_set rows i f v r (fun x m => hl x (by simp [m])) hf e]
    rfl
abbrev Owned := Option (Nat × TypeId × List Value)
structure ManyAt (C : TypeId) (w1 w : World) (gm : Nat) (dv pv : Value) (gl gh : Nat) (F : Nat → Int) (rows : List (List Value)) (os : List Owned) (s : MSt) : Prop where
  m : IsMem (fun q => q = gl ∨ q = gh ∨ ∃ (i : Nat) (p : Nat × TypeId × List Value), os[i]? = some (some p) ∧ q = p.1) w w1 w gm dv pv s
  l : Blk w gl 256 (cellsF F)
  h : Blk w gh C rows.flatten
  a : ∀ (i : Nat) (p : Nat × TypeId × List Value), os[i]? = some (some p) → Blk w p.1 p.2.1 p.2.2 ∧ p.1 ≠ gl ∧ p.1 ≠ gh ∧ w1.heap.size ≤ p.1
  d : ∀ (i j : Nat) (p q : Nat × TypeId × List Value), os[i]? = some (some p) → os[j]? = some (some q) → p.1 = q.1 → i = j
  lh : gl ≠ gh
  gh0 : w1.heap.size ≤ gh
section
variable {C : TypeId} {w1 w w' : World} {gm gl gh : Nat} {dv pv : Value} {F : Nat → Int} {rows : List (List Value)} {os : List Owned} {s s' : MSt}
theorem ManyAt.ext (h : ManyAt C w1 w gm dv pv gl gh F rows os s) (x : Ext w w') : ManyAt C w1 w' gm dv pv gl gh F rows os s :=
  ⟨(h.m.ext x).here, h.l.ext x, h.h.ext x, fun t p e => ⟨(h.a t p e).1.ext x, (h.a t p e).2⟩, h.d, h.lh, h.gh0⟩
/-- A new machine of a thread. -/
theorem ManyAt.take (h : ManyAt C w1 w gm dv pv gl gh F rows os s) (x : Ext w w') {i : Nat} {q : Nat × TypeId × List Value} (ht : i < os.length) (hg : w.heap.size ≤ q.1) (hb : Blk w' q.1 q.2.1 q.2.2) :
    ManyAt C w1 w' gm dv pv gl gh F rows (os.set i (some q)) s := by
  have hgl := h.l.lt
  have hgh := h.h.lt
  have hold : ∀ (t' : Nat) (p : Nat × TypeId × List Value), (os.set i (some q))[t']? = some (some p) → (t' = i ∧ p = q) ∨ (t' ≠ i ∧ os[t']? = some (some p)) := fun t' p e => by
    rw [set_get _ _ _ _ ht] at e
    by_cases e' : t' = i
    · rw [if_pos e'] at e
      exact Or.inl ⟨e', by injection e with e; injection e with e; exact e.symm⟩
    · rw [if_neg e'] at e
      exact Or.inr ⟨e', e⟩
  have low : ∀ (t' : Nat) (p : Nat × TypeId × List Value), os[t']? = some (some p) → p.1 < w.heap.size := fun t' p e => (h.a t' p e).1.lt
  refine ⟨h.m.hold x (fun b hb' => ?_), h.l.ext x, h.h.ext x, fun t' p e => ?_, fun t1 t2 p1 p2 e1 e2 e => ?_, h.lh, h.gh0⟩
  · rcases hb' with e | e | ⟨t', p, e, e2⟩
    · rw [e]; exact ⟨Nat.lt_of_lt_of_le hgl x.size, Or.inl (Or.inl rfl)⟩
    · rw [e]; exact ⟨Nat.lt_of_lt_of_le hgh x.size, Or.inl (Or.inr (Or.inl rfl))⟩
    · rw [e2]
      rcases hold t' p e with ⟨_, e3⟩ | ⟨_, e3⟩
      · rw [e3]; exact ⟨hb.lt, Or.inr hg⟩
      · exact ⟨Nat.lt_of_lt_of_le (low t' p e3) x.size, Or.inl (Or.inr (Or.inr ⟨t', p, e3, rfl⟩))⟩
  · rcases hold t' p e with ⟨e2, e3⟩ | ⟨_, e3⟩
    · subst e2 e3
      have := h.m.lt.1.size
      exact ⟨hb, by omega, by omega, by omega⟩
    · obtain ⟨b1, b2⟩ := h.a t' p e3
      exact ⟨b1.ext x, b2⟩
  · rcases hold t1 p1 e1 with ⟨a1, a2⟩ | ⟨a1, a2⟩ <;> rcases hold t2 p2 e2 with ⟨c1, c2⟩ | ⟨c1, c2⟩
    · omega
    · have := low t2 p2 c2
      rw [a2] at e
      omega
    · have := low t1 p1 a2
      rw [c2] at e
      omega
    · exact h.d t1 t2 p1 p2 a2 c2 e
/-- The row of what each has is written. -/
theorem ManyAt.turn (h : ManyAt C w1 w gm dv pv gl gh F rows os s) (f : Fr (fun b => b = gh) w w') {rows' : List (List Value)} (hb : Blk w' gh C rows'.flatten) : ManyAt C w1 w' gm dv pv gl gh F rows' os s := by
  have kp : ∀ b, b ≠ gh → b < w.heap.size → w'.heap[b]? = w.heap[b]? := fun b hb hlt => f.block b hlt hb
  refine ⟨h.m.turn f (fun b e => Or.inr (Or.inl e)) (fun b e => by rw [e]; exact h.gh0), (kp gl h.lh h.l.lt).trans h.l, hb, fun t' p e => ?_, h.d, h.lh, h.gh0⟩
  obtain ⟨b1, b2, b3, b4⟩ := h.a t' p e
  exact ⟨(kp p.1 b3 b1.lt).trans b1, b2, b3, b4⟩
theorem ManyAt.put {sz : Nat} (h : ManyAt C w1 w gm dv pv gl gh F rows os s) (hl : ∀ r ∈ rows, r.length = sz) {i f : Nat} {r : List Value} (hf : f < sz) (e : rows[i]? = some r) (v : Value) :
    ManyAt C w1 (w.setCell ⟨gh, i * sz + f, none⟩ v) gm dv pv gl gh F (rows.set i (r.set f v)) os s :=
  h.turn (Fr.setCell (S := fun b => b = gh) (p := ⟨gh, i * sz + f, none⟩) (Fr.refl _ w) (Or.inl rfl) _) (by
    rw [← flat_set rows i f v r hl hf e]
    exact h.h.set (i * sz + f) v)
/-- A step of a thread's machine. -/
theorem ManyAt.step (h : ManyAt C w1 w gm dv pv gl gh F rows os s) {i g : Nat} {T : TypeId} {cs cs' : List Value} (e0 : os[i]? = some (some (g, T, cs)))
    (m : IsMem (fun q => q = gl ∨ q = gh ∨ ∃ (i : Nat) (p : Nat × TypeId × List Value), os[i]? = some (some p) ∧ q = p.1) w' w1 w' gm dv pv s') (hb : Blk w' g T cs') (k : ∀ b, (b = gl ∨ b = gh ∨ ∃ (i : Nat) (p : Nat × TypeId × List Value), os[i]? = some (some p) ∧ b = p.1) → b ≠ g → w'.heap[b]? = w.heap[b]?) :
    ManyAt C w1 w' gm dv pv gl gh F rows (os.set i (some (g, T, cs'))) s' := by
  obtain ⟨a1, a2, a3, a4⟩ := h.a i (g, T, cs) e0
  have hlt : i < os.length := (List.getElem?_eq_some_iff.1 e0).1
  have hold : ∀ (t' : Nat) (p : Nat × TypeId × List Value), (os.set i (some (g, T, cs')))[t']? = some (some p) → (t' = i ∧ p = (g, T, cs')) ∨ (t' ≠ i ∧ os[t']? = some (some p)) := fun t' p e => by
    rw [set_get _ _ _ _ hlt] at e
    by_cases e' : t' = i
    · rw [if_pos e'] at e
      exact Or.inl ⟨e', by injection e with e; injection e with e; exact e.symm⟩
    · rw [if_neg e'] at e
      exact Or.inr ⟨e', e⟩
  refine ⟨m.less (fun q hq => ?_) (fun _ _ => rfl), (k gl (Or.inl rfl) (fun e => a2 e.symm)).trans h.l, (k gh (Or.inr (Or.inl rfl)) (fun e => a3 e.symm)).trans h.h, fun t' p e => ?_, fun t1 t2 p1 p2 e1 e2 e => ?_, h.lh, h.gh0⟩
  · rcases hq with e | e | ⟨t', p, e, e2⟩
    · exact Or.inl e
    · exact Or.inr (Or.inl e)
    · rcases hold t' p e with ⟨_, e3⟩ | ⟨_, e3⟩
      · exact Or.inr (Or.inr ⟨i, _, e0, by rw [e2, e3]⟩)
      · exact Or.inr (Or.inr ⟨t', p, e3, e2⟩)
  · rcases hold t' p e with ⟨e2, e3⟩ | ⟨e2, e3⟩
    · subst e2 e3
      exact ⟨hb, a2, a3, a4⟩
    · obtain ⟨b1, b2, b3, b4⟩ := h.a t' p e3
      exact ⟨(k p.1 (Or.inr (Or.inr ⟨t', p, e3, rfl⟩)) (fun e => e2 (h.d t' i p (g, T, cs) e3 e0 e))).trans b1, b2, b3, b4⟩
  · rcases hold t1 p1 e1 with ⟨c1, c2⟩ | ⟨c1, c2⟩ <;> rcases hold t2 p2 e2 with ⟨c3, c4⟩ | ⟨c3, c4⟩
    · omega
    · rw [c2] at e
      have := h.d i t2 (g, T, cs) p2 e0 c4 e
      omega
    · rw [c4] at e
      have := h.d t1 i p1 (g, T, cs) c2 e0 e
      omega
    · exact h.d t1 t2 p1 p2 c2 c4 e
/-- Where a thread's machine is let go. -/
theorem ManyAt.drop (h : ManyAt C w1 w gm dv pv gl gh F rows os s) {i : Nat} (ht : i < os.length) : ManyAt C w1 w gm dv pv gl gh F rows (os.set i none) s := by
  have hold : ∀ (t' : Nat) (p : Nat × TypeId × List Value), (os.set i none)[t']? = some (some p) → t' ≠ i ∧ os[t']? = some (some p) := fun t' p e => by
    rw [set_get _ _ _ _ ht] at e
    by_cases e' : t' = i
    · rw [if_pos e'] at e
      simp at e
    · rw [if_neg e'] at e
      exact ⟨e', e⟩
  refine ⟨h.m.less (fun q hq => ?_) (fun _ _ => rfl), h.l, h.h, fun t' p e => h.a t' p (hold t' p e).2, fun t1 t2 p1 p2 e1 e2 e => h.d t1 t2 p1 p2 (hold _ _ e1).2 (hold _ _ e2).2 e, h.lh, h.gh0⟩
  rcases hq with e | e | ⟨t', p, e, e2⟩
  · exact Or.inl e
  · exact Or.inr (Or.inl e)
  · exact Or.inr (Or.inr ⟨t', p, (hold t' p e).2, e2⟩)
end
end Go.Proofs.YtndplpfbohigpaaGreat
