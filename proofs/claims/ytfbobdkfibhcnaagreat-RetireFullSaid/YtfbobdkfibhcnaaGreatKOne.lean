/- What is at a word of a memory behind an access. Conditions: those that each theorem names. -/
import Derived.Test.YtfbobdkfibhcnaaGreatKEpA
import Derived.Test.YtfbobdkfibhcnaaGreatKEpB
namespace Go.Proofs.YtfbobdkfibhcnaaGreat
open Go.ChangeShapes Go.WideShapes Go.ChangeAt Go.RowKit
set_option linter.unusedVariables false
theorem load_parts (s : MSt) (t a : Int) : (s.load t a).dev = s.dev ∧ (s.load t a).pas = s.pas ∧ (s.load t a).clock = s.clock + 1 := by
  unfold MSt.load
  split <;> exact ⟨rfl, rfl, rfl⟩
theorem peekV_eq {s s' : MSt} (hd : s'.dev = s.dev) (hp : s'.pas = s.pas) (b : Int) : peekV s' b = peekV s b := by
  unfold peekV
  rw [hd, hp]
theorem peekB_eq {s s' : MSt} (hd : s'.dev = s.dev) (hp : s'.pas = s.pas) (b : Int) : peekB s' b = peekB s b := by
  unfold peekB
  rw [hd, hp]
theorem peekV_load (s : MSt) (t a b : Int) : peekV (s.load t a) b = peekV s b := peekV_eq (load_parts s t a).1 (load_parts s t a).2.1 b
theorem peekB_load (s : MSt) (t a b : Int) : peekB (s.load t a) b = peekB s b := peekB_eq (load_parts s t a).1 (load_parts s t a).2.1 b
theorem peekV_put2 {s : MSt} {a : Int} (b x : Int) (hs : s.dev.seen.length = s.dev.n * 8) (h : peekB s a = true) : peekV (s.put a x) b = if b = a then x else peekV s b := by
  unfold peekB at h
  unfold peekV MSt.put
  by_cases ha : 0 ≤ a
  · rw [if_pos ha] at h
    have h' : a < (s.dev.n : Int) * 8 := by simpa using h
    rw [if_pos ha]
    have hst : s.dev.store a x = { s.dev with seen := s.dev.seen.set a.toNat x } := by
      unfold DSt.store
      rw [if_pos ⟨ha, h'⟩]
    rw [hst]
    by_cases hb : 0 ≤ b
    · rw [if_pos hb, if_pos hb]
      unfold loadV
      simp only
      by_cases e : b = a
      · subst e
        rw [if_pos ⟨hb, h'⟩, if_pos rfl, List.getD_eq_getElem?_getD, List.getElem?_set_self (by omega)]
        rfl
      · rw [if_neg e]
        split
        · rw [List.getD_eq_getElem?_getD, List.getElem?_set_ne (by omega), ← List.getD_eq_getElem?_getD]
        · rfl
    · rw [if_neg hb, if_neg hb, if_neg (by omega)]
  · rw [if_neg ha] at h
    have h' : -1 - a < (s.pas.length : Int) := by simpa using h
    rw [if_neg ha]
    by_cases hb : 0 ≤ b
    · rw [if_pos hb, if_pos hb, if_neg (by omega)]
    · rw [if_neg hb, if_neg hb]
      simp only
      by_cases e : b = a
      · subst e
        rw [if_pos rfl, List.getD_eq_getElem?_getD, List.getElem?_set_self (by omega)]
        rfl
      · rw [if_neg e, List.getD_eq_getElem?_getD, List.getElem?_set_ne (by omega), ← List.getD_eq_getElem?_getD]
theorem put_parts (s : MSt) (a x : Int) : (s.put a x).pas.length = s.pas.length ∧ (s.put a x).dev.n = s.dev.n ∧ (s.put a x).dev.seen.length = s.dev.seen.length ∧ (s.put a x).clock = s.clock ∧ (s.put a x).bad = s.bad := by
  unfold MSt.put DSt.store
  (repeat' split) <;> simp
/-- How many words a memory has. -/
structure MOk (P N : Nat) (s : MSt) : Prop where
  p : s.pas.length = P
  n : s.dev.n = N
  l : s.dev.seen.length = s.dev.n * 8
theorem MOk.same {P N : Nat} {s s' : MSt} (h : MOk P N s) (hd : s'.dev = s.dev) (hp : s'.pas = s.pas) : MOk P N s' := ⟨by rw [hp]; exact h.p, by rw [hd]; exact h.n, by rw [hd]; exact h.l⟩
theorem MOk.put {P N : Nat} {s : MSt} (h : MOk P N s) (a x : Int) : MOk P N (s.put a x) := by
  obtain ⟨e1, e2, e3, _⟩ := put_parts s a x
  exact ⟨e1.trans h.p, e2.trans h.n, by rw [e3, e2]; exact h.l⟩
theorem MOk.note {P N : Nat} {s : MSt} (h : MOk P N s) (x : Acc) (b : Bool) : MOk P N (s.note x b) := ⟨h.p, h.n, h.l⟩
theorem MOk.load {P N : Nat} {s : MSt} (h : MOk P N s) (t a : Int) : MOk P N (s.load t a) := h.same (load_parts s t a).1 (load_parts s t a).2.1
theorem MOk.store {P N : Nat} {s : MSt} (h : MOk P N s) (t a x : Int) : MOk P N (s.store t a x) := by
  unfold MSt.store
  split
  · exact (h.put a x).note _ _
  · exact h.note _ _
theorem MOk.swap {P N : Nat} {s : MSt} (h : MOk P N s) (t a o x : Int) : MOk P N (s.swap t a o x) := by
  unfold MSt.swap
  split
  · split
    · exact (h.put a x).note _ _
    · exact h.note _ _
  · exact h.note _ _
theorem MOk.is {P N : Nat} {s : MSt} (h : MOk P N s) {a : Int} (h0 : -1 - (P : Int) < a) (h1 : a < (N : Int) * 8) : peekB s a = true := by
  unfold peekB
  rw [h.p, h.n]
  split <;> simp <;> omega
theorem peekV_store {P N : Nat} {s : MSt} (h : MOk P N s) {a : Int} (ha : peekB s a = true) (t x b : Int) : peekV (s.store t a x) b = if b = a then x else peekV s b := by
  unfold MSt.store
  rw [if_pos ha]
  exact (peekV_eq rfl rfl b).trans (peekV_put2 b x h.l ha)
theorem store_clock (s : MSt) (t a x : Int) : (s.store t a x).clock = s.clock + 1 := by
  unfold MSt.store
  split
  · show (s.put a x).clock + 1 = _
    rw [(put_parts s a x).2.2.2.1]
  · rfl
theorem swap_clock (s : MSt) (t a o x : Int) : (s.swap t a o x).clock = s.clock + 1 := by
  unfold MSt.swap
  split
  · split
    · show (s.put a x).clock + 1 = _
      rw [(put_parts s a x).2.2.2.1]
    · rfl
  · rfl
theorem peekV_swap {P N : Nat} {s : MSt} (h : MOk P N s) {a : Int} (ha : peekB s a = true) (t o x b : Int) : peekV (s.swap t a o x) b = if b = a ∧ peekV s a = o then x else peekV s b := by
  unfold MSt.swap
  rw [if_pos ha]
  by_cases e : peekV s a = o
  · rw [if_pos e]
    refine (peekV_eq rfl rfl b).trans ((peekV_put2 b x h.l ha).trans ?_)
    by_cases eb : b = a
    · rw [if_pos eb, if_pos ⟨eb, e⟩]
    · rw [if_neg eb, if_neg (fun hh => eb hh.1)]
  · rw [if_neg e, if_neg (fun hh => e hh.2)]
    exact peekV_eq rfl rfl b
theorem swapB_is {s : MSt} {a : Int} (ha : peekB s a = true) (o : Int) : swapB s a o = decide (peekV s a = o) := by
  unfold swapB
  rw [ha, Bool.true_and]
theorem MOk.start (t s l b : Nat) : MOk (2 + t + s) (wN t s l b) (startSt t s l b) := ⟨by simp [startSt, MSt.new], rfl, by simp [startSt, MSt.new, DSt.new]⟩
theorem putAll_append (s : MSt) (ys zs : List Put) : putAll s (ys ++ zs) = putAll (putAll s ys) zs := List.foldl_append ..
theorem MOk.putAll {P N : Nat} : ∀ {s : MSt} (h : MOk P N s) (ys : List Put), MOk P N (putAll s ys)
  | _, h, [] => h
  | _, h, y :: ys => MOk.putAll (h.store 0 y.1 y.2) ys
theorem start_peek (t s l b : Nat) (a : Int) : peekV (startSt t s l b) a = 0 := by
  have e : ∀ (n i : Nat), (List.replicate n (0 : Int)).getD i 0 = 0 := fun n i => by
    rw [List.getD_eq_getElem?_getD, List.getElem?_replicate]
    split <;> rfl
  unfold peekV
  split
  · unfold loadV
    split
    · exact e _ _
    · rfl
  · exact e _ _
theorem putAll_clock : ∀ (s : MSt) (ys : List Put), (putAll s ys).clock = s.clock + ys.length
  | s, [] => by simp [putAll]
  | s, y :: ys => by
    rw [show putAll s (y :: ys) = putAll (s.store 0 y.1 y.2) ys from rfl, putAll_clock, store_clock]
    simp only [List.length_cons]
    omega
/-- The words of a config's passing parts. -/
theorem ann_at {t s l b : Nat} {n : Int} (h0 : 0 ≤ n) (h1 : n < (t : Int)) : ann (layF t s l b) n = -3 - n := by
  have e : ann (layF t s l b) n = wordAt (layF t s l b 4) (-3) (-1) (t : Int) n 0 := rfl
  rw [e]
  unfold wordAt
  rw [if_pos ⟨h0, h1⟩]
  omega
theorem aft_at {t s l b : Nat} {n : Int} (h0 : 0 ≤ n) (h1 : n < (s : Int)) : aft (layF t s l b) n = -3 - (t : Int) - n := by
  have e : aft (layF t s l b) n = wordAt (layF t s l b 4) (-1 - (2 + (t : Int))) (-1) (s : Int) n 0 := rfl
  rw [e]
  unfold wordAt
  rw [if_pos ⟨h0, h1⟩]
  omega
end Go.Proofs.YtfbobdkfibhcnaaGreat

/- Several Advances between one another: how they lie, and what a step of one leaves. Conditions: those that each theorem names. -/
namespace Go.Proofs.YtfbobdkfibhcnaaGreat
open Go.ChangeShapes Go.WideShapes Go.ChangeAt Go.RowKit
set_option linter.unusedVariables false
/-- Who has which machine: its block, and its state. -/
abbrev Hs := List (Option (Nat × AMs))
def ptrA (o : Option (Nat × AMs)) : Value := .pointer (o.map fun p => ⟨p.1, 0, none⟩)
structure OneAt (w1 w : World) (gm : Nat) (dv pv : Value) (gl gh T : Nat) (F : Nat → Int) (hs : Hs) (s : MSt) : Prop where
  m : IsMem (fun q => q = gl ∨ q = gh ∨ ∃ (t : Nat) (p : Nat × AMs), hs[t]? = some (some p) ∧ q = p.1) w w1 w gm dv pv s
  l : Blk w gl 223 (cellsF F)
  h : Blk w gh 60 (hs.map ptrA)
  a : ∀ (t : Nat) (p : Nat × AMs), hs[t]? = some (some p) → Blk w p.1 180 (p.2.cells gl t) ∧ p.2.Wf T ∧ p.1 ≠ gl ∧ p.1 ≠ gh ∧ w1.heap.size ≤ p.1
  d : ∀ (t t' : Nat) (p p' : Nat × AMs), hs[t]? = some (some p) → hs[t']? = some (some p') → p.1 = p'.1 → t = t'
  len : hs.length = T
  lh : gl ≠ gh
  gh0 : w1.heap.size ≤ gh
theorem set_get {α : Type} (l : List α) (t t' : Nat) (v : α) (h : t < l.length) : (l.set t v)[t']? = if t' = t then some v else l[t']? := by
  rw [List.getElem?_set]
  by_cases e : t' = t
  · subst e
    rw [if_pos rfl, if_pos rfl, if_pos h]
  · rw [if_neg (fun x => e x.symm), if_neg e]
section
variable {w1 w w' : World} {gm gl gh T : Nat} {dv pv : Value} {F : Nat → Int} {hs : Hs} {s s' : MSt}
theorem OneAt.ext (h : OneAt w1 w gm dv pv gl gh T F hs s) (x : Ext w w') : OneAt w1 w' gm dv pv gl gh T F hs s :=
  ⟨(h.m.ext x).here, h.l.ext x, h.h.ext x, fun t p e => ⟨(h.a t p e).1.ext x, (h.a t p e).2⟩, h.d, h.len, h.lh, h.gh0⟩
/-- A new machine of a thread. -/
theorem OneAt.make (h : OneAt w1 w gm dv pv gl gh T F hs s) (x : Ext w w') {g t : Nat} (ht : t < T) (hg : w.heap.size ≤ g) (hb : Blk w' g 180 (acells gl t false false 0 0 false)) :
    OneAt w1 (w'.setCell ⟨gh, t, none⟩ (.pointer (some ⟨g, 0, none⟩))) gm dv pv gl gh T F (hs.set t (some (g, ⟨false, false, 0, 0, false⟩))) s := by
  have hgl := h.l.lt
  have hgh := h.h.lt
  have hlt : t < hs.length := by rw [h.len]; exact ht
  have hold : ∀ (t' : Nat) (p : Nat × AMs), (hs.set t (some (g, ⟨false, false, 0, 0, false⟩)))[t']? = some (some p) → (t' = t ∧ p = (g, ⟨false, false, 0, 0, false⟩)) ∨ (t' ≠ t ∧ hs[t']? = some (some p)) := fun t' p e => by
    rw [set_get _ _ _ _ hlt] at e
    by_cases e' : t' = t
    · rw [if_pos e'] at e
      exact Or.inl ⟨e', by injection e with e; injection e with e; exact e.symm⟩
    · rw [if_neg e'] at e
      exact Or.inr ⟨e', e⟩
  have low : ∀ (t' : Nat) (p : Nat × AMs), hs[t']? = some (some p) → p.1 < w.heap.size := fun t' p e => (h.a t' p e).1.lt
  have f : Fr (fun b => b = gh) w' (w'.setCell ⟨gh, t, none⟩ (.pointer (some ⟨g, 0, none⟩))) := Fr.setCell (S := fun b => b = gh) (p := ⟨gh, t, none⟩) (Fr.refl _ w') (Or.inl rfl) _
  have m2 := h.m.hold (Q' := fun q => q = gl ∨ q = gh ∨ ∃ (t' : Nat) (p : Nat × AMs), (hs.set t (some (g, ⟨false, false, 0, 0, false⟩)))[t']? = some (some p) ∧ q = p.1) x (fun q hq => by
    rcases hq with e | e | ⟨t', p, e, e2⟩
    · rw [e]; exact ⟨Nat.lt_of_lt_of_le hgl x.size, Or.inl (Or.inl rfl)⟩
    · rw [e]; exact ⟨Nat.lt_of_lt_of_le hgh x.size, Or.inl (Or.inr (Or.inl rfl))⟩
    · rw [e2]
      rcases hold t' p e with ⟨_, e3⟩ | ⟨_, e3⟩
      · rw [e3]; exact ⟨hb.lt, Or.inr hg⟩
      · exact ⟨Nat.lt_of_lt_of_le (low t' p e3) x.size, Or.inl (Or.inr (Or.inr ⟨t', p, e3, rfl⟩))⟩)
  refine ⟨m2.turn f (fun b e => Or.inr (Or.inl e)) (fun b e => by rw [e]; exact h.gh0), (h.l.ext x).far h.lh _, ?_, fun t' p e => ?_, fun t1 t2 p1 p2 e1 e2 e => ?_, by rw [List.length_set]; exact h.len, h.lh, h.gh0⟩
  · have := (h.h.ext x).set t (.pointer (some ⟨g, 0, none⟩))
    rw [List.map_set]
    exact this
  · rcases hold t' p e with ⟨e2, e3⟩ | ⟨_, e3⟩
    · subst e2 e3
      refine ⟨hb.far (by show g ≠ gh; omega) _, ⟨⟨Int.le_refl 0, by show (0 : Int) < _; decide⟩, Nat.zero_le _⟩, by show g ≠ gl; omega, by show g ≠ gh; omega, ?_⟩
      have := h.m.lt.1.size
      show w1.heap.size ≤ g
      omega
    · obtain ⟨b1, b2, b3, b4, b5⟩ := h.a t' p e3
      exact ⟨(b1.ext x).far b4 _, b2, b3, b4, b5⟩
  · rcases hold t1 p1 e1 with ⟨a1, a2⟩ | ⟨a1, a2⟩ <;> rcases hold t2 p2 e2 with ⟨c1, c2⟩ | ⟨c1, c2⟩
    · omega
    · have := low t2 p2 c2
      rw [a2] at e
      have : g = p2.1 := e
      omega
    · have := low t1 p1 a2
      rw [c2] at e
      have : p1.1 = g := e
      omega
    · exact h.d t1 t2 p1 p2 a2 c2 e
/-- A step of a thread's machine. -/
theorem OneAt.step (h : OneAt w1 w gm dv pv gl gh T F hs s) {t g : Nat} {x y : AMs} (e0 : hs[t]? = some (some (g, x))) (hy : y.Wf T)
    (m : IsMem (fun q => q = gl ∨ q = gh ∨ ∃ (t : Nat) (p : Nat × AMs), hs[t]? = some (some p) ∧ q = p.1) w' w1 w' gm dv pv s') (hb : Blk w' g 180 (y.cells gl t)) (k : ∀ b, (b = gl ∨ b = gh ∨ ∃ (t : Nat) (p : Nat × AMs), hs[t]? = some (some p) ∧ b = p.1) → b ≠ g → w'.heap[b]? = w.heap[b]?) :
    OneAt w1 w' gm dv pv gl gh T F (hs.set t (some (g, y))) s' := by
  obtain ⟨a1, a2, a3, a4, a5⟩ := h.a t (g, x) e0
  have hlt : t < hs.length := (List.getElem?_eq_some_iff.1 e0).1
  have hold : ∀ (t' : Nat) (p : Nat × AMs), (hs.set t (some (g, y)))[t']? = some (some p) → (t' = t ∧ p = (g, y)) ∨ (t' ≠ t ∧ hs[t']? = some (some p)) := fun t' p e => by
    rw [set_get _ _ _ _ hlt] at e
    by_cases e' : t' = t
    · rw [if_pos e'] at e
      exact Or.inl ⟨e', by injection e with e; injection e with e; exact e.symm⟩
    · rw [if_neg e'] at e
      exact Or.inr ⟨e', e⟩
  refine ⟨m.less (fun q hq => ?_) (fun _ _ => rfl), (k gl (Or.inl rfl) (fun e => a3 e.symm)).trans h.l, ?_, fun t' p e => ?_, fun t1 t2 p1 p2 e1 e2 e => ?_, by rw [List.length_set]; exact h.len, h.lh, h.gh0⟩
  · rcases hq with e | e | ⟨t', p, e, e2⟩
    · exact Or.inl e
    · exact Or.inr (Or.inl e)
    · rcases hold t' p e with ⟨_, e3⟩ | ⟨_, e3⟩
      · exact Or.inr (Or.inr ⟨t, _, e0, by rw [e2, e3]⟩)
      · exact Or.inr (Or.inr ⟨t', p, e3, e2⟩)
  · have e : (hs.set t (some (g, y))).map ptrA = hs.map ptrA := by
      rw [List.map_set]
      refine List.ext_getElem? (fun i => ?_)
      rw [set_get _ _ _ _ (by rw [List.length_map]; exact hlt)]
      by_cases ei : i = t
      · subst ei
        rw [if_pos rfl, List.getElem?_map, e0]
        rfl
      · rw [if_neg ei]
    rw [e]
    exact (k gh (Or.inr (Or.inl rfl)) (fun e => a4 e.symm)).trans h.h
  · rcases hold t' p e with ⟨e2, e3⟩ | ⟨e2, e3⟩
    · subst e2 e3
      exact ⟨hb, hy, a3, a4, a5⟩
    · obtain ⟨b1, b2, b3, b4, b5⟩ := h.a t' p e3
      exact ⟨(k p.1 (Or.inr (Or.inr ⟨t', p, e3, rfl⟩)) (fun e => e2 (h.d t' t p (g, x) e3 e0 e))).trans b1, b2, b3, b4, b5⟩
  · rcases hold t1 p1 e1 with ⟨c1, c2⟩ | ⟨c1, c2⟩ <;> rcases hold t2 p2 e2 with ⟨c3, c4⟩ | ⟨c3, c4⟩
    · omega
    · rw [c2] at e
      have := h.d t t2 (g, x) p2 e0 c4 e
      omega
    · rw [c4] at e
      have := h.d t1 t p1 (g, x) c2 e0 e
      omega
    · exact h.d t1 t2 p1 p2 c2 c4 e
end
/-- How often was something done at most. -/
def CalmN (n : Int) (s : MSt) : Prop := 0 ≤ s.clock ∧ s.clock ≤ n ∧ 0 ≤ s.bad ∧ s.bad ≤ n
theorem CalmN.calm {n : Int} {s : MSt} (h : CalmN n s) (hn : n ≤ 1000000000) : Calm s := ⟨h.1, by have := h.2.1; omega, h.2.2.1, by have := h.2.2.2; omega⟩
theorem CalmN.mono {n m : Int} {s : MSt} (h : CalmN n s) (hn : n ≤ m) : CalmN m s := ⟨h.1, by have := h.2.1; omega, h.2.2.1, by have := h.2.2.2; omega⟩
theorem CalmN.note {n : Int} {s : MSt} (h : CalmN n s) (x : Acc) (b : Bool) : CalmN (n + 1) (s.note x b) := by
  obtain ⟨h0, h1, h2, h3⟩ := h
  unfold MSt.note CalmN
  cases b <;> simp <;> omega
theorem CalmN.put {n : Int} {s : MSt} (h : CalmN n s) (a x : Int) : CalmN n (s.put a x) := by
  obtain ⟨_, _, _, e1, e2⟩ := put_parts s a x
  unfold CalmN
  rw [e1, e2]
  exact h
theorem CalmN.load {n : Int} {s : MSt} (h : CalmN n s) (t a : Int) : CalmN (n + 1) (s.load t a) := by
  unfold MSt.load
  split <;> exact h.note _ _
theorem CalmN.store {n : Int} {s : MSt} (h : CalmN n s) (t a x : Int) : CalmN (n + 1) (s.store t a x) := by
  unfold MSt.store
  split
  · exact (h.put a x).note _ _
  · exact h.note _ _
theorem CalmN.swap {n : Int} {s : MSt} (h : CalmN n s) (t a o x : Int) : CalmN (n + 1) (s.swap t a o x) := by
  unfold MSt.swap
  split
  · split
    · exact (h.put a x).note _ _
    · exact h.note _ _
  · exact h.note _ _
/-- What a step of an Advance does to the epoch. -/
theorem advS_one {P N T : Nat} {F : Nat → Int} {t E n : Int} {x : AMs} {s : MSt} (ok : MOk P N s) (hP : 0 < P) (hE : peekV s (-1) = E) (hW : W64 E) (hc : CalmN n s) (hx : x.Wf T) (hd : x.dn = false) (hm : x.mv = false) :
    MOk P N (advS F T t x s).2 ∧ peekV (advS F T t x s).2 (-1) = (if ((advS F T t x s).1.dn && (advS F T t x s).1.mv) = true then next64 E else E) ∧ CalmN (n + 1) (advS F T t x s).2 ∧ (advS F T t x s).1.Wf T ∧ ((advS F T t x s).1.dn = false → (advS F T t x s).1.mv = false) := by
  have hp : peekB s (-1) = true := ok.is (by omega) (by omega)
  unfold advS
  rw [if_neg (by rw [hd]; decide)]
  by_cases hl : x.ld = false
  · rw [if_pos hl]
    refine ⟨ok.load _ _, ?_, hc.load _ _, ⟨?_, hx.asked⟩, fun _ => hm⟩
    · rw [peekV_load]
      exact hE
    · show W64 (peekV s (-1))
      rw [hE]
      exact hW
  · rw [if_neg hl]
    by_cases ha : x.asked < T
    · rw [if_pos ha]
      refine ⟨ok.load _ _, ?_, hc.load _ _, ⟨hx.ep, ha⟩, fun _ => hm⟩
      rw [peekV_load, hm, Bool.and_false]
      exact hE
    · rw [if_neg ha]
      refine ⟨ok.swap _ _ _ _, ?_, hc.swap _ _ _ _, ⟨hx.ep, hx.asked⟩, fun e => by simp at e⟩
      rw [peekV_swap ok hp, swapB_is hp, hE]
      by_cases e : E = x.ep
      · rw [if_pos ⟨rfl, e⟩, if_pos (by simp [e]), e]
      · rw [if_neg (fun hh => e hh.2), if_neg (by simp [e])]
end Go.Proofs.YtfbobdkfibhcnaaGreat

/- An Advance alone: what its steps leave. Conditions: those that each theorem names. -/
namespace Go.Proofs.YtfbobdkfibhcnaaGreat
open Go.ChangeShapes Go.WideShapes Go.ChangeAt Go.RowKit
set_option linter.unusedVariables false
/-- So many steps of an Advance, alone. -/
def advRun (F : Nat → Int) (T : Nat) (t : Int) (s : MSt) (k : Nat) : AMs × MSt := stepsE (advS F T t) (⟨false, false, 0, 0, false⟩, s) k
theorem advRun_succ (F : Nat → Int) (T : Nat) (t : Int) (s : MSt) (k : Nat) : advRun F T t s (k + 1) = advS F T t (advRun F T t s k).1 (advRun F T t s k).2 := rfl
theorem advS_done {F : Nat → Int} {T : Nat} {t : Int} {x : AMs} {s : MSt} (h : x.dn = true) : advS F T t x s = (x, s) := by
  unfold advS
  rw [if_pos h]
theorem advRun_stay {F : Nat → Int} {T : Nat} {t : Int} {s : MSt} {k : Nat} (h : (advRun F T t s k).1.dn = true) : ∀ j, advRun F T t s (k + j) = advRun F T t s k
  | 0 => rfl
  | j + 1 => by
    rw [show k + (j + 1) = (k + j) + 1 by omega, advRun_succ, advRun_stay h j, advS_done h]
/-- Whatever a step leaves, it is well. -/
theorem advS_wf {F : Nat → Int} {T : Nat} {t n : Int} {x : AMs} {s : MSt} (hU : W64 (peekV s (-1))) (hx : x.Wf T) (hc : CalmN n s) : (advS F T t x s).1.Wf T ∧ CalmN (n + 1) (advS F T t x s).2 := by
  unfold advS
  by_cases hd : x.dn = true
  · rw [if_pos hd]
    exact ⟨hx, hc.mono (by omega)⟩
  rw [if_neg hd]
  by_cases hl : x.ld = false
  · rw [if_pos hl]
    exact ⟨⟨hU, hx.asked⟩, hc.load _ _⟩
  rw [if_neg hl]
  by_cases ha : x.asked < T
  · rw [if_pos ha]
    exact ⟨⟨hx.ep, ha⟩, hc.load _ _⟩
  rw [if_neg ha]
  exact ⟨⟨hx.ep, hx.asked⟩, hc.swap _ _ _ _⟩
section
variable {F : Nat → Int} {T : Nat} {t E : Int} {s : MSt}
/-- Ahead of the first one that holds it up. -/
theorem advRun_ask (hE : peekV s (-1) = E) : ∀ j : Nat, j ≤ T → (∀ i : Nat, i < j → holds E (peekV s (ann F i)) = false) →
    (advRun F T t s (j + 1)).1 = ⟨false, true, E, j, false⟩ ∧ (advRun F T t s (j + 1)).2.dev = s.dev ∧ (advRun F T t s (j + 1)).2.pas = s.pas ∧ (advRun F T t s (j + 1)).2.clock = s.clock + (j : Int) + 1
  | 0, _, _ => by
    have e : advRun F T t s 1 = (⟨false, true, peekV s (-1), 0, false⟩, s.load t (-1)) := rfl
    rw [e, hE]
    obtain ⟨e1, e2, e3⟩ := load_parts s t (-1)
    exact ⟨rfl, e1, e2, by rw [e3]; omega⟩
  | j + 1, hj, hn => by
    obtain ⟨h1, h2, h3, h4⟩ := advRun_ask hE j (by omega) (fun i hi => hn i (by omega))
    rw [advRun_succ F T t s (j + 1), h1]
    generalize (advRun F T t s (j + 1)).2 = s1 at *
    have e : advS F T t ⟨false, true, E, j, false⟩ s1 = (⟨holds E (peekV s1 (ann F j)), true, E, j + 1, false⟩, s1.load t (ann F j)) := by
      unfold advS
      rw [if_neg (by simp), if_neg (by simp), if_pos (by show j < T; omega)]
    rw [e, peekV_eq h2 h3, hn j (by omega)]
    obtain ⟨e1, e2, e3⟩ := load_parts s1 t (ann F j)
    exact ⟨rfl, e1.trans h2, e2.trans h3, by rw [e3, h4]; omega⟩
/-- One holds it up. -/
theorem advRun_held (hE : peekV s (-1) = E) (j : Nat) (hj : j < T) (hn : ∀ i : Nat, i < j → holds E (peekV s (ann F i)) = false) (hh : holds E (peekV s (ann F j)) = true) (k : Nat) (hk : j + 2 ≤ k) :
    (advRun F T t s k).1 = ⟨true, true, E, j + 1, false⟩ ∧ peekV (advRun F T t s k).2 (-1) = E ∧ (advRun F T t s k).2.clock = s.clock + (j : Int) + 2 := by
  obtain ⟨h1, h2, h3, h4⟩ := advRun_ask (F := F) (T := T) (t := t) hE j (by omega) hn
  have key : (advRun F T t s (j + 2)).1 = ⟨true, true, E, j + 1, false⟩ ∧ peekV (advRun F T t s (j + 2)).2 (-1) = E ∧ (advRun F T t s (j + 2)).2.clock = s.clock + (j : Int) + 2 := by
    rw [advRun_succ F T t s (j + 1), h1]
    generalize (advRun F T t s (j + 1)).2 = s1 at *
    have e : advS F T t ⟨false, true, E, j, false⟩ s1 = (⟨holds E (peekV s1 (ann F j)), true, E, j + 1, false⟩, s1.load t (ann F j)) := by
      unfold advS
      rw [if_neg (by simp), if_neg (by simp), if_pos (by show j < T; omega)]
    rw [e, peekV_eq h2 h3, hh]
    obtain ⟨e1, e2, e3⟩ := load_parts s1 t (ann F j)
    refine ⟨rfl, ?_, by rw [e3, h4]; omega⟩
    rw [peekV_load, peekV_eq h2 h3]
    exact hE
  have st := advRun_stay (k := j + 2) (F := F) (T := T) (t := t) (s := s) (by rw [key.1]) (k - (j + 2))
  rw [show j + 2 + (k - (j + 2)) = k by omega] at st
  rw [st]
  exact key
/-- Nobody holds it up. -/
theorem advRun_moves {P N : Nat} (ok : MOk P N s) (hP : 0 < P) (hE : peekV s (-1) = E) (hn : ∀ i : Nat, i < T → holds E (peekV s (ann F i)) = false) (k : Nat) (hk : T + 2 ≤ k) :
    (advRun F T t s k).1 = ⟨true, true, E, T, true⟩ ∧ peekV (advRun F T t s k).2 (-1) = next64 E ∧ (advRun F T t s k).2.clock = s.clock + (T : Int) + 2 := by
  obtain ⟨h1, h2, h3, h4⟩ := advRun_ask (F := F) (T := T) (t := t) hE T (Nat.le_refl _) hn
  have key : (advRun F T t s (T + 2)).1 = ⟨true, true, E, T, true⟩ ∧ peekV (advRun F T t s (T + 2)).2 (-1) = next64 E ∧ (advRun F T t s (T + 2)).2.clock = s.clock + (T : Int) + 2 := by
    rw [advRun_succ F T t s (T + 1), h1]
    generalize (advRun F T t s (T + 1)).2 = s1 at *
    have ok1 : MOk P N s1 := ok.same h2 h3
    have hp : peekB s1 (-1) = true := ok1.is (by omega) (by omega)
    have hE1 : peekV s1 (-1) = E := (peekV_eq h2 h3 _).trans hE
    have e : advS F T t ⟨false, true, E, T, false⟩ s1 = (⟨true, true, E, T, swapB s1 (-1) E⟩, s1.swap t (-1) E (next64 E)) := by
      unfold advS
      rw [if_neg (by simp), if_neg (by simp), if_neg (by show ¬ T < T; omega)]
    rw [e, swapB_is hp, hE1]
    refine ⟨by simp, ?_, by rw [swap_clock, h4]; omega⟩
    rw [peekV_swap ok1 hp, hE1, if_pos ⟨rfl, rfl⟩]
  have st := advRun_stay (k := T + 2) (F := F) (T := T) (t := t) (s := s) (by rw [key.1]) (k - (T + 2))
  rw [show T + 2 + (k - (T + 2)) = k by omega] at st
  rw [st]
  exact key
end
/-- Words that are put one behind the other at different places. -/
theorem putAll_peek {P N : Nat} {s : MSt} (h : MOk P N s) (f : Nat → Put) (hin : ∀ j, peekB s (f j).1 = true ∨ True) : ∀ k : Nat, (∀ i, i < k → -1 - (P : Int) < (f i).1 ∧ (f i).1 < (N : Int) * 8) → (∀ i j, i < j → j < k → (f i).1 ≠ (f j).1) →
    (∀ i, i < k → peekV (putAll s ((List.range k).map f)) (f i).1 = (f i).2) ∧ (∀ a, (∀ i, i < k → (f i).1 ≠ a) → peekV (putAll s ((List.range k).map f)) a = peekV s a)
  | 0, _, _ => ⟨fun i hi => absurd hi (by omega), fun a _ => rfl⟩
  | k + 1, hr, hd => by
    obtain ⟨h1, h2⟩ := putAll_peek h f hin k (fun i hi => hr i (by omega)) (fun i j hij hj => hd i j hij (by omega))
    have e : putAll s ((List.range (k + 1)).map f) = (putAll s ((List.range k).map f)).store 0 (f k).1 (f k).2 := by
      rw [List.range_succ, List.map_append, putAll_append]
      rfl
    have ok := h.putAll ((List.range k).map f)
    have hp := ok.is (hr k (by omega)).1 (hr k (by omega)).2
    rw [e]
    refine ⟨fun i hi => ?_, fun a ha => ?_⟩
    · rw [peekV_store ok hp]
      by_cases ei : i = k
      · rw [ei, if_pos rfl]
      · rw [if_neg (hd i k (by omega) (by omega))]
        exact h1 i (by omega)
    · rw [peekV_store ok hp, if_neg (fun e => ha k (by omega) e.symm)]
      exact h2 a (fun i hi => ha i (by omega))
end Go.Proofs.YtfbobdkfibhcnaaGreat
