/- What is at a word of a memory behind an access. Conditions: those that each theorem names. -/
import Derived.Test.YtolengkegjipaaaGreatKEpA
import Derived.Test.YtolengkegjipaaaGreatKEpB
namespace Go.Proofs.YtolengkegjipaaaGreat
open Go.ChangeShapes Go.WideShapes Go.ChangeAt Go.RowKit
set_option linter.unusedVariables false
theorem load_parts (s : MSt) (t a : Int) : (s.load t a).dev = s.dev ∧ (s.load t a).pas = s.pas ∧ (s.load t a).clock = s.clock + 1 := by
  unfold MSt.load
  split <;> exact ⟨rfl, rfl, rfl⟩
theorem peekV_eq {s s' : MSt} (hd : s'.dev = s.dev) (hp : s'.pas = s.pas) (b : Int) : peekV s' b = peekV s b := by
  unfold peekV
  rw [hd, hp]
theorem peekV_load (s : MSt) (t a b : Int) : peekV (s.load t a) b = peekV s b := peekV_eq (load_parts s t a).1 (load_parts s t a).2.1 b
theorem peekV_put2 {s : MSt} {a : Int} (b x : Int) (hs : s.dev.seen.length = s.dev.n * 8) (h : peekB s a = true) : peekV (s.put a x) b = if b = a then x else peekV s b := by
  unfold peekB at h
  unfold peekV MSt.put
  by_cases ha : 0 ≤ a
  · rw [if_pos ha] at h
    have h' : a < (s.dev.n : Int) * 8 := by simpa using h
    rw [if_pos ha]
    have hst : s.dev.store a x = { s.dev with seen := s.dev.seen.set a.toNat x } := by
      unfold DSt.store
      rw [if_pos ⟨ha, h'⟩]
    rw [hst]
    by_cases hb : 0 ≤ b
    · rw [if_pos hb, if_pos hb]
      unfold loadV
      simp only
      by_cases e : b = a
      · subst e
        rw [if_pos ⟨hb, h'⟩, if_pos rfl, List.getD_eq_getElem?_getD, List.getElem?_set_self (by omega)]
        rfl
      · rw [if_neg e]
        split
        · rw [List.getD_eq_getElem?_getD, List.getElem?_set_ne (by omega), ← List.getD_eq_getElem?_getD]
        · rfl
    · rw [if_neg hb, if_neg hb, if_neg (by omega)]
  · rw [if_neg ha] at h
    have h' : -1 - a < (s.pas.length : Int) := by simpa using h
    rw [if_neg ha]
    by_cases hb : 0 ≤ b
    · rw [if_pos hb, if_pos hb, if_neg (by omega)]
    · rw [if_neg hb, if_neg hb]
      simp only
      by_cases e : b = a
      · subst e
        rw [if_pos rfl, List.getD_eq_getElem?_getD, List.getElem?_set_self (by omega)]
        rfl
      · rw [if_neg e, List.getD_eq_getElem?_getD, List.getElem?_set_ne (by omega), ← List.getD_eq_getElem?_getD]
theorem put_parts (s : MSt) (a x : Int) : (s.put a x).pas.length = s.pas.length ∧ (s.put a x).dev.n = s.dev.n ∧ (s.put a x).dev.seen.length = s.dev.seen.length ∧ (s.put a x).clock = s.clock ∧ (s.put a x).bad = s.bad := by
  unfold MSt.put DSt.store
  (repeat' split) <;> simp
/-- How many words a memory has. -/
structure MOk (P N : Nat) (s : MSt) : Prop where
  p : s.pas.length = P
  n : s.dev.n = N
  l : s.dev.seen.length = s.dev.n * 8
theorem MOk.same {P N : Nat} {s s' : MSt} (h : MOk P N s) (hd : s'.dev = s.dev) (hp : s'.pas = s.pas) : MOk P N s' := ⟨by rw [hp]; exact h.p, by rw [hd]; exact h.n, by rw [hd]; exact h.l⟩
theorem MOk.put {P N : Nat} {s : MSt} (h : MOk P N s) (a x : Int) : MOk P N (s.put a x) := by
  obtain ⟨e1, e2, e3, _⟩ := put_parts s a x
  exact ⟨e1.trans h.p, e2.trans h.n, by rw [e3, e2]; exact h.l⟩
theorem MOk.note {P N : Nat} {s : MSt} (h : MOk P N s) (x : Acc) (b : Bool) : MOk P N (s.note x b) := ⟨h.p, h.n, h.l⟩
theorem MOk.load {P N : Nat} {s : MSt} (h : MOk P N s) (t a : Int) : MOk P N (s.load t a) := h.same (load_parts s t a).1 (load_parts s t a).2.1
theorem MOk.store {P N : Nat} {s : MSt} (h : MOk P N s) (t a x : Int) : MOk P N (s.store t a x) := by
  unfold MSt.store
  split
  · exact (h.put a x).note _ _
  · exact h.note _ _
theorem MOk.swap {P N : Nat} {s : MSt} (h : MOk P N s) (t a o x : Int) : MOk P N (s.swap t a o x) := by
  unfold MSt.swap
  split
  · split
    · exact (h.put a x).note _ _
    · exact h.note _ _
  · exact h.note _ _
theorem MOk.is {P N : Nat} {s : MSt} (h : MOk P N s) {a : Int} (h0 : -1 - (P : Int) < a) (h1 : a < (N : Int) * 8) : peekB s a = true := by
  unfold peekB
  rw [h.p, h.n]
  split <;> simp <;> omega
theorem peekV_store {P N : Nat} {s : MSt} (h : MOk P N s) {a : Int} (ha : peekB s a = true) (t x b : Int) : peekV (s.store t a x) b = if b = a then x else peekV s b := by
  unfold MSt.store
  rw [if_pos ha]
  exact (peekV_eq rfl rfl b).trans (peekV_put2 b x h.l ha)
theorem peekV_swap {P N : Nat} {s : MSt} (h : MOk P N s) {a : Int} (ha : peekB s a = true) (t o x b : Int) : peekV (s.swap t a o x) b = if b = a ∧ peekV s a = o then x else peekV s b := by
  unfold MSt.swap
  rw [if_pos ha]
  by_cases e : peekV s a = o
  · rw [if_pos e]
    refine (peekV_eq rfl rfl b).trans ((peekV_put2 b x h.l ha).trans ?_)
    by_cases eb : b = a
    · rw [if_pos eb, if_pos ⟨eb, e⟩]
    · rw [if_neg eb, if_neg (fun hh => eb hh.1)]
  · rw [if_neg e, if_neg (fun hh => e hh.2)]
    exact peekV_eq rfl rfl b
theorem swapB_is {s : MSt} {a : Int} (ha : peekB s a = true) (o : Int) : swapB s a o = decide (peekV s a = o) := by
  unfold swapB
  rw [ha, Bool.true_and]
theorem MOk.start (t s l b : Nat) : MOk (2 + t + s) (wN t s l b) (startSt t s l b) := ⟨by simp [startSt, MSt.new], rfl, by simp [startSt, MSt.new, DSt.new]⟩
theorem putAll_append (s : MSt) (ys zs : List Put) : putAll s (ys ++ zs) = putAll (putAll s ys) zs := List.foldl_append ..
theorem MOk.putAll {P N : Nat} : ∀ {s : MSt} (h : MOk P N s) (ys : List Put), MOk P N (putAll s ys)
  | _, h, [] => h
  | _, h, y :: ys => MOk.putAll (h.store 0 y.1 y.2) ys
theorem start_peek (t s l b : Nat) (a : Int) : peekV (startSt t s l b) a = 0 := by
  have e : ∀ (n i : Nat), (List.replicate n (0 : Int)).getD i 0 = 0 := fun n i => by
    rw [List.getD_eq_getElem?_getD, List.getElem?_replicate]
    split <;> rfl
  unfold peekV
  split
  · unfold loadV
    split
    · exact e _ _
    · rfl
  · exact e _ _
end Go.Proofs.YtolengkegjipaaaGreat


/- Several Advances between one another: how they lie, and what a step of one leaves. Conditions: those that each theorem names. -/
namespace Go.Proofs.YtolengkegjipaaaGreat
open Go.ChangeShapes Go.WideShapes Go.ChangeAt Go.RowKit
set_option linter.unusedVariables false
/-- Who has which machine: its block, and its state. -/
abbrev Hs := List (Option (Nat × AMs))
section
variable {w1 w w' : World} {gm gl gh T : Nat} {dv pv : Value} {F : Nat → Int} {hs : Hs} {s s' : MSt}
end
/-- How often was something done at most. -/
def CalmN (n : Int) (s : MSt) : Prop := 0 ≤ s.clock ∧ s.clock ≤ n ∧ 0 ≤ s.bad ∧ s.bad ≤ n
theorem CalmN.calm {n : Int} {s : MSt} (h : CalmN n s) (hn : n ≤ 1000000000) : Calm s := ⟨h.1, by have := h.2.1; omega, h.2.2.1, by have := h.2.2.2; omega⟩
theorem CalmN.mono {n m : Int} {s : MSt} (h : CalmN n s) (hn : n ≤ m) : CalmN m s := ⟨h.1, by have := h.2.1; omega, h.2.2.1, by have := h.2.2.2; omega⟩
theorem CalmN.note {n : Int} {s : MSt} (h : CalmN n s) (x : Acc) (b : Bool) : CalmN (n + 1) (s.note x b) := by
  obtain ⟨h0, h1, h2, h3⟩ := h
  unfold MSt.note CalmN
  cases b <;> simp <;> omega
theorem CalmN.put {n : Int} {s : MSt} (h : CalmN n s) (a x : Int) : CalmN n (s.put a x) := by
  obtain ⟨_, _, _, e1, e2⟩ := put_parts s a x
  unfold CalmN
  rw [e1, e2]
  exact h
theorem CalmN.load {n : Int} {s : MSt} (h : CalmN n s) (t a : Int) : CalmN (n + 1) (s.load t a) := by
  unfold MSt.load
  split <;> exact h.note _ _
theorem CalmN.store {n : Int} {s : MSt} (h : CalmN n s) (t a x : Int) : CalmN (n + 1) (s.store t a x) := by
  unfold MSt.store
  split
  · exact (h.put a x).note _ _
  · exact h.note _ _
theorem CalmN.swap {n : Int} {s : MSt} (h : CalmN n s) (t a o x : Int) : CalmN (n + 1) (s.swap t a o x) := by
  unfold MSt.swap
  split
  · split
    · exact (h.put a x).note _ _
    · exact h.note _ _
  · exact h.note _ _
end Go.Proofs.YtolengkegjipaaaGreat


/- An Advance alone: what its steps leave. Conditions: those that each theorem names. -/
namespace Go.Proofs.YtolengkegjipaaaGreat
open Go.ChangeShapes Go.WideShapes Go.ChangeAt Go.RowKit
set_option linter.unusedVariables false
section
variable {F : Nat → Int} {T : Nat} {t E : Int} {s : MSt}
end
end Go.Proofs.YtolengkegjipaaaGreat


/- The free list alone: what a Pop and a Push leave. Conditions: those that each theorem names. -/
namespace Go.Proofs.YtolengkegjipaaaGreat
open Go.ChangeShapes Go.WideShapes Go.ChangeAt Go.RowKit
set_option linter.unusedVariables false
section
variable {t s l b n : Nat}
end
end Go.Proofs.YtolengkegjipaaaGreat


/- A Pop and a Push alone, step by step: what they leave is well. Conditions: those that each theorem names. -/
namespace Go.Proofs.YtolengkegjipaaaGreat
open Go.ChangeShapes Go.WideShapes Go.ChangeAt Go.RowKit
set_option linter.unusedVariables false
theorem PMs.wf0 : (⟨0, 0, 0, false⟩ : PMs).Wf := ⟨Or.inl rfl, ⟨Int.le_refl 0, by show (0 : Int) < _; decide⟩, ⟨by show _ ≤ (0 : Int); decide, by show (0 : Int) < _; decide⟩⟩
end Go.Proofs.YtolengkegjipaaaGreat

