/- An Advance alone: what its steps leave. Conditions: those that each theorem names. -/
import Derived.Test.YtfbobdkfibhcnaaOne1
namespace Go.Proofs.Ytfbobdkfibhcnaa
open Go.ChangeShapes Go.WideShapes Go.ChangeAt Go.RowKit
set_option linter.unusedVariables false
/-- So many steps of an Advance, alone. -/
def advRun (F : Nat → Int) (T : Nat) (t : Int) (s : MSt) (k : Nat) : AMs × MSt := stepsE (advS F T t) (⟨false, false, 0, 0, false⟩, s) k
theorem advRun_succ (F : Nat → Int) (T : Nat) (t : Int) (s : MSt) (k : Nat) : advRun F T t s (k + 1) = advS F T t (advRun F T t s k).1 (advRun F T t s k).2 := rfl
theorem advS_done {F : Nat → Int} {T : Nat} {t : Int} {x : AMs} {s : MSt} (h : x.dn = true) : advS F T t x s = (x, s) := by
  unfold advS
  rw [if_pos h]
theorem advRun_stay {F : Nat → Int} {T : Nat} {t : Int} {s : MSt} {k : Nat} (h : (advRun F T t s k).1.dn = true) : ∀ j, advRun F T t s (k + j) = advRun F T t s k
  | 0 => rfl
  | j + 1 => by
    rw [show k + (j + 1) = (k + j) + 1 by omega, advRun_succ, advRun_stay h j, advS_done h]
/-- Whatever a step leaves, it is well. -/
theorem advS_wf {F : Nat → Int} {T : Nat} {t n : Int} {x : AMs} {s : MSt} (hU : W64 (peekV s (-1))) (hx : x.Wf T) (hc : CalmN n s) : (advS F T t x s).1.Wf T ∧ CalmN (n + 1) (advS F T t x s).2 := by
  unfold advS
  by_cases hd : x.dn = true
  · rw [if_pos hd]
    exact ⟨hx, hc.mono (by omega)⟩
  rw [if_neg hd]
  by_cases hl : x.ld = false
  · rw [if_pos hl]
    exact ⟨⟨hU, hx.asked⟩, hc.load _ _⟩
  rw [if_neg hl]
  by_cases ha : x.asked < T
  · rw [if_pos ha]
    exact ⟨⟨hx.ep, ha⟩, hc.load _ _⟩
  rw [if_neg ha]
  exact ⟨⟨hx.ep, hx.asked⟩, hc.swap _ _ _ _⟩
section
variable {F : Nat → Int} {T : Nat} {t E : Int} {s : MSt}
/-- Ahead of the first one that holds it up. -/
theorem advRun_ask (hE : peekV s (-1) = E) : ∀ j : Nat, j ≤ T → (∀ i : Nat, i < j → holds E (peekV s (ann F i)) = false) →
    (advRun F T t s (j + 1)).1 = ⟨false, true, E, j, false⟩ ∧ (advRun F T t s (j + 1)).2.dev = s.dev ∧ (advRun F T t s (j + 1)).2.pas = s.pas ∧ (advRun F T t s (j + 1)).2.clock = s.clock + (j : Int) + 1
  | 0, _, _ => by
    have e : advRun F T t s 1 = (⟨false, true, peekV s (-1), 0, false⟩, s.load t (-1)) := rfl
    rw [e, hE]
    obtain ⟨e1, e2, e3⟩ := load_parts s t (-1)
    exact ⟨rfl, e1, e2, by rw [e3]; omega⟩
  | j + 1, hj, hn => by
    obtain ⟨h1, h2, h3, h4⟩ := advRun_ask hE j (by omega) (fun i hi => hn i (by omega))
    rw [advRun_succ F T t s (j + 1), h1]
    generalize (advRun F T t s (j + 1)).2 = s1 at *
    have e : advS F T t ⟨false, true, E, j, false⟩ s1 = (⟨holds E (peekV s1 (ann F j)), true, E, j + 1, false⟩, s1.load t (ann F j)) := by
      unfold advS
      rw [if_neg (by simp), if_neg (by simp), if_pos (by show j < T; omega)]
    rw [e, peekV_eq h2 h3, hn j (by omega)]
    obtain ⟨e1, e2, e3⟩ := load_parts s1 t (ann F j)
    exact ⟨rfl, e1.trans h2, e2.trans h3, by rw [e3, h4]; omega⟩
/-- One holds it up. -/
theorem advRun_held (hE : peekV s (-1) = E) (j : Nat) (hj : j < T) (hn : ∀ i : Nat, i < j → holds E (peekV s (ann F i)) = false) (hh : holds E (peekV s (ann F j)) = true) (k : Nat) (hk : j + 2 ≤ k) :
    (advRun F T t s k).1 = ⟨true, true, E, j + 1, false⟩ ∧ peekV (advRun F T t s k).2 (-1) = E ∧ (advRun F T t s k).2.clock = s.clock + (j : Int) + 2 := by
  obtain ⟨h1, h2, h3, h4⟩ := advRun_ask (F := F) (T := T) (t := t) hE j (by omega) hn
  have key : (advRun F T t s (j + 2)).1 = ⟨true, true, E, j + 1, false⟩ ∧ peekV (advRun F T t s (j + 2)).2 (-1) = E ∧ (advRun F T t s (j + 2)).2.clock = s.clock + (j : Int) + 2 := by
    rw [advRun_succ F T t s (j + 1), h1]
    generalize (advRun F T t s (j + 1)).2 = s1 at *
    have e : advS F T t ⟨false, true, E, j, false⟩ s1 = (⟨holds E (peekV s1 (ann F j)), true, E, j + 1, false⟩, s1.load t (ann F j)) := by
      unfold advS
      rw [if_neg (by simp), if_neg (by simp), if_pos (by show j < T; omega)]
    rw [e, peekV_eq h2 h3, hh]
    obtain ⟨e1, e2, e3⟩ := load_parts s1 t (ann F j)
    refine ⟨rfl, ?_, by rw [e3, h4]; omega⟩
    rw [peekV_load, peekV_eq h2 h3]
    exact hE
  have st := advRun_stay (k := j + 2) (F := F) (T := T) (t := t) (s := s) (by rw [key.1]) (k - (j + 2))
  rw [show j + 2 + (k - (j + 2)) = k by omega] at st
  rw [st]
  exact key
/-- Nobody holds it up. -/
theorem advRun_moves {P N : Nat} (ok : MOk P N s) (hP : 0 < P) (hE : peekV s (-1) = E) (hn : ∀ i : Nat, i < T → holds E (peekV s (ann F i)) = false) (k : Nat) (hk : T + 2 ≤ k) :
    (advRun F T t s k).1 = ⟨true, true, E, T, true⟩ ∧ peekV (advRun F T t s k).2 (-1) = next64 E ∧ (advRun F T t s k).2.clock = s.clock + (T : Int) + 2 := by
  obtain ⟨h1, h2, h3, h4⟩ := advRun_ask (F := F) (T := T) (t := t) hE T (Nat.le_refl _) hn
  have key : (advRun F T t s (T + 2)).1 = ⟨true, true, E, T, true⟩ ∧ peekV (advRun F T t s (T + 2)).2 (-1) = next64 E ∧ (advRun F T t s (T + 2)).2.clock = s.clock + (T : Int) + 2 := by
    rw [advRun_succ F T t s (T + 1), h1]
    generalize (advRun F T t s (T + 1)).2 = s1 at *
    have ok1 : MOk P N s1 := ok.same h2 h3
    have hp : peekB s1 (-1) = true := ok1.is (by omega) (by omega)
    have hE1 : peekV s1 (-1) = E := (peekV_eq h2 h3 _).trans hE
    have e : advS F T t ⟨false, true, E, T, false⟩ s1 = (⟨true, true, E, T, swapB s1 (-1) E⟩, s1.swap t (-1) E (next64 E)) := by
      unfold advS
      rw [if_neg (by simp), if_neg (by simp), if_neg (by show ¬ T < T; omega)]
    rw [e, swapB_is hp, hE1]
    refine ⟨by simp, ?_, by rw [swap_clock, h4]; omega⟩
    rw [peekV_swap ok1 hp, hE1, if_pos ⟨rfl, rfl⟩]
  have st := advRun_stay (k := T + 2) (F := F) (T := T) (t := t) (s := s) (by rw [key.1]) (k - (T + 2))
  rw [show T + 2 + (k - (T + 2)) = k by omega] at st
  rw [st]
  exact key
end
/-- Words that are put one behind the other at different places. -/
theorem putAll_peek {P N : Nat} {s : MSt} (h : MOk P N s) (f : Nat → Put) (hin : ∀ j, peekB s (f j).1 = true ∨ True) : ∀ k : Nat, (∀ i, i < k → -1 - (P : Int) < (f i).1 ∧ (f i).1 < (N : Int) * 8) → (∀ i j, i < j → j < k → (f i).1 ≠ (f j).1) →
    (∀ i, i < k → peekV (putAll s ((List.range k).map f)) (f i).1 = (f i).2) ∧ (∀ a, (∀ i, i < k → (f i).1 ≠ a) → peekV (putAll s ((List.range k).map f)) a = peekV s a)
  | 0, _, _ => ⟨fun i hi => absurd hi (by omega), fun a _ => rfl⟩
  | k + 1, hr, hd => by
    obtain ⟨h1, h2⟩ := putAll_peek h f hin k (fun i hi => hr i (by omega)) (fun i j hij hj => hd i j hij (by omega))
    have e : putAll s ((List.range (k + 1)).map f) = (putAll s ((List.range k).map f)).store 0 (f k).1 (f k).2 := by
      rw [List.range_succ, List.map_append, putAll_append]
      rfl
    have ok := h.putAll ((List.range k).map f)
    have hp := ok.is (hr k (by omega)).1 (hr k (by omega)).2
    rw [e]
    refine ⟨fun i hi => ?_, fun a ha => ?_⟩
    · rw [peekV_store ok hp]
      by_cases ei : i = k
      · rw [ei, if_pos rfl]
      · rw [if_neg (hd i k (by omega) (by omega))]
        exact h1 i (by omega)
    · rw [peekV_store ok hp, if_neg (fun e => ha k (by omega) e.symm)]
      exact h2 a (fun i hi => ha i (by omega))
end Go.Proofs.Ytfbobdkfibhcnaa
