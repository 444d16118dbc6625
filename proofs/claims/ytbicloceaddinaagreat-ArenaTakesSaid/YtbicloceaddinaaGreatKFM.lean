/- What is at a word of a memory behind an access. Conditions: those that each theorem names. -/
import Derived.Test.YtbicloceaddinaaGreatKEpA
import Derived.Test.YtbicloceaddinaaGreatKEpB
namespace Go.Proofs.YtbicloceaddinaaGreat
open Go.ChangeShapes Go.WideShapes Go.ChangeAt Go.RowKit
set_option linter.unusedVariables false
theorem load_parts (s : MSt) (t a : Int) : (s.load t a).dev = s.dev ∧ (s.load t a).pas = s.pas ∧ (s.load t a).clock = s.clock + 1 := by
  unfold MSt.load
  split <;> exact ⟨rfl, rfl, rfl⟩
theorem peekV_eq {s s' : MSt} (hd : s'.dev = s.dev) (hp : s'.pas = s.pas) (b : Int) : peekV s' b = peekV s b := by
  unfold peekV
  rw [hd, hp]
theorem peekV_load (s : MSt) (t a b : Int) : peekV (s.load t a) b = peekV s b := peekV_eq (load_parts s t a).1 (load_parts s t a).2.1 b
theorem peekV_put2 {s : MSt} {a : Int} (b x : Int) (hs : s.dev.seen.length = s.dev.n * 8) (h : peekB s a = true) : peekV (s.put a x) b = if b = a then x else peekV s b := by
  unfold peekB at h
  unfold peekV MSt.put
  by_cases ha : 0 ≤ a
  · rw [if_pos ha] at h
    have h' : a < (s.dev.n : Int) * 8 := by simpa using h
    rw [if_pos ha]
    have hst : s.dev.store a x = { s.dev with seen := s.dev.seen.set a.toNat x } := by
      unfold DSt.store
      rw [if_pos ⟨ha, h'⟩]
    rw [hst]
    by_cases hb : 0 ≤ b
    · rw [if_pos hb, if_pos hb]
      unfold loadV
      simp only
      by_cases e : b = a
      · subst e
        rw [if_pos ⟨hb, h'⟩, if_pos rfl, List.getD_eq_getElem?_getD, List.getElem?_set_self (by omega)]
        rfl
      · rw [if_neg e]
        split
        · rw [List.getD_eq_getElem?_getD, List.getElem?_set_ne (by omega), ← List.getD_eq_getElem?_getD]
        · rfl
    · rw [if_neg hb, if_neg hb, if_neg (by omega)]
  · rw [if_neg ha] at h
    have h' : -1 - a < (s.pas.length : Int) := by simpa using h
    rw [if_neg ha]
    by_cases hb : 0 ≤ b
    · rw [if_pos hb, if_pos hb, if_neg (by omega)]
    · rw [if_neg hb, if_neg hb]
      simp only
      by_cases e : b = a
      · subst e
        rw [if_pos rfl, List.getD_eq_getElem?_getD, List.getElem?_set_self (by omega)]
        rfl
      · rw [if_neg e, List.getD_eq_getElem?_getD, List.getElem?_set_ne (by omega), ← List.getD_eq_getElem?_getD]
theorem put_parts (s : MSt) (a x : Int) : (s.put a x).pas.length = s.pas.length ∧ (s.put a x).dev.n = s.dev.n ∧ (s.put a x).dev.seen.length = s.dev.seen.length ∧ (s.put a x).clock = s.clock ∧ (s.put a x).bad = s.bad := by
  unfold MSt.put DSt.store
  (repeat' split) <;> simp
/-- How many words a memory has. -/
structure MOk (P N : Nat) (s : MSt) : Prop where
  p : s.pas.length = P
  n : s.dev.n = N
  l : s.dev.seen.length = s.dev.n * 8
theorem MOk.same {P N : Nat} {s s' : MSt} (h : MOk P N s) (hd : s'.dev = s.dev) (hp : s'.pas = s.pas) : MOk P N s' := ⟨by rw [hp]; exact h.p, by rw [hd]; exact h.n, by rw [hd]; exact h.l⟩
theorem MOk.put {P N : Nat} {s : MSt} (h : MOk P N s) (a x : Int) : MOk P N (s.put a x) := by
  obtain ⟨e1, e2, e3, _⟩ := put_parts s a x
  exact ⟨e1.trans h.p, e2.trans h.n, by rw [e3, e2]; exact h.l⟩
theorem MOk.note {P N : Nat} {s : MSt} (h : MOk P N s) (x : Acc) (b : Bool) : MOk P N (s.note x b) := ⟨h.p, h.n, h.l⟩
theorem MOk.load {P N : Nat} {s : MSt} (h : MOk P N s) (t a : Int) : MOk P N (s.load t a) := h.same (load_parts s t a).1 (load_parts s t a).2.1
theorem MOk.store {P N : Nat} {s : MSt} (h : MOk P N s) (t a x : Int) : MOk P N (s.store t a x) := by
  unfold MSt.store
  split
  · exact (h.put a x).note _ _
  · exact h.note _ _
theorem MOk.swap {P N : Nat} {s : MSt} (h : MOk P N s) (t a o x : Int) : MOk P N (s.swap t a o x) := by
  unfold MSt.swap
  split
  · split
    · exact (h.put a x).note _ _
    · exact h.note _ _
  · exact h.note _ _
theorem MOk.is {P N : Nat} {s : MSt} (h : MOk P N s) {a : Int} (h0 : -1 - (P : Int) < a) (h1 : a < (N : Int) * 8) : peekB s a = true := by
  unfold peekB
  rw [h.p, h.n]
  split <;> simp <;> omega
theorem peekV_store {P N : Nat} {s : MSt} (h : MOk P N s) {a : Int} (ha : peekB s a = true) (t x b : Int) : peekV (s.store t a x) b = if b = a then x else peekV s b := by
  unfold MSt.store
  rw [if_pos ha]
  exact (peekV_eq rfl rfl b).trans (peekV_put2 b x h.l ha)
theorem peekV_swap {P N : Nat} {s : MSt} (h : MOk P N s) {a : Int} (ha : peekB s a = true) (t o x b : Int) : peekV (s.swap t a o x) b = if b = a ∧ peekV s a = o then x else peekV s b := by
  unfold MSt.swap
  rw [if_pos ha]
  by_cases e : peekV s a = o
  · rw [if_pos e]
    refine (peekV_eq rfl rfl b).trans ((peekV_put2 b x h.l ha).trans ?_)
    by_cases eb : b = a
    · rw [if_pos eb, if_pos ⟨eb, e⟩]
    · rw [if_neg eb, if_neg (fun hh => eb hh.1)]
  · rw [if_neg e, if_neg (fun hh => e hh.2)]
    exact peekV_eq rfl rfl b
theorem swapB_is {s : MSt} {a : Int} (ha : peekB s a = true) (o : Int) : swapB s a o = decide (peekV s a = o) := by
  unfold swapB
  rw [ha, Bool.true_and]
theorem MOk.start (t s l b : Nat) : MOk (2 + t + s) (wN t s l b) (startSt t s l b) := ⟨by simp [startSt, MSt.new], rfl, by simp [startSt, MSt.new, DSt.new]⟩
theorem putAll_append (s : MSt) (ys zs : List Put) : putAll s (ys ++ zs) = putAll (putAll s ys) zs := List.foldl_append ..
theorem MOk.putAll {P N : Nat} : ∀ {s : MSt} (h : MOk P N s) (ys : List Put), MOk P N (putAll s ys)
  | _, h, [] => h
  | _, h, y :: ys => MOk.putAll (h.store 0 y.1 y.2) ys
theorem start_peek (t s l b : Nat) (a : Int) : peekV (startSt t s l b) a = 0 := by
  have e : ∀ (n i : Nat), (List.replicate n (0 : Int)).getD i 0 = 0 := fun n i => by
    rw [List.getD_eq_getElem?_getD, List.getElem?_replicate]
    split <;> rfl
  unfold peekV
  split
  · unfold loadV
    split
    · exact e _ _
    · rfl
  · exact e _ _
/-- The words of a config's passing parts. -/
theorem ann_at {t s l b : Nat} {n : Int} (h0 : 0 ≤ n) (h1 : n < (t : Int)) : ann (layF t s l b) n = -3 - n := by
  have e : ann (layF t s l b) n = wordAt (layF t s l b 4) (-3) (-1) (t : Int) n 0 := rfl
  rw [e]
  unfold wordAt
  rw [if_pos ⟨h0, h1⟩]
  omega
theorem aft_at {t s l b : Nat} {n : Int} (h0 : 0 ≤ n) (h1 : n < (s : Int)) : aft (layF t s l b) n = -3 - (t : Int) - n := by
  have e : aft (layF t s l b) n = wordAt (layF t s l b 4) (-1 - (2 + (t : Int))) (-1) (s : Int) n 0 := rfl
  rw [e]
  unfold wordAt
  rw [if_pos ⟨h0, h1⟩]
  omega
end Go.Proofs.YtbicloceaddinaaGreat


/- Several Advances between one another: how they lie, and what a step of one leaves. Conditions: those that each theorem names. -/
namespace Go.Proofs.YtbicloceaddinaaGreat
open Go.ChangeShapes Go.WideShapes Go.ChangeAt Go.RowKit
set_option linter.unusedVariables false
/-- Who has which machine: its block, and its state. -/
abbrev Hs := List (Option (Nat × AMs))
section
variable {w1 w w' : World} {gm gl gh T : Nat} {dv pv : Value} {F : Nat → Int} {hs : Hs} {s s' : MSt}
end
/-- How often was something done at most. -/
def CalmN (n : Int) (s : MSt) : Prop := 0 ≤ s.clock ∧ s.clock ≤ n ∧ 0 ≤ s.bad ∧ s.bad ≤ n
theorem CalmN.calm {n : Int} {s : MSt} (h : CalmN n s) (hn : n ≤ 1000000000) : Calm s := ⟨h.1, by have := h.2.1; omega, h.2.2.1, by have := h.2.2.2; omega⟩
theorem CalmN.mono {n m : Int} {s : MSt} (h : CalmN n s) (hn : n ≤ m) : CalmN m s := ⟨h.1, by have := h.2.1; omega, h.2.2.1, by have := h.2.2.2; omega⟩
theorem CalmN.note {n : Int} {s : MSt} (h : CalmN n s) (x : Acc) (b : Bool) : CalmN (n + 1) (s.note x b) := by
  obtain ⟨h0, h1, h2, h3⟩ := h
  unfold MSt.note CalmN
  cases b <;> simp <;> omega
theorem CalmN.put {n : Int} {s : MSt} (h : CalmN n s) (a x : Int) : CalmN n (s.put a x) := by
  obtain ⟨_, _, _, e1, e2⟩ := put_parts s a x
  unfold CalmN
  rw [e1, e2]
  exact h
theorem CalmN.load {n : Int} {s : MSt} (h : CalmN n s) (t a : Int) : CalmN (n + 1) (s.load t a) := by
  unfold MSt.load
  split <;> exact h.note _ _
theorem CalmN.store {n : Int} {s : MSt} (h : CalmN n s) (t a x : Int) : CalmN (n + 1) (s.store t a x) := by
  unfold MSt.store
  split
  · exact (h.put a x).note _ _
  · exact h.note _ _
theorem CalmN.swap {n : Int} {s : MSt} (h : CalmN n s) (t a o x : Int) : CalmN (n + 1) (s.swap t a o x) := by
  unfold MSt.swap
  split
  · split
    · exact (h.put a x).note _ _
    · exact h.note _ _
  · exact h.note _ _
end Go.Proofs.YtbicloceaddinaaGreat


/- An Advance alone: what its steps leave. Conditions: those that each theorem names. -/
namespace Go.Proofs.YtbicloceaddinaaGreat
open Go.ChangeShapes Go.WideShapes Go.ChangeAt Go.RowKit
set_option linter.unusedVariables false
/-- Whatever a step leaves, it is well. -/
theorem advS_wf {F : Nat → Int} {T : Nat} {t n : Int} {x : AMs} {s : MSt} (hU : W64 (peekV s (-1))) (hx : x.Wf T) (hc : CalmN n s) : (advS F T t x s).1.Wf T ∧ CalmN (n + 1) (advS F T t x s).2 := by
  unfold advS
  by_cases hd : x.dn = true
  · rw [if_pos hd]
    exact ⟨hx, hc.mono (by omega)⟩
  rw [if_neg hd]
  by_cases hl : x.ld = false
  · rw [if_pos hl]
    exact ⟨⟨hU, hx.asked⟩, hc.load _ _⟩
  rw [if_neg hl]
  by_cases ha : x.asked < T
  · rw [if_pos ha]
    exact ⟨⟨hx.ep, ha⟩, hc.load _ _⟩
  rw [if_neg ha]
  exact ⟨⟨hx.ep, hx.asked⟩, hc.swap _ _ _ _⟩
section
variable {F : Nat → Int} {T : Nat} {t E : Int} {s : MSt}
end
/-- Words that are put one behind the other at different places. -/
theorem putAll_peek {P N : Nat} {s : MSt} (h : MOk P N s) (f : Nat → Put) (hin : ∀ j, peekB s (f j).1 = true ∨ True) : ∀ k : Nat, (∀ i, i < k → -1 - (P : Int) < (f i).1 ∧ (f i).1 < (N : Int) * 8) → (∀ i j, i < j → j < k → (f i).1 ≠ (f j).1) →
    (∀ i, i < k → peekV (putAll s ((List.range k).map f)) (f i).1 = (f i).2) ∧ (∀ a, (∀ i, i < k → (f i).1 ≠ a) → peekV (putAll s ((List.range k).map f)) a = peekV s a)
  | 0, _, _ => ⟨fun i hi => absurd hi (by omega), fun a _ => rfl⟩
  | k + 1, hr, hd => by
    obtain ⟨h1, h2⟩ := putAll_peek h f hin k (fun i hi => hr i (by omega)) (fun i j hij hj => hd i j hij (by omega))
    have e : putAll s ((List.range (k + 1)).map f) = (putAll s ((List.range k).map f)).store 0 (f k).1 (f k).2 := by
      rw [List.range_succ, List.map_append, putAll_append]
      rfl
    have ok := h.putAll ((List.range k).map f)
    have hp := ok.is (hr k (by omega)).1 (hr k (by omega)).2
    rw [e]
    refine ⟨fun i hi => ?_, fun a ha => ?_⟩
    · rw [peekV_store ok hp]
      by_cases ei : i = k
      · rw [ei, if_pos rfl]
      · rw [if_neg (hd i k (by omega) (by omega))]
        exact h1 i (by omega)
    · rw [peekV_store ok hp, if_neg (fun e => ha k (by omega) e.symm)]
      exact h2 a (fun i hi => ha i (by omega))
end Go.Proofs.YtbicloceaddinaaGreat


/- The free list alone: what a Pop and a Push leave. Conditions: those that each theorem names. -/
namespace Go.Proofs.YtbicloceaddinaaGreat
open Go.ChangeShapes Go.WideShapes Go.ChangeAt Go.RowKit
set_option linter.unusedVariables false
/-- The slots 0 .. n - 1. -/
def upN (n : Nat) : List Int := (List.range n).map fun (i : Nat) => (i : Int)
theorem upN_len (n : Nat) : (upN n).length = n := by simp [upN]
theorem upN_at {n i : Nat} (h : i < n) : (upN n).getD i 0 = (i : Int) := by
  unfold upN
  rw [List.getD_eq_getElem?_getD, List.getElem?_map, List.getElem?_range h]
  rfl
theorem upN_succ (n : Nat) : upN (n + 1) = upN n ++ [(n : Int)] := by simp [upN, List.range_succ]
theorem toN_small {x : Int} (h0 : 0 ≤ x) (h1 : x < 4294967296) : toN x = x - 1 := by unfold toN; omega
theorem toN_top {a v : Int} (h0 : -1 ≤ a) (h1 : a < 4294967295) : toN (topN a v) = a := by unfold toN topN; omega
section
variable {t s l b n : Nat}
/-- What a ground whose free list is 0 .. n - 1 holds. -/
structure FreeAt (t s l b n : Nat) (st : MSt) : Prop where
  ok : MOk (2 + t + s) (wN t s l b) st
  top : toN (peekV st (-2)) = if 0 < n then 0 else -1
  nx : ∀ i : Nat, i + 1 < n → nextS (layF t s l b) st i = (i : Int) + 1
  nl : ∀ i : Nat, i + 1 = n → nextS (layF t s l b) st i = -1
theorem ground_free (hn : n ≤ s) (hs1 : s ≤ 1000000) : FreeAt t s l b n (groundSt t s l b (rowPs (layF t s l b) (upN n) n)) := by
  have pl : ∀ i, i < n → (rowP (layF t s l b) (upN n) i).1 = if i = 0 then -2 else -3 - (t : Int) - ((i - 1 : Nat) : Int) := fun i hi => by
    unfold rowP
    by_cases h : i = 0
    · rw [if_pos h, if_pos h]
    · rw [if_neg h, if_neg h]
      show aft (layF t s l b) ((upN n).getD (i - 1) 0) = _
      rw [upN_at (by omega), aft_at (by omega) (by omega)]
  have key := putAll_peek (MOk.start t s l b) (rowP (layF t s l b) (upN n)) (fun _ => Or.inr trivial) n (fun i hi => by
    rw [pl i hi]
    split <;> omega) (fun i j hij hj => by
    rw [pl i (by omega), pl j hj, if_neg (show ¬ j = 0 by omega)]
    split <;> omega)
  have val : ∀ i, i < n → (rowP (layF t s l b) (upN n) i).2 = (i : Int) + 1 := fun i hi => by
    show (upN n).getD i 0 + 1 = _
    rw [upN_at hi]
  have e0 : groundSt t s l b (rowPs (layF t s l b) (upN n) n) = putAll (startSt t s l b) ((List.range n).map (rowP (layF t s l b) (upN n))) := rfl
  rw [e0]
  refine ⟨(MOk.start t s l b).putAll _, ?_, fun i hi => ?_, fun i hi => ?_⟩
  · by_cases h : 0 < n
    · have h1 := key.1 0 h
      rw [pl 0 h, val 0 h, if_pos rfl] at h1
      rw [h1, if_pos h]
      rfl
    · have h1 := key.2 (-2) (fun i hi => absurd hi (by omega))
      rw [h1, start_peek, if_neg h]
      rfl
  · unfold nextS
    rw [aft_at (by omega) (by omega)]
    have h1 := key.1 (i + 1) hi
    rw [pl (i + 1) hi, val (i + 1) hi, if_neg (by omega), show i + 1 - 1 = i by omega] at h1
    have e2 := toN_small (x := ((i + 1 : Nat) : Int) + 1) (by omega) (by omega)
    rw [h1, e2]
    omega
  · unfold nextS
    rw [aft_at (by omega) (by omega)]
    have h1 := key.2 (-3 - (t : Int) - (i : Int)) (fun j hj => by
      rw [pl j hj]
      split <;> omega)
    rw [h1, start_peek]
    rfl
theorem swapB_self {P N : Nat} {st : MSt} (ok : MOk P N st) (hP : 2 ≤ P) : swapB st (-2) (peekV st (-2)) = true := by
  rw [swapB_is (ok.is (by omega) (by omega))]
  simp
end
end Go.Proofs.YtbicloceaddinaaGreat


/- A Pop and a Push alone, step by step: what they leave is well. Conditions: those that each theorem names. -/
namespace Go.Proofs.YtbicloceaddinaaGreat
open Go.ChangeShapes Go.WideShapes Go.ChangeAt Go.RowKit
set_option linter.unusedVariables false
open Go.Sort in
theorem grown_extF (w : World) (d : Nat) (os : Array Obj) : Ext w (grow (redrawn w d) os) := Ext.of (below_regrown w d os)
theorem PMs.wf0 : (⟨0, 0, 0, false⟩ : PMs).Wf := ⟨Or.inl rfl, ⟨Int.le_refl 0, by show (0 : Int) < _; decide⟩, ⟨by show _ ≤ (0 : Int); decide, by show (0 : Int) < _; decide⟩⟩
theorem popS_wf {F : Nat → Int} {t n : Int} {x : PMs} {s : MSt} (hU : ∀ a, W64 (peekV s a)) (hx : x.Wf) (hc : CalmN n s) : (popS F t x s).1.Wf ∧ CalmN (n + 1) (popS F t x s).2 := by
  unfold popS
  by_cases hd : x.dn = true
  · rw [if_pos hd]
    exact ⟨hx, hc.mono (by omega)⟩
  rw [if_neg hd]
  by_cases h0 : x.part = 0
  · rw [if_pos h0]
    exact ⟨⟨Or.inr (Or.inl rfl), hU (-2), hx.y⟩, hc.load _ _⟩
  rw [if_neg h0]
  by_cases h1 : x.part = 1
  · rw [if_pos h1]
    have := toN_rng (hU (aft F (toN x.top)))
    exact ⟨⟨Or.inr (Or.inr rfl), hx.top, ⟨by show _ ≤ toN (peekV s (aft F (toN x.top))); omega, by show toN (peekV s (aft F (toN x.top))) < _; omega⟩⟩, hc.load _ _⟩
  rw [if_neg h1]
  exact ⟨⟨Or.inl rfl, hx.top, hx.y⟩, hc.swap _ _ _ _⟩
theorem pushS_wf {F : Nat → Int} {t n : Int} {x : PMs} {s : MSt} (hU : ∀ a, W64 (peekV s a)) (hx : x.Wf) (hc : CalmN n s) : (pushS F t x s).1.Wf ∧ CalmN (n + 1) (pushS F t x s).2 := by
  unfold pushS
  by_cases hd : x.dn = true
  · rw [if_pos hd]
    exact ⟨hx, hc.mono (by omega)⟩
  rw [if_neg hd]
  by_cases h0 : x.part = 0
  · rw [if_pos h0]
    exact ⟨⟨Or.inr (Or.inl rfl), hU (-2), hx.y⟩, hc.load _ _⟩
  rw [if_neg h0]
  by_cases h1 : x.part = 1
  · rw [if_pos h1]
    exact ⟨⟨Or.inr (Or.inr rfl), hx.top, hx.y⟩, hc.store _ _ _⟩
  rw [if_neg h1]
  exact ⟨⟨Or.inl rfl, hx.top, hx.y⟩, hc.swap _ _ _ _⟩
end Go.Proofs.YtbicloceaddinaaGreat

