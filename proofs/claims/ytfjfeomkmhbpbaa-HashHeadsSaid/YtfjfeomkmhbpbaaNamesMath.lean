/- Numbers alone: each name lies, by its number, at its place, among the lasting words and among the passing ones. Conditions: those that each theorem names. -/
import Derived.Test.YtfjfeomkmhbpbaaNames
import Derived.Test.YtfjfeomkmhbpbaaLay9
namespace Go.Proofs.Ytfjfeomkmhbpbaa
set_option linter.unusedVariables false
namespace NM
/-- Each name of a list that has a kind lies, by its number, at its place, from o on. -/
def Fits (F : Nat → Int) (o : Nat) (L : List Nm) : Prop := ∀ j, j < L.length → (L.getD j (0, 0, 0)).1 ≤ 1 ∨ (2 ≤ (L.getD j (0, 0, 0)).1 ∧ (L.getD j (0, 0, 0)).1 ≤ 17 ∧ toldF F (L.getD j (0, 0, 0)).1 (L.getD j (0, 0, 0)).2.1 (L.getD j (0, 0, 0)).2.2 = ((o + j : Nat) : Int))
theorem fits_append {F : Nat → Int} {o : Nat} {L M : List Nm} (h : Fits F o L) (k : Fits F (o + L.length) M) : Fits F o (L ++ M) := by
  intro j hj
  rw [List.length_append] at hj
  by_cases hl : j < L.length
  · have e : (L ++ M).getD j (0, 0, 0) = L.getD j (0, 0, 0) := by
      rw [List.getD_eq_getElem?_getD, List.getElem?_append_left hl, ← List.getD_eq_getElem?_getD]
    rw [e]; exact h j hl
  · have e : (L ++ M).getD j (0, 0, 0) = M.getD (j - L.length) (0, 0, 0) := by
      rw [List.getD_eq_getElem?_getD, List.getElem?_append_right (by omega), ← List.getD_eq_getElem?_getD]
    rw [e]
    have := k (j - L.length) (by omega)
    rwa [show o + L.length + (j - L.length) = o + j by omega] at this
theorem fits_pad (F : Nat → Int) (o n : Nat) : Fits F o (pad n) := fun j hj => by
  left
  unfold pad at hj ⊢
  rw [List.length_replicate] at hj
  rw [List.getD_eq_getElem?_getD, List.getElem?_replicate, if_pos hj]
  decide
theorem fits_one (F : Nat → Int) (o : Nat) (x : Nm) (h2 : 2 ≤ x.1) (h17 : x.1 ≤ 17) (h : toldF F x.1 x.2.1 x.2.2 = (o : Int)) : Fits F o [x] := fun j hj => by
  obtain rfl : j = 0 := by simpa using hj
  exact Or.inr ⟨h2, h17, h⟩
theorem fits_map (F : Nat → Int) (o n : Nat) (f : Nat → Nm) (h : ∀ i, i < n → 2 ≤ (f i).1 ∧ (f i).1 ≤ 17 ∧ toldF F (f i).1 (f i).2.1 (f i).2.2 = ((o + i : Nat) : Int)) : Fits F o ((List.range n).map f) := fun j hj => by
  rw [List.length_map, List.length_range] at hj
  have e : ((List.range n).map f).getD j (0, 0, 0) = f j := by
    rw [List.getD_eq_getElem?_getD, List.getElem?_map, List.getElem?_range hj]; rfl
  rw [e]
  exact Or.inr (h j hj)
theorem fits_supers (F : Nat → Int) (n : Nat) : Fits F 0 (supers n) := fun j hj => by
  left
  unfold supers at hj ⊢
  rw [List.length_map, List.length_range] at hj
  rw [List.getD_eq_getElem?_getD, List.getElem?_map, List.getElem?_range hj]
  exact Int.le_refl 1
theorem fits_flat (F : Nat → Int) (o c : Nat) (f : Nat → List Nm) : ∀ n, (∀ i, i < n → (f i).length = c) → (∀ i, i < n → Fits F (o + c * i) (f i)) → Fits F o ((List.range n).flatMap f) := by
  intro n
  induction n with
  | zero => intro _ _ j hj; exact absurd hj (by simp)
  | succ n ih =>
    intro hl hf
    have hlen : ∀ m, m ≤ n → ((List.range m).flatMap f).length = c * m := by
      intro m
      induction m with
      | zero => intro _; rfl
      | succ m ihm =>
        intro hm
        rw [List.range_succ, List.flatMap_append, List.length_append, ihm (by omega)]
        simp only [List.flatMap_cons, List.flatMap_nil, List.append_nil]
        rw [hl m (by omega), Nat.mul_succ]
    rw [List.range_succ, List.flatMap_append]
    refine fits_append (ih (fun i hi => hl i (by omega)) (fun i hi => hf i (by omega))) ?_
    rw [hlen n (Nat.le_refl _)]
    simpa using hf n (by omega)
theorem wordAt_in {v a d m n pl : Int} (h0 : 0 ≤ n) (h1 : n < m) : wordAt v a d m n pl = a + n * d + pl := if_pos ⟨h0, h1⟩
theorem fits_last (t s l b : Nat) : Fits (layF t s l b) 0 (last t s l b) := by
  have e1 : ((l : Int) + 7) / 8 = (((l + 7) / 8 : Nat) : Int) := by omega
  have e2 : ((b : Int) + 7) / 8 = (((b + 7) / 8 : Nat) : Int) := by omega
  have hF : layF t s l b = layN t s l b (((b + 7) / 8 : Nat) : Int) (((l + 7) / 8 : Nat) : Int) := by unfold layF; rw [e1, e2]
  rw [hF]
  unfold last upto4
  refine fits_append (fits_append (fits_append (fits_append (fits_append (fits_append (fits_append (fits_supers _ 16) ?_) ?_) ?_) ?_) ?_) ?_) ?_
  · exact fits_append (fits_one _ _ (2, 0, 0) (by decide) (by decide) rfl) (fits_pad _ _ _)
  · exact fits_append (fits_one _ _ (3, 0, 0) (by decide) (by decide) rfl) (fits_pad _ _ _)
  · exact fits_append (fits_one _ _ (4, 0, 0) (by decide) (by decide) rfl) (fits_pad _ _ _)
  · refine fits_append (fits_map _ _ _ _ fun i hi => ⟨by simp, by simp, ?_⟩) (fits_pad _ _ _)
    show wordAt _ 40 1 b i 0 = _
    rw [wordAt_in (by omega) (by omega), show (supers 16 ++ one 2 ++ one 3 ++ one 4).length = 40 from rfl]
    omega
  · have hV : (supers 16 ++ one 2 ++ one 3 ++ one 4 ++ (bucks b ++ pad b)).length = 40 + 8 * ((b + 7) / 8) := by
      rw [List.length_append, bpad_len]; rfl
    rw [hV]
    generalize (b + 7) / 8 = nb
    generalize (l + 7) / 8 = nl
    refine fits_flat _ _ 8 thread t (fun i _ => rfl) (fun q hq => ?_)
    unfold thread
    refine fits_append (fits_append (L := [(6, (q : Int), 0)]) (fits_one _ _ _ (by simp) (by simp) ?_) (fits_one _ _ _ (by simp) (by simp) ?_)) (fits_pad _ _ _)
    · show wordAt _ ((5 + (nb : Int)) * 8) 8 t q 0 = _
      rw [wordAt_in (by omega) (by omega)]
      simp only [Int.natCast_add, Int.natCast_mul]
      omega
    · show wordAt _ ((5 + (nb : Int)) * 8) 8 t q 1 = _
      rw [wordAt_in (by omega) (by omega)]
      simp only [Int.natCast_add, Int.natCast_mul, List.length_cons, List.length_nil]
      omega
  · have hV : (supers 16 ++ one 2 ++ one 3 ++ one 4 ++ (bucks b ++ pad b) ++ threads t).length = 40 + 8 * ((b + 7) / 8) + 8 * t := by
      rw [List.length_append, threads_len, List.length_append, bpad_len]; rfl
    rw [hV]
    refine fits_flat _ _ (8 * ((l + 7) / 8)) (log l) t (fun i _ => log_len l i) (fun p hp => ?_)
    unfold log ents
    refine fits_append (fits_map _ _ _ _ fun j hj => ⟨by simp, by simp, ?_⟩) (fits_pad _ _ _)
    generalize (b + 7) / 8 = nb
    generalize (l + 7) / 8 = nl
    show logAt _ ((5 + (nb : Int) + t) * 8) ((nl : Int) * 8) t l p j = _
    unfold logAt
    rw [if_pos ⟨by omega, by omega⟩, wordAt_in (by omega) (by omega)]
    simp only [Int.natCast_add, Int.natCast_mul]
    rw [show (p : Int) * ((nl : Int) * 8) = (8 * (nl : Int)) * p by rw [Int.mul_comm (p : Int), Int.mul_comm (nl : Int)]]
    have : ((8 : Nat) : Int) = 8 := rfl
    rw [this]
    generalize 8 * (nl : Int) * (p : Int) = z
    omega
  · have hV : (supers 16 ++ one 2 ++ one 3 ++ one 4 ++ (bucks b ++ pad b) ++ threads t ++ logs l t).length = 40 + 8 * ((b + 7) / 8) + 8 * t + 8 * ((l + 7) / 8) * t := by
      rw [List.length_append, logs_len, List.length_append, threads_len, List.length_append, bpad_len]; rfl
    rw [hV]
    generalize (b + 7) / 8 = nb
    generalize (l + 7) / 8 = nl
    refine fits_flat _ _ 8 slot s (fun i _ => slot_len i) (fun q hq => ?_)
    unfold slot kinds
    refine fits_append (fits_map _ _ _ _ fun i hi => ⟨by simp; omega, by simp; omega, ?_⟩) (fits_pad _ _ _)
    have hk : i = 0 ∨ i = 1 ∨ i = 2 ∨ i = 3 ∨ i = 4 := by omega
    have hz : (t : Int) * (nl : Int) * 8 = ((8 * nl * t : Nat) : Int) := by
      simp only [Int.natCast_mul]
      rw [Int.mul_comm _ (8 : Int), Int.mul_comm (t : Int), ← Int.mul_assoc]
      rfl
    have key : wordAt (5 + (nb : Int) + t + t * nl + s) ((5 + (nb : Int) + t + t * nl) * 8) 8 s q i = ((40 + 8 * nb + 8 * t + 8 * nl * t + 8 * q + i : Nat) : Int) := by
      rw [wordAt_in (by omega) (by omega)]
      rw [Int.add_mul, hz]
      simp only [Int.natCast_add, Int.natCast_mul]
      generalize ((8 : Nat) : Int) * (nl : Int) * (t : Int) = z
      omega
    rw [Nat.zero_add, ← key]
    rcases hk with rfl | rfl | rfl | rfl | rfl <;> rfl
def anns (n : Nat) : List Nm := (List.range n).map fun (i : Nat) => (16, (i : Int), 0)
def afts (n : Nat) : List Nm := (List.range n).map fun (i : Nat) => (17, (i : Int), 0)
/-- All passing words, in order. -/
def pass (t s : Nat) : List Nm := [(14, 0, 0), (15, 0, 0)] ++ anns t ++ afts s
theorem anns_succ (n : Nat) : anns (n + 1) = anns n ++ [(16, (n : Int), 0)] := by simp [anns, List.range_succ]
theorem afts_succ (n : Nat) : afts (n + 1) = afts n ++ [(17, (n : Int), 0)] := by simp [afts, List.range_succ]
theorem anns_len (n : Nat) : (anns n).length = n := by simp [anns]
theorem afts_len (n : Nat) : (afts n).length = n := by simp [afts]
theorem pass_len (t s : Nat) : (pass t s).length = 2 + t + s := by simp [pass, anns_len, afts_len]; omega
theorem pass_at (t s : Nat) (j : Nat) (hj : j < 2 + t + s) : (pass t s).getD j (0, 0, 0) = if j = 0 then (14, 0, 0) else if j = 1 then (15, 0, 0) else if j < 2 + t then (16, ((j - 2 : Nat) : Int), 0) else (17, ((j - 2 - t : Nat) : Int), 0) := by
  match j with
  | 0 => rfl
  | 1 => rfl
  | j + 2 =>
    rw [if_neg (by omega), if_neg (by omega)]
    unfold pass
    rw [List.append_assoc, List.getD_eq_getElem?_getD, List.getElem?_append_right (by simp)]
    simp only [List.length_cons, List.length_nil, Nat.add_sub_cancel]
    by_cases h : j < t
    · rw [if_pos (by omega), List.getElem?_append_left (by rw [anns_len]; exact h)]
      unfold anns
      rw [List.getElem?_map, List.getElem?_range h]; rfl
    · rw [if_neg (by omega), List.getElem?_append_right (by rw [anns_len]; omega), anns_len]
      unfold afts
      rw [List.getElem?_map, List.getElem?_range (by omega)]; rfl
theorem fits_pass (t s l b : Nat) (j : Nat) (hj : j < (pass t s).length) : 2 ≤ ((pass t s).getD j (0, 0, 0)).1 ∧ ((pass t s).getD j (0, 0, 0)).1 ≤ 17 ∧ toldF (layF t s l b) ((pass t s).getD j (0, 0, 0)).1 ((pass t s).getD j (0, 0, 0)).2.1 ((pass t s).getD j (0, 0, 0)).2.2 = -1 - (j : Int) := by
  rw [pass_len] at hj
  rw [pass_at t s j hj]
  by_cases h0 : j = 0
  · rw [if_pos h0]; subst h0; exact ⟨by decide, by decide, rfl⟩
  rw [if_neg h0]
  by_cases h1 : j = 1
  · rw [if_pos h1]; subst h1; exact ⟨by decide, by decide, rfl⟩
  rw [if_neg h1]
  by_cases h2 : j < 2 + t
  · rw [if_pos h2]
    refine ⟨by simp, by simp, ?_⟩
    show wordAt _ (-3) (-1) t ((j - 2 : Nat) : Int) 0 = _
    rw [wordAt_in (by omega) (by omega)]
    omega
  · rw [if_neg h2]
    refine ⟨by simp, by simp, ?_⟩
    show wordAt _ (-1 - (2 + (t : Int))) (-1) s ((j - 2 - t : Nat) : Int) 0 = _
    rw [wordAt_in (by omega) (by omega)]
    omega
theorem flat_at (L : List Nm) : ∀ i, i < L.length → (flat L).getD (3 * i) 0 = (L.getD i (0, 0, 0)).1 ∧ (flat L).getD (3 * i + 1) 0 = (L.getD i (0, 0, 0)).2.1 ∧ (flat L).getD (3 * i + 2) 0 = (L.getD i (0, 0, 0)).2.2 := by
  induction L with
  | nil => intro i hi; exact absurd hi (by simp)
  | cons x L ih =>
    intro i hi
    have e : flat (x :: L) = x.1 :: x.2.1 :: x.2.2 :: flat L := rfl
    rw [e]
    match i with
    | 0 => exact ⟨rfl, rfl, rfl⟩
    | i + 1 =>
      have := ih i (by simpa using hi)
      exact this
end NM
end Go.Proofs.Ytfjfeomkmhbpbaa
