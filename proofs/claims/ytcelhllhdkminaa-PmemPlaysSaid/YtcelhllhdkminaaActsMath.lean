/- Sets that are added to; states behind acts; slices of acts that came in. Conditions: those that each theorem names. -/
import Derived.Test.YtcelhllhdkminaaDevActs
namespace Go.Proofs.Ytcelhllhdkminaa
open Go.ChangeShapes Go.WideShapes Go.ChangeAt Go.RowKit Go.Deep
set_option linter.unusedVariables false
/-- A word put into a rising list, where it belongs. -/
def ins (l : List Int) (x : Int) : List Int := insAt l (l.countP (· < x)) x
theorem ins_lt (a x : Int) (l : List Int) (h : a < x) : ins (a :: l) x = a :: ins l x := by
  unfold ins insAt
  rw [List.countP_cons_of_pos (by simpa using h)]
  rfl
theorem ins_ge (a x : Int) (l : List Int) (h : x ≤ a) (hs : (a :: l).Pairwise (· < ·)) : ins (a :: l) x = x :: a :: l := by
  unfold ins insAt
  have h0 : (a :: l).countP (· < x) = 0 := by
    rw [List.countP_eq_zero]
    intro b hb
    rcases List.mem_cons.1 hb with rfl | hb
    · simpa using h
    · have := (List.pairwise_cons.1 hs).1 b hb
      simp; omega
  rw [h0]
  rfl
theorem mem_ins (x y : Int) : ∀ l : List Int, y ∈ ins l x ↔ y = x ∨ y ∈ l := fun l => by
  unfold ins insAt
  rw [List.mem_append, List.mem_cons]
  conv => rhs; rw [← List.take_append_drop (l.countP (· < x)) l, List.mem_append]
  constructor
  · rintro (h | h | h)
    · exact Or.inr (Or.inl h)
    · exact Or.inl h
    · exact Or.inr (Or.inr h)
  · rintro (h | h | h)
    · exact Or.inr (Or.inl h)
    · exact Or.inl h
    · exact Or.inr (Or.inr h)
theorem ins_sorted (x : Int) : ∀ l : List Int, l.Pairwise (· < ·) → x ∉ l → (ins l x).Pairwise (· < ·)
  | [], _, _ => by simp [ins, insAt]
  | a :: l, hs, hx => by
    have hs' := List.pairwise_cons.1 hs
    have hxa : x ≠ a := fun e => hx (by rw [e]; exact List.mem_cons_self)
    by_cases h : a < x
    · rw [ins_lt a x l h]
      refine List.pairwise_cons.2 ⟨fun b hb => ?_, ins_sorted x l hs'.2 (fun hm => hx (List.mem_cons_of_mem _ hm))⟩
      rcases (mem_ins x b l).1 hb with rfl | hb
      · exact h
      · exact hs'.1 b hb
    · rw [ins_ge a x l (by omega) hs]
      refine List.pairwise_cons.2 ⟨fun b hb => ?_, hs⟩
      rcases List.mem_cons.1 hb with rfl | hb
      · omega
      · have := hs'.1 b hb
        omega
theorem setAdd_mem (l : List Int) (x y : Int) : y ∈ setAdd l x ↔ y = x ∨ y ∈ l := by
  unfold setAdd
  by_cases h : l.contains x = true
  · rw [if_pos h]
    have : x ∈ l := by simpa using h
    exact ⟨Or.inr, fun h => h.elim (fun e => by rw [e]; exact this) id⟩
  · rw [if_neg h]
    exact mem_ins x y l
theorem setAdd_sorted (l : List Int) (x : Int) (hs : l.Pairwise (· < ·)) : (setAdd l x).Pairwise (· < ·) := by
  unfold setAdd
  by_cases h : l.contains x = true
  · rw [if_pos h]; exact hs
  · rw [if_neg h]
    exact ins_sorted x l hs (fun hm => h (by simpa using hm))
theorem setAdd_len (l : List Int) (x : Int) : (setAdd l x).length ≤ l.length + 1 := by
  unfold setAdd
  by_cases h : l.contains x = true
  · rw [if_pos h]; omega
  · rw [if_neg h, insAt_len _ _ _ List.countP_le_length]; exact Nat.le_refl _
theorem getD_set (fl : List (List Int)) (t t' : Nat) (l : List Int) : (fl.set t l).getD t' [] = l ∨ (fl.set t l).getD t' [] = fl.getD t' [] := by
  by_cases e : t' = t
  · subst e
    by_cases ht : t' < fl.length
    · left
      rw [List.getD_eq_getElem?_getD, List.getElem?_set_self ht]; rfl
    · right
      rw [List.set_eq_of_length_le (by omega)]
  · right
    rw [List.getD_eq_getElem?_getD, List.getElem?_set_ne (fun h => e h.symm), ← List.getD_eq_getElem?_getD]
theorem Fine.up {i : Nat} {s : DSt} (h : Fine i s) : Fine (i + 1) s := ⟨h.srt, h.rng, fun t => by have := h.len t; omega, h.few.mono (by omega)⟩
theorem back_fl (s : DSt) (p : Nat) : (s.back p).fl = s.fl ∧ (s.back p).n = s.n ∧ (s.back p).T = s.T := ⟨rfl, rfl, rfl⟩
theorem Fine.act {i : Nat} {s : DSt} (h : Fine i s) (hi : i ≤ 90) (k t l a x : Int) : Fine (i + 1) (s.act k t l a x) := by
  unfold DSt.act
  split
  · unfold DSt.flush
    split
    · rename_i hc
      refine ⟨fun t' => ?_, fun t' y hy => ?_, fun t' => ?_, h.few.mono (by omega)⟩
      · show (((s.fl.set t.toNat _).getD t' []).Pairwise (· < ·))
        rcases getD_set s.fl t.toNat t' (setAdd (s.fl.getD t.toNat []) l) with e | e
        · rw [e]; exact setAdd_sorted _ _ (h.srt _)
        · rw [e]; exact h.srt _
      · have hy' : y ∈ (s.fl.set t.toNat (setAdd (s.fl.getD t.toNat []) l)).getD t' [] := hy
        show 0 ≤ y ∧ y < (s.n : Int)
        rcases getD_set s.fl t.toNat t' (setAdd (s.fl.getD t.toNat []) l) with e | e
        · rw [e] at hy'
          rcases (setAdd_mem _ _ _).1 hy' with rfl | hy'
          · exact ⟨hc.2.2.1, hc.2.2.2⟩
          · exact h.rng _ _ hy'
        · rw [e] at hy'
          exact h.rng _ _ hy'
      · show ((s.fl.set t.toNat _).getD t' []).length ≤ i + 1
        rcases getD_set s.fl t.toNat t' (setAdd (s.fl.getD t.toNat []) l) with e | e
        · rw [e]
          have := setAdd_len (s.fl.getD t.toNat []) l
          have := h.len t.toNat
          omega
        · rw [e]
          have := h.len t'
          omega
    · exact h.up
  split
  · unfold DSt.fence
    split
    · have hn : (s.backs (s.fl.getD t.toNat [])).n = s.n := backs_n _ s
      refine ⟨fun t' => ?_, fun t' y hy => ?_, fun t' => ?_, ?_⟩
      · show (((s.fl.set t.toNat []).getD t' []).Pairwise (· < ·))
        rcases getD_set s.fl t.toNat t' [] with e | e
        · rw [e]; exact List.Pairwise.nil
        · rw [e]; exact h.srt _
      · have hy' : y ∈ (s.fl.set t.toNat []).getD t' [] := hy
        show 0 ≤ y ∧ y < ((s.backs (s.fl.getD t.toNat [])).n : Int)
        rw [hn]
        rcases getD_set s.fl t.toNat t' [] with e | e
        · rw [e] at hy'; cases hy'
        · rw [e] at hy'
          exact h.rng _ _ hy'
      · show ((s.fl.set t.toNat []).getD t' []).length ≤ i + 1
        rcases getD_set s.fl t.toNat t' [] with e | e
        · rw [e]; simp
        · rw [e]
          have := h.len t'
          omega
      · have hl := h.len t.toNat
        exact (backs_few (s.fl.getD t.toNat []) s _ h.few).mono (by omega)
    · exact h.up
  split
  · unfold DSt.evict
    split
    · exact ⟨h.srt, h.rng, fun t => by have := h.len t; show (s.fl.getD t []).length ≤ i + 1; omega, (Few.back h.few _).mono (by omega)⟩
    · exact h.up
  split
  · have hg : ∀ t', (List.replicate s.T ([] : List Int)).getD t' [] = [] := fun t' => by
      rw [List.getD_eq_getElem?_getD, List.getElem?_replicate]
      split <;> rfl
    refine ⟨fun t' => ?_, fun t' y hy => ?_, fun t' => ?_, h.few.mono (by omega)⟩
    · show (((List.replicate s.T ([] : List Int)).getD t' []).Pairwise (· < ·))
      rw [hg]; exact List.Pairwise.nil
    · have hy' : y ∈ (List.replicate s.T ([] : List Int)).getD t' [] := hy
      rw [hg] at hy'; cases hy'
    · show ((List.replicate s.T ([] : List Int)).getD t' []).length ≤ i + 1
      rw [hg]; simp
  split
  · exact h.up
  · unfold DSt.store
    split
    · exact ⟨h.srt, h.rng, fun t => by have := h.len t; show (s.fl.getD t []).length ≤ i + 1; omega, h.few.mono (by omega)⟩
    · exact h.up
theorem fine_new (n T : Nat) (zs : List Int) : Fine 0 ⟨n, T, zs, zs, List.replicate n 0, List.replicate T []⟩ := by
  have hg : ∀ t', (List.replicate T ([] : List Int)).getD t' [] = [] := fun t' => by
    rw [List.getD_eq_getElem?_getD, List.getElem?_replicate]
    split <;> rfl
  refine ⟨fun t => ?_, fun t x hx => ?_, fun t => ?_, fun p => ?_⟩
  · show (((List.replicate T ([] : List Int)).getD t []).Pairwise (· < ·))
    rw [hg]; exact List.Pairwise.nil
  · have hx' : x ∈ (List.replicate T ([] : List Int)).getD t [] := hx
    rw [hg] at hx'; cases hx'
  · show ((List.replicate T ([] : List Int)).getD t []).length ≤ 0
    rw [hg]; simp
  · show -1 ≤ (List.replicate n (0 : Int)).getD p 0 ∧ (List.replicate n (0 : Int)).getD p 0 < _
    rw [List.getD_eq_getElem?_getD, List.getElem?_replicate]
    split <;> simp
end Go.Proofs.Ytcelhllhdkminaa
