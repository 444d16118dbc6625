/- A device of few lines: what was flushed is few, however long the way; what flushes and fences leave of what is seen. Conditions: those that each theorem names. -/
import Derived.Test.YtndplpfbohigpaaGreatKPk
namespace Go.Proofs.YtndplpfbohigpaaGreat
open Go.ChangeShapes Go.WideShapes Go.ChangeAt Go.RowKit
set_option linter.unusedVariables false
theorem seen_flush (s : DSt) (t l : Int) : (s.flush t l).seen = s.seen ∧ (s.flush t l).n = s.n := by
  unfold DSt.flush
  split <;> exact ⟨rfl, rfl⟩
theorem seen_fence (s : DSt) (t : Int) : (s.fence t).seen = s.seen ∧ (s.fence t).n = s.n := by
  unfold DSt.fence
  split
  · exact ⟨backs_seen _ _, backs_n _ _⟩
  · exact ⟨rfl, rfl⟩
theorem peekV_seen {s s' : MSt} (h1 : s'.dev.seen = s.dev.seen) (h2 : s'.dev.n = s.dev.n) (h3 : s'.pas = s.pas) (b : Int) : peekV s' b = peekV s b := by
  unfold peekV loadV
  rw [h1, h2, h3]
theorem peekV_flush (s : MSt) (t a b : Int) : peekV (s.flush t a) b = peekV s b := peekV_seen (s := s) (s' := s.flush t a) (seen_flush s.dev t (lineNo a)).1 (seen_flush s.dev t (lineNo a)).2 rfl b
theorem peekV_fence (s : MSt) (t b : Int) : peekV (s.fence t) b = peekV s b := peekV_seen (s := s) (s' := s.fence t) (seen_fence s.dev t).1 (seen_fence s.dev t).2 rfl b
theorem MOk.flush {P N : Nat} {s : MSt} (h : MOk P N s) (t a : Int) : MOk P N (s.flush t a) := by
  obtain ⟨e1, e2⟩ := seen_flush s.dev t (lineNo a)
  exact ⟨h.p, e2.trans h.n, by show (s.dev.flush t (lineNo a)).seen.length = (s.dev.flush t (lineNo a)).n * 8; rw [e1, e2]; exact h.l⟩
theorem MOk.fence {P N : Nat} {s : MSt} (h : MOk P N s) (t : Int) : MOk P N (s.fence t) := by
  obtain ⟨e1, e2⟩ := seen_fence s.dev t
  exact ⟨h.p, e2.trans h.n, by show (s.dev.fence t).seen.length = (s.dev.fence t).n * 8; rw [e1, e2]; exact h.l⟩
theorem sorted_len : ∀ (l : List Int) (lo n : Int), l.Pairwise (· < ·) → (∀ x ∈ l, lo ≤ x ∧ x < n) → lo ≤ n → (l.length : Int) ≤ n - lo
  | [], lo, n, _, _, h => by simp; omega
  | x :: l, lo, n, hs, hr, h => by
    have hx := hr x (by simp)
    have h1 := List.pairwise_cons.1 hs
    have := sorted_len l (x + 1) n h1.2 (fun y hy => ⟨h1.1 y hy, (hr y (by simp [hy])).2⟩) (by omega)
    simp only [List.length_cons]
    omega
theorem Fine.len90 {i : Nat} {s : DSt} (h : Fine i s) (hn : s.n ≤ 90) (t : Nat) : (s.fl.getD t []).length ≤ 90 := by
  have := sorted_len _ 0 s.n (h.srt t) (h.rng t) (by omega)
  omega
theorem Fine.flush9 {i : Nat} {s : DSt} (h : Fine i s) (t l : Int) : Fine (i + 1) (s.flush t l) := by
  unfold DSt.flush
  split
  · rename_i hc
    refine ⟨fun t' => ?_, fun t' y hy => ?_, fun t' => ?_, h.few.mono (by omega)⟩
    · show (((s.fl.set t.toNat _).getD t' []).Pairwise (· < ·))
      rcases getD_set s.fl t.toNat t' (setAdd (s.fl.getD t.toNat []) l) with e | e
      · rw [e]; exact setAdd_sorted _ _ (h.srt _)
      · rw [e]; exact h.srt _
    · have hy' : y ∈ (s.fl.set t.toNat (setAdd (s.fl.getD t.toNat []) l)).getD t' [] := hy
      show 0 ≤ y ∧ y < (s.n : Int)
      rcases getD_set s.fl t.toNat t' (setAdd (s.fl.getD t.toNat []) l) with e | e
      · rw [e] at hy'
        rcases (setAdd_mem _ _ _).1 hy' with rfl | hy'
        · exact ⟨hc.2.2.1, hc.2.2.2⟩
        · exact h.rng _ _ hy'
      · rw [e] at hy'
        exact h.rng _ _ hy'
    · show ((s.fl.set t.toNat _).getD t' []).length ≤ i + 1
      rcases getD_set s.fl t.toNat t' (setAdd (s.fl.getD t.toNat []) l) with e | e
      · rw [e]
        have := setAdd_len (s.fl.getD t.toNat []) l
        have := h.len t.toNat
        omega
      · rw [e]
        have := h.len t'
        omega
  · exact h.up
theorem Fine.fence9 {i : Nat} {s : DSt} (h : Fine i s) (hn9 : s.n ≤ 90) (t : Int) : Fine (i + 1) (s.fence t) := by
  unfold DSt.fence
  split
  · have hn : (s.backs (s.fl.getD t.toNat [])).n = s.n := backs_n _ s
    refine ⟨fun t' => ?_, fun t' y hy => ?_, fun t' => ?_, ?_⟩
    · show (((s.fl.set t.toNat []).getD t' []).Pairwise (· < ·))
      rcases getD_set s.fl t.toNat t' [] with e | e
      · rw [e]; exact List.Pairwise.nil
      · rw [e]; exact h.srt _
    · have hy' : y ∈ (s.fl.set t.toNat []).getD t' [] := hy
      show 0 ≤ y ∧ y < ((s.backs (s.fl.getD t.toNat [])).n : Int)
      rw [hn]
      rcases getD_set s.fl t.toNat t' [] with e | e
      · rw [e] at hy'; cases hy'
      · rw [e] at hy'
        exact h.rng _ _ hy'
    · show ((s.fl.set t.toNat []).getD t' []).length ≤ i + 1
      rcases getD_set s.fl t.toNat t' [] with e | e
      · rw [e]; simp
      · rw [e]
        have := h.len t'
        omega
    · have hl := h.len90 hn9 t.toNat
      exact (backs_few (s.fl.getD t.toNat []) s _ h.few).mono (by omega)
  · exact h.up
theorem act_fine9 {k : Nat} {s : MSt} (hf : Fine k s.dev) (hn : s.dev.n ≤ 90) (kd t a z x : Int) : Fine (k + 1) (s.act kd t a z x).dev := by
  unfold MSt.act
  split
  · unfold MSt.load; split <;> exact hf.up
  split
  · unfold MSt.store; split
    · exact (put_fine0 hf a x).up
    · exact hf.up
  split
  · unfold MSt.swap; split
    · split
      · exact (put_fine0 hf a x).up
      · exact hf.up
    · exact hf.up
  split
  · exact hf.flush9 t (lineNo a)
  split
  · exact hf.fence9 hn t
  split
  · show Fine (k + 1) (s.dev.evict a)
    unfold DSt.evict
    split
    · exact ⟨hf.srt, hf.rng, fun t => by have := hf.len t; show (s.dev.fl.getD t []).length ≤ k + 1; omega, (Few.back hf.few _).mono (by omega)⟩
    · exact hf.up
  · have hg : ∀ t', (List.replicate s.dev.T ([] : List Int)).getD t' [] = [] := fun t' => by
      rw [List.getD_eq_getElem?_getD, List.getElem?_replicate]
      split <;> rfl
    refine ⟨fun t' => ?_, fun t' y hy => ?_, fun t' => ?_, hf.few.mono (by omega)⟩
    · show (((List.replicate s.dev.T ([] : List Int)).getD t' []).Pairwise (· < ·))
      rw [hg]; exact List.Pairwise.nil
    · have hy' : y ∈ (List.replicate s.dev.T ([] : List Int)).getD t' [] := hy
      rw [hg] at hy'; cases hy'
    · show ((List.replicate s.dev.T ([] : List Int)).getD t' []).length ≤ k + 1
      rw [hg]; simp
end Go.Proofs.YtndplpfbohigpaaGreat
