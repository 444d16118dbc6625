/- Numbers alone: a line of which one bit was turned is no config's. Conditions: those that each theorem names. -/
import Derived.Test.YtljleibhncidmaaSuper3
namespace Go.Proofs.Ytljleibhncidmaa
open Go.RowKit
set_option linter.unusedVariables false
namespace SM
theorem words_inj (l : List Nat) : ∀ s t, s < 4294967296 → t < 4294967296 → wordsN s l = wordsN t l → s = t := by
  induction l with
  | nil => exact fun s t _ _ h => h
  | cons a l ih => exact fun s t hs ht h => low_inj s t a 64 hs ht (ih _ _ (word_lt s a hs) (word_lt t a ht) h)
theorem turn_bits (b t i : Nat) : (b ^^^ 2 ^ t) / 2 ^ i % 2 = if i = t then 1 - b / 2 ^ i % 2 else b / 2 ^ i % 2 := by
  rw [bit_xor]
  have hb : b / 2 ^ i % 2 = 0 ∨ b / 2 ^ i % 2 = 1 := by omega
  by_cases h : i = t
  · subst h
    rw [if_pos rfl, Nat.div_self (Nat.pow_pos (by omega))]
    rcases hb with h | h <;> rw [h] <;> rfl
  · rw [if_neg h]
    have e : 2 ^ t / 2 ^ i % 2 = 0 := by
      by_cases h2 : t < i
      · rw [Nat.div_eq_of_lt (Nat.pow_lt_pow_right (by omega) h2)]
      · have e2 : 2 ^ t = 2 ^ (t - i) * 2 ^ i := by rw [← Nat.pow_add]; congr 1; omega
        rw [e2, Nat.mul_div_cancel _ (Nat.pow_pos (by omega))]
        obtain ⟨q, hq⟩ : ∃ q, t - i = q + 1 := ⟨t - i - 1, by omega⟩
        rw [hq, Nat.pow_succ]
        omega
    rw [e]
    rcases hb with h | h <;> rw [h] <;> rfl
theorem word_turn (s b t : Nat) (hs : s < 4294967296) (ht : t < 64) : wordN s (b ^^^ 2 ^ t) ≠ wordN s b := by
  refine low_ne _ (b ^^^ 2 ^ t) b 64 hs t ht (fun i hi => ?_) ?_ (fun i hi _ => ?_)
  · rw [turn_bits, if_neg (by omega)]
  · rw [turn_bits, if_pos rfl]; omega
  · rw [turn_bits, if_neg (by omega)]
theorem words_turn (pre suf : List Int) (b t : Nat) (ht : t < 64) : sumOfWords (pre ++ ((b ^^^ 2 ^ t : Nat) : Int) :: suf) ≠ sumOfWords (pre ++ (b : Int) :: suf) := by
  intro h
  have hlt : ∀ l, wordsN 4294967295 l < 4294967296 := fun l => words_lt l 4294967295 (by omega)
  have h2 : wordsN 4294967295 ((pre ++ ((b ^^^ 2 ^ t : Nat) : Int) :: suf).map Int.toNat) = wordsN 4294967295 ((pre ++ (b : Int) :: suf).map Int.toNat) := by
    have a1 := hlt ((pre ++ ((b ^^^ 2 ^ t : Nat) : Int) :: suf).map Int.toNat)
    have a2 := hlt ((pre ++ (b : Int) :: suf).map Int.toNat)
    unfold sumOfWords at h
    omega
  have hcat : ∀ (l : List Nat) (y : Nat) (m : List Nat), wordsN 4294967295 (l ++ y :: m) = wordsN (wordN (wordsN 4294967295 l) y) m := fun l y m => by unfold wordsN; rw [List.foldl_append]; rfl
  rw [List.map_append, List.map_cons, List.map_append, List.map_cons, Int.toNat_natCast, Int.toNat_natCast, hcat, hcat] at h2
  have s1 := hlt (pre.map Int.toNat)
  exact word_turn _ b t s1 ht (words_inj _ _ _ (word_lt _ _ s1) (word_lt _ _ s1) h2)
theorem turn_other (b t : Nat) : b ^^^ 2 ^ t ≠ b := by
  intro h
  have h1 := turn_bits b t t
  rw [h, if_pos rfl] at h1
  omega
theorem turn_of (b t : Nat) (hb : b < 18446744073709551616) (ht : t < 64) : bits .xor .u64 (b : Int) (2 ^ t % 18446744073709551616) = ((b ^^^ 2 ^ t : Nat) : Int) := by
  have hlt : (2 : Nat) ^ t < 18446744073709551616 := Nat.lt_of_lt_of_le (Nat.pow_lt_pow_right (by omega) ht) (by decide)
  have e : (2 : Int) ^ t % 18446744073709551616 = ((2 ^ t : Nat) : Int) := by
    rw [Int.natCast_pow]
    exact Int.emod_eq_of_lt (Int.pow_nonneg (by decide)) (by have : ((2 ^ t : Nat) : Int) < 18446744073709551616 := by omega
                                                             rwa [Int.natCast_pow] at this)
  rw [e, u64_xor_nat b (2 ^ t) hb hlt]
theorem turn_lt (b t : Nat) (hb : b < 18446744073709551616) (ht : t < 64) : b ^^^ 2 ^ t < 18446744073709551616 := by
  have hlt : (2 : Nat) ^ t < 18446744073709551616 := Nat.lt_of_lt_of_le (Nat.pow_lt_pow_right (by omega) ht) (by decide)
  exact Nat.xor_lt_two_pow (n := 64) (by omega) (by omega)
end SM
theorem not0 (m t s l b f z v j : Nat) (hm : (m : Int) = 7739836655157129782) : ¬ IsLine ((m ^^^ 2 ^ j : Nat) : Int) t s l b f z v := fun ⟨_, e, _⟩ => SM.turn_other m j (by omega)
theorem not1 (m t s l b f z j : Nat) (ht : j < 64) : ¬ IsLine m ((t ^^^ 2 ^ j : Nat) : Int) s l b f z (sum7 7739836655157129782 t s l b 1 0) := fun ⟨_, _, _, _, e⟩ =>
  SM.words_turn [7739836655157129782] [s, l, b, 1, 0] t j ht (by unfold sum7 at e; exact (Int.ofNat.inj e).symm)
theorem not2 (m t s l b f z j : Nat) (ht : j < 64) : ¬ IsLine m t ((s ^^^ 2 ^ j : Nat) : Int) l b f z (sum7 7739836655157129782 t s l b 1 0) := fun ⟨_, _, _, _, e⟩ =>
  SM.words_turn [7739836655157129782, t] [l, b, 1, 0] s j ht (by unfold sum7 at e; exact (Int.ofNat.inj e).symm)
theorem not3 (m t s l b f z j : Nat) (ht : j < 64) : ¬ IsLine m t s ((l ^^^ 2 ^ j : Nat) : Int) b f z (sum7 7739836655157129782 t s l b 1 0) := fun ⟨_, _, _, _, e⟩ =>
  SM.words_turn [7739836655157129782, t, s] [b, 1, 0] l j ht (by unfold sum7 at e; exact (Int.ofNat.inj e).symm)
theorem not4 (m t s l b f z j : Nat) (ht : j < 64) : ¬ IsLine m t s l ((b ^^^ 2 ^ j : Nat) : Int) f z (sum7 7739836655157129782 t s l b 1 0) := fun ⟨_, _, _, _, e⟩ =>
  SM.words_turn [7739836655157129782, t, s, l] [1, 0] b j ht (by unfold sum7 at e; exact (Int.ofNat.inj e).symm)
theorem not5 (m t s l b z v j : Nat) : ¬ IsLine m t s l b ((1 ^^^ 2 ^ j : Nat) : Int) z v := fun ⟨_, _, e, _⟩ => SM.turn_other 1 j (by omega)
theorem not6 (m t s l b f v j : Nat) : ¬ IsLine m t s l b f ((0 ^^^ 2 ^ j : Nat) : Int) v := fun ⟨_, _, _, e, _⟩ => SM.turn_other 0 j (by omega)
theorem not7 (m t s l b f z v j : Nat) (hv : (v : Int) = sum7 7739836655157129782 t s l b 1 0) : ¬ IsLine m t s l b f z ((v ^^^ 2 ^ j : Nat) : Int) := fun ⟨_, _, _, _, e⟩ => SM.turn_other v j (by omega)
end Go.Proofs.Ytljleibhncidmaa
