/- Numbers alone: the state of the sum behind a bit, a byte, a word, and many; that it is linear, and that one bit makes another. Conditions: those that each theorem names. -/
import Derived.WalkKit
namespace Go.Proofs.Ytfjfeomkmhbpbaa.SM
open Go.RowKit

def stepN (s b : Nat) : Nat := (s / 2) ^^^ (if (s + b) % 2 = 1 then 2197175160 else 0)
def lowN (s w : Nat) : Nat → Nat
  | 0 => s
  | n + 1 => stepN (lowN s w n) (w / 2 ^ n % 2)
def byteN (s b : Nat) : Nat := lowN s b 8
def wordN (s w : Nat) : Nat := lowN s w 64
def bytesN (s : Nat) (l : List Nat) : Nat := l.foldl byteN s
def wordsN (s : Nat) (l : List Nat) : Nat := l.foldl wordN s

theorem step_lt (s b : Nat) (h : s < 4294967296) : stepN s b < 4294967296 := by
  unfold stepN
  have h2 : (if (s + b) % 2 = 1 then 2197175160 else 0) < 2 ^ 32 := by split <;> omega
  exact Nat.xor_lt_two_pow (n := 32) (by omega) h2
theorem low_lt (s w n : Nat) (h : s < 4294967296) : lowN s w n < 4294967296 := by
  induction n with
  | zero => exact h
  | succ n ih => exact step_lt _ _ ih
theorem byte_lt (s b : Nat) (h : s < 4294967296) : byteN s b < 4294967296 := low_lt s b 8 h
theorem word_lt (s b : Nat) (h : s < 4294967296) : wordN s b < 4294967296 := low_lt s b 64 h
theorem bytes_lt (l : List Nat) : ∀ s, s < 4294967296 → bytesN s l < 4294967296 := by
  induction l with
  | nil => exact fun s h => h
  | cons a l ih => exact fun s h => ih _ (byte_lt s a h)
theorem words_lt (l : List Nat) : ∀ s, s < 4294967296 → wordsN s l < 4294967296 := by
  induction l with
  | nil => exact fun s h => h
  | cons a l ih => exact fun s h => ih _ (word_lt s a h)

/-- The bit's own step, as the walk has it. -/
theorem bit_of (s b : Nat) (hs : s < 4294967296) (hb : b < 2) :
    bits .xor .u32 ((s : Int) / 2) (bits .and .u32 2197175160 (IntKind.u32.wrap (-(bits .xor .u32 (bits .and .u32 (s : Int) 1) (b : Int))))) = ((stepN s b : Nat) : Int) := by
  have e1 : bits .and .u32 (s : Int) 1 = ((s % 2 : Nat) : Int) := by
    have := u32_and_nat s 1 hs (by omega)
    rw [show ((1 : Nat) : Int) = 1 from rfl] at this
    rw [this, nat_mask1]
  have e2 : bits .xor .u32 ((s % 2 : Nat) : Int) (b : Int) = (((s + b) % 2 : Nat) : Int) := by
    rw [u32_xor_nat (s % 2) b (by omega) (by omega)]
    have h : s % 2 = 0 ∨ s % 2 = 1 := by omega
    have hb' : b = 0 ∨ b = 1 := by omega
    rcases h with h | h <;> rcases hb' with rfl | rfl <;> rw [h] <;> simp <;> omega
  rw [e1, e2]
  have e3 : (s : Int) / 2 = ((s / 2 : Nat) : Int) := by omega
  rw [e3]
  unfold stepN
  by_cases hk : (s + b) % 2 = 1
  · rw [if_pos hk, hk]
    have e4 : IntKind.u32.wrap (-((1 : Nat) : Int)) = ((4294967295 : Nat) : Int) := by rw [IntKind.wrap_u32]; omega
    have e5 : bits .and .u32 2197175160 ((4294967295 : Nat) : Int) = ((2197175160 : Nat) : Int) := by
      have := u32_and_nat 2197175160 4294967295 (by omega) (by omega)
      rw [show ((2197175160 : Nat) : Int) = 2197175160 from rfl] at this ⊢
      rw [this]
      have e6 : 2197175160 &&& 4294967295 = 2197175160 % 2 ^ 32 := Nat.and_two_pow_sub_one_eq_mod 2197175160 32
      rw [e6]; rfl
    rw [e4, e5, u32_xor_nat _ _ (by omega) (by omega)]
  · have hk0 : (s + b) % 2 = 0 := by omega
    rw [if_neg hk, hk0]
    have e4 : IntKind.u32.wrap (-((0 : Nat) : Int)) = ((0 : Nat) : Int) := by rw [IntKind.wrap_u32]; omega
    have e5 : bits .and .u32 2197175160 ((0 : Nat) : Int) = ((0 : Nat) : Int) := by
      have := u32_and_nat 2197175160 0 (by omega) (by omega)
      rw [show ((2197175160 : Nat) : Int) = 2197175160 from rfl] at this
      rw [this]
      simp
    rw [e4, e5, u32_xor_nat _ _ (by omega) (by omega)]

/-- THREE TEXTS: the step of the exclusive-or is the exclusive-or of the steps. -/
theorem half_xor (a b : Nat) : (a ^^^ b) / 2 = a / 2 ^^^ b / 2 := by
  apply Nat.eq_of_testBit_eq
  intro i
  rw [Nat.testBit_xor, Nat.testBit_div_two, Nat.testBit_div_two, Nat.testBit_div_two, Nat.testBit_xor]
theorem xor_odd (a b : Nat) : (a ^^^ b) % 2 = (a + b) % 2 := by
  have h := Nat.testBit_xor a b 0
  simp only [Nat.testBit_zero] at h
  have ha : a % 2 = 0 ∨ a % 2 = 1 := by omega
  have hb : b % 2 = 0 ∨ b % 2 = 1 := by omega
  have hc : (a ^^^ b) % 2 = 0 ∨ (a ^^^ b) % 2 = 1 := by omega
  rcases ha with ha | ha <;> rcases hb with hb | hb <;> rcases hc with hc | hc <;> simp [ha, hb, hc] at h ⊢ <;> omega
theorem step_mix (s t u a b c : Nat) : stepN (s ^^^ t ^^^ u) (a ^^^ b ^^^ c) = stepN s a ^^^ stepN t b ^^^ stepN u c := by
  unfold stepN
  have e : ((s ^^^ t ^^^ u) + (a ^^^ b ^^^ c)) % 2 = ((s + a) + (t + b) + (u + c)) % 2 := by
    have h1 := xor_odd (s ^^^ t) u
    have h2 := xor_odd s t
    have h3 := xor_odd (a ^^^ b) c
    have h4 := xor_odd a b
    omega
  rw [half_xor, half_xor, e]
  have hs : (s + a) % 2 = 0 ∨ (s + a) % 2 = 1 := by omega
  have ht : (t + b) % 2 = 0 ∨ (t + b) % 2 = 1 := by omega
  have hu : (u + c) % 2 = 0 ∨ (u + c) % 2 = 1 := by omega
  have key : ∀ p q r m n k : Nat, (p ^^^ m) ^^^ (q ^^^ n) ^^^ (r ^^^ k) = (p ^^^ q ^^^ r) ^^^ (m ^^^ n ^^^ k) := by
    intro p q r m n k
    apply Nat.eq_of_testBit_eq
    intro i
    simp only [Nat.testBit_xor]
    cases p.testBit i <;> cases q.testBit i <;> cases r.testBit i <;> cases m.testBit i <;> cases n.testBit i <;> cases k.testBit i <;> rfl
  rw [key]
  congr 1
  rcases hs with hs | hs <;> rcases ht with ht | ht <;> rcases hu with hu | hu
  all_goals
    rw [hs, ht, hu]
    first
      | rw [show ((s + a) + (t + b) + (u + c)) % 2 = 0 from by omega]
      | rw [show ((s + a) + (t + b) + (u + c)) % 2 = 1 from by omega]
    simp
theorem bit_xor (a b n : Nat) : (a ^^^ b) / 2 ^ n % 2 = (a / 2 ^ n % 2) ^^^ (b / 2 ^ n % 2) := by
  have h : ∀ x : Nat, x / 2 ^ n % 2 = (x.testBit n).toNat := fun x => by
    rw [Nat.testBit_eq_decide_div_mod_eq]
    have : x / 2 ^ n % 2 = 0 ∨ x / 2 ^ n % 2 = 1 := by omega
    rcases this with h | h <;> simp [h]
  rw [h, h, h, Nat.testBit_xor]
  cases a.testBit n <;> cases b.testBit n <;> rfl
theorem low_mix (s t u a b c n : Nat) : lowN (s ^^^ t ^^^ u) (a ^^^ b ^^^ c) n = lowN s a n ^^^ lowN t b n ^^^ lowN u c n := by
  induction n with
  | zero => rfl
  | succ n ih =>
    unfold lowN
    rw [ih, bit_xor, bit_xor, step_mix]

/-- ONE BIT: of one state two bits make two; of two states one bit makes two. -/
theorem step_top (s b : Nat) (hs : s < 4294967296) : (stepN s b).testBit 31 = decide ((s + b) % 2 = 1) := by
  unfold stepN
  rw [Nat.testBit_xor]
  have h1 : (s / 2).testBit 31 = false := Nat.testBit_lt_two_pow (by omega)
  rw [h1]
  have hk : (s + b) % 2 = 0 ∨ (s + b) % 2 = 1 := by omega
  rcases hk with h | h <;> rw [h] <;> decide
theorem xor_cancel {a b c : Nat} (h : a ^^^ c = b ^^^ c) : a = b := by
  have h2 : (a ^^^ c) ^^^ c = (b ^^^ c) ^^^ c := by rw [h]
  rwa [Nat.xor_assoc, Nat.xor_assoc, Nat.xor_self, Nat.xor_zero, Nat.xor_zero] at h2
theorem step_inj (s t b : Nat) (hs : s < 4294967296) (ht : t < 4294967296) (h : stepN s b = stepN t b) : s = t := by
  have h1 := step_top s b hs
  rw [h, step_top t b ht] at h1
  have h2 : (t + b) % 2 = (s + b) % 2 := by
    have hk : (s + b) % 2 = 0 ∨ (s + b) % 2 = 1 := by omega
    have hk' : (t + b) % 2 = 0 ∨ (t + b) % 2 = 1 := by omega
    rcases hk with a | a <;> rcases hk' with c | c <;> simp [a, c] at h1 ⊢
  unfold stepN at h
  rw [h2] at h
  have h3 : s / 2 = t / 2 := xor_cancel h
  omega
theorem step_bits (s a b : Nat) (hs : s < 4294967296) (ha : a < 2) (hb : b < 2) (h : stepN s a = stepN s b) : a = b := by
  have h1 := step_top s a hs
  rw [h, step_top s b hs] at h1
  have hk : (s + a) % 2 = 0 ∨ (s + a) % 2 = 1 := by omega
  have hk' : (s + b) % 2 = 0 ∨ (s + b) % 2 = 1 := by omega
  rcases hk with p | p <;> rcases hk' with q | q <;> simp [p, q] at h1 <;> omega
theorem low_inj (s t w n : Nat) (hs : s < 4294967296) (ht : t < 4294967296) (h : lowN s w n = lowN t w n) : s = t := by
  induction n with
  | zero => exact h
  | succ n ih => exact ih (step_inj _ _ _ (low_lt _ _ _ hs) (low_lt _ _ _ ht) h)
theorem bytes_inj (l : List Nat) : ∀ s t, s < 4294967296 → t < 4294967296 → bytesN s l = bytesN t l → s = t := by
  induction l with
  | nil => exact fun s t _ _ h => h
  | cons a l ih => exact fun s t hs ht h => low_inj s t a 8 hs ht (ih _ _ (byte_lt s a hs) (byte_lt t a ht) h)
/-- Two words of which the lowest n bits are not all the same lead to two states. -/
theorem low_ne (s v w n : Nat) (hs : s < 4294967296) (k : Nat) (hk : k < n) (hlow : ∀ i, i < k → v / 2 ^ i % 2 = w / 2 ^ i % 2) (hd : v / 2 ^ k % 2 ≠ w / 2 ^ k % 2) (hup : ∀ i, k < i → i < n → v / 2 ^ i % 2 = w / 2 ^ i % 2) : lowN s v n ≠ lowN s w n := by
  have hsame : ∀ m, m ≤ k → lowN s v m = lowN s w m := by
    intro m hm
    induction m with
    | zero => rfl
    | succ m ih => unfold lowN; rw [ih (by omega), hlow m (by omega)]
  have hne : ∀ m, k < m → m ≤ n → lowN s v m ≠ lowN s w m := by
    intro m hm hmn
    induction m with
    | zero => omega
    | succ m ih =>
      unfold lowN
      by_cases e : m = k
      · subst e
        rw [hsame m (Nat.le_refl _)]
        intro h
        exact hd (step_bits _ _ _ (low_lt _ _ _ hs) (Nat.mod_lt _ (by omega)) (Nat.mod_lt _ (by omega)) h)
      · rw [hup m (by omega) (by omega)]
        intro h
        exact ih (by omega) (by omega) (step_inj _ _ _ (low_lt _ _ _ hs) (low_lt _ _ _ hs) h)
  exact hne n hk (Nat.le_refl _)
/-- The bit that the walk cuts out of a word. -/
theorem low_bit (x k : Nat) : bits .and .u32 ((x : Int) / 2 ^ k % 4294967296) 1 = ((x / 2 ^ k % 2 : Nat) : Int) := by
  have e : (x : Int) / 2 ^ k % 4294967296 = ((x / 2 ^ k % 4294967296 : Nat) : Int) := by
    rw [Int.natCast_emod, Int.natCast_ediv, Int.natCast_pow]; rfl
  have h := u32_and_nat (x / 2 ^ k % 4294967296) 1 (Nat.mod_lt _ (by omega)) (by omega)
  rw [show ((1 : Nat) : Int) = 1 from rfl] at h
  rw [e, h, nat_mask1]
  have : x / 2 ^ k % 4294967296 % 2 = x / 2 ^ k % 2 := by omega
  rw [this]
/-- All ones less a state is the state with each bit turned. -/
theorem not_of (s : Nat) (hs : s < 4294967296) : 4294967295 ^^^ s = 4294967295 - s := by
  apply Nat.eq_of_testBit_eq
  intro i
  have e1 : 4294967295 - s = 2 ^ 32 - (s + 1) := by omega
  have e2 : (4294967295 : Nat) = 2 ^ 32 - 1 := by omega
  rw [Nat.testBit_xor, e1, Nat.testBit_two_pow_sub_succ (by omega), e2, Nat.testBit_two_pow_sub_one]
  by_cases h : i < 32
  · simp [h]
  · simp [h, Nat.testBit_lt_two_pow (show s < 2 ^ i from Nat.lt_of_lt_of_le (by omega : s < 2 ^ 32) (Nat.pow_le_pow_right (by omega) (by omega)))]
theorem end_of (s : Nat) (hs : s < 4294967296) : bits .xor .u32 IntKind.u32.max (s : Int) = ((4294967295 - s : Nat) : Int) := by
  have h := u32_xor_nat 4294967295 s (by omega) hs
  rw [show IntKind.u32.max = ((4294967295 : Nat) : Int) from rfl, h, not_of s hs]
/-- The states behind the first bytes of a list. -/
theorem bytes_take (l : List Int) (k : Nat) (h : k < l.length) : bytesN 4294967295 ((l.map Int.toNat).take (k + 1)) = byteN (bytesN 4294967295 ((l.map Int.toNat).take k)) (l.getD k 0).toNat := by
  unfold bytesN
  rw [List.take_succ_eq_append_getElem (by simpa using h), List.foldl_append]
  simp [List.getD_eq_getElem?_getD, h]
theorem words_take (l : List Int) (k : Nat) (h : k < l.length) : wordsN 4294967295 ((l.map Int.toNat).take (k + 1)) = wordN (wordsN 4294967295 ((l.map Int.toNat).take k)) (l.getD k 0).toNat := by
  unfold wordsN
  rw [List.take_succ_eq_append_getElem (by simpa using h), List.foldl_append]
  simp [List.getD_eq_getElem?_getD, h]
def sumOf (l : List Int) : Nat := 4294967295 - bytesN 4294967295 (l.map Int.toNat)
def sumOfWords (l : List Int) : Nat := 4294967295 - wordsN 4294967295 (l.map Int.toNat)
end Go.Proofs.Ytfjfeomkmhbpbaa.SM
