/- Numbers alone: the state of the sum behind a bit, a byte, a word, and many; that it is linear, and that one bit makes another. Conditions: those that each theorem names. -/
import Derived.WalkKit
import Derived.Test.YtndplpfbohigpaaGreatInts
import Derived.Lib.SlBytesConst
import Derived.RegionTactic
import Derived.Test.YtndplpfbohigpaaGreatArgs
import Derived.Laws.CopyOwn
import Derived.Test.YtndplpfbohigpaaGreatBase
import Derived.Laws.StructEq
namespace Go.Proofs.YtndplpfbohigpaaGreat.SM
open Go.RowKit

def stepN (s b : Nat) : Nat := (s / 2) ^^^ (if (s + b) % 2 = 1 then 2197175160 else 0)
def lowN (s w : Nat) : Nat → Nat
  | 0 => s
  | n + 1 => stepN (lowN s w n) (w / 2 ^ n % 2)
def byteN (s b : Nat) : Nat := lowN s b 8
def wordN (s w : Nat) : Nat := lowN s w 64
def bytesN (s : Nat) (l : List Nat) : Nat := l.foldl byteN s
def wordsN (s : Nat) (l : List Nat) : Nat := l.foldl wordN s

theorem step_lt (s b : Nat) (h : s < 4294967296) : stepN s b < 4294967296 := by
  unfold stepN
  have h2 : (if (s + b) % 2 = 1 then 2197175160 else 0) < 2 ^ 32 := by split <;> omega
  exact Nat.xor_lt_two_pow (n := 32) (by omega) h2
theorem low_lt (s w n : Nat) (h : s < 4294967296) : lowN s w n < 4294967296 := by
  induction n with
  | zero => exact h
  | succ n ih => exact step_lt _ _ ih
theorem byte_lt (s b : Nat) (h : s < 4294967296) : byteN s b < 4294967296 := low_lt s b 8 h
theorem word_lt (s b : Nat) (h : s < 4294967296) : wordN s b < 4294967296 := low_lt s b 64 h
theorem bytes_lt (l : List Nat) : ∀ s, s < 4294967296 → bytesN s l < 4294967296 := by
  induction l with
  | nil => exact fun s h => h
  | cons a l ih => exact fun s h => ih _ (byte_lt s a h)
theorem words_lt (l : List Nat) : ∀ s, s < 4294967296 → wordsN s l < 4294967296 := by
  induction l with
  | nil => exact fun s h => h
  | cons a l ih => exact fun s h => ih _ (word_lt s a h)

/-- The bit's own step, as the walk has it. -/
theorem bit_of (s b : Nat) (hs : s < 4294967296) (hb : b < 2) :
    bits .xor .u32 ((s : Int) / 2) (bits .and .u32 2197175160 (IntKind.u32.wrap (-(bits .xor .u32 (bits .and .u32 (s : Int) 1) (b : Int))))) = ((stepN s b : Nat) : Int) := by
  have e1 : bits .and .u32 (s : Int) 1 = ((s % 2 : Nat) : Int) := by
    have := u32_and_nat s 1 hs (by omega)
    rw [show ((1 : Nat) : Int) = 1 from rfl] at this
    rw [this, nat_mask1]
  have e2 : bits .xor .u32 ((s % 2 : Nat) : Int) (b : Int) = (((s + b) % 2 : Nat) : Int) := by
    rw [u32_xor_nat (s % 2) b (by omega) (by omega)]
    have h : s % 2 = 0 ∨ s % 2 = 1 := by omega
    have hb' : b = 0 ∨ b = 1 := by omega
    rcases h with h | h <;> rcases hb' with rfl | rfl <;> rw [h] <;> simp <;> omega
  rw [e1, e2]
  have e3 : (s : Int) / 2 = ((s / 2 : Nat) : Int) := by omega
  rw [e3]
  unfold stepN
  by_cases hk : (s + b) % 2 = 1
  · rw [if_pos hk, hk]
    have e4 : IntKind.u32.wrap (-((1 : Nat) : Int)) = ((4294967295 : Nat) : Int) := by rw [IntKind.wrap_u32]; omega
    have e5 : bits .and .u32 2197175160 ((4294967295 : Nat) : Int) = ((2197175160 : Nat) : Int) := by
      have := u32_and_nat 2197175160 4294967295 (by omega) (by omega)
      rw [show ((2197175160 : Nat) : Int) = 2197175160 from rfl] at this ⊢
      rw [this]
      have e6 : 2197175160 &&& 4294967295 = 2197175160 % 2 ^ 32 := Nat.and_two_pow_sub_one_eq_mod 2197175160 32
      rw [e6]; rfl
    rw [e4, e5, u32_xor_nat _ _ (by omega) (by omega)]
  · have hk0 : (s + b) % 2 = 0 := by omega
    rw [if_neg hk, hk0]
    have e4 : IntKind.u32.wrap (-((0 : Nat) : Int)) = ((0 : Nat) : Int) := by rw [IntKind.wrap_u32]; omega
    have e5 : bits .and .u32 2197175160 ((0 : Nat) : Int) = ((0 : Nat) : Int) := by
      have := u32_and_nat 2197175160 0 (by omega) (by omega)
      rw [show ((2197175160 : Nat) : Int) = 2197175160 from rfl] at this
      rw [this]
      simp
    rw [e4, e5, u32_xor_nat _ _ (by omega) (by omega)]

/-- THREE TEXTS: the step of the exclusive-or is the exclusive-or of the steps. -/
theorem half_xor (a b : Nat) : (a ^^^ b) / 2 = a / 2 ^^^ b / 2 := by
  apply Nat.eq_of_testBit_eq
  intro i
  rw [Nat.testBit_xor, Nat.testBit_div_two, Nat.testBit_div_two, Nat.testBit_div_two, Nat.testBit_xor]
theorem xor_odd (a b : Nat) : (a ^^^ b) % 2 = (a + b) % 2 := by
  have h := Nat.testBit_xor a b 0
  simp only [Nat.testBit_zero] at h
  have ha : a % 2 = 0 ∨ a % 2 = 1 := by omega
  have hb : b % 2 = 0 ∨ b % 2 = 1 := by omega
  have hc : (a ^^^ b) % 2 = 0 ∨ (a ^^^ b) % 2 = 1 := by omega
  rcases ha with ha | ha <;> rcases hb with hb | hb <;> rcases hc with hc | hc <;> simp [ha, hb, hc] at h ⊢ <;> omega
theorem step_mix (s t u a b c : Nat) : stepN (s ^^^ t ^^^ u) (a ^^^ b ^^^ c) = stepN s a ^^^ stepN t b ^^^ stepN u c := by
  unfold stepN
  have e : ((s ^^^ t ^^^ u) + (a ^^^ b ^^^ c)) % 2 = ((s + a) + (t + b) + (u + c)) % 2 := by
    have h1 := xor_odd (s ^^^ t) u
    have h2 := xor_odd s t
    have h3 := xor_odd (a ^^^ b) c
    have h4 := xor_odd a b
    omega
  rw [half_xor, half_xor, e]
  have hs : (s + a) % 2 = 0 ∨ (s + a) % 2 = 1 := by omega
  have ht : (t + b) % 2 = 0 ∨ (t + b) % 2 = 1 := by omega
  have hu : (u + c) % 2 = 0 ∨ (u + c) % 2 = 1 := by omega
  have key : ∀ p q r m n k : Nat, (p ^^^ m) ^^^ (q ^^^ n) ^^^ (r ^^^ k) = (p ^^^ q ^^^ r) ^^^ (m ^^^ n ^^^ k) := by
    intro p q r m n k
    apply Nat.eq_of_testBit_eq
    intro i
    simp only [Nat.testBit_xor]
    cases p.testBit i <;> cases q.testBit i <;> cases r.testBit i <;> cases m.testBit i <;> cases n.testBit i <;> cases k.testBit i <;> rfl
  rw [key]
  congr 1
  rcases hs with hs | hs <;> rcases ht with ht | ht <;> rcases hu with hu | hu
  all_goals
    rw [hs, ht, hu]
    first
      | rw [show ((s + a) + (t + b) + (u + c)) % 2 = 0 from by omega]
      | rw [show ((s + a) + (t + b) + (u + c)) % 2 = 1 from by omega]
    simp
theorem bit_xor (a b n : Nat) : (a ^^^ b) / 2 ^ n % 2 = (a / 2 ^ n % 2) ^^^ (b / 2 ^ n % 2) := by
  have h : ∀ x : Nat, x / 2 ^ n % 2 = (x.testBit n).toNat := fun x => by
    rw [Nat.testBit_eq_decide_div_mod_eq]
    have : x / 2 ^ n % 2 = 0 ∨ x / 2 ^ n % 2 = 1 := by omega
    rcases this with h | h <;> simp [h]
  rw [h, h, h, Nat.testBit_xor]
  cases a.testBit n <;> cases b.testBit n <;> rfl
theorem low_mix (s t u a b c n : Nat) : lowN (s ^^^ t ^^^ u) (a ^^^ b ^^^ c) n = lowN s a n ^^^ lowN t b n ^^^ lowN u c n := by
  induction n with
  | zero => rfl
  | succ n ih =>
    unfold lowN
    rw [ih, bit_xor, bit_xor, step_mix]

/-- ONE BIT: of one state two bits make two; of two states one bit makes two. -/
theorem step_top (s b : Nat) (hs : s < 4294967296) : (stepN s b).testBit 31 = decide ((s + b) % 2 = 1) := by
  unfold stepN
  rw [Nat.testBit_xor]
  have h1 : (s / 2).testBit 31 = false := Nat.testBit_lt_two_pow (by omega)
  rw [h1]
  have hk : (s + b) % 2 = 0 ∨ (s + b) % 2 = 1 := by omega
  rcases hk with h | h <;> rw [h] <;> decide
theorem xor_cancel {a b c : Nat} (h : a ^^^ c = b ^^^ c) : a = b := by
  have h2 : (a ^^^ c) ^^^ c = (b ^^^ c) ^^^ c := by rw [h]
  rwa [Nat.xor_assoc, Nat.xor_assoc, Nat.xor_self, Nat.xor_zero, Nat.xor_zero] at h2
theorem step_inj (s t b : Nat) (hs : s < 4294967296) (ht : t < 4294967296) (h : stepN s b = stepN t b) : s = t := by
  have h1 := step_top s b hs
  rw [h, step_top t b ht] at h1
  have h2 : (t + b) % 2 = (s + b) % 2 := by
    have hk : (s + b) % 2 = 0 ∨ (s + b) % 2 = 1 := by omega
    have hk' : (t + b) % 2 = 0 ∨ (t + b) % 2 = 1 := by omega
    rcases hk with a | a <;> rcases hk' with c | c <;> simp [a, c] at h1 ⊢
  unfold stepN at h
  rw [h2] at h
  have h3 : s / 2 = t / 2 := xor_cancel h
  omega
theorem step_bits (s a b : Nat) (hs : s < 4294967296) (ha : a < 2) (hb : b < 2) (h : stepN s a = stepN s b) : a = b := by
  have h1 := step_top s a hs
  rw [h, step_top s b hs] at h1
  have hk : (s + a) % 2 = 0 ∨ (s + a) % 2 = 1 := by omega
  have hk' : (s + b) % 2 = 0 ∨ (s + b) % 2 = 1 := by omega
  rcases hk with p | p <;> rcases hk' with q | q <;> simp [p, q] at h1 <;> omega
theorem low_inj (s t w n : Nat) (hs : s < 4294967296) (ht : t < 4294967296) (h : lowN s w n = lowN t w n) : s = t := by
  induction n with
  | zero => exact h
  | succ n ih => exact ih (step_inj _ _ _ (low_lt _ _ _ hs) (low_lt _ _ _ ht) h)
theorem bytes_inj (l : List Nat) : ∀ s t, s < 4294967296 → t < 4294967296 → bytesN s l = bytesN t l → s = t := by
  induction l with
  | nil => exact fun s t _ _ h => h
  | cons a l ih => exact fun s t hs ht h => low_inj s t a 8 hs ht (ih _ _ (byte_lt s a hs) (byte_lt t a ht) h)
/-- Two words of which the lowest n bits are not all the same lead to two states. -/
theorem low_ne (s v w n : Nat) (hs : s < 4294967296) (k : Nat) (hk : k < n) (hlow : ∀ i, i < k → v / 2 ^ i % 2 = w / 2 ^ i % 2) (hd : v / 2 ^ k % 2 ≠ w / 2 ^ k % 2) (hup : ∀ i, k < i → i < n → v / 2 ^ i % 2 = w / 2 ^ i % 2) : lowN s v n ≠ lowN s w n := by
  have hsame : ∀ m, m ≤ k → lowN s v m = lowN s w m := by
    intro m hm
    induction m with
    | zero => rfl
    | succ m ih => unfold lowN; rw [ih (by omega), hlow m (by omega)]
  have hne : ∀ m, k < m → m ≤ n → lowN s v m ≠ lowN s w m := by
    intro m hm hmn
    induction m with
    | zero => omega
    | succ m ih =>
      unfold lowN
      by_cases e : m = k
      · subst e
        rw [hsame m (Nat.le_refl _)]
        intro h
        exact hd (step_bits _ _ _ (low_lt _ _ _ hs) (Nat.mod_lt _ (by omega)) (Nat.mod_lt _ (by omega)) h)
      · rw [hup m (by omega) (by omega)]
        intro h
        exact ih (by omega) (by omega) (step_inj _ _ _ (low_lt _ _ _ hs) (low_lt _ _ _ hs) h)
  exact hne n hk (Nat.le_refl _)
/-- The bit that the walk cuts out of a word. -/
theorem low_bit (x k : Nat) : bits .and .u32 ((x : Int) / 2 ^ k % 4294967296) 1 = ((x / 2 ^ k % 2 : Nat) : Int) := by
  have e : (x : Int) / 2 ^ k % 4294967296 = ((x / 2 ^ k % 4294967296 : Nat) : Int) := by
    rw [Int.natCast_emod, Int.natCast_ediv, Int.natCast_pow]; rfl
  have h := u32_and_nat (x / 2 ^ k % 4294967296) 1 (Nat.mod_lt _ (by omega)) (by omega)
  rw [show ((1 : Nat) : Int) = 1 from rfl] at h
  rw [e, h, nat_mask1]
  have : x / 2 ^ k % 4294967296 % 2 = x / 2 ^ k % 2 := by omega
  rw [this]
/-- All ones less a state is the state with each bit turned. -/
theorem not_of (s : Nat) (hs : s < 4294967296) : 4294967295 ^^^ s = 4294967295 - s := by
  apply Nat.eq_of_testBit_eq
  intro i
  have e1 : 4294967295 - s = 2 ^ 32 - (s + 1) := by omega
  have e2 : (4294967295 : Nat) = 2 ^ 32 - 1 := by omega
  rw [Nat.testBit_xor, e1, Nat.testBit_two_pow_sub_succ (by omega), e2, Nat.testBit_two_pow_sub_one]
  by_cases h : i < 32
  · simp [h]
  · simp [h, Nat.testBit_lt_two_pow (show s < 2 ^ i from Nat.lt_of_lt_of_le (by omega : s < 2 ^ 32) (Nat.pow_le_pow_right (by omega) (by omega)))]
theorem end_of (s : Nat) (hs : s < 4294967296) : bits .xor .u32 IntKind.u32.max (s : Int) = ((4294967295 - s : Nat) : Int) := by
  have h := u32_xor_nat 4294967295 s (by omega) hs
  rw [show IntKind.u32.max = ((4294967295 : Nat) : Int) from rfl, h, not_of s hs]
/-- The states behind the first bytes of a list. -/
theorem bytes_take (l : List Int) (k : Nat) (h : k < l.length) : bytesN 4294967295 ((l.map Int.toNat).take (k + 1)) = byteN (bytesN 4294967295 ((l.map Int.toNat).take k)) (l.getD k 0).toNat := by
  unfold bytesN
  rw [List.take_succ_eq_append_getElem (by simpa using h), List.foldl_append]
  simp [List.getD_eq_getElem?_getD, h]
theorem words_take (l : List Int) (k : Nat) (h : k < l.length) : wordsN 4294967295 ((l.map Int.toNat).take (k + 1)) = wordN (wordsN 4294967295 ((l.map Int.toNat).take k)) (l.getD k 0).toNat := by
  unfold wordsN
  rw [List.take_succ_eq_append_getElem (by simpa using h), List.foldl_append]
  simp [List.getD_eq_getElem?_getD, h]
def sumOf (l : List Int) : Nat := 4294967295 - bytesN 4294967295 (l.map Int.toNat)
def sumOfWords (l : List Int) : Nat := 4294967295 - wordsN 4294967295 (l.map Int.toNat)
end Go.Proofs.YtndplpfbohigpaaGreat.SM

/- What each function of package sum answers: the state behind a bit, a byte, a word, bytes, words. Conditions: each argument lies in its type; a slice reads as the list that is named. -/
namespace Go.Proofs.YtndplpfbohigpaaGreat
open Go.ChangeShapes Go.WideShapes Go.ChangeAt Go.RowKit
set_option linter.unusedVariables false

theorem reti {k : IntKind} {a b : Int} (h : a = b) : Ending.returned (.int k a) = .returned (.int k b) := by rw [h]

theorem hello : SM.sumOf [49, 50, 51, 52, 53, 54, 55, 56, 57] = 3808858755 := by decide +kernel
theorem hello_cells (w : World) : Ints (w.alloc (.cells #[.int .u8 49, .int .u8 50, .int .u8 51, .int .u8 52, .int .u8 53, .int .u8 54, .int .u8 55, .int .u8 56, .int .u8 57] 5 (9, 10))) .u8 (some ⟨w.heap.size, 0, none⟩) [49, 50, 51, 52, 53, 54, 55, 56, 57] := fun _ => by
  refine ⟨_, rfl, by simp, fun j hj => ?_⟩
  have hj' : j < 9 := hj
  have h : (⟨w.heap.size, 0, none⟩ : Addr).add j = ⟨w.heap.size, j, none⟩ := by unfold Addr.add; split <;> simp_all
  rw [h, cell_of_row _ _ _ _ _ _ (heap_alloc_new w _)]
  match j, hj' with
  | 0, _ => rfl
  | 1, _ => rfl
  | 2, _ => rfl
  | 3, _ => rfl
  | 4, _ => rfl
  | 5, _ => rfl
  | 6, _ => rfl
  | 7, _ => rfl
  | 8, _ => rfl
theorem hello_lim : Lim [49, 50, 51, 52, 53, 54, 55, 56, 57] 256 := by
  intro j hj
  have hj' : j < 9 := hj
  match j, hj' with
  | 0, _ => decide
  | 1, _ => decide
  | 2, _ => decide
  | 3, _ => decide
  | 4, _ => decide
  | 5, _ => decide
  | 6, _ => decide
  | 7, _ => decide
  | 8, _ => decide
end Go.Proofs.YtndplpfbohigpaaGreat

/- Numbers alone: dividing by the polynomial, bit by bit, leaves the state of the sum; the bits of bytes and of words, one behind the other. Conditions: those that each theorem names. -/
namespace Go.Proofs.YtndplpfbohigpaaGreat.SM
open Go.RowKit

/-- A number's lowest bits. -/
def bitsOf (x : Nat) : Nat → List Int
  | 0 => []
  | n + 1 => bitsOf x n ++ [((x / 2 ^ n % 2 : Nat) : Int)]
theorem bitsOf_length (x n : Nat) : (bitsOf x n).length = n := by
  induction n with
  | zero => rfl
  | succ n ih => simp [bitsOf, ih]
theorem bitsOf_get (x n k : Nat) (h : k < n) : (bitsOf x n).getD k 0 = ((x / 2 ^ k % 2 : Nat) : Int) := by
  induction n with
  | zero => omega
  | succ n ih =>
    unfold bitsOf
    by_cases e : k < n
    · rw [List.getD_eq_getElem?_getD, List.getElem?_append_left (by rw [bitsOf_length]; exact e), ← List.getD_eq_getElem?_getD]; exact ih e
    · have : k = n := by omega
      subst this
      rw [List.getD_eq_getElem?_getD, List.getElem?_append_right (by rw [bitsOf_length]; omega), bitsOf_length]; simp
theorem half_pow (x k : Nat) : x / 2 ^ k / 2 = x / 2 ^ (k + 1) := by rw [Nat.div_div_eq_div_mul, Nat.pow_succ]

def Bt (x k : Nat) : Nat := x / 2 ^ k % 2
theorem Bt_lt (x k : Nat) : Bt x k < 2 := Nat.mod_lt _ (by omega)
theorem xor_sum (a b : Nat) (ha : a < 2) (hb : b < 2) : a ^^^ b = (a + b) % 2 := by
  have h1 : a = 0 ∨ a = 1 := by omega
  have h2 : b = 0 ∨ b = 1 := by omega
  rcases h1 with rfl | rfl <;> rcases h2 with rfl | rfl <;> rfl
theorem Bt_step (s b k : Nat) : Bt (stepN s b) k = (Bt s (k + 1) + (if (s + b) % 2 = 1 then Bt 2197175160 k else 0)) % 2 := by
  unfold stepN
  have e : Bt (s / 2 ^^^ if (s + b) % 2 = 1 then 2197175160 else 0) k = Bt (s / 2) k ^^^ Bt (if (s + b) % 2 = 1 then 2197175160 else 0) k := bit_xor _ _ _
  have e2 : Bt (s / 2) k = Bt s (k + 1) := by
    unfold Bt
    rw [Nat.div_div_eq_div_mul, Nat.pow_succ, Nat.mul_comm]
  rw [e, xor_sum _ _ (Bt_lt _ _) (Bt_lt _ _), e2]
  split
  · rfl
  · have : Bt 0 k = 0 := by unfold Bt; simp
    rw [this]
theorem Bt_high (s : Nat) (h : s < 4294967296) : Bt s 32 = 0 := by unfold Bt; rw [Nat.div_eq_of_lt (by omega)]
theorem Bt_zero (s : Nat) : Bt s 0 = s % 2 := by unfold Bt; simp

/-- The state behind the first i of a list's bits. -/
def stAt (s : Nat) (l : List Int) : Nat → Nat
  | 0 => s
  | i + 1 => stepN (stAt s l i) (l.getD i 0).toNat
theorem stAt_lt (s : Nat) (l : List Int) (i : Nat) (h : s < 4294967296) : stAt s l i < 4294967296 := by
  induction i with
  | zero => exact h
  | succ i ih => exact step_lt _ _ ih
/-- What stands at place j ahead of the division's step i. -/
def divF (s : Nat) (l : List Int) (i j : Nat) : Nat := ((l.getD j 0).toNat + (if j < i + 32 then Bt (stAt s l i) (j - i) else 0)) % 2
/-- The divisor. -/
def dv (m : Nat) : Nat := if m = 0 then 1 else if m ≤ 32 then Bt 2197175160 (m - 1) else 0
theorem divF_lt (s : Nat) (l : List Int) (i j : Nat) : divF s l i j < 2 := Nat.mod_lt _ (by omega)
theorem dv_lt (m : Nat) : dv m < 2 := by
  unfold dv
  split
  · omega
  · split
    · exact Bt_lt _ _
    · omega
theorem divF_step (s : Nat) (l : List Int) (i j : Nat) (hs : s < 4294967296) (hj : i < j) : divF s l (i + 1) j = (divF s l i j + (if divF s l i i = 1 then dv (j - i) else 0)) % 2 := by
  have e0 : divF s l i i = ((l.getD i 0).toNat + stAt s l i) % 2 := by
    unfold divF
    rw [if_pos (by omega), Nat.sub_self, Bt_zero]
    omega
  rw [e0]
  have ec : (if ((l.getD i 0).toNat + stAt s l i) % 2 = 1 then dv (j - i) else 0) = if (stAt s l i + (l.getD i 0).toNat) % 2 = 1 then dv (j - i) else 0 := by rw [Nat.add_comm]
  rw [ec]
  unfold divF
  by_cases h1 : j < i + 1 + 32
  · rw [if_pos h1]
    show (_ + Bt (stepN (stAt s l i) (l.getD i 0).toNat) (j - (i + 1))) % 2 = _
    rw [Bt_step]
    have e1 : j - (i + 1) + 1 = j - i := by omega
    rw [e1]
    have e2 : dv (j - i) = Bt 2197175160 (j - (i + 1)) := by
      unfold dv
      rw [if_neg (by omega), if_pos (by omega)]
      congr 1
    rw [e2]
    by_cases h2 : j < i + 32
    · rw [if_pos h2]
      split <;> omega
    · rw [if_neg h2]
      have e3 : j - i = 32 := by omega
      rw [e3, Bt_high _ (stAt_lt s l i hs)]
      split <;> omega
  · rw [if_neg h1, if_neg (by omega)]
    have e2 : dv (j - i) = 0 := by
      unfold dv
      rw [if_neg (by omega), if_neg (by omega)]
    rw [e2]
    split <;> omega
theorem divF_end (s : Nat) (l : List Int) (k : Nat) (h : k < 32) : divF s l l.length (l.length + k) = Bt (stAt s l l.length) k := by
  unfold divF
  have e : l.getD (l.length + k) 0 = 0 := by simp [List.getD_eq_getElem?_getD]
  rw [e, if_pos (by omega), Nat.add_sub_cancel_left]
  have := Bt_lt (stAt s l l.length) k
  simp
  omega
theorem horner (x m : Nat) : 2 * (x / 2 ^ (m + 1)) + Bt x m = x / 2 ^ m := by
  unfold Bt
  rw [← half_pow]
  omega

/-- The state laid over the first bits, as far as it has come. -/
def xorF (s : Nat) (l : List Int) (m j : Nat) : Nat := ((l.getD j 0).toNat + (if j < m then Bt s j else 0)) % 2
theorem xorF_lt (s : Nat) (l : List Int) (m j : Nat) : xorF s l m j < 2 := Nat.mod_lt _ (by omega)
theorem xorF_succ (s : Nat) (l : List Int) (m j : Nat) : (if j = m then (xorF s l m m + Bt s m) % 2 else xorF s l m j) = xorF s l (m + 1) j := by
  unfold xorF
  by_cases h : j = m
  · subst h
    rw [if_pos rfl, if_neg (by omega), if_pos (by omega)]
    omega
  · rw [if_neg h]
    by_cases h2 : j < m
    · rw [if_pos h2, if_pos (by omega)]
    · rw [if_neg h2, if_neg (by omega)]
theorem xorF_all (s : Nat) (l : List Int) (j : Nat) : xorF s l 32 j = divF s l 0 j := by
  unfold xorF divF
  rw [Nat.zero_add, Nat.sub_zero]; rfl
/-- The divisor laid over, from its end on, as far as it has come. -/
def subF (F : Nat → Nat) (i m j : Nat) : Nat := if i + 32 < j + m ∧ j ≤ i + 32 then (F j + dv (j - i)) % 2 else F j
theorem subF_zero (F : Nat → Nat) (i j : Nat) : subF F i 0 j = F j := by
  unfold subF
  rw [if_neg (by omega)]
theorem subF_succ (F : Nat → Nat) (i m j : Nat) (hm : m ≤ 32) : (if j = i + 32 - m then (subF F i m (i + 32 - m) + dv (32 - m)) % 2 else subF F i m j) = subF F i (m + 1) j := by
  unfold subF
  by_cases h : j = i + 32 - m
  · subst h
    rw [if_pos rfl, if_neg (by omega), if_pos (by omega), show i + 32 - m - i = 32 - m from by omega]
  · rw [if_neg h]
    by_cases h2 : i + 32 < j + m ∧ j ≤ i + 32
    · rw [if_pos h2, if_pos (by omega)]
    · rw [if_neg h2, if_neg (by omega)]
/-- What stands at any place ahead of the division's step i: behind it, noughts. -/
def divG (s : Nat) (l : List Int) (i j : Nat) : Nat := if j < i then 0 else divF s l i j
theorem divG_lt (s : Nat) (l : List Int) (i j : Nat) : divG s l i j < 2 := by
  unfold divG
  split
  · omega
  · exact divF_lt _ _ _ _
theorem divG_zero (s : Nat) (l : List Int) (j : Nat) : xorF s l 32 j = divG s l 0 j := by
  unfold divG
  rw [if_neg (by omega), xorF_all]
theorem subF_at (s : Nat) (l : List Int) (i m : Nat) (hm : m ≤ 32) : subF (divG s l i) i m i = divG s l i i := by
  unfold subF
  rw [if_neg (by omega)]
theorem subF_last (s : Nat) (l : List Int) (i : Nat) (h1 : divG s l i i = 1) : subF (divG s l i) i 33 i = 0 := by
  unfold subF
  rw [if_pos (by omega), h1, Nat.sub_self]; rfl
theorem subF_lt (s : Nat) (l : List Int) (i m j : Nat) : subF (divG s l i) i m j < 2 := by
  unfold subF
  split
  · exact Nat.mod_lt _ (by omega)
  · exact divG_lt _ _ _ _
theorem subF_end (s : Nat) (l : List Int) (i j : Nat) (hs : s < 4294967296) (h1 : divG s l i i = 1) : subF (divG s l i) i 33 j = divG s l (i + 1) j := by
  by_cases e : j = i
  · subst e
    rw [subF_last s l j h1]
    unfold divG
    rw [if_pos (by omega)]
  · have h1' : divF s l i i = 1 := by
      unfold divG at h1
      rwa [if_neg (by omega)] at h1
    unfold subF divG
    by_cases hj : j < i
    · rw [if_neg (by omega), if_pos hj, if_pos (by omega)]
    · rw [if_neg hj, if_neg (show ¬ j < i + 1 from by omega), divF_step s l i j hs (by omega), if_pos h1']
      by_cases h : j ≤ i + 32
      · rw [if_pos (by omega)]
      · rw [if_neg (by omega)]
        have e : dv (j - i) = 0 := by unfold dv; rw [if_neg (by omega), if_neg (by omega)]
        rw [e]
        have := divF_lt s l i j
        omega
theorem keepF_end (s : Nat) (l : List Int) (i j : Nat) (hs : s < 4294967296) (h1 : divG s l i i = 0) : divG s l i j = divG s l (i + 1) j := by
  have h1' : divF s l i i = 0 := by
    unfold divG at h1
    rwa [if_neg (by omega)] at h1
  unfold divG
  by_cases hj : j < i
  · rw [if_pos hj, if_pos (by omega)]
  · rw [if_neg hj]
    by_cases e : j = i
    · subst e
      rw [if_pos (by omega), h1']
    · rw [if_neg (by omega), divF_step s l i j hs (by omega), if_neg (by omega)]
      have := divF_lt s l i j
      omega
theorem divG_end (s : Nat) (l : List Int) (k : Nat) (h : k < 32) : divG s l l.length (l.length + k) = Bt (stAt s l l.length) k := by
  unfold divG
  rw [if_neg (by omega), divF_end s l k h]
theorem dv_get (j : Nat) (hj : j < 33) : ((1 : Int) :: bitsOf 2197175160 32).getD j 0 = (dv j : Nat) := by
  unfold dv
  cases j with
  | zero => rfl
  | succ j =>
    rw [if_neg (by omega), if_pos (by omega), List.getD_cons_succ, bitsOf_get _ _ _ (by omega)]
    rfl

/-- A byte's, and a word's, bits. -/
theorem stAt_low (s x n : Nat) : ∀ i, i ≤ n → stAt s (bitsOf x n) i = lowN s x i := by
  intro i hi
  induction i with
  | zero => rfl
  | succ i ih =>
    unfold stAt lowN
    rw [ih (by omega), bitsOf_get _ _ _ (by omega)]
    rfl
theorem stAt_all (s x n : Nat) : stAt s (bitsOf x n) (bitsOf x n).length = lowN s x n := by rw [bitsOf_length]; exact stAt_low s x n n (Nat.le_refl _)
theorem stAt_fold (s : Nat) (l : List Int) : stAt s l l.length = (l.map Int.toNat).foldl stepN s := by
  have h : ∀ i, i ≤ l.length → stAt s l i = ((l.map Int.toNat).take i).foldl stepN s := by
    intro i hi
    induction i with
    | zero => rfl
    | succ i ih =>
      unfold stAt
      rw [ih (by omega), List.take_succ_eq_append_getElem (by simp; omega), List.foldl_append]
      simp [List.getD_eq_getElem?_getD, show i < l.length from by omega]
  rw [h _ (Nat.le_refl _), List.take_of_length_le (by simp)]
/-- The bits of all bytes. -/
def bitsAll : List Nat → List Int
  | [] => []
  | b :: l => bitsOf b 8 ++ bitsAll l
theorem fold_bits (s x n : Nat) : ((bitsOf x n).map Int.toNat).foldl stepN s = lowN s x n := by rw [← stAt_fold, stAt_all]
theorem bitsAll_fold (l : List Nat) : ∀ s, ((bitsAll l).map Int.toNat).foldl stepN s = bytesN s l := by
  induction l with
  | nil => exact fun s => rfl
  | cons b l ih =>
    intro s
    unfold bitsAll
    rw [List.map_append, List.foldl_append, ih, fold_bits]
    rfl
theorem bitsAll_snoc (l : List Nat) (b : Nat) : bitsAll (l ++ [b]) = bitsAll l ++ bitsOf b 8 := by
  induction l with
  | nil => simp [bitsAll]
  | cons a l ih => simp [bitsAll, ih]
theorem bitsAll_length (l : List Nat) : (bitsAll l).length = 8 * l.length := by
  induction l with
  | nil => rfl
  | cons a l ih => simp [bitsAll, ih, bitsOf_length]; omega
/-- A word is its eight bytes, the lowest first. -/
def bytesOf (x : Nat) : Nat → List Nat
  | 0 => []
  | n + 1 => bytesOf x n ++ [x / 256 ^ n % 256]
theorem low_add (s x m : Nat) : ∀ n, lowN s x (m + n) = lowN (lowN s x m) (x / 2 ^ m) n := by
  intro n
  induction n with
  | zero => rfl
  | succ n ih =>
    show stepN (lowN s x (m + n)) (x / 2 ^ (m + n) % 2) = stepN (lowN (lowN s x m) (x / 2 ^ m) n) (x / 2 ^ m / 2 ^ n % 2)
    rw [ih, Nat.div_div_eq_div_mul, ← Nat.pow_add]
theorem low_cut (s x : Nat) : ∀ n, n ≤ 8 → lowN s (x % 256) n = lowN s x n := by
  intro n hn
  induction n with
  | zero => rfl
  | succ n ih =>
    unfold lowN
    rw [ih (by omega)]
    congr 1
    match n, hn with
    | 0, _ => omega
    | 1, _ => omega
    | 2, _ => omega
    | 3, _ => omega
    | 4, _ => omega
    | 5, _ => omega
    | 6, _ => omega
    | 7, _ => omega
theorem word_bytes (s x : Nat) : ∀ n, bytesN s (bytesOf x n) = lowN s x (8 * n) := by
  intro n
  induction n with
  | zero => rfl
  | succ n ih =>
    have e : 8 * (n + 1) = 8 * n + 8 := by omega
    have e3 : bytesN s (bytesOf x (n + 1)) = byteN (bytesN s (bytesOf x n)) (x / 256 ^ n % 256) := by
      show List.foldl byteN s (bytesOf x n ++ [x / 256 ^ n % 256]) = byteN (List.foldl byteN s (bytesOf x n)) (x / 256 ^ n % 256)
      rw [List.foldl_append]; rfl
    rw [e3, e, low_add, ih]
    unfold byteN
    rw [low_cut _ _ 8 (Nat.le_refl _)]
    have e2 : (256 : Nat) ^ n = 2 ^ (8 * n) := by rw [Nat.pow_mul]
    rw [e2]
/-- The bytes of all words. -/
def bytesAll : List Nat → List Nat
  | [] => []
  | w :: l => bytesOf w 8 ++ bytesAll l
theorem bytesAll_fold (l : List Nat) : ∀ s, bytesN s (bytesAll l) = wordsN s l := by
  induction l with
  | nil => exact fun s => rfl
  | cons w l ih =>
    intro s
    have e : bytesN s (bytesAll (w :: l)) = bytesN (bytesN s (bytesOf w 8)) (bytesAll l) := by
      show List.foldl byteN s (bytesOf w 8 ++ bytesAll l) = List.foldl byteN (List.foldl byteN s (bytesOf w 8)) (bytesAll l)
      rw [List.foldl_append]
    rw [e, ih, word_bytes]
    rfl
theorem bytesAll_snoc (l : List Nat) (b : Nat) : bytesAll (l ++ [b]) = bytesAll l ++ bytesOf b 8 := by
  induction l with
  | nil => simp [bytesAll]
  | cons a l ih => simp [bytesAll, ih]
end Go.Proofs.YtndplpfbohigpaaGreat.SM

/- What the reference's functions of layer 2 answer: a number's bits, the divisor, what is left by dividing. Conditions: each argument lies in its type; a slice reads as the list that is named, of up to a million. -/
namespace Go.Proofs.YtndplpfbohigpaaGreat
open Go.ChangeShapes Go.WideShapes Go.ChangeAt Go.RowKit
set_option linter.unusedVariables false

theorem int_info : (Tryz.prog.info? 3).map (fun i => (i.zero, i.size, i.bytes)) = some (some (.int .i64 0), 1, 8) := by kernel_rfl

namespace SM
theorem bitsOf_take (x n k : Nat) (h : k < n) : (1 : Int) :: bitsOf x (k + 1) = ((1 : Int) :: bitsOf x k) ++ [((x / 2 ^ k % 2 : Nat) : Int)] := rfl
end SM

/-- The cells of a block, each by its number, none of them frozen. -/
def Cells (w : World) (g n : Nat) (F : Nat → Nat) : Prop := ∀ j, j < n → w.cell? ⟨g, j, none⟩ = some (.int .i64 (F j : Nat)) ∧ w.frozen? ⟨g, j, none⟩ = false
theorem Cells.drew {w : World} {g n : Nat} {F : Nat → Nat} (h : Cells w g n F) : Cells w.drew g n F := h
theorem Cells.ext {w w' : World} {g n : Nat} {F : Nat → Nat} (h : Cells w g n F) (x : Ext w w') (hg : g < w.heap.size) : Cells w' g n F := fun j hj =>
  ⟨(Below.cell x.below (by exact hg)).trans (h j hj).1, (Below.frozen x.below (by exact hg)).trans (h j hj).2⟩
theorem Cells.set {w : World} {g n : Nat} {F : Nat → Nat} (h : Cells w g n F) (i z : Nat) (hi : i < n) : Cells (w.setCell ⟨g, i, none⟩ (.int .i64 (z : Nat))) g n (fun j => if j = i then z else F j) := fun j hj => by
  refine ⟨?_, by rw [World.frozen?_setCell]; exact (h j hj).2⟩
  by_cases e : j = i
  · subst e
    show _ = some (Value.int .i64 ((if j = j then z else F j : Nat) : Int))
    rw [if_pos rfl]
    exact World.cell?_setCell_same _ _ _ (h j hj).1
  · show _ = some (Value.int .i64 ((if j = i then z else F j : Nat) : Int))
    rw [if_neg e, World.cell?_setCell_other _ _ _ _ (by intro e2; injection e2 with _ e3; exact e e3.symm)]
    exact (h j hj).1
theorem Cells.far {w : World} {g g' n i : Nat} {F : Nat → Nat} {u : Value} (h : Cells w g n F) (hne : g' ≠ g) : Cells (w.setCell ⟨g', i, none⟩ u) g n F := fun j hj =>
  ⟨by rw [World.cell?_setCell_other _ _ _ _ (by intro e2; injection e2 with e3; exact hne e3)]; exact (h j hj).1, by rw [World.frozen?_setCell]; exact (h j hj).2⟩
theorem Cells.same {w : World} {g n : Nat} {F G : Nat → Nat} (h : Cells w g n F) (e : ∀ j, j < n → F j = G j) : Cells w g n G := fun j hj => by rw [← e j hj]; exact h j hj
theorem Row.cells {w : World} {B g n c : Nat} {zs : List Int} {F : Nat → Nat} (h : Row w B 3 .i64 (.slice (some ⟨g, 0, none⟩) n c) zs) (hn : zs.length = n) (e : ∀ j, j < n → zs.getD j 0 = (F j : Nat)) : Cells w g n F := fun j hj => by
  have h' : w.ownsRow B 3 1 (.slice (some ⟨g, 0, none⟩) n c) n (zs.map (Value.int .i64)) := by rw [← hn]; rw [← hn] at h; exact h
  refine ⟨?_, h'.frozenAt j⟩
  rw [h'.cellAt j (by omega), ← e j hj]
  simp [List.getD_eq_getElem?_getD, show j < zs.length from by omega]

theorem SM.pad_get (l : List Int) (hl : Lim l 2) (m : Nat) (j : Nat) : (l ++ List.replicate m 0).getD j 0 = (((l.getD j 0).toNat : Nat) : Int) := by
  by_cases h : j < l.length
  · have := hl j h
    rw [Int.toNat_of_nonneg this.1]
    simp [List.getD_eq_getElem?_getD, List.getElem?_append_left h]
  · have e : l.getD j 0 = 0 := by simp [List.getD_eq_getElem?_getD, show l.length ≤ j from by omega]
    rw [e]
    simp [List.getD_eq_getElem?_getD, List.getElem?_append_right (show l.length ≤ j from by omega), List.getElem?_replicate]
    split <;> rfl

theorem SM.xorF_zero (l : List Int) (s : Nat) (hl : Lim l 2) (j : Nat) (_ : j < l.length + 32) : (l.getD j 0).toNat = SM.xorF s l 0 j := by
  unfold SM.xorF
  by_cases h : j < l.length
  · have := hl j h
    rw [if_neg (by omega)]; omega
  · have e : l.getD j 0 = 0 := by simp [List.getD_eq_getElem?_getD, show l.length ≤ j from by omega]
    rw [e]; simp

theorem Cells.of_block {w w' : World} {g n : Nat} {F : Nat → Nat} (h : Cells w g n F) (e : w'.heap[g]? = w.heap[g]?) : Cells w' g n F := fun j hj =>
  ⟨(World.cell?_of_block (a := ⟨g, j, none⟩) e).trans (h j hj).1, (World.frozen?_of_block (a := ⟨g, j, none⟩) e).trans (h j hj).2⟩
theorem SM.bits_lim (x n : Nat) : Lim (SM.bitsOf x n) 2 := fun j hj => by
  rw [SM.bitsOf_length] at hj
  rw [SM.bitsOf_get _ _ _ hj]
  omega

end Go.Proofs.YtndplpfbohigpaaGreat

/- What the reference's sums of bytes and of words answer. Conditions: each argument lies in its type; a slice reads as the list that is named, of up to 10000. -/
namespace Go.Proofs.YtndplpfbohigpaaGreat
open Go.ChangeShapes Go.WideShapes Go.ChangeAt Go.RowKit
set_option linter.unusedVariables false

theorem byte_info : (Tryz.prog.info? 5).map (fun i => (i.zero, i.size, i.bytes)) = some (some (.int .u8 0), 1, 1) := by kernel_rfl

namespace SM
theorem nats_take (l : List Int) (k : Nat) (h : k < l.length) : (l.map Int.toNat).take (k + 1) = (l.map Int.toNat).take k ++ [(l.getD k 0).toNat] := by
  rw [List.take_succ_eq_append_getElem (by simpa using h)]
  simp [List.getD_eq_getElem?_getD, h]
theorem bitsAll_lim (l : List Nat) : Lim (bitsAll l) 2 := by
  induction l with
  | nil => exact none_lim 2
  | cons b l ih =>
    intro j hj
    unfold bitsAll at hj ⊢
    rw [List.length_append] at hj
    by_cases h : j < (bitsOf b 8).length
    · rw [List.getD_eq_getElem?_getD, List.getElem?_append_left h, ← List.getD_eq_getElem?_getD]
      exact bits_lim b 8 j h
    · rw [List.getD_eq_getElem?_getD, List.getElem?_append_right (by omega), ← List.getD_eq_getElem?_getD]
      exact ih _ (by omega)
end SM

namespace SM
def ints (l : List Nat) : List Int := l.map (fun n : Nat => (n : Int))
theorem ints_nats (l : List Nat) : (ints l).map Int.toNat = l := by
  unfold ints
  rw [List.map_map]
  have : (Int.toNat ∘ fun n : Nat => (n : Int)) = id := by funext n; simp
  rw [this, List.map_id]
theorem ints_length (l : List Nat) : (ints l).length = l.length := by unfold ints; simp
theorem ints_snoc (l : List Nat) (n : Nat) : ints (l ++ [n]) = ints l ++ [(n : Int)] := by unfold ints; simp
theorem bytesOf_length (x n : Nat) : (bytesOf x n).length = n := by
  induction n with
  | zero => rfl
  | succ n ih => simp [bytesOf, ih]
theorem bytesAll_length (l : List Nat) : (bytesAll l).length = 8 * l.length := by
  induction l with
  | nil => rfl
  | cons a l ih => simp [bytesAll, ih, bytesOf_length]; omega
theorem bytesOf_small (x n : Nat) : ∀ b ∈ bytesOf x n, b < 256 := by
  induction n with
  | zero => intro b hb; simp [bytesOf] at hb
  | succ n ih =>
    intro b hb
    simp only [bytesOf, List.mem_append, List.mem_singleton] at hb
    rcases hb with hb | rfl
    · exact ih b hb
    · exact Nat.mod_lt _ (by omega)
theorem bytesAll_small (l : List Nat) : ∀ b ∈ bytesAll l, b < 256 := by
  induction l with
  | nil => intro b hb; simp [bytesAll] at hb
  | cons a l ih =>
    intro b hb
    simp only [bytesAll, List.mem_append] at hb
    rcases hb with hb | hb
    · exact bytesOf_small a 8 b hb
    · exact ih b hb
theorem ints_lim (l : List Nat) (h : ∀ b ∈ l, b < 256) : Lim (ints l) 256 := fun j hj => by
  rw [ints_length] at hj
  have e : (ints l).getD j 0 = ((l[j] : Nat) : Int) := by unfold ints; simp [List.getD_eq_getElem?_getD, hj]
  have := h l[j] (List.getElem_mem hj)
  rw [e]
  omega
theorem byte_pow (x k : Nat) : x / 256 ^ k / 256 = x / 256 ^ (k + 1) := by rw [Nat.div_div_eq_div_mul, Nat.pow_succ]
end SM

end Go.Proofs.YtndplpfbohigpaaGreat

/- What Right of package super and of the document's answer for it tell; the words of a config's line, and its sum. Conditions: those that each theorem names. -/
namespace Go.Proofs.YtndplpfbohigpaaGreat
open Go.ChangeShapes Go.WideShapes Go.ChangeAt Go.RowKit
set_option linter.unusedVariables false

def CfgOk (t s l b : Int) : Prop := (1 ≤ t ∧ t ≤ 64) ∧ (1 ≤ s ∧ s ≤ 65536) ∧ (1 ≤ l ∧ l ≤ 64) ∧ (1 ≤ b ∧ b ≤ 64)
theorem cfg_em (t s l b : Int) : CfgOk t s l b ∨ ¬ CfgOk t s l b := Classical.em _
theorem retb {a b : Bool} (h : a = b) : Ending.returned (.bool a) = .returned (.bool b) := by rw [h]

theorem within_yes (n m : Int) (w : World) (h : 1 ≤ n ∧ n ≤ m) :
    Calls Tryz.prog 236 #[.int .i64 n, .int .i64 m] w fun e w' => e = .returned (.bool true) ∧ w = w' := by
  obtain ⟨h1, h2⟩ := h
  go_enter Tryz.func236, Tryz.ntmps236
  go_wp2
  all_goals first | (go_ret; exact ⟨rfl, rfl⟩) | omega
theorem within_no (n m : Int) (w : World) (h : ¬ (1 ≤ n ∧ n ≤ m)) :
    Calls Tryz.prog 236 #[.int .i64 n, .int .i64 m] w fun e w' => e = .returned (.bool false) ∧ w = w' := by
  by_cases h1 : 1 ≤ n
  · have h2 : ¬ n ≤ m := fun x => h ⟨h1, x⟩
    clear h
    go_enter Tryz.func236, Tryz.ntmps236
    go_wp2
    all_goals first | (go_ret; exact ⟨rfl, rfl⟩) | omega
  · clear h
    go_enter Tryz.func236, Tryz.ntmps236
    go_wp2
    all_goals first | (go_ret; exact ⟨rfl, rfl⟩) | omega

theorem right_yes (t s l b : Int) (w : World) (h : CfgOk t s l b) :
    Calls Tryz.prog 188 #[.agg #[.int .i64 t, .int .i64 s, .int .i64 l, .int .i64 b]] w fun e w' => e = .returned (.bool true) ∧ Ext w w' := by
  obtain ⟨h1, h2, h3, h4⟩ := h
  go_enter Tryz.func188, Tryz.ntmps188
  go_wp2_with fail
  refine (within_yes t 64 _ h1).mono ?_
  rintro e w' ⟨rfl, rfl⟩
  go_wp2_with fail
  refine (within_yes s 65536 _ h2).mono ?_
  rintro e w' ⟨rfl, rfl⟩
  go_wp2_with fail
  refine (within_yes l 64 _ h3).mono ?_
  rintro e w' ⟨rfl, rfl⟩
  go_wp2_with fail
  refine (within_yes b 64 _ h4).mono ?_
  rintro e w' ⟨rfl, rfl⟩
  go_wp2_with fail
  go_ret
  exact ⟨rfl, (Ext.refl w).alloc _⟩
theorem right_no (t s l b : Int) (w : World) (h : ¬ CfgOk t s l b) :
    Calls Tryz.prog 188 #[.agg #[.int .i64 t, .int .i64 s, .int .i64 l, .int .i64 b]] w fun e w' => e = .returned (.bool false) ∧ Ext w w' := by
  by_cases h1 : 1 ≤ t ∧ t ≤ 64
  · by_cases h2 : 1 ≤ s ∧ s ≤ 65536
    · by_cases h3 : 1 ≤ l ∧ l ≤ 64
      · have h4 : ¬ (1 ≤ b ∧ b ≤ 64) := fun x => h ⟨h1, h2, h3, x⟩
        clear h
        go_enter Tryz.func188, Tryz.ntmps188
        go_wp2_with fail
        refine (within_yes t 64 _ h1).mono ?_
        rintro e w' ⟨rfl, rfl⟩
        go_wp2_with fail
        refine (within_yes s 65536 _ h2).mono ?_
        rintro e w' ⟨rfl, rfl⟩
        go_wp2_with fail
        refine (within_yes l 64 _ h3).mono ?_
        rintro e w' ⟨rfl, rfl⟩
        go_wp2_with fail
        refine (within_no b 64 _ h4).mono ?_
        rintro e w' ⟨rfl, rfl⟩
        go_wp2_with fail
        go_ret
        exact ⟨rfl, (Ext.refl w).alloc _⟩
      · clear h
        go_enter Tryz.func188, Tryz.ntmps188
        go_wp2_with fail
        refine (within_yes t 64 _ h1).mono ?_
        rintro e w' ⟨rfl, rfl⟩
        go_wp2_with fail
        refine (within_yes s 65536 _ h2).mono ?_
        rintro e w' ⟨rfl, rfl⟩
        go_wp2_with fail
        refine (within_no l 64 _ h3).mono ?_
        rintro e w' ⟨rfl, rfl⟩
        go_wp2_with fail
        go_ret
        exact ⟨rfl, (Ext.refl w).alloc _⟩
    · clear h
      go_enter Tryz.func188, Tryz.ntmps188
      go_wp2_with fail
      refine (within_yes t 64 _ h1).mono ?_
      rintro e w' ⟨rfl, rfl⟩
      go_wp2_with fail
      refine (within_no s 65536 _ h2).mono ?_
      rintro e w' ⟨rfl, rfl⟩
      go_wp2_with fail
      go_ret
      exact ⟨rfl, (Ext.refl w).alloc _⟩
  · clear h
    go_enter Tryz.func188, Tryz.ntmps188
    go_wp2_with fail
    refine (within_no t 64 _ h1).mono ?_
    rintro e w' ⟨rfl, rfl⟩
    go_wp2_with fail
    go_ret
    exact ⟨rfl, (Ext.refl w).alloc _⟩

theorem rright_yes (t s l b : Int) (w : World) (h : CfgOk t s l b) :
    Calls Tryz.prog 132 #[.agg #[.int .i64 t, .int .i64 s, .int .i64 l, .int .i64 b]] w fun e w' => e = .returned (.bool true) ∧ Ext w w' := by
  obtain ⟨⟨h1, h2⟩, ⟨h3, h4⟩, ⟨h5, h6⟩, h7, h8⟩ := h
  go_enter Tryz.func132, Tryz.ntmps132
  go_wp2
  all_goals first | (go_ret; exact ⟨rfl, (Ext.refl w).alloc _⟩) | omega
theorem cfg_first {t s l b : Int} (h : ¬ CfgOk t s l b) : (¬ 1 ≤ t) ∨ (1 ≤ t ∧ ¬ t ≤ 64) ∨ (1 ≤ t ∧ t ≤ 64 ∧ ¬ 1 ≤ s) ∨ (1 ≤ t ∧ t ≤ 64 ∧ 1 ≤ s ∧ ¬ s ≤ 65536) ∨ (1 ≤ t ∧ t ≤ 64 ∧ 1 ≤ s ∧ s ≤ 65536 ∧ ¬ 1 ≤ l) ∨ (1 ≤ t ∧ t ≤ 64 ∧ 1 ≤ s ∧ s ≤ 65536 ∧ 1 ≤ l ∧ ¬ l ≤ 64) ∨ (1 ≤ t ∧ t ≤ 64 ∧ 1 ≤ s ∧ s ≤ 65536 ∧ 1 ≤ l ∧ l ≤ 64 ∧ ¬ 1 ≤ b) ∨ (1 ≤ t ∧ t ≤ 64 ∧ 1 ≤ s ∧ s ≤ 65536 ∧ 1 ≤ l ∧ l ≤ 64 ∧ 1 ≤ b ∧ ¬ b ≤ 64) := by
  unfold CfgOk at h
  omega
theorem rright_no (t s l b : Int) (w : World) (h : ¬ CfgOk t s l b) :
    Calls Tryz.prog 132 #[.agg #[.int .i64 t, .int .i64 s, .int .i64 l, .int .i64 b]] w fun e w' => e = .returned (.bool false) ∧ Ext w w' := by
  rcases cfg_first h with h | ⟨h1, h⟩ | ⟨h1, h2, h⟩ | ⟨h1, h2, h3, h⟩ | ⟨h1, h2, h3, h4, h⟩ | ⟨h1, h2, h3, h4, h5, h⟩ | ⟨h1, h2, h3, h4, h5, h6, h⟩ | ⟨h1, h2, h3, h4, h5, h6, h7, h⟩
  all_goals
    go_enter Tryz.func132, Tryz.ntmps132
    go_wp2
    go_ret
    exact ⟨rfl, (Ext.refl w).alloc _⟩
end Go.Proofs.YtndplpfbohigpaaGreat

/- The line of a config, as package super and as the document's answer make it. Conditions: those that each theorem names. -/
namespace Go.Proofs.YtndplpfbohigpaaGreat
open Go.ChangeShapes Go.WideShapes Go.ChangeAt Go.RowKit
set_option linter.unusedVariables false

theorem word_info : (Tryz.prog.info? 45).map (fun i => (i.zero, i.size, i.bytes)) = some (some (.int .u64 0), 1, 8) := by kernel_rfl
/-- The sum of seven words. -/
def sum7 (a b c d e f i : Int) : Int := (SM.sumOfWords [a, b, c, d, e, f, i] : Nat)
theorem sum7_lim (a b c d e f i : Int) : 0 ≤ sum7 a b c d e f i ∧ sum7 a b c d e f i < 4294967296 := by
  have h : SM.sumOfWords [a, b, c, d, e, f, i] < 4294967296 := by
    unfold SM.sumOfWords
    omega
  unfold sum7
  omega
def U64 (x : Int) : Prop := 0 ≤ x ∧ x < 18446744073709551616
theorem lim7 {a b c d e f i : Int} (ha : U64 a) (hb : U64 b) (hc : U64 c) (hd : U64 d) (he : U64 e) (hf : U64 f) (hi : U64 i) : Lim [a, b, c, d, e, f, i] 18446744073709551616 := by
  intro j hj
  have hj' : j < 7 := hj
  match j, hj' with
  | 0, _ => exact ha
  | 1, _ => exact hb
  | 2, _ => exact hc
  | 3, _ => exact hd
  | 4, _ => exact he
  | 5, _ => exact hf
  | 6, _ => exact hi
theorem ints7 (w : World) (g : Nat) (x : Value) (ty : TypeId) (a b c d e f i : Int) (hg : w.heap[g]? = some (.cells #[.int .u64 a, .int .u64 b, .int .u64 c, .int .u64 d, .int .u64 e, .int .u64 f, .int .u64 i, x] ty (0, 0))) :
    Ints w .u64 (some ⟨g, 0, none⟩) [a, b, c, d, e, f, i] := fun _ => by
  have hlt : g < w.heap.size := (Array.getElem?_eq_some_iff.1 hg).1
  refine ⟨_, rfl, hlt, fun j hj => ?_⟩
  have hj' : j < 7 := hj
  rw [at0, cell_of_row _ _ _ _ _ _ hg]
  match j, hj' with
  | 0, _ => rfl
  | 1, _ => rfl
  | 2, _ => rfl
  | 3, _ => rfl
  | 4, _ => rfl
  | 5, _ => rfl
  | 6, _ => rfl
theorem block8 {w : World} {g : Nat} {x0 x1 x2 x3 x4 x5 x6 x7 : Value} {ty : TypeId} (hg : w.heap[g]? = some (.cells #[x0, x1, x2, x3, x4, x5, x6, x7] ty (0, 0))) :
    (w.cell? ⟨g, 0, none⟩ = some x0 ∧ w.cell? ⟨g, 1, none⟩ = some x1 ∧ w.cell? ⟨g, 2, none⟩ = some x2 ∧ w.cell? ⟨g, 3, none⟩ = some x3 ∧ w.cell? ⟨g, 4, none⟩ = some x4 ∧ w.cell? ⟨g, 5, none⟩ = some x5 ∧ w.cell? ⟨g, 6, none⟩ = some x6 ∧ w.cell? ⟨g, 7, none⟩ = some x7) ∧ (∀ j, w.frozen? ⟨g, j, none⟩ = false) := by
  refine ⟨⟨?_, ?_, ?_, ?_, ?_, ?_, ?_, ?_⟩, fun j => frozen_of_row _ _ _ _ _ hg⟩ <;> (rw [cell_of_row _ _ _ _ _ _ hg]; rfl)
theorem bcell {W w1 : World} (hb : Below W.heap.size W w1) : (∀ b o, b < W.heap.size → w1.cell? ⟨b, o, none⟩ = W.cell? ⟨b, o, none⟩) ∧ (∀ b o, b < W.heap.size → w1.frozen? ⟨b, o, none⟩ = W.frozen? ⟨b, o, none⟩) :=
  ⟨fun b o h => hb.cell (p := ⟨b, o, none⟩) h, fun b o h => hb.frozen (p := ⟨b, o, none⟩) h⟩
/-- The line of a config that may be. -/
def lineCfg (t s l b : Int) : Value := .agg #[.int .u64 7739836655157129782, .int .u64 t, .int .u64 s, .int .u64 l, .int .u64 b, .int .u64 1, .int .u64 0, .int .u64 (sum7 7739836655157129782 t s l b 1 0)]
theorem cfg_lim {t s l b : Int} (h : CfgOk t s l b) : Lim [7739836655157129782, t, s, l, b, 1, 0] 18446744073709551616 := by
  obtain ⟨h1, h2, h3, h4⟩ := h
  exact lim7 ⟨by omega, by omega⟩ ⟨by omega, by omega⟩ ⟨by omega, by omega⟩ ⟨by omega, by omega⟩ ⟨by omega, by omega⟩ ⟨by omega, by omega⟩ ⟨by omega, by omega⟩
theorem cfg_pos {t s l b : Int} (h : CfgOk t s l b) : (0 ≤ t ∧ t < 65537) ∧ (0 ≤ s ∧ s < 65537) ∧ (0 ≤ l ∧ l < 65537) ∧ (0 ≤ b ∧ b < 65537) := by
  obtain ⟨h1, h2, h3, h4⟩ := h
  omega
end Go.Proofs.YtndplpfbohigpaaGreat

/- Two lines, two configs compared by their value. Conditions: none. -/
namespace Go.Proofs.YtndplpfbohigpaaGreat
open Go.ChangeShapes Go.WideShapes Go.ChangeAt Go.RowKit
set_option linter.unusedVariables false
set_option maxRecDepth 100000 in
set_option maxHeartbeats 1000000 in
theorem eq_line (a b c d e f g i a' b' c' d' e' f' g' i' : Int) (w : World) :
    (Op.equalIn 10000 285 (.agg #[.int .u64 a, .int .u64 b, .int .u64 c, .int .u64 d, .int .u64 e, .int .u64 f, .int .u64 g, .int .u64 i]) (.agg #[.int .u64 a', .int .u64 b', .int .u64 c', .int .u64 d', .int .u64 e', .int .u64 f', .int .u64 g', .int .u64 i'])).run Tryz.prog w = .ok (decide ([a, b, c, d, e, f, g, i] = [a', b', c', d', e', f', g', i'])) w := by
  have hu : Tryz.prog.underlying 285 = some (.array 8 45) := Tryz.underlying285
  have u3 := Tryz.underlying45
  have a3 := Tryz.isAgg45
  have z3 := Tryz.sizeOf45
  rw [show (10000 : Nat) = 9999 + 1 from rfl, Op.equalIn]
  simp only [Sem.run_bind, run_underlying hu, Result.andThen_ok]
  simp only [Std.Legacy.Range.forIn_eq_forIn_range', Std.Legacy.Range.size, Nat.sub_zero, Nat.add_sub_cancel, Nat.div_one, List.range'_succ, List.range'_zero, List.forIn_cons, List.forIn_nil]
  go_simp
  by_cases h1 : a = a'
  · by_cases h2 : b = b'
    · by_cases h3 : c = c'
      · by_cases h4 : d = d'
        · by_cases h5 : e = e'
          · by_cases h6 : f = f'
            · by_cases h7 : g = g'
              · by_cases h8 : i = i'
                · simp [h1, h2, h3, h4, h5, h6, h7, h8]
                · simp [h1, h2, h3, h4, h5, h6, h7, h8]
              · simp [h1, h2, h3, h4, h5, h6, h7]
            · simp [h1, h2, h3, h4, h5, h6]
          · simp [h1, h2, h3, h4, h5]
        · simp [h1, h2, h3, h4]
      · simp [h1, h2, h3]
    · simp [h1, h2]
  · simp [h1]
theorem eq_cfg (a b c d a' b' c' d' : Int) (w : World) :
    (Op.equalIn 10000 23 (.agg #[.int .i64 a, .int .i64 b, .int .i64 c, .int .i64 d]) (.agg #[.int .i64 a', .int .i64 b', .int .i64 c', .int .i64 d'])).run Tryz.prog w = .ok (decide ([a, b, c, d] = [a', b', c', d'])) w := by
  have u3 := Tryz.underlying3
  have a3 := Tryz.isAgg3
  have z3 := Tryz.sizeOf3
  rw [show (10000 : Nat) = 9999 + 1 from rfl, run_equalIn_struct _ _ _ _ _ (by kernel_rfl) (by kernel_rfl)]
  simp only [Program.fieldsOf, Tryz.underlying23]
  go_simp
  by_cases h1 : a = a'
  · by_cases h2 : b = b'
    · by_cases h3 : c = c'
      · by_cases h4 : d = d'
        · simp [h1, h2, h3, h4]
        · simp [h1, h2, h3, h4]
      · simp [h1, h2, h3]
    · simp [h1, h2]
  · simp [h1]
theorem eqc_yes (a b c d : Int) (w : World) :
    (Op.equalIn 10000 23 (.agg #[.int .i64 a, .int .i64 b, .int .i64 c, .int .i64 d]) (.agg #[.int .i64 a, .int .i64 b, .int .i64 c, .int .i64 d])).run Tryz.prog w = .ok true w := by rw [eq_cfg]; simp
theorem eqc_no (a b c d a' b' c' d' : Int) (h : ¬ [a, b, c, d] = [a', b', c', d']) (w : World) :
    (Op.equalIn 10000 23 (.agg #[.int .i64 a, .int .i64 b, .int .i64 c, .int .i64 d]) (.agg #[.int .i64 a', .int .i64 b', .int .i64 c', .int .i64 d'])).run Tryz.prog w = .ok false w := by rw [eq_cfg, decide_eq_false h]
theorem eql_yes (a b c d e f g i : Int) (w : World) :
    (Op.equalIn 10000 285 (.agg #[.int .u64 a, .int .u64 b, .int .u64 c, .int .u64 d, .int .u64 e, .int .u64 f, .int .u64 g, .int .u64 i]) (.agg #[.int .u64 a, .int .u64 b, .int .u64 c, .int .u64 d, .int .u64 e, .int .u64 f, .int .u64 g, .int .u64 i])).run Tryz.prog w = .ok true w := by rw [eq_line]; simp
theorem eql_no (a b c d e f g i a' b' c' d' e' f' g' i' : Int) (h : ¬ [a, b, c, d, e, f, g, i] = [a', b', c', d', e', f', g', i']) (w : World) :
    (Op.equalIn 10000 285 (.agg #[.int .u64 a, .int .u64 b, .int .u64 c, .int .u64 d, .int .u64 e, .int .u64 f, .int .u64 g, .int .u64 i]) (.agg #[.int .u64 a', .int .u64 b', .int .u64 c', .int .u64 d', .int .u64 e', .int .u64 f', .int .u64 g', .int .u64 i'])).run Tryz.prog w = .ok false w := by rw [eq_line, decide_eq_false h]
end Go.Proofs.YtndplpfbohigpaaGreat

/- The config of a line, as package super reads it. Conditions: those that each theorem names. -/
namespace Go.Proofs.YtndplpfbohigpaaGreat
open Go.ChangeShapes Go.WideShapes Go.ChangeAt Go.RowKit
set_option linter.unusedVariables false

/-- A line is a config's. -/
def IsLine (x0 x1 x2 x3 x4 x5 x6 x7 : Int) : Prop := CfgOk x1 x2 x3 x4 ∧ x0 = 7739836655157129782 ∧ x5 = 1 ∧ x6 = 0 ∧ x7 = sum7 7739836655157129782 x1 x2 x3 x4 1 0
theorem ext3 (w : World) (o p q : Obj) : Ext w (((w.alloc o).alloc p).alloc q) := (ext2 w o p).alloc q

theorem apart3 {w w1 : World} {o p q : Obj} (hx : Ext (((w.alloc o).alloc p).alloc q) w1) : w.heap.size < w1.heap.size ∧ w.heap.size + 1 < w1.heap.size ∧ w.heap.size + 1 + 1 < w1.heap.size ∧ ¬ w.heap.size = w1.heap.size ∧ ¬ w.heap.size + 1 = w1.heap.size ∧ ¬ w.heap.size + 1 + 1 = w1.heap.size := by
  have := hx.size; simp at this; omega
end Go.Proofs.YtndplpfbohigpaaGreat

/- Which config of two lines is read, by package super; the config of a line by the document's answer. Conditions: those that each theorem names. -/
namespace Go.Proofs.YtndplpfbohigpaaGreat
open Go.ChangeShapes Go.WideShapes Go.ChangeAt Go.RowKit
set_option linter.unusedVariables false

theorem ext5 (w : World) (o p q r s : Obj) : Ext w (((((w.alloc o).alloc p).alloc q).alloc r).alloc s) := (ext4 w o p q r).alloc s

end Go.Proofs.YtndplpfbohigpaaGreat

/- The page's example of layer 5; the cells of lines and configs behind calls. Conditions: those that each theorem names. -/
namespace Go.Proofs.YtndplpfbohigpaaGreat
open Go.ChangeShapes Go.WideShapes Go.ChangeAt Go.RowKit
set_option linter.unusedVariables false

/-- The cells of a config at a block. -/
def C4 (w : World) (g : Nat) (a b c d : Int) : Prop := w.cell? ⟨g, 0, none⟩ = some (.int .i64 a) ∧ w.cell? ⟨g, 1, none⟩ = some (.int .i64 b) ∧ w.cell? ⟨g, 2, none⟩ = some (.int .i64 c) ∧ w.cell? ⟨g, 3, none⟩ = some (.int .i64 d)
/-- The cells of a line at a block. -/
def C8 (w : World) (g : Nat) (x0 x1 x2 x3 x4 x5 x6 x7 : Int) : Prop := w.cell? ⟨g, 0, none⟩ = some (.int .u64 x0) ∧ w.cell? ⟨g, 1, none⟩ = some (.int .u64 x1) ∧ w.cell? ⟨g, 2, none⟩ = some (.int .u64 x2) ∧ w.cell? ⟨g, 3, none⟩ = some (.int .u64 x3) ∧ w.cell? ⟨g, 4, none⟩ = some (.int .u64 x4) ∧ w.cell? ⟨g, 5, none⟩ = some (.int .u64 x5) ∧ w.cell? ⟨g, 6, none⟩ = some (.int .u64 x6) ∧ w.cell? ⟨g, 7, none⟩ = some (.int .u64 x7)
theorem C4.ext {w w' : World} {g : Nat} {a b c d : Int} (h : C4 w g a b c d) (x : Ext w w') (hg : g < w.heap.size) : C4 w' g a b c d := by
  obtain ⟨h0, h1, h2, h3⟩ := h
  exact ⟨(Below.cell x.below (by exact hg)).trans h0, (Below.cell x.below (by exact hg)).trans h1, (Below.cell x.below (by exact hg)).trans h2, (Below.cell x.below (by exact hg)).trans h3⟩
theorem C8.ext {w w' : World} {g : Nat} {x0 x1 x2 x3 x4 x5 x6 x7 : Int} (h : C8 w g x0 x1 x2 x3 x4 x5 x6 x7) (x : Ext w w') (hg : g < w.heap.size) : C8 w' g x0 x1 x2 x3 x4 x5 x6 x7 := by
  obtain ⟨h0, h1, h2, h3, h4, h5, h6, h7⟩ := h
  exact ⟨(Below.cell x.below (by exact hg)).trans h0, (Below.cell x.below (by exact hg)).trans h1, (Below.cell x.below (by exact hg)).trans h2, (Below.cell x.below (by exact hg)).trans h3, (Below.cell x.below (by exact hg)).trans h4, (Below.cell x.below (by exact hg)).trans h5, (Below.cell x.below (by exact hg)).trans h6, (Below.cell x.below (by exact hg)).trans h7⟩
theorem C4.new (w : World) (a b c d : Int) (t : TypeId) : C4 (w.alloc (.cells #[.int .i64 a, .int .i64 b, .int .i64 c, .int .i64 d] t)) w.heap.size a b c d := by
  unfold C4
  refine ⟨?_, ?_, ?_, ?_⟩ <;> (rw [cell_of_row _ _ _ _ _ _ (heap_alloc_new w _)]; rfl)
theorem C8.new (w : World) (x0 x1 x2 x3 x4 x5 x6 x7 : Int) (t : TypeId) : C8 (w.alloc (.cells #[.int .u64 x0, .int .u64 x1, .int .u64 x2, .int .u64 x3, .int .u64 x4, .int .u64 x5, .int .u64 x6, .int .u64 x7] t)) w.heap.size x0 x1 x2 x3 x4 x5 x6 x7 := by
  unfold C8
  refine ⟨?_, ?_, ?_, ?_, ?_, ?_, ?_, ?_⟩ <;> (rw [cell_of_row _ _ _ _ _ _ (heap_alloc_new w _)]; rfl)
theorem C4.alloc {w : World} {g : Nat} {a b c d : Int} (h : C4 w g a b c d) (hg : g < w.heap.size) (o : Obj) : C4 (w.alloc o) g a b c d := h.ext ((Ext.refl w).alloc o) hg
theorem C8.alloc {w : World} {g : Nat} {x0 x1 x2 x3 x4 x5 x6 x7 : Int} (h : C8 w g x0 x1 x2 x3 x4 x5 x6 x7) (hg : g < w.heap.size) (o : Obj) : C8 (w.alloc o) g x0 x1 x2 x3 x4 x5 x6 x7 := h.ext ((Ext.refl w).alloc o) hg
theorem C4.far {w : World} {g g' j : Nat} {a b c d : Int} {u : Value} (h : C4 w g a b c d) (hne : g' ≠ g) : C4 (w.setCell ⟨g', j, none⟩ u) g a b c d := by
  obtain ⟨h0, h1, h2, h3⟩ := h
  refine ⟨?_, ?_, ?_, ?_⟩ <;> (rw [World.cell?_setCell_other _ _ _ _ (by intro e2; injection e2 with e3; exact hne e3)]; assumption)
theorem C8.far {w : World} {g g' j : Nat} {x0 x1 x2 x3 x4 x5 x6 x7 : Int} {u : Value} (h : C8 w g x0 x1 x2 x3 x4 x5 x6 x7) (hne : g' ≠ g) : C8 (w.setCell ⟨g', j, none⟩ u) g x0 x1 x2 x3 x4 x5 x6 x7 := by
  obtain ⟨h0, h1, h2, h3, h4, h5, h6, h7⟩ := h
  refine ⟨?_, ?_, ?_, ?_, ?_, ?_, ?_, ?_⟩ <;> (rw [World.cell?_setCell_other _ _ _ _ (by intro e2; injection e2 with e3; exact hne e3)]; assumption)
end Go.Proofs.YtndplpfbohigpaaGreat
