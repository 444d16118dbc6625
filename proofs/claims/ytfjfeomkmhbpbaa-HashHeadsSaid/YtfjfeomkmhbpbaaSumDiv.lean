/- Numbers alone: dividing by the polynomial, bit by bit, leaves the state of the sum; the bits of bytes and of words, one behind the other. Conditions: those that each theorem names. -/
import Derived.Test.YtfjfeomkmhbpbaaSumMath
namespace Go.Proofs.Ytfjfeomkmhbpbaa.SM
open Go.RowKit

/-- A number's lowest bits. -/
def bitsOf (x : Nat) : Nat → List Int
  | 0 => []
  | n + 1 => bitsOf x n ++ [((x / 2 ^ n % 2 : Nat) : Int)]
theorem bitsOf_length (x n : Nat) : (bitsOf x n).length = n := by
  induction n with
  | zero => rfl
  | succ n ih => simp [bitsOf, ih]
theorem bitsOf_get (x n k : Nat) (h : k < n) : (bitsOf x n).getD k 0 = ((x / 2 ^ k % 2 : Nat) : Int) := by
  induction n with
  | zero => omega
  | succ n ih =>
    unfold bitsOf
    by_cases e : k < n
    · rw [List.getD_eq_getElem?_getD, List.getElem?_append_left (by rw [bitsOf_length]; exact e), ← List.getD_eq_getElem?_getD]; exact ih e
    · have : k = n := by omega
      subst this
      rw [List.getD_eq_getElem?_getD, List.getElem?_append_right (by rw [bitsOf_length]; omega), bitsOf_length]; simp
theorem half_pow (x k : Nat) : x / 2 ^ k / 2 = x / 2 ^ (k + 1) := by rw [Nat.div_div_eq_div_mul, Nat.pow_succ]

def Bt (x k : Nat) : Nat := x / 2 ^ k % 2
theorem Bt_lt (x k : Nat) : Bt x k < 2 := Nat.mod_lt _ (by omega)
theorem xor_sum (a b : Nat) (ha : a < 2) (hb : b < 2) : a ^^^ b = (a + b) % 2 := by
  have h1 : a = 0 ∨ a = 1 := by omega
  have h2 : b = 0 ∨ b = 1 := by omega
  rcases h1 with rfl | rfl <;> rcases h2 with rfl | rfl <;> rfl
theorem Bt_step (s b k : Nat) : Bt (stepN s b) k = (Bt s (k + 1) + (if (s + b) % 2 = 1 then Bt 2197175160 k else 0)) % 2 := by
  unfold stepN
  have e : Bt (s / 2 ^^^ if (s + b) % 2 = 1 then 2197175160 else 0) k = Bt (s / 2) k ^^^ Bt (if (s + b) % 2 = 1 then 2197175160 else 0) k := bit_xor _ _ _
  have e2 : Bt (s / 2) k = Bt s (k + 1) := by
    unfold Bt
    rw [Nat.div_div_eq_div_mul, Nat.pow_succ, Nat.mul_comm]
  rw [e, xor_sum _ _ (Bt_lt _ _) (Bt_lt _ _), e2]
  split
  · rfl
  · have : Bt 0 k = 0 := by unfold Bt; simp
    rw [this]
theorem Bt_high (s : Nat) (h : s < 4294967296) : Bt s 32 = 0 := by unfold Bt; rw [Nat.div_eq_of_lt (by omega)]
theorem Bt_zero (s : Nat) : Bt s 0 = s % 2 := by unfold Bt; simp

/-- The state behind the first i of a list's bits. -/
def stAt (s : Nat) (l : List Int) : Nat → Nat
  | 0 => s
  | i + 1 => stepN (stAt s l i) (l.getD i 0).toNat
theorem stAt_lt (s : Nat) (l : List Int) (i : Nat) (h : s < 4294967296) : stAt s l i < 4294967296 := by
  induction i with
  | zero => exact h
  | succ i ih => exact step_lt _ _ ih
/-- What stands at place j ahead of the division's step i. -/
def divF (s : Nat) (l : List Int) (i j : Nat) : Nat := ((l.getD j 0).toNat + (if j < i + 32 then Bt (stAt s l i) (j - i) else 0)) % 2
/-- The divisor. -/
def dv (m : Nat) : Nat := if m = 0 then 1 else if m ≤ 32 then Bt 2197175160 (m - 1) else 0
theorem divF_lt (s : Nat) (l : List Int) (i j : Nat) : divF s l i j < 2 := Nat.mod_lt _ (by omega)
theorem dv_lt (m : Nat) : dv m < 2 := by
  unfold dv
  split
  · omega
  · split
    · exact Bt_lt _ _
    · omega
theorem divF_step (s : Nat) (l : List Int) (i j : Nat) (hs : s < 4294967296) (hj : i < j) : divF s l (i + 1) j = (divF s l i j + (if divF s l i i = 1 then dv (j - i) else 0)) % 2 := by
  have e0 : divF s l i i = ((l.getD i 0).toNat + stAt s l i) % 2 := by
    unfold divF
    rw [if_pos (by omega), Nat.sub_self, Bt_zero]
    omega
  rw [e0]
  have ec : (if ((l.getD i 0).toNat + stAt s l i) % 2 = 1 then dv (j - i) else 0) = if (stAt s l i + (l.getD i 0).toNat) % 2 = 1 then dv (j - i) else 0 := by rw [Nat.add_comm]
  rw [ec]
  unfold divF
  by_cases h1 : j < i + 1 + 32
  · rw [if_pos h1]
    show (_ + Bt (stepN (stAt s l i) (l.getD i 0).toNat) (j - (i + 1))) % 2 = _
    rw [Bt_step]
    have e1 : j - (i + 1) + 1 = j - i := by omega
    rw [e1]
    have e2 : dv (j - i) = Bt 2197175160 (j - (i + 1)) := by
      unfold dv
      rw [if_neg (by omega), if_pos (by omega)]
      congr 1
    rw [e2]
    by_cases h2 : j < i + 32
    · rw [if_pos h2]
      split <;> omega
    · rw [if_neg h2]
      have e3 : j - i = 32 := by omega
      rw [e3, Bt_high _ (stAt_lt s l i hs)]
      split <;> omega
  · rw [if_neg h1, if_neg (by omega)]
    have e2 : dv (j - i) = 0 := by
      unfold dv
      rw [if_neg (by omega), if_neg (by omega)]
    rw [e2]
    split <;> omega
theorem divF_end (s : Nat) (l : List Int) (k : Nat) (h : k < 32) : divF s l l.length (l.length + k) = Bt (stAt s l l.length) k := by
  unfold divF
  have e : l.getD (l.length + k) 0 = 0 := by simp [List.getD_eq_getElem?_getD]
  rw [e, if_pos (by omega), Nat.add_sub_cancel_left]
  have := Bt_lt (stAt s l l.length) k
  simp
  omega
theorem horner (x m : Nat) : 2 * (x / 2 ^ (m + 1)) + Bt x m = x / 2 ^ m := by
  unfold Bt
  rw [← half_pow]
  omega

/-- The state laid over the first bits, as far as it has come. -/
def xorF (s : Nat) (l : List Int) (m j : Nat) : Nat := ((l.getD j 0).toNat + (if j < m then Bt s j else 0)) % 2
theorem xorF_lt (s : Nat) (l : List Int) (m j : Nat) : xorF s l m j < 2 := Nat.mod_lt _ (by omega)
theorem xorF_succ (s : Nat) (l : List Int) (m j : Nat) : (if j = m then (xorF s l m m + Bt s m) % 2 else xorF s l m j) = xorF s l (m + 1) j := by
  unfold xorF
  by_cases h : j = m
  · subst h
    rw [if_pos rfl, if_neg (by omega), if_pos (by omega)]
    omega
  · rw [if_neg h]
    by_cases h2 : j < m
    · rw [if_pos h2, if_pos (by omega)]
    · rw [if_neg h2, if_neg (by omega)]
theorem xorF_all (s : Nat) (l : List Int) (j : Nat) : xorF s l 32 j = divF s l 0 j := by
  unfold xorF divF
  rw [Nat.zero_add, Nat.sub_zero]; rfl
/-- The divisor laid over, from its end on, as far as it has come. -/
def subF (F : Nat → Nat) (i m j : Nat) : Nat := if i + 32 < j + m ∧ j ≤ i + 32 then (F j + dv (j - i)) % 2 else F j
theorem subF_zero (F : Nat → Nat) (i j : Nat) : subF F i 0 j = F j := by
  unfold subF
  rw [if_neg (by omega)]
theorem subF_succ (F : Nat → Nat) (i m j : Nat) (hm : m ≤ 32) : (if j = i + 32 - m then (subF F i m (i + 32 - m) + dv (32 - m)) % 2 else subF F i m j) = subF F i (m + 1) j := by
  unfold subF
  by_cases h : j = i + 32 - m
  · subst h
    rw [if_pos rfl, if_neg (by omega), if_pos (by omega), show i + 32 - m - i = 32 - m from by omega]
  · rw [if_neg h]
    by_cases h2 : i + 32 < j + m ∧ j ≤ i + 32
    · rw [if_pos h2, if_pos (by omega)]
    · rw [if_neg h2, if_neg (by omega)]
/-- What stands at any place ahead of the division's step i: behind it, noughts. -/
def divG (s : Nat) (l : List Int) (i j : Nat) : Nat := if j < i then 0 else divF s l i j
theorem divG_lt (s : Nat) (l : List Int) (i j : Nat) : divG s l i j < 2 := by
  unfold divG
  split
  · omega
  · exact divF_lt _ _ _ _
theorem divG_zero (s : Nat) (l : List Int) (j : Nat) : xorF s l 32 j = divG s l 0 j := by
  unfold divG
  rw [if_neg (by omega), xorF_all]
theorem subF_at (s : Nat) (l : List Int) (i m : Nat) (hm : m ≤ 32) : subF (divG s l i) i m i = divG s l i i := by
  unfold subF
  rw [if_neg (by omega)]
theorem subF_last (s : Nat) (l : List Int) (i : Nat) (h1 : divG s l i i = 1) : subF (divG s l i) i 33 i = 0 := by
  unfold subF
  rw [if_pos (by omega), h1, Nat.sub_self]; rfl
theorem subF_lt (s : Nat) (l : List Int) (i m j : Nat) : subF (divG s l i) i m j < 2 := by
  unfold subF
  split
  · exact Nat.mod_lt _ (by omega)
  · exact divG_lt _ _ _ _
theorem subF_end (s : Nat) (l : List Int) (i j : Nat) (hs : s < 4294967296) (h1 : divG s l i i = 1) : subF (divG s l i) i 33 j = divG s l (i + 1) j := by
  by_cases e : j = i
  · subst e
    rw [subF_last s l j h1]
    unfold divG
    rw [if_pos (by omega)]
  · have h1' : divF s l i i = 1 := by
      unfold divG at h1
      rwa [if_neg (by omega)] at h1
    unfold subF divG
    by_cases hj : j < i
    · rw [if_neg (by omega), if_pos hj, if_pos (by omega)]
    · rw [if_neg hj, if_neg (show ¬ j < i + 1 from by omega), divF_step s l i j hs (by omega), if_pos h1']
      by_cases h : j ≤ i + 32
      · rw [if_pos (by omega)]
      · rw [if_neg (by omega)]
        have e : dv (j - i) = 0 := by unfold dv; rw [if_neg (by omega), if_neg (by omega)]
        rw [e]
        have := divF_lt s l i j
        omega
theorem keepF_end (s : Nat) (l : List Int) (i j : Nat) (hs : s < 4294967296) (h1 : divG s l i i = 0) : divG s l i j = divG s l (i + 1) j := by
  have h1' : divF s l i i = 0 := by
    unfold divG at h1
    rwa [if_neg (by omega)] at h1
  unfold divG
  by_cases hj : j < i
  · rw [if_pos hj, if_pos (by omega)]
  · rw [if_neg hj]
    by_cases e : j = i
    · subst e
      rw [if_pos (by omega), h1']
    · rw [if_neg (by omega), divF_step s l i j hs (by omega), if_neg (by omega)]
      have := divF_lt s l i j
      omega
theorem divG_end (s : Nat) (l : List Int) (k : Nat) (h : k < 32) : divG s l l.length (l.length + k) = Bt (stAt s l l.length) k := by
  unfold divG
  rw [if_neg (by omega), divF_end s l k h]
theorem dv_get (j : Nat) (hj : j < 33) : ((1 : Int) :: bitsOf 2197175160 32).getD j 0 = (dv j : Nat) := by
  unfold dv
  cases j with
  | zero => rfl
  | succ j =>
    rw [if_neg (by omega), if_pos (by omega), List.getD_cons_succ, bitsOf_get _ _ _ (by omega)]
    rfl

/-- A byte's, and a word's, bits. -/
theorem stAt_low (s x n : Nat) : ∀ i, i ≤ n → stAt s (bitsOf x n) i = lowN s x i := by
  intro i hi
  induction i with
  | zero => rfl
  | succ i ih =>
    unfold stAt lowN
    rw [ih (by omega), bitsOf_get _ _ _ (by omega)]
    rfl
theorem stAt_all (s x n : Nat) : stAt s (bitsOf x n) (bitsOf x n).length = lowN s x n := by rw [bitsOf_length]; exact stAt_low s x n n (Nat.le_refl _)
theorem stAt_fold (s : Nat) (l : List Int) : stAt s l l.length = (l.map Int.toNat).foldl stepN s := by
  have h : ∀ i, i ≤ l.length → stAt s l i = ((l.map Int.toNat).take i).foldl stepN s := by
    intro i hi
    induction i with
    | zero => rfl
    | succ i ih =>
      unfold stAt
      rw [ih (by omega), List.take_succ_eq_append_getElem (by simp; omega), List.foldl_append]
      simp [List.getD_eq_getElem?_getD, show i < l.length from by omega]
  rw [h _ (Nat.le_refl _), List.take_of_length_le (by simp)]
/-- The bits of all bytes. -/
def bitsAll : List Nat → List Int
  | [] => []
  | b :: l => bitsOf b 8 ++ bitsAll l
theorem fold_bits (s x n : Nat) : ((bitsOf x n).map Int.toNat).foldl stepN s = lowN s x n := by rw [← stAt_fold, stAt_all]
theorem bitsAll_fold (l : List Nat) : ∀ s, ((bitsAll l).map Int.toNat).foldl stepN s = bytesN s l := by
  induction l with
  | nil => exact fun s => rfl
  | cons b l ih =>
    intro s
    unfold bitsAll
    rw [List.map_append, List.foldl_append, ih, fold_bits]
    rfl
theorem bitsAll_snoc (l : List Nat) (b : Nat) : bitsAll (l ++ [b]) = bitsAll l ++ bitsOf b 8 := by
  induction l with
  | nil => simp [bitsAll]
  | cons a l ih => simp [bitsAll, ih]
theorem bitsAll_length (l : List Nat) : (bitsAll l).length = 8 * l.length := by
  induction l with
  | nil => rfl
  | cons a l ih => simp [bitsAll, ih, bitsOf_length]; omega
/-- A word is its eight bytes, the lowest first. -/
def bytesOf (x : Nat) : Nat → List Nat
  | 0 => []
  | n + 1 => bytesOf x n ++ [x / 256 ^ n % 256]
theorem low_add (s x m : Nat) : ∀ n, lowN s x (m + n) = lowN (lowN s x m) (x / 2 ^ m) n := by
  intro n
  induction n with
  | zero => rfl
  | succ n ih =>
    show stepN (lowN s x (m + n)) (x / 2 ^ (m + n) % 2) = stepN (lowN (lowN s x m) (x / 2 ^ m) n) (x / 2 ^ m / 2 ^ n % 2)
    rw [ih, Nat.div_div_eq_div_mul, ← Nat.pow_add]
theorem low_cut (s x : Nat) : ∀ n, n ≤ 8 → lowN s (x % 256) n = lowN s x n := by
  intro n hn
  induction n with
  | zero => rfl
  | succ n ih =>
    unfold lowN
    rw [ih (by omega)]
    congr 1
    match n, hn with
    | 0, _ => omega
    | 1, _ => omega
    | 2, _ => omega
    | 3, _ => omega
    | 4, _ => omega
    | 5, _ => omega
    | 6, _ => omega
    | 7, _ => omega
theorem word_bytes (s x : Nat) : ∀ n, bytesN s (bytesOf x n) = lowN s x (8 * n) := by
  intro n
  induction n with
  | zero => rfl
  | succ n ih =>
    have e : 8 * (n + 1) = 8 * n + 8 := by omega
    have e3 : bytesN s (bytesOf x (n + 1)) = byteN (bytesN s (bytesOf x n)) (x / 256 ^ n % 256) := by
      show List.foldl byteN s (bytesOf x n ++ [x / 256 ^ n % 256]) = byteN (List.foldl byteN s (bytesOf x n)) (x / 256 ^ n % 256)
      rw [List.foldl_append]; rfl
    rw [e3, e, low_add, ih]
    unfold byteN
    rw [low_cut _ _ 8 (Nat.le_refl _)]
    have e2 : (256 : Nat) ^ n = 2 ^ (8 * n) := by rw [Nat.pow_mul]
    rw [e2]
/-- The bytes of all words. -/
def bytesAll : List Nat → List Nat
  | [] => []
  | w :: l => bytesOf w 8 ++ bytesAll l
theorem bytesAll_fold (l : List Nat) : ∀ s, bytesN s (bytesAll l) = wordsN s l := by
  induction l with
  | nil => exact fun s => rfl
  | cons w l ih =>
    intro s
    have e : bytesN s (bytesAll (w :: l)) = bytesN (bytesN s (bytesOf w 8)) (bytesAll l) := by
      show List.foldl byteN s (bytesOf w 8 ++ bytesAll l) = List.foldl byteN (List.foldl byteN s (bytesOf w 8)) (bytesAll l)
      rw [List.foldl_append]
    rw [e, ih, word_bytes]
    rfl
theorem bytesAll_snoc (l : List Nat) (b : Nat) : bytesAll (l ++ [b]) = bytesAll l ++ bytesOf b 8 := by
  induction l with
  | nil => simp [bytesAll]
  | cons a l ih => simp [bytesAll, ih]
end Go.Proofs.Ytfjfeomkmhbpbaa.SM
