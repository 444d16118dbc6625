/- Numbers alone: masks, shifts and joins of 64-bit words as remainders, quotients and sums. Conditions: the bounds that each theorem names. -/
import Derived.WalkKit
namespace Go.Proofs.YtndplpfbohigpaaGreat.BM
open Go.RowKit

theorem and_mask (k : Nat) (hk : k ≤ 64) (x : Int) (h0 : 0 ≤ x) (h1 : x < 18446744073709551616) : bits .and .u64 x (((2 ^ k - 1 : Nat)) : Int) = x % ((2 ^ k : Nat) : Int) := by
  obtain ⟨n, rfl⟩ := Int.eq_ofNat_of_zero_le h0
  have h2 : (2 : Nat) ^ k ≤ 2 ^ 64 := Nat.pow_le_pow_right (by omega) hk
  have h3 : (2 : Nat) ^ k - 1 < 18446744073709551616 := by omega
  rw [u64_and_nat n (2 ^ k - 1) (by omega) h3, Nat.and_two_pow_sub_one_eq_mod]
  omega
theorem and32 (x : Int) (h0 : 0 ≤ x) (h1 : x < 18446744073709551616) : bits .and .u64 x 4294967295 = x % 4294967296 := and_mask 32 (by omega) x h0 h1
theorem and31 (x : Int) (h0 : 0 ≤ x) (h1 : x < 18446744073709551616) : bits .and .u64 x 2147483647 = x % 2147483648 := and_mask 31 (by omega) x h0 h1
theorem and7 (x : Int) (h0 : 0 ≤ x) (h1 : x < 18446744073709551616) : bits .and .u64 x 127 = x % 128 := and_mask 7 (by omega) x h0 h1
theorem and1 (x : Int) (h0 : 0 ≤ x) (h1 : x < 18446744073709551616) : bits .and .u64 x 1 = x % 2 := and_mask 1 (by omega) x h0 h1

theorem or_join (k : Nat) (hk : k ≤ 64) (x y : Int) (hx : 0 ≤ x) (hx1 : x < 18446744073709551616) (hy : 0 ≤ y) (hy1 : y < ((2 ^ k : Nat) : Int)) (hd : x % ((2 ^ k : Nat) : Int) = 0) : bits .or .u64 x y = x + y := by
  obtain ⟨m, rfl⟩ := Int.eq_ofNat_of_zero_le hx
  obtain ⟨n, rfl⟩ := Int.eq_ofNat_of_zero_le hy
  have h2 : (2 : Nat) ^ k ≤ 2 ^ 64 := Nat.pow_le_pow_right (by omega) hk
  rw [u64_or_nat m n (by omega) (by omega), nat_join k m n (by omega) (by omega)]
  omega
theorem or_comm (x y : Int) : bits .or .u64 x y = bits .or .u64 y x := by
  show IntKind.u64.wrap ((BitVec.ofInt 64 x ||| BitVec.ofInt 64 y).toNat : Int) = IntKind.u64.wrap ((BitVec.ofInt 64 y ||| BitVec.ofInt 64 x).toNat : Int)
  rw [BitVec.or_comm]
/-- A low part below 2^32, and a high one that is a multiple of it. -/
theorem or32 (x y : Int) (hx : 0 ≤ x) (hx1 : x < 4294967296) (hy : 0 ≤ y) (hy1 : y < 18446744073709551616) (hd : y % 4294967296 = 0) : bits .or .u64 x y = x + y := by
  rw [or_comm, or_join 32 (by omega) y x hy hy1 hx hx1 hd]; omega
theorem or33 (x y : Int) (hx : 0 ≤ x) (hx1 : x < 18446744073709551616) (hy : 0 ≤ y) (hy1 : y < 8589934592) (hd : x % 8589934592 = 0) : bits .or .u64 x y = x + y :=
  or_join 33 (by omega) x y hx hx1 hy hy1 hd
/-- The bit of 2^63 put in. -/
theorem or63 (x : Int) (h0 : 0 ≤ x) (h1 : x < 18446744073709551616) : bits .or .u64 x 9223372036854775808 = x % 9223372036854775808 + 9223372036854775808 := by
  obtain ⟨n, rfl⟩ := Int.eq_ofNat_of_zero_le h0
  have e := u64_or_nat n 9223372036854775808 (by omega) (by omega)
  refine e.trans ?_
  by_cases h : n < 9223372036854775808
  · rw [Nat.or_comm, nat_join 63 9223372036854775808 n (by omega) (by omega)]; omega
  · have e2 : n ||| 9223372036854775808 = n := by
      have e3 : n = 9223372036854775808 ||| (n - 9223372036854775808) := by rw [nat_join 63 9223372036854775808 (n - 9223372036854775808) (by omega) (by omega)]; omega
      rw [Nat.or_comm, e3, ← Nat.or_assoc, Nat.or_self]
    rw [e2]; omega
/-- The bit of 2^63 struck. -/
theorem not63 (x : Int) (h0 : 0 ≤ x) (h1 : x < 18446744073709551616) : bits .andNot .u64 x 9223372036854775808 = x % 9223372036854775808 := by
  obtain ⟨n, rfl⟩ := Int.eq_ofNat_of_zero_le h0
  have e := u64_andNot_nat n 9223372036854775808 (by omega) (by omega)
  refine e.trans ?_
  have e2 : n &&& (18446744073709551615 - 9223372036854775808) = n % 2 ^ 63 := Nat.and_two_pow_sub_one_eq_mod n 63
  rw [e2]; omega
/-- The bit of 2^32 put in where it is not. -/
theorem orBit32 (x : Int) (h0 : 0 ≤ x) (h1 : x < 18446744073709551616) (hb : x / 4294967296 % 2 = 0) : bits .or .u64 x 4294967296 = x + 4294967296 := by
  obtain ⟨n, rfl⟩ := Int.eq_ofNat_of_zero_le h0
  have e := u64_or_nat n 4294967296 (by omega) (by omega)
  refine e.trans ?_
  have hlow : n % 4294967296 < 2 ^ 32 := Nat.mod_lt _ (by omega)
  have hn : n = n / 4294967296 * 4294967296 ||| n % 4294967296 := by rw [nat_join 32 _ _ (by omega) hlow]; omega
  have h2 : n / 4294967296 * 4294967296 ||| 4294967296 = n / 4294967296 * 4294967296 + 4294967296 := by rw [nat_join 33 _ 4294967296 (by omega) (by omega)]
  have h3 : n ||| 4294967296 = (n / 4294967296 * 4294967296 ||| 4294967296) ||| n % 4294967296 := by
    rw [Nat.or_assoc, Nat.or_comm 4294967296 (n % 4294967296), ← Nat.or_assoc, ← hn]
  rw [h3, h2, nat_join 32 _ _ (by omega) hlow]
  omega
/-- Go's remainder keeps the sign: it is Lean's, or that less the divisor. -/
theorem tmod_two (n m : Int) (hm : 0 < m) : n.tmod m = n % m ∨ n.tmod m = n % m - m := by
  rw [Int.tmod_eq_emod]
  split
  · left; omega
  · right; omega
theorem cut32neg (n : Int) (h : n.tmod 4294967296 < 0) : (wrap64 (wrap64 (n.tmod 4294967296 + 4294967296) + 1)).tmod 4294967296 = (n + 1) % 4294967296 := by
  have h1 := Int.lt_tmod_of_pos n (b := 4294967296) (by omega)
  have h2 := tmod_two n 4294967296 (by omega)
  rw [IntWalk.wrap64_in (n.tmod 4294967296 + 4294967296) (by omega), IntWalk.wrap64_in _ (by omega), Int.tmod_eq_emod_of_nonneg (by omega)]
  omega
theorem cut32pos (n : Int) (h : 0 ≤ n.tmod 4294967296) : (wrap64 (n.tmod 4294967296 + 1)).tmod 4294967296 = (n + 1) % 4294967296 := by
  have h1 := Int.tmod_lt_of_pos n (b := 4294967296) (by omega)
  have h2 := tmod_two n 4294967296 (by omega)
  rw [IntWalk.wrap64_in _ (by omega), Int.tmod_eq_emod_of_nonneg (by omega)]
  omega
theorem cut7neg (n : Int) (h : n.tmod 128 < 0) : (wrap64 (wrap64 (n.tmod 128 + 128) + 1)).tmod 128 = (n + 1) % 128 := by
  have h1 := Int.lt_tmod_of_pos n (b := 128) (by omega)
  have h2 := tmod_two n 128 (by omega)
  rw [IntWalk.wrap64_in (n.tmod 128 + 128) (by omega), IntWalk.wrap64_in _ (by omega), Int.tmod_eq_emod_of_nonneg (by omega)]
  omega
theorem cut7pos (n : Int) (h : 0 ≤ n.tmod 128) : (wrap64 (n.tmod 128 + 1)).tmod 128 = (n + 1) % 128 := by
  have h1 := Int.tmod_lt_of_pos n (b := 128) (by omega)
  have h2 := tmod_two n 128 (by omega)
  rw [IntWalk.wrap64_in _ (by omega), Int.tmod_eq_emod_of_nonneg (by omega)]
  omega
/-- Whether the bit of 2^63 is there; whether that of 2^32 is. -/
def dirtyB (x : Int) : Bool := x / 9223372036854775808 == 1
def doneB (x : Int) : Bool := x / 4294967296 % 2 == 1
theorem dirty_of (x : Int) (h0 : 0 ≤ x) (h1 : x < 18446744073709551616) : (bits .and .u64 (x / 9223372036854775808) 1 == 1) = dirtyB x := by
  rw [and1 _ (by omega) (by omega)]; unfold dirtyB
  congr 1; omega
theorem rdirty_of (x : Int) : (x / 9223372036854775808 == 1) = dirtyB x := rfl
theorem done_of (x : Int) (h0 : 0 ≤ x) (h1 : x < 18446744073709551616) : (bits .and .u64 (x / 4294967296) 1 == 1) = doneB x := by
  rw [and1 _ (by omega) (by omega)]; rfl
theorem rdone_of (x : Int) : (x / 4294967296 % 2 == 1) = doneB x := rfl
theorem clean_of (x : Int) (h0 : 0 ≤ x) (h1 : x < 18446744073709551616) : bits .andNot .u64 x 9223372036854775808 = x % 9223372036854775808 := not63 x h0 h1
theorem soil_of (x : Int) (h0 : 0 ≤ x) (h1 : x < 18446744073709551616) : bits .or .u64 x 9223372036854775808 = x % 9223372036854775808 + 9223372036854775808 := or63 x h0 h1
theorem field32 (a : Int) : IntKind.u64.wrap (bits .and .u64 (IntKind.u64.wrap (IntKind.u64.wrap a + 1)) 4294967295) = (a + 1) % 4294967296 := by
  rw [and32 _ (by rw [IntKind.wrap_u64]; omega) (by rw [IntKind.wrap_u64]; omega)]
  simp only [IntKind.wrap_u64]
  omega
theorem high32 (a : Int) : IntKind.u64.wrap (bits .and .u64 (IntKind.u64.wrap (IntKind.u64.wrap a + 1)) 4294967295 * 4294967296) = 4294967296 * ((a + 1) % 4294967296) := by
  rw [and32 _ (by rw [IntKind.wrap_u64]; omega) (by rw [IntKind.wrap_u64]; omega)]
  simp only [IntKind.wrap_u64]
  omega
theorem high7 (a : Int) : IntKind.u64.wrap (bits .and .u64 (IntKind.u64.wrap (IntKind.u64.wrap a + 1)) 127 * 4294967296) = 4294967296 * ((a + 1) % 128) := by
  rw [and7 _ (by rw [IntKind.wrap_u64]; omega) (by rw [IntKind.wrap_u64]; omega)]
  simp only [IntKind.wrap_u64]
  omega
theorem link_of (a b : Int) : bits .or .u64 (IntKind.u64.wrap (bits .and .u64 (IntKind.u64.wrap (IntKind.u64.wrap a + 1)) 4294967295)) (IntKind.u64.wrap (bits .and .u64 (IntKind.u64.wrap (IntKind.u64.wrap b + 1)) 127 * 4294967296)) = (a + 1) % 4294967296 + 4294967296 * ((b + 1) % 128) := by
  rw [field32, high7, or32 _ _ (by omega) (by omega) (by omega) (by omega) (by omega)]
theorem entry_of (a b : Int) : bits .or .u64 (IntKind.u64.wrap (bits .and .u64 (IntKind.u64.wrap (IntKind.u64.wrap a + 1)) 4294967295)) (IntKind.u64.wrap (bits .and .u64 (IntKind.u64.wrap (IntKind.u64.wrap b + 1)) 4294967295 * 4294967296)) = (a + 1) % 4294967296 + 4294967296 * ((b + 1) % 4294967296) := by
  rw [field32, high32, or32 _ _ (by omega) (by omega) (by omega) (by omega) (by omega)]
theorem top_of (a b : Int) (h2 : 0 ≤ b) (h3 : b < 4294967296) : bits .or .u64 (IntKind.u64.wrap (bits .and .u64 (IntKind.u64.wrap (IntKind.u64.wrap a + 1)) 4294967295)) (IntKind.u64.wrap (bits .and .u64 b 4294967295 * 4294967296)) = (a + 1) % 4294967296 + 4294967296 * b := by
  rw [field32, and32 b h2 (by omega), IntKind.wrap_u64, or32 _ _ (by omega) (by omega) (by omega) (by omega) (by omega)]; omega
theorem seq31 (a : Int) : IntKind.u64.wrap (bits .and .u64 (IntKind.u64.wrap a) 2147483647 * 8589934592) = a % 2147483648 * 8589934592 := by
  rw [and31 _ (by rw [IntKind.wrap_u64]; omega) (by rw [IntKind.wrap_u64]; omega)]
  simp only [IntKind.wrap_u64]
  omega
theorem cell_of (a v : Int) (h2 : 0 ≤ v) (h3 : v < 4294967296) : bits .or .u64 (IntKind.u64.wrap (bits .and .u64 (IntKind.u64.wrap a) 2147483647 * 8589934592)) (IntKind.u64.wrap (bits .and .u64 v 4294967295)) = a % 2147483648 * 8589934592 + v := by
  rw [seq31, and32 v h2 (by omega), IntKind.wrap_u64, or33 _ _ (by omega) (by omega) (by omega) (by omega) (by omega)]; omega
theorem cellT_of (a v : Int) (h2 : 0 ≤ v) (h3 : v < 4294967296) : bits .or .u64 (bits .or .u64 (IntKind.u64.wrap (bits .and .u64 (IntKind.u64.wrap a) 2147483647 * 8589934592)) (IntKind.u64.wrap (bits .and .u64 v 4294967295))) 4294967296 = a % 2147483648 * 8589934592 + v + 4294967296 := by
  rw [cell_of a v h2 h3, orBit32 _ (by omega) (by omega) (by omega)]
end Go.Proofs.YtndplpfbohigpaaGreat.BM
