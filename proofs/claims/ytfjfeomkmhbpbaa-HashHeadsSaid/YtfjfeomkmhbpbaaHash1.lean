/- Numbers alone, and package hash: the mix of a key, and its bucket, as the program and the document have them. Conditions: those that each theorem names. -/
import Derived.Test.YtfjfeomkmhbpbaaBase
namespace Go.Proofs.Ytfjfeomkmhbpbaa
open Go.ChangeShapes Go.WideShapes Go.ChangeAt Go.RowKit
set_option linter.unusedVariables false
namespace HM
theorem bit_xor (a b n : Nat) : (a ^^^ b) / 2 ^ n % 2 = (a / 2 ^ n % 2) ^^^ (b / 2 ^ n % 2) := by
  have h : ∀ x : Nat, x / 2 ^ n % 2 = (x.testBit n).toNat := fun x => by
    rw [Nat.testBit_eq_decide_div_mod_eq]
    rcases Nat.mod_two_eq_zero_or_one (x / 2 ^ n) with h | h <;> simp [h]
  rw [h, h, h, Nat.testBit_xor]
  cases a.testBit n <;> cases b.testBit n <;> rfl
def xN (a : Nat) : Nat := a * 2654435769 % 4294967296
def mixN (a : Nat) : Nat := xN a ^^^ xN a / 65536
theorem xN_lt (a : Nat) : xN a < 4294967296 := by unfold xN; omega
theorem mixN_lt (a : Nat) : mixN a < 4294967296 := by
  have h := xN_lt a
  exact Nat.xor_lt_two_pow (n := 32) (by omega) (by omega)
theorem div_xor (a b : Nat) : (a ^^^ b) / 65536 = a / 65536 ^^^ b / 65536 := by
  have h := @Nat.xor_div_two_pow a b 16
  simpa using h
theorem back (x : Nat) (h : x < 4294967296) : (x ^^^ x / 65536) ^^^ (x ^^^ x / 65536) / 65536 = x := by
  rw [div_xor]
  have h2 : x / 65536 / 65536 = 0 := by omega
  rw [h2, Nat.xor_zero, Nat.xor_assoc, Nat.xor_self, Nat.xor_zero]
theorem mix_inj {a b : Nat} (ha : a < 4294967296) (hb : b < 4294967296) (h : mixN a = mixN b) : a = b := by
  have hx : xN a = xN b := by
    have h1 := back (xN a) (xN_lt a)
    have h2 := back (xN b) (xN_lt b)
    have h3 : xN a ^^^ xN a / 65536 = xN b ^^^ xN b / 65536 := h
    rw [h3] at h1
    omega
  have k : ∀ c : Nat, c < 4294967296 → xN c * 340573321 % 4294967296 = c := fun c hc => by
    unfold xN
    omega
  have h1 := k a ha
  have h2 := k b hb
  rw [hx] at h1
  omega
/-- What the document's loop has behind n bits. -/
theorem part_next (z n : Nat) : z % 2 ^ (n + 1) = z % 2 ^ n + 2 ^ n * (z / 2 ^ n % 2) := by
  rw [Nat.pow_succ, Nat.mod_mul]
theorem mix_bit (a n : Nat) : (mixN a / 2 ^ n % 2 = if xN a / 2 ^ n % 2 = xN a / 65536 / 2 ^ n % 2 then 0 else 1) := by
  unfold mixN
  rw [bit_xor]
  rcases Nat.mod_two_eq_zero_or_one (xN a / 2 ^ n) with h1 | h1 <;> rcases Nat.mod_two_eq_zero_or_one (xN a / 65536 / 2 ^ n) with h2 | h2 <;> rw [h1, h2] <;> rfl
theorem mix_end (a : Nat) : mixN a % 2 ^ 32 = mixN a := Nat.mod_eq_of_lt (by have := mixN_lt a; omega)
theorem mix_walk (a : Nat) : bits .xor .u32 (xN a : Int) ((xN a : Int) / 65536) = (mixN a : Int) := by
  rw [show ((xN a : Int) / 65536) = ((xN a / 65536 : Nat) : Int) from by omega]
  have h := xN_lt a
  rw [u32_xor_nat _ _ (by omega) (by omega)]
  rfl
end HM
theorem mix_any (a : Nat) (ha : a < 4294967296) (w : World) :
    Calls Try.prog 8 #[.int .u32 (a : Int)] w fun e w' => e = .returned (.int .u32 (HM.mixN a : Int)) ∧ w = w' := by
  have h1 : IntKind.u32.wrap ((a : Int) * 2654435769) = (HM.xN a : Int) := by
    unfold HM.xN IntKind.wrap
    simp [IntKind.signed, IntKind.bits]
  have h2 := HM.xN_lt a
  have h4 := HM.mix_walk a
  go_enter Try.func8, Try.ntmps8
  go_wp2
  go_ret
  exact ⟨by rw [← h4]; rfl, rfl⟩
theorem pow_le {k : Nat} (h : k < 32) : 2 ^ k ≤ 2147483648 := by
  have := Nat.pow_le_pow_right (n := 2) (by decide) (show k ≤ 31 by omega)
  simpa using this
set_option maxHeartbeats 1000000 in
theorem rmix_any (a : Nat) (ha : a < 4294967296) (w : World) :
    Calls Try.prog 9 #[.int .u32 (a : Int)] w fun e w' => e = .returned (.int .i64 (HM.mixN a : Int)) ∧ w = w' := by
  have h1 : (a : Int) * 2654435769 % 4294967296 = (HM.xN a : Int) := by
    unfold HM.xN
    omega
  have h2 := HM.xN_lt a
  have HE := Lib.hid (HM.mix_end a)
  have HS := Lib.hid (fun k => HM.part_next (HM.mixN a) k)
  have HB := Lib.hid (fun k => HM.mix_bit a k)
  have HL := Lib.hid (fun k (h : k < 32) => pow_le h)
  generalize HM.xN a = x at *
  generalize HM.mixN a = m at *
  go_enter Try.func9, Try.ntmps9
  go_wp2
  clear h1 ha
  go_loop [4, 5, 6] (fun out bit i => ∃ k : Nat, k ≤ 32 ∧ i = .int .i64 k ∧ bit = .int .i64 ((2 ^ k : Nat) : Int) ∧ out = .int .i64 ((m % 2 ^ k : Nat) : Int)) (fun _ _ i => 32 - (intOf i).toNat)
  case atStart => exact ⟨0, by omega, rfl, rfl, by rw [Nat.pow_zero, Nat.mod_one]; rfl⟩
  case round =>
    obtain ⟨k, hk, rfl, rfl, rfl⟩ := hrel
    by_cases hlt : k < 32
    · have v1 : decide (k < 32) = true := by simp; omega
      have v2 : decide ((k : Int) < 32) = true := by simp; omega
      have hpl := HL.out k hlt
      have hp0 : 0 < 2 ^ k := Nat.two_pow_pos k
      have hq : m % 2 ^ k < 2 ^ k := Nat.mod_lt _ hp0
      have hs := HS.out k
      have hb := HB.out k
      have HN : Hid (2 ^ (k + 1) = 2 * 2 ^ k) := Lib.hid (by rw [Nat.pow_succ]; omega)
      generalize 2 ^ k = p at *
      generalize m % p = q at *
      have HQ : Hid (m % 2 ^ (k + 1) = q + p * (m / p % 2)) := Lib.hid hs
      have hA : (x : Int) / (p : Int) = ((x / p : Nat) : Int) := by simp
      have hy : (x : Int) / 65536 = ((x / 65536 : Nat) : Int) := by simp
      have hB : ((x / 65536 : Nat) : Int) / (p : Int) = ((x / 65536 / p : Nat) : Int) := by simp
      have lA : x / p < 4294967296 := Nat.lt_of_le_of_lt (Nat.div_le_self _ _) h2
      have ly : x / 65536 < 4294967296 := by omega
      have lB : x / 65536 / p < 4294967296 := Nat.lt_of_le_of_lt (Nat.div_le_self _ _) ly
      generalize x / p = A at *
      generalize x / 65536 = y at *
      generalize y / p = B at *
      by_cases hc : A % 2 = B % 2
      · rw [if_pos hc] at hb
        have HQ2 : Hid (((m % 2 ^ (k + 1) : Nat) : Int) = (q : Int)) := Lib.hid (by
          have e := HQ.out
          rw [hb, Nat.mul_zero] at e
          exact congrArg (fun z : Nat => (z : Int)) (e.trans (Nat.add_zero q)))
        have d1 : (((A : Int) % 2) != ((B : Int) % 2)) = false := by
          rw [bne_eq_false_iff_eq]
          omega
        clear hs hb hc HQ HS HB HL HE
        go_wp2
        clear d1 hA hy hB
        go_round
        case rel => exact ⟨k + 1, by omega, by go_num, by rw [HN.out]; go_num, by rw [HQ2.out]⟩
        case measure => simp [intOf]; omega
      · rw [if_neg hc] at hb
        have HQ2 : Hid (((m % 2 ^ (k + 1) : Nat) : Int) = (q : Int) + (p : Int)) := Lib.hid (by
          have e := HQ.out
          rw [hb, Nat.mul_one] at e
          rw [e, Int.natCast_add])
        have d1 : (((A : Int) % 2) != ((B : Int) % 2)) = true := by
          rw [bne_iff_ne]
          intro e
          apply hc
          omega
        clear hs hb hc HQ HS HB HL HE
        go_wp2
        clear d1 hA hy hB
        go_round
        case rel => exact ⟨k + 1, by omega, by go_num, by rw [HN.out]; go_num, by rw [HQ2.out]⟩
        case measure => simp [intOf]; omega
    · have v1 : decide (k < 32) = false := by simp; omega
      have v2 : decide ((k : Int) < 32) = false := by simp; omega
      obtain rfl : k = 32 := by omega
      have HE2 : Hid (((m % 2 ^ 32 : Nat) : Int) = (m : Int)) := Lib.hid (by rw [HE.out])
      generalize m % 2 ^ 32 = z at *
      go_wp2
      go_ret
      exact ⟨by rw [← HE2.out]; rfl, rfl⟩
end Go.Proofs.Ytfjfeomkmhbpbaa
