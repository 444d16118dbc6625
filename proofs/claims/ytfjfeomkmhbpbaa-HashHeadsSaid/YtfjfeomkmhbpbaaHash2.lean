/- Package hash: the bucket of a key; the page's example. Conditions: those that each theorem names. -/
import Derived.Test.YtfjfeomkmhbpbaaHash1
namespace Go.Proofs.Ytfjfeomkmhbpbaa
open Go.ChangeShapes Go.WideShapes Go.ChangeAt Go.RowKit
set_option linter.unusedVariables false

theorem bucket_no (a : Nat) (ha : a < 4294967296) (m : Int) (hm : m < 1) (w : World) :
    Calls Try.prog 11 #[.int .u32 (a : Int), .int .i64 m] w fun e w' => e = .returned (.int .i64 (-1)) ∧ w = w' := by
  have d : decide (m < 1) = true := by simp; omega
  go_enter Try.func11, Try.ntmps11
  go_wp2
  go_ret
  exact ⟨rfl, rfl⟩
theorem bucket_yes (a : Nat) (ha : a < 4294967296) (m : Int) (h1 : 1 ≤ m) (h2 : m < 9223372036854775808) (w : World) :
    Calls Try.prog 11 #[.int .u32 (a : Int), .int .i64 m] w fun e w' => e = .returned (.int .i64 ((HM.mixN a : Int) % m)) ∧ w = w' := by
  have d : decide (m < 1) = false := by simp; omega
  have HMx := Lib.hid (mix_any a ha w)
  have hl := HM.mixN_lt a
  generalize HM.mixN a = x at *
  have e1 : (x : Int).tmod m = (x : Int) % m := by rw [Int.tmod_eq_emod_of_nonneg (by omega)]
  have e2 : 0 ≤ (x : Int) % m := Int.emod_nonneg _ (by omega)
  have e3 : (x : Int) % m < m := Int.emod_lt_of_pos _ (by omega)
  go_enter Try.func11, Try.ntmps11
  go_wp2_with fail
  refine HMx.out.mono ?_
  rintro e w' ⟨rfl, rfl⟩
  go_wp2_with fail
  go_ret
  exact ⟨rfl, rfl⟩
theorem awake16_ok (w : World) : Calls Try.prog 10 #[] w fun e w' => e = .returned (.bool true) ∧ w = w' := by
  have H1 := Lib.hid (mix_any 1 (by decide) w)
  have H0 := Lib.hid (mix_any 0 (by decide) w)
  have B0 := Lib.hid (bucket_yes 0 (by decide) 5 (by decide) (by decide) w)
  have B7 := Lib.hid (bucket_no 7 (by decide) 0 (by decide) w)
  rw [show HM.mixN 1 = 2654463886 from by decide +kernel] at H1
  rw [show HM.mixN 0 = 0 from by decide +kernel] at H0 B0
  go_enter Try.func10, Try.ntmps10
  go_wp2_with fail
  refine H1.out.mono ?_
  rintro e w' ⟨rfl, rfl⟩
  go_wp2_with fail
  refine H0.out.mono ?_
  rintro e w' ⟨rfl, rfl⟩
  go_wp2_with fail
  refine B0.out.mono ?_
  rintro e w' ⟨rfl, rfl⟩
  go_wp2_with fail
  refine B7.out.mono ?_
  rintro e w' ⟨rfl, rfl⟩
  go_wp2_with fail
  go_ret
  exact ⟨rfl, rfl⟩
end Go.Proofs.Ytfjfeomkmhbpbaa
