/- PdevNew where no device may be, or none is asked for. Conditions: those that each theorem names. -/
import Derived.Test.YtlnaffedbcpkpaaDev11
namespace Go.Proofs.Ytlnaffedbcpkpaa
open Go.ChangeShapes Go.WideShapes Go.ChangeAt Go.RowKit
set_option linter.unusedVariables false
/-- Whether a device may be. -/
def MayNew (n t : Int) : Prop := 1 ≤ n ∧ n ≤ 262144 ∧ 1 ≤ t ∧ t ≤ 64
theorem mayNew_yes (n t : Int) (h : MayNew n t) (w : World) : Calls Try.prog 17 #[.int .i64 n, .int .i64 t] w fun e w' => e = .returned (.int .i64 0) ∧ w = w' := by
  obtain ⟨h1, h2, h3, h4⟩ := h
  have t1 : decide (n < 1) = false := by simp; omega
  have t2 : decide (262144 < n) = false := by simp; omega
  have t3 : decide (t < 1) = false := by simp; omega
  have t4 : decide (64 < t) = false := by simp; omega
  go_enter Try.func17, Try.ntmps17
  go_wp2_with fail
  go_ret
  exact ⟨rfl, rfl⟩
theorem mayNew_no (n t : Int) (h : ¬ MayNew n t) (w : World) : Calls Try.prog 17 #[.int .i64 n, .int .i64 t] w fun e w' => e = .returned (.int .i64 1) ∧ w = w' := by
  by_cases h1 : n < 1
  · have t1 : decide (n < 1) = true := by simp; omega
    go_enter Try.func17, Try.ntmps17
    go_wp2_with fail
    go_ret
    exact ⟨rfl, rfl⟩
  have t1 : decide (n < 1) = false := by simp; omega
  by_cases h2 : 262144 < n
  · have t2 : decide (262144 < n) = true := by simp; omega
    go_enter Try.func17, Try.ntmps17
    go_wp2_with fail
    go_ret
    exact ⟨rfl, rfl⟩
  have t2 : decide (262144 < n) = false := by simp; omega
  by_cases h3 : t < 1
  · have t3 : decide (t < 1) = true := by simp; omega
    go_enter Try.func17, Try.ntmps17
    go_wp2_with fail
    go_ret
    exact ⟨rfl, rfl⟩
  have t3 : decide (t < 1) = false := by simp; omega
  have h4 : 64 < t := by unfold MayNew at h; omega
  have t4 : decide (64 < t) = true := by simp; omega
  go_enter Try.func17, Try.ntmps17
  go_wp2_with fail
  go_ret
  exact ⟨rfl, rfl⟩
theorem new_no (n t : Int) (h : ¬ MayNew n t) (w : World) : Calls Try.prog 16 #[.int .i64 n, .int .i64 t] w (DevNone w 1) := by
  by_cases h1 : n < 1
  · have t1 : decide (n < 1) = true := by simp; omega
    go_enter Try.func16, Try.ntmps16
    go_wp2_with fail
    go_ret2
    exact ⟨rfl, Ext.refl _⟩
  have t1 : decide (n < 1) = false := by simp; omega
  by_cases h2 : 262144 < n
  · have t2 : decide (262144 < n) = true := by simp; omega
    go_enter Try.func16, Try.ntmps16
    go_wp2_with fail
    go_ret2
    exact ⟨rfl, Ext.refl _⟩
  have t2 : decide (262144 < n) = false := by simp; omega
  have HM : Hid (Calls Try.prog 42 #[.int .i64 t] w fun e w' => e = .returned (.bool false) ∧ w = w') := by
    by_cases h3 : t < 1
    · exact Lib.hid (mayBe_lo t h3 w)
    · exact Lib.hid (mayBe_hi t (by unfold MayNew at h; omega) w)
  go_enter Try.func16, Try.ntmps16
  go_wp2_with fail
  refine HM.out.mono ?_
  rintro e w' ⟨rfl, rfl⟩
  go_wp2_with fail
  go_ret2
  exact ⟨rfl, Ext.refl _⟩
set_option maxHeartbeats 400000 in
theorem pdevNew_no (n t : Int) (h : ¬ MayNew n t) (w : World) : Calls Try.prog 4 #[.int .i64 n, .int .i64 t] w (fun e w' => e = .returned (.bool true) ∧ Ext w w') := by
  have HA := Lib.hid (fun W => awake4_of W)
  have HN := Lib.hid (new_no n t h w)
  have HM := Lib.hid (fun W => mayNew_no n t h W)
  by_cases h1 : 300 < n
  · have t1 : decide (300 < n) = true := by simp; omega
    by_cases h2 : n ≤ 262144
    · have t2 : decide (n ≤ 262144) = true := by simp; omega
      go_enter Try.func4, Try.ntmps4
      go_wp2_with fail
      refine (HA.out _).mono ?_
      rintro e w1 ⟨rfl, x1⟩
      go_wp2_with fail
      go_ret
      exact ⟨rfl, x1⟩
    · have t2 : decide (n ≤ 262144) = false := by simp; omega
      go_enter Try.func4, Try.ntmps4
      go_wp2_with fail
      refine HN.out.mono ?_
      rintro e w1 ⟨rfl, x1⟩
      go_wp2_with fail
      refine (HM.out _).mono ?_
      rintro e w' ⟨rfl, rfl⟩
      go_wp2_with fail
      refine (HA.out _).mono ?_
      rintro e w2 ⟨rfl, x2⟩
      go_wp2_with fail
      go_ret
      exact ⟨rfl, x1.trans x2⟩
  · have t1 : decide (300 < n) = false := by simp; omega
    go_enter Try.func4, Try.ntmps4
    go_wp2_with fail
    refine HN.out.mono ?_
    rintro e w1 ⟨rfl, x1⟩
    go_wp2_with fail
    refine (HM.out _).mono ?_
    rintro e w' ⟨rfl, rfl⟩
    go_wp2_with fail
    refine (HA.out _).mono ?_
    rintro e w2 ⟨rfl, x2⟩
    go_wp2_with fail
    go_ret
    exact ⟨rfl, x1.trans x2⟩
end Go.Proofs.Ytlnaffedbcpkpaa
