/- Which configs the grounds have. Conditions: those that each theorem names. -/
import Derived.Test.YtfjfeomkmhbpbaaLay9
namespace Go.Proofs.Ytfjfeomkmhbpbaa
open Go.ChangeShapes Go.WideShapes Go.ChangeAt Go.RowKit
set_option linter.unusedVariables false
def GrOk (t s l b : Int) : Prop := CfgOk t s l b ∧ t ≤ 6 ∧ s ≤ 30 ∧ l ≤ 8 ∧ b ≤ 8
theorem few9_yes (t s l b : Int) (w : World) (h : GrOk t s l b) :
    Calls Try.prog 12 #[.agg #[.int .i64 t, .int .i64 s, .int .i64 l, .int .i64 b]] w fun e w' => e = .returned (.bool true) ∧ Ext w w' := by
  obtain ⟨hc, h1, h2, h3, h4⟩ := h
  go_enter Try.func12, Try.ntmps12
  go_wp2_with fail
  refine (rright_yes t s l b _ hc).mono ?_
  rintro e w1 ⟨rfl, x1⟩
  obtain ⟨c0, c1, c2, c3⟩ := (C4.new w t s l b 29).ext x1 (by simp)
  go_wp2_with fail
  go_ret
  exact ⟨rfl, ((Ext.refl w).alloc _).trans x1⟩
theorem few9_no (t s l b : Int) (w : World) (h : ¬ GrOk t s l b) :
    Calls Try.prog 12 #[.agg #[.int .i64 t, .int .i64 s, .int .i64 l, .int .i64 b]] w fun e w' => e = .returned (.bool false) ∧ Ext w w' := by
  by_cases hc : CfgOk t s l b
  · have HY := Lib.hid (fun W => rright_yes t s l b W hc)
    by_cases h1 : t ≤ 6
    · by_cases h2 : s ≤ 30
      · by_cases h3 : l ≤ 8
        · have h4 : decide (b ≤ 8) = false := by simp; exact Int.not_le.1 (fun h4 => h ⟨hc, h1, h2, h3, h4⟩)
          clear h hc
          go_enter Try.func12, Try.ntmps12
          go_wp2_with fail
          refine (HY.out _).mono ?_
          rintro e w1 ⟨rfl, x1⟩
          obtain ⟨c0, c1, c2, c3⟩ := (C4.new w t s l b 29).ext x1 (by simp)
          go_wp2_with fail
          go_ret
          exact ⟨rfl, ((Ext.refl w).alloc _).trans x1⟩
        · clear h hc
          go_enter Try.func12, Try.ntmps12
          go_wp2_with fail
          refine (HY.out _).mono ?_
          rintro e w1 ⟨rfl, x1⟩
          obtain ⟨c0, c1, c2, c3⟩ := (C4.new w t s l b 29).ext x1 (by simp)
          go_wp2_with fail
          go_ret
          exact ⟨rfl, ((Ext.refl w).alloc _).trans x1⟩
      · clear h hc
        go_enter Try.func12, Try.ntmps12
        go_wp2_with fail
        refine (HY.out _).mono ?_
        rintro e w1 ⟨rfl, x1⟩
        obtain ⟨c0, c1, c2, c3⟩ := (C4.new w t s l b 29).ext x1 (by simp)
        go_wp2_with fail
        go_ret
        exact ⟨rfl, ((Ext.refl w).alloc _).trans x1⟩
    · clear h hc
      go_enter Try.func12, Try.ntmps12
      go_wp2_with fail
      refine (HY.out _).mono ?_
      rintro e w1 ⟨rfl, x1⟩
      obtain ⟨c0, c1, c2, c3⟩ := (C4.new w t s l b 29).ext x1 (by simp)
      go_wp2_with fail
      go_ret
      exact ⟨rfl, ((Ext.refl w).alloc _).trans x1⟩
  · clear h
    go_enter Try.func12, Try.ntmps12
    go_wp2_with fail
    refine (rright_no t s l b _ hc).mono ?_
    rintro e w1 ⟨rfl, x1⟩
    go_wp2_with fail
    go_ret
    exact ⟨rfl, ((Ext.refl w).alloc _).trans x1⟩
end Go.Proofs.Ytfjfeomkmhbpbaa
