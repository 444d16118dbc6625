/- Which configs the statements go through. Conditions: those that each theorem names. -/
import Derived.Test.YtljleibhncidmaaLay9
import Derived.Test.YtljleibhncidmaaNames2
namespace Go.Proofs.Ytljleibhncidmaa
open Go.ChangeShapes Go.WideShapes Go.ChangeAt Go.RowKit
set_option linter.unusedVariables false
theorem few_small (t s l b : Int) (w : World) (h1 : t ≤ 12) (h2 : s ≤ 60) :
    Calls Try.prog 18 #[.agg #[.int .i64 t, .int .i64 s, .int .i64 l, .int .i64 b]] w fun e w' => e = .returned (.bool true) ∧ Ext w w' := by
  go_enter Try.func18, Try.ntmps18
  go_wp2
  go_ret
  exact ⟨rfl, (Ext.refl w).alloc _⟩
theorem few_great (t s l b : Int) (w : World) (h : ¬ (t ≤ 12 ∧ s ≤ 60)) (hc : CfgOk t s l b) :
    Calls Try.prog 18 #[.agg #[.int .i64 t, .int .i64 s, .int .i64 l, .int .i64 b]] w fun e w' => e = .returned (.bool false) ∧ Ext w w' := by
  by_cases h1 : t ≤ 12
  · have h2 : ¬ s ≤ 60 := fun x => h ⟨h1, x⟩
    clear h
    go_enter Try.func18, Try.ntmps18
    go_wp2_with fail
    refine (rright_yes t s l b _ hc).mono ?_
    rintro e w1 ⟨rfl, x1⟩
    go_wp2_with fail
    go_ret
    exact ⟨rfl, ((Ext.refl w).alloc _).trans x1⟩
  · clear h
    go_enter Try.func18, Try.ntmps18
    go_wp2_with fail
    refine (rright_yes t s l b _ hc).mono ?_
    rintro e w1 ⟨rfl, x1⟩
    go_wp2_with fail
    go_ret
    exact ⟨rfl, ((Ext.refl w).alloc _).trans x1⟩
theorem few_none (t s l b : Int) (w : World) (hc : ¬ CfgOk t s l b) :
    Calls Try.prog 18 #[.agg #[.int .i64 t, .int .i64 s, .int .i64 l, .int .i64 b]] w fun e w' => e = .returned (.bool true) ∧ Ext w w' := by
  by_cases h1 : t ≤ 12
  · by_cases h2 : s ≤ 60
    · exact few_small t s l b w h1 h2
    · go_enter Try.func18, Try.ntmps18
      go_wp2_with fail
      refine (rright_no t s l b _ hc).mono ?_
      rintro e w1 ⟨rfl, x1⟩
      go_wp2_with fail
      go_ret
      exact ⟨rfl, ((Ext.refl w).alloc _).trans x1⟩
  · go_enter Try.func18, Try.ntmps18
    go_wp2_with fail
    refine (rright_no t s l b _ hc).mono ?_
    rintro e w1 ⟨rfl, x1⟩
    go_wp2_with fail
    go_ret
    exact ⟨rfl, ((Ext.refl w).alloc _).trans x1⟩
end Go.Proofs.Ytljleibhncidmaa
