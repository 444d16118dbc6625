/- Of no memory nothing is told, and nothing is done; two accesses compared by their value. Conditions: those that each theorem names. -/
import Derived.Test.YtbicloceaddinaaGreatKDevC
import Derived.Laws.StructEq
import Derived.Laws.EntriesVeiled
namespace Go.Proofs.YtbicloceaddinaaGreat
open Go.ChangeShapes Go.WideShapes Go.ChangeAt Go.RowKit
set_option linter.unusedVariables false
set_option maxRecDepth 100000 in
set_option maxHeartbeats 1000000 in
theorem eq_acc (k t a o n k' t' a' o' n' : Int) (d d' : Bool) (w : World) :
    (Op.equalIn 10000 116 (.agg #[.int .i64 k, .int .i64 t, .int .i64 a, .int .u64 o, .int .u64 n, .bool d]) (.agg #[.int .i64 k', .int .i64 t', .int .i64 a', .int .u64 o', .int .u64 n', .bool d'])).run Tryz.prog w = .ok (decide (([k, t, a, o, n], d) = ([k', t', a', o', n'], d'))) w := by
  have u3 := Tryz.underlying3
  have a3 := Tryz.isAgg3
  have z3 := Tryz.sizeOf3
  have u4 := Tryz.underlying45
  have a4 := Tryz.isAgg45
  have z4 := Tryz.sizeOf45
  have u5 := Tryz.underlying4
  have a5 := Tryz.isAgg4
  have z5 := Tryz.sizeOf4
  rw [show (10000 : Nat) = 9999 + 1 from rfl, run_equalIn_struct _ _ _ _ _ (by kernel_rfl) (by kernel_rfl)]
  simp only [Program.fieldsOf, Tryz.underlying116]
  go_simp
  by_cases h1 : k = k'
  · by_cases h2 : t = t'
    · by_cases h3 : a = a'
      · by_cases h4 : o = o'
        · by_cases h5 : n = n'
          · by_cases h6 : d = d' <;> simp [h1, h2, h3, h4, h5, h6]
          · simp [h1, h2, h3, h4, h5]
        · simp [h1, h2, h3, h4]
      · simp [h1, h2, h3]
    · simp [h1, h2]
  · simp [h1]
theorem eqa_yes (k t a o n : Int) (d : Bool) (w : World) :
    (Op.equalIn 10000 116 (.agg #[.int .i64 k, .int .i64 t, .int .i64 a, .int .u64 o, .int .u64 n, .bool d]) (.agg #[.int .i64 k, .int .i64 t, .int .i64 a, .int .u64 o, .int .u64 n, .bool d])).run Tryz.prog w = .ok true w := by rw [eq_acc]; simp

theorem fld3 (k t a o n : Int) (d : Bool) (w : World) : (Instr.field 116 (.agg #[.int .i64 k, .int .i64 t, .int .i64 a, .int .u64 o, .int .u64 n, .bool d]) 3).run Tryz.prog w = .ok (.int .u64 o) w := by kernel_rfl
theorem fld5 (k t a o n : Int) (d : Bool) (w : World) : (Instr.field 116 (.agg #[.int .i64 k, .int .i64 t, .int .i64 a, .int .u64 o, .int .u64 n, .bool d]) 5).run Tryz.prog w = .ok (.bool d) w := by kernel_rfl
end Go.Proofs.YtbicloceaddinaaGreat

