/- Of no memory nothing is told, and nothing is done; two accesses compared by their value. Conditions: those that each theorem names. -/
import Derived.Test.YtolengkegjipaaaGreatKDevC
import Derived.Laws.StructEq
import Derived.Laws.EntriesVeiled
namespace Go.Proofs.YtolengkegjipaaaGreat
open Go.ChangeShapes Go.WideShapes Go.ChangeAt Go.RowKit
set_option linter.unusedVariables false
theorem fld3 (k t a o n : Int) (d : Bool) (w : World) : (Instr.field 76 (.agg #[.int .i64 k, .int .i64 t, .int .i64 a, .int .u64 o, .int .u64 n, .bool d]) 3).run Tryz.prog w = .ok (.int .u64 o) w := by kernel_rfl
theorem fld5 (k t a o n : Int) (d : Bool) (w : World) : (Instr.field 76 (.agg #[.int .i64 k, .int .i64 t, .int .i64 a, .int .u64 o, .int .u64 n, .bool d]) 5).run Tryz.prog w = .ok (.bool d) w := by kernel_rfl
end Go.Proofs.YtolengkegjipaaaGreat

