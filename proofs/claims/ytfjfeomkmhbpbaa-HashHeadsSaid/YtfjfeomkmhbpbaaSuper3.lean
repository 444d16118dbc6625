/- The config of a line, as package super reads it. Conditions: those that each theorem names. -/
import Derived.Test.YtfjfeomkmhbpbaaSuper2
import Derived.Test.YtfjfeomkmhbpbaaEqs
namespace Go.Proofs.Ytfjfeomkmhbpbaa
open Go.ChangeShapes Go.WideShapes Go.ChangeAt Go.RowKit
set_option linter.unusedVariables false

/-- A line is a config's. -/
def IsLine (x0 x1 x2 x3 x4 x5 x6 x7 : Int) : Prop := CfgOk x1 x2 x3 x4 ∧ x0 = 7739836655157129782 ∧ x5 = 1 ∧ x6 = 0 ∧ x7 = sum7 7739836655157129782 x1 x2 x3 x4 1 0
theorem ext3 (w : World) (o p q : Obj) : Ext w (((w.alloc o).alloc p).alloc q) := (ext2 w o p).alloc q

theorem apart3 {w w1 : World} {o p q : Obj} (hx : Ext (((w.alloc o).alloc p).alloc q) w1) : w.heap.size < w1.heap.size ∧ w.heap.size + 1 < w1.heap.size ∧ w.heap.size + 1 + 1 < w1.heap.size ∧ ¬ w.heap.size = w1.heap.size ∧ ¬ w.heap.size + 1 = w1.heap.size ∧ ¬ w.heap.size + 1 + 1 = w1.heap.size := by
  have := hx.size; simp at this; omega
end Go.Proofs.Ytfjfeomkmhbpbaa
