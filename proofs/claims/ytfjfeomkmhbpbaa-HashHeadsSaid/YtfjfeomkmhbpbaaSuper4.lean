/- Which config of two lines is read, by package super; the config of a line by the document's answer. Conditions: those that each theorem names. -/
import Derived.Test.YtfjfeomkmhbpbaaSuper3
namespace Go.Proofs.Ytfjfeomkmhbpbaa
open Go.ChangeShapes Go.WideShapes Go.ChangeAt Go.RowKit
set_option linter.unusedVariables false

theorem ext5 (w : World) (o p q r s : Obj) : Ext w (((((w.alloc o).alloc p).alloc q).alloc r).alloc s) := (ext4 w o p q r).alloc s

end Go.Proofs.Ytfjfeomkmhbpbaa
