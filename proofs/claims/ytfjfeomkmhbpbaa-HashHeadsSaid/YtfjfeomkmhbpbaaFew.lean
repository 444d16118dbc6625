/- Which configs the statements go through. Conditions: those that each theorem names. -/
import Derived.Test.YtfjfeomkmhbpbaaLay9
import Derived.Test.YtfjfeomkmhbpbaaNames2
namespace Go.Proofs.Ytfjfeomkmhbpbaa
open Go.ChangeShapes Go.WideShapes Go.ChangeAt Go.RowKit
set_option linter.unusedVariables false
end Go.Proofs.Ytfjfeomkmhbpbaa
