/- What came in, read: slices of lines, a line by its value. Conditions: those that each theorem names. -/
import Derived.Test.YtfjfeomkmhbpbaaGreatArgs
import Derived.Test.YtfjfeomkmhbpbaaGreatLineMath
import Derived.Deep.Slices
import Derived.Deep.Fields
import Derived.ChangeSame
namespace Go.Proofs.YtfjfeomkmhbpbaaGreat
open Go.ChangeShapes Go.WideShapes Go.ChangeAt Go.RowKit Go.Deep
set_option linter.unusedVariables false
section
variable {H : Type} {enc : TypeId × Value → H} {P : Program}
end
end Go.Proofs.YtfjfeomkmhbpbaaGreat

