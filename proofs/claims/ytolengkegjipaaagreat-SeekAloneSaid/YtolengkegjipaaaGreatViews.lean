/- What came in, read: slices of lines, a line by its value. Conditions: those that each theorem names. -/
import Derived.Test.YtolengkegjipaaaGreatArgs
import Derived.Test.YtolengkegjipaaaGreatLineMath
import Derived.Deep.Slices
import Derived.Deep.Fields
import Derived.ChangeSame
namespace Go.Proofs.YtolengkegjipaaaGreat
open Go.ChangeShapes Go.WideShapes Go.ChangeAt Go.RowKit Go.Deep
set_option linter.unusedVariables false
section
variable {H : Type} {enc : TypeId × Value → H} {P : Program}
end
end Go.Proofs.YtolengkegjipaaaGreat

