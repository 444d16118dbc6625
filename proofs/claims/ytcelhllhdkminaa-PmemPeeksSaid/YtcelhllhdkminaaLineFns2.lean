/- What the functions of package lines answer, and those of the document's answer for it. Conditions: those that each theorem names. -/
import Derived.Test.YtcelhllhdkminaaLineFns
import Derived.Deep.RegionWith
import Derived.BigQuiet
import Derived.Deep.QuietTactic
namespace Go.Proofs.Ytcelhllhdkminaa
open Go.ChangeShapes Go.WideShapes Go.ChangeAt Go.RowKit
set_option linter.unusedVariables false
end Go.Proofs.Ytcelhllhdkminaa
