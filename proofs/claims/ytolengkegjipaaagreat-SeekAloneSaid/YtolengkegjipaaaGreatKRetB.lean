/- Package retire: what looks at the next entry. Conditions: those that each theorem names. -/
import Derived.Test.YtolengkegjipaaaGreatKRetA
import Derived.Stop.RegionWithIn
import Derived.Deep.RegionHeld3
namespace Go.Proofs.YtolengkegjipaaaGreat
open Go.ChangeShapes Go.WideShapes Go.ChangeAt Go.RowKit Go.Shelf
set_option linter.unusedVariables false
attribute [local go_sem] Oper.semAt_some
section
variable {Q : Nat → Prop} {w0 w : World} {gm gp gl : Nat} {dv pv : Value} {s : MSt} {F : Nat → Int} {t slot : Int}
end
end Go.Proofs.YtolengkegjipaaaGreat


/- Package retire: the steps of Reserve, Cancel, Stamp. Conditions: those that each theorem names. -/
namespace Go.Proofs.YtolengkegjipaaaGreat
open Go.ChangeShapes Go.WideShapes Go.ChangeAt Go.RowKit
set_option linter.unusedVariables false
section
variable {Q : Nat → Prop} {w0 w : World} {gm gp gl : Nat} {dv pv : Value} {s : MSt} {F : Nat → Int} {t slot place part ep : Int} {dn : Bool}
end
end Go.Proofs.YtolengkegjipaaaGreat

