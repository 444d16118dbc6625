/- Package retire: the slots of a log. Conditions: those that each theorem names. -/
import Derived.Test.YtolengkegjipaaaGreatKRetA
import Derived.Test.YtolengkegjipaaaGreatKLine
import Derived.Test.YtolengkegjipaaaGreatKRetB
namespace Go.Proofs.YtolengkegjipaaaGreat
open Go.ChangeShapes Go.WideShapes Go.ChangeAt Go.RowKit Go.Shelf
set_option linter.unusedVariables false
attribute [local go_sem] Oper.semAt_some
section
variable {Q : Nat → Prop} {wb w0 w : World} {gm gl : Nat} {dv pv : Value} {s : MSt} {F : Nat → Int} {t : Int}
end
end Go.Proofs.YtolengkegjipaaaGreat


/- Package retire: the steps of Reserve, Stamp and Cancel as one each; the page's example of layer 11. Conditions: those that each theorem names. -/
namespace Go.Proofs.YtolengkegjipaaaGreat
open Go.ChangeShapes Go.WideShapes Go.ChangeAt Go.RowKit
set_option linter.unusedVariables false
section
variable {Q : Nat → Prop} {w0 w : World} {gm gp gl : Nat} {dv pv : Value} {s : MSt} {F : Nat → Int} {t slot place : Int}
end
def s11 : MSt := groundSt 1 1 1 1 []
end Go.Proofs.YtolengkegjipaaaGreat

