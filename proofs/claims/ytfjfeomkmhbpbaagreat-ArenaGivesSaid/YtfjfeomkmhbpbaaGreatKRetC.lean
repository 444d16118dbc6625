/- Package retire: the slots of a log. Conditions: those that each theorem names. -/
import Derived.Test.YtfjfeomkmhbpbaaGreatKRetA
import Derived.Test.YtfjfeomkmhbpbaaGreatKLine
import Derived.Test.YtfjfeomkmhbpbaaGreatKRetB
namespace Go.Proofs.YtfjfeomkmhbpbaaGreat
open Go.ChangeShapes Go.WideShapes Go.ChangeAt Go.RowKit Go.Shelf
set_option linter.unusedVariables false
attribute [local go_sem] Oper.semAt_some
section
variable {Q : Nat → Prop} {wb w0 w : World} {gm gl : Nat} {dv pv : Value} {s : MSt} {F : Nat → Int} {t : Int}
end
end Go.Proofs.YtfjfeomkmhbpbaaGreat


/- Package retire: the steps of Reserve, Stamp and Cancel as one each; the page's example of layer 11. Conditions: those that each theorem names. -/
namespace Go.Proofs.YtfjfeomkmhbpbaaGreat
open Go.ChangeShapes Go.WideShapes Go.ChangeAt Go.RowKit
set_option linter.unusedVariables false
theorem RvM.wf0 {L : Int} (h : 0 < L) : (⟨0, 0, false⟩ : RvM).Wf L := ⟨Or.inl (Or.inl rfl), ⟨Int.le_refl 0, by show (0 : Int) ≤ L; omega⟩, fun _ => h⟩
section
variable {Q : Nat → Prop} {w0 w : World} {gm gp gl : Nat} {dv pv : Value} {s : MSt} {F : Nat → Int} {t slot place : Int}
end
end Go.Proofs.YtfjfeomkmhbpbaaGreat

