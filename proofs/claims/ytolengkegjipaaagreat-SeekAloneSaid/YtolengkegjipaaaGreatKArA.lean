/- Arena: a Give, its parts. Conditions: those that each theorem names. -/
import Derived.Test.YtolengkegjipaaaGreatKRetC
import Derived.Deep.RegionHeld3
namespace Go.Proofs.YtolengkegjipaaaGreat
open Go.ChangeShapes Go.WideShapes Go.ChangeAt Go.RowKit
set_option linter.unusedVariables false
/-- A Give: whether the intent is dropped, and its Push. -/
structure GvM where
  dropped : Bool
  push : PMs
section
variable {Q : Nat → Prop} {w0 w : World} {gm gg gu gl : Nat} {dv pv : Value} {s : MSt} {F : Nat → Int} {t slot : Int} {x : GvM}
end
end Go.Proofs.YtolengkegjipaaaGreat


/- Arena: a Take, its cells and its last parts. Conditions: those that each theorem names. -/
namespace Go.Proofs.YtolengkegjipaaaGreat
open Go.ChangeShapes Go.WideShapes Go.ChangeAt Go.RowKit
set_option linter.unusedVariables false
section
variable {Q : Nat → Prop} {w0 w : World} {gm gt gu gl : Nat} {dv pv : Value} {s : MSt} {F : Nat → Int} {t : Int} {nx av rc : Value} {dry : Bool} {empty gen : Int}
end
end Go.Proofs.YtolengkegjipaaaGreat


/- Arena: a Take's New, Done, Step. Conditions: those that each theorem names. -/
namespace Go.Proofs.YtolengkegjipaaaGreat
open Go.ChangeShapes Go.WideShapes Go.ChangeAt Go.RowKit
set_option linter.unusedVariables false
theorem funcNe {n : FuncId} {gt : Nat} (W : World) : (binOp .eql 80 (.func (.func n) #[.pointer (some ⟨gt, 0, none⟩)] #[]) .nilFunc).run Tryz.prog W = .ok (.bool false) W := by kernel_rfl
theorem funcEq (W : World) : (binOp .eql 80 .nilFunc .nilFunc).run Tryz.prog W = .ok (.bool true) W := by kernel_rfl
section
variable {Q : Nat → Prop} {w0 w : World} {gm gt : Nat} {dv pv : Value} {s' : MSt} {cs : List Value}
end
end Go.Proofs.YtolengkegjipaaaGreat

