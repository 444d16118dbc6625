/- Package retire: Reclaim, each step. Conditions: those that each theorem names. -/
import Derived.Test.YtolengkegjipaaaGreatKRetB
namespace Go.Proofs.YtolengkegjipaaaGreat
open Go.ChangeShapes Go.WideShapes Go.ChangeAt Go.RowKit Go.Shelf
set_option linter.unusedVariables false
attribute [local go_sem] Oper.semAt_some
section
variable {Q : Nat → Prop} {w0 w : World} {gm gp gl : Nat} {dv pv : Value} {s : MSt} {F : Nat → Int} {t ep sl ct : Int} {dn : Bool}
/-- What else a Reclaim has: the block of its Push. -/
def RcM.ownB (x : RcM) (b : Nat) : Prop := ∃ q, x.push = some q ∧ b = q.1
end
end Go.Proofs.YtolengkegjipaaaGreat


/- Package retire: the steps of Reclaim. Conditions: those that each theorem names. -/
namespace Go.Proofs.YtolengkegjipaaaGreat
open Go.ChangeShapes Go.WideShapes Go.ChangeAt Go.RowKit
set_option linter.unusedVariables false
section
variable {Q : Nat → Prop} {w0 w : World} {gm gp gl : Nat} {dv pv : Value} {s : MSt} {F : Nat → Int} {t sl ep ct : Int}
end
end Go.Proofs.YtolengkegjipaaaGreat


/- Package retire: a Reclaim's step, whatever its part. Conditions: those that each theorem names. -/
namespace Go.Proofs.YtolengkegjipaaaGreat
open Go.ChangeShapes Go.WideShapes Go.ChangeAt Go.RowKit
set_option linter.unusedVariables false
theorem IsMem.reQ {Q Q' : Nat → Prop} {w0 w : World} {gm : Nat} {dv pv : Value} {s : MSt} (h : IsMem Q w w0 w gm dv pv s) (hQ : ∀ b, Q' b → Q b) : IsMem Q' w w0 w gm dv pv s :=
  h.hold (Ext.refl w) (fun g hg => ⟨h.lt.2 g (hQ g hg), Or.inl (hQ g hg)⟩)
theorem w64_0 : W64 0 := by unfold W64; decide
theorem i64_0 : I64 0 := by unfold I64; decide
section
variable {Q : Nat → Prop} {w0 w : World} {gm gp gl : Nat} {dv pv : Value} {s : MSt} {F : Nat → Int} {t : Int} {x : RcM}
end
end Go.Proofs.YtolengkegjipaaaGreat

