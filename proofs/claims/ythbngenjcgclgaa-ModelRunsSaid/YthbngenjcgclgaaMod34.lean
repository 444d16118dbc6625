/- Layer 8: limekilnlaw08.apart. Conditions: those that each theorem names. -/
import Derived.Test.YthbngenjcgclgaaMod33
namespace Go.Proofs.Ythbngenjcgclgaa
open Go.ChangeShapes Go.WideShapes Go.ChangeAt Go.RowKit
set_option linter.unusedVariables false
def partL : List Int := [0, 1, 1, 2, 2, 2, 3, 3, 3]
def looksB (k : Int) : Bool := k == 5 || k == 7
def kindB (k : Int) : Bool := decide (1 ≤ k) && decide (k ≤ 8)
/-- Are two operations of unlike parts, or keys, or does either only look? -/
def apartB (ka a kb b : Int) : Bool :=
  if kindB ka = true ∧ kindB kb = true ∧ partL.getD ka.toNat 0 = partL.getD kb.toNat 0 then (decide (1 < partL.getD ka.toNat 0) && (a != b)) || (looksB ka && looksB kb) else true
end Go.Proofs.Ythbngenjcgclgaa
