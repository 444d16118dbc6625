/- The walk of FreeLists: over any ground. Conditions: those that each theorem names. -/
import Derived.Test.YtfbobdkfibhcnaaKFreeB
namespace Go.Proofs.Ytfbobdkfibhcnaa
open Go.ChangeShapes Go.WideShapes Go.ChangeAt Go.RowKit
set_option linter.unusedVariables false
theorem row_at {w : World} {B : Nat} {v : Value} {zs : List Int} (h : Row w B 3 .i64 v zs) : ∃ A c, v = .slice A zs.length c ∧ Ints w .i64 A zs ∧ zs.length ≤ 9223372036854775807 := by
  obtain ⟨A, c, e, h1, h2, hI, _, _⟩ := RowN.form (RowN.of_row h) (by decide)
  unfold maxLen at h2
  exact ⟨A, c, e, hI, by omega⟩
end Go.Proofs.Ytfbobdkfibhcnaa
