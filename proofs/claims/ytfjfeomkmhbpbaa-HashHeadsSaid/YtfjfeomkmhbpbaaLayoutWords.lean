/- Where everything lies, word by word: the walk. Conditions: those that each theorem names. -/
import Derived.Test.YtfjfeomkmhbpbaaFew
import Derived.Test.YtfjfeomkmhbpbaaNames3
import Derived.Lib.QuietBelow
import Derived.BigQuiet
import Derived.IntWalk
namespace Go.Proofs.Ytfjfeomkmhbpbaa
open Go.ChangeShapes Go.WideShapes Go.ChangeAt Go.RowKit
set_option linter.unusedVariables false
/-- The cells of the name at a place of a row. -/
theorem Names.cells {w : World} {B g n c : Nat} {L : List NM.Nm} (h : Names w B (.slice (some ⟨g, 0, none⟩) n c) L) (hn : L.length = n) (i : Nat) (hi : i < n) :
    w.cell? ⟨g, 3 * i, none⟩ = some (.int .i64 (L.getD i (0, 0, 0)).1) ∧ w.cell? ⟨g, 3 * i + 1, none⟩ = some (.int .i64 (L.getD i (0, 0, 0)).2.1) ∧ w.cell? ⟨g, 3 * i + 2, none⟩ = some (.int .i64 (L.getD i (0, 0, 0)).2.2) := by
  subst hn
  obtain ⟨e1, e2, e3⟩ := NM.flat_at L i hi
  refine ⟨?_, ?_, ?_⟩
  · rw [← e1]; exact RowN.cell h (by omega)
  · rw [← e2]; exact RowN.cell h (by omega)
  · rw [← e3]; exact RowN.cell h (by omega)
theorem Names.at_ {w : World} {B : Nat} {v : Value} {L : List NM.Nm} (h : Names w B v L) (n : Nat) (hn : L.length = n) (h0 : 0 < n) : ∃ g c, v = .slice (some ⟨g, 0, none⟩) n c ∧ n ≤ c ∧ g < w.heap.size := by
  subst hn
  obtain ⟨g, c, hv, hc, _, _, hg⟩ := RowN.at_ h h0
  exact ⟨g, c, hv, hc, hg⟩
end Go.Proofs.Ytfjfeomkmhbpbaa
