/- The closed facts of the row of ArenaMany, each by itself. Conditions: none. -/
import Derived.Test.YtfjfeomkmhbpbaaGreatKBase
namespace Go.Proofs.YtfjfeomkmhbpbaaGreat
theorem and2 {a b : Bool} (h : a = true) (k : b = true) : (a && b) = true := by rw [h, k]; rfl
set_option maxHeartbeats 40000000 in
set_option maxRecDepth 100000 in
theorem arenaMany_closed : joinedFacts Tryz.pinned.checked.prog 7 Tryz.f7 Rows.arenaManySpec Rows.arenaManyRow = true := by
  unfold joinedFacts
  repeat' (with_reducible refine and2 ?_ ?_)
  all_goals as_aux_lemma => kernel_rfl
end Go.Proofs.YtfjfeomkmhbpbaaGreat

