/- The closed facts of the row of SeekAlone, each by itself. Conditions: none. -/
import Derived.Test.YtolengkegjipaaaGreatKBase
namespace Go.Proofs.YtolengkegjipaaaGreat
theorem and2 {a b : Bool} (h : a = true) (k : b = true) : (a && b) = true := by rw [h, k]; rfl
set_option maxHeartbeats 40000000 in
set_option maxRecDepth 100000 in
theorem seekAlone_closed : joinedFacts Tryz.pinned.checked.prog 3 Tryz.f3 Rows.seekAloneSpec Rows.seekAloneRow = true := by
  unfold joinedFacts
  repeat' (with_reducible refine and2 ?_ ?_)
  all_goals as_aux_lemma => kernel_rfl
end Go.Proofs.YtolengkegjipaaaGreat

