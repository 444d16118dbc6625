/- What each function of package sum answers: the state behind a bit, a byte, a word, bytes, words. Conditions: each argument lies in its type; a slice reads as the list that is named. -/
import Derived.Test.YtfjfeomkmhbpbaaInts
import Derived.Test.YtfjfeomkmhbpbaaSumMath
import Derived.Lib.SlBytesConst
namespace Go.Proofs.Ytfjfeomkmhbpbaa
open Go.ChangeShapes Go.WideShapes Go.ChangeAt Go.RowKit
set_option linter.unusedVariables false

theorem reti {k : IntKind} {a b : Int} (h : a = b) : Ending.returned (.int k a) = .returned (.int k b) := by rw [h]

theorem hello : SM.sumOf [49, 50, 51, 52, 53, 54, 55, 56, 57] = 3808858755 := by decide +kernel
theorem hello_cells (w : World) : Ints (w.alloc (.cells #[.int .u8 49, .int .u8 50, .int .u8 51, .int .u8 52, .int .u8 53, .int .u8 54, .int .u8 55, .int .u8 56, .int .u8 57] 5 (9, 10))) .u8 (some ⟨w.heap.size, 0, none⟩) [49, 50, 51, 52, 53, 54, 55, 56, 57] := fun _ => by
  refine ⟨_, rfl, by simp, fun j hj => ?_⟩
  have hj' : j < 9 := hj
  have h : (⟨w.heap.size, 0, none⟩ : Addr).add j = ⟨w.heap.size, j, none⟩ := by unfold Addr.add; split <;> simp_all
  rw [h, cell_of_row _ _ _ _ _ _ (heap_alloc_new w _)]
  match j, hj' with
  | 0, _ => rfl
  | 1, _ => rfl
  | 2, _ => rfl
  | 3, _ => rfl
  | 4, _ => rfl
  | 5, _ => rfl
  | 6, _ => rfl
  | 7, _ => rfl
  | 8, _ => rfl
theorem hello_lim : Lim [49, 50, 51, 52, 53, 54, 55, 56, 57] 256 := by
  intro j hj
  have hj' : j < 9 := hj
  match j, hj' with
  | 0, _ => decide
  | 1, _ => decide
  | 2, _ => decide
  | 3, _ => decide
  | 4, _ => decide
  | 5, _ => decide
  | 6, _ => decide
  | 7, _ => decide
  | 8, _ => decide
end Go.Proofs.Ytfjfeomkmhbpbaa
