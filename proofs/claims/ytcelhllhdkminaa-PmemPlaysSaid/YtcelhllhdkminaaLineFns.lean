/- What the functions of package lines answer. Conditions: those that each theorem names. -/
import Derived.Test.YtcelhllhdkminaaInts
import Derived.Test.YtcelhllhdkminaaLineMath
import Derived.Test.YtcelhllhdkminaaMem
namespace Go.Proofs.Ytcelhllhdkminaa
open Go.ChangeShapes Go.WideShapes Go.ChangeAt Go.RowKit
set_option linter.unusedVariables false
/-- A line's value. -/
def lineV (ls : List Int) : Value := .agg (ls.map (Value.int .u64)).toArray
theorem lineV8 (a b c d e f g i : Int) : lineV [a, b, c, d, e, f, g, i] = .agg #[.int .u64 a, .int .u64 b, .int .u64 c, .int .u64 d, .int .u64 e, .int .u64 f, .int .u64 g, .int .u64 i] := rfl
/-- What hands back a row of the call's own. -/
def RowBack (w0 : World) (e : TypeId) (k : IntKind) (zs : List Int) (r : Ending) (w' : World) : Prop := ∃ v, r = .returned v ∧ Row w' w0.heap.size e k v zs ∧ Ext w0 w'

theorem eight {ls : List Int} (h : ls.length = 8) : ∃ a b c d e f g i : Int, ls = [a, b, c, d, e, f, g, i] := by
  match ls, h with
  | [a, b, c, d, e, f, g, i], _ => exact ⟨a, b, c, d, e, f, g, i, rfl⟩
/-- A word of a line that is handed on by its value. -/
theorem run_index8 (a b c d e f g i : Int) (k : Nat) (hk : k < 8) (W : World) :
    (Instr.index 131 (.agg #[.int .u64 a, .int .u64 b, .int .u64 c, .int .u64 d, .int .u64 e, .int .u64 f, .int .u64 g, .int .u64 i]) (.int .i64 (k : Int))).run Try.prog W = .ok (.int .u64 ([a, b, c, d, e, f, g, i].getD k 0)) W := by
  have hu : Try.prog.underlying 131 = some (.array 8 31) := Try.underlying131
  have hs : Try.prog.cellsOf 31 = 1 := by kernel_rfl
  have hi : ∃ j, Try.prog.info? 31 = some j ∧ j.size = 1 := by
    obtain ⟨j, h, _, h1, _⟩ := info_parts word_info
    exact ⟨j, h, h1⟩
  obtain ⟨j, hj, hj1⟩ := hi
  match k, hk with
  | 0, _ => simp [Instr.index, run_underlying hu, asIntOf, sizeOf, typeInfo, hj, hj1, go_sem]
  | 1, _ => simp [Instr.index, run_underlying hu, asIntOf, sizeOf, typeInfo, hj, hj1, go_sem]
  | 2, _ => simp [Instr.index, run_underlying hu, asIntOf, sizeOf, typeInfo, hj, hj1, go_sem]
  | 3, _ => simp [Instr.index, run_underlying hu, asIntOf, sizeOf, typeInfo, hj, hj1, go_sem]
  | 4, _ => simp [Instr.index, run_underlying hu, asIntOf, sizeOf, typeInfo, hj, hj1, go_sem]
  | 5, _ => simp [Instr.index, run_underlying hu, asIntOf, sizeOf, typeInfo, hj, hj1, go_sem]
  | 6, _ => simp [Instr.index, run_underlying hu, asIntOf, sizeOf, typeInfo, hj, hj1, go_sem]
  | 7, _ => simp [Instr.index, run_underlying hu, asIntOf, sizeOf, typeInfo, hj, hj1, go_sem]
end Go.Proofs.Ytcelhllhdkminaa
