/- What the laws of lines share: two rows compared; a line's cells kept. Conditions: those that each theorem names. -/
import Derived.Test.YtolengkegjipaaaGreatLineFns6
import Derived.Test.YtolengkegjipaaaGreatViews
import Derived.Deep.DeepCutAuto
namespace Go.Proofs.YtolengkegjipaaaGreat
open Go.ChangeShapes Go.WideShapes Go.ChangeAt Go.RowKit
set_option linter.unusedVariables false
theorem Cells8.ext {w w' : World} {g : Nat} {k : IntKind} {a b c d e f i j : Int} (h : Cells8 w ⟨g, 0, none⟩ k a b c d e f i j) (hg : g < w.heap.size) (x : Ext w w') : Cells8 w' ⟨g, 0, none⟩ k a b c d e f i j := by
  have hc : ∀ o, w'.cell? ⟨g, o, none⟩ = w.cell? ⟨g, o, none⟩ := fun o => Below.cell x.below hg
  obtain ⟨h0, h1, h2, h3, h4, h5, h6, h7⟩ := h
  exact ⟨(hc 0).trans h0, (hc _).trans h1, (hc _).trans h2, (hc _).trans h3, (hc _).trans h4, (hc _).trans h5, (hc _).trans h6, (hc _).trans h7⟩
theorem Cells8.new (w : World) (t : TypeId) (a b c d e f i j : Int) : Cells8 (w.alloc (.cells #[.int .u64 a, .int .u64 b, .int .u64 c, .int .u64 d, .int .u64 e, .int .u64 f, .int .u64 i, .int .u64 j] t)) ⟨w.heap.size, 0, none⟩ .u64 a b c d e f i j := by
  have h : ∀ o, (w.alloc (.cells #[.int .u64 a, .int .u64 b, .int .u64 c, .int .u64 d, .int .u64 e, .int .u64 f, .int .u64 i, .int .u64 j] t)).cell? ⟨w.heap.size, o, none⟩ = (#[Value.int .u64 a, .int .u64 b, .int .u64 c, .int .u64 d, .int .u64 e, .int .u64 f, .int .u64 i, .int .u64 j])[o]? := fun o => cell_of_row _ _ _ _ _ _ (heap_alloc_new w _)
  exact ⟨h 0, h 1, h 2, h 3, h 4, h 5, h 6, h 7⟩
end Go.Proofs.YtolengkegjipaaaGreat

