/- The page's example of layer 5; the cells of lines and configs behind calls. Conditions: those that each theorem names. -/
import Derived.Test.YtfjfeomkmhbpbaaSuper4
namespace Go.Proofs.Ytfjfeomkmhbpbaa
open Go.ChangeShapes Go.WideShapes Go.ChangeAt Go.RowKit
set_option linter.unusedVariables false

/-- The cells of a config at a block. -/
def C4 (w : World) (g : Nat) (a b c d : Int) : Prop := w.cell? ⟨g, 0, none⟩ = some (.int .i64 a) ∧ w.cell? ⟨g, 1, none⟩ = some (.int .i64 b) ∧ w.cell? ⟨g, 2, none⟩ = some (.int .i64 c) ∧ w.cell? ⟨g, 3, none⟩ = some (.int .i64 d)
/-- The cells of a line at a block. -/
def C8 (w : World) (g : Nat) (x0 x1 x2 x3 x4 x5 x6 x7 : Int) : Prop := w.cell? ⟨g, 0, none⟩ = some (.int .u64 x0) ∧ w.cell? ⟨g, 1, none⟩ = some (.int .u64 x1) ∧ w.cell? ⟨g, 2, none⟩ = some (.int .u64 x2) ∧ w.cell? ⟨g, 3, none⟩ = some (.int .u64 x3) ∧ w.cell? ⟨g, 4, none⟩ = some (.int .u64 x4) ∧ w.cell? ⟨g, 5, none⟩ = some (.int .u64 x5) ∧ w.cell? ⟨g, 6, none⟩ = some (.int .u64 x6) ∧ w.cell? ⟨g, 7, none⟩ = some (.int .u64 x7)
theorem C4.ext {w w' : World} {g : Nat} {a b c d : Int} (h : C4 w g a b c d) (x : Ext w w') (hg : g < w.heap.size) : C4 w' g a b c d := by
  obtain ⟨h0, h1, h2, h3⟩ := h
  exact ⟨(Below.cell x.below (by exact hg)).trans h0, (Below.cell x.below (by exact hg)).trans h1, (Below.cell x.below (by exact hg)).trans h2, (Below.cell x.below (by exact hg)).trans h3⟩
theorem C8.ext {w w' : World} {g : Nat} {x0 x1 x2 x3 x4 x5 x6 x7 : Int} (h : C8 w g x0 x1 x2 x3 x4 x5 x6 x7) (x : Ext w w') (hg : g < w.heap.size) : C8 w' g x0 x1 x2 x3 x4 x5 x6 x7 := by
  obtain ⟨h0, h1, h2, h3, h4, h5, h6, h7⟩ := h
  exact ⟨(Below.cell x.below (by exact hg)).trans h0, (Below.cell x.below (by exact hg)).trans h1, (Below.cell x.below (by exact hg)).trans h2, (Below.cell x.below (by exact hg)).trans h3, (Below.cell x.below (by exact hg)).trans h4, (Below.cell x.below (by exact hg)).trans h5, (Below.cell x.below (by exact hg)).trans h6, (Below.cell x.below (by exact hg)).trans h7⟩
theorem C4.new (w : World) (a b c d : Int) (t : TypeId) : C4 (w.alloc (.cells #[.int .i64 a, .int .i64 b, .int .i64 c, .int .i64 d] t)) w.heap.size a b c d := by
  unfold C4
  refine ⟨?_, ?_, ?_, ?_⟩ <;> (rw [cell_of_row _ _ _ _ _ _ (heap_alloc_new w _)]; rfl)
theorem C8.new (w : World) (x0 x1 x2 x3 x4 x5 x6 x7 : Int) (t : TypeId) : C8 (w.alloc (.cells #[.int .u64 x0, .int .u64 x1, .int .u64 x2, .int .u64 x3, .int .u64 x4, .int .u64 x5, .int .u64 x6, .int .u64 x7] t)) w.heap.size x0 x1 x2 x3 x4 x5 x6 x7 := by
  unfold C8
  refine ⟨?_, ?_, ?_, ?_, ?_, ?_, ?_, ?_⟩ <;> (rw [cell_of_row _ _ _ _ _ _ (heap_alloc_new w _)]; rfl)
theorem C4.alloc {w : World} {g : Nat} {a b c d : Int} (h : C4 w g a b c d) (hg : g < w.heap.size) (o : Obj) : C4 (w.alloc o) g a b c d := h.ext ((Ext.refl w).alloc o) hg
theorem C8.alloc {w : World} {g : Nat} {x0 x1 x2 x3 x4 x5 x6 x7 : Int} (h : C8 w g x0 x1 x2 x3 x4 x5 x6 x7) (hg : g < w.heap.size) (o : Obj) : C8 (w.alloc o) g x0 x1 x2 x3 x4 x5 x6 x7 := h.ext ((Ext.refl w).alloc o) hg
theorem C4.far {w : World} {g g' j : Nat} {a b c d : Int} {u : Value} (h : C4 w g a b c d) (hne : g' ≠ g) : C4 (w.setCell ⟨g', j, none⟩ u) g a b c d := by
  obtain ⟨h0, h1, h2, h3⟩ := h
  refine ⟨?_, ?_, ?_, ?_⟩ <;> (rw [World.cell?_setCell_other _ _ _ _ (by intro e2; injection e2 with e3; exact hne e3)]; assumption)
theorem C8.far {w : World} {g g' j : Nat} {x0 x1 x2 x3 x4 x5 x6 x7 : Int} {u : Value} (h : C8 w g x0 x1 x2 x3 x4 x5 x6 x7) (hne : g' ≠ g) : C8 (w.setCell ⟨g', j, none⟩ u) g x0 x1 x2 x3 x4 x5 x6 x7 := by
  obtain ⟨h0, h1, h2, h3, h4, h5, h6, h7⟩ := h
  refine ⟨?_, ?_, ?_, ?_, ?_, ?_, ?_, ?_⟩ <;> (rw [World.cell?_setCell_other _ _ _ _ (by intro e2; injection e2 with e3; exact hne e3)]; assumption)
end Go.Proofs.Ytfjfeomkmhbpbaa
