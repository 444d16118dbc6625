/- What the reference's functions of layer 2 answer: a number's bits, the divisor, what is left by dividing. Conditions: each argument lies in its type; a slice reads as the list that is named, of up to a million. -/
import Derived.Test.YtfjfeomkmhbpbaaSumFns
import Derived.Test.YtfjfeomkmhbpbaaSumDiv
import Derived.RegionTactic
namespace Go.Proofs.Ytfjfeomkmhbpbaa
open Go.ChangeShapes Go.WideShapes Go.ChangeAt Go.RowKit
set_option linter.unusedVariables false

theorem int_info : (Try.prog.info? 3).map (fun i => (i.zero, i.size, i.bytes)) = some (some (.int .i64 0), 1, 8) := by kernel_rfl

namespace SM
theorem bitsOf_take (x n k : Nat) (h : k < n) : (1 : Int) :: bitsOf x (k + 1) = ((1 : Int) :: bitsOf x k) ++ [((x / 2 ^ k % 2 : Nat) : Int)] := rfl
end SM

/-- The cells of a block, each by its number, none of them frozen. -/
def Cells (w : World) (g n : Nat) (F : Nat → Nat) : Prop := ∀ j, j < n → w.cell? ⟨g, j, none⟩ = some (.int .i64 (F j : Nat)) ∧ w.frozen? ⟨g, j, none⟩ = false
theorem Cells.drew {w : World} {g n : Nat} {F : Nat → Nat} (h : Cells w g n F) : Cells w.drew g n F := h
theorem Cells.ext {w w' : World} {g n : Nat} {F : Nat → Nat} (h : Cells w g n F) (x : Ext w w') (hg : g < w.heap.size) : Cells w' g n F := fun j hj =>
  ⟨(Below.cell x.below (by exact hg)).trans (h j hj).1, (Below.frozen x.below (by exact hg)).trans (h j hj).2⟩
theorem Cells.set {w : World} {g n : Nat} {F : Nat → Nat} (h : Cells w g n F) (i z : Nat) (hi : i < n) : Cells (w.setCell ⟨g, i, none⟩ (.int .i64 (z : Nat))) g n (fun j => if j = i then z else F j) := fun j hj => by
  refine ⟨?_, by rw [World.frozen?_setCell]; exact (h j hj).2⟩
  by_cases e : j = i
  · subst e
    show _ = some (Value.int .i64 ((if j = j then z else F j : Nat) : Int))
    rw [if_pos rfl]
    exact World.cell?_setCell_same _ _ _ (h j hj).1
  · show _ = some (Value.int .i64 ((if j = i then z else F j : Nat) : Int))
    rw [if_neg e, World.cell?_setCell_other _ _ _ _ (by intro e2; injection e2 with _ e3; exact e e3.symm)]
    exact (h j hj).1
theorem Cells.far {w : World} {g g' n i : Nat} {F : Nat → Nat} {u : Value} (h : Cells w g n F) (hne : g' ≠ g) : Cells (w.setCell ⟨g', i, none⟩ u) g n F := fun j hj =>
  ⟨by rw [World.cell?_setCell_other _ _ _ _ (by intro e2; injection e2 with e3; exact hne e3)]; exact (h j hj).1, by rw [World.frozen?_setCell]; exact (h j hj).2⟩
theorem Cells.same {w : World} {g n : Nat} {F G : Nat → Nat} (h : Cells w g n F) (e : ∀ j, j < n → F j = G j) : Cells w g n G := fun j hj => by rw [← e j hj]; exact h j hj
theorem Row.cells {w : World} {B g n c : Nat} {zs : List Int} {F : Nat → Nat} (h : Row w B 3 .i64 (.slice (some ⟨g, 0, none⟩) n c) zs) (hn : zs.length = n) (e : ∀ j, j < n → zs.getD j 0 = (F j : Nat)) : Cells w g n F := fun j hj => by
  have h' : w.ownsRow B 3 1 (.slice (some ⟨g, 0, none⟩) n c) n (zs.map (Value.int .i64)) := by rw [← hn]; rw [← hn] at h; exact h
  refine ⟨?_, h'.frozenAt j⟩
  rw [h'.cellAt j (by omega), ← e j hj]
  simp [List.getD_eq_getElem?_getD, show j < zs.length from by omega]

theorem SM.pad_get (l : List Int) (hl : Lim l 2) (m : Nat) (j : Nat) : (l ++ List.replicate m 0).getD j 0 = (((l.getD j 0).toNat : Nat) : Int) := by
  by_cases h : j < l.length
  · have := hl j h
    rw [Int.toNat_of_nonneg this.1]
    simp [List.getD_eq_getElem?_getD, List.getElem?_append_left h]
  · have e : l.getD j 0 = 0 := by simp [List.getD_eq_getElem?_getD, show l.length ≤ j from by omega]
    rw [e]
    simp [List.getD_eq_getElem?_getD, List.getElem?_append_right (show l.length ≤ j from by omega), List.getElem?_replicate]
    split <;> rfl

theorem SM.xorF_zero (l : List Int) (s : Nat) (hl : Lim l 2) (j : Nat) (_ : j < l.length + 32) : (l.getD j 0).toNat = SM.xorF s l 0 j := by
  unfold SM.xorF
  by_cases h : j < l.length
  · have := hl j h
    rw [if_neg (by omega)]; omega
  · have e : l.getD j 0 = 0 := by simp [List.getD_eq_getElem?_getD, show l.length ≤ j from by omega]
    rw [e]; simp

theorem Cells.of_block {w w' : World} {g n : Nat} {F : Nat → Nat} (h : Cells w g n F) (e : w'.heap[g]? = w.heap[g]?) : Cells w' g n F := fun j hj =>
  ⟨(World.cell?_of_block (a := ⟨g, j, none⟩) e).trans (h j hj).1, (World.frozen?_of_block (a := ⟨g, j, none⟩) e).trans (h j hj).2⟩
theorem SM.bits_lim (x n : Nat) : Lim (SM.bitsOf x n) 2 := fun j hj => by
  rw [SM.bitsOf_length] at hj
  rw [SM.bitsOf_get _ _ _ hj]
  omega

end Go.Proofs.Ytfjfeomkmhbpbaa
