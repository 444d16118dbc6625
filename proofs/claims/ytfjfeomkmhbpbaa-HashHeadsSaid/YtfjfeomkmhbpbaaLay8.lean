/- The number of a word by its name, as the law asks for it. Conditions: those that each theorem names. -/
import Derived.Test.YtfjfeomkmhbpbaaLay7
namespace Go.Proofs.Ytfjfeomkmhbpbaa
open Go.ChangeShapes Go.WideShapes Go.ChangeAt Go.RowKit
set_option linter.unusedVariables false
/-- A layout's cells, by their numbers. -/
def cellsF (F : Nat → Int) : List Value := (List.range 29).map fun j => .int .i64 (F j)
theorem cellsF_at (F : Nat → Int) (j : Nat) (h : j < 29) : (cellsF F)[j]? = some (.int .i64 (F j)) := by
  unfold cellsF
  rw [List.getElem?_map, List.getElem?_range h]; rfl
theorem noughts_F : noughts = cellsF (fun _ => 0) := rfl
structure RowOk (F : Nat → Int) (r : Nat) : Prop where
  a : Small (F r)
  d : -1000 ≤ F (r + 1) ∧ F (r + 1) ≤ 1000
  m : F (r + 2) ≤ 65536
/-- The numbers lie in bounds, so that none is cut. -/
structure Okay (F : Nat → Int) : Prop where
  v0 : 0 ≤ F 4
  v1 : F 4 ≤ 1000000
  r9 : RowOk F 9
  r12 : RowOk F 12
  r15 : RowOk F 15
  r18 : RowOk F 18
  r23 : RowOk F 23
  r26 : RowOk F 26
  c2 : F 2 ≤ 1000
  d0 : 0 ≤ F 19
  d1 : F 19 ≤ 1000
  m0 : 0 ≤ F 20
  dm : Small (F 19 * F 20)
theorem okay0 : Okay (fun _ => 0) := by
  have hr : ∀ r, RowOk (fun _ => 0) r := fun r => ⟨⟨by decide, by decide⟩, ⟨by decide, by decide⟩, by decide⟩
  exact ⟨by decide, by decide, hr 9, hr 12, hr 15, hr 18, hr 23, hr 26, by decide, by decide, by decide, by decide, ⟨by decide, by decide⟩⟩
/-- The number of a word by its kind and numbers. -/
def toldF (F : Nat → Int) (k a b : Int) : Int := if k = 2 then F 6 else if k = 3 then F 7 else if k = 4 then F 8 else if k = 5 then wordAt (F 4) (F 9) (F 10) (F 11) a 0 else if k = 6 then wordAt (F 4) (F 12) (F 13) (F 14) a 0 else if k = 7 then wordAt (F 4) (F 12) (F 13) (F 14) a 1 else if k = 8 then logAt (F 4) (F 15) (F 16) (F 17) (F 2) a b else if k = 9 then wordAt (F 4) (F 18) (F 19) (F 20) a 0 else if k = 10 then wordAt (F 4) (F 18) (F 19) (F 20) a 1 else if k = 11 then wordAt (F 4) (F 18) (F 19) (F 20) a 2 else if k = 12 then wordAt (F 4) (F 18) (F 19) (F 20) a 3 else if k = 13 then wordAt (F 4) (F 18) (F 19) (F 20) a 4 else if k = 14 then F 21 else if k = 15 then F 22 else if k = 16 then wordAt (F 4) (F 23) (F 24) (F 25) a 0 else wordAt (F 4) (F 26) (F 27) (F 28) a 0
end Go.Proofs.Ytfjfeomkmhbpbaa
