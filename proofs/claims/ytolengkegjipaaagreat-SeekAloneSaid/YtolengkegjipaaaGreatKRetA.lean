/- Package retire: where entries lie; what puts an entry, and lets it last. Conditions: those that each theorem names. -/
import Derived.Test.YtolengkegjipaaaGreatKEpA
import Derived.Test.YtolengkegjipaaaGreatKPmB
import Derived.Test.YtolengkegjipaaaGreatKPk
import Derived.Test.YtolengkegjipaaaGreatKEpB
import Derived.Lib.QuietBelow
namespace Go.Proofs.YtolengkegjipaaaGreat
open Go.ChangeShapes Go.WideShapes Go.ChangeAt Go.RowKit
set_option linter.unusedVariables false
section
variable {Q : Nat → Prop} {w0 w : World} {gm gp gl : Nat} {T : TypeId} {dv pv : Value} {s : MSt} {F : Nat → Int} {t place : Int} {dn : Bool} {cs : List Value}
end
end Go.Proofs.YtolengkegjipaaaGreat


/- Package retire: what each step of its machines leaves. Conditions: those that each theorem names. -/
namespace Go.Proofs.YtolengkegjipaaaGreat
open Go.ChangeShapes Go.WideShapes Go.ChangeAt Go.RowKit
set_option linter.unusedVariables false
/-- A Reserve: the place that it looks at, its part, whether it is done. -/
structure RvM where
  place : Int
  part : Int
  dn : Bool
deriving DecidableEq
def RvM.cells (x : RvM) (gl : Nat) (t slot : Int) : List Value := [.pointer (some ⟨gl, 0, none⟩), .int .i64 t, .bool x.dn, .int .i64 x.place, .int .i64 x.part, .int .i64 slot]
structure RvM.Wf (L : Int) (x : RvM) : Prop where
  part : (x.part = 0 ∨ x.part = 1 ∨ x.part = 2 ∨ x.part = 3) ∨ x.dn = true
  place : 0 ≤ x.place ∧ x.place ≤ L
  lt : x.dn = false → x.place < L
/-- A Stamp: its part, the epoch that was loaded, whether it is done. -/
structure StM where
  part : Int
  ep : Int
  dn : Bool
deriving DecidableEq
def StM.cells (x : StM) (gl : Nat) (t place slot : Int) : List Value := [.pointer (some ⟨gl, 0, none⟩), .int .i64 t, .bool x.dn, .int .i64 place, .int .i64 x.part, .int .i64 slot, .int .u64 x.ep]
structure StM.Wf (x : StM) : Prop where
  part : (x.part = 0 ∨ x.part = 1 ∨ x.part = 2 ∨ x.part = 3) ∨ x.dn = true
  ep : W64 x.ep
/-- A Reclaim: what it has, and the Push that it has under way. -/
structure RcM where
  dn : Bool
  part : Int
  ep : Int
  place : Int
  slot : Int
  push : Option (Nat × PMs)
  count : Int
def RcM.ptr (x : RcM) : Option Addr := x.push.map fun q => ⟨q.1, 0, none⟩
def RcM.cells (x : RcM) (gl : Nat) (t : Int) : List Value := [.pointer (some ⟨gl, 0, none⟩), .int .i64 t, .bool x.dn, .int .i64 x.part, .int .u64 x.ep, .int .i64 x.place, .int .i64 x.slot, .pointer x.ptr, .int .i64 x.count]
structure RcM.Wf (L : Int) (x : RcM) : Prop where
  part : (x.part = 0 ∨ x.part = 1 ∨ x.part = 2 ∨ x.part = 3) ∨ x.dn = true
  ep : W64 x.ep
  place : 0 ≤ x.place ∧ x.place ≤ L
  lt : x.dn = false → x.place < L
  slot : I64 x.slot
  nopush : x.dn = false → x.part ≠ 3 → x.push = none
  hpush : x.dn = false → x.part = 3 → ∃ g y, x.push = some (g, y) ∧ y.Wf ∧ y.dn = false ∧ y.y = x.slot
  nodn : x.dn = true → x.push = none
  count : 0 ≤ x.count ∧ x.count ≤ x.place
end Go.Proofs.YtolengkegjipaaaGreat


/- Package retire: machines that are made, and what they tell; the entries that are yielded. Conditions: those that each theorem names. -/
namespace Go.Proofs.YtolengkegjipaaaGreat
open Go.ChangeShapes Go.WideShapes Go.ChangeAt Go.RowKit Go.Shelf
set_option linter.unusedVariables false
end Go.Proofs.YtolengkegjipaaaGreat

