/- Package epoch: what its machines do: the epoch is loaded, an announcement stored; by which epoch a thread is in. Conditions: those that each theorem names. -/
import Derived.Test.YtolengkegjipaaaGreatKFreeB
namespace Go.Proofs.YtolengkegjipaaaGreat
open Go.ChangeShapes Go.WideShapes Go.ChangeAt Go.RowKit
set_option linter.unusedVariables false
/-- The epoch behind one. -/
def next64 (x : Int) : Int := (x + 1) % 18446744073709551616
section
variable {Q : Nat → Prop} {w0 w : World} {gm gp gl : Nat} {T : TypeId} {dv pv : Value} {s : MSt} {F : Nat → Int} {t ep : Int} {dn ld : Bool} {cs : List Value}
end
end Go.Proofs.YtolengkegjipaaaGreat


/- Package epoch: machines that are made; the steps of Enter and Leave; what an Advance asks and moves. Conditions: those that each theorem names. -/
namespace Go.Proofs.YtolengkegjipaaaGreat
open Go.ChangeShapes Go.WideShapes Go.ChangeAt Go.RowKit
set_option linter.unusedVariables false
/-- The cells of an Advance. -/
def acells (gl : Nat) (t : Int) (dn ld : Bool) (ep asked : Int) (mv : Bool) : List Value := [.pointer (some ⟨gl, 0, none⟩), .int .i64 t, .bool dn, .bool ld, .int .u64 ep, .int .i64 asked, .bool mv]
section
variable {Q : Nat → Prop} {w0 w : World} {gm gp gl : Nat} {dv pv : Value} {s : MSt} {F : Nat → Int} {t ep asked : Int} {dn ld mv : Bool}
end
end Go.Proofs.YtolengkegjipaaaGreat


/- Package epoch: what an Advance asks, and moves. Conditions: those that each theorem names. -/
namespace Go.Proofs.YtolengkegjipaaaGreat
open Go.ChangeShapes Go.WideShapes Go.ChangeAt Go.RowKit
set_option linter.unusedVariables false
/-- Who is in by another epoch holds an Advance up. -/
def holds (ep v : Int) : Bool := (v != 0) && (v != next64 ep)
section
variable {Q : Nat → Prop} {w0 w : World} {gm gp gl : Nat} {dv pv : Value} {s : MSt} {F : Nat → Int} {t ep asked : Int} {dn ld mv : Bool}
end
end Go.Proofs.YtolengkegjipaaaGreat


/- Package epoch: by which epoch a thread is in; the document's word of an announcement. Conditions: those that each theorem names. -/
namespace Go.Proofs.YtolengkegjipaaaGreat
open Go.ChangeShapes Go.WideShapes Go.ChangeAt Go.RowKit
set_option linter.unusedVariables false
end Go.Proofs.YtolengkegjipaaaGreat

