/- Package epoch: what its machines do: the epoch is loaded, an announcement stored; by which epoch a thread is in. Conditions: those that each theorem names. -/
import Derived.Test.YtbicloceaddinaaGreatKFreeB
namespace Go.Proofs.YtbicloceaddinaaGreat
open Go.ChangeShapes Go.WideShapes Go.ChangeAt Go.RowKit
set_option linter.unusedVariables false
/-- The epoch behind one. -/
def next64 (x : Int) : Int := (x + 1) % 18446744073709551616
theorem tEpoch_m1 {F : Nat → Int} (gl : Nat) (w : World) (hl : Blk w gl 173 (cellsF F)) (hF : F 21 = -1) :
    Calls Tryz.prog 132 #[.pointer (some ⟨gl, 0, none⟩)] w fun e w' => e = .returned (.int .i64 (-1)) ∧ Ext w w' :=
  tEpoch_any (some ⟨gl, 0, none⟩) (cellsF F) (-1) w (Or.inl ⟨gl, rfl, hl⟩) (by rw [cellsF_at F 21 (by decide), hF])
section
variable {Q : Nat → Prop} {w0 w : World} {gm gp gl : Nat} {T : TypeId} {dv pv : Value} {s : MSt} {F : Nat → Int} {t ep : Int} {dn ld : Bool} {cs : List Value}
end
end Go.Proofs.YtbicloceaddinaaGreat


/- Package epoch: machines that are made; the steps of Enter and Leave; what an Advance asks and moves. Conditions: those that each theorem names. -/
namespace Go.Proofs.YtbicloceaddinaaGreat
open Go.ChangeShapes Go.WideShapes Go.ChangeAt Go.RowKit
set_option linter.unusedVariables false
/-- The cells of an Advance. -/
def acells (gl : Nat) (t : Int) (dn ld : Bool) (ep asked : Int) (mv : Bool) : List Value := [.pointer (some ⟨gl, 0, none⟩), .int .i64 t, .bool dn, .bool ld, .int .u64 ep, .int .i64 asked, .bool mv]
def NewE (T : TypeId) (w : World) (cs : List Value) (e : Ending) (w' : World) : Prop := ∃ g, e = .returned (.pointer (some ⟨g, 0, none⟩)) ∧ w.heap.size ≤ g ∧ Blk w' g T cs ∧ Ext w w'
section
variable {Q : Nat → Prop} {w0 w : World} {gm gp gl : Nat} {dv pv : Value} {s : MSt} {F : Nat → Int} {t ep asked : Int} {dn ld mv : Bool}
end
end Go.Proofs.YtbicloceaddinaaGreat


/- Package epoch: what an Advance asks, and moves. Conditions: those that each theorem names. -/
namespace Go.Proofs.YtbicloceaddinaaGreat
open Go.ChangeShapes Go.WideShapes Go.ChangeAt Go.RowKit
set_option linter.unusedVariables false
/-- Who is in by another epoch holds an Advance up. -/
def holds (ep v : Int) : Bool := (v != 0) && (v != next64 ep)
section
variable {Q : Nat → Prop} {w0 w : World} {gm gp gl : Nat} {dv pv : Value} {s : MSt} {F : Nat → Int} {t ep asked : Int} {dn ld mv : Bool}
end
end Go.Proofs.YtbicloceaddinaaGreat


/- Package epoch: by which epoch a thread is in; the document's word of an announcement. Conditions: those that each theorem names. -/
namespace Go.Proofs.YtbicloceaddinaaGreat
open Go.ChangeShapes Go.WideShapes Go.ChangeAt Go.RowKit
set_option linter.unusedVariables false
end Go.Proofs.YtbicloceaddinaaGreat

