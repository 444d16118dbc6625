/- limekilnref04.MayOpen, and limekilnlaw07.Both: a memory, and the document's. Conditions: those that each theorem names. -/
import Derived.Test.YtndplpfbohigpaaGreatKRefA
import Derived.Test.YtndplpfbohigpaaGreatKFen
namespace Go.Proofs.YtndplpfbohigpaaGreat
open Go.ChangeShapes Go.WideShapes Go.ChangeAt Go.RowKit
set_option linter.unusedVariables false
/-- Both memories, apart. -/
structure BothAt (w0 w : World) (gm : Nat) (dv pv : Value) (g : Nat) (R : RefB) (rv : Value) (s : MSt) : Prop where
  mem : IsMem (rfoot g R rv) w w0 w gm dv pv s
  ref : IsRMem w0.heap.size w g R rv s
def BothNew (w : World) (s : MSt) (e : Ending) (w' : World) : Prop := ∃ gm dv pv g R rv, e = .returned (.tuple #[.pointer (some ⟨gm, 0, none⟩), .pointer (some ⟨g, 0, none⟩), .bool true]) ∧ BothAt w w' gm dv pv g R rv s
theorem IsRMem.mono {B B' g : Nat} {w : World} {R : RefB} {pv : Value} {s : MSt} (h : IsRMem B w g R pv s) (hB : B' ≤ B) : IsRMem B' w g R pv s :=
  ⟨Nat.le_trans hB h.bg, h.blk, h.pas.mono hB, h.dev.mono hB, h.pk, h.lp⟩
def NoBoth : Value := .tuple #[.pointer none, .pointer none, .bool false]
end Go.Proofs.YtndplpfbohigpaaGreat
