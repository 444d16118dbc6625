/- Memory: Crash, Writes; an act of layer 7 on a memory (limekilnlaw07.Do). Conditions: those that each theorem names. -/
import Derived.Test.YtolengkegjipaaaGreatKPmB
import Derived.Test.YtolengkegjipaaaGreatKRefB
import Derived.Test.YtolengkegjipaaaGreatKRefA
import Derived.Test.YtolengkegjipaaaGreatKFen
namespace Go.Proofs.YtolengkegjipaaaGreat
open Go.ChangeShapes Go.WideShapes Go.ChangeAt Go.RowKit
set_option linter.unusedVariables false
def MSt.crash (s : MSt) : MSt := { s with dev := s.dev.crashed, pas := List.replicate s.pas.length 0, last := ⟨0, 0, 0, 0, 0, false⟩ }
section
variable {Q : Nat → Prop} {wb w0 w w' : World} {gm : Nat} {dv pv : Value} {s : MSt}
end
/-- A memory's state behind an act. -/
def MSt.act (s : MSt) (k t a z x : Int) : MSt := if k = 1 then s.load t a else if k = 2 then s.store t a x else if k = 3 then s.swap t a z x else if k = 4 then s.flush t a else if k = 5 then s.fence t else if k = 6 then s.withDev (s.dev.evict a) else s.crash
section
variable {Q : Nat → Prop} {wb w0 w w' : World} {gm : Nat} {dv pv : Value} {s : MSt}
end
end Go.Proofs.YtolengkegjipaaaGreat


/- limekilnref04.MayOpen, and limekilnlaw07.Both: a memory, and the document's. Conditions: those that each theorem names. -/
namespace Go.Proofs.YtolengkegjipaaaGreat
open Go.ChangeShapes Go.WideShapes Go.ChangeAt Go.RowKit
set_option linter.unusedVariables false
/-- Both memories, apart. -/
structure BothAt (w0 w : World) (gm : Nat) (dv pv : Value) (g : Nat) (R : RefB) (rv : Value) (s : MSt) : Prop where
  mem : IsMem (rfoot g R rv) w w0 w gm dv pv s
  ref : IsRMem w0.heap.size w g R rv s
theorem IsRMem.mono {B B' g : Nat} {w : World} {R : RefB} {pv : Value} {s : MSt} (h : IsRMem B w g R pv s) (hB : B' ≤ B) : IsRMem B' w g R pv s :=
  ⟨Nat.le_trans hB h.bg, h.blk, h.pas.mono hB, h.dev.mono hB, h.pk, h.lp⟩
end Go.Proofs.YtolengkegjipaaaGreat

