/-
  No cell of these rows narrows 'for every input' (looked for: loops, veiled, ifaces, maps, wideKeys, modest, calm, conditions, laid).
  DERIVED. THE GIVEN ROWS OF THIS SEAT. 4 by the template 'for every input the law returns true; each argument reads behind the call as it read before'; 0 by the template 'total and deterministic' (their statements: YtibeeobhpdallaaTotals.lean).
  GIVEN WITH THE SEED: the statements are not yours to turn. If you find one false, say at which input.
  Laid BY PROGRAM, IN A SANDBOX (cutbox-rows.mjs): the forced cells as the released guide's own fill.sh prints them over the translation 15883f1913bcde48… (all of the seat's roots in one cut). By AI agents, Wed Nov 11 2026. No macro, syntax, notation, axiom, sorry.
-/
import Derived.Test.YtibeeobhpdallaaChecked
import GoSem.Claim
import GoSem.ClaimJoined
import GoSem.ClaimMapViews
import Derived.JoinedTies
import Derived.KernelRfl
namespace Go.Proofs.Ytibeeobhpdallaa
/- THE CELL 'sum', in the pinned program and in every row, IS THE sha256 OF THE DUMP (.gsa) THAT YtibeeobhpdallaaProg.lean LOADS. Nothing in Lean hashes anything: it is a label: what it is worth is what the hold of that sum in a sandbox is worth. -/
noncomputable def Try.pinned : Pinned := { name := "ytibeeobhpdallaa", sum := "15883f1913bcde48e0a9926301619977eac0d2e3eb16f457a220f335c48b8708", checked := Try.checked }
namespace Rows
def none {H : Type} : Left H := { results := [], args := [] }

/-- 'limekilnlaw04.PdevPlays': WHATEVER THE INPUT: true; the input reads as it did. -/
def pdevPlaysSpec : ChangeSpec := { name := "pdevPlays", fn := fun _ => fun
  | [d1, d2, d3] => { results := [.lit (.bool true)], args := [d1, d2, d3] }
  | _ => none }
def pdevPlaysRow : OpenClaim := { program := "ytibeeobhpdallaa", sum := "15883f1913bcde48e0a9926301619977eac0d2e3eb16f457a220f335c48b8708", func := "limekiln/limekilnlaw04.PdevPlays", spec := "pdevPlays", inPlace := ["slices.overlaps[int]"], unfollowed := true, recurses := true, apart := false }
def PdevPlaysSaid : Prop := pdevPlaysRow.holds Try.pinned (OpenSpec.ofChange pdevPlaysSpec)

/-- ITS FALSE NEIGHBOUR: 'it returns false'. Refute it at one input. -/
def pdevPlaysWrong : ChangeSpec := { name := "pdevPlays", fn := fun _ => fun
  | [d1, d2, d3] => { results := [.lit (.bool false)], args := [d1, d2, d3] }
  | _ => none }
def PdevPlaysWrongFalsely : Prop := pdevPlaysRow.holds Try.pinned (OpenSpec.ofChange pdevPlaysWrong)

/-- 'limekilnlaw04.PdevNew': WHATEVER THE INPUT: true; the input reads as it did. -/
def pdevNewSpec : ChangeSpec := { name := "pdevNew", fn := fun _ => fun
  | [d1, d2] => { results := [.lit (.bool true)], args := [d1, d2] }
  | _ => none }
def pdevNewRow : OpenClaim := { program := "ytibeeobhpdallaa", sum := "15883f1913bcde48e0a9926301619977eac0d2e3eb16f457a220f335c48b8708", func := "limekiln/limekilnlaw04.PdevNew", spec := "pdevNew", inPlace := ["slices.overlaps[int]"], apart := false }
def PdevNewSaid : Prop := pdevNewRow.holds Try.pinned (OpenSpec.ofChange pdevNewSpec)

/-- ITS FALSE NEIGHBOUR: 'it returns false'. Refute it at one input. -/
def pdevNewWrong : ChangeSpec := { name := "pdevNew", fn := fun _ => fun
  | [d1, d2] => { results := [.lit (.bool false)], args := [d1, d2] }
  | _ => none }
def PdevNewWrongFalsely : Prop := pdevNewRow.holds Try.pinned (OpenSpec.ofChange pdevNewWrong)

/-- 'limekilnlaw04.PdevOnce': WHATEVER THE INPUT: true; the input reads as it did. -/
def pdevOnceSpec : ChangeSpec := { name := "pdevOnce", fn := fun _ => fun
  | [d1, d2] => { results := [.lit (.bool true)], args := [d1, d2] }
  | _ => none }
def pdevOnceRow : OpenClaim := { program := "ytibeeobhpdallaa", sum := "15883f1913bcde48e0a9926301619977eac0d2e3eb16f457a220f335c48b8708", func := "limekiln/limekilnlaw04.PdevOnce", spec := "pdevOnce", inPlace := ["slices.overlaps[int]"], unfollowed := true, recurses := true, apart := false }
def PdevOnceSaid : Prop := pdevOnceRow.holds Try.pinned (OpenSpec.ofChange pdevOnceSpec)

/-- ITS FALSE NEIGHBOUR: 'it returns false'. Refute it at one input. -/
def pdevOnceWrong : ChangeSpec := { name := "pdevOnce", fn := fun _ => fun
  | [d1, d2] => { results := [.lit (.bool false)], args := [d1, d2] }
  | _ => none }
def PdevOnceWrongFalsely : Prop := pdevOnceRow.holds Try.pinned (OpenSpec.ofChange pdevOnceWrong)

/-- 'limekilnlaw04.PdevFences': WHATEVER THE INPUT: true; the input reads as it did. -/
def pdevFencesSpec : ChangeSpec := { name := "pdevFences", fn := fun _ => fun
  | [d1, d2, d3] => { results := [.lit (.bool true)], args := [d1, d2, d3] }
  | _ => none }
def pdevFencesRow : OpenClaim := { program := "ytibeeobhpdallaa", sum := "15883f1913bcde48e0a9926301619977eac0d2e3eb16f457a220f335c48b8708", func := "limekiln/limekilnlaw04.PdevFences", spec := "pdevFences", inPlace := ["slices.overlaps[int]"], unfollowed := true, recurses := true, apart := false }
def PdevFencesSaid : Prop := pdevFencesRow.holds Try.pinned (OpenSpec.ofChange pdevFencesSpec)

/-- ITS FALSE NEIGHBOUR: 'it returns false'. Refute it at one input. -/
def pdevFencesWrong : ChangeSpec := { name := "pdevFences", fn := fun _ => fun
  | [d1, d2, d3] => { results := [.lit (.bool false)], args := [d1, d2, d3] }
  | _ => none }
def PdevFencesWrongFalsely : Prop := pdevFencesRow.holds Try.pinned (OpenSpec.ofChange pdevFencesWrong)

/- THE SECOND FORM. 'bulk': how many values and letters a reading holds, each counted each time it is reached (what is shared counts as often as it is met; a slice's spare places count too). A statement '..UptoSaid' is the law's where the arguments, and the package variables that the reading takes, are together of bulk at most 1048576: NARROWER than '..Said'. Prove '..Said' where nothing that the law and all that it calls make is longer than what came in: it says more and counts as full. Else prove '..UptoSaid'. A law counts once. -/
mutual
def uptoBulk {H : Type} : DataW H → Nat
  | .lit (.string bytes) => bytes.length + 1
  | .lit _ => 1
  | .nil => 1
  | .ptr d => uptoBulk d + 1
  | .slice elems spare => uptoBulkAll elems + uptoBulkAll spare + 1
  | .agg parts => uptoBulkAll parts + 1
  | .iface _ d => uptoBulk d + 1
  | .map entries => uptoBulkEntries entries + 1
  | .held _ => 1
def uptoBulkAll {H : Type} : List (DataW H) → Nat
  | [] => 0
  | d :: r => uptoBulk d + uptoBulkAll r
def uptoBulkEntries {H : Type} : List (Lit × DataW H) → Nat
  | [] => 0
  | x :: r => uptoBulkEntry x + uptoBulkEntries r
def uptoBulkEntry {H : Type} : Lit × DataW H → Nat
  | (.string bytes, d) => bytes.length + uptoBulk d + 1
  | (_, d) => uptoBulk d + 1
 end
def uptoSmall : (H : Type) → List (DataW H) → Bool := fun _ ds => decide (uptoBulkAll ds ≤ 1048576)
def OpenSpec.upto (s : _root_.Go.ChangeSpec) : _root_.Go.OpenSpec := { _root_.Go.OpenSpec.ofChange s with cond := some uptoSmall }

/-- 'limekilnlaw04.PdevPlays', WHERE WHAT IT READS IS OF BULK AT MOST 1048576: true; the input reads as it did. -/
def pdevPlaysUptoRow : OpenClaim := { program := "ytibeeobhpdallaa", sum := "15883f1913bcde48e0a9926301619977eac0d2e3eb16f457a220f335c48b8708", func := "limekiln/limekilnlaw04.PdevPlays", spec := "pdevPlays", inPlace := ["slices.overlaps[int]"], unfollowed := true, recurses := true, apart := false, narrowed := true }
def PdevPlaysUptoSaid : Prop := pdevPlaysUptoRow.holds Try.pinned (OpenSpec.upto pdevPlaysSpec)

/-- 'limekilnlaw04.PdevNew', WHERE WHAT IT READS IS OF BULK AT MOST 1048576: true; the input reads as it did. -/
def pdevNewUptoRow : OpenClaim := { program := "ytibeeobhpdallaa", sum := "15883f1913bcde48e0a9926301619977eac0d2e3eb16f457a220f335c48b8708", func := "limekiln/limekilnlaw04.PdevNew", spec := "pdevNew", inPlace := ["slices.overlaps[int]"], apart := false, narrowed := true }
def PdevNewUptoSaid : Prop := pdevNewUptoRow.holds Try.pinned (OpenSpec.upto pdevNewSpec)

/-- 'limekilnlaw04.PdevOnce', WHERE WHAT IT READS IS OF BULK AT MOST 1048576: true; the input reads as it did. -/
def pdevOnceUptoRow : OpenClaim := { program := "ytibeeobhpdallaa", sum := "15883f1913bcde48e0a9926301619977eac0d2e3eb16f457a220f335c48b8708", func := "limekiln/limekilnlaw04.PdevOnce", spec := "pdevOnce", inPlace := ["slices.overlaps[int]"], unfollowed := true, recurses := true, apart := false, narrowed := true }
def PdevOnceUptoSaid : Prop := pdevOnceUptoRow.holds Try.pinned (OpenSpec.upto pdevOnceSpec)

/-- 'limekilnlaw04.PdevFences', WHERE WHAT IT READS IS OF BULK AT MOST 1048576: true; the input reads as it did. -/
def pdevFencesUptoRow : OpenClaim := { program := "ytibeeobhpdallaa", sum := "15883f1913bcde48e0a9926301619977eac0d2e3eb16f457a220f335c48b8708", func := "limekiln/limekilnlaw04.PdevFences", spec := "pdevFences", inPlace := ["slices.overlaps[int]"], unfollowed := true, recurses := true, apart := false, narrowed := true }
def PdevFencesUptoSaid : Prop := pdevFencesUptoRow.holds Try.pinned (OpenSpec.upto pdevFencesSpec)

end Rows
end Go.Proofs.Ytibeeobhpdallaa
