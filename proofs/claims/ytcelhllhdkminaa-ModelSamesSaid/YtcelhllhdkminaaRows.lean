/-
  No cell of these rows narrows 'for every input' (looked for: loops, veiled, ifaces, maps, wideKeys, modest, calm, conditions, laid).
  DERIVED. THE GIVEN ROWS OF THIS SEAT. 6 by the template 'for every input the law returns true; each argument reads behind the call as it read before'; 0 by the template 'total and deterministic' (their statements: YtcelhllhdkminaaTotals.lean).
  GIVEN WITH THE SEED: the statements are not yours to turn. If you find one false, say at which input.
  Laid BY PROGRAM, IN A SANDBOX (cutbox-rows.mjs): the forced cells as the released guide's own fill.sh prints them over the translation dcc791ccb8f284f5… (all of the seat's roots in one cut). By AI agents, Wed Nov 11 2026. No macro, syntax, notation, axiom, sorry.
-/
import Derived.Test.YtcelhllhdkminaaChecked
import GoSem.Claim
import GoSem.ClaimJoined
import GoSem.ClaimMapViews
import Derived.JoinedTies
import Derived.KernelRfl
namespace Go.Proofs.Ytcelhllhdkminaa
/- THE CELL 'sum', in the pinned program and in every row, IS THE sha256 OF THE DUMP (.gsa) THAT YtcelhllhdkminaaProg.lean LOADS. Nothing in Lean hashes anything: it is a label: what it is worth is what the hold of that sum in a sandbox is worth. -/
noncomputable def Try.pinned : Pinned := { name := "ytcelhllhdkminaa", sum := "dcc791ccb8f284f5d3352992bf4405c319ca339aac5b315b513e8ae241693891", checked := Try.checked }
namespace Rows
def none {H : Type} : Left H := { results := [], args := [] }

/-- 'limekilnlaw07.PmemPlays': WHATEVER THE INPUT: true; the input reads as it did. -/
def pmemPlaysSpec : ChangeSpec := { name := "pmemPlays", fn := fun _ => fun
  | [d1, d2, d3] => { results := [.lit (.bool true)], args := [d1, d2, d3] }
  | _ => none }
def pmemPlaysRow : OpenClaim := { program := "ytcelhllhdkminaa", sum := "dcc791ccb8f284f5d3352992bf4405c319ca339aac5b315b513e8ae241693891", func := "limekiln/limekilnlaw07.PmemPlays", spec := "pmemPlays", inPlace := ["slices.overlaps[int]"], unfollowed := true, recurses := true, apart := false }
def PmemPlaysSaid : Prop := pmemPlaysRow.holds Try.pinned (OpenSpec.ofChange pmemPlaysSpec)

/-- ITS FALSE NEIGHBOUR: 'it returns false'. Refute it at one input. -/
def pmemPlaysWrong : ChangeSpec := { name := "pmemPlays", fn := fun _ => fun
  | [d1, d2, d3] => { results := [.lit (.bool false)], args := [d1, d2, d3] }
  | _ => none }
def PmemPlaysWrongFalsely : Prop := pmemPlaysRow.holds Try.pinned (OpenSpec.ofChange pmemPlaysWrong)

/-- 'limekilnlaw07.PmemPeeks': WHATEVER THE INPUT: true; the input reads as it did. -/
def pmemPeeksSpec : ChangeSpec := { name := "pmemPeeks", fn := fun _ => fun
  | [d1, d2, d3] => { results := [.lit (.bool true)], args := [d1, d2, d3] }
  | _ => none }
def pmemPeeksRow : OpenClaim := { program := "ytcelhllhdkminaa", sum := "dcc791ccb8f284f5d3352992bf4405c319ca339aac5b315b513e8ae241693891", func := "limekiln/limekilnlaw07.PmemPeeks", spec := "pmemPeeks", inPlace := ["slices.overlaps[int]"], unfollowed := true, recurses := true, apart := false }
def PmemPeeksSaid : Prop := pmemPeeksRow.holds Try.pinned (OpenSpec.ofChange pmemPeeksSpec)

/-- ITS FALSE NEIGHBOUR: 'it returns false'. Refute it at one input. -/
def pmemPeeksWrong : ChangeSpec := { name := "pmemPeeks", fn := fun _ => fun
  | [d1, d2, d3] => { results := [.lit (.bool false)], args := [d1, d2, d3] }
  | _ => none }
def PmemPeeksWrongFalsely : Prop := pmemPeeksRow.holds Try.pinned (OpenSpec.ofChange pmemPeeksWrong)

/-- 'limekilnlaw08.ModelRuns': WHATEVER THE INPUT: true; the input reads as it did. -/
def modelRunsSpec : ChangeSpec := { name := "modelRuns", fn := fun _ => fun
  | [d1, d2] => { results := [.lit (.bool true)], args := [d1, d2] }
  | _ => none }
def modelRunsRow : OpenClaim := { program := "ytcelhllhdkminaa", sum := "dcc791ccb8f284f5d3352992bf4405c319ca339aac5b315b513e8ae241693891", func := "limekiln/limekilnlaw08.ModelRuns", spec := "modelRuns", inPlace := ["slices.overlaps[uint32]", "slices.overlaps[limekiln/api.Pair]"], unfollowed := true, recurses := true, apart := false }
def ModelRunsSaid : Prop := modelRunsRow.holds Try.pinned (OpenSpec.ofChange modelRunsSpec)

/-- ITS FALSE NEIGHBOUR: 'it returns false'. Refute it at one input. -/
def modelRunsWrong : ChangeSpec := { name := "modelRuns", fn := fun _ => fun
  | [d1, d2] => { results := [.lit (.bool false)], args := [d1, d2] }
  | _ => none }
def ModelRunsWrongFalsely : Prop := modelRunsRow.holds Try.pinned (OpenSpec.ofChange modelRunsWrong)

/-- 'limekilnlaw08.ModelAllows': WHATEVER THE INPUT: true; the input reads as it did. -/
def modelAllowsSpec : ChangeSpec := { name := "modelAllows", fn := fun _ => fun
  | [d1, d2, d3] => { results := [.lit (.bool true)], args := [d1, d2, d3] }
  | _ => none }
def modelAllowsRow : OpenClaim := { program := "ytcelhllhdkminaa", sum := "dcc791ccb8f284f5d3352992bf4405c319ca339aac5b315b513e8ae241693891", func := "limekiln/limekilnlaw08.ModelAllows", spec := "modelAllows", inPlace := ["slices.overlaps[uint32]", "slices.overlaps[limekiln/api.Pair]"], unfollowed := true, recurses := true, apart := false }
def ModelAllowsSaid : Prop := modelAllowsRow.holds Try.pinned (OpenSpec.ofChange modelAllowsSpec)

/-- ITS FALSE NEIGHBOUR: 'it returns false'. Refute it at one input. -/
def modelAllowsWrong : ChangeSpec := { name := "modelAllows", fn := fun _ => fun
  | [d1, d2, d3] => { results := [.lit (.bool false)], args := [d1, d2, d3] }
  | _ => none }
def ModelAllowsWrongFalsely : Prop := modelAllowsRow.holds Try.pinned (OpenSpec.ofChange modelAllowsWrong)

/-- 'limekilnlaw08.ModelSames': WHATEVER THE INPUT: true; the input reads as it did. -/
def modelSamesSpec : ChangeSpec := { name := "modelSames", fn := fun _ => fun
  | [d1, d2] => { results := [.lit (.bool true)], args := [d1, d2] }
  | _ => none }
def modelSamesRow : OpenClaim := { program := "ytcelhllhdkminaa", sum := "dcc791ccb8f284f5d3352992bf4405c319ca339aac5b315b513e8ae241693891", func := "limekiln/limekilnlaw08.ModelSames", spec := "modelSames", inPlace := ["slices.overlaps[uint32]", "slices.overlaps[limekiln/api.Pair]"], unfollowed := true, recurses := true, apart := false }
def ModelSamesSaid : Prop := modelSamesRow.holds Try.pinned (OpenSpec.ofChange modelSamesSpec)

/-- ITS FALSE NEIGHBOUR: 'it returns false'. Refute it at one input. -/
def modelSamesWrong : ChangeSpec := { name := "modelSames", fn := fun _ => fun
  | [d1, d2] => { results := [.lit (.bool false)], args := [d1, d2] }
  | _ => none }
def ModelSamesWrongFalsely : Prop := modelSamesRow.holds Try.pinned (OpenSpec.ofChange modelSamesWrong)

/-- 'limekilnlaw08.ModelTurns': WHATEVER THE INPUT: true; the input reads as it did. -/
def modelTurnsSpec : ChangeSpec := { name := "modelTurns", fn := fun _ => fun
  | [d1, d2, d3] => { results := [.lit (.bool true)], args := [d1, d2, d3] }
  | _ => none }
def modelTurnsRow : OpenClaim := { program := "ytcelhllhdkminaa", sum := "dcc791ccb8f284f5d3352992bf4405c319ca339aac5b315b513e8ae241693891", func := "limekiln/limekilnlaw08.ModelTurns", spec := "modelTurns", inPlace := ["slices.overlaps[uint32]", "slices.overlaps[limekiln/api.Pair]"], unfollowed := true, recurses := true, apart := false }
def ModelTurnsSaid : Prop := modelTurnsRow.holds Try.pinned (OpenSpec.ofChange modelTurnsSpec)

/-- ITS FALSE NEIGHBOUR: 'it returns false'. Refute it at one input. -/
def modelTurnsWrong : ChangeSpec := { name := "modelTurns", fn := fun _ => fun
  | [d1, d2, d3] => { results := [.lit (.bool false)], args := [d1, d2, d3] }
  | _ => none }
def ModelTurnsWrongFalsely : Prop := modelTurnsRow.holds Try.pinned (OpenSpec.ofChange modelTurnsWrong)

/- THE SECOND FORM. 'bulk': how many values and letters a reading holds, each counted each time it is reached (what is shared counts as often as it is met; a slice's spare places count too). A statement '..UptoSaid' is the law's where the arguments, and the package variables that the reading takes, are together of bulk at most 1048576: NARROWER than '..Said'. Prove '..Said' where nothing that the law and all that it calls make is longer than what came in: it says more and counts as full. Else prove '..UptoSaid'. A law counts once. -/
mutual
def uptoBulk {H : Type} : DataW H → Nat
  | .lit (.string bytes) => bytes.length + 1
  | .lit _ => 1
  | .nil => 1
  | .ptr d => uptoBulk d + 1
  | .slice elems spare => uptoBulkAll elems + uptoBulkAll spare + 1
  | .agg parts => uptoBulkAll parts + 1
  | .iface _ d => uptoBulk d + 1
  | .map entries => uptoBulkEntries entries + 1
  | .held _ => 1
def uptoBulkAll {H : Type} : List (DataW H) → Nat
  | [] => 0
  | d :: r => uptoBulk d + uptoBulkAll r
def uptoBulkEntries {H : Type} : List (Lit × DataW H) → Nat
  | [] => 0
  | x :: r => uptoBulkEntry x + uptoBulkEntries r
def uptoBulkEntry {H : Type} : Lit × DataW H → Nat
  | (.string bytes, d) => bytes.length + uptoBulk d + 1
  | (_, d) => uptoBulk d + 1
 end
def uptoSmall : (H : Type) → List (DataW H) → Bool := fun _ ds => decide (uptoBulkAll ds ≤ 1048576)
def OpenSpec.upto (s : _root_.Go.ChangeSpec) : _root_.Go.OpenSpec := { _root_.Go.OpenSpec.ofChange s with cond := some uptoSmall }

/-- 'limekilnlaw07.PmemPlays', WHERE WHAT IT READS IS OF BULK AT MOST 1048576: true; the input reads as it did. -/
def pmemPlaysUptoRow : OpenClaim := { program := "ytcelhllhdkminaa", sum := "dcc791ccb8f284f5d3352992bf4405c319ca339aac5b315b513e8ae241693891", func := "limekiln/limekilnlaw07.PmemPlays", spec := "pmemPlays", inPlace := ["slices.overlaps[int]"], unfollowed := true, recurses := true, apart := false, narrowed := true }
def PmemPlaysUptoSaid : Prop := pmemPlaysUptoRow.holds Try.pinned (OpenSpec.upto pmemPlaysSpec)

/-- 'limekilnlaw07.PmemPeeks', WHERE WHAT IT READS IS OF BULK AT MOST 1048576: true; the input reads as it did. -/
def pmemPeeksUptoRow : OpenClaim := { program := "ytcelhllhdkminaa", sum := "dcc791ccb8f284f5d3352992bf4405c319ca339aac5b315b513e8ae241693891", func := "limekiln/limekilnlaw07.PmemPeeks", spec := "pmemPeeks", inPlace := ["slices.overlaps[int]"], unfollowed := true, recurses := true, apart := false, narrowed := true }
def PmemPeeksUptoSaid : Prop := pmemPeeksUptoRow.holds Try.pinned (OpenSpec.upto pmemPeeksSpec)

/-- 'limekilnlaw08.ModelRuns', WHERE WHAT IT READS IS OF BULK AT MOST 1048576: true; the input reads as it did. -/
def modelRunsUptoRow : OpenClaim := { program := "ytcelhllhdkminaa", sum := "dcc791ccb8f284f5d3352992bf4405c319ca339aac5b315b513e8ae241693891", func := "limekiln/limekilnlaw08.ModelRuns", spec := "modelRuns", inPlace := ["slices.overlaps[uint32]", "slices.overlaps[limekiln/api.Pair]"], unfollowed := true, recurses := true, apart := false, narrowed := true }
def ModelRunsUptoSaid : Prop := modelRunsUptoRow.holds Try.pinned (OpenSpec.upto modelRunsSpec)

/-- 'limekilnlaw08.ModelAllows', WHERE WHAT IT READS IS OF BULK AT MOST 1048576: true; the input reads as it did. -/
def modelAllowsUptoRow : OpenClaim := { program := "ytcelhllhdkminaa", sum := "dcc791ccb8f284f5d3352992bf4405c319ca339aac5b315b513e8ae241693891", func := "limekiln/limekilnlaw08.ModelAllows", spec := "modelAllows", inPlace := ["slices.overlaps[uint32]", "slices.overlaps[limekiln/api.Pair]"], unfollowed := true, recurses := true, apart := false, narrowed := true }
def ModelAllowsUptoSaid : Prop := modelAllowsUptoRow.holds Try.pinned (OpenSpec.upto modelAllowsSpec)

/-- 'limekilnlaw08.ModelSames', WHERE WHAT IT READS IS OF BULK AT MOST 1048576: true; the input reads as it did. -/
def modelSamesUptoRow : OpenClaim := { program := "ytcelhllhdkminaa", sum := "dcc791ccb8f284f5d3352992bf4405c319ca339aac5b315b513e8ae241693891", func := "limekiln/limekilnlaw08.ModelSames", spec := "modelSames", inPlace := ["slices.overlaps[uint32]", "slices.overlaps[limekiln/api.Pair]"], unfollowed := true, recurses := true, apart := false, narrowed := true }
def ModelSamesUptoSaid : Prop := modelSamesUptoRow.holds Try.pinned (OpenSpec.upto modelSamesSpec)

/-- 'limekilnlaw08.ModelTurns', WHERE WHAT IT READS IS OF BULK AT MOST 1048576: true; the input reads as it did. -/
def modelTurnsUptoRow : OpenClaim := { program := "ytcelhllhdkminaa", sum := "dcc791ccb8f284f5d3352992bf4405c319ca339aac5b315b513e8ae241693891", func := "limekiln/limekilnlaw08.ModelTurns", spec := "modelTurns", inPlace := ["slices.overlaps[uint32]", "slices.overlaps[limekiln/api.Pair]"], unfollowed := true, recurses := true, apart := false, narrowed := true }
def ModelTurnsUptoSaid : Prop := modelTurnsUptoRow.holds Try.pinned (OpenSpec.upto modelTurnsSpec)

end Rows
end Go.Proofs.Ytcelhllhdkminaa
