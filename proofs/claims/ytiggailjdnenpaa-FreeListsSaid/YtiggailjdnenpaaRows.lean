/-
  No cell of these rows narrows 'for every input' (looked for: loops, veiled, ifaces, maps, wideKeys, modest, calm, conditions, laid).
  DERIVED. THE GIVEN ROWS OF THIS SEAT. 10 by the template 'for every input the law returns true; each argument reads behind the call as it read before'; 0 by the template 'total and deterministic' (their statements: YtiggailjdnenpaaTotals.lean).
  GIVEN WITH THE SEED: the statements are not yours to turn. If you find one false, say at which input.
  Laid BY PROGRAM, IN A SANDBOX (cutbox-rows.mjs): the forced cells as the released guide's own fill.sh prints them over the translation a647999c9ee19d44… (all of the seat's roots in one cut). By AI agents, Wed Nov 11 2026. No macro, syntax, notation, axiom, sorry.
-/
import Derived.Test.YtiggailjdnenpaaChecked
import GoSem.Claim
import GoSem.ClaimJoined
import GoSem.ClaimMapViews
import Derived.JoinedTies
import Derived.KernelRfl
namespace Go.Proofs.Ytiggailjdnenpaa
/- THE CELL 'sum', in the pinned program and in every row, IS THE sha256 OF THE DUMP (.gsa) THAT YtiggailjdnenpaaProg.lean LOADS. Nothing in Lean hashes anything: it is a label: what it is worth is what the hold of that sum in a sandbox is worth. -/
noncomputable def Try.pinned : Pinned := { name := "ytiggailjdnenpaa", sum := "a647999c9ee19d442bca451068b0e65ad9a2055c42724f7eef7bef77408108bd", checked := Try.checked }
namespace Rows
def none {H : Type} : Left H := { results := [], args := [] }

/-- 'limekilnlaw08.ModelRuns': WHATEVER THE INPUT: true; the input reads as it did. -/
def modelRunsSpec : ChangeSpec := { name := "modelRuns", fn := fun _ => fun
  | [d1, d2] => { results := [.lit (.bool true)], args := [d1, d2] }
  | _ => none }
def modelRunsRow : OpenClaim := { program := "ytiggailjdnenpaa", sum := "a647999c9ee19d442bca451068b0e65ad9a2055c42724f7eef7bef77408108bd", func := "limekiln/limekilnlaw08.ModelRuns", spec := "modelRuns", inPlace := ["slices.overlaps[uint32]", "slices.overlaps[limekiln/api.Pair]"], unfollowed := true, recurses := true, apart := false }
def ModelRunsSaid : Prop := modelRunsRow.holds Try.pinned (OpenSpec.ofChange modelRunsSpec)

/-- ITS FALSE NEIGHBOUR: 'it returns false'. Refute it at one input. -/
def modelRunsWrong : ChangeSpec := { name := "modelRuns", fn := fun _ => fun
  | [d1, d2] => { results := [.lit (.bool false)], args := [d1, d2] }
  | _ => none }
def ModelRunsWrongFalsely : Prop := modelRunsRow.holds Try.pinned (OpenSpec.ofChange modelRunsWrong)

/-- 'limekilnlaw08.ModelAllows': WHATEVER THE INPUT: true; the input reads as it did. -/
def modelAllowsSpec : ChangeSpec := { name := "modelAllows", fn := fun _ => fun
  | [d1, d2, d3] => { results := [.lit (.bool true)], args := [d1, d2, d3] }
  | _ => none }
def modelAllowsRow : OpenClaim := { program := "ytiggailjdnenpaa", sum := "a647999c9ee19d442bca451068b0e65ad9a2055c42724f7eef7bef77408108bd", func := "limekiln/limekilnlaw08.ModelAllows", spec := "modelAllows", inPlace := ["slices.overlaps[uint32]", "slices.overlaps[limekiln/api.Pair]"], unfollowed := true, recurses := true, apart := false }
def ModelAllowsSaid : Prop := modelAllowsRow.holds Try.pinned (OpenSpec.ofChange modelAllowsSpec)

/-- ITS FALSE NEIGHBOUR: 'it returns false'. Refute it at one input. -/
def modelAllowsWrong : ChangeSpec := { name := "modelAllows", fn := fun _ => fun
  | [d1, d2, d3] => { results := [.lit (.bool false)], args := [d1, d2, d3] }
  | _ => none }
def ModelAllowsWrongFalsely : Prop := modelAllowsRow.holds Try.pinned (OpenSpec.ofChange modelAllowsWrong)

/-- 'limekilnlaw08.ModelTurns': WHATEVER THE INPUT: true; the input reads as it did. -/
def modelTurnsSpec : ChangeSpec := { name := "modelTurns", fn := fun _ => fun
  | [d1, d2, d3] => { results := [.lit (.bool true)], args := [d1, d2, d3] }
  | _ => none }
def modelTurnsRow : OpenClaim := { program := "ytiggailjdnenpaa", sum := "a647999c9ee19d442bca451068b0e65ad9a2055c42724f7eef7bef77408108bd", func := "limekiln/limekilnlaw08.ModelTurns", spec := "modelTurns", inPlace := ["slices.overlaps[uint32]", "slices.overlaps[limekiln/api.Pair]"], unfollowed := true, recurses := true, apart := false }
def ModelTurnsSaid : Prop := modelTurnsRow.holds Try.pinned (OpenSpec.ofChange modelTurnsSpec)

/-- ITS FALSE NEIGHBOUR: 'it returns false'. Refute it at one input. -/
def modelTurnsWrong : ChangeSpec := { name := "modelTurns", fn := fun _ => fun
  | [d1, d2, d3] => { results := [.lit (.bool false)], args := [d1, d2, d3] }
  | _ => none }
def ModelTurnsWrongFalsely : Prop := modelTurnsRow.holds Try.pinned (OpenSpec.ofChange modelTurnsWrong)

/-- 'limekilnlaw09.FreeLists': WHATEVER THE INPUT: true; the input reads as it did. -/
def freeListsSpec : ChangeSpec := { name := "freeLists", fn := fun _ => fun
  | [d] => { results := [.lit (.bool true)], args := [d] }
  | _ => none }
def freeListsRow : OpenClaim := { program := "ytiggailjdnenpaa", sum := "a647999c9ee19d442bca451068b0e65ad9a2055c42724f7eef7bef77408108bd", func := "limekiln/limekilnlaw09.FreeLists", spec := "freeLists", unfollowed := true, recurses := true, apart := false }
def FreeListsSaid : Prop := freeListsRow.holds Try.pinned (OpenSpec.ofChange freeListsSpec)

/-- ITS FALSE NEIGHBOUR: 'it returns false'. Refute it at one input. -/
def freeListsWrong : ChangeSpec := { name := "freeLists", fn := fun _ => fun
  | [d] => { results := [.lit (.bool false)], args := [d] }
  | _ => none }
def FreeListsWrongFalsely : Prop := freeListsRow.holds Try.pinned (OpenSpec.ofChange freeListsWrong)

/-- 'limekilnlaw09.FreeAlone': WHATEVER THE INPUT: true; the input reads as it did. -/
def freeAloneSpec : ChangeSpec := { name := "freeAlone", fn := fun _ => fun
  | [d1, d2, d3] => { results := [.lit (.bool true)], args := [d1, d2, d3] }
  | _ => none }
def freeAloneRow : OpenClaim := { program := "ytiggailjdnenpaa", sum := "a647999c9ee19d442bca451068b0e65ad9a2055c42724f7eef7bef77408108bd", func := "limekiln/limekilnlaw09.FreeAlone", spec := "freeAlone", unfollowed := true, recurses := true, apart := false }
def FreeAloneSaid : Prop := freeAloneRow.holds Try.pinned (OpenSpec.ofChange freeAloneSpec)

/-- ITS FALSE NEIGHBOUR: 'it returns false'. Refute it at one input. -/
def freeAloneWrong : ChangeSpec := { name := "freeAlone", fn := fun _ => fun
  | [d1, d2, d3] => { results := [.lit (.bool false)], args := [d1, d2, d3] }
  | _ => none }
def FreeAloneWrongFalsely : Prop := freeAloneRow.holds Try.pinned (OpenSpec.ofChange freeAloneWrong)

/-- 'limekilnlaw09.FreeMany': WHATEVER THE INPUT: true; the input reads as it did. -/
def freeManySpec : ChangeSpec := { name := "freeMany", fn := fun _ => fun
  | [d1, d2] => { results := [.lit (.bool true)], args := [d1, d2] }
  | _ => none }
def freeManyRow : OpenClaim := { program := "ytiggailjdnenpaa", sum := "a647999c9ee19d442bca451068b0e65ad9a2055c42724f7eef7bef77408108bd", func := "limekiln/limekilnlaw09.FreeMany", spec := "freeMany", unfollowed := true, recurses := true, apart := false }
def FreeManySaid : Prop := freeManyRow.holds Try.pinned (OpenSpec.ofChange freeManySpec)

/-- ITS FALSE NEIGHBOUR: 'it returns false'. Refute it at one input. -/
def freeManyWrong : ChangeSpec := { name := "freeMany", fn := fun _ => fun
  | [d1, d2] => { results := [.lit (.bool false)], args := [d1, d2] }
  | _ => none }
def FreeManyWrongFalsely : Prop := freeManyRow.holds Try.pinned (OpenSpec.ofChange freeManyWrong)

/-- 'limekilnlaw10.EpochIn': WHATEVER THE INPUT: true; the input reads as it did. -/
def epochInSpec : ChangeSpec := { name := "epochIn", fn := fun _ => fun
  | [d1, d2] => { results := [.lit (.bool true)], args := [d1, d2] }
  | _ => none }
def epochInRow : OpenClaim := { program := "ytiggailjdnenpaa", sum := "a647999c9ee19d442bca451068b0e65ad9a2055c42724f7eef7bef77408108bd", func := "limekiln/limekilnlaw10.EpochIn", spec := "epochIn", unfollowed := true, recurses := true, apart := false }
def EpochInSaid : Prop := epochInRow.holds Try.pinned (OpenSpec.ofChange epochInSpec)

/-- ITS FALSE NEIGHBOUR: 'it returns false'. Refute it at one input. -/
def epochInWrong : ChangeSpec := { name := "epochIn", fn := fun _ => fun
  | [d1, d2] => { results := [.lit (.bool false)], args := [d1, d2] }
  | _ => none }
def EpochInWrongFalsely : Prop := epochInRow.holds Try.pinned (OpenSpec.ofChange epochInWrong)

/-- 'limekilnlaw10.EpochAlone': WHATEVER THE INPUT: true; the input reads as it did. -/
def epochAloneSpec : ChangeSpec := { name := "epochAlone", fn := fun _ => fun
  | [d1, d2, d3] => { results := [.lit (.bool true)], args := [d1, d2, d3] }
  | _ => none }
def epochAloneRow : OpenClaim := { program := "ytiggailjdnenpaa", sum := "a647999c9ee19d442bca451068b0e65ad9a2055c42724f7eef7bef77408108bd", func := "limekiln/limekilnlaw10.EpochAlone", spec := "epochAlone", unfollowed := true, recurses := true, apart := false }
def EpochAloneSaid : Prop := epochAloneRow.holds Try.pinned (OpenSpec.ofChange epochAloneSpec)

/-- ITS FALSE NEIGHBOUR: 'it returns false'. Refute it at one input. -/
def epochAloneWrong : ChangeSpec := { name := "epochAlone", fn := fun _ => fun
  | [d1, d2, d3] => { results := [.lit (.bool false)], args := [d1, d2, d3] }
  | _ => none }
def EpochAloneWrongFalsely : Prop := epochAloneRow.holds Try.pinned (OpenSpec.ofChange epochAloneWrong)

/-- 'limekilnlaw10.EpochHolds': WHATEVER THE INPUT: true; the input reads as it did. -/
def epochHoldsSpec : ChangeSpec := { name := "epochHolds", fn := fun _ => fun
  | [d1, d2] => { results := [.lit (.bool true)], args := [d1, d2] }
  | _ => none }
def epochHoldsRow : OpenClaim := { program := "ytiggailjdnenpaa", sum := "a647999c9ee19d442bca451068b0e65ad9a2055c42724f7eef7bef77408108bd", func := "limekiln/limekilnlaw10.EpochHolds", spec := "epochHolds", unfollowed := true, recurses := true, apart := false }
def EpochHoldsSaid : Prop := epochHoldsRow.holds Try.pinned (OpenSpec.ofChange epochHoldsSpec)

/-- ITS FALSE NEIGHBOUR: 'it returns false'. Refute it at one input. -/
def epochHoldsWrong : ChangeSpec := { name := "epochHolds", fn := fun _ => fun
  | [d1, d2] => { results := [.lit (.bool false)], args := [d1, d2] }
  | _ => none }
def EpochHoldsWrongFalsely : Prop := epochHoldsRow.holds Try.pinned (OpenSpec.ofChange epochHoldsWrong)

/-- 'limekilnlaw10.EpochOne': WHATEVER THE INPUT: true; the input reads as it did. -/
def epochOneSpec : ChangeSpec := { name := "epochOne", fn := fun _ => fun
  | [d1, d2, d3] => { results := [.lit (.bool true)], args := [d1, d2, d3] }
  | _ => none }
def epochOneRow : OpenClaim := { program := "ytiggailjdnenpaa", sum := "a647999c9ee19d442bca451068b0e65ad9a2055c42724f7eef7bef77408108bd", func := "limekiln/limekilnlaw10.EpochOne", spec := "epochOne", unfollowed := true, recurses := true, apart := false }
def EpochOneSaid : Prop := epochOneRow.holds Try.pinned (OpenSpec.ofChange epochOneSpec)

/-- ITS FALSE NEIGHBOUR: 'it returns false'. Refute it at one input. -/
def epochOneWrong : ChangeSpec := { name := "epochOne", fn := fun _ => fun
  | [d1, d2, d3] => { results := [.lit (.bool false)], args := [d1, d2, d3] }
  | _ => none }
def EpochOneWrongFalsely : Prop := epochOneRow.holds Try.pinned (OpenSpec.ofChange epochOneWrong)

/- THE SECOND FORM. 'bulk': how many values and letters a reading holds, each counted each time it is reached (what is shared counts as often as it is met; a slice's spare places count too). A statement '..UptoSaid' is the law's where the arguments, and the package variables that the reading takes, are together of bulk at most 1048576: NARROWER than '..Said'. Prove '..Said' where nothing that the law and all that it calls make is longer than what came in: it says more and counts as full. Else prove '..UptoSaid'. A law counts once. -/
mutual
def uptoBulk {H : Type} : DataW H → Nat
  | .lit (.string bytes) => bytes.length + 1
  | .lit _ => 1
  | .nil => 1
  | .ptr d => uptoBulk d + 1
  | .slice elems spare => uptoBulkAll elems + uptoBulkAll spare + 1
  | .agg parts => uptoBulkAll parts + 1
  | .iface _ d => uptoBulk d + 1
  | .map entries => uptoBulkEntries entries + 1
  | .held _ => 1
def uptoBulkAll {H : Type} : List (DataW H) → Nat
  | [] => 0
  | d :: r => uptoBulk d + uptoBulkAll r
def uptoBulkEntries {H : Type} : List (Lit × DataW H) → Nat
  | [] => 0
  | x :: r => uptoBulkEntry x + uptoBulkEntries r
def uptoBulkEntry {H : Type} : Lit × DataW H → Nat
  | (.string bytes, d) => bytes.length + uptoBulk d + 1
  | (_, d) => uptoBulk d + 1
 end
def uptoSmall : (H : Type) → List (DataW H) → Bool := fun _ ds => decide (uptoBulkAll ds ≤ 1048576)
def OpenSpec.upto (s : _root_.Go.ChangeSpec) : _root_.Go.OpenSpec := { _root_.Go.OpenSpec.ofChange s with cond := some uptoSmall }

/-- 'limekilnlaw08.ModelRuns', WHERE WHAT IT READS IS OF BULK AT MOST 1048576: true; the input reads as it did. -/
def modelRunsUptoRow : OpenClaim := { program := "ytiggailjdnenpaa", sum := "a647999c9ee19d442bca451068b0e65ad9a2055c42724f7eef7bef77408108bd", func := "limekiln/limekilnlaw08.ModelRuns", spec := "modelRuns", inPlace := ["slices.overlaps[uint32]", "slices.overlaps[limekiln/api.Pair]"], unfollowed := true, recurses := true, apart := false, narrowed := true }
def ModelRunsUptoSaid : Prop := modelRunsUptoRow.holds Try.pinned (OpenSpec.upto modelRunsSpec)

/-- 'limekilnlaw08.ModelAllows', WHERE WHAT IT READS IS OF BULK AT MOST 1048576: true; the input reads as it did. -/
def modelAllowsUptoRow : OpenClaim := { program := "ytiggailjdnenpaa", sum := "a647999c9ee19d442bca451068b0e65ad9a2055c42724f7eef7bef77408108bd", func := "limekiln/limekilnlaw08.ModelAllows", spec := "modelAllows", inPlace := ["slices.overlaps[uint32]", "slices.overlaps[limekiln/api.Pair]"], unfollowed := true, recurses := true, apart := false, narrowed := true }
def ModelAllowsUptoSaid : Prop := modelAllowsUptoRow.holds Try.pinned (OpenSpec.upto modelAllowsSpec)

/-- 'limekilnlaw08.ModelTurns', WHERE WHAT IT READS IS OF BULK AT MOST 1048576: true; the input reads as it did. -/
def modelTurnsUptoRow : OpenClaim := { program := "ytiggailjdnenpaa", sum := "a647999c9ee19d442bca451068b0e65ad9a2055c42724f7eef7bef77408108bd", func := "limekiln/limekilnlaw08.ModelTurns", spec := "modelTurns", inPlace := ["slices.overlaps[uint32]", "slices.overlaps[limekiln/api.Pair]"], unfollowed := true, recurses := true, apart := false, narrowed := true }
def ModelTurnsUptoSaid : Prop := modelTurnsUptoRow.holds Try.pinned (OpenSpec.upto modelTurnsSpec)

/-- 'limekilnlaw09.FreeLists', WHERE WHAT IT READS IS OF BULK AT MOST 1048576: true; the input reads as it did. -/
def freeListsUptoRow : OpenClaim := { program := "ytiggailjdnenpaa", sum := "a647999c9ee19d442bca451068b0e65ad9a2055c42724f7eef7bef77408108bd", func := "limekiln/limekilnlaw09.FreeLists", spec := "freeLists", unfollowed := true, recurses := true, apart := false, narrowed := true }
def FreeListsUptoSaid : Prop := freeListsUptoRow.holds Try.pinned (OpenSpec.upto freeListsSpec)

/-- 'limekilnlaw09.FreeAlone', WHERE WHAT IT READS IS OF BULK AT MOST 1048576: true; the input reads as it did. -/
def freeAloneUptoRow : OpenClaim := { program := "ytiggailjdnenpaa", sum := "a647999c9ee19d442bca451068b0e65ad9a2055c42724f7eef7bef77408108bd", func := "limekiln/limekilnlaw09.FreeAlone", spec := "freeAlone", unfollowed := true, recurses := true, apart := false, narrowed := true }
def FreeAloneUptoSaid : Prop := freeAloneUptoRow.holds Try.pinned (OpenSpec.upto freeAloneSpec)

/-- 'limekilnlaw09.FreeMany', WHERE WHAT IT READS IS OF BULK AT MOST 1048576: true; the input reads as it did. -/
def freeManyUptoRow : OpenClaim := { program := "ytiggailjdnenpaa", sum := "a647999c9ee19d442bca451068b0e65ad9a2055c42724f7eef7bef77408108bd", func := "limekiln/limekilnlaw09.FreeMany", spec := "freeMany", unfollowed := true, recurses := true, apart := false, narrowed := true }
def FreeManyUptoSaid : Prop := freeManyUptoRow.holds Try.pinned (OpenSpec.upto freeManySpec)

/-- 'limekilnlaw10.EpochIn', WHERE WHAT IT READS IS OF BULK AT MOST 1048576: true; the input reads as it did. -/
def epochInUptoRow : OpenClaim := { program := "ytiggailjdnenpaa", sum := "a647999c9ee19d442bca451068b0e65ad9a2055c42724f7eef7bef77408108bd", func := "limekiln/limekilnlaw10.EpochIn", spec := "epochIn", unfollowed := true, recurses := true, apart := false, narrowed := true }
def EpochInUptoSaid : Prop := epochInUptoRow.holds Try.pinned (OpenSpec.upto epochInSpec)

/-- 'limekilnlaw10.EpochAlone', WHERE WHAT IT READS IS OF BULK AT MOST 1048576: true; the input reads as it did. -/
def epochAloneUptoRow : OpenClaim := { program := "ytiggailjdnenpaa", sum := "a647999c9ee19d442bca451068b0e65ad9a2055c42724f7eef7bef77408108bd", func := "limekiln/limekilnlaw10.EpochAlone", spec := "epochAlone", unfollowed := true, recurses := true, apart := false, narrowed := true }
def EpochAloneUptoSaid : Prop := epochAloneUptoRow.holds Try.pinned (OpenSpec.upto epochAloneSpec)

/-- 'limekilnlaw10.EpochHolds', WHERE WHAT IT READS IS OF BULK AT MOST 1048576: true; the input reads as it did. -/
def epochHoldsUptoRow : OpenClaim := { program := "ytiggailjdnenpaa", sum := "a647999c9ee19d442bca451068b0e65ad9a2055c42724f7eef7bef77408108bd", func := "limekiln/limekilnlaw10.EpochHolds", spec := "epochHolds", unfollowed := true, recurses := true, apart := false, narrowed := true }
def EpochHoldsUptoSaid : Prop := epochHoldsUptoRow.holds Try.pinned (OpenSpec.upto epochHoldsSpec)

/-- 'limekilnlaw10.EpochOne', WHERE WHAT IT READS IS OF BULK AT MOST 1048576: true; the input reads as it did. -/
def epochOneUptoRow : OpenClaim := { program := "ytiggailjdnenpaa", sum := "a647999c9ee19d442bca451068b0e65ad9a2055c42724f7eef7bef77408108bd", func := "limekiln/limekilnlaw10.EpochOne", spec := "epochOne", unfollowed := true, recurses := true, apart := false, narrowed := true }
def EpochOneUptoSaid : Prop := epochOneUptoRow.holds Try.pinned (OpenSpec.upto epochOneSpec)

end Rows
end Go.Proofs.Ytiggailjdnenpaa
