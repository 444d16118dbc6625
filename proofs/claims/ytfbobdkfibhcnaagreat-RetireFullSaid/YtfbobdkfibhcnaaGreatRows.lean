/-
  No cell of these rows narrows 'for every input' (looked for: loops, veiled, ifaces, maps, wideKeys, modest, calm, conditions, laid).
  DERIVED. THE GIVEN ROWS OF THIS SEAT. 12 by the template 'for every input the law returns true; each argument reads behind the call as it read before'; 0 by the template 'total and deterministic' (their statements: YtfbobdkfibhcnaaGreatTotals.lean).
  GIVEN WITH THE SEED: the statements are not yours to turn. If you find one false, say at which input.
  Laid BY PROGRAM, IN A SANDBOX (cutbox-rows.mjs): the forced cells as the released guide's own fill.sh prints them over the translation 1f58d55500564d82… (all of the seat's roots in one cut). By AI agents, Wed Nov 11 2026. No macro, syntax, notation, axiom, sorry.
-/
import Derived.Test.YtfbobdkfibhcnaaGreatChecked
import GoSem.Claim
import GoSem.ClaimJoined
import GoSem.ClaimMapViews
import Derived.JoinedTies
import Derived.KernelRfl
namespace Go.Proofs.YtfbobdkfibhcnaaGreat
/- THE CELL 'sum', in the pinned program and in every row, IS THE sha256 OF THE DUMP (.gsa) THAT YtfbobdkfibhcnaaGreatProg.lean LOADS. Nothing in Lean hashes anything: it is a label: what it is worth is what the hold of that sum in a sandbox is worth. -/
noncomputable def Tryz.pinned : Pinned := { name := "ytfbobdkfibhcnaagreat", sum := "1f58d55500564d82eb3a76c7060f12ebbfced935f2d9ed4ee39dc6c3b0f51c80", checked := Tryz.checked }
namespace Rows
def none {H : Type} : Left H := { results := [], args := [] }

/-- 'limekilnlaw09.FreePops': WHATEVER THE INPUT: true; the input reads as it did. -/
def freePopsSpec : ChangeSpec := { name := "freePops", fn := fun _ => fun
  | [d1, d2, d3] => { results := [.lit (.bool true)], args := [d1, d2, d3] }
  | _ => none }
def freePopsRow : OpenClaim := { program := "ytfbobdkfibhcnaagreat", sum := "1f58d55500564d82eb3a76c7060f12ebbfced935f2d9ed4ee39dc6c3b0f51c80", func := "limekiln/limekilnlaw09.FreePops", spec := "freePops", inPlace := ["slices.overlaps[int]"], unfollowed := true, recurses := true, apart := false }
def FreePopsSaid : Prop := freePopsRow.holds Tryz.pinned (OpenSpec.ofChange freePopsSpec)

/-- ITS FALSE NEIGHBOUR: 'it returns false'. Refute it at one input. -/
def freePopsWrong : ChangeSpec := { name := "freePops", fn := fun _ => fun
  | [d1, d2, d3] => { results := [.lit (.bool false)], args := [d1, d2, d3] }
  | _ => none }
def FreePopsWrongFalsely : Prop := freePopsRow.holds Tryz.pinned (OpenSpec.ofChange freePopsWrong)

/-- 'limekilnlaw09.FreePushes': WHATEVER THE INPUT: true; the input reads as it did. -/
def freePushesSpec : ChangeSpec := { name := "freePushes", fn := fun _ => fun
  | [d1, d2, d3] => { results := [.lit (.bool true)], args := [d1, d2, d3] }
  | _ => none }
def freePushesRow : OpenClaim := { program := "ytfbobdkfibhcnaagreat", sum := "1f58d55500564d82eb3a76c7060f12ebbfced935f2d9ed4ee39dc6c3b0f51c80", func := "limekiln/limekilnlaw09.FreePushes", spec := "freePushes", inPlace := ["slices.overlaps[int]"], unfollowed := true, recurses := true, apart := false }
def FreePushesSaid : Prop := freePushesRow.holds Tryz.pinned (OpenSpec.ofChange freePushesSpec)

/-- ITS FALSE NEIGHBOUR: 'it returns false'. Refute it at one input. -/
def freePushesWrong : ChangeSpec := { name := "freePushes", fn := fun _ => fun
  | [d1, d2, d3] => { results := [.lit (.bool false)], args := [d1, d2, d3] }
  | _ => none }
def FreePushesWrongFalsely : Prop := freePushesRow.holds Tryz.pinned (OpenSpec.ofChange freePushesWrong)

/-- 'limekilnlaw10.EpochSteps': WHATEVER THE INPUT: true; the input reads as it did. -/
def epochStepsSpec : ChangeSpec := { name := "epochSteps", fn := fun _ => fun
  | [d1, d2, d3] => { results := [.lit (.bool true)], args := [d1, d2, d3] }
  | _ => none }
def epochStepsRow : OpenClaim := { program := "ytfbobdkfibhcnaagreat", sum := "1f58d55500564d82eb3a76c7060f12ebbfced935f2d9ed4ee39dc6c3b0f51c80", func := "limekiln/limekilnlaw10.EpochSteps", spec := "epochSteps", inPlace := ["slices.overlaps[int]"], unfollowed := true, recurses := true, apart := false }
def EpochStepsSaid : Prop := epochStepsRow.holds Tryz.pinned (OpenSpec.ofChange epochStepsSpec)

/-- ITS FALSE NEIGHBOUR: 'it returns false'. Refute it at one input. -/
def epochStepsWrong : ChangeSpec := { name := "epochSteps", fn := fun _ => fun
  | [d1, d2, d3] => { results := [.lit (.bool false)], args := [d1, d2, d3] }
  | _ => none }
def EpochStepsWrongFalsely : Prop := epochStepsRow.holds Tryz.pinned (OpenSpec.ofChange epochStepsWrong)

/-- 'limekilnlaw11.RetireSteps': WHATEVER THE INPUT: true; the input reads as it did. -/
def retireStepsSpec : ChangeSpec := { name := "retireSteps", fn := fun _ => fun
  | [d1, d2, d3] => { results := [.lit (.bool true)], args := [d1, d2, d3] }
  | _ => none }
def retireStepsRow : OpenClaim := { program := "ytfbobdkfibhcnaagreat", sum := "1f58d55500564d82eb3a76c7060f12ebbfced935f2d9ed4ee39dc6c3b0f51c80", func := "limekiln/limekilnlaw11.RetireSteps", spec := "retireSteps", inPlace := ["slices.overlaps[int]"], unfollowed := true, recurses := true, apart := false }
def RetireStepsSaid : Prop := retireStepsRow.holds Tryz.pinned (OpenSpec.ofChange retireStepsSpec)

/-- ITS FALSE NEIGHBOUR: 'it returns false'. Refute it at one input. -/
def retireStepsWrong : ChangeSpec := { name := "retireSteps", fn := fun _ => fun
  | [d1, d2, d3] => { results := [.lit (.bool false)], args := [d1, d2, d3] }
  | _ => none }
def RetireStepsWrongFalsely : Prop := retireStepsRow.holds Tryz.pinned (OpenSpec.ofChange retireStepsWrong)

/-- 'limekilnlaw11.RetireSlots': WHATEVER THE INPUT: true; the input reads as it did. -/
def retireSlotsSpec : ChangeSpec := { name := "retireSlots", fn := fun _ => fun
  | [d1, d2] => { results := [.lit (.bool true)], args := [d1, d2] }
  | _ => none }
def retireSlotsRow : OpenClaim := { program := "ytfbobdkfibhcnaagreat", sum := "1f58d55500564d82eb3a76c7060f12ebbfced935f2d9ed4ee39dc6c3b0f51c80", func := "limekiln/limekilnlaw11.RetireSlots", spec := "retireSlots", inPlace := ["slices.overlaps[int]"], unfollowed := true, recurses := true, apart := false }
def RetireSlotsSaid : Prop := retireSlotsRow.holds Tryz.pinned (OpenSpec.ofChange retireSlotsSpec)

/-- ITS FALSE NEIGHBOUR: 'it returns false'. Refute it at one input. -/
def retireSlotsWrong : ChangeSpec := { name := "retireSlots", fn := fun _ => fun
  | [d1, d2] => { results := [.lit (.bool false)], args := [d1, d2] }
  | _ => none }
def RetireSlotsWrongFalsely : Prop := retireSlotsRow.holds Tryz.pinned (OpenSpec.ofChange retireSlotsWrong)

/-- 'limekilnlaw11.RetireAlone': WHATEVER THE INPUT: true; the input reads as it did. -/
def retireAloneSpec : ChangeSpec := { name := "retireAlone", fn := fun _ => fun
  | [d1, d2, d3] => { results := [.lit (.bool true)], args := [d1, d2, d3] }
  | _ => none }
def retireAloneRow : OpenClaim := { program := "ytfbobdkfibhcnaagreat", sum := "1f58d55500564d82eb3a76c7060f12ebbfced935f2d9ed4ee39dc6c3b0f51c80", func := "limekiln/limekilnlaw11.RetireAlone", spec := "retireAlone", inPlace := ["slices.overlaps[int]"], unfollowed := true, recurses := true, apart := false }
def RetireAloneSaid : Prop := retireAloneRow.holds Tryz.pinned (OpenSpec.ofChange retireAloneSpec)

/-- ITS FALSE NEIGHBOUR: 'it returns false'. Refute it at one input. -/
def retireAloneWrong : ChangeSpec := { name := "retireAlone", fn := fun _ => fun
  | [d1, d2, d3] => { results := [.lit (.bool false)], args := [d1, d2, d3] }
  | _ => none }
def RetireAloneWrongFalsely : Prop := retireAloneRow.holds Tryz.pinned (OpenSpec.ofChange retireAloneWrong)

/-- 'limekilnlaw11.RetireFull': WHATEVER THE INPUT: true; the input reads as it did. -/
def retireFullSpec : ChangeSpec := { name := "retireFull", fn := fun _ => fun
  | [d1, d2, d3] => { results := [.lit (.bool true)], args := [d1, d2, d3] }
  | _ => none }
def retireFullRow : OpenClaim := { program := "ytfbobdkfibhcnaagreat", sum := "1f58d55500564d82eb3a76c7060f12ebbfced935f2d9ed4ee39dc6c3b0f51c80", func := "limekiln/limekilnlaw11.RetireFull", spec := "retireFull", inPlace := ["slices.overlaps[int]"], unfollowed := true, recurses := true, apart := false }
def RetireFullSaid : Prop := retireFullRow.holds Tryz.pinned (OpenSpec.ofChange retireFullSpec)

/-- ITS FALSE NEIGHBOUR: 'it returns false'. Refute it at one input. -/
def retireFullWrong : ChangeSpec := { name := "retireFull", fn := fun _ => fun
  | [d1, d2, d3] => { results := [.lit (.bool false)], args := [d1, d2, d3] }
  | _ => none }
def RetireFullWrongFalsely : Prop := retireFullRow.holds Tryz.pinned (OpenSpec.ofChange retireFullWrong)

/-- 'limekilnlaw11.RetirePlaces': WHATEVER THE INPUT: true; the input reads as it did. -/
def retirePlacesSpec : ChangeSpec := { name := "retirePlaces", fn := fun _ => fun
  | [d1, d2, d3] => { results := [.lit (.bool true)], args := [d1, d2, d3] }
  | _ => none }
def retirePlacesRow : OpenClaim := { program := "ytfbobdkfibhcnaagreat", sum := "1f58d55500564d82eb3a76c7060f12ebbfced935f2d9ed4ee39dc6c3b0f51c80", func := "limekiln/limekilnlaw11.RetirePlaces", spec := "retirePlaces", inPlace := ["slices.overlaps[int]"], unfollowed := true, recurses := true, apart := false }
def RetirePlacesSaid : Prop := retirePlacesRow.holds Tryz.pinned (OpenSpec.ofChange retirePlacesSpec)

/-- ITS FALSE NEIGHBOUR: 'it returns false'. Refute it at one input. -/
def retirePlacesWrong : ChangeSpec := { name := "retirePlaces", fn := fun _ => fun
  | [d1, d2, d3] => { results := [.lit (.bool false)], args := [d1, d2, d3] }
  | _ => none }
def RetirePlacesWrongFalsely : Prop := retirePlacesRow.holds Tryz.pinned (OpenSpec.ofChange retirePlacesWrong)

/-- 'limekilnlaw12.ArenaTakes': WHATEVER THE INPUT: true; the input reads as it did. -/
def arenaTakesSpec : ChangeSpec := { name := "arenaTakes", fn := fun _ => fun
  | [d1, d2, d3] => { results := [.lit (.bool true)], args := [d1, d2, d3] }
  | _ => none }
def arenaTakesRow : OpenClaim := { program := "ytfbobdkfibhcnaagreat", sum := "1f58d55500564d82eb3a76c7060f12ebbfced935f2d9ed4ee39dc6c3b0f51c80", func := "limekiln/limekilnlaw12.ArenaTakes", spec := "arenaTakes", inPlace := ["slices.overlaps[int]"], unfollowed := true, recurses := true, apart := false }
def ArenaTakesSaid : Prop := arenaTakesRow.holds Tryz.pinned (OpenSpec.ofChange arenaTakesSpec)

/-- ITS FALSE NEIGHBOUR: 'it returns false'. Refute it at one input. -/
def arenaTakesWrong : ChangeSpec := { name := "arenaTakes", fn := fun _ => fun
  | [d1, d2, d3] => { results := [.lit (.bool false)], args := [d1, d2, d3] }
  | _ => none }
def ArenaTakesWrongFalsely : Prop := arenaTakesRow.holds Tryz.pinned (OpenSpec.ofChange arenaTakesWrong)

/-- 'limekilnlaw12.ArenaGives': WHATEVER THE INPUT: true; the input reads as it did. -/
def arenaGivesSpec : ChangeSpec := { name := "arenaGives", fn := fun _ => fun
  | [d1, d2, d3] => { results := [.lit (.bool true)], args := [d1, d2, d3] }
  | _ => none }
def arenaGivesRow : OpenClaim := { program := "ytfbobdkfibhcnaagreat", sum := "1f58d55500564d82eb3a76c7060f12ebbfced935f2d9ed4ee39dc6c3b0f51c80", func := "limekiln/limekilnlaw12.ArenaGives", spec := "arenaGives", inPlace := ["slices.overlaps[int]"], unfollowed := true, recurses := true, apart := false }
def ArenaGivesSaid : Prop := arenaGivesRow.holds Tryz.pinned (OpenSpec.ofChange arenaGivesSpec)

/-- ITS FALSE NEIGHBOUR: 'it returns false'. Refute it at one input. -/
def arenaGivesWrong : ChangeSpec := { name := "arenaGives", fn := fun _ => fun
  | [d1, d2, d3] => { results := [.lit (.bool false)], args := [d1, d2, d3] }
  | _ => none }
def ArenaGivesWrongFalsely : Prop := arenaGivesRow.holds Tryz.pinned (OpenSpec.ofChange arenaGivesWrong)

/-- 'limekilnlaw12.ArenaAlone': WHATEVER THE INPUT: true; the input reads as it did. -/
def arenaAloneSpec : ChangeSpec := { name := "arenaAlone", fn := fun _ => fun
  | [d1, d2] => { results := [.lit (.bool true)], args := [d1, d2] }
  | _ => none }
def arenaAloneRow : OpenClaim := { program := "ytfbobdkfibhcnaagreat", sum := "1f58d55500564d82eb3a76c7060f12ebbfced935f2d9ed4ee39dc6c3b0f51c80", func := "limekiln/limekilnlaw12.ArenaAlone", spec := "arenaAlone", inPlace := ["slices.overlaps[int]"], unfollowed := true, recurses := true, apart := false }
def ArenaAloneSaid : Prop := arenaAloneRow.holds Tryz.pinned (OpenSpec.ofChange arenaAloneSpec)

/-- ITS FALSE NEIGHBOUR: 'it returns false'. Refute it at one input. -/
def arenaAloneWrong : ChangeSpec := { name := "arenaAlone", fn := fun _ => fun
  | [d1, d2] => { results := [.lit (.bool false)], args := [d1, d2] }
  | _ => none }
def ArenaAloneWrongFalsely : Prop := arenaAloneRow.holds Tryz.pinned (OpenSpec.ofChange arenaAloneWrong)

/-- 'limekilnlaw12.ArenaMany': WHATEVER THE INPUT: true; the input reads as it did. -/
def arenaManySpec : ChangeSpec := { name := "arenaMany", fn := fun _ => fun
  | [d1, d2] => { results := [.lit (.bool true)], args := [d1, d2] }
  | _ => none }
def arenaManyRow : OpenClaim := { program := "ytfbobdkfibhcnaagreat", sum := "1f58d55500564d82eb3a76c7060f12ebbfced935f2d9ed4ee39dc6c3b0f51c80", func := "limekiln/limekilnlaw12.ArenaMany", spec := "arenaMany", inPlace := ["slices.overlaps[int]"], unfollowed := true, recurses := true, apart := false }
def ArenaManySaid : Prop := arenaManyRow.holds Tryz.pinned (OpenSpec.ofChange arenaManySpec)

/-- ITS FALSE NEIGHBOUR: 'it returns false'. Refute it at one input. -/
def arenaManyWrong : ChangeSpec := { name := "arenaMany", fn := fun _ => fun
  | [d1, d2] => { results := [.lit (.bool false)], args := [d1, d2] }
  | _ => none }
def ArenaManyWrongFalsely : Prop := arenaManyRow.holds Tryz.pinned (OpenSpec.ofChange arenaManyWrong)

/- THE SECOND FORM. 'bulk': how many values and letters a reading holds, each counted each time it is reached (what is shared counts as often as it is met; a slice's spare places count too). A statement '..UptoSaid' is the law's where the arguments, and the package variables that the reading takes, are together of bulk at most 1048576: NARROWER than '..Said'. Prove '..Said' where nothing that the law and all that it calls make is longer than what came in: it says more and counts as full. Else prove '..UptoSaid'. A law counts once. -/
mutual
def uptoBulk {H : Type} : DataW H → Nat
  | .lit (.string bytes) => bytes.length + 1
  | .lit _ => 1
  | .nil => 1
  | .ptr d => uptoBulk d + 1
  | .slice elems spare => uptoBulkAll elems + uptoBulkAll spare + 1
  | .agg parts => uptoBulkAll parts + 1
  | .iface _ d => uptoBulk d + 1
  | .map entries => uptoBulkEntries entries + 1
  | .held _ => 1
def uptoBulkAll {H : Type} : List (DataW H) → Nat
  | [] => 0
  | d :: r => uptoBulk d + uptoBulkAll r
def uptoBulkEntries {H : Type} : List (Lit × DataW H) → Nat
  | [] => 0
  | x :: r => uptoBulkEntry x + uptoBulkEntries r
def uptoBulkEntry {H : Type} : Lit × DataW H → Nat
  | (.string bytes, d) => bytes.length + uptoBulk d + 1
  | (_, d) => uptoBulk d + 1
 end
def uptoSmall : (H : Type) → List (DataW H) → Bool := fun _ ds => decide (uptoBulkAll ds ≤ 1048576)
def OpenSpec.upto (s : _root_.Go.ChangeSpec) : _root_.Go.OpenSpec := { _root_.Go.OpenSpec.ofChange s with cond := some uptoSmall }

/-- 'limekilnlaw09.FreePops', WHERE WHAT IT READS IS OF BULK AT MOST 1048576: true; the input reads as it did. -/
def freePopsUptoRow : OpenClaim := { program := "ytfbobdkfibhcnaagreat", sum := "1f58d55500564d82eb3a76c7060f12ebbfced935f2d9ed4ee39dc6c3b0f51c80", func := "limekiln/limekilnlaw09.FreePops", spec := "freePops", inPlace := ["slices.overlaps[int]"], unfollowed := true, recurses := true, apart := false, narrowed := true }
def FreePopsUptoSaid : Prop := freePopsUptoRow.holds Tryz.pinned (OpenSpec.upto freePopsSpec)

/-- 'limekilnlaw09.FreePushes', WHERE WHAT IT READS IS OF BULK AT MOST 1048576: true; the input reads as it did. -/
def freePushesUptoRow : OpenClaim := { program := "ytfbobdkfibhcnaagreat", sum := "1f58d55500564d82eb3a76c7060f12ebbfced935f2d9ed4ee39dc6c3b0f51c80", func := "limekiln/limekilnlaw09.FreePushes", spec := "freePushes", inPlace := ["slices.overlaps[int]"], unfollowed := true, recurses := true, apart := false, narrowed := true }
def FreePushesUptoSaid : Prop := freePushesUptoRow.holds Tryz.pinned (OpenSpec.upto freePushesSpec)

/-- 'limekilnlaw10.EpochSteps', WHERE WHAT IT READS IS OF BULK AT MOST 1048576: true; the input reads as it did. -/
def epochStepsUptoRow : OpenClaim := { program := "ytfbobdkfibhcnaagreat", sum := "1f58d55500564d82eb3a76c7060f12ebbfced935f2d9ed4ee39dc6c3b0f51c80", func := "limekiln/limekilnlaw10.EpochSteps", spec := "epochSteps", inPlace := ["slices.overlaps[int]"], unfollowed := true, recurses := true, apart := false, narrowed := true }
def EpochStepsUptoSaid : Prop := epochStepsUptoRow.holds Tryz.pinned (OpenSpec.upto epochStepsSpec)

/-- 'limekilnlaw11.RetireSteps', WHERE WHAT IT READS IS OF BULK AT MOST 1048576: true; the input reads as it did. -/
def retireStepsUptoRow : OpenClaim := { program := "ytfbobdkfibhcnaagreat", sum := "1f58d55500564d82eb3a76c7060f12ebbfced935f2d9ed4ee39dc6c3b0f51c80", func := "limekiln/limekilnlaw11.RetireSteps", spec := "retireSteps", inPlace := ["slices.overlaps[int]"], unfollowed := true, recurses := true, apart := false, narrowed := true }
def RetireStepsUptoSaid : Prop := retireStepsUptoRow.holds Tryz.pinned (OpenSpec.upto retireStepsSpec)

/-- 'limekilnlaw11.RetireSlots', WHERE WHAT IT READS IS OF BULK AT MOST 1048576: true; the input reads as it did. -/
def retireSlotsUptoRow : OpenClaim := { program := "ytfbobdkfibhcnaagreat", sum := "1f58d55500564d82eb3a76c7060f12ebbfced935f2d9ed4ee39dc6c3b0f51c80", func := "limekiln/limekilnlaw11.RetireSlots", spec := "retireSlots", inPlace := ["slices.overlaps[int]"], unfollowed := true, recurses := true, apart := false, narrowed := true }
def RetireSlotsUptoSaid : Prop := retireSlotsUptoRow.holds Tryz.pinned (OpenSpec.upto retireSlotsSpec)

/-- 'limekilnlaw11.RetireAlone', WHERE WHAT IT READS IS OF BULK AT MOST 1048576: true; the input reads as it did. -/
def retireAloneUptoRow : OpenClaim := { program := "ytfbobdkfibhcnaagreat", sum := "1f58d55500564d82eb3a76c7060f12ebbfced935f2d9ed4ee39dc6c3b0f51c80", func := "limekiln/limekilnlaw11.RetireAlone", spec := "retireAlone", inPlace := ["slices.overlaps[int]"], unfollowed := true, recurses := true, apart := false, narrowed := true }
def RetireAloneUptoSaid : Prop := retireAloneUptoRow.holds Tryz.pinned (OpenSpec.upto retireAloneSpec)

/-- 'limekilnlaw11.RetireFull', WHERE WHAT IT READS IS OF BULK AT MOST 1048576: true; the input reads as it did. -/
def retireFullUptoRow : OpenClaim := { program := "ytfbobdkfibhcnaagreat", sum := "1f58d55500564d82eb3a76c7060f12ebbfced935f2d9ed4ee39dc6c3b0f51c80", func := "limekiln/limekilnlaw11.RetireFull", spec := "retireFull", inPlace := ["slices.overlaps[int]"], unfollowed := true, recurses := true, apart := false, narrowed := true }
def RetireFullUptoSaid : Prop := retireFullUptoRow.holds Tryz.pinned (OpenSpec.upto retireFullSpec)

/-- 'limekilnlaw11.RetirePlaces', WHERE WHAT IT READS IS OF BULK AT MOST 1048576: true; the input reads as it did. -/
def retirePlacesUptoRow : OpenClaim := { program := "ytfbobdkfibhcnaagreat", sum := "1f58d55500564d82eb3a76c7060f12ebbfced935f2d9ed4ee39dc6c3b0f51c80", func := "limekiln/limekilnlaw11.RetirePlaces", spec := "retirePlaces", inPlace := ["slices.overlaps[int]"], unfollowed := true, recurses := true, apart := false, narrowed := true }
def RetirePlacesUptoSaid : Prop := retirePlacesUptoRow.holds Tryz.pinned (OpenSpec.upto retirePlacesSpec)

/-- 'limekilnlaw12.ArenaTakes', WHERE WHAT IT READS IS OF BULK AT MOST 1048576: true; the input reads as it did. -/
def arenaTakesUptoRow : OpenClaim := { program := "ytfbobdkfibhcnaagreat", sum := "1f58d55500564d82eb3a76c7060f12ebbfced935f2d9ed4ee39dc6c3b0f51c80", func := "limekiln/limekilnlaw12.ArenaTakes", spec := "arenaTakes", inPlace := ["slices.overlaps[int]"], unfollowed := true, recurses := true, apart := false, narrowed := true }
def ArenaTakesUptoSaid : Prop := arenaTakesUptoRow.holds Tryz.pinned (OpenSpec.upto arenaTakesSpec)

/-- 'limekilnlaw12.ArenaGives', WHERE WHAT IT READS IS OF BULK AT MOST 1048576: true; the input reads as it did. -/
def arenaGivesUptoRow : OpenClaim := { program := "ytfbobdkfibhcnaagreat", sum := "1f58d55500564d82eb3a76c7060f12ebbfced935f2d9ed4ee39dc6c3b0f51c80", func := "limekiln/limekilnlaw12.ArenaGives", spec := "arenaGives", inPlace := ["slices.overlaps[int]"], unfollowed := true, recurses := true, apart := false, narrowed := true }
def ArenaGivesUptoSaid : Prop := arenaGivesUptoRow.holds Tryz.pinned (OpenSpec.upto arenaGivesSpec)

/-- 'limekilnlaw12.ArenaAlone', WHERE WHAT IT READS IS OF BULK AT MOST 1048576: true; the input reads as it did. -/
def arenaAloneUptoRow : OpenClaim := { program := "ytfbobdkfibhcnaagreat", sum := "1f58d55500564d82eb3a76c7060f12ebbfced935f2d9ed4ee39dc6c3b0f51c80", func := "limekiln/limekilnlaw12.ArenaAlone", spec := "arenaAlone", inPlace := ["slices.overlaps[int]"], unfollowed := true, recurses := true, apart := false, narrowed := true }
def ArenaAloneUptoSaid : Prop := arenaAloneUptoRow.holds Tryz.pinned (OpenSpec.upto arenaAloneSpec)

/-- 'limekilnlaw12.ArenaMany', WHERE WHAT IT READS IS OF BULK AT MOST 1048576: true; the input reads as it did. -/
def arenaManyUptoRow : OpenClaim := { program := "ytfbobdkfibhcnaagreat", sum := "1f58d55500564d82eb3a76c7060f12ebbfced935f2d9ed4ee39dc6c3b0f51c80", func := "limekiln/limekilnlaw12.ArenaMany", spec := "arenaMany", inPlace := ["slices.overlaps[int]"], unfollowed := true, recurses := true, apart := false, narrowed := true }
def ArenaManyUptoSaid : Prop := arenaManyUptoRow.holds Tryz.pinned (OpenSpec.upto arenaManySpec)

end Rows
end Go.Proofs.YtfbobdkfibhcnaaGreat
