/-
  No cell of these rows narrows 'for every input' (looked for: loops, veiled, ifaces, maps, wideKeys, modest, calm, conditions, laid).
  DERIVED. THE GIVEN ROWS OF THIS SEAT. 15 by the template 'for every input the law returns true; each argument reads behind the call as it read before'; 0 by the template 'total and deterministic' (their statements: YtndplpfbohigpaaGreatTotals.lean).
  GIVEN WITH THE SEED: the statements are not yours to turn. If you find one false, say at which input.
  Laid BY PROGRAM, IN A SANDBOX (cutbox-rows.mjs): the forced cells as the released guide's own fill.sh prints them over the translation 1e9ad33876b82b1d… (all of the seat's roots in one cut). By AI agents, Wed Nov 11 2026. No macro, syntax, notation, axiom, sorry.
-/
import Derived.Test.YtndplpfbohigpaaGreatChecked
import GoSem.Claim
import GoSem.ClaimJoined
import GoSem.ClaimMapViews
import Derived.JoinedTies
import Derived.KernelRfl
namespace Go.Proofs.YtndplpfbohigpaaGreat
/- THE CELL 'sum', in the pinned program and in every row, IS THE sha256 OF THE DUMP (.gsa) THAT YtndplpfbohigpaaGreatProg.lean LOADS. Nothing in Lean hashes anything: it is a label: what it is worth is what the hold of that sum in a sandbox is worth. -/
noncomputable def Tryz.pinned : Pinned := { name := "ytndplpfbohigpaagreat", sum := "1e9ad33876b82b1d89ed0bc081cb3f59f0eebb4cce6f2d6131cd2b8aaa4f288e", checked := Tryz.checked }
namespace Rows
def none {H : Type} : Left H := { results := [], args := [] }

/-- 'limekilnlaw11.RetireSteps': WHATEVER THE INPUT: true; the input reads as it did. -/
def retireStepsSpec : ChangeSpec := { name := "retireSteps", fn := fun _ => fun
  | [d1, d2, d3] => { results := [.lit (.bool true)], args := [d1, d2, d3] }
  | _ => none }
def retireStepsRow : OpenClaim := { program := "ytndplpfbohigpaagreat", sum := "1e9ad33876b82b1d89ed0bc081cb3f59f0eebb4cce6f2d6131cd2b8aaa4f288e", func := "limekiln/limekilnlaw11.RetireSteps", spec := "retireSteps", inPlace := ["slices.overlaps[int]"], unfollowed := true, recurses := true, apart := false }
def RetireStepsSaid : Prop := retireStepsRow.holds Tryz.pinned (OpenSpec.ofChange retireStepsSpec)

/-- ITS FALSE NEIGHBOUR: 'it returns false'. Refute it at one input. -/
def retireStepsWrong : ChangeSpec := { name := "retireSteps", fn := fun _ => fun
  | [d1, d2, d3] => { results := [.lit (.bool false)], args := [d1, d2, d3] }
  | _ => none }
def RetireStepsWrongFalsely : Prop := retireStepsRow.holds Tryz.pinned (OpenSpec.ofChange retireStepsWrong)

/-- 'limekilnlaw11.RetireAlone': WHATEVER THE INPUT: true; the input reads as it did. -/
def retireAloneSpec : ChangeSpec := { name := "retireAlone", fn := fun _ => fun
  | [d1, d2, d3] => { results := [.lit (.bool true)], args := [d1, d2, d3] }
  | _ => none }
def retireAloneRow : OpenClaim := { program := "ytndplpfbohigpaagreat", sum := "1e9ad33876b82b1d89ed0bc081cb3f59f0eebb4cce6f2d6131cd2b8aaa4f288e", func := "limekiln/limekilnlaw11.RetireAlone", spec := "retireAlone", inPlace := ["slices.overlaps[int]"], unfollowed := true, recurses := true, apart := false }
def RetireAloneSaid : Prop := retireAloneRow.holds Tryz.pinned (OpenSpec.ofChange retireAloneSpec)

/-- ITS FALSE NEIGHBOUR: 'it returns false'. Refute it at one input. -/
def retireAloneWrong : ChangeSpec := { name := "retireAlone", fn := fun _ => fun
  | [d1, d2, d3] => { results := [.lit (.bool false)], args := [d1, d2, d3] }
  | _ => none }
def RetireAloneWrongFalsely : Prop := retireAloneRow.holds Tryz.pinned (OpenSpec.ofChange retireAloneWrong)

/-- 'limekilnlaw11.RetirePlaces': WHATEVER THE INPUT: true; the input reads as it did. -/
def retirePlacesSpec : ChangeSpec := { name := "retirePlaces", fn := fun _ => fun
  | [d1, d2, d3] => { results := [.lit (.bool true)], args := [d1, d2, d3] }
  | _ => none }
def retirePlacesRow : OpenClaim := { program := "ytndplpfbohigpaagreat", sum := "1e9ad33876b82b1d89ed0bc081cb3f59f0eebb4cce6f2d6131cd2b8aaa4f288e", func := "limekiln/limekilnlaw11.RetirePlaces", spec := "retirePlaces", inPlace := ["slices.overlaps[int]"], unfollowed := true, recurses := true, apart := false }
def RetirePlacesSaid : Prop := retirePlacesRow.holds Tryz.pinned (OpenSpec.ofChange retirePlacesSpec)

/-- ITS FALSE NEIGHBOUR: 'it returns false'. Refute it at one input. -/
def retirePlacesWrong : ChangeSpec := { name := "retirePlaces", fn := fun _ => fun
  | [d1, d2, d3] => { results := [.lit (.bool false)], args := [d1, d2, d3] }
  | _ => none }
def RetirePlacesWrongFalsely : Prop := retirePlacesRow.holds Tryz.pinned (OpenSpec.ofChange retirePlacesWrong)

/-- 'limekilnlaw12.ArenaTakes': WHATEVER THE INPUT: true; the input reads as it did. -/
def arenaTakesSpec : ChangeSpec := { name := "arenaTakes", fn := fun _ => fun
  | [d1, d2, d3] => { results := [.lit (.bool true)], args := [d1, d2, d3] }
  | _ => none }
def arenaTakesRow : OpenClaim := { program := "ytndplpfbohigpaagreat", sum := "1e9ad33876b82b1d89ed0bc081cb3f59f0eebb4cce6f2d6131cd2b8aaa4f288e", func := "limekiln/limekilnlaw12.ArenaTakes", spec := "arenaTakes", inPlace := ["slices.overlaps[int]"], unfollowed := true, recurses := true, apart := false }
def ArenaTakesSaid : Prop := arenaTakesRow.holds Tryz.pinned (OpenSpec.ofChange arenaTakesSpec)

/-- ITS FALSE NEIGHBOUR: 'it returns false'. Refute it at one input. -/
def arenaTakesWrong : ChangeSpec := { name := "arenaTakes", fn := fun _ => fun
  | [d1, d2, d3] => { results := [.lit (.bool false)], args := [d1, d2, d3] }
  | _ => none }
def ArenaTakesWrongFalsely : Prop := arenaTakesRow.holds Tryz.pinned (OpenSpec.ofChange arenaTakesWrong)

/-- 'limekilnlaw12.ArenaGives': WHATEVER THE INPUT: true; the input reads as it did. -/
def arenaGivesSpec : ChangeSpec := { name := "arenaGives", fn := fun _ => fun
  | [d1, d2, d3] => { results := [.lit (.bool true)], args := [d1, d2, d3] }
  | _ => none }
def arenaGivesRow : OpenClaim := { program := "ytndplpfbohigpaagreat", sum := "1e9ad33876b82b1d89ed0bc081cb3f59f0eebb4cce6f2d6131cd2b8aaa4f288e", func := "limekiln/limekilnlaw12.ArenaGives", spec := "arenaGives", inPlace := ["slices.overlaps[int]"], unfollowed := true, recurses := true, apart := false }
def ArenaGivesSaid : Prop := arenaGivesRow.holds Tryz.pinned (OpenSpec.ofChange arenaGivesSpec)

/-- ITS FALSE NEIGHBOUR: 'it returns false'. Refute it at one input. -/
def arenaGivesWrong : ChangeSpec := { name := "arenaGives", fn := fun _ => fun
  | [d1, d2, d3] => { results := [.lit (.bool false)], args := [d1, d2, d3] }
  | _ => none }
def ArenaGivesWrongFalsely : Prop := arenaGivesRow.holds Tryz.pinned (OpenSpec.ofChange arenaGivesWrong)

/-- 'limekilnlaw12.ArenaAlone': WHATEVER THE INPUT: true; the input reads as it did. -/
def arenaAloneSpec : ChangeSpec := { name := "arenaAlone", fn := fun _ => fun
  | [d1, d2] => { results := [.lit (.bool true)], args := [d1, d2] }
  | _ => none }
def arenaAloneRow : OpenClaim := { program := "ytndplpfbohigpaagreat", sum := "1e9ad33876b82b1d89ed0bc081cb3f59f0eebb4cce6f2d6131cd2b8aaa4f288e", func := "limekiln/limekilnlaw12.ArenaAlone", spec := "arenaAlone", inPlace := ["slices.overlaps[int]"], unfollowed := true, recurses := true, apart := false }
def ArenaAloneSaid : Prop := arenaAloneRow.holds Tryz.pinned (OpenSpec.ofChange arenaAloneSpec)

/-- ITS FALSE NEIGHBOUR: 'it returns false'. Refute it at one input. -/
def arenaAloneWrong : ChangeSpec := { name := "arenaAlone", fn := fun _ => fun
  | [d1, d2] => { results := [.lit (.bool false)], args := [d1, d2] }
  | _ => none }
def ArenaAloneWrongFalsely : Prop := arenaAloneRow.holds Tryz.pinned (OpenSpec.ofChange arenaAloneWrong)

/-- 'limekilnlaw12.ArenaMany': WHATEVER THE INPUT: true; the input reads as it did. -/
def arenaManySpec : ChangeSpec := { name := "arenaMany", fn := fun _ => fun
  | [d1, d2] => { results := [.lit (.bool true)], args := [d1, d2] }
  | _ => none }
def arenaManyRow : OpenClaim := { program := "ytndplpfbohigpaagreat", sum := "1e9ad33876b82b1d89ed0bc081cb3f59f0eebb4cce6f2d6131cd2b8aaa4f288e", func := "limekiln/limekilnlaw12.ArenaMany", spec := "arenaMany", inPlace := ["slices.overlaps[int]"], unfollowed := true, recurses := true, apart := false }
def ArenaManySaid : Prop := arenaManyRow.holds Tryz.pinned (OpenSpec.ofChange arenaManySpec)

/-- ITS FALSE NEIGHBOUR: 'it returns false'. Refute it at one input. -/
def arenaManyWrong : ChangeSpec := { name := "arenaMany", fn := fun _ => fun
  | [d1, d2] => { results := [.lit (.bool false)], args := [d1, d2] }
  | _ => none }
def ArenaManyWrongFalsely : Prop := arenaManyRow.holds Tryz.pinned (OpenSpec.ofChange arenaManyWrong)

/-- 'limekilnlaw13.LinkReads': WHATEVER THE INPUT: true; the input reads as it did. -/
def linkReadsSpec : ChangeSpec := { name := "linkReads", fn := fun _ => fun
  | [d1, d2, d3] => { results := [.lit (.bool true)], args := [d1, d2, d3] }
  | _ => none }
def linkReadsRow : OpenClaim := { program := "ytndplpfbohigpaagreat", sum := "1e9ad33876b82b1d89ed0bc081cb3f59f0eebb4cce6f2d6131cd2b8aaa4f288e", func := "limekiln/limekilnlaw13.LinkReads", spec := "linkReads", inPlace := ["slices.overlaps[int]"], unfollowed := true, recurses := true, apart := false }
def LinkReadsSaid : Prop := linkReadsRow.holds Tryz.pinned (OpenSpec.ofChange linkReadsSpec)

/-- ITS FALSE NEIGHBOUR: 'it returns false'. Refute it at one input. -/
def linkReadsWrong : ChangeSpec := { name := "linkReads", fn := fun _ => fun
  | [d1, d2, d3] => { results := [.lit (.bool false)], args := [d1, d2, d3] }
  | _ => none }
def LinkReadsWrongFalsely : Prop := linkReadsRow.holds Tryz.pinned (OpenSpec.ofChange linkReadsWrong)

/-- 'limekilnlaw13.LinkSets': WHATEVER THE INPUT: true; the input reads as it did. -/
def linkSetsSpec : ChangeSpec := { name := "linkSets", fn := fun _ => fun
  | [d1, d2, d3] => { results := [.lit (.bool true)], args := [d1, d2, d3] }
  | _ => none }
def linkSetsRow : OpenClaim := { program := "ytndplpfbohigpaagreat", sum := "1e9ad33876b82b1d89ed0bc081cb3f59f0eebb4cce6f2d6131cd2b8aaa4f288e", func := "limekiln/limekilnlaw13.LinkSets", spec := "linkSets", inPlace := ["slices.overlaps[int]"], unfollowed := true, recurses := true, apart := false }
def LinkSetsSaid : Prop := linkSetsRow.holds Tryz.pinned (OpenSpec.ofChange linkSetsSpec)

/-- ITS FALSE NEIGHBOUR: 'it returns false'. Refute it at one input. -/
def linkSetsWrong : ChangeSpec := { name := "linkSets", fn := fun _ => fun
  | [d1, d2, d3] => { results := [.lit (.bool false)], args := [d1, d2, d3] }
  | _ => none }
def LinkSetsWrongFalsely : Prop := linkSetsRow.holds Tryz.pinned (OpenSpec.ofChange linkSetsWrong)

/-- 'limekilnlaw13.LinkAlone': WHATEVER THE INPUT: true; the input reads as it did. -/
def linkAloneSpec : ChangeSpec := { name := "linkAlone", fn := fun _ => fun
  | [d1, d2, d3] => { results := [.lit (.bool true)], args := [d1, d2, d3] }
  | _ => none }
def linkAloneRow : OpenClaim := { program := "ytndplpfbohigpaagreat", sum := "1e9ad33876b82b1d89ed0bc081cb3f59f0eebb4cce6f2d6131cd2b8aaa4f288e", func := "limekiln/limekilnlaw13.LinkAlone", spec := "linkAlone", inPlace := ["slices.overlaps[int]"], unfollowed := true, recurses := true, apart := false }
def LinkAloneSaid : Prop := linkAloneRow.holds Tryz.pinned (OpenSpec.ofChange linkAloneSpec)

/-- ITS FALSE NEIGHBOUR: 'it returns false'. Refute it at one input. -/
def linkAloneWrong : ChangeSpec := { name := "linkAlone", fn := fun _ => fun
  | [d1, d2, d3] => { results := [.lit (.bool false)], args := [d1, d2, d3] }
  | _ => none }
def LinkAloneWrongFalsely : Prop := linkAloneRow.holds Tryz.pinned (OpenSpec.ofChange linkAloneWrong)

/-- 'limekilnlaw13.LinkKept': WHATEVER THE INPUT: true; the input reads as it did. -/
def linkKeptSpec : ChangeSpec := { name := "linkKept", fn := fun _ => fun
  | [d1, d2] => { results := [.lit (.bool true)], args := [d1, d2] }
  | _ => none }
def linkKeptRow : OpenClaim := { program := "ytndplpfbohigpaagreat", sum := "1e9ad33876b82b1d89ed0bc081cb3f59f0eebb4cce6f2d6131cd2b8aaa4f288e", func := "limekiln/limekilnlaw13.LinkKept", spec := "linkKept", inPlace := ["slices.overlaps[int]"], unfollowed := true, recurses := true, apart := false }
def LinkKeptSaid : Prop := linkKeptRow.holds Tryz.pinned (OpenSpec.ofChange linkKeptSpec)

/-- ITS FALSE NEIGHBOUR: 'it returns false'. Refute it at one input. -/
def linkKeptWrong : ChangeSpec := { name := "linkKept", fn := fun _ => fun
  | [d1, d2] => { results := [.lit (.bool false)], args := [d1, d2] }
  | _ => none }
def LinkKeptWrongFalsely : Prop := linkKeptRow.holds Tryz.pinned (OpenSpec.ofChange linkKeptWrong)

/-- 'limekilnlaw13.LinkWins': WHATEVER THE INPUT: true; the input reads as it did. -/
def linkWinsSpec : ChangeSpec := { name := "linkWins", fn := fun _ => fun
  | [d1, d2] => { results := [.lit (.bool true)], args := [d1, d2] }
  | _ => none }
def linkWinsRow : OpenClaim := { program := "ytndplpfbohigpaagreat", sum := "1e9ad33876b82b1d89ed0bc081cb3f59f0eebb4cce6f2d6131cd2b8aaa4f288e", func := "limekiln/limekilnlaw13.LinkWins", spec := "linkWins", inPlace := ["slices.overlaps[int]"], unfollowed := true, recurses := true, apart := false }
def LinkWinsSaid : Prop := linkWinsRow.holds Tryz.pinned (OpenSpec.ofChange linkWinsSpec)

/-- ITS FALSE NEIGHBOUR: 'it returns false'. Refute it at one input. -/
def linkWinsWrong : ChangeSpec := { name := "linkWins", fn := fun _ => fun
  | [d1, d2] => { results := [.lit (.bool false)], args := [d1, d2] }
  | _ => none }
def LinkWinsWrongFalsely : Prop := linkWinsRow.holds Tryz.pinned (OpenSpec.ofChange linkWinsWrong)

/-- 'limekilnlaw14.SeekSteps': WHATEVER THE INPUT: true; the input reads as it did. -/
def seekStepsSpec : ChangeSpec := { name := "seekSteps", fn := fun _ => fun
  | [d1, d2, d3] => { results := [.lit (.bool true)], args := [d1, d2, d3] }
  | _ => none }
def seekStepsRow : OpenClaim := { program := "ytndplpfbohigpaagreat", sum := "1e9ad33876b82b1d89ed0bc081cb3f59f0eebb4cce6f2d6131cd2b8aaa4f288e", func := "limekiln/limekilnlaw14.SeekSteps", spec := "seekSteps", inPlace := ["slices.overlaps[int]"], unfollowed := true, recurses := true, apart := false }
def SeekStepsSaid : Prop := seekStepsRow.holds Tryz.pinned (OpenSpec.ofChange seekStepsSpec)

/-- ITS FALSE NEIGHBOUR: 'it returns false'. Refute it at one input. -/
def seekStepsWrong : ChangeSpec := { name := "seekSteps", fn := fun _ => fun
  | [d1, d2, d3] => { results := [.lit (.bool false)], args := [d1, d2, d3] }
  | _ => none }
def SeekStepsWrongFalsely : Prop := seekStepsRow.holds Tryz.pinned (OpenSpec.ofChange seekStepsWrong)

/-- 'limekilnlaw14.SeekSlots': WHATEVER THE INPUT: true; the input reads as it did. -/
def seekSlotsSpec : ChangeSpec := { name := "seekSlots", fn := fun _ => fun
  | [d1, d2] => { results := [.lit (.bool true)], args := [d1, d2] }
  | _ => none }
def seekSlotsRow : OpenClaim := { program := "ytndplpfbohigpaagreat", sum := "1e9ad33876b82b1d89ed0bc081cb3f59f0eebb4cce6f2d6131cd2b8aaa4f288e", func := "limekiln/limekilnlaw14.SeekSlots", spec := "seekSlots", inPlace := ["slices.overlaps[int]"], unfollowed := true, recurses := true, apart := false }
def SeekSlotsSaid : Prop := seekSlotsRow.holds Tryz.pinned (OpenSpec.ofChange seekSlotsSpec)

/-- ITS FALSE NEIGHBOUR: 'it returns false'. Refute it at one input. -/
def seekSlotsWrong : ChangeSpec := { name := "seekSlots", fn := fun _ => fun
  | [d1, d2] => { results := [.lit (.bool false)], args := [d1, d2] }
  | _ => none }
def SeekSlotsWrongFalsely : Prop := seekSlotsRow.holds Tryz.pinned (OpenSpec.ofChange seekSlotsWrong)

/-- 'limekilnlaw14.SeekAlone': WHATEVER THE INPUT: true; the input reads as it did. -/
def seekAloneSpec : ChangeSpec := { name := "seekAlone", fn := fun _ => fun
  | [d1, d2, d3] => { results := [.lit (.bool true)], args := [d1, d2, d3] }
  | _ => none }
def seekAloneRow : OpenClaim := { program := "ytndplpfbohigpaagreat", sum := "1e9ad33876b82b1d89ed0bc081cb3f59f0eebb4cce6f2d6131cd2b8aaa4f288e", func := "limekiln/limekilnlaw14.SeekAlone", spec := "seekAlone", inPlace := ["slices.overlaps[int]"], unfollowed := true, recurses := true, apart := false }
def SeekAloneSaid : Prop := seekAloneRow.holds Tryz.pinned (OpenSpec.ofChange seekAloneSpec)

/-- ITS FALSE NEIGHBOUR: 'it returns false'. Refute it at one input. -/
def seekAloneWrong : ChangeSpec := { name := "seekAlone", fn := fun _ => fun
  | [d1, d2, d3] => { results := [.lit (.bool false)], args := [d1, d2, d3] }
  | _ => none }
def SeekAloneWrongFalsely : Prop := seekAloneRow.holds Tryz.pinned (OpenSpec.ofChange seekAloneWrong)

/- THE SECOND FORM. 'bulk': how many values and letters a reading holds, each counted each time it is reached (what is shared counts as often as it is met; a slice's spare places count too). A statement '..UptoSaid' is the law's where the arguments, and the package variables that the reading takes, are together of bulk at most 1048576: NARROWER than '..Said'. Prove '..Said' where nothing that the law and all that it calls make is longer than what came in: it says more and counts as full. Else prove '..UptoSaid'. A law counts once. -/
mutual
def uptoBulk {H : Type} : DataW H → Nat
  | .lit (.string bytes) => bytes.length + 1
  | .lit _ => 1
  | .nil => 1
  | .ptr d => uptoBulk d + 1
  | .slice elems spare => uptoBulkAll elems + uptoBulkAll spare + 1
  | .agg parts => uptoBulkAll parts + 1
  | .iface _ d => uptoBulk d + 1
  | .map entries => uptoBulkEntries entries + 1
  | .held _ => 1
def uptoBulkAll {H : Type} : List (DataW H) → Nat
  | [] => 0
  | d :: r => uptoBulk d + uptoBulkAll r
def uptoBulkEntries {H : Type} : List (Lit × DataW H) → Nat
  | [] => 0
  | x :: r => uptoBulkEntry x + uptoBulkEntries r
def uptoBulkEntry {H : Type} : Lit × DataW H → Nat
  | (.string bytes, d) => bytes.length + uptoBulk d + 1
  | (_, d) => uptoBulk d + 1
 end
def uptoSmall : (H : Type) → List (DataW H) → Bool := fun _ ds => decide (uptoBulkAll ds ≤ 1048576)
def OpenSpec.upto (s : _root_.Go.ChangeSpec) : _root_.Go.OpenSpec := { _root_.Go.OpenSpec.ofChange s with cond := some uptoSmall }

/-- 'limekilnlaw11.RetireSteps', WHERE WHAT IT READS IS OF BULK AT MOST 1048576: true; the input reads as it did. -/
def retireStepsUptoRow : OpenClaim := { program := "ytndplpfbohigpaagreat", sum := "1e9ad33876b82b1d89ed0bc081cb3f59f0eebb4cce6f2d6131cd2b8aaa4f288e", func := "limekiln/limekilnlaw11.RetireSteps", spec := "retireSteps", inPlace := ["slices.overlaps[int]"], unfollowed := true, recurses := true, apart := false, narrowed := true }
def RetireStepsUptoSaid : Prop := retireStepsUptoRow.holds Tryz.pinned (OpenSpec.upto retireStepsSpec)

/-- 'limekilnlaw11.RetireAlone', WHERE WHAT IT READS IS OF BULK AT MOST 1048576: true; the input reads as it did. -/
def retireAloneUptoRow : OpenClaim := { program := "ytndplpfbohigpaagreat", sum := "1e9ad33876b82b1d89ed0bc081cb3f59f0eebb4cce6f2d6131cd2b8aaa4f288e", func := "limekiln/limekilnlaw11.RetireAlone", spec := "retireAlone", inPlace := ["slices.overlaps[int]"], unfollowed := true, recurses := true, apart := false, narrowed := true }
def RetireAloneUptoSaid : Prop := retireAloneUptoRow.holds Tryz.pinned (OpenSpec.upto retireAloneSpec)

/-- 'limekilnlaw11.RetirePlaces', WHERE WHAT IT READS IS OF BULK AT MOST 1048576: true; the input reads as it did. -/
def retirePlacesUptoRow : OpenClaim := { program := "ytndplpfbohigpaagreat", sum := "1e9ad33876b82b1d89ed0bc081cb3f59f0eebb4cce6f2d6131cd2b8aaa4f288e", func := "limekiln/limekilnlaw11.RetirePlaces", spec := "retirePlaces", inPlace := ["slices.overlaps[int]"], unfollowed := true, recurses := true, apart := false, narrowed := true }
def RetirePlacesUptoSaid : Prop := retirePlacesUptoRow.holds Tryz.pinned (OpenSpec.upto retirePlacesSpec)

/-- 'limekilnlaw12.ArenaTakes', WHERE WHAT IT READS IS OF BULK AT MOST 1048576: true; the input reads as it did. -/
def arenaTakesUptoRow : OpenClaim := { program := "ytndplpfbohigpaagreat", sum := "1e9ad33876b82b1d89ed0bc081cb3f59f0eebb4cce6f2d6131cd2b8aaa4f288e", func := "limekiln/limekilnlaw12.ArenaTakes", spec := "arenaTakes", inPlace := ["slices.overlaps[int]"], unfollowed := true, recurses := true, apart := false, narrowed := true }
def ArenaTakesUptoSaid : Prop := arenaTakesUptoRow.holds Tryz.pinned (OpenSpec.upto arenaTakesSpec)

/-- 'limekilnlaw12.ArenaGives', WHERE WHAT IT READS IS OF BULK AT MOST 1048576: true; the input reads as it did. -/
def arenaGivesUptoRow : OpenClaim := { program := "ytndplpfbohigpaagreat", sum := "1e9ad33876b82b1d89ed0bc081cb3f59f0eebb4cce6f2d6131cd2b8aaa4f288e", func := "limekiln/limekilnlaw12.ArenaGives", spec := "arenaGives", inPlace := ["slices.overlaps[int]"], unfollowed := true, recurses := true, apart := false, narrowed := true }
def ArenaGivesUptoSaid : Prop := arenaGivesUptoRow.holds Tryz.pinned (OpenSpec.upto arenaGivesSpec)

/-- 'limekilnlaw12.ArenaAlone', WHERE WHAT IT READS IS OF BULK AT MOST 1048576: true; the input reads as it did. -/
def arenaAloneUptoRow : OpenClaim := { program := "ytndplpfbohigpaagreat", sum := "1e9ad33876b82b1d89ed0bc081cb3f59f0eebb4cce6f2d6131cd2b8aaa4f288e", func := "limekiln/limekilnlaw12.ArenaAlone", spec := "arenaAlone", inPlace := ["slices.overlaps[int]"], unfollowed := true, recurses := true, apart := false, narrowed := true }
def ArenaAloneUptoSaid : Prop := arenaAloneUptoRow.holds Tryz.pinned (OpenSpec.upto arenaAloneSpec)

/-- 'limekilnlaw12.ArenaMany', WHERE WHAT IT READS IS OF BULK AT MOST 1048576: true; the input reads as it did. -/
def arenaManyUptoRow : OpenClaim := { program := "ytndplpfbohigpaagreat", sum := "1e9ad33876b82b1d89ed0bc081cb3f59f0eebb4cce6f2d6131cd2b8aaa4f288e", func := "limekiln/limekilnlaw12.ArenaMany", spec := "arenaMany", inPlace := ["slices.overlaps[int]"], unfollowed := true, recurses := true, apart := false, narrowed := true }
def ArenaManyUptoSaid : Prop := arenaManyUptoRow.holds Tryz.pinned (OpenSpec.upto arenaManySpec)

/-- 'limekilnlaw13.LinkReads', WHERE WHAT IT READS IS OF BULK AT MOST 1048576: true; the input reads as it did. -/
def linkReadsUptoRow : OpenClaim := { program := "ytndplpfbohigpaagreat", sum := "1e9ad33876b82b1d89ed0bc081cb3f59f0eebb4cce6f2d6131cd2b8aaa4f288e", func := "limekiln/limekilnlaw13.LinkReads", spec := "linkReads", inPlace := ["slices.overlaps[int]"], unfollowed := true, recurses := true, apart := false, narrowed := true }
def LinkReadsUptoSaid : Prop := linkReadsUptoRow.holds Tryz.pinned (OpenSpec.upto linkReadsSpec)

/-- 'limekilnlaw13.LinkSets', WHERE WHAT IT READS IS OF BULK AT MOST 1048576: true; the input reads as it did. -/
def linkSetsUptoRow : OpenClaim := { program := "ytndplpfbohigpaagreat", sum := "1e9ad33876b82b1d89ed0bc081cb3f59f0eebb4cce6f2d6131cd2b8aaa4f288e", func := "limekiln/limekilnlaw13.LinkSets", spec := "linkSets", inPlace := ["slices.overlaps[int]"], unfollowed := true, recurses := true, apart := false, narrowed := true }
def LinkSetsUptoSaid : Prop := linkSetsUptoRow.holds Tryz.pinned (OpenSpec.upto linkSetsSpec)

/-- 'limekilnlaw13.LinkAlone', WHERE WHAT IT READS IS OF BULK AT MOST 1048576: true; the input reads as it did. -/
def linkAloneUptoRow : OpenClaim := { program := "ytndplpfbohigpaagreat", sum := "1e9ad33876b82b1d89ed0bc081cb3f59f0eebb4cce6f2d6131cd2b8aaa4f288e", func := "limekiln/limekilnlaw13.LinkAlone", spec := "linkAlone", inPlace := ["slices.overlaps[int]"], unfollowed := true, recurses := true, apart := false, narrowed := true }
def LinkAloneUptoSaid : Prop := linkAloneUptoRow.holds Tryz.pinned (OpenSpec.upto linkAloneSpec)

/-- 'limekilnlaw13.LinkKept', WHERE WHAT IT READS IS OF BULK AT MOST 1048576: true; the input reads as it did. -/
def linkKeptUptoRow : OpenClaim := { program := "ytndplpfbohigpaagreat", sum := "1e9ad33876b82b1d89ed0bc081cb3f59f0eebb4cce6f2d6131cd2b8aaa4f288e", func := "limekiln/limekilnlaw13.LinkKept", spec := "linkKept", inPlace := ["slices.overlaps[int]"], unfollowed := true, recurses := true, apart := false, narrowed := true }
def LinkKeptUptoSaid : Prop := linkKeptUptoRow.holds Tryz.pinned (OpenSpec.upto linkKeptSpec)

/-- 'limekilnlaw13.LinkWins', WHERE WHAT IT READS IS OF BULK AT MOST 1048576: true; the input reads as it did. -/
def linkWinsUptoRow : OpenClaim := { program := "ytndplpfbohigpaagreat", sum := "1e9ad33876b82b1d89ed0bc081cb3f59f0eebb4cce6f2d6131cd2b8aaa4f288e", func := "limekiln/limekilnlaw13.LinkWins", spec := "linkWins", inPlace := ["slices.overlaps[int]"], unfollowed := true, recurses := true, apart := false, narrowed := true }
def LinkWinsUptoSaid : Prop := linkWinsUptoRow.holds Tryz.pinned (OpenSpec.upto linkWinsSpec)

/-- 'limekilnlaw14.SeekSteps', WHERE WHAT IT READS IS OF BULK AT MOST 1048576: true; the input reads as it did. -/
def seekStepsUptoRow : OpenClaim := { program := "ytndplpfbohigpaagreat", sum := "1e9ad33876b82b1d89ed0bc081cb3f59f0eebb4cce6f2d6131cd2b8aaa4f288e", func := "limekiln/limekilnlaw14.SeekSteps", spec := "seekSteps", inPlace := ["slices.overlaps[int]"], unfollowed := true, recurses := true, apart := false, narrowed := true }
def SeekStepsUptoSaid : Prop := seekStepsUptoRow.holds Tryz.pinned (OpenSpec.upto seekStepsSpec)

/-- 'limekilnlaw14.SeekSlots', WHERE WHAT IT READS IS OF BULK AT MOST 1048576: true; the input reads as it did. -/
def seekSlotsUptoRow : OpenClaim := { program := "ytndplpfbohigpaagreat", sum := "1e9ad33876b82b1d89ed0bc081cb3f59f0eebb4cce6f2d6131cd2b8aaa4f288e", func := "limekiln/limekilnlaw14.SeekSlots", spec := "seekSlots", inPlace := ["slices.overlaps[int]"], unfollowed := true, recurses := true, apart := false, narrowed := true }
def SeekSlotsUptoSaid : Prop := seekSlotsUptoRow.holds Tryz.pinned (OpenSpec.upto seekSlotsSpec)

/-- 'limekilnlaw14.SeekAlone', WHERE WHAT IT READS IS OF BULK AT MOST 1048576: true; the input reads as it did. -/
def seekAloneUptoRow : OpenClaim := { program := "ytndplpfbohigpaagreat", sum := "1e9ad33876b82b1d89ed0bc081cb3f59f0eebb4cce6f2d6131cd2b8aaa4f288e", func := "limekiln/limekilnlaw14.SeekAlone", spec := "seekAlone", inPlace := ["slices.overlaps[int]"], unfollowed := true, recurses := true, apart := false, narrowed := true }
def SeekAloneUptoSaid : Prop := seekAloneUptoRow.holds Tryz.pinned (OpenSpec.upto seekAloneSpec)

end Rows
end Go.Proofs.YtndplpfbohigpaaGreat
