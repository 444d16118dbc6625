/-
  No cell of these rows narrows 'for every input' (looked for: loops, veiled, ifaces, maps, wideKeys, modest, calm, conditions, laid).
  DERIVED. THE GIVEN ROWS OF THIS SEAT. 7 by the template 'for every input the law returns true; each argument reads behind the call as it read before'; 0 by the template 'total and deterministic' (their statements: YtfjfeomkmhbpbaaGreatTotals.lean).
  GIVEN WITH THE SEED: the statements are not yours to turn. If you find one false, say at which input.
  Laid BY PROGRAM, IN A SANDBOX (cutbox-rows.mjs): the forced cells as the released guide's own fill.sh prints them over the translation cdc9bad300a312bc… (all of the seat's roots in one cut). By AI agents, Wed Nov 11 2026. No macro, syntax, notation, axiom, sorry.
-/
import Derived.Test.YtfjfeomkmhbpbaaGreatChecked
import GoSem.Claim
import GoSem.ClaimJoined
import GoSem.ClaimMapViews
import Derived.JoinedTies
import Derived.KernelRfl
namespace Go.Proofs.YtfjfeomkmhbpbaaGreat
/- THE CELL 'sum', in the pinned program and in every row, IS THE sha256 OF THE DUMP (.gsa) THAT YtfjfeomkmhbpbaaGreatProg.lean LOADS. Nothing in Lean hashes anything: it is a label: what it is worth is what the hold of that sum in a sandbox is worth. -/
noncomputable def Tryz.pinned : Pinned := { name := "ytfjfeomkmhbpbaagreat", sum := "cdc9bad300a312bceb033dad32644bdc736ee4840816f25c14bd4881383a6058", checked := Tryz.checked }
namespace Rows
def none {H : Type} : Left H := { results := [], args := [] }

/-- 'limekilnlaw11.RetireSteps': WHATEVER THE INPUT: true; the input reads as it did. -/
def retireStepsSpec : ChangeSpec := { name := "retireSteps", fn := fun _ => fun
  | [d1, d2, d3] => { results := [.lit (.bool true)], args := [d1, d2, d3] }
  | _ => none }
def retireStepsRow : OpenClaim := { program := "ytfjfeomkmhbpbaagreat", sum := "cdc9bad300a312bceb033dad32644bdc736ee4840816f25c14bd4881383a6058", func := "limekiln/limekilnlaw11.RetireSteps", spec := "retireSteps", inPlace := ["slices.overlaps[int]"], unfollowed := true, recurses := true, apart := false }
def RetireStepsSaid : Prop := retireStepsRow.holds Tryz.pinned (OpenSpec.ofChange retireStepsSpec)

/-- ITS FALSE NEIGHBOUR: 'it returns false'. Refute it at one input. -/
def retireStepsWrong : ChangeSpec := { name := "retireSteps", fn := fun _ => fun
  | [d1, d2, d3] => { results := [.lit (.bool false)], args := [d1, d2, d3] }
  | _ => none }
def RetireStepsWrongFalsely : Prop := retireStepsRow.holds Tryz.pinned (OpenSpec.ofChange retireStepsWrong)

/-- 'limekilnlaw12.ArenaGives': WHATEVER THE INPUT: true; the input reads as it did. -/
def arenaGivesSpec : ChangeSpec := { name := "arenaGives", fn := fun _ => fun
  | [d1, d2, d3] => { results := [.lit (.bool true)], args := [d1, d2, d3] }
  | _ => none }
def arenaGivesRow : OpenClaim := { program := "ytfjfeomkmhbpbaagreat", sum := "cdc9bad300a312bceb033dad32644bdc736ee4840816f25c14bd4881383a6058", func := "limekiln/limekilnlaw12.ArenaGives", spec := "arenaGives", inPlace := ["slices.overlaps[int]"], unfollowed := true, recurses := true, apart := false }
def ArenaGivesSaid : Prop := arenaGivesRow.holds Tryz.pinned (OpenSpec.ofChange arenaGivesSpec)

/-- ITS FALSE NEIGHBOUR: 'it returns false'. Refute it at one input. -/
def arenaGivesWrong : ChangeSpec := { name := "arenaGives", fn := fun _ => fun
  | [d1, d2, d3] => { results := [.lit (.bool false)], args := [d1, d2, d3] }
  | _ => none }
def ArenaGivesWrongFalsely : Prop := arenaGivesRow.holds Tryz.pinned (OpenSpec.ofChange arenaGivesWrong)

/-- 'limekilnlaw12.ArenaTakes': WHATEVER THE INPUT: true; the input reads as it did. -/
def arenaTakesSpec : ChangeSpec := { name := "arenaTakes", fn := fun _ => fun
  | [d1, d2, d3] => { results := [.lit (.bool true)], args := [d1, d2, d3] }
  | _ => none }
def arenaTakesRow : OpenClaim := { program := "ytfjfeomkmhbpbaagreat", sum := "cdc9bad300a312bceb033dad32644bdc736ee4840816f25c14bd4881383a6058", func := "limekiln/limekilnlaw12.ArenaTakes", spec := "arenaTakes", inPlace := ["slices.overlaps[int]"], unfollowed := true, recurses := true, apart := false }
def ArenaTakesSaid : Prop := arenaTakesRow.holds Tryz.pinned (OpenSpec.ofChange arenaTakesSpec)

/-- ITS FALSE NEIGHBOUR: 'it returns false'. Refute it at one input. -/
def arenaTakesWrong : ChangeSpec := { name := "arenaTakes", fn := fun _ => fun
  | [d1, d2, d3] => { results := [.lit (.bool false)], args := [d1, d2, d3] }
  | _ => none }
def ArenaTakesWrongFalsely : Prop := arenaTakesRow.holds Tryz.pinned (OpenSpec.ofChange arenaTakesWrong)

/-- 'limekilnlaw12.ArenaAlone': WHATEVER THE INPUT: true; the input reads as it did. -/
def arenaAloneSpec : ChangeSpec := { name := "arenaAlone", fn := fun _ => fun
  | [d1, d2] => { results := [.lit (.bool true)], args := [d1, d2] }
  | _ => none }
def arenaAloneRow : OpenClaim := { program := "ytfjfeomkmhbpbaagreat", sum := "cdc9bad300a312bceb033dad32644bdc736ee4840816f25c14bd4881383a6058", func := "limekiln/limekilnlaw12.ArenaAlone", spec := "arenaAlone", inPlace := ["slices.overlaps[int]"], unfollowed := true, recurses := true, apart := false }
def ArenaAloneSaid : Prop := arenaAloneRow.holds Tryz.pinned (OpenSpec.ofChange arenaAloneSpec)

/-- ITS FALSE NEIGHBOUR: 'it returns false'. Refute it at one input. -/
def arenaAloneWrong : ChangeSpec := { name := "arenaAlone", fn := fun _ => fun
  | [d1, d2] => { results := [.lit (.bool false)], args := [d1, d2] }
  | _ => none }
def ArenaAloneWrongFalsely : Prop := arenaAloneRow.holds Tryz.pinned (OpenSpec.ofChange arenaAloneWrong)

/-- 'limekilnlaw12.ArenaMany': WHATEVER THE INPUT: true; the input reads as it did. -/
def arenaManySpec : ChangeSpec := { name := "arenaMany", fn := fun _ => fun
  | [d1, d2] => { results := [.lit (.bool true)], args := [d1, d2] }
  | _ => none }
def arenaManyRow : OpenClaim := { program := "ytfjfeomkmhbpbaagreat", sum := "cdc9bad300a312bceb033dad32644bdc736ee4840816f25c14bd4881383a6058", func := "limekiln/limekilnlaw12.ArenaMany", spec := "arenaMany", inPlace := ["slices.overlaps[int]"], unfollowed := true, recurses := true, apart := false }
def ArenaManySaid : Prop := arenaManyRow.holds Tryz.pinned (OpenSpec.ofChange arenaManySpec)

/-- ITS FALSE NEIGHBOUR: 'it returns false'. Refute it at one input. -/
def arenaManyWrong : ChangeSpec := { name := "arenaMany", fn := fun _ => fun
  | [d1, d2] => { results := [.lit (.bool false)], args := [d1, d2] }
  | _ => none }
def ArenaManyWrongFalsely : Prop := arenaManyRow.holds Tryz.pinned (OpenSpec.ofChange arenaManyWrong)

/-- 'limekilnlaw14.SeekSteps': WHATEVER THE INPUT: true; the input reads as it did. -/
def seekStepsSpec : ChangeSpec := { name := "seekSteps", fn := fun _ => fun
  | [d1, d2, d3] => { results := [.lit (.bool true)], args := [d1, d2, d3] }
  | _ => none }
def seekStepsRow : OpenClaim := { program := "ytfjfeomkmhbpbaagreat", sum := "cdc9bad300a312bceb033dad32644bdc736ee4840816f25c14bd4881383a6058", func := "limekiln/limekilnlaw14.SeekSteps", spec := "seekSteps", inPlace := ["slices.overlaps[int]"], unfollowed := true, recurses := true, apart := false }
def SeekStepsSaid : Prop := seekStepsRow.holds Tryz.pinned (OpenSpec.ofChange seekStepsSpec)

/-- ITS FALSE NEIGHBOUR: 'it returns false'. Refute it at one input. -/
def seekStepsWrong : ChangeSpec := { name := "seekSteps", fn := fun _ => fun
  | [d1, d2, d3] => { results := [.lit (.bool false)], args := [d1, d2, d3] }
  | _ => none }
def SeekStepsWrongFalsely : Prop := seekStepsRow.holds Tryz.pinned (OpenSpec.ofChange seekStepsWrong)

/-- 'limekilnlaw14.SeekAlone': WHATEVER THE INPUT: true; the input reads as it did. -/
def seekAloneSpec : ChangeSpec := { name := "seekAlone", fn := fun _ => fun
  | [d1, d2, d3] => { results := [.lit (.bool true)], args := [d1, d2, d3] }
  | _ => none }
def seekAloneRow : OpenClaim := { program := "ytfjfeomkmhbpbaagreat", sum := "cdc9bad300a312bceb033dad32644bdc736ee4840816f25c14bd4881383a6058", func := "limekiln/limekilnlaw14.SeekAlone", spec := "seekAlone", inPlace := ["slices.overlaps[int]"], unfollowed := true, recurses := true, apart := false }
def SeekAloneSaid : Prop := seekAloneRow.holds Tryz.pinned (OpenSpec.ofChange seekAloneSpec)

/-- ITS FALSE NEIGHBOUR: 'it returns false'. Refute it at one input. -/
def seekAloneWrong : ChangeSpec := { name := "seekAlone", fn := fun _ => fun
  | [d1, d2, d3] => { results := [.lit (.bool false)], args := [d1, d2, d3] }
  | _ => none }
def SeekAloneWrongFalsely : Prop := seekAloneRow.holds Tryz.pinned (OpenSpec.ofChange seekAloneWrong)

/- THE SECOND FORM. 'bulk': how many values and letters a reading holds, each counted each time it is reached (what is shared counts as often as it is met; a slice's spare places count too). A statement '..UptoSaid' is the law's where the arguments, and the package variables that the reading takes, are together of bulk at most 1048576: NARROWER than '..Said'. Prove '..Said' where nothing that the law and all that it calls make is longer than what came in: it says more and counts as full. Else prove '..UptoSaid'. A law counts once. -/
mutual
def uptoBulk {H : Type} : DataW H → Nat
  | .lit (.string bytes) => bytes.length + 1
  | .lit _ => 1
  | .nil => 1
  | .ptr d => uptoBulk d + 1
  | .slice elems spare => uptoBulkAll elems + uptoBulkAll spare + 1
  | .agg parts => uptoBulkAll parts + 1
  | .iface _ d => uptoBulk d + 1
  | .map entries => uptoBulkEntries entries + 1
  | .held _ => 1
def uptoBulkAll {H : Type} : List (DataW H) → Nat
  | [] => 0
  | d :: r => uptoBulk d + uptoBulkAll r
def uptoBulkEntries {H : Type} : List (Lit × DataW H) → Nat
  | [] => 0
  | x :: r => uptoBulkEntry x + uptoBulkEntries r
def uptoBulkEntry {H : Type} : Lit × DataW H → Nat
  | (.string bytes, d) => bytes.length + uptoBulk d + 1
  | (_, d) => uptoBulk d + 1
 end
def uptoSmall : (H : Type) → List (DataW H) → Bool := fun _ ds => decide (uptoBulkAll ds ≤ 1048576)
def OpenSpec.upto (s : _root_.Go.ChangeSpec) : _root_.Go.OpenSpec := { _root_.Go.OpenSpec.ofChange s with cond := some uptoSmall }

/-- 'limekilnlaw11.RetireSteps', WHERE WHAT IT READS IS OF BULK AT MOST 1048576: true; the input reads as it did. -/
def retireStepsUptoRow : OpenClaim := { program := "ytfjfeomkmhbpbaagreat", sum := "cdc9bad300a312bceb033dad32644bdc736ee4840816f25c14bd4881383a6058", func := "limekiln/limekilnlaw11.RetireSteps", spec := "retireSteps", inPlace := ["slices.overlaps[int]"], unfollowed := true, recurses := true, apart := false, narrowed := true }
def RetireStepsUptoSaid : Prop := retireStepsUptoRow.holds Tryz.pinned (OpenSpec.upto retireStepsSpec)

/-- 'limekilnlaw12.ArenaGives', WHERE WHAT IT READS IS OF BULK AT MOST 1048576: true; the input reads as it did. -/
def arenaGivesUptoRow : OpenClaim := { program := "ytfjfeomkmhbpbaagreat", sum := "cdc9bad300a312bceb033dad32644bdc736ee4840816f25c14bd4881383a6058", func := "limekiln/limekilnlaw12.ArenaGives", spec := "arenaGives", inPlace := ["slices.overlaps[int]"], unfollowed := true, recurses := true, apart := false, narrowed := true }
def ArenaGivesUptoSaid : Prop := arenaGivesUptoRow.holds Tryz.pinned (OpenSpec.upto arenaGivesSpec)

/-- 'limekilnlaw12.ArenaTakes', WHERE WHAT IT READS IS OF BULK AT MOST 1048576: true; the input reads as it did. -/
def arenaTakesUptoRow : OpenClaim := { program := "ytfjfeomkmhbpbaagreat", sum := "cdc9bad300a312bceb033dad32644bdc736ee4840816f25c14bd4881383a6058", func := "limekiln/limekilnlaw12.ArenaTakes", spec := "arenaTakes", inPlace := ["slices.overlaps[int]"], unfollowed := true, recurses := true, apart := false, narrowed := true }
def ArenaTakesUptoSaid : Prop := arenaTakesUptoRow.holds Tryz.pinned (OpenSpec.upto arenaTakesSpec)

/-- 'limekilnlaw12.ArenaAlone', WHERE WHAT IT READS IS OF BULK AT MOST 1048576: true; the input reads as it did. -/
def arenaAloneUptoRow : OpenClaim := { program := "ytfjfeomkmhbpbaagreat", sum := "cdc9bad300a312bceb033dad32644bdc736ee4840816f25c14bd4881383a6058", func := "limekiln/limekilnlaw12.ArenaAlone", spec := "arenaAlone", inPlace := ["slices.overlaps[int]"], unfollowed := true, recurses := true, apart := false, narrowed := true }
def ArenaAloneUptoSaid : Prop := arenaAloneUptoRow.holds Tryz.pinned (OpenSpec.upto arenaAloneSpec)

/-- 'limekilnlaw12.ArenaMany', WHERE WHAT IT READS IS OF BULK AT MOST 1048576: true; the input reads as it did. -/
def arenaManyUptoRow : OpenClaim := { program := "ytfjfeomkmhbpbaagreat", sum := "cdc9bad300a312bceb033dad32644bdc736ee4840816f25c14bd4881383a6058", func := "limekiln/limekilnlaw12.ArenaMany", spec := "arenaMany", inPlace := ["slices.overlaps[int]"], unfollowed := true, recurses := true, apart := false, narrowed := true }
def ArenaManyUptoSaid : Prop := arenaManyUptoRow.holds Tryz.pinned (OpenSpec.upto arenaManySpec)

/-- 'limekilnlaw14.SeekSteps', WHERE WHAT IT READS IS OF BULK AT MOST 1048576: true; the input reads as it did. -/
def seekStepsUptoRow : OpenClaim := { program := "ytfjfeomkmhbpbaagreat", sum := "cdc9bad300a312bceb033dad32644bdc736ee4840816f25c14bd4881383a6058", func := "limekiln/limekilnlaw14.SeekSteps", spec := "seekSteps", inPlace := ["slices.overlaps[int]"], unfollowed := true, recurses := true, apart := false, narrowed := true }
def SeekStepsUptoSaid : Prop := seekStepsUptoRow.holds Tryz.pinned (OpenSpec.upto seekStepsSpec)

/-- 'limekilnlaw14.SeekAlone', WHERE WHAT IT READS IS OF BULK AT MOST 1048576: true; the input reads as it did. -/
def seekAloneUptoRow : OpenClaim := { program := "ytfjfeomkmhbpbaagreat", sum := "cdc9bad300a312bceb033dad32644bdc736ee4840816f25c14bd4881383a6058", func := "limekiln/limekilnlaw14.SeekAlone", spec := "seekAlone", inPlace := ["slices.overlaps[int]"], unfollowed := true, recurses := true, apart := false, narrowed := true }
def SeekAloneUptoSaid : Prop := seekAloneUptoRow.holds Tryz.pinned (OpenSpec.upto seekAloneSpec)

end Rows
end Go.Proofs.YtfjfeomkmhbpbaaGreat
