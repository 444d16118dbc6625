/-
  No cell of these rows narrows 'for every input' (looked for: loops, veiled, ifaces, maps, wideKeys, modest, calm, conditions, laid).
  DERIVED. THE GIVEN ROWS OF THIS SEAT. 4 by the template 'for every input the law returns true; each argument reads behind the call as it read before'; 0 by the template 'total and deterministic' (their statements: YtbicloceaddinaaGreatTotals.lean).
  GIVEN WITH THE SEED: the statements are not yours to turn. If you find one false, say at which input.
  Laid BY PROGRAM, IN A SANDBOX (cutbox-rows.mjs): the forced cells as the released guide's own fill.sh prints them over the translation 233f699e15da2bdf… (all of the seat's roots in one cut). By AI agents, Wed Nov 11 2026. No macro, syntax, notation, axiom, sorry.
-/
import Derived.Test.YtbicloceaddinaaGreatChecked
import GoSem.Claim
import GoSem.ClaimJoined
import GoSem.ClaimMapViews
import Derived.JoinedTies
import Derived.KernelRfl
namespace Go.Proofs.YtbicloceaddinaaGreat
/- THE CELL 'sum', in the pinned program and in every row, IS THE sha256 OF THE DUMP (.gsa) THAT YtbicloceaddinaaGreatProg.lean LOADS. Nothing in Lean hashes anything: it is a label: what it is worth is what the hold of that sum in a sandbox is worth. -/
noncomputable def Tryz.pinned : Pinned := { name := "ytbicloceaddinaagreat", sum := "233f699e15da2bdf16d2549b0527fa87a87a9b4afd83f6a3bb6147079957e15c", checked := Tryz.checked }
namespace Rows
def none {H : Type} : Left H := { results := [], args := [] }

/-- 'limekilnlaw11.RetireSteps': WHATEVER THE INPUT: true; the input reads as it did. -/
def retireStepsSpec : ChangeSpec := { name := "retireSteps", fn := fun _ => fun
  | [d1, d2, d3] => { results := [.lit (.bool true)], args := [d1, d2, d3] }
  | _ => none }
def retireStepsRow : OpenClaim := { program := "ytbicloceaddinaagreat", sum := "233f699e15da2bdf16d2549b0527fa87a87a9b4afd83f6a3bb6147079957e15c", func := "limekiln/limekilnlaw11.RetireSteps", spec := "retireSteps", inPlace := ["slices.overlaps[int]"], unfollowed := true, recurses := true, apart := false }
def RetireStepsSaid : Prop := retireStepsRow.holds Tryz.pinned (OpenSpec.ofChange retireStepsSpec)

/-- ITS FALSE NEIGHBOUR: 'it returns false'. Refute it at one input. -/
def retireStepsWrong : ChangeSpec := { name := "retireSteps", fn := fun _ => fun
  | [d1, d2, d3] => { results := [.lit (.bool false)], args := [d1, d2, d3] }
  | _ => none }
def RetireStepsWrongFalsely : Prop := retireStepsRow.holds Tryz.pinned (OpenSpec.ofChange retireStepsWrong)

/-- 'limekilnlaw12.ArenaTakes': WHATEVER THE INPUT: true; the input reads as it did. -/
def arenaTakesSpec : ChangeSpec := { name := "arenaTakes", fn := fun _ => fun
  | [d1, d2, d3] => { results := [.lit (.bool true)], args := [d1, d2, d3] }
  | _ => none }
def arenaTakesRow : OpenClaim := { program := "ytbicloceaddinaagreat", sum := "233f699e15da2bdf16d2549b0527fa87a87a9b4afd83f6a3bb6147079957e15c", func := "limekiln/limekilnlaw12.ArenaTakes", spec := "arenaTakes", inPlace := ["slices.overlaps[int]"], unfollowed := true, recurses := true, apart := false }
def ArenaTakesSaid : Prop := arenaTakesRow.holds Tryz.pinned (OpenSpec.ofChange arenaTakesSpec)

/-- ITS FALSE NEIGHBOUR: 'it returns false'. Refute it at one input. -/
def arenaTakesWrong : ChangeSpec := { name := "arenaTakes", fn := fun _ => fun
  | [d1, d2, d3] => { results := [.lit (.bool false)], args := [d1, d2, d3] }
  | _ => none }
def ArenaTakesWrongFalsely : Prop := arenaTakesRow.holds Tryz.pinned (OpenSpec.ofChange arenaTakesWrong)

/-- 'limekilnlaw14.SeekSteps': WHATEVER THE INPUT: true; the input reads as it did. -/
def seekStepsSpec : ChangeSpec := { name := "seekSteps", fn := fun _ => fun
  | [d1, d2, d3] => { results := [.lit (.bool true)], args := [d1, d2, d3] }
  | _ => none }
def seekStepsRow : OpenClaim := { program := "ytbicloceaddinaagreat", sum := "233f699e15da2bdf16d2549b0527fa87a87a9b4afd83f6a3bb6147079957e15c", func := "limekiln/limekilnlaw14.SeekSteps", spec := "seekSteps", inPlace := ["slices.overlaps[int]"], unfollowed := true, recurses := true, apart := false }
def SeekStepsSaid : Prop := seekStepsRow.holds Tryz.pinned (OpenSpec.ofChange seekStepsSpec)

/-- ITS FALSE NEIGHBOUR: 'it returns false'. Refute it at one input. -/
def seekStepsWrong : ChangeSpec := { name := "seekSteps", fn := fun _ => fun
  | [d1, d2, d3] => { results := [.lit (.bool false)], args := [d1, d2, d3] }
  | _ => none }
def SeekStepsWrongFalsely : Prop := seekStepsRow.holds Tryz.pinned (OpenSpec.ofChange seekStepsWrong)

/-- 'limekilnlaw14.SeekAlone': WHATEVER THE INPUT: true; the input reads as it did. -/
def seekAloneSpec : ChangeSpec := { name := "seekAlone", fn := fun _ => fun
  | [d1, d2, d3] => { results := [.lit (.bool true)], args := [d1, d2, d3] }
  | _ => none }
def seekAloneRow : OpenClaim := { program := "ytbicloceaddinaagreat", sum := "233f699e15da2bdf16d2549b0527fa87a87a9b4afd83f6a3bb6147079957e15c", func := "limekiln/limekilnlaw14.SeekAlone", spec := "seekAlone", inPlace := ["slices.overlaps[int]"], unfollowed := true, recurses := true, apart := false }
def SeekAloneSaid : Prop := seekAloneRow.holds Tryz.pinned (OpenSpec.ofChange seekAloneSpec)

/-- ITS FALSE NEIGHBOUR: 'it returns false'. Refute it at one input. -/
def seekAloneWrong : ChangeSpec := { name := "seekAlone", fn := fun _ => fun
  | [d1, d2, d3] => { results := [.lit (.bool false)], args := [d1, d2, d3] }
  | _ => none }
def SeekAloneWrongFalsely : Prop := seekAloneRow.holds Tryz.pinned (OpenSpec.ofChange seekAloneWrong)

/- THE SECOND FORM. 'bulk': how many values and letters a reading holds, each counted each time it is reached (what is shared counts as often as it is met; a slice's spare places count too). A statement '..UptoSaid' is the law's where the arguments, and the package variables that the reading takes, are together of bulk at most 1048576: NARROWER than '..Said'. Prove '..Said' where nothing that the law and all that it calls make is longer than what came in: it says more and counts as full. Else prove '..UptoSaid'. A law counts once. -/
mutual
def uptoBulk {H : Type} : DataW H → Nat
  | .lit (.string bytes) => bytes.length + 1
  | .lit _ => 1
  | .nil => 1
  | .ptr d => uptoBulk d + 1
  | .slice elems spare => uptoBulkAll elems + uptoBulkAll spare + 1
  | .agg parts => uptoBulkAll parts + 1
  | .iface _ d => uptoBulk d + 1
  | .map entries => uptoBulkEntries entries + 1
  | .held _ => 1
def uptoBulkAll {H : Type} : List (DataW H) → Nat
  | [] => 0
  | d :: r => uptoBulk d + uptoBulkAll r
def uptoBulkEntries {H : Type} : List (Lit × DataW H) → Nat
  | [] => 0
  | x :: r => uptoBulkEntry x + uptoBulkEntries r
def uptoBulkEntry {H : Type} : Lit × DataW H → Nat
  | (.string bytes, d) => bytes.length + uptoBulk d + 1
  | (_, d) => uptoBulk d + 1
 end
def uptoSmall : (H : Type) → List (DataW H) → Bool := fun _ ds => decide (uptoBulkAll ds ≤ 1048576)
def OpenSpec.upto (s : _root_.Go.ChangeSpec) : _root_.Go.OpenSpec := { _root_.Go.OpenSpec.ofChange s with cond := some uptoSmall }

/-- 'limekilnlaw11.RetireSteps', WHERE WHAT IT READS IS OF BULK AT MOST 1048576: true; the input reads as it did. -/
def retireStepsUptoRow : OpenClaim := { program := "ytbicloceaddinaagreat", sum := "233f699e15da2bdf16d2549b0527fa87a87a9b4afd83f6a3bb6147079957e15c", func := "limekiln/limekilnlaw11.RetireSteps", spec := "retireSteps", inPlace := ["slices.overlaps[int]"], unfollowed := true, recurses := true, apart := false, narrowed := true }
def RetireStepsUptoSaid : Prop := retireStepsUptoRow.holds Tryz.pinned (OpenSpec.upto retireStepsSpec)

/-- 'limekilnlaw12.ArenaTakes', WHERE WHAT IT READS IS OF BULK AT MOST 1048576: true; the input reads as it did. -/
def arenaTakesUptoRow : OpenClaim := { program := "ytbicloceaddinaagreat", sum := "233f699e15da2bdf16d2549b0527fa87a87a9b4afd83f6a3bb6147079957e15c", func := "limekiln/limekilnlaw12.ArenaTakes", spec := "arenaTakes", inPlace := ["slices.overlaps[int]"], unfollowed := true, recurses := true, apart := false, narrowed := true }
def ArenaTakesUptoSaid : Prop := arenaTakesUptoRow.holds Tryz.pinned (OpenSpec.upto arenaTakesSpec)

/-- 'limekilnlaw14.SeekSteps', WHERE WHAT IT READS IS OF BULK AT MOST 1048576: true; the input reads as it did. -/
def seekStepsUptoRow : OpenClaim := { program := "ytbicloceaddinaagreat", sum := "233f699e15da2bdf16d2549b0527fa87a87a9b4afd83f6a3bb6147079957e15c", func := "limekiln/limekilnlaw14.SeekSteps", spec := "seekSteps", inPlace := ["slices.overlaps[int]"], unfollowed := true, recurses := true, apart := false, narrowed := true }
def SeekStepsUptoSaid : Prop := seekStepsUptoRow.holds Tryz.pinned (OpenSpec.upto seekStepsSpec)

/-- 'limekilnlaw14.SeekAlone', WHERE WHAT IT READS IS OF BULK AT MOST 1048576: true; the input reads as it did. -/
def seekAloneUptoRow : OpenClaim := { program := "ytbicloceaddinaagreat", sum := "233f699e15da2bdf16d2549b0527fa87a87a9b4afd83f6a3bb6147079957e15c", func := "limekiln/limekilnlaw14.SeekAlone", spec := "seekAlone", inPlace := ["slices.overlaps[int]"], unfollowed := true, recurses := true, apart := false, narrowed := true }
def SeekAloneUptoSaid : Prop := seekAloneUptoRow.holds Tryz.pinned (OpenSpec.upto seekAloneSpec)

end Rows
end Go.Proofs.YtbicloceaddinaaGreat
