/-
  No cell of these rows narrows 'for every input' (looked for: loops, veiled, ifaces, maps, wideKeys, modest, calm, conditions, laid).
  DERIVED. THE GIVEN ROWS OF THIS SEAT. 6 by the template 'for every input the law returns true; each argument reads behind the call as it read before'; 0 by the template 'total and deterministic' (their statements: YtlnaffedbcpkpaaTotals.lean).
  GIVEN WITH THE SEED: the statements are not yours to turn. If you find one false, say at which input.
  Laid BY PROGRAM, IN A SANDBOX (cutbox-rows.mjs): the forced cells as the released guide's own fill.sh prints them over the translation 922cf61ec3938b97… (all of the seat's roots in one cut). By AI agents, Wed Nov 11 2026. No macro, syntax, notation, axiom, sorry.
-/
import Derived.Test.YtlnaffedbcpkpaaChecked
import GoSem.Claim
import GoSem.ClaimJoined
import GoSem.ClaimMapViews
import Derived.JoinedTies
import Derived.KernelRfl
namespace Go.Proofs.Ytlnaffedbcpkpaa
/- THE CELL 'sum', in the pinned program and in every row, IS THE sha256 OF THE DUMP (.gsa) THAT YtlnaffedbcpkpaaProg.lean LOADS. Nothing in Lean hashes anything: it is a label: what it is worth is what the hold of that sum in a sandbox is worth. -/
noncomputable def Try.pinned : Pinned := { name := "ytlnaffedbcpkpaa", sum := "922cf61ec3938b97d54afe5fa9ec21561065f9a6078c95c1a369de89afe35b75", checked := Try.checked }
namespace Rows
def none {H : Type} : Left H := { results := [], args := [] }

/-- 'limekilnlaw04.PdevPlays': WHATEVER THE INPUT: true; the input reads as it did. -/
def pdevPlaysSpec : ChangeSpec := { name := "pdevPlays", fn := fun _ => fun
  | [d1, d2, d3] => { results := [.lit (.bool true)], args := [d1, d2, d3] }
  | _ => none }
def pdevPlaysRow : OpenClaim := { program := "ytlnaffedbcpkpaa", sum := "922cf61ec3938b97d54afe5fa9ec21561065f9a6078c95c1a369de89afe35b75", func := "limekiln/limekilnlaw04.PdevPlays", spec := "pdevPlays", inPlace := ["slices.overlaps[int]"], unfollowed := true, recurses := true, apart := false }
def PdevPlaysSaid : Prop := pdevPlaysRow.holds Try.pinned (OpenSpec.ofChange pdevPlaysSpec)

/-- ITS FALSE NEIGHBOUR: 'it returns false'. Refute it at one input. -/
def pdevPlaysWrong : ChangeSpec := { name := "pdevPlays", fn := fun _ => fun
  | [d1, d2, d3] => { results := [.lit (.bool false)], args := [d1, d2, d3] }
  | _ => none }
def PdevPlaysWrongFalsely : Prop := pdevPlaysRow.holds Try.pinned (OpenSpec.ofChange pdevPlaysWrong)

/-- 'limekilnlaw04.PdevNew': WHATEVER THE INPUT: true; the input reads as it did. -/
def pdevNewSpec : ChangeSpec := { name := "pdevNew", fn := fun _ => fun
  | [d1, d2] => { results := [.lit (.bool true)], args := [d1, d2] }
  | _ => none }
def pdevNewRow : OpenClaim := { program := "ytlnaffedbcpkpaa", sum := "922cf61ec3938b97d54afe5fa9ec21561065f9a6078c95c1a369de89afe35b75", func := "limekiln/limekilnlaw04.PdevNew", spec := "pdevNew", inPlace := ["slices.overlaps[int]"], apart := false }
def PdevNewSaid : Prop := pdevNewRow.holds Try.pinned (OpenSpec.ofChange pdevNewSpec)

/-- ITS FALSE NEIGHBOUR: 'it returns false'. Refute it at one input. -/
def pdevNewWrong : ChangeSpec := { name := "pdevNew", fn := fun _ => fun
  | [d1, d2] => { results := [.lit (.bool false)], args := [d1, d2] }
  | _ => none }
def PdevNewWrongFalsely : Prop := pdevNewRow.holds Try.pinned (OpenSpec.ofChange pdevNewWrong)

/-- 'limekilnlaw07.PmemPlays': WHATEVER THE INPUT: true; the input reads as it did. -/
def pmemPlaysSpec : ChangeSpec := { name := "pmemPlays", fn := fun _ => fun
  | [d1, d2, d3] => { results := [.lit (.bool true)], args := [d1, d2, d3] }
  | _ => none }
def pmemPlaysRow : OpenClaim := { program := "ytlnaffedbcpkpaa", sum := "922cf61ec3938b97d54afe5fa9ec21561065f9a6078c95c1a369de89afe35b75", func := "limekiln/limekilnlaw07.PmemPlays", spec := "pmemPlays", inPlace := ["slices.overlaps[int]"], unfollowed := true, recurses := true, apart := false }
def PmemPlaysSaid : Prop := pmemPlaysRow.holds Try.pinned (OpenSpec.ofChange pmemPlaysSpec)

/-- ITS FALSE NEIGHBOUR: 'it returns false'. Refute it at one input. -/
def pmemPlaysWrong : ChangeSpec := { name := "pmemPlays", fn := fun _ => fun
  | [d1, d2, d3] => { results := [.lit (.bool false)], args := [d1, d2, d3] }
  | _ => none }
def PmemPlaysWrongFalsely : Prop := pmemPlaysRow.holds Try.pinned (OpenSpec.ofChange pmemPlaysWrong)

/-- 'limekilnlaw07.PmemPeeks': WHATEVER THE INPUT: true; the input reads as it did. -/
def pmemPeeksSpec : ChangeSpec := { name := "pmemPeeks", fn := fun _ => fun
  | [d1, d2, d3] => { results := [.lit (.bool true)], args := [d1, d2, d3] }
  | _ => none }
def pmemPeeksRow : OpenClaim := { program := "ytlnaffedbcpkpaa", sum := "922cf61ec3938b97d54afe5fa9ec21561065f9a6078c95c1a369de89afe35b75", func := "limekiln/limekilnlaw07.PmemPeeks", spec := "pmemPeeks", inPlace := ["slices.overlaps[int]"], unfollowed := true, recurses := true, apart := false }
def PmemPeeksSaid : Prop := pmemPeeksRow.holds Try.pinned (OpenSpec.ofChange pmemPeeksSpec)

/-- ITS FALSE NEIGHBOUR: 'it returns false'. Refute it at one input. -/
def pmemPeeksWrong : ChangeSpec := { name := "pmemPeeks", fn := fun _ => fun
  | [d1, d2, d3] => { results := [.lit (.bool false)], args := [d1, d2, d3] }
  | _ => none }
def PmemPeeksWrongFalsely : Prop := pmemPeeksRow.holds Try.pinned (OpenSpec.ofChange pmemPeeksWrong)

/-- 'limekilnlaw07.PmemSwaps': WHATEVER THE INPUT: true; the input reads as it did. -/
def pmemSwapsSpec : ChangeSpec := { name := "pmemSwaps", fn := fun _ => fun
  | [d1, d2, d3] => { results := [.lit (.bool true)], args := [d1, d2, d3] }
  | _ => none }
def pmemSwapsRow : OpenClaim := { program := "ytlnaffedbcpkpaa", sum := "922cf61ec3938b97d54afe5fa9ec21561065f9a6078c95c1a369de89afe35b75", func := "limekiln/limekilnlaw07.PmemSwaps", spec := "pmemSwaps", unfollowed := true, recurses := true, apart := false }
def PmemSwapsSaid : Prop := pmemSwapsRow.holds Try.pinned (OpenSpec.ofChange pmemSwapsSpec)

/-- ITS FALSE NEIGHBOUR: 'it returns false'. Refute it at one input. -/
def pmemSwapsWrong : ChangeSpec := { name := "pmemSwaps", fn := fun _ => fun
  | [d1, d2, d3] => { results := [.lit (.bool false)], args := [d1, d2, d3] }
  | _ => none }
def PmemSwapsWrongFalsely : Prop := pmemSwapsRow.holds Try.pinned (OpenSpec.ofChange pmemSwapsWrong)

/-- 'limekilnlaw07.PmemMay': WHATEVER THE INPUT: true; the input reads as it did. -/
def pmemMaySpec : ChangeSpec := { name := "pmemMay", fn := fun _ => fun
  | [d1, d2, d3] => { results := [.lit (.bool true)], args := [d1, d2, d3] }
  | _ => none }
def pmemMayRow : OpenClaim := { program := "ytlnaffedbcpkpaa", sum := "922cf61ec3938b97d54afe5fa9ec21561065f9a6078c95c1a369de89afe35b75", func := "limekiln/limekilnlaw07.PmemMay", spec := "pmemMay", inPlace := ["slices.overlaps[int]"], unfollowed := true, recurses := true, apart := false }
def PmemMaySaid : Prop := pmemMayRow.holds Try.pinned (OpenSpec.ofChange pmemMaySpec)

/-- ITS FALSE NEIGHBOUR: 'it returns false'. Refute it at one input. -/
def pmemMayWrong : ChangeSpec := { name := "pmemMay", fn := fun _ => fun
  | [d1, d2, d3] => { results := [.lit (.bool false)], args := [d1, d2, d3] }
  | _ => none }
def PmemMayWrongFalsely : Prop := pmemMayRow.holds Try.pinned (OpenSpec.ofChange pmemMayWrong)

/- THE SECOND FORM. 'bulk': how many values and letters a reading holds, each counted each time it is reached (what is shared counts as often as it is met; a slice's spare places count too). A statement '..UptoSaid' is the law's where the arguments, and the package variables that the reading takes, are together of bulk at most 1048576: NARROWER than '..Said'. Prove '..Said' where nothing that the law and all that it calls make is longer than what came in: it says more and counts as full. Else prove '..UptoSaid'. A law counts once. -/
mutual
def uptoBulk {H : Type} : DataW H → Nat
  | .lit (.string bytes) => bytes.length + 1
  | .lit _ => 1
  | .nil => 1
  | .ptr d => uptoBulk d + 1
  | .slice elems spare => uptoBulkAll elems + uptoBulkAll spare + 1
  | .agg parts => uptoBulkAll parts + 1
  | .iface _ d => uptoBulk d + 1
  | .map entries => uptoBulkEntries entries + 1
  | .held _ => 1
def uptoBulkAll {H : Type} : List (DataW H) → Nat
  | [] => 0
  | d :: r => uptoBulk d + uptoBulkAll r
def uptoBulkEntries {H : Type} : List (Lit × DataW H) → Nat
  | [] => 0
  | x :: r => uptoBulkEntry x + uptoBulkEntries r
def uptoBulkEntry {H : Type} : Lit × DataW H → Nat
  | (.string bytes, d) => bytes.length + uptoBulk d + 1
  | (_, d) => uptoBulk d + 1
 end
def uptoSmall : (H : Type) → List (DataW H) → Bool := fun _ ds => decide (uptoBulkAll ds ≤ 1048576)
def OpenSpec.upto (s : _root_.Go.ChangeSpec) : _root_.Go.OpenSpec := { _root_.Go.OpenSpec.ofChange s with cond := some uptoSmall }

/-- 'limekilnlaw04.PdevPlays', WHERE WHAT IT READS IS OF BULK AT MOST 1048576: true; the input reads as it did. -/
def pdevPlaysUptoRow : OpenClaim := { program := "ytlnaffedbcpkpaa", sum := "922cf61ec3938b97d54afe5fa9ec21561065f9a6078c95c1a369de89afe35b75", func := "limekiln/limekilnlaw04.PdevPlays", spec := "pdevPlays", inPlace := ["slices.overlaps[int]"], unfollowed := true, recurses := true, apart := false, narrowed := true }
def PdevPlaysUptoSaid : Prop := pdevPlaysUptoRow.holds Try.pinned (OpenSpec.upto pdevPlaysSpec)

/-- 'limekilnlaw04.PdevNew', WHERE WHAT IT READS IS OF BULK AT MOST 1048576: true; the input reads as it did. -/
def pdevNewUptoRow : OpenClaim := { program := "ytlnaffedbcpkpaa", sum := "922cf61ec3938b97d54afe5fa9ec21561065f9a6078c95c1a369de89afe35b75", func := "limekiln/limekilnlaw04.PdevNew", spec := "pdevNew", inPlace := ["slices.overlaps[int]"], apart := false, narrowed := true }
def PdevNewUptoSaid : Prop := pdevNewUptoRow.holds Try.pinned (OpenSpec.upto pdevNewSpec)

/-- 'limekilnlaw07.PmemPlays', WHERE WHAT IT READS IS OF BULK AT MOST 1048576: true; the input reads as it did. -/
def pmemPlaysUptoRow : OpenClaim := { program := "ytlnaffedbcpkpaa", sum := "922cf61ec3938b97d54afe5fa9ec21561065f9a6078c95c1a369de89afe35b75", func := "limekiln/limekilnlaw07.PmemPlays", spec := "pmemPlays", inPlace := ["slices.overlaps[int]"], unfollowed := true, recurses := true, apart := false, narrowed := true }
def PmemPlaysUptoSaid : Prop := pmemPlaysUptoRow.holds Try.pinned (OpenSpec.upto pmemPlaysSpec)

/-- 'limekilnlaw07.PmemPeeks', WHERE WHAT IT READS IS OF BULK AT MOST 1048576: true; the input reads as it did. -/
def pmemPeeksUptoRow : OpenClaim := { program := "ytlnaffedbcpkpaa", sum := "922cf61ec3938b97d54afe5fa9ec21561065f9a6078c95c1a369de89afe35b75", func := "limekiln/limekilnlaw07.PmemPeeks", spec := "pmemPeeks", inPlace := ["slices.overlaps[int]"], unfollowed := true, recurses := true, apart := false, narrowed := true }
def PmemPeeksUptoSaid : Prop := pmemPeeksUptoRow.holds Try.pinned (OpenSpec.upto pmemPeeksSpec)

/-- 'limekilnlaw07.PmemSwaps', WHERE WHAT IT READS IS OF BULK AT MOST 1048576: true; the input reads as it did. -/
def pmemSwapsUptoRow : OpenClaim := { program := "ytlnaffedbcpkpaa", sum := "922cf61ec3938b97d54afe5fa9ec21561065f9a6078c95c1a369de89afe35b75", func := "limekiln/limekilnlaw07.PmemSwaps", spec := "pmemSwaps", unfollowed := true, recurses := true, apart := false, narrowed := true }
def PmemSwapsUptoSaid : Prop := pmemSwapsUptoRow.holds Try.pinned (OpenSpec.upto pmemSwapsSpec)

/-- 'limekilnlaw07.PmemMay', WHERE WHAT IT READS IS OF BULK AT MOST 1048576: true; the input reads as it did. -/
def pmemMayUptoRow : OpenClaim := { program := "ytlnaffedbcpkpaa", sum := "922cf61ec3938b97d54afe5fa9ec21561065f9a6078c95c1a369de89afe35b75", func := "limekiln/limekilnlaw07.PmemMay", spec := "pmemMay", inPlace := ["slices.overlaps[int]"], unfollowed := true, recurses := true, apart := false, narrowed := true }
def PmemMayUptoSaid : Prop := pmemMayUptoRow.holds Try.pinned (OpenSpec.upto pmemMaySpec)

end Rows
end Go.Proofs.Ytlnaffedbcpkpaa
