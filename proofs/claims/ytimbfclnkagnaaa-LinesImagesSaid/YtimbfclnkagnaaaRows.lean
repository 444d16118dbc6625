/-
  No cell of these rows narrows 'for every input' (looked for: loops, veiled, ifaces, maps, wideKeys, modest, calm, conditions, laid).
  DERIVED. THE GIVEN ROWS OF THIS SEAT. 9 by the template 'for every input the law returns true; each argument reads behind the call as it read before'; 0 by the template 'total and deterministic' (their statements: YtimbfclnkagnaaaTotals.lean).
  GIVEN WITH THE SEED: the statements are not yours to turn. If you find one false, say at which input.
  Laid BY PROGRAM, IN A SANDBOX (cutbox-rows.mjs): the forced cells as the released guide's own fill.sh prints them over the translation b32dcd63aa8af620… (all of the seat's roots in one cut). By AI agents, Wed Nov 11 2026. No macro, syntax, notation, axiom, sorry.
-/
import Derived.Test.YtimbfclnkagnaaaChecked
import GoSem.Claim
import GoSem.ClaimJoined
import GoSem.ClaimMapViews
import Derived.JoinedTies
import Derived.KernelRfl
namespace Go.Proofs.Ytimbfclnkagnaaa
/- THE CELL 'sum', in the pinned program and in every row, IS THE sha256 OF THE DUMP (.gsa) THAT YtimbfclnkagnaaaProg.lean LOADS. Nothing in Lean hashes anything: it is a label: what it is worth is what the hold of that sum in a sandbox is worth. -/
noncomputable def Try.pinned : Pinned := { name := "ytimbfclnkagnaaa", sum := "b32dcd63aa8af620f72a00679e78d2be75de9e94f89fcb76d8a6330a81916aaf", checked := Try.checked }
namespace Rows
def none {H : Type} : Left H := { results := [], args := [] }

/-- 'limekilnlaw03.LinesBytes': WHATEVER THE INPUT: true; the input reads as it did. -/
def linesBytesSpec : ChangeSpec := { name := "linesBytes", fn := fun _ => fun
  | [d1, d2] => { results := [.lit (.bool true)], args := [d1, d2] }
  | _ => none }
def linesBytesRow : OpenClaim := { program := "ytimbfclnkagnaaa", sum := "b32dcd63aa8af620f72a00679e78d2be75de9e94f89fcb76d8a6330a81916aaf", func := "limekiln/limekilnlaw03.LinesBytes", spec := "linesBytes", unfollowed := true, recurses := true, apart := false }
def LinesBytesSaid : Prop := linesBytesRow.holds Try.pinned (OpenSpec.ofChange linesBytesSpec)

/-- ITS FALSE NEIGHBOUR: 'it returns false'. Refute it at one input. -/
def linesBytesWrong : ChangeSpec := { name := "linesBytes", fn := fun _ => fun
  | [d1, d2] => { results := [.lit (.bool false)], args := [d1, d2] }
  | _ => none }
def LinesBytesWrongFalsely : Prop := linesBytesRow.holds Try.pinned (OpenSpec.ofChange linesBytesWrong)

/-- 'limekilnlaw03.LinesImages': WHATEVER THE INPUT: true; the input reads as it did. -/
def linesImagesSpec : ChangeSpec := { name := "linesImages", fn := fun _ => fun
  | [d1, d2] => { results := [.lit (.bool true)], args := [d1, d2] }
  | _ => none }
def linesImagesRow : OpenClaim := { program := "ytimbfclnkagnaaa", sum := "b32dcd63aa8af620f72a00679e78d2be75de9e94f89fcb76d8a6330a81916aaf", func := "limekiln/limekilnlaw03.LinesImages", spec := "linesImages", unfollowed := true, recurses := true, apart := false }
def LinesImagesSaid : Prop := linesImagesRow.holds Try.pinned (OpenSpec.ofChange linesImagesSpec)

/-- ITS FALSE NEIGHBOUR: 'it returns false'. Refute it at one input. -/
def linesImagesWrong : ChangeSpec := { name := "linesImages", fn := fun _ => fun
  | [d1, d2] => { results := [.lit (.bool false)], args := [d1, d2] }
  | _ => none }
def LinesImagesWrongFalsely : Prop := linesImagesRow.holds Try.pinned (OpenSpec.ofChange linesImagesWrong)

/-- 'limekilnlaw03.LinesWords': WHATEVER THE INPUT: true; the input reads as it did. -/
def linesWordsSpec : ChangeSpec := { name := "linesWords", fn := fun _ => fun
  | [d1, d2] => { results := [.lit (.bool true)], args := [d1, d2] }
  | _ => none }
def linesWordsRow : OpenClaim := { program := "ytimbfclnkagnaaa", sum := "b32dcd63aa8af620f72a00679e78d2be75de9e94f89fcb76d8a6330a81916aaf", func := "limekiln/limekilnlaw03.LinesWords", spec := "linesWords", unfollowed := true, recurses := true, apart := false }
def LinesWordsSaid : Prop := linesWordsRow.holds Try.pinned (OpenSpec.ofChange linesWordsSpec)

/-- ITS FALSE NEIGHBOUR: 'it returns false'. Refute it at one input. -/
def linesWordsWrong : ChangeSpec := { name := "linesWords", fn := fun _ => fun
  | [d1, d2] => { results := [.lit (.bool false)], args := [d1, d2] }
  | _ => none }
def LinesWordsWrongFalsely : Prop := linesWordsRow.holds Try.pinned (OpenSpec.ofChange linesWordsWrong)

/-- 'limekilnlaw03.LinesZero': WHATEVER THE INPUT: true; the input reads as it did. -/
def linesZeroSpec : ChangeSpec := { name := "linesZero", fn := fun _ => fun
  | [d1, d2] => { results := [.lit (.bool true)], args := [d1, d2] }
  | _ => none }
def linesZeroRow : OpenClaim := { program := "ytimbfclnkagnaaa", sum := "b32dcd63aa8af620f72a00679e78d2be75de9e94f89fcb76d8a6330a81916aaf", func := "limekiln/limekilnlaw03.LinesZero", spec := "linesZero", unfollowed := true, recurses := true, apart := false }
def LinesZeroSaid : Prop := linesZeroRow.holds Try.pinned (OpenSpec.ofChange linesZeroSpec)

/-- ITS FALSE NEIGHBOUR: 'it returns false'. Refute it at one input. -/
def linesZeroWrong : ChangeSpec := { name := "linesZero", fn := fun _ => fun
  | [d1, d2] => { results := [.lit (.bool false)], args := [d1, d2] }
  | _ => none }
def LinesZeroWrongFalsely : Prop := linesZeroRow.holds Try.pinned (OpenSpec.ofChange linesZeroWrong)

/-- 'limekilnlaw04.PdevPlays': WHATEVER THE INPUT: true; the input reads as it did. -/
def pdevPlaysSpec : ChangeSpec := { name := "pdevPlays", fn := fun _ => fun
  | [d1, d2, d3] => { results := [.lit (.bool true)], args := [d1, d2, d3] }
  | _ => none }
def pdevPlaysRow : OpenClaim := { program := "ytimbfclnkagnaaa", sum := "b32dcd63aa8af620f72a00679e78d2be75de9e94f89fcb76d8a6330a81916aaf", func := "limekiln/limekilnlaw04.PdevPlays", spec := "pdevPlays", inPlace := ["slices.overlaps[int]"], unfollowed := true, recurses := true, apart := false }
def PdevPlaysSaid : Prop := pdevPlaysRow.holds Try.pinned (OpenSpec.ofChange pdevPlaysSpec)

/-- ITS FALSE NEIGHBOUR: 'it returns false'. Refute it at one input. -/
def pdevPlaysWrong : ChangeSpec := { name := "pdevPlays", fn := fun _ => fun
  | [d1, d2, d3] => { results := [.lit (.bool false)], args := [d1, d2, d3] }
  | _ => none }
def PdevPlaysWrongFalsely : Prop := pdevPlaysRow.holds Try.pinned (OpenSpec.ofChange pdevPlaysWrong)

/-- 'limekilnlaw04.PdevNew': WHATEVER THE INPUT: true; the input reads as it did. -/
def pdevNewSpec : ChangeSpec := { name := "pdevNew", fn := fun _ => fun
  | [d1, d2] => { results := [.lit (.bool true)], args := [d1, d2] }
  | _ => none }
def pdevNewRow : OpenClaim := { program := "ytimbfclnkagnaaa", sum := "b32dcd63aa8af620f72a00679e78d2be75de9e94f89fcb76d8a6330a81916aaf", func := "limekiln/limekilnlaw04.PdevNew", spec := "pdevNew", inPlace := ["slices.overlaps[int]"], apart := false }
def PdevNewSaid : Prop := pdevNewRow.holds Try.pinned (OpenSpec.ofChange pdevNewSpec)

/-- ITS FALSE NEIGHBOUR: 'it returns false'. Refute it at one input. -/
def pdevNewWrong : ChangeSpec := { name := "pdevNew", fn := fun _ => fun
  | [d1, d2] => { results := [.lit (.bool false)], args := [d1, d2] }
  | _ => none }
def PdevNewWrongFalsely : Prop := pdevNewRow.holds Try.pinned (OpenSpec.ofChange pdevNewWrong)

/-- 'limekilnlaw04.PdevOnce': WHATEVER THE INPUT: true; the input reads as it did. -/
def pdevOnceSpec : ChangeSpec := { name := "pdevOnce", fn := fun _ => fun
  | [d1, d2] => { results := [.lit (.bool true)], args := [d1, d2] }
  | _ => none }
def pdevOnceRow : OpenClaim := { program := "ytimbfclnkagnaaa", sum := "b32dcd63aa8af620f72a00679e78d2be75de9e94f89fcb76d8a6330a81916aaf", func := "limekiln/limekilnlaw04.PdevOnce", spec := "pdevOnce", inPlace := ["slices.overlaps[int]"], unfollowed := true, recurses := true, apart := false }
def PdevOnceSaid : Prop := pdevOnceRow.holds Try.pinned (OpenSpec.ofChange pdevOnceSpec)

/-- ITS FALSE NEIGHBOUR: 'it returns false'. Refute it at one input. -/
def pdevOnceWrong : ChangeSpec := { name := "pdevOnce", fn := fun _ => fun
  | [d1, d2] => { results := [.lit (.bool false)], args := [d1, d2] }
  | _ => none }
def PdevOnceWrongFalsely : Prop := pdevOnceRow.holds Try.pinned (OpenSpec.ofChange pdevOnceWrong)

/-- 'limekilnlaw04.PdevFences': WHATEVER THE INPUT: true; the input reads as it did. -/
def pdevFencesSpec : ChangeSpec := { name := "pdevFences", fn := fun _ => fun
  | [d1, d2, d3] => { results := [.lit (.bool true)], args := [d1, d2, d3] }
  | _ => none }
def pdevFencesRow : OpenClaim := { program := "ytimbfclnkagnaaa", sum := "b32dcd63aa8af620f72a00679e78d2be75de9e94f89fcb76d8a6330a81916aaf", func := "limekiln/limekilnlaw04.PdevFences", spec := "pdevFences", inPlace := ["slices.overlaps[int]"], unfollowed := true, recurses := true, apart := false }
def PdevFencesSaid : Prop := pdevFencesRow.holds Try.pinned (OpenSpec.ofChange pdevFencesSpec)

/-- ITS FALSE NEIGHBOUR: 'it returns false'. Refute it at one input. -/
def pdevFencesWrong : ChangeSpec := { name := "pdevFences", fn := fun _ => fun
  | [d1, d2, d3] => { results := [.lit (.bool false)], args := [d1, d2, d3] }
  | _ => none }
def PdevFencesWrongFalsely : Prop := pdevFencesRow.holds Try.pinned (OpenSpec.ofChange pdevFencesWrong)

/-- 'limekilnlaw04.PdevNone': WHATEVER THE INPUT: true; the input reads as it did. -/
def pdevNoneSpec : ChangeSpec := { name := "pdevNone", fn := fun _ => fun
  | [d] => { results := [.lit (.bool true)], args := [d] }
  | _ => none }
def pdevNoneRow : OpenClaim := { program := "ytimbfclnkagnaaa", sum := "b32dcd63aa8af620f72a00679e78d2be75de9e94f89fcb76d8a6330a81916aaf", func := "limekiln/limekilnlaw04.PdevNone", spec := "pdevNone", inPlace := ["slices.overlaps[int]"], apart := false }
def PdevNoneSaid : Prop := pdevNoneRow.holds Try.pinned (OpenSpec.ofChange pdevNoneSpec)

/-- ITS FALSE NEIGHBOUR: 'it returns false'. Refute it at one input. -/
def pdevNoneWrong : ChangeSpec := { name := "pdevNone", fn := fun _ => fun
  | [d] => { results := [.lit (.bool false)], args := [d] }
  | _ => none }
def PdevNoneWrongFalsely : Prop := pdevNoneRow.holds Try.pinned (OpenSpec.ofChange pdevNoneWrong)

/- THE SECOND FORM. 'bulk': how many values and letters a reading holds, each counted each time it is reached (what is shared counts as often as it is met; a slice's spare places count too). A statement '..UptoSaid' is the law's where the arguments, and the package variables that the reading takes, are together of bulk at most 1048576: NARROWER than '..Said'. Prove '..Said' where nothing that the law and all that it calls make is longer than what came in: it says more and counts as full. Else prove '..UptoSaid'. A law counts once. -/
mutual
def uptoBulk {H : Type} : DataW H → Nat
  | .lit (.string bytes) => bytes.length + 1
  | .lit _ => 1
  | .nil => 1
  | .ptr d => uptoBulk d + 1
  | .slice elems spare => uptoBulkAll elems + uptoBulkAll spare + 1
  | .agg parts => uptoBulkAll parts + 1
  | .iface _ d => uptoBulk d + 1
  | .map entries => uptoBulkEntries entries + 1
  | .held _ => 1
def uptoBulkAll {H : Type} : List (DataW H) → Nat
  | [] => 0
  | d :: r => uptoBulk d + uptoBulkAll r
def uptoBulkEntries {H : Type} : List (Lit × DataW H) → Nat
  | [] => 0
  | x :: r => uptoBulkEntry x + uptoBulkEntries r
def uptoBulkEntry {H : Type} : Lit × DataW H → Nat
  | (.string bytes, d) => bytes.length + uptoBulk d + 1
  | (_, d) => uptoBulk d + 1
 end
def uptoSmall : (H : Type) → List (DataW H) → Bool := fun _ ds => decide (uptoBulkAll ds ≤ 1048576)
def OpenSpec.upto (s : _root_.Go.ChangeSpec) : _root_.Go.OpenSpec := { _root_.Go.OpenSpec.ofChange s with cond := some uptoSmall }

/-- 'limekilnlaw03.LinesBytes', WHERE WHAT IT READS IS OF BULK AT MOST 1048576: true; the input reads as it did. -/
def linesBytesUptoRow : OpenClaim := { program := "ytimbfclnkagnaaa", sum := "b32dcd63aa8af620f72a00679e78d2be75de9e94f89fcb76d8a6330a81916aaf", func := "limekiln/limekilnlaw03.LinesBytes", spec := "linesBytes", unfollowed := true, recurses := true, apart := false, narrowed := true }
def LinesBytesUptoSaid : Prop := linesBytesUptoRow.holds Try.pinned (OpenSpec.upto linesBytesSpec)

/-- 'limekilnlaw03.LinesImages', WHERE WHAT IT READS IS OF BULK AT MOST 1048576: true; the input reads as it did. -/
def linesImagesUptoRow : OpenClaim := { program := "ytimbfclnkagnaaa", sum := "b32dcd63aa8af620f72a00679e78d2be75de9e94f89fcb76d8a6330a81916aaf", func := "limekiln/limekilnlaw03.LinesImages", spec := "linesImages", unfollowed := true, recurses := true, apart := false, narrowed := true }
def LinesImagesUptoSaid : Prop := linesImagesUptoRow.holds Try.pinned (OpenSpec.upto linesImagesSpec)

/-- 'limekilnlaw03.LinesWords', WHERE WHAT IT READS IS OF BULK AT MOST 1048576: true; the input reads as it did. -/
def linesWordsUptoRow : OpenClaim := { program := "ytimbfclnkagnaaa", sum := "b32dcd63aa8af620f72a00679e78d2be75de9e94f89fcb76d8a6330a81916aaf", func := "limekiln/limekilnlaw03.LinesWords", spec := "linesWords", unfollowed := true, recurses := true, apart := false, narrowed := true }
def LinesWordsUptoSaid : Prop := linesWordsUptoRow.holds Try.pinned (OpenSpec.upto linesWordsSpec)

/-- 'limekilnlaw03.LinesZero', WHERE WHAT IT READS IS OF BULK AT MOST 1048576: true; the input reads as it did. -/
def linesZeroUptoRow : OpenClaim := { program := "ytimbfclnkagnaaa", sum := "b32dcd63aa8af620f72a00679e78d2be75de9e94f89fcb76d8a6330a81916aaf", func := "limekiln/limekilnlaw03.LinesZero", spec := "linesZero", unfollowed := true, recurses := true, apart := false, narrowed := true }
def LinesZeroUptoSaid : Prop := linesZeroUptoRow.holds Try.pinned (OpenSpec.upto linesZeroSpec)

/-- 'limekilnlaw04.PdevPlays', WHERE WHAT IT READS IS OF BULK AT MOST 1048576: true; the input reads as it did. -/
def pdevPlaysUptoRow : OpenClaim := { program := "ytimbfclnkagnaaa", sum := "b32dcd63aa8af620f72a00679e78d2be75de9e94f89fcb76d8a6330a81916aaf", func := "limekiln/limekilnlaw04.PdevPlays", spec := "pdevPlays", inPlace := ["slices.overlaps[int]"], unfollowed := true, recurses := true, apart := false, narrowed := true }
def PdevPlaysUptoSaid : Prop := pdevPlaysUptoRow.holds Try.pinned (OpenSpec.upto pdevPlaysSpec)

/-- 'limekilnlaw04.PdevNew', WHERE WHAT IT READS IS OF BULK AT MOST 1048576: true; the input reads as it did. -/
def pdevNewUptoRow : OpenClaim := { program := "ytimbfclnkagnaaa", sum := "b32dcd63aa8af620f72a00679e78d2be75de9e94f89fcb76d8a6330a81916aaf", func := "limekiln/limekilnlaw04.PdevNew", spec := "pdevNew", inPlace := ["slices.overlaps[int]"], apart := false, narrowed := true }
def PdevNewUptoSaid : Prop := pdevNewUptoRow.holds Try.pinned (OpenSpec.upto pdevNewSpec)

/-- 'limekilnlaw04.PdevOnce', WHERE WHAT IT READS IS OF BULK AT MOST 1048576: true; the input reads as it did. -/
def pdevOnceUptoRow : OpenClaim := { program := "ytimbfclnkagnaaa", sum := "b32dcd63aa8af620f72a00679e78d2be75de9e94f89fcb76d8a6330a81916aaf", func := "limekiln/limekilnlaw04.PdevOnce", spec := "pdevOnce", inPlace := ["slices.overlaps[int]"], unfollowed := true, recurses := true, apart := false, narrowed := true }
def PdevOnceUptoSaid : Prop := pdevOnceUptoRow.holds Try.pinned (OpenSpec.upto pdevOnceSpec)

/-- 'limekilnlaw04.PdevFences', WHERE WHAT IT READS IS OF BULK AT MOST 1048576: true; the input reads as it did. -/
def pdevFencesUptoRow : OpenClaim := { program := "ytimbfclnkagnaaa", sum := "b32dcd63aa8af620f72a00679e78d2be75de9e94f89fcb76d8a6330a81916aaf", func := "limekiln/limekilnlaw04.PdevFences", spec := "pdevFences", inPlace := ["slices.overlaps[int]"], unfollowed := true, recurses := true, apart := false, narrowed := true }
def PdevFencesUptoSaid : Prop := pdevFencesUptoRow.holds Try.pinned (OpenSpec.upto pdevFencesSpec)

/-- 'limekilnlaw04.PdevNone', WHERE WHAT IT READS IS OF BULK AT MOST 1048576: true; the input reads as it did. -/
def pdevNoneUptoRow : OpenClaim := { program := "ytimbfclnkagnaaa", sum := "b32dcd63aa8af620f72a00679e78d2be75de9e94f89fcb76d8a6330a81916aaf", func := "limekiln/limekilnlaw04.PdevNone", spec := "pdevNone", inPlace := ["slices.overlaps[int]"], apart := false, narrowed := true }
def PdevNoneUptoSaid : Prop := pdevNoneUptoRow.holds Try.pinned (OpenSpec.upto pdevNoneSpec)

end Rows
end Go.Proofs.Ytimbfclnkagnaaa
