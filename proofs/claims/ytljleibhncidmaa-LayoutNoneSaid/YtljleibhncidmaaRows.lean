/-
  No cell of these rows narrows 'for every input' (looked for: loops, veiled, ifaces, maps, wideKeys, modest, calm, conditions, laid).
  DERIVED. THE GIVEN ROWS OF THIS SEAT. 7 by the template 'for every input the law returns true; each argument reads behind the call as it read before'; 0 by the template 'total and deterministic' (their statements: YtljleibhncidmaaTotals.lean).
  GIVEN WITH THE SEED: the statements are not yours to turn. If you find one false, say at which input.
  Laid BY PROGRAM, IN A SANDBOX (cutbox-rows.mjs): the forced cells as the released guide's own fill.sh prints them over the translation df80f449f21ab25e… (all of the seat's roots in one cut). By AI agents, Wed Nov 11 2026. No macro, syntax, notation, axiom, sorry.
-/
import Derived.Test.YtljleibhncidmaaChecked
import GoSem.Claim
import GoSem.ClaimJoined
import GoSem.ClaimMapViews
import Derived.JoinedTies
import Derived.KernelRfl
namespace Go.Proofs.Ytljleibhncidmaa
/- THE CELL 'sum', in the pinned program and in every row, IS THE sha256 OF THE DUMP (.gsa) THAT YtljleibhncidmaaProg.lean LOADS. Nothing in Lean hashes anything: it is a label: what it is worth is what the hold of that sum in a sandbox is worth. -/
noncomputable def Try.pinned : Pinned := { name := "ytljleibhncidmaa", sum := "df80f449f21ab25ee2eb511ebce3883daea8bdcc65109d3d337f7d25ca86acbd", checked := Try.checked }
namespace Rows
def none {H : Type} : Left H := { results := [], args := [] }

/-- 'limekilnlaw05.SuperLines': WHATEVER THE INPUT: true; the input reads as it did. -/
def superLinesSpec : ChangeSpec := { name := "superLines", fn := fun _ => fun
  | [d] => { results := [.lit (.bool true)], args := [d] }
  | _ => none }
def superLinesRow : OpenClaim := { program := "ytljleibhncidmaa", sum := "df80f449f21ab25ee2eb511ebce3883daea8bdcc65109d3d337f7d25ca86acbd", func := "limekiln/limekilnlaw05.SuperLines", spec := "superLines", apart := false }
def SuperLinesSaid : Prop := superLinesRow.holds Try.pinned (OpenSpec.ofChange superLinesSpec)

/-- ITS FALSE NEIGHBOUR: 'it returns false'. Refute it at one input. -/
def superLinesWrong : ChangeSpec := { name := "superLines", fn := fun _ => fun
  | [d] => { results := [.lit (.bool false)], args := [d] }
  | _ => none }
def SuperLinesWrongFalsely : Prop := superLinesRow.holds Try.pinned (OpenSpec.ofChange superLinesWrong)

/-- 'limekilnlaw05.SuperReads': WHATEVER THE INPUT: true; the input reads as it did. -/
def superReadsSpec : ChangeSpec := { name := "superReads", fn := fun _ => fun
  | [d1, d2] => { results := [.lit (.bool true)], args := [d1, d2] }
  | _ => none }
def superReadsRow : OpenClaim := { program := "ytljleibhncidmaa", sum := "df80f449f21ab25ee2eb511ebce3883daea8bdcc65109d3d337f7d25ca86acbd", func := "limekiln/limekilnlaw05.SuperReads", spec := "superReads", apart := false }
def SuperReadsSaid : Prop := superReadsRow.holds Try.pinned (OpenSpec.ofChange superReadsSpec)

/-- ITS FALSE NEIGHBOUR: 'it returns false'. Refute it at one input. -/
def superReadsWrong : ChangeSpec := { name := "superReads", fn := fun _ => fun
  | [d1, d2] => { results := [.lit (.bool false)], args := [d1, d2] }
  | _ => none }
def SuperReadsWrongFalsely : Prop := superReadsRow.holds Try.pinned (OpenSpec.ofChange superReadsWrong)

/-- 'limekilnlaw05.SuperTurns': WHATEVER THE INPUT: true; the input reads as it did. -/
def superTurnsSpec : ChangeSpec := { name := "superTurns", fn := fun _ => fun
  | [d1, d2, d3] => { results := [.lit (.bool true)], args := [d1, d2, d3] }
  | _ => none }
def superTurnsRow : OpenClaim := { program := "ytljleibhncidmaa", sum := "df80f449f21ab25ee2eb511ebce3883daea8bdcc65109d3d337f7d25ca86acbd", func := "limekiln/limekilnlaw05.SuperTurns", spec := "superTurns", apart := false }
def SuperTurnsSaid : Prop := superTurnsRow.holds Try.pinned (OpenSpec.ofChange superTurnsSpec)

/-- ITS FALSE NEIGHBOUR: 'it returns false'. Refute it at one input. -/
def superTurnsWrong : ChangeSpec := { name := "superTurns", fn := fun _ => fun
  | [d1, d2, d3] => { results := [.lit (.bool false)], args := [d1, d2, d3] }
  | _ => none }
def SuperTurnsWrongFalsely : Prop := superTurnsRow.holds Try.pinned (OpenSpec.ofChange superTurnsWrong)

/-- 'limekilnlaw06.LayoutWords': WHATEVER THE INPUT: true; the input reads as it did. -/
def layoutWordsSpec : ChangeSpec := { name := "layoutWords", fn := fun _ => fun
  | [d] => { results := [.lit (.bool true)], args := [d] }
  | _ => none }
def layoutWordsRow : OpenClaim := { program := "ytljleibhncidmaa", sum := "df80f449f21ab25ee2eb511ebce3883daea8bdcc65109d3d337f7d25ca86acbd", func := "limekiln/limekilnlaw06.LayoutWords", spec := "layoutWords", unfollowed := true, recurses := true, apart := false }
def LayoutWordsSaid : Prop := layoutWordsRow.holds Try.pinned (OpenSpec.ofChange layoutWordsSpec)

/-- ITS FALSE NEIGHBOUR: 'it returns false'. Refute it at one input. -/
def layoutWordsWrong : ChangeSpec := { name := "layoutWords", fn := fun _ => fun
  | [d] => { results := [.lit (.bool false)], args := [d] }
  | _ => none }
def LayoutWordsWrongFalsely : Prop := layoutWordsRow.holds Try.pinned (OpenSpec.ofChange layoutWordsWrong)

/-- 'limekilnlaw06.LayoutNone': WHATEVER THE INPUT: true; the input reads as it did. -/
def layoutNoneSpec : ChangeSpec := { name := "layoutNone", fn := fun _ => fun
  | [d1, d2, d3] => { results := [.lit (.bool true)], args := [d1, d2, d3] }
  | _ => none }
def layoutNoneRow : OpenClaim := { program := "ytljleibhncidmaa", sum := "df80f449f21ab25ee2eb511ebce3883daea8bdcc65109d3d337f7d25ca86acbd", func := "limekiln/limekilnlaw06.LayoutNone", spec := "layoutNone", unfollowed := true, recurses := true, apart := false }
def LayoutNoneSaid : Prop := layoutNoneRow.holds Try.pinned (OpenSpec.ofChange layoutNoneSpec)

/-- ITS FALSE NEIGHBOUR: 'it returns false'. Refute it at one input. -/
def layoutNoneWrong : ChangeSpec := { name := "layoutNone", fn := fun _ => fun
  | [d1, d2, d3] => { results := [.lit (.bool false)], args := [d1, d2, d3] }
  | _ => none }
def LayoutNoneWrongFalsely : Prop := layoutNoneRow.holds Try.pinned (OpenSpec.ofChange layoutNoneWrong)

/-- 'limekilnlaw06.LayoutSlots': WHATEVER THE INPUT: true; the input reads as it did. -/
def layoutSlotsSpec : ChangeSpec := { name := "layoutSlots", fn := fun _ => fun
  | [d1, d2] => { results := [.lit (.bool true)], args := [d1, d2] }
  | _ => none }
def layoutSlotsRow : OpenClaim := { program := "ytljleibhncidmaa", sum := "df80f449f21ab25ee2eb511ebce3883daea8bdcc65109d3d337f7d25ca86acbd", func := "limekiln/limekilnlaw06.LayoutSlots", spec := "layoutSlots", unfollowed := true, recurses := true, apart := false }
def LayoutSlotsSaid : Prop := layoutSlotsRow.holds Try.pinned (OpenSpec.ofChange layoutSlotsSpec)

/-- ITS FALSE NEIGHBOUR: 'it returns false'. Refute it at one input. -/
def layoutSlotsWrong : ChangeSpec := { name := "layoutSlots", fn := fun _ => fun
  | [d1, d2] => { results := [.lit (.bool false)], args := [d1, d2] }
  | _ => none }
def LayoutSlotsWrongFalsely : Prop := layoutSlotsRow.holds Try.pinned (OpenSpec.ofChange layoutSlotsWrong)

/-- 'limekilnlaw06.LayoutEmpty': WHATEVER THE INPUT: true; the input reads as it did. -/
def layoutEmptySpec : ChangeSpec := { name := "layoutEmpty", fn := fun _ => fun
  | [d1, d2, d3] => { results := [.lit (.bool true)], args := [d1, d2, d3] }
  | _ => none }
def layoutEmptyRow : OpenClaim := { program := "ytljleibhncidmaa", sum := "df80f449f21ab25ee2eb511ebce3883daea8bdcc65109d3d337f7d25ca86acbd", func := "limekiln/limekilnlaw06.LayoutEmpty", spec := "layoutEmpty", unfollowed := true, recurses := true, apart := false }
def LayoutEmptySaid : Prop := layoutEmptyRow.holds Try.pinned (OpenSpec.ofChange layoutEmptySpec)

/-- ITS FALSE NEIGHBOUR: 'it returns false'. Refute it at one input. -/
def layoutEmptyWrong : ChangeSpec := { name := "layoutEmpty", fn := fun _ => fun
  | [d1, d2, d3] => { results := [.lit (.bool false)], args := [d1, d2, d3] }
  | _ => none }
def LayoutEmptyWrongFalsely : Prop := layoutEmptyRow.holds Try.pinned (OpenSpec.ofChange layoutEmptyWrong)

/- THE SECOND FORM. 'bulk': how many values and letters a reading holds, each counted each time it is reached (what is shared counts as often as it is met; a slice's spare places count too). A statement '..UptoSaid' is the law's where the arguments, and the package variables that the reading takes, are together of bulk at most 1048576: NARROWER than '..Said'. Prove '..Said' where nothing that the law and all that it calls make is longer than what came in: it says more and counts as full. Else prove '..UptoSaid'. A law counts once. -/
mutual
def uptoBulk {H : Type} : DataW H → Nat
  | .lit (.string bytes) => bytes.length + 1
  | .lit _ => 1
  | .nil => 1
  | .ptr d => uptoBulk d + 1
  | .slice elems spare => uptoBulkAll elems + uptoBulkAll spare + 1
  | .agg parts => uptoBulkAll parts + 1
  | .iface _ d => uptoBulk d + 1
  | .map entries => uptoBulkEntries entries + 1
  | .held _ => 1
def uptoBulkAll {H : Type} : List (DataW H) → Nat
  | [] => 0
  | d :: r => uptoBulk d + uptoBulkAll r
def uptoBulkEntries {H : Type} : List (Lit × DataW H) → Nat
  | [] => 0
  | x :: r => uptoBulkEntry x + uptoBulkEntries r
def uptoBulkEntry {H : Type} : Lit × DataW H → Nat
  | (.string bytes, d) => bytes.length + uptoBulk d + 1
  | (_, d) => uptoBulk d + 1
 end
def uptoSmall : (H : Type) → List (DataW H) → Bool := fun _ ds => decide (uptoBulkAll ds ≤ 1048576)
def OpenSpec.upto (s : _root_.Go.ChangeSpec) : _root_.Go.OpenSpec := { _root_.Go.OpenSpec.ofChange s with cond := some uptoSmall }

/-- 'limekilnlaw05.SuperLines', WHERE WHAT IT READS IS OF BULK AT MOST 1048576: true; the input reads as it did. -/
def superLinesUptoRow : OpenClaim := { program := "ytljleibhncidmaa", sum := "df80f449f21ab25ee2eb511ebce3883daea8bdcc65109d3d337f7d25ca86acbd", func := "limekiln/limekilnlaw05.SuperLines", spec := "superLines", apart := false, narrowed := true }
def SuperLinesUptoSaid : Prop := superLinesUptoRow.holds Try.pinned (OpenSpec.upto superLinesSpec)

/-- 'limekilnlaw05.SuperReads', WHERE WHAT IT READS IS OF BULK AT MOST 1048576: true; the input reads as it did. -/
def superReadsUptoRow : OpenClaim := { program := "ytljleibhncidmaa", sum := "df80f449f21ab25ee2eb511ebce3883daea8bdcc65109d3d337f7d25ca86acbd", func := "limekiln/limekilnlaw05.SuperReads", spec := "superReads", apart := false, narrowed := true }
def SuperReadsUptoSaid : Prop := superReadsUptoRow.holds Try.pinned (OpenSpec.upto superReadsSpec)

/-- 'limekilnlaw05.SuperTurns', WHERE WHAT IT READS IS OF BULK AT MOST 1048576: true; the input reads as it did. -/
def superTurnsUptoRow : OpenClaim := { program := "ytljleibhncidmaa", sum := "df80f449f21ab25ee2eb511ebce3883daea8bdcc65109d3d337f7d25ca86acbd", func := "limekiln/limekilnlaw05.SuperTurns", spec := "superTurns", apart := false, narrowed := true }
def SuperTurnsUptoSaid : Prop := superTurnsUptoRow.holds Try.pinned (OpenSpec.upto superTurnsSpec)

/-- 'limekilnlaw06.LayoutWords', WHERE WHAT IT READS IS OF BULK AT MOST 1048576: true; the input reads as it did. -/
def layoutWordsUptoRow : OpenClaim := { program := "ytljleibhncidmaa", sum := "df80f449f21ab25ee2eb511ebce3883daea8bdcc65109d3d337f7d25ca86acbd", func := "limekiln/limekilnlaw06.LayoutWords", spec := "layoutWords", unfollowed := true, recurses := true, apart := false, narrowed := true }
def LayoutWordsUptoSaid : Prop := layoutWordsUptoRow.holds Try.pinned (OpenSpec.upto layoutWordsSpec)

/-- 'limekilnlaw06.LayoutNone', WHERE WHAT IT READS IS OF BULK AT MOST 1048576: true; the input reads as it did. -/
def layoutNoneUptoRow : OpenClaim := { program := "ytljleibhncidmaa", sum := "df80f449f21ab25ee2eb511ebce3883daea8bdcc65109d3d337f7d25ca86acbd", func := "limekiln/limekilnlaw06.LayoutNone", spec := "layoutNone", unfollowed := true, recurses := true, apart := false, narrowed := true }
def LayoutNoneUptoSaid : Prop := layoutNoneUptoRow.holds Try.pinned (OpenSpec.upto layoutNoneSpec)

/-- 'limekilnlaw06.LayoutSlots', WHERE WHAT IT READS IS OF BULK AT MOST 1048576: true; the input reads as it did. -/
def layoutSlotsUptoRow : OpenClaim := { program := "ytljleibhncidmaa", sum := "df80f449f21ab25ee2eb511ebce3883daea8bdcc65109d3d337f7d25ca86acbd", func := "limekiln/limekilnlaw06.LayoutSlots", spec := "layoutSlots", unfollowed := true, recurses := true, apart := false, narrowed := true }
def LayoutSlotsUptoSaid : Prop := layoutSlotsUptoRow.holds Try.pinned (OpenSpec.upto layoutSlotsSpec)

/-- 'limekilnlaw06.LayoutEmpty', WHERE WHAT IT READS IS OF BULK AT MOST 1048576: true; the input reads as it did. -/
def layoutEmptyUptoRow : OpenClaim := { program := "ytljleibhncidmaa", sum := "df80f449f21ab25ee2eb511ebce3883daea8bdcc65109d3d337f7d25ca86acbd", func := "limekiln/limekilnlaw06.LayoutEmpty", spec := "layoutEmpty", unfollowed := true, recurses := true, apart := false, narrowed := true }
def LayoutEmptyUptoSaid : Prop := layoutEmptyUptoRow.holds Try.pinned (OpenSpec.upto layoutEmptySpec)

end Rows
end Go.Proofs.Ytljleibhncidmaa
