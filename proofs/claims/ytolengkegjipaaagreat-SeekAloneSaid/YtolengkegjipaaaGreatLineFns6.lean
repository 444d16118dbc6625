/- Read, Cut and Image of package lines; Bytes and Words of the document's answer for it; a text's string. Conditions: those that each theorem names. -/
import Derived.Test.YtolengkegjipaaaGreatLineGather
import Derived.Laws.BytesString
import Derived.Laws.IdiomStrings
namespace Go.Proofs.YtolengkegjipaaaGreat
open Go.ChangeShapes Go.WideShapes Go.ChangeAt Go.RowKit
set_option linter.unusedVariables false
set_option maxHeartbeats 400000 in
theorem cut_of (A : Option Addr) (m cap : Nat) (zs : List Int) (w : World) (hl : zs.length = m * 8) (hm : m ≤ 262144) (hcap : m * 8 ≤ cap) (hcm : cap ≤ 9223372036854775807) (hz : Lim zs 18446744073709551616) (hA : Ints w .u64 A zs) :
    Calls Tryz.prog 46 #[.slice A (m * 8) cap] w (LinesBack w m zs) := by
  have HC := Lib.hid (gatherW_of A m cap zs w hl hm hcap hcm hz hA)
  clear hl
  go_enter Tryz.func46, Tryz.ntmps46
  go_wp2_with fail
  refine HC.out.mono ?_
  rintro e w' ⟨v, rfl, hrow, hx⟩
  go_wp2_with fail
  go_ret2
  exact ⟨v, rfl, hrow, hx⟩
end Go.Proofs.YtolengkegjipaaaGreat

