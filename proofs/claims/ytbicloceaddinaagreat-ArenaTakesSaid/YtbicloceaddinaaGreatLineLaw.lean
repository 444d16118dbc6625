/- What the laws of lines share: two rows compared; a line's cells kept. Conditions: those that each theorem names. -/
import Derived.Test.YtbicloceaddinaaGreatLineFns6
import Derived.Test.YtbicloceaddinaaGreatViews
import Derived.Deep.DeepCutAuto
namespace Go.Proofs.YtbicloceaddinaaGreat
open Go.ChangeShapes Go.WideShapes Go.ChangeAt Go.RowKit
set_option linter.unusedVariables false
theorem same_n (A A' : Option Addr) (n n' c c' : Nat) (xs ys : List Int) (b : Bool) (w : World) (h1 : xs.length = n) (h2 : ys.length = n') (hx : n ≤ 1000000000) (hb : decide (xs = ys) = b) (hA : Ints w .u64 A xs) (hA' : Ints w .u64 A' ys) :
    Calls Tryz.prog 80 #[.slice A n c, .slice A' n' c'] w fun e w' => e = .returned (.bool b) ∧ Ext w w' := by
  subst h1 h2 hb
  exact (same_any A A' c c' xs ys w hx hA hA').mono fun e w' ⟨he, n, hw⟩ => ⟨he, hw ▸ drewN_ext w n⟩
end Go.Proofs.YtbicloceaddinaaGreat

