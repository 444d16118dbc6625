/- What the walks of LinesImages share. Conditions: those that each theorem names. -/
import Derived.Test.YtimbfclnkagnaaaLineLaw
namespace Go.Proofs.Ytimbfclnkagnaaa
open Go.ChangeShapes Go.WideShapes Go.ChangeAt Go.RowKit
set_option linter.unusedVariables false
theorem refBytes_n (w : World) (A : Option Addr) (n c : Nat) (zs : List Int) (hn : zs.length = n) (hl : n ≤ 10000000) (hlim : Lim zs 18446744073709551616) (hA : Ints w .u64 A zs) :
    Calls Try.prog 15 #[.slice A n c] w (RowBack w 5 .u8 (LM.bytesOf zs)) := by
  subst hn
  exact refBytes_of w A c zs hl hlim hA
theorem row_n {w : World} {B n : Nat} {e : TypeId} {k : IntKind} {v : Value} {zs : List Int} (h : Row w B e k v zs) (hn : zs.length = n) : ∃ A c, v = .slice A n c ∧ n ≤ c ∧ c ≤ 9223372036854775807 ∧ Ints w k A zs ∧ (A = none → n = 0) := by
  obtain ⟨A, c, h1, h2, h3, h4, _, h5⟩ := (RowN.of_row h).form (by decide)
  rw [hn] at h1 h2 h5
  unfold maxLen at h3
  exact ⟨A, c, h1, h2, by omega, h4, h5⟩
set_option maxRecDepth 100000 in
theorem linesImages_far (A0 A1 : Option Addr) (n0 c0 n1 c1 : Nat) (w : World) (h0 : n0 ≤ 9223372036854775807) (h1 : n1 ≤ 9223372036854775807) (h : 40 < n0 ∨ 3000 < n1) :
    Calls Try.prog 4 #[.slice A0 n0 c0, .slice A1 n1 c1] w fun e w' => e = .returned (.bool true) ∧ Ext w w' := by
  by_cases g : 40 < n0
  · have t0 : decide (40 < (n0 : Int)) = true := by simp; omega
    go_enter Try.func4, Try.ntmps4
    go_wp2_with fail
    refine (awake3_any _).mono ?_
    rintro e w1 ⟨rfl, hx1⟩
    go_wp2_with fail
    go_ret
    exact ⟨rfl, hx1⟩
  · have t0 : decide (40 < (n0 : Int)) = false := by simp; omega
    have t1 : decide (3000 < (n1 : Int)) = true := by simp; omega
    clear h
    go_enter Try.func4, Try.ntmps4
    go_wp2_with fail
    refine (awake3_any _).mono ?_
    rintro e w1 ⟨rfl, hx1⟩
    go_wp2_with fail
    go_ret
    exact ⟨rfl, hx1⟩
end Go.Proofs.Ytimbfclnkagnaaa
