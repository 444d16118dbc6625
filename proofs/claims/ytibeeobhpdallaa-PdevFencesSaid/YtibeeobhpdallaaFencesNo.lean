/- PdevFences where nothing is asked: the page's example alone. Conditions: those that each theorem names. -/
import Derived.Test.YtibeeobhpdallaaFencesWalk
namespace Go.Proofs.Ytibeeobhpdallaa
open Go.ChangeShapes Go.WideShapes Go.ChangeAt Go.RowKit
set_option linter.unusedVariables false
set_option maxRecDepth 100000 in
set_option maxHeartbeats 1000000 in
theorem fences_err (w : World) (A A1 : Option Addr) (N c n1 c1 : Nat) (ln k : Int) (hk : k ≠ 0) (HO' : Calls Try.prog 8 #[.slice A N c, .int .i64 3] w (DevNone w k)) :
    Calls Try.prog 6 #[.slice A N c, .slice A1 n1 c1, .int .i64 ln] w (fun e w' => e = .returned (.bool true) ∧ Ext w w') := by
  have HO := Lib.hid HO'
  have HA := Lib.hid (fun W => awake4_of W)
  clear HO'
  have t0 : decide (k = 0) = false := by simp [hk]
  go_enter Try.func6, Try.ntmps6
  go_wp2_with fail
  refine HO.out.mono ?_
  rintro e w1 ⟨rfl, x1⟩
  go_wp2_with fail
  refine (HA.out _).mono ?_
  rintro e w2 ⟨rfl, x2⟩
  go_wp2_with fail
  go_ret
  exact ⟨rfl, x1.trans x2⟩
set_option maxRecDepth 100000 in
set_option maxHeartbeats 1000000 in
theorem fences_out (w : World) (A A1 : Option Addr) (N c n1 c1 : Nat) (ln : Int) (s : DSt) (hN : N ≤ 9223372036854775807) (hn1 : n1 ≤ 9223372036854775807) (hb : 60 < N ∨ 60 < n1 ∨ ln < 0 ∨ (N : Int) / 8 ≤ ln) (HO' : Calls Try.prog 8 #[.slice A N c, .int .i64 3] w (DevNew w s)) :
    Calls Try.prog 6 #[.slice A N c, .slice A1 n1 c1, .int .i64 ln] w (fun e w' => e = .returned (.bool true) ∧ Ext w w') := by
  have HO := Lib.hid HO'
  have HA := Lib.hid (fun W => awake4_of W)
  clear HO'
  by_cases b1 : 60 < N
  · have t1 : decide ((60 : Int) < (N : Int)) = true := by simp; omega
    clear hb
    go_enter Try.func6, Try.ntmps6
    go_wp2_with fail
    refine HO.out.mono ?_
    rintro e w1 ⟨D, rfl, _, x1⟩
    go_wp2_with fail
    refine (HA.out _).mono ?_
    rintro e w2 ⟨rfl, x2⟩
    go_wp2_with fail
    go_ret
    exact ⟨rfl, x1.trans x2⟩
  have t1 : decide ((60 : Int) < (N : Int)) = false := by simp; omega
  by_cases b2 : 60 < n1
  · have t2 : decide ((60 : Int) < (n1 : Int)) = true := by simp; omega
    clear hb
    go_enter Try.func6, Try.ntmps6
    go_wp2_with fail
    refine HO.out.mono ?_
    rintro e w1 ⟨D, rfl, _, x1⟩
    go_wp2_with fail
    refine (HA.out _).mono ?_
    rintro e w2 ⟨rfl, x2⟩
    go_wp2_with fail
    go_ret
    exact ⟨rfl, x1.trans x2⟩
  have t2 : decide ((60 : Int) < (n1 : Int)) = false := by simp; omega
  by_cases b3 : ln < 0
  · have t3 : decide (ln < 0) = true := by simp; omega
    clear hb
    go_enter Try.func6, Try.ntmps6
    go_wp2_with fail
    refine HO.out.mono ?_
    rintro e w1 ⟨D, rfl, _, x1⟩
    go_wp2_with fail
    refine (HA.out _).mono ?_
    rintro e w2 ⟨rfl, x2⟩
    go_wp2_with fail
    go_ret
    exact ⟨rfl, x1.trans x2⟩
  have t3 : decide (ln < 0) = false := by simp; omega
  have t4 : decide ((N : Int) / 8 ≤ ln) = true := by simp; omega
  clear hb
  go_enter Try.func6, Try.ntmps6
  go_wp2_with fail
  refine HO.out.mono ?_
  rintro e w1 ⟨D, rfl, _, x1⟩
  go_wp2_with fail
  refine (HA.out _).mono ?_
  rintro e w2 ⟨rfl, x2⟩
  go_wp2_with fail
  go_ret
  exact ⟨rfl, x1.trans x2⟩
end Go.Proofs.Ytibeeobhpdallaa
