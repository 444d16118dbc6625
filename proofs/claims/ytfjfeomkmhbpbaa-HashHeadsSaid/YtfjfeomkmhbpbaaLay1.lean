/- The functions that lay areas one behind the other; how many lines so many words take. Conditions: those that each theorem names. -/
import Derived.Test.YtfjfeomkmhbpbaaSuper5
import Derived.Test.YtfjfeomkmhbpbaaFr
namespace Go.Proofs.Ytfjfeomkmhbpbaa
open Go.ChangeShapes Go.WideShapes Go.ChangeAt Go.RowKit
set_option linter.unusedVariables false

theorem linesOf_any (n : Int) (w : World) (h0 : 0 ≤ n) (h1 : n ≤ 1000000) :
    Calls Try.prog 54 #[.int .i64 n] w fun e w' => e = .returned (.int .i64 ((n + 7) / 8)) ∧ w = w' := by
  go_enter Try.func54, Try.ntmps54
  go_wp2
  go_ret
  exact ⟨reti (by omega), rfl⟩
theorem counter_any (w : World) :
    Calls Try.prog 52 #[] w fun e w' => e = .returned (.func (.func 72) #[] #[.pointer (some ⟨w.heap.size, 0, none⟩)]) ∧ w' = w.alloc (.cells #[.int .i64 0] 3) := by
  have hmf : ∀ (fn : Fn) (first cap : Array Value) (w : World), (Instr.makeFunc fn first cap).run Try.prog w = .ok (.func fn first cap) w := fun _ _ _ _ => rfl
  go_enter Try.func52, Try.ntmps52
  go_wp2
  go_ret
  exact ⟨rfl, rfl⟩
theorem next_any (n k : Int) (c : Nat) (w : World) (h0 : 0 ≤ n) (h1 : n ≤ 1000000) (k0 : 0 ≤ k) (k1 : k ≤ 1000000000) (hc : w.cell? ⟨c, 0, none⟩ = some (.int .i64 k)) (hf : w.frozen? ⟨c, 0, none⟩ = false) :
    Calls Try.prog 72 #[.int .i64 n, .pointer (some ⟨c, 0, none⟩)] w fun e w' => e = .returned (.int .i64 k) ∧ w' = w.setCell ⟨c, 0, none⟩ (.int .i64 (k + n)) := by
  go_enter Try.func72, Try.ntmps72
  go_wp2
  go_ret
  exact ⟨rfl, rfl⟩
theorem lay_any (n k : Int) (b c : Nat) (w : World) (h0 : 0 ≤ n) (h1 : n ≤ 1000000) (k0 : 0 ≤ k) (k1 : k ≤ 1000000000) (hb : w.cell? ⟨b, 0, none⟩ = some (.func (.func 72) #[] #[.pointer (some ⟨c, 0, none⟩)])) (hc : w.cell? ⟨c, 0, none⟩ = some (.int .i64 k)) (hf : w.frozen? ⟨c, 0, none⟩ = false) :
    Calls Try.prog 53 #[.int .i64 n, .pointer (some ⟨b, 0, none⟩)] w fun e w' => e = .returned (.int .i64 (k * 8)) ∧ w' = w.setCell ⟨c, 0, none⟩ (.int .i64 (k + n)) := by
  go_enter Try.func53, Try.ntmps53
  go_wp2_with fail
  refine (next_any n k c _ h0 h1 k0 k1 hc hf).mono ?_
  rintro e w' ⟨rfl, rfl⟩
  go_wp2
  go_ret
  exact ⟨rfl, rfl⟩
theorem layp_any (n k : Int) (b c : Nat) (w : World) (h0 : 0 ≤ n) (h1 : n ≤ 1000000) (k0 : 0 ≤ k) (k1 : k ≤ 1000000000) (hb : w.cell? ⟨b, 0, none⟩ = some (.func (.func 72) #[] #[.pointer (some ⟨c, 0, none⟩)])) (hc : w.cell? ⟨c, 0, none⟩ = some (.int .i64 k)) (hf : w.frozen? ⟨c, 0, none⟩ = false) :
    Calls Try.prog 55 #[.int .i64 n, .pointer (some ⟨b, 0, none⟩)] w fun e w' => e = .returned (.int .i64 (-1 - k)) ∧ w' = w.setCell ⟨c, 0, none⟩ (.int .i64 (k + n)) := by
  go_enter Try.func55, Try.ntmps55
  go_wp2_with fail
  refine (next_any n k c _ h0 h1 k0 k1 hc hf).mono ?_
  rintro e w' ⟨rfl, rfl⟩
  go_wp2
  go_ret
  exact ⟨rfl, rfl⟩
end Go.Proofs.Ytfjfeomkmhbpbaa
