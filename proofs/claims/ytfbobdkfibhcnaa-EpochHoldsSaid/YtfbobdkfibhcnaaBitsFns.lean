/- What each function of package bits, and of the reference beside it, answers for any word and any numbers; the world has at most new blocks behind. Conditions: each argument lies in its type. -/
import Derived.Test.YtfbobdkfibhcnaaBase
import Derived.Test.YtfbobdkfibhcnaaBitsMath
namespace Go.Proofs.Ytfbobdkfibhcnaa
open Go.ChangeShapes Go.WideShapes Go.ChangeAt Go.RowKit
set_option linter.unusedVariables false

theorem ret_int {k : IntKind} {a b : Int} (h : a = b) : Ending.returned (.int k a) = .returned (.int k b) := by rw [h]
theorem ret_bool {a b : Bool} (h : a = b) : Ending.returned (.bool a) = .returned (.bool b) := by rw [h]
/-- What a function answers, whatever it lays behind. -/
def Tells (w : World) (v : Value) (e : Ending) (w' : World) : Prop := e = .returned v ∧ Ext w w'

theorem mkf : ∀ (fn : Fn) (first cap : Array Value) (w : World), (Instr.makeFunc fn first cap).run Try.prog w = .ok (.func fn first cap) w := fun _ _ _ _ => rfl

theorem less_any (f : Int) (h0 : 0 ≤ f) (h1 : f < 9223372036854775808) (w : World) :
    Calls Try.prog 83 #[.int .u64 f] w fun e w' => e = .returned (.int .i64 (f - 1)) ∧ w = w' := by
  by_cases hf : f = 0
  · subst hf
    go_enter Try.func83, Try.ntmps83
    go_wp2
    go_ret
    exact ⟨rfl, rfl⟩
  · have hb : ((f : Int) == 0) = false := by simpa using hf
    clear hf
    go_enter Try.func83, Try.ntmps83
    go_wp2
    go_ret
    exact ⟨ret_int (by go_arith), rfl⟩

set_option maxHeartbeats 400000 in
theorem to_any (x : Int) (h0 : 0 ≤ x) (h1 : x < 18446744073709551616) (w : World) :
    Calls Try.prog 49 #[.int .u64 x] w (Tells w (.int .i64 (x % 4294967296 - 1))) := by
  have hmf := mkf
  go_enter Try.func49, Try.ntmps49
  go_wp2_with (first | (go_at_call 83; (with_reducible refine (less_any _ (by rw [BM.and32 x h0 h1]; omega) (by rw [BM.and32 x h0 h1]; omega) _).mono ?_); rintro e w' ⟨rfl, rfl⟩) | go_in)
  go_ret
  exact ⟨ret_int (by rw [BM.and32 x h0 h1]), ext2 _ _ _⟩

set_option maxHeartbeats 400000 in
theorem ver_any (x : Int) (h0 : 0 ≤ x) (h1 : x < 18446744073709551616) (w : World) :
    Calls Try.prog 89 #[.int .u64 x] w (Tells w (.int .u32 (x / 4294967296))) := by
  have hmf := mkf
  go_enter Try.func89, Try.ntmps89
  go_wp2
  go_ret
  exact ⟨ret_int (by rw [BM.and32 _ (by omega) (by omega)]; go_arith), ext2 _ _ _⟩

set_option maxHeartbeats 400000 in
theorem top_any (a b : Int) (h0 : -9223372036854775808 ≤ a) (h1 : a < 9223372036854775808) (h2 : 0 ≤ b) (h3 : b < 4294967296) (w : World) :
    Calls Try.prog 88 #[.int .i64 a, .int .u32 b] w (Tells w (.int .u64 ((a + 1) % 4294967296 + 4294967296 * b))) := by
  have hmf := mkf
  go_enter Try.func88, Try.ntmps88
  go_wp2
  go_ret
  exact ⟨ret_int (by exact BM.top_of a b h2 h3), ext4 _ _ _ _ _⟩

end Go.Proofs.Ytfbobdkfibhcnaa
