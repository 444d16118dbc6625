/- What each function of package bits, and of the reference beside it, answers for any word and any numbers; the world has at most new blocks behind. Conditions: each argument lies in its type. -/
import Derived.Test.YtndplpfbohigpaaGreatBase
import Derived.Test.YtndplpfbohigpaaGreatBitsMath
namespace Go.Proofs.YtndplpfbohigpaaGreat
open Go.ChangeShapes Go.WideShapes Go.ChangeAt Go.RowKit
set_option linter.unusedVariables false

theorem ret_int {k : IntKind} {a b : Int} (h : a = b) : Ending.returned (.int k a) = .returned (.int k b) := by rw [h]
theorem ret_bool {a b : Bool} (h : a = b) : Ending.returned (.bool a) = .returned (.bool b) := by rw [h]
/-- What a function answers, whatever it lays behind. -/
def Tells (w : World) (v : Value) (e : Ending) (w' : World) : Prop := e = .returned v ∧ Ext w w'

theorem mkf : ∀ (fn : Fn) (first cap : Array Value) (w : World), (Instr.makeFunc fn first cap).run Tryz.prog w = .ok (.func fn first cap) w := fun _ _ _ _ => rfl

theorem less_any (f : Int) (h0 : 0 ≤ f) (h1 : f < 9223372036854775808) (w : World) :
    Calls Tryz.prog 211 #[.int .u64 f] w fun e w' => e = .returned (.int .i64 (f - 1)) ∧ w = w' := by
  by_cases hf : f = 0
  · subst hf
    go_enter Tryz.func211, Tryz.ntmps211
    go_wp2
    go_ret
    exact ⟨rfl, rfl⟩
  · have hb : ((f : Int) == 0) = false := by simpa using hf
    clear hf
    go_enter Tryz.func211, Tryz.ntmps211
    go_wp2
    go_ret
    exact ⟨ret_int (by go_arith), rfl⟩

theorem rcut_any (n m : Int) (hm : m = 4294967296 ∨ m = 128) (w : World) :
    Calls Tryz.prog 198 #[.int .i64 n, .int .i64 m] w fun e w' => e = .returned (.int .i64 ((n + 1) % m)) ∧ w = w' := by
  rcases hm with rfl | rfl
  · go_enter Tryz.func198, Tryz.ntmps198
    go_wp2
    all_goals go_ret
    all_goals refine ⟨ret_int ?_, rfl⟩
    · exact BM.cut32neg n (by assumption)
    · exact BM.cut32pos n (by assumption)
  · go_enter Tryz.func198, Tryz.ntmps198
    go_wp2
    all_goals go_ret
    all_goals refine ⟨ret_int ?_, rfl⟩
    · exact BM.cut7neg n (by assumption)
    · exact BM.cut7pos n (by assumption)


set_option maxHeartbeats 400000 in
theorem to_any (x : Int) (h0 : 0 ≤ x) (h1 : x < 18446744073709551616) (w : World) :
    Calls Tryz.prog 140 #[.int .u64 x] w (Tells w (.int .i64 (x % 4294967296 - 1))) := by
  have hmf := mkf
  go_enter Tryz.func140, Tryz.ntmps140
  go_wp2_with (first | (go_at_call 211; (with_reducible refine (less_any _ (by rw [BM.and32 x h0 h1]; omega) (by rw [BM.and32 x h0 h1]; omega) _).mono ?_); rintro e w' ⟨rfl, rfl⟩) | go_in)
  go_ret
  exact ⟨ret_int (by rw [BM.and32 x h0 h1]), ext2 _ _ _⟩

set_option maxHeartbeats 400000 in
theorem rto_any (x : Int) (h0 : 0 ≤ x) (h1 : x < 18446744073709551616) (w : World) :
    Calls Tryz.prog 187 #[.int .u64 x] w (Tells w (.int .i64 (x % 4294967296 - 1))) := by
  go_enter Tryz.func187, Tryz.ntmps187
  go_wp2
  go_ret
  exact ⟨ret_int (by go_arith), Ext.refl _⟩

set_option maxHeartbeats 400000 in
theorem by_any (x : Int) (h0 : 0 ≤ x) (h1 : x < 18446744073709551616) (w : World) :
    Calls Tryz.prog 271 #[.int .u64 x] w (Tells w (.int .i64 (x / 4294967296 % 128 - 1))) := by
  have hmf := mkf
  go_enter Tryz.func271, Tryz.ntmps271
  go_wp2_with (first | (go_at_call 211; (with_reducible refine (less_any _ (by rw [BM.and7 _ (by omega) (by omega)]; omega) (by rw [BM.and7 _ (by omega) (by omega)]; omega) _).mono ?_); rintro e w' ⟨rfl, rfl⟩) | go_in)
  go_ret
  exact ⟨ret_int (by rw [BM.and7 _ (by omega) (by omega)]), ext2 _ _ _⟩

set_option maxHeartbeats 400000 in
theorem rby_any (x : Int) (h0 : 0 ≤ x) (h1 : x < 18446744073709551616) (w : World) :
    Calls Tryz.prog 181 #[.int .u64 x] w (Tells w (.int .i64 (x / 4294967296 % 128 - 1))) := by
  go_enter Tryz.func181, Tryz.ntmps181
  go_wp2
  go_ret
  exact ⟨ret_int (by go_arith), Ext.refl _⟩

set_option maxHeartbeats 400000 in
theorem dirty_any (x : Int) (h0 : 0 ≤ x) (h1 : x < 18446744073709551616) (w : World) :
    Calls Tryz.prog 230 #[.int .u64 x] w (Tells w (.bool (BM.dirtyB x))) := by
  have hmf := mkf
  go_enter Tryz.func230, Tryz.ntmps230
  go_wp2
  go_ret
  exact ⟨ret_bool (by exact BM.dirty_of x h0 h1), ext2 _ _ _⟩

set_option maxHeartbeats 400000 in
theorem rdirty_any (x : Int) (h0 : 0 ≤ x) (h1 : x < 18446744073709551616) (w : World) :
    Calls Tryz.prog 88 #[.int .u64 x] w (Tells w (.bool (BM.dirtyB x))) := by
  go_enter Tryz.func88, Tryz.ntmps88
  go_wp2
  go_ret
  exact ⟨ret_bool (by exact BM.rdirty_of x), Ext.refl _⟩

set_option maxHeartbeats 400000 in
theorem clean_any (x : Int) (h0 : 0 ≤ x) (h1 : x < 18446744073709551616) (w : World) :
    Calls Tryz.prog 172 #[.int .u64 x] w (Tells w (.int .u64 (x % 9223372036854775808))) := by
  have hmf := mkf
  go_enter Tryz.func172, Tryz.ntmps172
  go_wp2
  go_ret
  exact ⟨ret_int (by exact BM.clean_of x h0 h1), ext2 _ _ _⟩

set_option maxHeartbeats 400000 in
theorem rclean_any (x : Int) (h0 : 0 ≤ x) (h1 : x < 18446744073709551616) (w : World) :
    Calls Tryz.prog 85 #[.int .u64 x] w (Tells w (.int .u64 (x % 9223372036854775808))) := by
  go_enter Tryz.func85, Tryz.ntmps85
  go_wp2
  go_ret
  exact ⟨ret_int (by go_arith), Ext.refl _⟩

set_option maxHeartbeats 400000 in
theorem soil_any (x : Int) (h0 : 0 ≤ x) (h1 : x < 18446744073709551616) (w : World) :
    Calls Tryz.prog 171 #[.int .u64 x] w (Tells w (.int .u64 (x % 9223372036854775808 + 9223372036854775808))) := by
  have hmf := mkf
  go_enter Tryz.func171, Tryz.ntmps171
  go_wp2
  go_ret
  exact ⟨ret_int (by exact BM.soil_of x h0 h1), ext2 _ _ _⟩

set_option maxHeartbeats 400000 in
theorem rsoil_any (x : Int) (h0 : 0 ≤ x) (h1 : x < 18446744073709551616) (w : World) :
    Calls Tryz.prog 84 #[.int .u64 x] w (Tells w (.int .u64 (x % 9223372036854775808 + 9223372036854775808))) := by
  go_enter Tryz.func84, Tryz.ntmps84
  go_wp2
  go_ret
  exact ⟨ret_int (by go_arith), Ext.refl _⟩

set_option maxHeartbeats 400000 in
theorem stamp_any (x : Int) (h0 : 0 ≤ x) (h1 : x < 18446744073709551616) (w : World) :
    Calls Tryz.prog 248 #[.int .u64 x] w (Tells w (.int .i64 (x / 4294967296 - 1))) := by
  have hmf := mkf
  go_enter Tryz.func248, Tryz.ntmps248
  go_wp2_with (first | (go_at_call 211; (with_reducible refine (less_any _ (by rw [BM.and32 _ (by omega) (by omega)]; omega) (by rw [BM.and32 _ (by omega) (by omega)]; omega) _).mono ?_); rintro e w' ⟨rfl, rfl⟩) | go_in)
  go_ret
  exact ⟨ret_int (by rw [BM.and32 _ (by omega) (by omega)]; omega), ext2 _ _ _⟩

set_option maxHeartbeats 400000 in
theorem rstamp_any (x : Int) (h0 : 0 ≤ x) (h1 : x < 18446744073709551616) (w : World) :
    Calls Tryz.prog 196 #[.int .u64 x] w (Tells w (.int .i64 (x / 4294967296 - 1))) := by
  go_enter Tryz.func196, Tryz.ntmps196
  go_wp2
  go_ret
  exact ⟨ret_int (by go_arith), Ext.refl _⟩

set_option maxHeartbeats 400000 in
theorem ver_any (x : Int) (h0 : 0 ≤ x) (h1 : x < 18446744073709551616) (w : World) :
    Calls Tryz.prog 256 #[.int .u64 x] w (Tells w (.int .u32 (x / 4294967296))) := by
  have hmf := mkf
  go_enter Tryz.func256, Tryz.ntmps256
  go_wp2
  go_ret
  exact ⟨ret_int (by rw [BM.and32 _ (by omega) (by omega)]; go_arith), ext2 _ _ _⟩

set_option maxHeartbeats 400000 in
theorem rver_any (x : Int) (h0 : 0 ≤ x) (h1 : x < 18446744073709551616) (w : World) :
    Calls Tryz.prog 228 #[.int .u64 x] w (Tells w (.int .u32 (x / 4294967296))) := by
  go_enter Tryz.func228, Tryz.ntmps228
  go_wp2
  go_ret
  exact ⟨ret_int (by go_arith), Ext.refl _⟩

set_option maxHeartbeats 400000 in
theorem link_any (a b : Int) (h0 : -9223372036854775808 ≤ a) (h1 : a < 9223372036854775808) (h2 : -9223372036854775808 ≤ b) (h3 : b < 9223372036854775808) (w : World) :
    Calls Tryz.prog 89 #[.int .i64 a, .int .i64 b] w (Tells w (.int .u64 ((a + 1) % 4294967296 + 4294967296 * ((b + 1) % 128)))) := by
  have hmf := mkf
  go_enter Tryz.func89, Tryz.ntmps89
  go_wp2
  go_ret
  exact ⟨ret_int (by exact BM.link_of a b), ext4 _ _ _ _ _⟩

set_option maxHeartbeats 400000 in
theorem entry_any (a b : Int) (h0 : -9223372036854775808 ≤ a) (h1 : a < 9223372036854775808) (h2 : -9223372036854775808 ≤ b) (h3 : b < 9223372036854775808) (w : World) :
    Calls Tryz.prog 135 #[.int .i64 a, .int .i64 b] w (Tells w (.int .u64 ((a + 1) % 4294967296 + 4294967296 * ((b + 1) % 4294967296)))) := by
  have hmf := mkf
  go_enter Tryz.func135, Tryz.ntmps135
  go_wp2
  go_ret
  exact ⟨ret_int (by exact BM.entry_of a b), ext4 _ _ _ _ _⟩

set_option maxHeartbeats 400000 in
theorem rentry_any (a b : Int) (h0 : -9223372036854775808 ≤ a) (h1 : a < 9223372036854775808) (h2 : -9223372036854775808 ≤ b) (h3 : b < 9223372036854775808) (w : World) :
    Calls Tryz.prog 119 #[.int .i64 a, .int .i64 b] w (Tells w (.int .u64 ((a + 1) % 4294967296 + 4294967296 * ((b + 1) % 4294967296)))) := by
  go_enter Tryz.func119, Tryz.ntmps119
  go_wp2_with (first | (go_at_call 198; (with_reducible refine (rcut_any _ _ (by first | exact Or.inl rfl | exact Or.inr rfl) _).mono ?_); rintro e w' ⟨rfl, rfl⟩) | go_in)
  go_ret
  exact ⟨ret_int (by go_arith), Ext.refl _⟩

set_option maxHeartbeats 400000 in
theorem top_any (a b : Int) (h0 : -9223372036854775808 ≤ a) (h1 : a < 9223372036854775808) (h2 : 0 ≤ b) (h3 : b < 4294967296) (w : World) :
    Calls Tryz.prog 255 #[.int .i64 a, .int .u32 b] w (Tells w (.int .u64 ((a + 1) % 4294967296 + 4294967296 * b))) := by
  have hmf := mkf
  go_enter Tryz.func255, Tryz.ntmps255
  go_wp2
  go_ret
  exact ⟨ret_int (by exact BM.top_of a b h2 h3), ext4 _ _ _ _ _⟩

set_option maxHeartbeats 400000 in
theorem rtop_any (a b : Int) (h0 : -9223372036854775808 ≤ a) (h1 : a < 9223372036854775808) (h2 : 0 ≤ b) (h3 : b < 4294967296) (w : World) :
    Calls Tryz.prog 227 #[.int .i64 a, .int .u32 b] w (Tells w (.int .u64 ((a + 1) % 4294967296 + 4294967296 * b))) := by
  go_enter Tryz.func227, Tryz.ntmps227
  go_wp2_with (first | (go_at_call 198; (with_reducible refine (rcut_any _ _ (by first | exact Or.inl rfl | exact Or.inr rfl) _).mono ?_); rintro e w' ⟨rfl, rfl⟩) | go_in)
  go_ret
  exact ⟨ret_int (by go_arith), Ext.refl _⟩

end Go.Proofs.YtndplpfbohigpaaGreat
