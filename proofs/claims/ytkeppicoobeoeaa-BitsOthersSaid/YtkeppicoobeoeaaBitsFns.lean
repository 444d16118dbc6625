/- What each function of package bits, and of the reference beside it, answers for any word and any numbers; the world has at most new blocks behind. Conditions: each argument lies in its type. -/
import Derived.Test.YtkeppicoobeoeaaBase
import Derived.Test.YtkeppicoobeoeaaBitsMath
namespace Go.Proofs.Ytkeppicoobeoeaa
open Go.ChangeShapes Go.WideShapes Go.ChangeAt Go.RowKit
set_option linter.unusedVariables false

theorem ret_int {k : IntKind} {a b : Int} (h : a = b) : Ending.returned (.int k a) = .returned (.int k b) := by rw [h]
theorem ret_bool {a b : Bool} (h : a = b) : Ending.returned (.bool a) = .returned (.bool b) := by rw [h]
/-- What a function answers, whatever it lays behind. -/
def Tells (w : World) (v : Value) (e : Ending) (w' : World) : Prop := e = .returned v ∧ Ext w w'

theorem mkf : ∀ (fn : Fn) (first cap : Array Value) (w : World), (Instr.makeFunc fn first cap).run Try.prog w = .ok (.func fn first cap) w := fun _ _ _ _ => rfl

theorem less_any (f : Int) (h0 : 0 ≤ f) (h1 : f < 9223372036854775808) (w : World) :
    Calls Try.prog 55 #[.int .u64 f] w fun e w' => e = .returned (.int .i64 (f - 1)) ∧ w = w' := by
  by_cases hf : f = 0
  · subst hf
    go_enter Try.func55, Try.ntmps55
    go_wp2
    go_ret
    exact ⟨rfl, rfl⟩
  · have hb : ((f : Int) == 0) = false := by simpa using hf
    clear hf
    go_enter Try.func55, Try.ntmps55
    go_wp2
    go_ret
    exact ⟨ret_int (by go_arith), rfl⟩

theorem rcut_any (n m : Int) (hm : m = 4294967296 ∨ m = 128) (w : World) :
    Calls Try.prog 59 #[.int .i64 n, .int .i64 m] w fun e w' => e = .returned (.int .i64 ((n + 1) % m)) ∧ w = w' := by
  rcases hm with rfl | rfl
  · go_enter Try.func59, Try.ntmps59
    go_wp2
    all_goals go_ret
    all_goals refine ⟨ret_int ?_, rfl⟩
    · exact BM.cut32neg n (by assumption)
    · exact BM.cut32pos n (by assumption)
  · go_enter Try.func59, Try.ntmps59
    go_wp2
    all_goals go_ret
    all_goals refine ⟨ret_int ?_, rfl⟩
    · exact BM.cut7neg n (by assumption)
    · exact BM.cut7pos n (by assumption)


set_option maxHeartbeats 400000 in
theorem to_any (x : Int) (h0 : 0 ≤ x) (h1 : x < 18446744073709551616) (w : World) :
    Calls Try.prog 14 #[.int .u64 x] w (Tells w (.int .i64 (x % 4294967296 - 1))) := by
  have hmf := mkf
  go_enter Try.func14, Try.ntmps14
  go_wp2_with (first | (go_at_call 55; (with_reducible refine (less_any _ (by rw [BM.and32 x h0 h1]; omega) (by rw [BM.and32 x h0 h1]; omega) _).mono ?_); rintro e w' ⟨rfl, rfl⟩) | go_in)
  go_ret
  exact ⟨ret_int (by rw [BM.and32 x h0 h1]), ext2 _ _ _⟩

set_option maxHeartbeats 400000 in
theorem rto_any (x : Int) (h0 : 0 ≤ x) (h1 : x < 18446744073709551616) (w : World) :
    Calls Try.prog 15 #[.int .u64 x] w (Tells w (.int .i64 (x % 4294967296 - 1))) := by
  go_enter Try.func15, Try.ntmps15
  go_wp2
  go_ret
  exact ⟨ret_int (by go_arith), Ext.refl _⟩

set_option maxHeartbeats 400000 in
theorem by_any (x : Int) (h0 : 0 ≤ x) (h1 : x < 18446744073709551616) (w : World) :
    Calls Try.prog 16 #[.int .u64 x] w (Tells w (.int .i64 (x / 4294967296 % 128 - 1))) := by
  have hmf := mkf
  go_enter Try.func16, Try.ntmps16
  go_wp2_with (first | (go_at_call 55; (with_reducible refine (less_any _ (by rw [BM.and7 _ (by omega) (by omega)]; omega) (by rw [BM.and7 _ (by omega) (by omega)]; omega) _).mono ?_); rintro e w' ⟨rfl, rfl⟩) | go_in)
  go_ret
  exact ⟨ret_int (by rw [BM.and7 _ (by omega) (by omega)]), ext2 _ _ _⟩

set_option maxHeartbeats 400000 in
theorem rby_any (x : Int) (h0 : 0 ≤ x) (h1 : x < 18446744073709551616) (w : World) :
    Calls Try.prog 17 #[.int .u64 x] w (Tells w (.int .i64 (x / 4294967296 % 128 - 1))) := by
  go_enter Try.func17, Try.ntmps17
  go_wp2
  go_ret
  exact ⟨ret_int (by go_arith), Ext.refl _⟩

set_option maxHeartbeats 400000 in
theorem dirty_any (x : Int) (h0 : 0 ≤ x) (h1 : x < 18446744073709551616) (w : World) :
    Calls Try.prog 18 #[.int .u64 x] w (Tells w (.bool (BM.dirtyB x))) := by
  have hmf := mkf
  go_enter Try.func18, Try.ntmps18
  go_wp2
  go_ret
  exact ⟨ret_bool (by exact BM.dirty_of x h0 h1), ext2 _ _ _⟩

set_option maxHeartbeats 400000 in
theorem rdirty_any (x : Int) (h0 : 0 ≤ x) (h1 : x < 18446744073709551616) (w : World) :
    Calls Try.prog 19 #[.int .u64 x] w (Tells w (.bool (BM.dirtyB x))) := by
  go_enter Try.func19, Try.ntmps19
  go_wp2
  go_ret
  exact ⟨ret_bool (by exact BM.rdirty_of x), Ext.refl _⟩

set_option maxHeartbeats 400000 in
theorem clean_any (x : Int) (h0 : 0 ≤ x) (h1 : x < 18446744073709551616) (w : World) :
    Calls Try.prog 20 #[.int .u64 x] w (Tells w (.int .u64 (x % 9223372036854775808))) := by
  have hmf := mkf
  go_enter Try.func20, Try.ntmps20
  go_wp2
  go_ret
  exact ⟨ret_int (by exact BM.clean_of x h0 h1), ext2 _ _ _⟩

set_option maxHeartbeats 400000 in
theorem rclean_any (x : Int) (h0 : 0 ≤ x) (h1 : x < 18446744073709551616) (w : World) :
    Calls Try.prog 21 #[.int .u64 x] w (Tells w (.int .u64 (x % 9223372036854775808))) := by
  go_enter Try.func21, Try.ntmps21
  go_wp2
  go_ret
  exact ⟨ret_int (by go_arith), Ext.refl _⟩

set_option maxHeartbeats 400000 in
theorem soil_any (x : Int) (h0 : 0 ≤ x) (h1 : x < 18446744073709551616) (w : World) :
    Calls Try.prog 22 #[.int .u64 x] w (Tells w (.int .u64 (x % 9223372036854775808 + 9223372036854775808))) := by
  have hmf := mkf
  go_enter Try.func22, Try.ntmps22
  go_wp2
  go_ret
  exact ⟨ret_int (by exact BM.soil_of x h0 h1), ext2 _ _ _⟩

set_option maxHeartbeats 400000 in
theorem rsoil_any (x : Int) (h0 : 0 ≤ x) (h1 : x < 18446744073709551616) (w : World) :
    Calls Try.prog 23 #[.int .u64 x] w (Tells w (.int .u64 (x % 9223372036854775808 + 9223372036854775808))) := by
  go_enter Try.func23, Try.ntmps23
  go_wp2
  go_ret
  exact ⟨ret_int (by go_arith), Ext.refl _⟩

set_option maxHeartbeats 400000 in
theorem stamp_any (x : Int) (h0 : 0 ≤ x) (h1 : x < 18446744073709551616) (w : World) :
    Calls Try.prog 34 #[.int .u64 x] w (Tells w (.int .i64 (x / 4294967296 - 1))) := by
  have hmf := mkf
  go_enter Try.func34, Try.ntmps34
  go_wp2_with (first | (go_at_call 55; (with_reducible refine (less_any _ (by rw [BM.and32 _ (by omega) (by omega)]; omega) (by rw [BM.and32 _ (by omega) (by omega)]; omega) _).mono ?_); rintro e w' ⟨rfl, rfl⟩) | go_in)
  go_ret
  exact ⟨ret_int (by rw [BM.and32 _ (by omega) (by omega)]; omega), ext2 _ _ _⟩

set_option maxHeartbeats 400000 in
theorem rstamp_any (x : Int) (h0 : 0 ≤ x) (h1 : x < 18446744073709551616) (w : World) :
    Calls Try.prog 35 #[.int .u64 x] w (Tells w (.int .i64 (x / 4294967296 - 1))) := by
  go_enter Try.func35, Try.ntmps35
  go_wp2
  go_ret
  exact ⟨ret_int (by go_arith), Ext.refl _⟩

set_option maxHeartbeats 400000 in
theorem seq_any (x : Int) (h0 : 0 ≤ x) (h1 : x < 18446744073709551616) (w : World) :
    Calls Try.prog 36 #[.int .u64 x] w (Tells w (.int .i64 (x / 8589934592))) := by
  have hmf := mkf
  go_enter Try.func36, Try.ntmps36
  go_wp2
  go_ret
  exact ⟨ret_int (by rw [BM.and31 _ (by omega) (by omega)]; go_arith), ext2 _ _ _⟩

set_option maxHeartbeats 400000 in
theorem rseq_any (x : Int) (h0 : 0 ≤ x) (h1 : x < 18446744073709551616) (w : World) :
    Calls Try.prog 37 #[.int .u64 x] w (Tells w (.int .i64 (x / 8589934592))) := by
  go_enter Try.func37, Try.ntmps37
  go_wp2
  go_ret
  exact ⟨ret_int (by go_arith), Ext.refl _⟩

set_option maxHeartbeats 400000 in
theorem done_any (x : Int) (h0 : 0 ≤ x) (h1 : x < 18446744073709551616) (w : World) :
    Calls Try.prog 38 #[.int .u64 x] w (Tells w (.bool (BM.doneB x))) := by
  have hmf := mkf
  go_enter Try.func38, Try.ntmps38
  go_wp2
  go_ret
  exact ⟨ret_bool (by exact BM.done_of x h0 h1), ext2 _ _ _⟩

set_option maxHeartbeats 400000 in
theorem rdone_any (x : Int) (h0 : 0 ≤ x) (h1 : x < 18446744073709551616) (w : World) :
    Calls Try.prog 39 #[.int .u64 x] w (Tells w (.bool (BM.doneB x))) := by
  go_enter Try.func39, Try.ntmps39
  go_wp2
  go_ret
  exact ⟨ret_bool (by exact BM.rdone_of x), Ext.refl _⟩

set_option maxHeartbeats 400000 in
theorem val_any (x : Int) (h0 : 0 ≤ x) (h1 : x < 18446744073709551616) (w : World) :
    Calls Try.prog 40 #[.int .u64 x] w (Tells w (.int .u32 (x % 4294967296))) := by
  have hmf := mkf
  go_enter Try.func40, Try.ntmps40
  go_wp2
  go_ret
  exact ⟨ret_int (by rw [BM.and32 x h0 h1]; go_arith), ext2 _ _ _⟩

set_option maxHeartbeats 400000 in
theorem rval_any (x : Int) (h0 : 0 ≤ x) (h1 : x < 18446744073709551616) (w : World) :
    Calls Try.prog 41 #[.int .u64 x] w (Tells w (.int .u32 (x % 4294967296))) := by
  go_enter Try.func41, Try.ntmps41
  go_wp2
  go_ret
  exact ⟨ret_int (by go_arith), Ext.refl _⟩

set_option maxHeartbeats 400000 in
theorem ver_any (x : Int) (h0 : 0 ≤ x) (h1 : x < 18446744073709551616) (w : World) :
    Calls Try.prog 42 #[.int .u64 x] w (Tells w (.int .u32 (x / 4294967296))) := by
  have hmf := mkf
  go_enter Try.func42, Try.ntmps42
  go_wp2
  go_ret
  exact ⟨ret_int (by rw [BM.and32 _ (by omega) (by omega)]; go_arith), ext2 _ _ _⟩

set_option maxHeartbeats 400000 in
theorem rver_any (x : Int) (h0 : 0 ≤ x) (h1 : x < 18446744073709551616) (w : World) :
    Calls Try.prog 43 #[.int .u64 x] w (Tells w (.int .u32 (x / 4294967296))) := by
  go_enter Try.func43, Try.ntmps43
  go_wp2
  go_ret
  exact ⟨ret_int (by go_arith), Ext.refl _⟩

set_option maxHeartbeats 400000 in
theorem link_any (a b : Int) (h0 : -9223372036854775808 ≤ a) (h1 : a < 9223372036854775808) (h2 : -9223372036854775808 ≤ b) (h3 : b < 9223372036854775808) (w : World) :
    Calls Try.prog 26 #[.int .i64 a, .int .i64 b] w (Tells w (.int .u64 ((a + 1) % 4294967296 + 4294967296 * ((b + 1) % 128)))) := by
  have hmf := mkf
  go_enter Try.func26, Try.ntmps26
  go_wp2
  go_ret
  exact ⟨ret_int (by exact BM.link_of a b), ext4 _ _ _ _ _⟩

set_option maxHeartbeats 400000 in
theorem rlink_any (a b : Int) (h0 : -9223372036854775808 ≤ a) (h1 : a < 9223372036854775808) (h2 : -9223372036854775808 ≤ b) (h3 : b < 9223372036854775808) (w : World) :
    Calls Try.prog 27 #[.int .i64 a, .int .i64 b] w (Tells w (.int .u64 ((a + 1) % 4294967296 + 4294967296 * ((b + 1) % 128)))) := by
  go_enter Try.func27, Try.ntmps27
  go_wp2_with (first | (go_at_call 59; (with_reducible refine (rcut_any _ _ (by first | exact Or.inl rfl | exact Or.inr rfl) _).mono ?_); rintro e w' ⟨rfl, rfl⟩) | go_in)
  go_ret
  exact ⟨ret_int (by go_arith), Ext.refl _⟩

set_option maxHeartbeats 400000 in
theorem entry_any (a b : Int) (h0 : -9223372036854775808 ≤ a) (h1 : a < 9223372036854775808) (h2 : -9223372036854775808 ≤ b) (h3 : b < 9223372036854775808) (w : World) :
    Calls Try.prog 28 #[.int .i64 a, .int .i64 b] w (Tells w (.int .u64 ((a + 1) % 4294967296 + 4294967296 * ((b + 1) % 4294967296)))) := by
  have hmf := mkf
  go_enter Try.func28, Try.ntmps28
  go_wp2
  go_ret
  exact ⟨ret_int (by exact BM.entry_of a b), ext4 _ _ _ _ _⟩

set_option maxHeartbeats 400000 in
theorem rentry_any (a b : Int) (h0 : -9223372036854775808 ≤ a) (h1 : a < 9223372036854775808) (h2 : -9223372036854775808 ≤ b) (h3 : b < 9223372036854775808) (w : World) :
    Calls Try.prog 29 #[.int .i64 a, .int .i64 b] w (Tells w (.int .u64 ((a + 1) % 4294967296 + 4294967296 * ((b + 1) % 4294967296)))) := by
  go_enter Try.func29, Try.ntmps29
  go_wp2_with (first | (go_at_call 59; (with_reducible refine (rcut_any _ _ (by first | exact Or.inl rfl | exact Or.inr rfl) _).mono ?_); rintro e w' ⟨rfl, rfl⟩) | go_in)
  go_ret
  exact ⟨ret_int (by go_arith), Ext.refl _⟩

set_option maxHeartbeats 400000 in
theorem top_any (a b : Int) (h0 : -9223372036854775808 ≤ a) (h1 : a < 9223372036854775808) (h2 : 0 ≤ b) (h3 : b < 4294967296) (w : World) :
    Calls Try.prog 32 #[.int .i64 a, .int .u32 b] w (Tells w (.int .u64 ((a + 1) % 4294967296 + 4294967296 * b))) := by
  have hmf := mkf
  go_enter Try.func32, Try.ntmps32
  go_wp2
  go_ret
  exact ⟨ret_int (by exact BM.top_of a b h2 h3), ext4 _ _ _ _ _⟩

set_option maxHeartbeats 400000 in
theorem rtop_any (a b : Int) (h0 : -9223372036854775808 ≤ a) (h1 : a < 9223372036854775808) (h2 : 0 ≤ b) (h3 : b < 4294967296) (w : World) :
    Calls Try.prog 33 #[.int .i64 a, .int .u32 b] w (Tells w (.int .u64 ((a + 1) % 4294967296 + 4294967296 * b))) := by
  go_enter Try.func33, Try.ntmps33
  go_wp2_with (first | (go_at_call 59; (with_reducible refine (rcut_any _ _ (by first | exact Or.inl rfl | exact Or.inr rfl) _).mono ?_); rintro e w' ⟨rfl, rfl⟩) | go_in)
  go_ret
  exact ⟨ret_int (by go_arith), Ext.refl _⟩

set_option maxHeartbeats 400000 in
theorem cellF_any (a v : Int) (h0 : -9223372036854775808 ≤ a) (h1 : a < 9223372036854775808) (h2 : 0 ≤ v) (h3 : v < 4294967296) (w : World) :
    Calls Try.prog 30 #[.int .i64 a, .bool false, .int .u32 v] w (Tells w (.int .u64 (a % 2147483648 * 8589934592 + v))) := by
  have hmf := mkf
  go_enter Try.func30, Try.ntmps30
  go_wp2
  all_goals go_ret
  exact ⟨ret_int (BM.cell_of a v h2 h3), ext4 _ _ _ _ _⟩

set_option maxHeartbeats 400000 in
theorem cellT_any (a v : Int) (h0 : -9223372036854775808 ≤ a) (h1 : a < 9223372036854775808) (h2 : 0 ≤ v) (h3 : v < 4294967296) (w : World) :
    Calls Try.prog 30 #[.int .i64 a, .bool true, .int .u32 v] w (Tells w (.int .u64 (a % 2147483648 * 8589934592 + v + 4294967296))) := by
  have hmf := mkf
  go_enter Try.func30, Try.ntmps30
  go_wp2
  all_goals go_ret
  exact ⟨ret_int (BM.cellT_of a v h2 h3), (ext4 _ _ _ _ _).trans (ext2 _ _ _)⟩

set_option maxHeartbeats 400000 in
theorem rcellF_any (a v : Int) (h0 : -9223372036854775808 ≤ a) (h1 : a < 9223372036854775808) (h2 : 0 ≤ v) (h3 : v < 4294967296) (w : World) :
    Calls Try.prog 31 #[.int .i64 a, .bool false, .int .u32 v] w (Tells w (.int .u64 (a % 2147483648 * 8589934592 + v))) := by
  go_enter Try.func31, Try.ntmps31
  go_wp2
  all_goals go_ret
  all_goals exact ⟨ret_int (by have := BM.tmod_two a 2147483648 (by omega); go_arith), Ext.refl _⟩

set_option maxHeartbeats 400000 in
theorem rcellT_any (a v : Int) (h0 : -9223372036854775808 ≤ a) (h1 : a < 9223372036854775808) (h2 : 0 ≤ v) (h3 : v < 4294967296) (w : World) :
    Calls Try.prog 31 #[.int .i64 a, .bool true, .int .u32 v] w (Tells w (.int .u64 (a % 2147483648 * 8589934592 + v + 4294967296))) := by
  go_enter Try.func31, Try.ntmps31
  go_wp2
  all_goals go_ret
  all_goals exact ⟨ret_int (by have := BM.tmod_two a 2147483648 (by omega); go_arith), Ext.refl _⟩
end Go.Proofs.Ytkeppicoobeoeaa
