/- Of no memory nothing is told, and nothing is done; two accesses compared by their value. Conditions: those that each theorem names. -/
import Derived.Test.YtfbobdkfibhcnaaKDevC
import Derived.Laws.StructEq
import Derived.Laws.EntriesVeiled
namespace Go.Proofs.Ytfbobdkfibhcnaa
open Go.ChangeShapes Go.WideShapes Go.ChangeAt Go.RowKit
set_option linter.unusedVariables false
set_option maxRecDepth 100000 in
set_option maxHeartbeats 1000000 in
theorem eq_acc (k t a o n k' t' a' o' n' : Int) (d d' : Bool) (w : World) :
    (Op.equalIn 10000 91 (.agg #[.int .i64 k, .int .i64 t, .int .i64 a, .int .u64 o, .int .u64 n, .bool d]) (.agg #[.int .i64 k', .int .i64 t', .int .i64 a', .int .u64 o', .int .u64 n', .bool d'])).run Try.prog w = .ok (decide (([k, t, a, o, n], d) = ([k', t', a', o', n'], d'))) w := by
  have u3 := Try.underlying3
  have a3 := Try.isAgg3
  have z3 := Try.sizeOf3
  have u4 := Try.underlying52
  have a4 := Try.isAgg52
  have z4 := Try.sizeOf52
  have u5 := Try.underlying4
  have a5 := Try.isAgg4
  have z5 := Try.sizeOf4
  rw [show (10000 : Nat) = 9999 + 1 from rfl, run_equalIn_struct _ _ _ _ _ (by kernel_rfl) (by kernel_rfl)]
  simp only [Program.fieldsOf, Try.underlying91]
  go_simp
  by_cases h1 : k = k'
  · by_cases h2 : t = t'
    · by_cases h3 : a = a'
      · by_cases h4 : o = o'
        · by_cases h5 : n = n'
          · by_cases h6 : d = d' <;> simp [h1, h2, h3, h4, h5, h6]
          · simp [h1, h2, h3, h4, h5]
        · simp [h1, h2, h3, h4]
      · simp [h1, h2, h3]
    · simp [h1, h2]
  · simp [h1]
theorem eqa_yes (k t a o n : Int) (d : Bool) (w : World) :
    (Op.equalIn 10000 91 (.agg #[.int .i64 k, .int .i64 t, .int .i64 a, .int .u64 o, .int .u64 n, .bool d]) (.agg #[.int .i64 k, .int .i64 t, .int .i64 a, .int .u64 o, .int .u64 n, .bool d])).run Try.prog w = .ok true w := by rw [eq_acc]; simp

theorem clock_nil (w : World) : Calls Try.prog 14 #[.pointer none] w fun e w' => e = .returned (.int .i64 0) ∧ w = w' := by
  go_enter Try.func14, Try.ntmps14
  go_wp2
  go_ret
  exact ⟨rfl, rfl⟩
theorem device_nil (w : World) : Calls Try.prog 45 #[.pointer none] w fun e w' => e = .returned (.pointer none) ∧ w = w' := by
  go_enter Try.func45, Try.ntmps45
  go_wp2
  go_ret
  exact ⟨rfl, rfl⟩
theorem peek_nil (a : Int) (w : World) : Calls Try.prog 29 #[.pointer none, .int .i64 a] w fun e w' => e = .returned (.tuple #[.int .u64 0, .bool false]) ∧ w = w' := by
  go_enter Try.func29, Try.ntmps29
  go_wp2
  go_ret2
  exact ⟨rfl, rfl⟩
theorem touch_nil (k t a o n : Int) (d : Bool) (f : Value) (w : World) : Calls Try.prog 78 #[.pointer none, .agg #[.int .i64 k, .int .i64 t, .int .i64 a, .int .u64 o, .int .u64 n, .bool d], f] w fun e w' => e = .returned (.agg #[.int .i64 0, .int .i64 0, .int .i64 0, .int .u64 0, .int .u64 0, .bool false]) ∧ Ext w w' := by
  go_enter Try.func78, Try.ntmps78
  go_wp2
  exact bodyPost_ret (v := .agg #[.int .i64 0, .int .i64 0, .int .i64 0, .int .u64 0, .int .u64 0, .bool false]) (by simp [results, Try.results78, go_sem]) rfl ⟨rfl, ext2 w _ _⟩
theorem fld3 (k t a o n : Int) (d : Bool) (w : World) : (Instr.field 91 (.agg #[.int .i64 k, .int .i64 t, .int .i64 a, .int .u64 o, .int .u64 n, .bool d]) 3).run Try.prog w = .ok (.int .u64 o) w := by kernel_rfl
theorem fld5 (k t a o n : Int) (d : Bool) (w : World) : (Instr.field 91 (.agg #[.int .i64 k, .int .i64 t, .int .i64 a, .int .u64 o, .int .u64 n, .bool d]) 5).run Try.prog w = .ok (.bool d) w := by kernel_rfl
theorem loadM_nil (t a : Int) (w : World) : Calls Try.prog 50 #[.pointer none, .int .i64 t, .int .i64 a] w fun e w' => e = .returned (.int .u64 0) ∧ Ext w w' := by
  have hmf : ∀ (fn : Fn) (first cap : Array Value) (w : World), (Instr.makeFunc fn first cap).run Try.prog w = .ok (.func fn first cap) w := fun _ _ _ _ => rfl
  have hf3 := fun W => fld3 0 0 0 0 0 false W
  have hf5 := fun W => fld5 0 0 0 0 0 false W
  go_enter Try.func50, Try.ntmps50
  go_wp2_with fail
  refine (touch_nil _ _ _ _ _ _ _ _).mono ?_
  rintro e w1 ⟨rfl, x1⟩
  have xx : Ext w w1 := ((Ext.refl w).alloc _).trans x1
  clear x1
  go_wp2_with fail
  go_ret
  exact ⟨rfl, xx⟩
theorem swapM_nil (t a o x : Int) (w : World) : Calls Try.prog 90 #[.pointer none, .int .i64 t, .int .i64 a, .int .u64 o, .int .u64 x] w fun e w' => e = .returned (.bool false) ∧ Ext w w' := by
  have hmf : ∀ (fn : Fn) (first cap : Array Value) (w : World), (Instr.makeFunc fn first cap).run Try.prog w = .ok (.func fn first cap) w := fun _ _ _ _ => rfl
  have hf3 := fun W => fld3 0 0 0 0 0 false W
  have hf5 := fun W => fld5 0 0 0 0 0 false W
  go_enter Try.func90, Try.ntmps90
  go_wp2_with fail
  refine (touch_nil _ _ _ _ _ _ _ _).mono ?_
  rintro e w1 ⟨rfl, x1⟩
  have xx : Ext w w1 := ((((((Ext.refl w).alloc _).alloc _).alloc _).alloc _).alloc _).trans x1
  clear x1
  go_wp2_with fail
  go_ret
  exact ⟨rfl, xx⟩
theorem storeM_nil (t a x : Int) (w : World) : Calls Try.prog 43 #[.pointer none, .int .i64 t, .int .i64 a, .int .u64 x] w fun e w' => (∃ u, e = .returned u) ∧ Ext w w' := by
  have hmf : ∀ (fn : Fn) (first cap : Array Value) (w : World), (Instr.makeFunc fn first cap).run Try.prog w = .ok (.func fn first cap) w := fun _ _ _ _ => rfl
  have hf3 := fun W => fld3 0 0 0 0 0 false W
  have hf5 := fun W => fld5 0 0 0 0 0 false W
  go_enter Try.func43, Try.ntmps43
  go_wp2_with fail
  refine (touch_nil _ _ _ _ _ _ _ _).mono ?_
  rintro e w1 ⟨rfl, x1⟩
  have xx : Ext w w1 := (((((Ext.refl w).alloc _).alloc _).alloc _).alloc _).trans x1
  clear x1
  go_wp2_with fail
  refine bodyPost_end (results_none rfl _ _ _) rfl ?_
  exact ⟨⟨_, rfl⟩, xx⟩
end Go.Proofs.Ytfbobdkfibhcnaa
