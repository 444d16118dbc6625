/- Of no memory nothing is told, and nothing is done; two accesses compared by their value. Conditions: those that each theorem names. -/
import Derived.Test.YtndplpfbohigpaaGreatKDevC
import Derived.Laws.StructEq
import Derived.Laws.EntriesVeiled
namespace Go.Proofs.YtndplpfbohigpaaGreat
open Go.ChangeShapes Go.WideShapes Go.ChangeAt Go.RowKit
set_option linter.unusedVariables false
set_option maxRecDepth 100000 in
set_option maxHeartbeats 1000000 in
theorem eq_acc (k t a o n k' t' a' o' n' : Int) (d d' : Bool) (w : World) :
    (Op.equalIn 10000 177 (.agg #[.int .i64 k, .int .i64 t, .int .i64 a, .int .u64 o, .int .u64 n, .bool d]) (.agg #[.int .i64 k', .int .i64 t', .int .i64 a', .int .u64 o', .int .u64 n', .bool d'])).run Tryz.prog w = .ok (decide (([k, t, a, o, n], d) = ([k', t', a', o', n'], d'))) w := by
  have u3 := Tryz.underlying3
  have a3 := Tryz.isAgg3
  have z3 := Tryz.sizeOf3
  have u4 := Tryz.underlying45
  have a4 := Tryz.isAgg45
  have z4 := Tryz.sizeOf45
  have u5 := Tryz.underlying4
  have a5 := Tryz.isAgg4
  have z5 := Tryz.sizeOf4
  rw [show (10000 : Nat) = 9999 + 1 from rfl, run_equalIn_struct _ _ _ _ _ (by kernel_rfl) (by kernel_rfl)]
  simp only [Program.fieldsOf, Tryz.underlying177]
  go_simp
  by_cases h1 : k = k'
  · by_cases h2 : t = t'
    · by_cases h3 : a = a'
      · by_cases h4 : o = o'
        · by_cases h5 : n = n'
          · by_cases h6 : d = d' <;> simp [h1, h2, h3, h4, h5, h6]
          · simp [h1, h2, h3, h4, h5]
        · simp [h1, h2, h3, h4]
      · simp [h1, h2, h3]
    · simp [h1, h2]
  · simp [h1]
theorem eqa_yes (k t a o n : Int) (d : Bool) (w : World) :
    (Op.equalIn 10000 177 (.agg #[.int .i64 k, .int .i64 t, .int .i64 a, .int .u64 o, .int .u64 n, .bool d]) (.agg #[.int .i64 k, .int .i64 t, .int .i64 a, .int .u64 o, .int .u64 n, .bool d])).run Tryz.prog w = .ok true w := by rw [eq_acc]; simp

theorem clock_nil (w : World) : Calls Tryz.prog 66 #[.pointer none] w fun e w' => e = .returned (.int .i64 0) ∧ w = w' := by
  go_enter Tryz.func66, Tryz.ntmps66
  go_wp2
  go_ret
  exact ⟨rfl, rfl⟩
theorem bad_nil (w : World) : Calls Tryz.prog 127 #[.pointer none] w fun e w' => e = .returned (.int .i64 0) ∧ w = w' := by
  go_enter Tryz.func127, Tryz.ntmps127
  go_wp2
  go_ret
  exact ⟨rfl, rfl⟩
theorem device_nil (w : World) : Calls Tryz.prog 63 #[.pointer none] w fun e w' => e = .returned (.pointer none) ∧ w = w' := by
  go_enter Tryz.func63, Tryz.ntmps63
  go_wp2
  go_ret
  exact ⟨rfl, rfl⟩
theorem writesM_nil (a : Int) (w : World) : Calls Tryz.prog 231 #[.pointer none, .int .i64 a] w fun e w' => e = .returned (.int .i64 0) ∧ w = w' := by
  go_enter Tryz.func231, Tryz.ntmps231
  go_wp2
  go_ret
  exact ⟨rfl, rfl⟩
theorem peek_nil (a : Int) (w : World) : Calls Tryz.prog 61 #[.pointer none, .int .i64 a] w fun e w' => e = .returned (.tuple #[.int .u64 0, .bool false]) ∧ w = w' := by
  go_enter Tryz.func61, Tryz.ntmps61
  go_wp2
  go_ret2
  exact ⟨rfl, rfl⟩
theorem lastM_nil (w : World) : Calls Tryz.prog 128 #[.pointer none] w fun e w' => e = .returned (.agg #[.int .i64 0, .int .i64 0, .int .i64 0, .int .u64 0, .int .u64 0, .bool false]) ∧ Ext w w' := by
  go_enter Tryz.func128, Tryz.ntmps128
  go_wp2
  exact bodyPost_ret (v := .agg #[.int .i64 0, .int .i64 0, .int .i64 0, .int .u64 0, .int .u64 0, .bool false]) (by simp [results, Tryz.results128, go_sem]) rfl ⟨rfl, (Ext.refl w).alloc _⟩
theorem touch_nil (k t a o n : Int) (d : Bool) (f : Value) (w : World) : Calls Tryz.prog 141 #[.pointer none, .agg #[.int .i64 k, .int .i64 t, .int .i64 a, .int .u64 o, .int .u64 n, .bool d], f] w fun e w' => e = .returned (.agg #[.int .i64 0, .int .i64 0, .int .i64 0, .int .u64 0, .int .u64 0, .bool false]) ∧ Ext w w' := by
  go_enter Tryz.func141, Tryz.ntmps141
  go_wp2
  exact bodyPost_ret (v := .agg #[.int .i64 0, .int .i64 0, .int .i64 0, .int .u64 0, .int .u64 0, .bool false]) (by simp [results, Tryz.results141, go_sem]) rfl ⟨rfl, ext2 w _ _⟩
theorem fld3 (k t a o n : Int) (d : Bool) (w : World) : (Instr.field 177 (.agg #[.int .i64 k, .int .i64 t, .int .i64 a, .int .u64 o, .int .u64 n, .bool d]) 3).run Tryz.prog w = .ok (.int .u64 o) w := by kernel_rfl
theorem fld5 (k t a o n : Int) (d : Bool) (w : World) : (Instr.field 177 (.agg #[.int .i64 k, .int .i64 t, .int .i64 a, .int .u64 o, .int .u64 n, .bool d]) 5).run Tryz.prog w = .ok (.bool d) w := by kernel_rfl
theorem loadM_nil (t a : Int) (w : World) : Calls Tryz.prog 120 #[.pointer none, .int .i64 t, .int .i64 a] w fun e w' => e = .returned (.int .u64 0) ∧ Ext w w' := by
  have hmf : ∀ (fn : Fn) (first cap : Array Value) (w : World), (Instr.makeFunc fn first cap).run Tryz.prog w = .ok (.func fn first cap) w := fun _ _ _ _ => rfl
  have hf3 := fun W => fld3 0 0 0 0 0 false W
  have hf5 := fun W => fld5 0 0 0 0 0 false W
  go_enter Tryz.func120, Tryz.ntmps120
  go_wp2_with fail
  refine (touch_nil _ _ _ _ _ _ _ _).mono ?_
  rintro e w1 ⟨rfl, x1⟩
  have xx : Ext w w1 := ((Ext.refl w).alloc _).trans x1
  clear x1
  go_wp2_with fail
  go_ret
  exact ⟨rfl, xx⟩
theorem swapM_nil (t a o x : Int) (w : World) : Calls Tryz.prog 121 #[.pointer none, .int .i64 t, .int .i64 a, .int .u64 o, .int .u64 x] w fun e w' => e = .returned (.bool false) ∧ Ext w w' := by
  have hmf : ∀ (fn : Fn) (first cap : Array Value) (w : World), (Instr.makeFunc fn first cap).run Tryz.prog w = .ok (.func fn first cap) w := fun _ _ _ _ => rfl
  have hf3 := fun W => fld3 0 0 0 0 0 false W
  have hf5 := fun W => fld5 0 0 0 0 0 false W
  go_enter Tryz.func121, Tryz.ntmps121
  go_wp2_with fail
  refine (touch_nil _ _ _ _ _ _ _ _).mono ?_
  rintro e w1 ⟨rfl, x1⟩
  have xx : Ext w w1 := ((((((Ext.refl w).alloc _).alloc _).alloc _).alloc _).alloc _).trans x1
  clear x1
  go_wp2_with fail
  go_ret
  exact ⟨rfl, xx⟩
theorem storeM_nil (t a x : Int) (w : World) : Calls Tryz.prog 34 #[.pointer none, .int .i64 t, .int .i64 a, .int .u64 x] w fun e w' => (∃ u, e = .returned u) ∧ Ext w w' := by
  have hmf : ∀ (fn : Fn) (first cap : Array Value) (w : World), (Instr.makeFunc fn first cap).run Tryz.prog w = .ok (.func fn first cap) w := fun _ _ _ _ => rfl
  have hf3 := fun W => fld3 0 0 0 0 0 false W
  have hf5 := fun W => fld5 0 0 0 0 0 false W
  go_enter Tryz.func34, Tryz.ntmps34
  go_wp2_with fail
  refine (touch_nil _ _ _ _ _ _ _ _).mono ?_
  rintro e w1 ⟨rfl, x1⟩
  have xx : Ext w w1 := (((((Ext.refl w).alloc _).alloc _).alloc _).alloc _).trans x1
  clear x1
  go_wp2_with fail
  refine bodyPost_end (results_none rfl _ _ _) rfl ?_
  exact ⟨⟨_, rfl⟩, xx⟩
theorem ask_nil (k t a o n : Int) (d : Bool) (f : Value) (w : World) : Calls Tryz.prog 201 #[.pointer none, .agg #[.int .i64 k, .int .i64 t, .int .i64 a, .int .u64 o, .int .u64 n, .bool d], f] w fun e w' => (∃ u, e = .returned u) ∧ Ext w w' := by
  go_enter Tryz.func201, Tryz.ntmps201
  go_wp2
  refine bodyPost_ret (results_none rfl _ _ _) rfl ?_
  exact ⟨⟨_, rfl⟩, (Ext.refl w).alloc _⟩
theorem flushM_nil (t a : Int) (w : World) : Calls Tryz.prog 122 #[.pointer none, .int .i64 t, .int .i64 a] w fun e w' => (∃ u, e = .returned u) ∧ Ext w w' := by
  have hmf : ∀ (fn : Fn) (first cap : Array Value) (w : World), (Instr.makeFunc fn first cap).run Tryz.prog w = .ok (.func fn first cap) w := fun _ _ _ _ => rfl
  go_enter Tryz.func122, Tryz.ntmps122
  go_wp2_with fail
  refine (ask_nil _ _ _ _ _ _ _ _).mono ?_
  rintro e w1 ⟨⟨u, rfl⟩, x1⟩
  have xx : Ext w w1 := ((((Ext.refl w).alloc _).alloc _).alloc _).trans x1
  clear x1
  go_wp2_with fail
  refine bodyPost_end (results_none rfl _ _ _) rfl ?_
  exact ⟨⟨_, rfl⟩, xx⟩
theorem fenceM_nil (t : Int) (w : World) : Calls Tryz.prog 123 #[.pointer none, .int .i64 t] w fun e w' => (∃ u, e = .returned u) ∧ Ext w w' := by
  have hmf : ∀ (fn : Fn) (first cap : Array Value) (w : World), (Instr.makeFunc fn first cap).run Tryz.prog w = .ok (.func fn first cap) w := fun _ _ _ _ => rfl
  go_enter Tryz.func123, Tryz.ntmps123
  go_wp2_with fail
  refine (ask_nil _ _ _ _ _ _ _ _).mono ?_
  rintro e w1 ⟨⟨u, rfl⟩, x1⟩
  have xx : Ext w w1 := (((Ext.refl w).alloc _).alloc _).trans x1
  clear x1
  go_wp2_with fail
  refine bodyPost_end (results_none rfl _ _ _) rfl ?_
  exact ⟨⟨_, rfl⟩, xx⟩
theorem crashM_nil (w : World) : Calls Tryz.prog 124 #[.pointer none] w fun e w' => (∃ u, e = .returned u) ∧ Ext w w' := by
  go_enter Tryz.func124, Tryz.ntmps124
  go_wp2
  refine bodyPost_ret (results_none rfl _ _ _) rfl ?_
  exact ⟨⟨_, rfl⟩, Ext.refl w⟩
end Go.Proofs.YtndplpfbohigpaaGreat
