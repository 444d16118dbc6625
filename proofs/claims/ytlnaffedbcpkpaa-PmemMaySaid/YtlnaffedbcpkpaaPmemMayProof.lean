/- PmemMay. Conditions: none. -/
import Derived.Test.YtlnaffedbcpkpaaPm7
namespace Go.Proofs.Ytlnaffedbcpkpaa
open Go.ChangeShapes Go.WideShapes Go.ChangeAt Go.RowKit
set_option linter.unusedVariables false
theorem AtQ.lines {Q : Nat → Prop} {wb w0 w : World} {v : Value} {s : DSt} (h : AtQ Q wb w0 w v s) : Calls Try.prog 33 #[v] w fun e w' => e = .returned (.int .i64 (s.n : Int)) ∧ w = w' := by
  obtain ⟨D, rfl, h, _, _⟩ := h
  exact lines_ok _ _ _ _ h
set_option maxRecDepth 100000 in
set_option maxHeartbeats 2000000 in
theorem may_some (w : World) (h : Bool) (n k t a z x : Int) (h1 : 300 < n) (h2 : n ≤ 262144) : Calls Try.prog 8 #[.bool h, .int .i64 n, .agg #[.int .i64 k, .int .i64 t, .int .i64 a, .int .u64 z, .int .u64 x]] w (fun e w' => e = .returned (.bool true) ∧ Ext w w') := by
  have HA := Lib.hid (fun W => awake7_of W)
  go_enter Try.func8, Try.ntmps8
  go_wp2_with fail
  refine (HA.out _).mono ?_
  rintro e w1 ⟨rfl, y⟩
  have X := Lib.hid (((Ext.refl w).alloc _).trans y)
  clear y
  go_wp2_with fail
  go_ret
  exact ⟨rfl, X.out⟩
set_option maxRecDepth 100000 in
set_option maxHeartbeats 2000000 in
theorem may_neg_no (w : World) (n k t a z x : Int) (h : n < 0) : Calls Try.prog 8 #[.bool false, .int .i64 n, .agg #[.int .i64 k, .int .i64 t, .int .i64 a, .int .u64 z, .int .u64 x]] w (fun e w' => e = .returned (.bool true) ∧ Ext w w') := by
  have HD := Lib.hid (fun W => do7_nil W k t a z x)
  have HP := Lib.hid (fun W => peek_nil a W)
  have HA := Lib.hid (fun W => awake7_of W)
  have HL := Lib.hid (fun W => loadM_nil 0 a W)
  have HS := Lib.hid (fun W => swapM_nil 0 a 0 0 W)
  have HC := Lib.hid (fun W => clock_nil W)
  have HB := Lib.hid (fun W => bad_nil W)
  have HW := Lib.hid (fun W => writesM_nil a W)
  have HV := Lib.hid (fun W => device_nil W)
  have HT := Lib.hid (fun W => lastM_nil W)
  have H0 := Lib.hid (fun W => new_ok W 1 1 (by decide) (by decide) (by decide) (by decide))
  have heq := fun W => eqa_yes 0 0 0 0 0 false W
  have HN := Lib.hid (fun W => memNew_nil n W)
  have u1 : ¬ 300 < n := by omega
  have u2 : n < 0 := h
  have u3 : ¬ 0 ≤ n := by omega
  go_enter Try.func8, Try.ntmps8
  go_wp2_with fail
  refine (HN.out _).mono ?_
  rintro e w' ⟨rfl, rfl⟩
  have b1 := Blk.new w 49 [.int .i64 k, .int .i64 t, .int .i64 a, .int .u64 z, .int .u64 x]
  have x1 := (Ext.refl w).alloc (.cells #[.int .i64 k, .int .i64 t, .int .i64 a, .int .u64 z, .int .u64 x] 49)
  generalize w.alloc (.cells #[.int .i64 k, .int .i64 t, .int .i64 a, .int .u64 z, .int .u64 x] 49) = w2 at *
  have B := Lib.hid b1
  have X := Lib.hid x1
  clear b1 x1
  have q0 := B.out.cell 0
  have q1 := B.out.cell 1
  have q2 := B.out.cell 2
  have q3 := B.out.cell 3
  have q4 := B.out.cell 4
  go_wp2_with fail
  refine (HD.out _).mono ?_
  rintro e w3 ⟨⟨u, rfl⟩, y⟩
  clear q0 q1 q3 q4
  have b' := Lib.hid (B.out.ext y)
  have x' := Lib.hid (X.out.trans y)
  clear y B X
  have B := Lib.hid b'.out
  have X := Lib.hid x'.out
  clear b' x'
  try clear q2
  have q2 : w3.cell? ⟨w.heap.size, 2, none⟩ = some (.int .i64 a) := B.out.cell 2
  go_wp2_with fail
  refine (HP.out _).mono ?_
  rintro e w' ⟨rfl, rfl⟩
  go_wp2_with fail
  refine (HA.out _).mono ?_
  rintro e w4 ⟨rfl, y⟩
  have b' := Lib.hid (B.out.ext y)
  have x' := Lib.hid (X.out.trans y)
  clear y B X
  have B := Lib.hid b'.out
  have X := Lib.hid x'.out
  clear b' x'
  try clear q2
  have q2 : w4.cell? ⟨w.heap.size, 2, none⟩ = some (.int .i64 a) := B.out.cell 2
  go_wp2_with fail
  refine (HL.out _).mono ?_
  rintro e w5 ⟨rfl, y⟩
  have b' := Lib.hid (B.out.ext y)
  have x' := Lib.hid (X.out.trans y)
  clear y B X
  have B := Lib.hid b'.out
  have X := Lib.hid x'.out
  clear b' x'
  try clear q2
  have q2 : w5.cell? ⟨w.heap.size, 2, none⟩ = some (.int .i64 a) := B.out.cell 2
  go_wp2_with fail
  refine (HS.out _).mono ?_
  rintro e w6 ⟨rfl, y⟩
  have b' := Lib.hid (B.out.ext y)
  have x' := Lib.hid (X.out.trans y)
  clear y B X
  have B := Lib.hid b'.out
  have X := Lib.hid x'.out
  clear b' x'
  try clear q2
  have q2 : w6.cell? ⟨w.heap.size, 2, none⟩ = some (.int .i64 a) := B.out.cell 2
  go_wp2_with fail
  refine (HC.out _).mono ?_
  rintro e w' ⟨rfl, rfl⟩
  go_wp2_with fail
  refine (HB.out _).mono ?_
  rintro e w' ⟨rfl, rfl⟩
  go_wp2_with fail
  refine (HW.out _).mono ?_
  rintro e w' ⟨rfl, rfl⟩
  go_wp2_with fail
  refine (HV.out _).mono ?_
  rintro e w' ⟨rfl, rfl⟩
  go_wp2_with fail
  refine (HT.out _).mono ?_
  rintro e w7 ⟨rfl, y⟩
  have b' := Lib.hid (B.out.ext y)
  have x' := Lib.hid (X.out.trans y)
  clear y B X
  have B := Lib.hid b'.out
  have X := Lib.hid x'.out
  clear b' x'
  try clear q2
  go_wp2_with fail
  go_ret
  exact ⟨rfl, X.out⟩
set_option maxRecDepth 100000 in
set_option maxHeartbeats 2000000 in
theorem may_neg_yes (w : World) (n k t a z x : Int) (h : n < 0) : Calls Try.prog 8 #[.bool true, .int .i64 n, .agg #[.int .i64 k, .int .i64 t, .int .i64 a, .int .u64 z, .int .u64 x]] w (fun e w' => e = .returned (.bool true) ∧ Ext w w') := by
  have HD := Lib.hid (fun W => do7_nil W k t a z x)
  have HP := Lib.hid (fun W => peek_nil a W)
  have HA := Lib.hid (fun W => awake7_of W)
  have HL := Lib.hid (fun W => loadM_nil 0 a W)
  have HS := Lib.hid (fun W => swapM_nil 0 a 0 0 W)
  have HC := Lib.hid (fun W => clock_nil W)
  have HB := Lib.hid (fun W => bad_nil W)
  have HW := Lib.hid (fun W => writesM_nil a W)
  have HV := Lib.hid (fun W => device_nil W)
  have HT := Lib.hid (fun W => lastM_nil W)
  have H0 := Lib.hid (fun W => new_ok W 1 1 (by decide) (by decide) (by decide) (by decide))
  have heq := fun W => eqa_yes 0 0 0 0 0 false W
  have HN := Lib.hid (fun g W => memNew_out g n W (by omega))
  have u1 : ¬ 300 < n := by omega
  have u2 : n < 0 := h
  have u3 : ¬ 0 ≤ n := by omega
  go_enter Try.func8, Try.ntmps8
  go_wp2_with fail
  refine (H0.out _).mono ?_
  rintro e w2 ⟨D, rfl, _, y⟩
  have b1 := (Blk.new w 49 [.int .i64 k, .int .i64 t, .int .i64 a, .int .u64 z, .int .u64 x]).ext y
  have x1 := ((Ext.refl w).alloc (.cells #[.int .i64 k, .int .i64 t, .int .i64 a, .int .u64 z, .int .u64 x] 49)).trans y
  clear y
  unfold DevB.ptr
  generalize (⟨D.gd, 0, none⟩ : Addr) = gd
  go_wp2_with fail
  refine (HN.out _ _).mono ?_
  rintro e w' ⟨rfl, rfl⟩
  have B := Lib.hid b1
  have X := Lib.hid x1
  clear b1 x1
  have q0 := B.out.cell 0
  have q1 := B.out.cell 1
  have q2 := B.out.cell 2
  have q3 := B.out.cell 3
  have q4 := B.out.cell 4
  go_wp2_with fail
  refine (HD.out _).mono ?_
  rintro e w3 ⟨⟨u, rfl⟩, y⟩
  clear q0 q1 q3 q4
  have b' := Lib.hid (B.out.ext y)
  have x' := Lib.hid (X.out.trans y)
  clear y B X
  have B := Lib.hid b'.out
  have X := Lib.hid x'.out
  clear b' x'
  try clear q2
  have q2 : w3.cell? ⟨w.heap.size, 2, none⟩ = some (.int .i64 a) := B.out.cell 2
  go_wp2_with fail
  refine (HP.out _).mono ?_
  rintro e w' ⟨rfl, rfl⟩
  go_wp2_with fail
  refine (HA.out _).mono ?_
  rintro e w4 ⟨rfl, y⟩
  have b' := Lib.hid (B.out.ext y)
  have x' := Lib.hid (X.out.trans y)
  clear y B X
  have B := Lib.hid b'.out
  have X := Lib.hid x'.out
  clear b' x'
  try clear q2
  have q2 : w4.cell? ⟨w.heap.size, 2, none⟩ = some (.int .i64 a) := B.out.cell 2
  go_wp2_with fail
  refine (HL.out _).mono ?_
  rintro e w5 ⟨rfl, y⟩
  have b' := Lib.hid (B.out.ext y)
  have x' := Lib.hid (X.out.trans y)
  clear y B X
  have B := Lib.hid b'.out
  have X := Lib.hid x'.out
  clear b' x'
  try clear q2
  have q2 : w5.cell? ⟨w.heap.size, 2, none⟩ = some (.int .i64 a) := B.out.cell 2
  go_wp2_with fail
  refine (HS.out _).mono ?_
  rintro e w6 ⟨rfl, y⟩
  have b' := Lib.hid (B.out.ext y)
  have x' := Lib.hid (X.out.trans y)
  clear y B X
  have B := Lib.hid b'.out
  have X := Lib.hid x'.out
  clear b' x'
  try clear q2
  have q2 : w6.cell? ⟨w.heap.size, 2, none⟩ = some (.int .i64 a) := B.out.cell 2
  go_wp2_with fail
  refine (HC.out _).mono ?_
  rintro e w' ⟨rfl, rfl⟩
  go_wp2_with fail
  refine (HB.out _).mono ?_
  rintro e w' ⟨rfl, rfl⟩
  go_wp2_with fail
  refine (HW.out _).mono ?_
  rintro e w' ⟨rfl, rfl⟩
  go_wp2_with fail
  refine (HV.out _).mono ?_
  rintro e w' ⟨rfl, rfl⟩
  go_wp2_with fail
  refine (HT.out _).mono ?_
  rintro e w7 ⟨rfl, y⟩
  have b' := Lib.hid (B.out.ext y)
  have x' := Lib.hid (X.out.trans y)
  clear y B X
  have B := Lib.hid b'.out
  have X := Lib.hid x'.out
  clear b' x'
  try clear q2
  go_wp2_with fail
  go_ret
  exact ⟨rfl, X.out⟩
set_option maxRecDepth 100000 in
set_option maxHeartbeats 2000000 in
theorem may_big_no (w : World) (n k t a z x : Int) (h : 262144 < n) : Calls Try.prog 8 #[.bool false, .int .i64 n, .agg #[.int .i64 k, .int .i64 t, .int .i64 a, .int .u64 z, .int .u64 x]] w (fun e w' => e = .returned (.bool true) ∧ Ext w w') := by
  have HD := Lib.hid (fun W => do7_nil W k t a z x)
  have HP := Lib.hid (fun W => peek_nil a W)
  have HA := Lib.hid (fun W => awake7_of W)
  have HL := Lib.hid (fun W => loadM_nil 0 a W)
  have HS := Lib.hid (fun W => swapM_nil 0 a 0 0 W)
  have HC := Lib.hid (fun W => clock_nil W)
  have HB := Lib.hid (fun W => bad_nil W)
  have HW := Lib.hid (fun W => writesM_nil a W)
  have HV := Lib.hid (fun W => device_nil W)
  have HT := Lib.hid (fun W => lastM_nil W)
  have H0 := Lib.hid (fun W => new_ok W 1 1 (by decide) (by decide) (by decide) (by decide))
  have heq := fun W => eqa_yes 0 0 0 0 0 false W
  have HN := Lib.hid (fun W => memNew_nil n W)
  have u1 : 300 < n := by omega
  have u2 : ¬ n ≤ 262144 := by omega
  have u3 : 0 ≤ n := by omega
  go_enter Try.func8, Try.ntmps8
  go_wp2_with fail
  refine (HN.out _).mono ?_
  rintro e w' ⟨rfl, rfl⟩
  have b1 := Blk.new w 49 [.int .i64 k, .int .i64 t, .int .i64 a, .int .u64 z, .int .u64 x]
  have x1 := (Ext.refl w).alloc (.cells #[.int .i64 k, .int .i64 t, .int .i64 a, .int .u64 z, .int .u64 x] 49)
  generalize w.alloc (.cells #[.int .i64 k, .int .i64 t, .int .i64 a, .int .u64 z, .int .u64 x] 49) = w2 at *
  have B := Lib.hid b1
  have X := Lib.hid x1
  clear b1 x1
  have q0 := B.out.cell 0
  have q1 := B.out.cell 1
  have q2 := B.out.cell 2
  have q3 := B.out.cell 3
  have q4 := B.out.cell 4
  go_wp2_with fail
  refine (HD.out _).mono ?_
  rintro e w3 ⟨⟨u, rfl⟩, y⟩
  clear q0 q1 q3 q4
  have b' := Lib.hid (B.out.ext y)
  have x' := Lib.hid (X.out.trans y)
  clear y B X
  have B := Lib.hid b'.out
  have X := Lib.hid x'.out
  clear b' x'
  try clear q2
  have q2 : w3.cell? ⟨w.heap.size, 2, none⟩ = some (.int .i64 a) := B.out.cell 2
  go_wp2_with fail
  refine (HP.out _).mono ?_
  rintro e w' ⟨rfl, rfl⟩
  go_wp2_with fail
  refine (HA.out _).mono ?_
  rintro e w4 ⟨rfl, y⟩
  have b' := Lib.hid (B.out.ext y)
  have x' := Lib.hid (X.out.trans y)
  clear y B X
  have B := Lib.hid b'.out
  have X := Lib.hid x'.out
  clear b' x'
  try clear q2
  have q2 : w4.cell? ⟨w.heap.size, 2, none⟩ = some (.int .i64 a) := B.out.cell 2
  go_wp2_with fail
  refine (HL.out _).mono ?_
  rintro e w5 ⟨rfl, y⟩
  have b' := Lib.hid (B.out.ext y)
  have x' := Lib.hid (X.out.trans y)
  clear y B X
  have B := Lib.hid b'.out
  have X := Lib.hid x'.out
  clear b' x'
  try clear q2
  have q2 : w5.cell? ⟨w.heap.size, 2, none⟩ = some (.int .i64 a) := B.out.cell 2
  go_wp2_with fail
  refine (HS.out _).mono ?_
  rintro e w6 ⟨rfl, y⟩
  have b' := Lib.hid (B.out.ext y)
  have x' := Lib.hid (X.out.trans y)
  clear y B X
  have B := Lib.hid b'.out
  have X := Lib.hid x'.out
  clear b' x'
  try clear q2
  have q2 : w6.cell? ⟨w.heap.size, 2, none⟩ = some (.int .i64 a) := B.out.cell 2
  go_wp2_with fail
  refine (HC.out _).mono ?_
  rintro e w' ⟨rfl, rfl⟩
  go_wp2_with fail
  refine (HB.out _).mono ?_
  rintro e w' ⟨rfl, rfl⟩
  go_wp2_with fail
  refine (HW.out _).mono ?_
  rintro e w' ⟨rfl, rfl⟩
  go_wp2_with fail
  refine (HV.out _).mono ?_
  rintro e w' ⟨rfl, rfl⟩
  go_wp2_with fail
  refine (HT.out _).mono ?_
  rintro e w7 ⟨rfl, y⟩
  have b' := Lib.hid (B.out.ext y)
  have x' := Lib.hid (X.out.trans y)
  clear y B X
  have B := Lib.hid b'.out
  have X := Lib.hid x'.out
  clear b' x'
  try clear q2
  go_wp2_with fail
  go_ret
  exact ⟨rfl, X.out⟩
set_option maxRecDepth 100000 in
set_option maxHeartbeats 2000000 in
theorem may_big_yes (w : World) (n k t a z x : Int) (h : 262144 < n) : Calls Try.prog 8 #[.bool true, .int .i64 n, .agg #[.int .i64 k, .int .i64 t, .int .i64 a, .int .u64 z, .int .u64 x]] w (fun e w' => e = .returned (.bool true) ∧ Ext w w') := by
  have HD := Lib.hid (fun W => do7_nil W k t a z x)
  have HP := Lib.hid (fun W => peek_nil a W)
  have HA := Lib.hid (fun W => awake7_of W)
  have HL := Lib.hid (fun W => loadM_nil 0 a W)
  have HS := Lib.hid (fun W => swapM_nil 0 a 0 0 W)
  have HC := Lib.hid (fun W => clock_nil W)
  have HB := Lib.hid (fun W => bad_nil W)
  have HW := Lib.hid (fun W => writesM_nil a W)
  have HV := Lib.hid (fun W => device_nil W)
  have HT := Lib.hid (fun W => lastM_nil W)
  have H0 := Lib.hid (fun W => new_ok W 1 1 (by decide) (by decide) (by decide) (by decide))
  have heq := fun W => eqa_yes 0 0 0 0 0 false W
  have HN := Lib.hid (fun g W => memNew_out g n W (by omega))
  have u1 : 300 < n := by omega
  have u2 : ¬ n ≤ 262144 := by omega
  have u3 : 0 ≤ n := by omega
  go_enter Try.func8, Try.ntmps8
  go_wp2_with fail
  refine (H0.out _).mono ?_
  rintro e w2 ⟨D, rfl, _, y⟩
  have b1 := (Blk.new w 49 [.int .i64 k, .int .i64 t, .int .i64 a, .int .u64 z, .int .u64 x]).ext y
  have x1 := ((Ext.refl w).alloc (.cells #[.int .i64 k, .int .i64 t, .int .i64 a, .int .u64 z, .int .u64 x] 49)).trans y
  clear y
  unfold DevB.ptr
  generalize (⟨D.gd, 0, none⟩ : Addr) = gd
  go_wp2_with fail
  refine (HN.out _ _).mono ?_
  rintro e w' ⟨rfl, rfl⟩
  have B := Lib.hid b1
  have X := Lib.hid x1
  clear b1 x1
  have q0 := B.out.cell 0
  have q1 := B.out.cell 1
  have q2 := B.out.cell 2
  have q3 := B.out.cell 3
  have q4 := B.out.cell 4
  go_wp2_with fail
  refine (HD.out _).mono ?_
  rintro e w3 ⟨⟨u, rfl⟩, y⟩
  clear q0 q1 q3 q4
  have b' := Lib.hid (B.out.ext y)
  have x' := Lib.hid (X.out.trans y)
  clear y B X
  have B := Lib.hid b'.out
  have X := Lib.hid x'.out
  clear b' x'
  try clear q2
  have q2 : w3.cell? ⟨w.heap.size, 2, none⟩ = some (.int .i64 a) := B.out.cell 2
  go_wp2_with fail
  refine (HP.out _).mono ?_
  rintro e w' ⟨rfl, rfl⟩
  go_wp2_with fail
  refine (HA.out _).mono ?_
  rintro e w4 ⟨rfl, y⟩
  have b' := Lib.hid (B.out.ext y)
  have x' := Lib.hid (X.out.trans y)
  clear y B X
  have B := Lib.hid b'.out
  have X := Lib.hid x'.out
  clear b' x'
  try clear q2
  have q2 : w4.cell? ⟨w.heap.size, 2, none⟩ = some (.int .i64 a) := B.out.cell 2
  go_wp2_with fail
  refine (HL.out _).mono ?_
  rintro e w5 ⟨rfl, y⟩
  have b' := Lib.hid (B.out.ext y)
  have x' := Lib.hid (X.out.trans y)
  clear y B X
  have B := Lib.hid b'.out
  have X := Lib.hid x'.out
  clear b' x'
  try clear q2
  have q2 : w5.cell? ⟨w.heap.size, 2, none⟩ = some (.int .i64 a) := B.out.cell 2
  go_wp2_with fail
  refine (HS.out _).mono ?_
  rintro e w6 ⟨rfl, y⟩
  have b' := Lib.hid (B.out.ext y)
  have x' := Lib.hid (X.out.trans y)
  clear y B X
  have B := Lib.hid b'.out
  have X := Lib.hid x'.out
  clear b' x'
  try clear q2
  have q2 : w6.cell? ⟨w.heap.size, 2, none⟩ = some (.int .i64 a) := B.out.cell 2
  go_wp2_with fail
  refine (HC.out _).mono ?_
  rintro e w' ⟨rfl, rfl⟩
  go_wp2_with fail
  refine (HB.out _).mono ?_
  rintro e w' ⟨rfl, rfl⟩
  go_wp2_with fail
  refine (HW.out _).mono ?_
  rintro e w' ⟨rfl, rfl⟩
  go_wp2_with fail
  refine (HV.out _).mono ?_
  rintro e w' ⟨rfl, rfl⟩
  go_wp2_with fail
  refine (HT.out _).mono ?_
  rintro e w7 ⟨rfl, y⟩
  have b' := Lib.hid (B.out.ext y)
  have x' := Lib.hid (X.out.trans y)
  clear y B X
  have B := Lib.hid b'.out
  have X := Lib.hid x'.out
  clear b' x'
  try clear q2
  go_wp2_with fail
  go_ret
  exact ⟨rfl, X.out⟩
set_option maxRecDepth 100000 in
set_option maxHeartbeats 2000000 in
theorem may_mid_no (w : World) (n k t a z x : Int) (h0 : 0 ≤ n) (h1 : n ≤ 300) : Calls Try.prog 8 #[.bool false, .int .i64 n, .agg #[.int .i64 k, .int .i64 t, .int .i64 a, .int .u64 z, .int .u64 x]] w (fun e w' => e = .returned (.bool true) ∧ Ext w w') := by
  have HD := Lib.hid (fun W => do7_nil W k t a z x)
  have HP := Lib.hid (fun W => peek_nil a W)
  have HA := Lib.hid (fun W => awake7_of W)
  have HL := Lib.hid (fun W => loadM_nil 0 a W)
  have HS := Lib.hid (fun W => swapM_nil 0 a 0 0 W)
  have HC := Lib.hid (fun W => clock_nil W)
  have HB := Lib.hid (fun W => bad_nil W)
  have HW := Lib.hid (fun W => writesM_nil a W)
  have HV := Lib.hid (fun W => device_nil W)
  have HT := Lib.hid (fun W => lastM_nil W)
  have H0 := Lib.hid (fun W => new_ok W 1 1 (by decide) (by decide) (by decide) (by decide))
  have heq := fun W => eqa_yes 0 0 0 0 0 false W
  have HN := Lib.hid (fun W => memNew_nil n W)
  have u1 : ¬ 300 < n := by omega
  go_enter Try.func8, Try.ntmps8
  go_wp2_with fail
  refine (HN.out _).mono ?_
  rintro e w' ⟨rfl, rfl⟩
  have b1 := Blk.new w 49 [.int .i64 k, .int .i64 t, .int .i64 a, .int .u64 z, .int .u64 x]
  have x1 := (Ext.refl w).alloc (.cells #[.int .i64 k, .int .i64 t, .int .i64 a, .int .u64 z, .int .u64 x] 49)
  generalize w.alloc (.cells #[.int .i64 k, .int .i64 t, .int .i64 a, .int .u64 z, .int .u64 x] 49) = w2 at *
  have B := Lib.hid b1
  have X := Lib.hid x1
  clear b1 x1
  have q0 := B.out.cell 0
  have q1 := B.out.cell 1
  have q2 := B.out.cell 2
  have q3 := B.out.cell 3
  have q4 := B.out.cell 4
  go_wp2_with fail
  refine (HD.out _).mono ?_
  rintro e w3 ⟨⟨u, rfl⟩, y⟩
  clear q0 q1 q3 q4
  have b' := Lib.hid (B.out.ext y)
  have x' := Lib.hid (X.out.trans y)
  clear y B X
  have B := Lib.hid b'.out
  have X := Lib.hid x'.out
  clear b' x'
  try clear q2
  have q2 : w3.cell? ⟨w.heap.size, 2, none⟩ = some (.int .i64 a) := B.out.cell 2
  go_wp2_with fail
  refine (HP.out _).mono ?_
  rintro e w' ⟨rfl, rfl⟩
  go_wp2_with fail
  refine (HA.out _).mono ?_
  rintro e w4 ⟨rfl, y⟩
  have b' := Lib.hid (B.out.ext y)
  have x' := Lib.hid (X.out.trans y)
  clear y B X
  have B := Lib.hid b'.out
  have X := Lib.hid x'.out
  clear b' x'
  try clear q2
  have q2 : w4.cell? ⟨w.heap.size, 2, none⟩ = some (.int .i64 a) := B.out.cell 2
  go_wp2_with fail
  refine (HL.out _).mono ?_
  rintro e w5 ⟨rfl, y⟩
  have b' := Lib.hid (B.out.ext y)
  have x' := Lib.hid (X.out.trans y)
  clear y B X
  have B := Lib.hid b'.out
  have X := Lib.hid x'.out
  clear b' x'
  try clear q2
  have q2 : w5.cell? ⟨w.heap.size, 2, none⟩ = some (.int .i64 a) := B.out.cell 2
  go_wp2_with fail
  refine (HS.out _).mono ?_
  rintro e w6 ⟨rfl, y⟩
  have b' := Lib.hid (B.out.ext y)
  have x' := Lib.hid (X.out.trans y)
  clear y B X
  have B := Lib.hid b'.out
  have X := Lib.hid x'.out
  clear b' x'
  try clear q2
  have q2 : w6.cell? ⟨w.heap.size, 2, none⟩ = some (.int .i64 a) := B.out.cell 2
  go_wp2_with fail
  refine (HC.out _).mono ?_
  rintro e w' ⟨rfl, rfl⟩
  go_wp2_with fail
  refine (HB.out _).mono ?_
  rintro e w' ⟨rfl, rfl⟩
  go_wp2_with fail
  refine (HW.out _).mono ?_
  rintro e w' ⟨rfl, rfl⟩
  go_wp2_with fail
  refine (HV.out _).mono ?_
  rintro e w' ⟨rfl, rfl⟩
  go_wp2_with fail
  refine (HT.out _).mono ?_
  rintro e w7 ⟨rfl, y⟩
  have b' := Lib.hid (B.out.ext y)
  have x' := Lib.hid (X.out.trans y)
  clear y B X
  have B := Lib.hid b'.out
  have X := Lib.hid x'.out
  clear b' x'
  try clear q2
  go_wp2_with fail
  go_ret
  exact ⟨rfl, X.out⟩
set_option maxRecDepth 100000 in
set_option maxHeartbeats 2000000 in
theorem may_mid_yes (w : World) (n : Nat) (k t a z x : Int) (h1 : n ≤ 300) : Calls Try.prog 8 #[.bool true, .int .i64 (n : Int), .agg #[.int .i64 k, .int .i64 t, .int .i64 a, .int .u64 z, .int .u64 x]] w (fun e w' => e = .returned (.bool true) ∧ Ext w w') := by
  have HA := Lib.hid (fun W => awake7_of W)
  have H0 := Lib.hid (fun W => new_ok W 1 1 (by decide) (by decide) (by decide) (by decide))
  have u1 : ¬ (300 : Int) < (n : Int) := by omega
  have u2 : decide (300 < n) = false := by simp; omega
  have u3 : (0 : Int) ≤ (n : Int) := by omega
  have u4 : (n : Int) ≤ 262144 := by omega
  have u5 : decide (n ≤ 262144) = true := by simp; omega
  go_enter Try.func8, Try.ntmps8
  go_wp2_with fail
  refine (H0.out _).mono ?_
  rintro e w1 ⟨D, rfl, hd, y⟩
  have a1 : At _ w1 D.ptr _ := At.mk hd y
  have X := Lib.hid (((Ext.refl w).alloc (.cells #[.int .i64 k, .int .i64 t, .int .i64 a, .int .u64 z, .int .u64 x] 49)).trans y)
  generalize D.ptr = v at a1
  clear hd y H0
  go_wp2_with fail
  refine (memNew_ok a1 n (by omega)).mono ?_
  rintro e w2 ⟨gm, pv, rfl, m2, y⟩
  have X2 := Lib.hid (X.out.trans y)
  clear a1 y X
  have p1 := fun W (xx : Ext w2 W) => (m2.ext xx).peek (-(n : Int)) (by omega) (by omega)
  have p2 := fun W (xx : Ext w2 W) => (m2.ext xx).peek (-1 - (n : Int)) (by omega) (by omega)
  have e1 : peekB (MSt.new ⟨1, 1, List.replicate (1 * 8) 0, List.replicate (1 * 8) 0, List.replicate 1 0, List.replicate 1 []⟩ n) (-(n : Int)) = true := by
    unfold peekB MSt.new
    split
    · simp
      omega
    · simp
      omega
  have e2 : peekB (MSt.new ⟨1, 1, List.replicate (1 * 8) 0, List.replicate (1 * 8) 0, List.replicate 1 0, List.replicate 1 []⟩ n) (-1 - (n : Int)) = false := by
    unfold peekB MSt.new
    rw [if_neg (by omega)]
    simp
    omega
  rw [e1] at p1
  rw [e2] at p2
  have dv := fun W (xx : Ext w2 W) => memDevice_ok (m2.ext xx)
  have dl := fun W (xx : Ext w2 W) => ((m2.ext xx).dev).lines
  have P1 := Lib.hid p1
  have P2 := Lib.hid p2
  have DV := Lib.hid dv
  have DL := Lib.hid dl
  clear p1 p2 e1 e2 m2 dv dl
  generalize peekV _ (-(n : Int)) = y1 at P1
  generalize peekV _ (-1 - (n : Int)) = y2 at P2
  go_wp2_with fail
  refine (P1.out _ (Ext.refl _)).mono ?_
  rintro e w' ⟨rfl, rfl⟩
  go_wp2_with fail
  refine (P2.out _ (Ext.refl _)).mono ?_
  rintro e w' ⟨rfl, rfl⟩
  go_wp2_with fail
  refine (HA.out _).mono ?_
  rintro e w3 ⟨rfl, y⟩
  have X3 := Lib.hid (X2.out.trans y)
  have Y := Lib.hid y
  clear y X2
  go_wp2_with fail
  refine (DV.out _ Y.out).mono ?_
  rintro e w' ⟨rfl, rfl⟩
  go_wp2_with fail
  refine (DL.out _ Y.out).mono ?_
  rintro e w' ⟨rfl, rfl⟩
  go_wp2_with fail
  go_ret
  exact ⟨rfl, X3.out⟩
theorem pmemMay_walk (w : World) (h : Bool) (n k t a z x : Int) : Calls Try.prog 8 #[.bool h, .int .i64 n, .agg #[.int .i64 k, .int .i64 t, .int .i64 a, .int .u64 z, .int .u64 x]] w (fun e w' => e = .returned (.bool true) ∧ Ext w w') := by
  by_cases h1 : n < 0
  · cases h
    · exact may_neg_no w n k t a z x h1
    · exact may_neg_yes w n k t a z x h1
  by_cases h2 : n ≤ 300
  · cases h
    · exact may_mid_no w n k t a z x (by omega) h2
    · obtain ⟨m, rfl⟩ := Int.eq_ofNat_of_zero_le (show 0 ≤ n by omega)
      exact may_mid_yes w m k t a z x (by omega)
  by_cases h3 : n ≤ 262144
  · exact may_some w h n k t a z x (by omega) h3
  · cases h
    · exact may_big_no w n k t a z x (by omega)
    · exact may_big_yes w n k t a z x (by omega)

namespace pmemMay
set_option maxRecDepth 100000 in
theorem lifted (os : Os) (started : os.Started) (H : Type) (enc : TypeId × Value → H) :
    ReturnsInHanded {} Try.checked os 8 .any (Rows.pmemMaySpec.pre6 enc Try.prog Try.f8 Rows.pmemMayRow.domain false) (Rows.pmemMaySpec.post enc Try.prog Try.f8 false true false false) := by
  refine returnsInHanded_of_change (C := Try.checked) own started (by kernel_rfl) Try.func8
    (ChangeSpec.witness6 (enc := enc) (C := Try.checked) false ⟨#[], #[.bool false, .int .i64 0, .agg #[.int .i64 0, .int .i64 0, .int .i64 0, .int .u64 0, .int .u64 0]], []⟩ 8 (by kernel_rfl) (by kernel_rfl) (by kernel_rfl) (by kernel_rfl)) ?_
  intro W base args ds gs before hval0 hW hcnd _
  have hval : ∀ (j : Nat) t v, Try.f8.params[j]? = some t → args[j]? = some v → Value.okWide Try.prog W .any base t v := hval0
  have hW' := hW
  obtain ⟨p, q, hA0, hV, rfl, hfz, hnd⟩ := hW
  have hA : DataW.TrodAll enc Try.prog W 0 (fun _ => true) true Try.f8.params.toList args.toList ds p := hA0
  have hlt : ∀ x ∈ p ++ q, x.block < W.heap.size := fun x hx => hW'.lt x hx
  rw [Try.params8] at hA hval
  have hB := hA
  obtain ⟨v0, vs0, d0, ds0, p0, q0, hargs, rfl, rfl, h0, r0⟩ := trodAll_cons hB
  obtain ⟨v1, vs1, d1, ds1, p1, q1, rfl, rfl, rfl, h1, r1⟩ := trodAll_cons r0
  obtain ⟨v2, vs2, d2, ds2, p2, q2, rfl, rfl, rfl, h2, r2⟩ := trodAll_cons r1
  obtain ⟨rfl, rfl, rfl⟩ := trodAll_nil r2
  obtain rfl : args = #[v0, v1, v2] := by cases args; simp_all
  obtain ⟨rfl, rfl⟩ := trodVars_none hV
  obtain ⟨a0, rfl, rfl, rfl⟩ := open_bool Try.underlying4 (hval 0 4 v0 rfl rfl) h0
  obtain ⟨a1, rfl, rfl, rfl, w1⟩ := open_int Try.underlying3 (hval 1 3 v1 rfl rfl) h1
  obtain ⟨x2k, x2t, x2a, x2o, x2w, rfl, ok2⟩ := view_act7 Try.underlying49 (by kernel_rfl) (by kernel_rfl) Try.underlying3 Try.underlying3 Try.underlying3 Try.underlying32 Try.underlying32 (hval 2 49 v2 rfl rfl) h2
  clear hA0 hval0
  refine (pmemMay_walk W a0 a1 x2k x2t x2a x2o x2w).mono fun e W' ⟨he, hx⟩ => ?_
  subst he
  exact ⟨_, rfl, post_ext (pv := []) hW' (fun _ _ _ => (trodAll_cons_mk (shut_bool Try.underlying4 _) trodAll_mk0)) (fun sp hsp => trodAll_stays laid hx _ _ _ _ (readable_of (by kernel_rfl)) hA (fun x hx => hlt x (by first | (simp at hx ⊢; exact hx) | simp at hx)) (fun x hx => hsp x (by first | (simp at hx ⊢; exact hx) | simp at hx))) (fun _ _ => rfl) rfl hx (ok_one (by kernel_rfl) rfl (okWide_bool_mk Try.underlying4 _))⟩

theorem over : Rows.pmemMayRow.holds Try.pinned (OpenSpec.ofChange Rows.pmemMaySpec) :=
  OpenClaim.holds_of_wide 8 Try.f8 rfl rfl rfl rfl rfl rfl rfl ⟨rfl, rfl, rfl, rfl, rfl⟩ rfl rfl rfl rfl rfl (by kernel_rfl) Try.func8 (by kernel_rfl)
    (of_decide_eq_true (by kernel_rfl)) (by unfold Func.isWrapper; first | (rw [if_pos (by decide +kernel)]; kernel_rfl) | (rw [if_neg (by decide +kernel)]; exact ⟨rfl, rfl⟩))
    (fun os started H enc _ => lifted os started H enc)
end pmemMay

theorem pmemMay_holds : Rows.PmemMaySaid := pmemMay.over
#print axioms pmemMay_holds
end Go.Proofs.Ytlnaffedbcpkpaa
