/- What is read of two lines, case by case. Conditions: those that each theorem names. -/
import Derived.Test.YtljleibhncidmaaSuperRef
import Derived.Test.YtljleibhncidmaaCfgView
namespace Go.Proofs.Ytljleibhncidmaa
open Go.ChangeShapes Go.WideShapes Go.ChangeAt Go.RowKit
set_option linter.unusedVariables false
set_option maxRecDepth 100000 in
set_option maxHeartbeats 2000000 in
theorem superReads_same (x0 x1 x2 x3 x4 x5 x6 x7 y0 y1 y2 y3 y4 y5 y6 y7 b l s t : Int) (w : World) (hA : Reads (.agg #[.int .u64 x0, .int .u64 x1, .int .u64 x2, .int .u64 x3, .int .u64 x4, .int .u64 x5, .int .u64 x6, .int .u64 x7]) t s l b 0) (hB : Reads (.agg #[.int .u64 y0, .int .u64 y1, .int .u64 y2, .int .u64 y3, .int .u64 y4, .int .u64 y5, .int .u64 y6, .int .u64 y7]) t s l b 0)
    (HRA : Hid (∀ W, Calls Try.prog 16 #[.agg #[.int .u64 x0, .int .u64 x1, .int .u64 x2, .int .u64 x3, .int .u64 x4, .int .u64 x5, .int .u64 x6, .int .u64 x7]] W fun e w' => e = .returned (.tuple #[.agg #[.int .i64 t, .int .i64 s, .int .i64 l, .int .i64 b], .bool true]) ∧ Ext W w'))
    (HRB : Hid (∀ W, Calls Try.prog 16 #[.agg #[.int .u64 y0, .int .u64 y1, .int .u64 y2, .int .u64 y3, .int .u64 y4, .int .u64 y5, .int .u64 y6, .int .u64 y7]] W fun e w' => e = .returned (.tuple #[.agg #[.int .i64 t, .int .i64 s, .int .i64 l, .int .i64 b], .bool true]) ∧ Ext W w')) :
    Calls Try.prog 4 #[.agg #[.int .u64 x0, .int .u64 x1, .int .u64 x2, .int .u64 x3, .int .u64 x4, .int .u64 x5, .int .u64 x6, .int .u64 x7], .agg #[.int .u64 y0, .int .u64 y1, .int .u64 y2, .int .u64 y3, .int .u64 y4, .int .u64 y5, .int .u64 y6, .int .u64 y7]] w fun e w' => e = .returned (.bool true) ∧ Ext w w' := by
  have HA := Lib.hid hA
  have HB := Lib.hid (fun W => both_same _ _ _ _ _ _ _ _ _ _ _ _ _ _ _ _ _ _ _ _ _ _ _ _ W hA hB rfl)
  unfold Reads at HA
  clear hA hB
  have heq1 := fun W => eqc_yes t s l b W
  go_enter Try.func4, Try.ntmps4
  go_wp2_with fail
  refine (HA.out _).mono ?_
  rintro r w1 ⟨rfl, hx1⟩
  have qa := ((C8.new w x0 x1 x2 x3 x4 x5 x6 x7 26).alloc (by simp) (.cells #[.int .u64 y0, .int .u64 y1, .int .u64 y2, .int .u64 y3, .int .u64 y4, .int .u64 y5, .int .u64 y6, .int .u64 y7] 26)).ext hx1 (by simp; omega)
  have qb : C8 w1 (w.heap.size + 1) y0 y1 y2 y3 y4 y5 y6 y7 := by
    have h := (C8.new (w.alloc (.cells #[.int .u64 x0, .int .u64 x1, .int .u64 x2, .int .u64 x3, .int .u64 x4, .int .u64 x5, .int .u64 x6, .int .u64 x7] 26)) y0 y1 y2 y3 y4 y5 y6 y7 26).ext hx1 (by simp)
    simpa using h
  have hxa := (ext2 w _ _).trans hx1
  have s1 : w.heap.size + 1 < w1.heap.size := by have := hx1.size; simp at this; omega
  have s2 : w.heap.size < w1.heap.size := by omega
  have n1 : ¬ w.heap.size + 1 = w1.heap.size := by omega
  have n2 : ¬ w.heap.size = w1.heap.size := by omega
  clear HA hx1
  obtain ⟨a0, a1, a2, a3, a4, a5, a6, a7⟩ := qa
  go_wp2_with fail
  refine (HRA.out _).mono ?_
  rintro r w2 ⟨rfl, hx2⟩
  have qa := (C8.alloc (g := w.heap.size) ⟨a0, a1, a2, a3, a4, a5, a6, a7⟩ s2 _).ext hx2 (by simp; omega)
  have qb2 := (qb.alloc s1 _).ext hx2 (by simp; omega)
  have qc := (C4.new w1 t s l b 23).ext hx2 (by simp)
  have hxb := (hxa.alloc _).trans hx2
  have s3 : w1.heap.size < w2.heap.size := by have := hx2.size; simp at this; omega
  have s4 : w.heap.size + 1 < w2.heap.size := by omega
  have s5 : w.heap.size < w2.heap.size := by omega
  have n3 : ¬ w1.heap.size = w2.heap.size := by omega
  have n4 : ¬ w.heap.size + 1 = w2.heap.size := by omega
  have n5 : ¬ w.heap.size = w2.heap.size := by omega
  clear HRA hx2 hxa qb a0 a1 a2 a3 a4 a5 a6 a7
  obtain ⟨a0, a1, a2, a3, a4, a5, a6, a7⟩ := qb2
  go_wp2_with fail
  refine (HRB.out _).mono ?_
  rintro r w3 ⟨rfl, hx3⟩
  have qb := (C8.alloc (g := w.heap.size + 1) ⟨a0, a1, a2, a3, a4, a5, a6, a7⟩ s4 _).ext hx3 (by simp; omega)
  have qa3 := (qa.alloc s5 _).ext hx3 (by simp; omega)
  have qc3 := (qc.alloc s3 _).ext hx3 (by simp; omega)
  have qd := (C4.new w2 t s l b 23).ext hx3 (by simp)
  have hxc := (hxb.alloc _).trans hx3
  have s6 : w2.heap.size < w3.heap.size := by have := hx3.size; simp at this; omega
  have s7 : w.heap.size + 1 < w3.heap.size := by omega
  have s8 : w.heap.size < w3.heap.size := by omega
  have s9 : w1.heap.size < w3.heap.size := by omega
  have n6 : ¬ w2.heap.size = w3.heap.size := by omega
  have n7 : ¬ w.heap.size + 1 = w3.heap.size := by omega
  have n8 : ¬ w.heap.size = w3.heap.size := by omega
  clear HRB hx3 hxb qa qc a0 a1 a2 a3 a4 a5 a6 a7
  obtain ⟨a0, a1, a2, a3, a4, a5, a6, a7⟩ := qa3
  obtain ⟨b0, b1, b2, b3, b4, b5, b6, b7⟩ := qb
  go_wp2_with fail
  refine (HB.out _).mono ?_
  rintro r w4 ⟨rfl, hx4⟩
  have qc4 := (qc3.alloc s9 _).ext hx4 (by simp; omega)
  have qd4 := (qd.alloc s6 _).ext hx4 (by simp; omega)
  have qf := (C4.new w3 t s l b 23).ext hx4 (by simp)
  have hxd := (hxc.alloc _).trans hx4
  have s10 : w3.heap.size < w4.heap.size := by have := hx4.size; simp at this; omega
  have s11 : w2.heap.size < w4.heap.size := by omega
  have s12 : w1.heap.size < w4.heap.size := by omega
  have n9 : ¬ w3.heap.size = w4.heap.size := by omega
  have n10 : ¬ w2.heap.size = w4.heap.size := by omega
  have n11 : ¬ w1.heap.size = w4.heap.size := by omega
  clear HB hx4 hxc qc3 qd a0 a1 a2 a3 a4 a5 a6 a7 b0 b1 b2 b3 b4 b5 b6 b7
  obtain ⟨c0, c1, c2, c3⟩ := qc4
  obtain ⟨d0, d1, d2, d3⟩ := qd4
  obtain ⟨f0, f1, f2, f3⟩ := qf
  go_wp2_with fail
  refine (awake5_any _).mono ?_
  rintro r w5 ⟨rfl, hx5⟩
  have pd := (C4.alloc (g := w2.heap.size) ⟨d0, d1, d2, d3⟩ s11 _).ext hx5 (by simp; omega)
  have pf := (C4.alloc (g := w3.heap.size) ⟨f0, f1, f2, f3⟩ s10 _).ext hx5 (by simp; omega)
  have px := (C4.new w4 t s l b 23).ext hx5 (by simp)
  have hxe := (hxd.alloc _).trans hx5
  clear hx5 hxd c0 c1 c2 c3 d0 d1 d2 d3 f0 f1 f2 f3
  obtain ⟨d0, d1, d2, d3⟩ := pd
  obtain ⟨f0, f1, f2, f3⟩ := pf
  obtain ⟨g0, g1, g2, g3⟩ := px
  go_wp2_with fail
  go_ret
  exact ⟨rfl, hxe⟩
set_option maxRecDepth 100000 in
set_option maxHeartbeats 2000000 in
theorem superReads_not (x0 x1 x2 x3 x4 x5 x6 x7 y0 y1 y2 y3 y4 y5 y6 y7 b b' l l' s s' t t' : Int) (w : World) (hA : Reads (.agg #[.int .u64 x0, .int .u64 x1, .int .u64 x2, .int .u64 x3, .int .u64 x4, .int .u64 x5, .int .u64 x6, .int .u64 x7]) t s l b 0) (hB : Reads (.agg #[.int .u64 y0, .int .u64 y1, .int .u64 y2, .int .u64 y3, .int .u64 y4, .int .u64 y5, .int .u64 y6, .int .u64 y7]) t' s' l' b' 0) (hne : ¬ [t, s, l, b] = [t', s', l', b'])
    (HRA : Hid (∀ W, Calls Try.prog 16 #[.agg #[.int .u64 x0, .int .u64 x1, .int .u64 x2, .int .u64 x3, .int .u64 x4, .int .u64 x5, .int .u64 x6, .int .u64 x7]] W fun e w' => e = .returned (.tuple #[.agg #[.int .i64 t, .int .i64 s, .int .i64 l, .int .i64 b], .bool true]) ∧ Ext W w'))
    (HRB : Hid (∀ W, Calls Try.prog 16 #[.agg #[.int .u64 y0, .int .u64 y1, .int .u64 y2, .int .u64 y3, .int .u64 y4, .int .u64 y5, .int .u64 y6, .int .u64 y7]] W fun e w' => e = .returned (.tuple #[.agg #[.int .i64 t', .int .i64 s', .int .i64 l', .int .i64 b'], .bool true]) ∧ Ext W w')) :
    Calls Try.prog 4 #[.agg #[.int .u64 x0, .int .u64 x1, .int .u64 x2, .int .u64 x3, .int .u64 x4, .int .u64 x5, .int .u64 x6, .int .u64 x7], .agg #[.int .u64 y0, .int .u64 y1, .int .u64 y2, .int .u64 y3, .int .u64 y4, .int .u64 y5, .int .u64 y6, .int .u64 y7]] w fun e w' => e = .returned (.bool true) ∧ Ext w w' := by
  have HA := Lib.hid hA
  have HB := Lib.hid (fun W => both_not _ _ _ _ _ _ _ _ _ _ _ _ _ _ _ _ _ _ _ _ _ _ _ _ W hA hB hne)
  unfold Reads at HA
  clear hA hB
  have heq1 := fun W => eqc_yes t s l b W
  have heq2 := fun W => eqc_no _ _ _ _ _ _ _ _ hne W
  have heq3 := fun W => eqc_yes 0 0 0 0 W
  clear hne
  go_enter Try.func4, Try.ntmps4
  go_wp2_with fail
  refine (HA.out _).mono ?_
  rintro r w1 ⟨rfl, hx1⟩
  have qa := ((C8.new w x0 x1 x2 x3 x4 x5 x6 x7 26).alloc (by simp) (.cells #[.int .u64 y0, .int .u64 y1, .int .u64 y2, .int .u64 y3, .int .u64 y4, .int .u64 y5, .int .u64 y6, .int .u64 y7] 26)).ext hx1 (by simp; omega)
  have qb : C8 w1 (w.heap.size + 1) y0 y1 y2 y3 y4 y5 y6 y7 := by
    have h := (C8.new (w.alloc (.cells #[.int .u64 x0, .int .u64 x1, .int .u64 x2, .int .u64 x3, .int .u64 x4, .int .u64 x5, .int .u64 x6, .int .u64 x7] 26)) y0 y1 y2 y3 y4 y5 y6 y7 26).ext hx1 (by simp)
    simpa using h
  have hxa := (ext2 w _ _).trans hx1
  have s1 : w.heap.size + 1 < w1.heap.size := by have := hx1.size; simp at this; omega
  have s2 : w.heap.size < w1.heap.size := by omega
  have n1 : ¬ w.heap.size + 1 = w1.heap.size := by omega
  have n2 : ¬ w.heap.size = w1.heap.size := by omega
  clear HA hx1
  obtain ⟨a0, a1, a2, a3, a4, a5, a6, a7⟩ := qa
  go_wp2_with fail
  refine (HRA.out _).mono ?_
  rintro r w2 ⟨rfl, hx2⟩
  have qa := (C8.alloc (g := w.heap.size) ⟨a0, a1, a2, a3, a4, a5, a6, a7⟩ s2 _).ext hx2 (by simp; omega)
  have qb2 := (qb.alloc s1 _).ext hx2 (by simp; omega)
  have qc := (C4.new w1 t s l b 23).ext hx2 (by simp)
  have hxb := (hxa.alloc _).trans hx2
  have s3 : w1.heap.size < w2.heap.size := by have := hx2.size; simp at this; omega
  have s4 : w.heap.size + 1 < w2.heap.size := by omega
  have s5 : w.heap.size < w2.heap.size := by omega
  have n3 : ¬ w1.heap.size = w2.heap.size := by omega
  have n4 : ¬ w.heap.size + 1 = w2.heap.size := by omega
  have n5 : ¬ w.heap.size = w2.heap.size := by omega
  clear HRA hx2 hxa qb a0 a1 a2 a3 a4 a5 a6 a7
  obtain ⟨a0, a1, a2, a3, a4, a5, a6, a7⟩ := qb2
  go_wp2_with fail
  refine (HRB.out _).mono ?_
  rintro r w3 ⟨rfl, hx3⟩
  have qb := (C8.alloc (g := w.heap.size + 1) ⟨a0, a1, a2, a3, a4, a5, a6, a7⟩ s4 _).ext hx3 (by simp; omega)
  have qa3 := (qa.alloc s5 _).ext hx3 (by simp; omega)
  have qc3 := (qc.alloc s3 _).ext hx3 (by simp; omega)
  have qd := (C4.new w2 t s l b 23).ext hx3 (by simp)
  have hxc := (hxb.alloc _).trans hx3
  have s6 : w2.heap.size < w3.heap.size := by have := hx3.size; simp at this; omega
  have s7 : w.heap.size + 1 < w3.heap.size := by omega
  have s8 : w.heap.size < w3.heap.size := by omega
  have s9 : w1.heap.size < w3.heap.size := by omega
  have n6 : ¬ w2.heap.size = w3.heap.size := by omega
  have n7 : ¬ w.heap.size + 1 = w3.heap.size := by omega
  have n8 : ¬ w.heap.size = w3.heap.size := by omega
  clear HRB hx3 hxb qa qc a0 a1 a2 a3 a4 a5 a6 a7
  obtain ⟨a0, a1, a2, a3, a4, a5, a6, a7⟩ := qa3
  obtain ⟨b0, b1, b2, b3, b4, b5, b6, b7⟩ := qb
  go_wp2_with fail
  refine (HB.out _).mono ?_
  rintro r w4 ⟨rfl, hx4⟩
  have qc4 := (qc3.alloc s9 _).ext hx4 (by simp; omega)
  have qd4 := (qd.alloc s6 _).ext hx4 (by simp; omega)
  have qf := (C4.new w3 t' s' l' b' 23).ext hx4 (by simp)
  have hxd := (hxc.alloc _).trans hx4
  have s10 : w3.heap.size < w4.heap.size := by have := hx4.size; simp at this; omega
  have s11 : w2.heap.size < w4.heap.size := by omega
  have s12 : w1.heap.size < w4.heap.size := by omega
  have n9 : ¬ w3.heap.size = w4.heap.size := by omega
  have n10 : ¬ w2.heap.size = w4.heap.size := by omega
  have n11 : ¬ w1.heap.size = w4.heap.size := by omega
  clear HB hx4 hxc qc3 qd a0 a1 a2 a3 a4 a5 a6 a7 b0 b1 b2 b3 b4 b5 b6 b7
  obtain ⟨c0, c1, c2, c3⟩ := qc4
  obtain ⟨d0, d1, d2, d3⟩ := qd4
  obtain ⟨f0, f1, f2, f3⟩ := qf
  go_wp2_with fail
  refine (awake5_any _).mono ?_
  rintro r w5 ⟨rfl, hx5⟩
  have pd := (C4.alloc (g := w2.heap.size) ⟨d0, d1, d2, d3⟩ s11 _).ext hx5 (by simp; omega)
  have pf := (C4.alloc (g := w3.heap.size) ⟨f0, f1, f2, f3⟩ s10 _).ext hx5 (by simp; omega)
  have px := (C4.new w4 0 0 0 0 23).ext hx5 (by simp)
  have hxe := (hxd.alloc _).trans hx5
  clear hx5 hxd c0 c1 c2 c3 d0 d1 d2 d3 f0 f1 f2 f3
  obtain ⟨d0, d1, d2, d3⟩ := pd
  obtain ⟨f0, f1, f2, f3⟩ := pf
  obtain ⟨g0, g1, g2, g3⟩ := px
  go_wp2_with fail
  go_ret
  exact ⟨rfl, hxe⟩
set_option maxRecDepth 100000 in
set_option maxHeartbeats 2000000 in
theorem superReads_first (x0 x1 x2 x3 x4 x5 x6 x7 y0 y1 y2 y3 y4 y5 y6 y7 b l s t : Int) (w : World) (hA : Reads (.agg #[.int .u64 x0, .int .u64 x1, .int .u64 x2, .int .u64 x3, .int .u64 x4, .int .u64 x5, .int .u64 x6, .int .u64 x7]) t s l b 0) (hB : Reads (.agg #[.int .u64 y0, .int .u64 y1, .int .u64 y2, .int .u64 y3, .int .u64 y4, .int .u64 y5, .int .u64 y6, .int .u64 y7]) 0 0 0 0 8)
    (HRA : Hid (∀ W, Calls Try.prog 16 #[.agg #[.int .u64 x0, .int .u64 x1, .int .u64 x2, .int .u64 x3, .int .u64 x4, .int .u64 x5, .int .u64 x6, .int .u64 x7]] W fun e w' => e = .returned (.tuple #[.agg #[.int .i64 t, .int .i64 s, .int .i64 l, .int .i64 b], .bool true]) ∧ Ext W w'))
    (HRB : Hid (∀ W, Calls Try.prog 16 #[.agg #[.int .u64 y0, .int .u64 y1, .int .u64 y2, .int .u64 y3, .int .u64 y4, .int .u64 y5, .int .u64 y6, .int .u64 y7]] W fun e w' => e = .returned (.tuple #[.agg #[.int .i64 0, .int .i64 0, .int .i64 0, .int .i64 0], .bool false]) ∧ Ext W w')) :
    Calls Try.prog 4 #[.agg #[.int .u64 x0, .int .u64 x1, .int .u64 x2, .int .u64 x3, .int .u64 x4, .int .u64 x5, .int .u64 x6, .int .u64 x7], .agg #[.int .u64 y0, .int .u64 y1, .int .u64 y2, .int .u64 y3, .int .u64 y4, .int .u64 y5, .int .u64 y6, .int .u64 y7]] w fun e w' => e = .returned (.bool true) ∧ Ext w w' := by
  have HA := Lib.hid hA
  have HB := Lib.hid (fun W => both_first _ _ _ _ _ _ _ _ _ _ _ _ _ _ _ _ _ _ _ _ _ _ _ _ W hA hB)
  unfold Reads at HA
  clear hA hB
  have heq1 := fun W => eqc_yes t s l b W
  go_enter Try.func4, Try.ntmps4
  go_wp2_with fail
  refine (HA.out _).mono ?_
  rintro r w1 ⟨rfl, hx1⟩
  have qa := ((C8.new w x0 x1 x2 x3 x4 x5 x6 x7 26).alloc (by simp) (.cells #[.int .u64 y0, .int .u64 y1, .int .u64 y2, .int .u64 y3, .int .u64 y4, .int .u64 y5, .int .u64 y6, .int .u64 y7] 26)).ext hx1 (by simp; omega)
  have qb : C8 w1 (w.heap.size + 1) y0 y1 y2 y3 y4 y5 y6 y7 := by
    have h := (C8.new (w.alloc (.cells #[.int .u64 x0, .int .u64 x1, .int .u64 x2, .int .u64 x3, .int .u64 x4, .int .u64 x5, .int .u64 x6, .int .u64 x7] 26)) y0 y1 y2 y3 y4 y5 y6 y7 26).ext hx1 (by simp)
    simpa using h
  have hxa := (ext2 w _ _).trans hx1
  have s1 : w.heap.size + 1 < w1.heap.size := by have := hx1.size; simp at this; omega
  have s2 : w.heap.size < w1.heap.size := by omega
  have n1 : ¬ w.heap.size + 1 = w1.heap.size := by omega
  have n2 : ¬ w.heap.size = w1.heap.size := by omega
  clear HA hx1
  obtain ⟨a0, a1, a2, a3, a4, a5, a6, a7⟩ := qa
  go_wp2_with fail
  refine (HRA.out _).mono ?_
  rintro r w2 ⟨rfl, hx2⟩
  have qa := (C8.alloc (g := w.heap.size) ⟨a0, a1, a2, a3, a4, a5, a6, a7⟩ s2 _).ext hx2 (by simp; omega)
  have qb2 := (qb.alloc s1 _).ext hx2 (by simp; omega)
  have qc := (C4.new w1 t s l b 23).ext hx2 (by simp)
  have hxb := (hxa.alloc _).trans hx2
  have s3 : w1.heap.size < w2.heap.size := by have := hx2.size; simp at this; omega
  have s4 : w.heap.size + 1 < w2.heap.size := by omega
  have s5 : w.heap.size < w2.heap.size := by omega
  have n3 : ¬ w1.heap.size = w2.heap.size := by omega
  have n4 : ¬ w.heap.size + 1 = w2.heap.size := by omega
  have n5 : ¬ w.heap.size = w2.heap.size := by omega
  clear HRA hx2 hxa qb a0 a1 a2 a3 a4 a5 a6 a7
  obtain ⟨a0, a1, a2, a3, a4, a5, a6, a7⟩ := qb2
  go_wp2_with fail
  refine (HRB.out _).mono ?_
  rintro r w3 ⟨rfl, hx3⟩
  have qb := (C8.alloc (g := w.heap.size + 1) ⟨a0, a1, a2, a3, a4, a5, a6, a7⟩ s4 _).ext hx3 (by simp; omega)
  have qa3 := (qa.alloc s5 _).ext hx3 (by simp; omega)
  have qc3 := (qc.alloc s3 _).ext hx3 (by simp; omega)
  have qd := (C4.new w2 t s l b 23).ext hx3 (by simp)
  have hxc := (hxb.alloc _).trans hx3
  have s6 : w2.heap.size < w3.heap.size := by have := hx3.size; simp at this; omega
  have s7 : w.heap.size + 1 < w3.heap.size := by omega
  have s8 : w.heap.size < w3.heap.size := by omega
  have s9 : w1.heap.size < w3.heap.size := by omega
  have n6 : ¬ w2.heap.size = w3.heap.size := by omega
  have n7 : ¬ w.heap.size + 1 = w3.heap.size := by omega
  have n8 : ¬ w.heap.size = w3.heap.size := by omega
  clear HRB hx3 hxb qa qc a0 a1 a2 a3 a4 a5 a6 a7
  obtain ⟨a0, a1, a2, a3, a4, a5, a6, a7⟩ := qa3
  obtain ⟨b0, b1, b2, b3, b4, b5, b6, b7⟩ := qb
  go_wp2_with fail
  refine (HB.out _).mono ?_
  rintro r w4 ⟨rfl, hx4⟩
  have qc4 := (qc3.alloc s9 _).ext hx4 (by simp; omega)
  have qd4 := (qd.alloc s6 _).ext hx4 (by simp; omega)
  have qf := (C4.new w3 0 0 0 0 23).ext hx4 (by simp)
  have hxd := (hxc.alloc _).trans hx4
  have s10 : w3.heap.size < w4.heap.size := by have := hx4.size; simp at this; omega
  have s11 : w2.heap.size < w4.heap.size := by omega
  have s12 : w1.heap.size < w4.heap.size := by omega
  have n9 : ¬ w3.heap.size = w4.heap.size := by omega
  have n10 : ¬ w2.heap.size = w4.heap.size := by omega
  have n11 : ¬ w1.heap.size = w4.heap.size := by omega
  clear HB hx4 hxc qc3 qd a0 a1 a2 a3 a4 a5 a6 a7 b0 b1 b2 b3 b4 b5 b6 b7
  obtain ⟨c0, c1, c2, c3⟩ := qc4
  obtain ⟨d0, d1, d2, d3⟩ := qd4
  obtain ⟨f0, f1, f2, f3⟩ := qf
  go_wp2_with fail
  refine (awake5_any _).mono ?_
  rintro r w5 ⟨rfl, hx5⟩
  have pd := (C4.alloc (g := w2.heap.size) ⟨d0, d1, d2, d3⟩ s11 _).ext hx5 (by simp; omega)
  have pf := (C4.alloc (g := w3.heap.size) ⟨f0, f1, f2, f3⟩ s10 _).ext hx5 (by simp; omega)
  have px := (C4.new w4 t s l b 23).ext hx5 (by simp)
  have hxe := (hxd.alloc _).trans hx5
  clear hx5 hxd c0 c1 c2 c3 d0 d1 d2 d3 f0 f1 f2 f3
  obtain ⟨d0, d1, d2, d3⟩ := pd
  obtain ⟨f0, f1, f2, f3⟩ := pf
  obtain ⟨g0, g1, g2, g3⟩ := px
  go_wp2_with fail
  go_ret
  exact ⟨rfl, hxe⟩
set_option maxRecDepth 100000 in
set_option maxHeartbeats 2000000 in
theorem superReads_second (x0 x1 x2 x3 x4 x5 x6 x7 y0 y1 y2 y3 y4 y5 y6 y7 b' l' s' t' : Int) (w : World) (hA : Reads (.agg #[.int .u64 x0, .int .u64 x1, .int .u64 x2, .int .u64 x3, .int .u64 x4, .int .u64 x5, .int .u64 x6, .int .u64 x7]) 0 0 0 0 8) (hB : Reads (.agg #[.int .u64 y0, .int .u64 y1, .int .u64 y2, .int .u64 y3, .int .u64 y4, .int .u64 y5, .int .u64 y6, .int .u64 y7]) t' s' l' b' 0)
    (HRA : Hid (∀ W, Calls Try.prog 16 #[.agg #[.int .u64 x0, .int .u64 x1, .int .u64 x2, .int .u64 x3, .int .u64 x4, .int .u64 x5, .int .u64 x6, .int .u64 x7]] W fun e w' => e = .returned (.tuple #[.agg #[.int .i64 0, .int .i64 0, .int .i64 0, .int .i64 0], .bool false]) ∧ Ext W w'))
    (HRB : Hid (∀ W, Calls Try.prog 16 #[.agg #[.int .u64 y0, .int .u64 y1, .int .u64 y2, .int .u64 y3, .int .u64 y4, .int .u64 y5, .int .u64 y6, .int .u64 y7]] W fun e w' => e = .returned (.tuple #[.agg #[.int .i64 t', .int .i64 s', .int .i64 l', .int .i64 b'], .bool true]) ∧ Ext W w')) :
    Calls Try.prog 4 #[.agg #[.int .u64 x0, .int .u64 x1, .int .u64 x2, .int .u64 x3, .int .u64 x4, .int .u64 x5, .int .u64 x6, .int .u64 x7], .agg #[.int .u64 y0, .int .u64 y1, .int .u64 y2, .int .u64 y3, .int .u64 y4, .int .u64 y5, .int .u64 y6, .int .u64 y7]] w fun e w' => e = .returned (.bool true) ∧ Ext w w' := by
  have HA := Lib.hid hA
  have HB := Lib.hid (fun W => both_second _ _ _ _ _ _ _ _ _ _ _ _ _ _ _ _ _ _ _ _ _ _ _ _ W hA hB)
  unfold Reads at HA
  clear hA hB
  have heq1 := fun W => eqc_yes 0 0 0 0 W
  have heq2 := fun W => eqc_yes t' s' l' b' W
  go_enter Try.func4, Try.ntmps4
  go_wp2_with fail
  refine (HA.out _).mono ?_
  rintro r w1 ⟨rfl, hx1⟩
  have qa := ((C8.new w x0 x1 x2 x3 x4 x5 x6 x7 26).alloc (by simp) (.cells #[.int .u64 y0, .int .u64 y1, .int .u64 y2, .int .u64 y3, .int .u64 y4, .int .u64 y5, .int .u64 y6, .int .u64 y7] 26)).ext hx1 (by simp; omega)
  have qb : C8 w1 (w.heap.size + 1) y0 y1 y2 y3 y4 y5 y6 y7 := by
    have h := (C8.new (w.alloc (.cells #[.int .u64 x0, .int .u64 x1, .int .u64 x2, .int .u64 x3, .int .u64 x4, .int .u64 x5, .int .u64 x6, .int .u64 x7] 26)) y0 y1 y2 y3 y4 y5 y6 y7 26).ext hx1 (by simp)
    simpa using h
  have hxa := (ext2 w _ _).trans hx1
  have s1 : w.heap.size + 1 < w1.heap.size := by have := hx1.size; simp at this; omega
  have s2 : w.heap.size < w1.heap.size := by omega
  have n1 : ¬ w.heap.size + 1 = w1.heap.size := by omega
  have n2 : ¬ w.heap.size = w1.heap.size := by omega
  clear HA hx1
  obtain ⟨a0, a1, a2, a3, a4, a5, a6, a7⟩ := qa
  go_wp2_with fail
  refine (HRA.out _).mono ?_
  rintro r w2 ⟨rfl, hx2⟩
  have qa := (C8.alloc (g := w.heap.size) ⟨a0, a1, a2, a3, a4, a5, a6, a7⟩ s2 _).ext hx2 (by simp; omega)
  have qb2 := (qb.alloc s1 _).ext hx2 (by simp; omega)
  have qc := (C4.new w1 0 0 0 0 23).ext hx2 (by simp)
  have hxb := (hxa.alloc _).trans hx2
  have s3 : w1.heap.size < w2.heap.size := by have := hx2.size; simp at this; omega
  have s4 : w.heap.size + 1 < w2.heap.size := by omega
  have s5 : w.heap.size < w2.heap.size := by omega
  have n3 : ¬ w1.heap.size = w2.heap.size := by omega
  have n4 : ¬ w.heap.size + 1 = w2.heap.size := by omega
  have n5 : ¬ w.heap.size = w2.heap.size := by omega
  clear HRA hx2 hxa qb a0 a1 a2 a3 a4 a5 a6 a7
  obtain ⟨a0, a1, a2, a3, a4, a5, a6, a7⟩ := qb2
  go_wp2_with fail
  refine (HRB.out _).mono ?_
  rintro r w3 ⟨rfl, hx3⟩
  have qb := (C8.alloc (g := w.heap.size + 1) ⟨a0, a1, a2, a3, a4, a5, a6, a7⟩ s4 _).ext hx3 (by simp; omega)
  have qa3 := (qa.alloc s5 _).ext hx3 (by simp; omega)
  have qc3 := (qc.alloc s3 _).ext hx3 (by simp; omega)
  have qd := (C4.new w2 0 0 0 0 23).ext hx3 (by simp)
  have hxc := (hxb.alloc _).trans hx3
  have s6 : w2.heap.size < w3.heap.size := by have := hx3.size; simp at this; omega
  have s7 : w.heap.size + 1 < w3.heap.size := by omega
  have s8 : w.heap.size < w3.heap.size := by omega
  have s9 : w1.heap.size < w3.heap.size := by omega
  have n6 : ¬ w2.heap.size = w3.heap.size := by omega
  have n7 : ¬ w.heap.size + 1 = w3.heap.size := by omega
  have n8 : ¬ w.heap.size = w3.heap.size := by omega
  clear HRB hx3 hxb qa qc a0 a1 a2 a3 a4 a5 a6 a7
  obtain ⟨a0, a1, a2, a3, a4, a5, a6, a7⟩ := qa3
  obtain ⟨b0, b1, b2, b3, b4, b5, b6, b7⟩ := qb
  go_wp2_with fail
  refine (HB.out _).mono ?_
  rintro r w4 ⟨rfl, hx4⟩
  have qc4 := (qc3.alloc s9 _).ext hx4 (by simp; omega)
  have qd4 := (qd.alloc s6 _).ext hx4 (by simp; omega)
  have qf := (C4.new w3 t' s' l' b' 23).ext hx4 (by simp)
  have hxd := (hxc.alloc _).trans hx4
  have s10 : w3.heap.size < w4.heap.size := by have := hx4.size; simp at this; omega
  have s11 : w2.heap.size < w4.heap.size := by omega
  have s12 : w1.heap.size < w4.heap.size := by omega
  have n9 : ¬ w3.heap.size = w4.heap.size := by omega
  have n10 : ¬ w2.heap.size = w4.heap.size := by omega
  have n11 : ¬ w1.heap.size = w4.heap.size := by omega
  clear HB hx4 hxc qc3 qd a0 a1 a2 a3 a4 a5 a6 a7 b0 b1 b2 b3 b4 b5 b6 b7
  obtain ⟨c0, c1, c2, c3⟩ := qc4
  obtain ⟨d0, d1, d2, d3⟩ := qd4
  obtain ⟨f0, f1, f2, f3⟩ := qf
  go_wp2_with fail
  refine (awake5_any _).mono ?_
  rintro r w5 ⟨rfl, hx5⟩
  have pd := (C4.alloc (g := w2.heap.size) ⟨d0, d1, d2, d3⟩ s11 _).ext hx5 (by simp; omega)
  have pf := (C4.alloc (g := w3.heap.size) ⟨f0, f1, f2, f3⟩ s10 _).ext hx5 (by simp; omega)
  have px := (C4.new w4 t' s' l' b' 23).ext hx5 (by simp)
  have hxe := (hxd.alloc _).trans hx5
  clear hx5 hxd c0 c1 c2 c3 d0 d1 d2 d3 f0 f1 f2 f3
  obtain ⟨d0, d1, d2, d3⟩ := pd
  obtain ⟨f0, f1, f2, f3⟩ := pf
  obtain ⟨g0, g1, g2, g3⟩ := px
  go_wp2_with fail
  go_ret
  exact ⟨rfl, hxe⟩
set_option maxRecDepth 100000 in
set_option maxHeartbeats 2000000 in
theorem superReads_none (x0 x1 x2 x3 x4 x5 x6 x7 y0 y1 y2 y3 y4 y5 y6 y7  : Int) (w : World) (hA : Reads (.agg #[.int .u64 x0, .int .u64 x1, .int .u64 x2, .int .u64 x3, .int .u64 x4, .int .u64 x5, .int .u64 x6, .int .u64 x7]) 0 0 0 0 8) (hB : Reads (.agg #[.int .u64 y0, .int .u64 y1, .int .u64 y2, .int .u64 y3, .int .u64 y4, .int .u64 y5, .int .u64 y6, .int .u64 y7]) 0 0 0 0 8)
    (HRA : Hid (∀ W, Calls Try.prog 16 #[.agg #[.int .u64 x0, .int .u64 x1, .int .u64 x2, .int .u64 x3, .int .u64 x4, .int .u64 x5, .int .u64 x6, .int .u64 x7]] W fun e w' => e = .returned (.tuple #[.agg #[.int .i64 0, .int .i64 0, .int .i64 0, .int .i64 0], .bool false]) ∧ Ext W w'))
    (HRB : Hid (∀ W, Calls Try.prog 16 #[.agg #[.int .u64 y0, .int .u64 y1, .int .u64 y2, .int .u64 y3, .int .u64 y4, .int .u64 y5, .int .u64 y6, .int .u64 y7]] W fun e w' => e = .returned (.tuple #[.agg #[.int .i64 0, .int .i64 0, .int .i64 0, .int .i64 0], .bool false]) ∧ Ext W w')) :
    Calls Try.prog 4 #[.agg #[.int .u64 x0, .int .u64 x1, .int .u64 x2, .int .u64 x3, .int .u64 x4, .int .u64 x5, .int .u64 x6, .int .u64 x7], .agg #[.int .u64 y0, .int .u64 y1, .int .u64 y2, .int .u64 y3, .int .u64 y4, .int .u64 y5, .int .u64 y6, .int .u64 y7]] w fun e w' => e = .returned (.bool true) ∧ Ext w w' := by
  have HA := Lib.hid hA
  have HB := Lib.hid (fun W => both_none _ _ _ _ _ _ _ _ _ _ _ _ _ _ _ _ _ _ _ _ _ _ _ _ W hA hB)
  unfold Reads at HA
  clear hA hB
  have heq1 := fun W => eqc_yes 0 0 0 0 W
  go_enter Try.func4, Try.ntmps4
  go_wp2_with fail
  refine (HA.out _).mono ?_
  rintro r w1 ⟨rfl, hx1⟩
  have qa := ((C8.new w x0 x1 x2 x3 x4 x5 x6 x7 26).alloc (by simp) (.cells #[.int .u64 y0, .int .u64 y1, .int .u64 y2, .int .u64 y3, .int .u64 y4, .int .u64 y5, .int .u64 y6, .int .u64 y7] 26)).ext hx1 (by simp; omega)
  have qb : C8 w1 (w.heap.size + 1) y0 y1 y2 y3 y4 y5 y6 y7 := by
    have h := (C8.new (w.alloc (.cells #[.int .u64 x0, .int .u64 x1, .int .u64 x2, .int .u64 x3, .int .u64 x4, .int .u64 x5, .int .u64 x6, .int .u64 x7] 26)) y0 y1 y2 y3 y4 y5 y6 y7 26).ext hx1 (by simp)
    simpa using h
  have hxa := (ext2 w _ _).trans hx1
  have s1 : w.heap.size + 1 < w1.heap.size := by have := hx1.size; simp at this; omega
  have s2 : w.heap.size < w1.heap.size := by omega
  have n1 : ¬ w.heap.size + 1 = w1.heap.size := by omega
  have n2 : ¬ w.heap.size = w1.heap.size := by omega
  clear HA hx1
  obtain ⟨a0, a1, a2, a3, a4, a5, a6, a7⟩ := qa
  go_wp2_with fail
  refine (HRA.out _).mono ?_
  rintro r w2 ⟨rfl, hx2⟩
  have qa := (C8.alloc (g := w.heap.size) ⟨a0, a1, a2, a3, a4, a5, a6, a7⟩ s2 _).ext hx2 (by simp; omega)
  have qb2 := (qb.alloc s1 _).ext hx2 (by simp; omega)
  have qc := (C4.new w1 0 0 0 0 23).ext hx2 (by simp)
  have hxb := (hxa.alloc _).trans hx2
  have s3 : w1.heap.size < w2.heap.size := by have := hx2.size; simp at this; omega
  have s4 : w.heap.size + 1 < w2.heap.size := by omega
  have s5 : w.heap.size < w2.heap.size := by omega
  have n3 : ¬ w1.heap.size = w2.heap.size := by omega
  have n4 : ¬ w.heap.size + 1 = w2.heap.size := by omega
  have n5 : ¬ w.heap.size = w2.heap.size := by omega
  clear HRA hx2 hxa qb a0 a1 a2 a3 a4 a5 a6 a7
  obtain ⟨a0, a1, a2, a3, a4, a5, a6, a7⟩ := qb2
  go_wp2_with fail
  refine (HRB.out _).mono ?_
  rintro r w3 ⟨rfl, hx3⟩
  have qb := (C8.alloc (g := w.heap.size + 1) ⟨a0, a1, a2, a3, a4, a5, a6, a7⟩ s4 _).ext hx3 (by simp; omega)
  have qa3 := (qa.alloc s5 _).ext hx3 (by simp; omega)
  have qc3 := (qc.alloc s3 _).ext hx3 (by simp; omega)
  have qd := (C4.new w2 0 0 0 0 23).ext hx3 (by simp)
  have hxc := (hxb.alloc _).trans hx3
  have s6 : w2.heap.size < w3.heap.size := by have := hx3.size; simp at this; omega
  have s7 : w.heap.size + 1 < w3.heap.size := by omega
  have s8 : w.heap.size < w3.heap.size := by omega
  have s9 : w1.heap.size < w3.heap.size := by omega
  have n6 : ¬ w2.heap.size = w3.heap.size := by omega
  have n7 : ¬ w.heap.size + 1 = w3.heap.size := by omega
  have n8 : ¬ w.heap.size = w3.heap.size := by omega
  clear HRB hx3 hxb qa qc a0 a1 a2 a3 a4 a5 a6 a7
  obtain ⟨a0, a1, a2, a3, a4, a5, a6, a7⟩ := qa3
  obtain ⟨b0, b1, b2, b3, b4, b5, b6, b7⟩ := qb
  go_wp2_with fail
  refine (HB.out _).mono ?_
  rintro r w4 ⟨rfl, hx4⟩
  have qc4 := (qc3.alloc s9 _).ext hx4 (by simp; omega)
  have qd4 := (qd.alloc s6 _).ext hx4 (by simp; omega)
  have qf := (C4.new w3 0 0 0 0 23).ext hx4 (by simp)
  have hxd := (hxc.alloc _).trans hx4
  have s10 : w3.heap.size < w4.heap.size := by have := hx4.size; simp at this; omega
  have s11 : w2.heap.size < w4.heap.size := by omega
  have s12 : w1.heap.size < w4.heap.size := by omega
  have n9 : ¬ w3.heap.size = w4.heap.size := by omega
  have n10 : ¬ w2.heap.size = w4.heap.size := by omega
  have n11 : ¬ w1.heap.size = w4.heap.size := by omega
  clear HB hx4 hxc qc3 qd a0 a1 a2 a3 a4 a5 a6 a7 b0 b1 b2 b3 b4 b5 b6 b7
  obtain ⟨c0, c1, c2, c3⟩ := qc4
  obtain ⟨d0, d1, d2, d3⟩ := qd4
  obtain ⟨f0, f1, f2, f3⟩ := qf
  go_wp2_with fail
  refine (awake5_any _).mono ?_
  rintro r w5 ⟨rfl, hx5⟩
  have pd := (C4.alloc (g := w2.heap.size) ⟨d0, d1, d2, d3⟩ s11 _).ext hx5 (by simp; omega)
  have pf := (C4.alloc (g := w3.heap.size) ⟨f0, f1, f2, f3⟩ s10 _).ext hx5 (by simp; omega)
  have px := (C4.new w4 0 0 0 0 23).ext hx5 (by simp)
  have hxe := (hxd.alloc _).trans hx5
  clear hx5 hxd c0 c1 c2 c3 d0 d1 d2 d3 f0 f1 f2 f3
  obtain ⟨d0, d1, d2, d3⟩ := pd
  obtain ⟨f0, f1, f2, f3⟩ := pf
  obtain ⟨g0, g1, g2, g3⟩ := px
  go_wp2_with fail
  go_ret
  exact ⟨rfl, hxe⟩
end Go.Proofs.Ytljleibhncidmaa
