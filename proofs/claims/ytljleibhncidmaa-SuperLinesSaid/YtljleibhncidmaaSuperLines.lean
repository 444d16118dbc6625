/- The line of a config that may be, and of one that may not, held against the document's. Conditions: those that each theorem names. -/
import Derived.Test.YtljleibhncidmaaSuperRef
import Derived.Test.YtljleibhncidmaaCfgView
import Derived.Lib.QuietBelow
namespace Go.Proofs.Ytljleibhncidmaa
open Go.ChangeShapes Go.WideShapes Go.ChangeAt Go.RowKit
set_option linter.unusedVariables false
set_option maxRecDepth 100000 in
set_option maxHeartbeats 2000000 in
theorem superLines_no (t s l b : Int) (w : World) (h : ¬ CfgOk t s l b) :
    Calls Try.prog 3 #[.agg #[.int .i64 t, .int .i64 s, .int .i64 l, .int .i64 b]] w fun e w' => e = .returned (.bool true) ∧ Ext w w' := by
  have HL := Lib.hid (fun W => line_no t s l b W h)
  have heq := fun W => eql_yes 0 0 0 0 0 0 0 0 W
  have q1 := fun (W : World) => right_no t s l b W h
  have q2 := fun (W : World) => rright_no t s l b W h
  have Q1 := Lib.hid q1
  have Q2 := Lib.hid q2
  clear q1 q2
  go_enter Try.func3, Try.ntmps3
  go_wp2_with fail
  refine (HL.out _).mono ?_
  rintro r w1 ⟨rfl, hx1⟩
  have p1 := ((C4.new w t s l b 23).ext hx1 (by simp)).alloc (by have := hx1.size; simp at this; omega) (.cells #[.int .u64 0, .int .u64 0, .int .u64 0, .int .u64 0, .int .u64 0, .int .u64 0, .int .u64 0, .int .u64 0] 26)
  have p3 := C8.new w1 0 0 0 0 0 0 0 0 26
  have hxa := (((Ext.refl w).alloc _).trans hx1).alloc (.cells #[.int .u64 0, .int .u64 0, .int .u64 0, .int .u64 0, .int .u64 0, .int .u64 0, .int .u64 0, .int .u64 0] 26)
  have s1 : w.heap.size < w1.heap.size := by have := hx1.size; simp at this; omega
  have s2 : w1.heap.size < (w1.alloc (.cells #[.int .u64 0, .int .u64 0, .int .u64 0, .int .u64 0, .int .u64 0, .int .u64 0, .int .u64 0, .int .u64 0] 26)).heap.size := by simp
  go_wp2_with fail
  generalize w1.alloc (.cells #[.int .u64 0, .int .u64 0, .int .u64 0, .int .u64 0, .int .u64 0, .int .u64 0, .int .u64 0, .int .u64 0] 26) = W2 at *
  clear hx1 HL
  have HP1 := Lib.hid p1
  have HP3 := Lib.hid p3
  clear p1 p3
  obtain ⟨c0, c1, c2, c3⟩ := HP1.out
  have d0 := fun d os => cell_regrown c0 d os
  have d1 := fun d os => cell_regrown c1 d os
  have d2 := fun d os => cell_regrown c2 d os
  have d3 := fun d os => cell_regrown c3 d os
  clear c0 c1 c2 c3
  refine wp_region_quiet_below (by kernel_rfl) (by kernel_rfl) ?_
  repeat (quiet_step (first
    | (with_reducible exact Calls.regrown_of (Q1.out _))
    | (with_reducible exact Calls.regrown_of (Q2.out _))))
  refine wpQuiet_nil ?_
  intro w2 hw'
  have hx2 : Ext W2 w2 := by
    obtain ⟨⟨dq, osq⟩, hw2⟩ := hw'
    rw [hw2]
    exact Ext.of (below_regrown W2 dq osq)
  clear hw'
  have HA1 := Lib.hid (HP1.out.ext hx2 (by omega))
  have HA3 := Lib.hid (HP3.out.ext hx2 s2)
  have hxb := hxa.trans hx2
  have s3 : w1.heap.size < w2.heap.size := Nat.lt_of_lt_of_le s2 hx2.size
  clear hxa d0 d1 d2 d3 hx2 Q1 HP1 HP3 s2
  clear W2
  obtain ⟨c0, c1, c2, c3⟩ := HA1.out
  go_wp2_with fail
  refine (Q2.out _).mono ?_
  rintro r w3 ⟨rfl, hx3⟩
  have p1 := HA1.out.ext hx3 (by omega)
  have p3 := HA3.out.ext hx3 s3
  have hxc := hxb.trans hx3
  have s4 : w1.heap.size < w3.heap.size := Nat.lt_of_lt_of_le s3 hx3.size
  clear HA1 HA3 hxb hx3 Q2 c0 c1 c2 c3 s3
  clear p1
  have HP3 := Lib.hid p3
  clear p3
  go_wp2_with fail
  refine (awake5_any _).mono ?_
  rintro r w4 ⟨rfl, hx4⟩
  obtain ⟨b0, b1, b2, b3, b4, b5, b6, b7⟩ := HP3.out.ext hx4 s4
  go_wp2_with fail
  go_ret
  exact ⟨rfl, hxc.trans hx4⟩
set_option maxRecDepth 100000 in
set_option maxHeartbeats 2000000 in
theorem superLines_yes (t s l b y0 y1 y2 y3 y4 y5 y6 y7 : Int) (w : World) (h : CfgOk t s l b)
    (HL : Hid (∀ W, Calls Try.prog 10 #[.agg #[.int .i64 t, .int .i64 s, .int .i64 l, .int .i64 b]] W fun e w' => e = .returned (.tuple #[.agg #[.int .u64 y0, .int .u64 y1, .int .u64 y2, .int .u64 y3, .int .u64 y4, .int .u64 y5, .int .u64 y6, .int .u64 y7], .int .i64 0]) ∧ Ext W w'))
    (HR : Hid (Reads (.agg #[.int .u64 y0, .int .u64 y1, .int .u64 y2, .int .u64 y3, .int .u64 y4, .int .u64 y5, .int .u64 y6, .int .u64 y7]) t s l b 0))
    (HW : Hid (∀ W, Calls Try.prog 14 #[.agg #[.int .i64 t, .int .i64 s, .int .i64 l, .int .i64 b]] W fun e w' => ∃ v, e = .returned v ∧ Row w' W.heap.size 24 .u64 v [y0, y1, y2, y3, y4, y5, y6, y7] ∧ Ext W w')) :
    Calls Try.prog 3 #[.agg #[.int .i64 t, .int .i64 s, .int .i64 l, .int .i64 b]] w fun e w' => e = .returned (.bool true) ∧ Ext w w' := by
  have heq := fun W => eqc_yes t s l b W
  have q1 := fun (W : World) => right_yes t s l b W h
  have q2 := fun (W : World) => rright_yes t s l b W h
  have Q1 := Lib.hid q1
  have Q2 := Lib.hid q2
  clear q1 q2
  go_enter Try.func3, Try.ntmps3
  go_wp2_with fail
  refine (HL.out _).mono ?_
  rintro r w1 ⟨rfl, hx1⟩
  have p1 := ((C4.new w t s l b 23).ext hx1 (by simp)).alloc (by have := hx1.size; simp at this; omega) (.cells #[.int .u64 y0, .int .u64 y1, .int .u64 y2, .int .u64 y3, .int .u64 y4, .int .u64 y5, .int .u64 y6, .int .u64 y7] 26)
  have p3 := C8.new w1 y0 y1 y2 y3 y4 y5 y6 y7 26
  have hxa := (((Ext.refl w).alloc _).trans hx1).alloc (.cells #[.int .u64 y0, .int .u64 y1, .int .u64 y2, .int .u64 y3, .int .u64 y4, .int .u64 y5, .int .u64 y6, .int .u64 y7] 26)
  have s1 : w.heap.size < w1.heap.size := by have := hx1.size; simp at this; omega
  have s2 : w1.heap.size < (w1.alloc (.cells #[.int .u64 y0, .int .u64 y1, .int .u64 y2, .int .u64 y3, .int .u64 y4, .int .u64 y5, .int .u64 y6, .int .u64 y7] 26)).heap.size := by simp
  go_wp2_with fail
  generalize w1.alloc (.cells #[.int .u64 y0, .int .u64 y1, .int .u64 y2, .int .u64 y3, .int .u64 y4, .int .u64 y5, .int .u64 y6, .int .u64 y7] 26) = W2 at *
  clear hx1 HL
  have HP1 := Lib.hid p1
  have HP3 := Lib.hid p3
  clear p1 p3
  obtain ⟨c0, c1, c2, c3⟩ := HP1.out
  have d0 := fun d os => cell_regrown c0 d os
  have d1 := fun d os => cell_regrown c1 d os
  have d2 := fun d os => cell_regrown c2 d os
  have d3 := fun d os => cell_regrown c3 d os
  clear c0 c1 c2 c3
  refine wp_region_quiet_below (by kernel_rfl) (by kernel_rfl) ?_
  repeat (quiet_step (first
    | (with_reducible exact Calls.regrown_of (Q1.out _))
    | (with_reducible exact Calls.regrown_of (Q2.out _))))
  refine wpQuiet_nil ?_
  intro w2 hw'
  have hx2 : Ext W2 w2 := by
    obtain ⟨⟨dq, osq⟩, hw2⟩ := hw'
    rw [hw2]
    exact Ext.of (below_regrown W2 dq osq)
  clear hw'
  have HA1 := Lib.hid (HP1.out.ext hx2 (by omega))
  have HA3 := Lib.hid (HP3.out.ext hx2 s2)
  have hxb := hxa.trans hx2
  have s3 : w1.heap.size < w2.heap.size := Nat.lt_of_lt_of_le s2 hx2.size
  clear hxa d0 d1 d2 d3 hx2 Q1 HP1 HP3 s2
  clear W2
  obtain ⟨c0, c1, c2, c3⟩ := HA1.out
  go_wp2_with fail
  refine (Q2.out _).mono ?_
  rintro r w3 ⟨rfl, hx3⟩
  have p1 := HA1.out.ext hx3 (by omega)
  have p3 := HA3.out.ext hx3 s3
  have hxc := hxb.trans hx3
  have s4 : w1.heap.size < w3.heap.size := Nat.lt_of_lt_of_le s3 hx3.size
  clear HA1 HA3 hxb hx3 Q2 c0 c1 c2 c3 s3
  have HP3 := Lib.hid p3
  have HP1 := Lib.hid p1
  clear p3
  obtain ⟨c0, c1, c2, c3⟩ := p1
  go_wp2_with fail
  refine (HW.out _).mono ?_
  rintro r w4 ⟨v, rfl, hrow, hx4⟩
  have HQ1 := Lib.hid (HP1.out.ext hx4 (by omega))
  have HQ3 := Lib.hid (HP3.out.ext hx4 s4)
  have hxd := hxc.trans hx4
  have s5 : w1.heap.size < w4.heap.size := Nat.lt_of_lt_of_le s4 hx4.size
  clear HW HP1 HP3 hxc c0 c1 c2 c3 hx4 s4
  obtain ⟨g, cg, rfl, hg, hgl, hw⟩ := hrow.at_ (n := 8) rfl (by omega)
  have HWc := Lib.hid hw
  clear hw hrow hg
  obtain ⟨YS, HYS⟩ : ∃ YS, Hid ([y0, y1, y2, y3, y4, y5, y6, y7] = YS) := ⟨_, Lib.hid rfl⟩
  rw [HYS.out] at HWc
  go_wp2_with fail
  go_loopw [6] (fun i wr => ∃ k : Nat, k ≤ 8 ∧ i = .int .i64 k ∧ Ext w4 wr) (fun i _ => 8 - (intOf i).toNat)
  case atStart => exact ⟨0, by omega, rfl, Ext.refl _⟩
  case round =>
    obtain ⟨k, hk8, rfl, hxr⟩ := hrel
    have hszr : w4.heap.size ≤ wr.heap.size := hxr.size
    by_cases hlt : k < 8
    · have hl := c8_at (HQ3.out.ext hxr s5) k hlt
      rw [HYS.out] at hl
      have hw : wr.cell? ⟨g, k, none⟩ = some (.int .u64 (YS.getD k 0)) := (Below.cell hxr.below (by exact hgl)).trans (HWc.out k hlt)
      generalize YS.getD k 0 = a at hw hl
      have hk0 : (0 : Int) ≤ (k : Int) := by omega
      have hk1 : (k : Int) < 8 := by omega
      go_wp2_with fail
      go_quiet (fail)
      go_wp2_with fail
      go_roundw
      case rel => exact ⟨k + 1, by omega, by go_num, hxr.drewN _⟩
      case measure => simp [intOf]; omega
    · have HQ1 := Lib.hid (HQ1.out.ext hxr (by omega))
      have HQ3 := Lib.hid (HQ3.out.ext hxr s5)
      have hxe := hxd.trans hxr
      clear HWc hxd hxr
      have s6 : w1.heap.size < wr.heap.size := by omega
      generalize wr = w5 at *
      obtain ⟨b0, b1, b2, b3, b4, b5, b6, b7⟩ := HQ3.out
      go_wp2_with fail
      refine (HR.out _).mono ?_
      rintro r w6 ⟨rfl, hx6⟩
      have p1 := HQ1.out.ext hx6 (by omega)
      have hxf := hxe.trans hx6
      have s7 : w1.heap.size < w6.heap.size := Nat.lt_of_lt_of_le s6 hx6.size
      clear b0 b1 b2 b3 b4 b5 b6 b7 hx6 hxe HQ1 HQ3
      go_wp2_with fail
      refine (awake5_any _).mono ?_
      rintro r w7 ⟨rfl, hx7⟩
      obtain ⟨c0, c1, c2, c3⟩ := (p1.alloc (by omega) _).ext hx7 (by simp; omega)
      obtain ⟨d0, d1, d2, d3⟩ := (C4.new w6 t s l b 23).ext hx7 (by simp)
      go_wp2_with fail
      go_ret
      exact ⟨rfl, (hxf.alloc _).trans hx7⟩
end Go.Proofs.Ytljleibhncidmaa
