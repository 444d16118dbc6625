/- A config's line of which one bit was turned, word by word. Conditions: none. -/
import Derived.Test.YtljleibhncidmaaSuper5
import Derived.Test.YtljleibhncidmaaSuperMath
import Derived.Test.YtljleibhncidmaaCfgView
namespace Go.Proofs.Ytljleibhncidmaa
open Go.ChangeShapes Go.WideShapes Go.ChangeAt Go.RowKit
set_option linter.unusedVariables false
set_option maxRecDepth 100000 in
set_option maxHeartbeats 2000000 in
theorem superTurns_0 (t s l b y0 y1 y2 y3 y4 y5 y6 y7 x word bit : Int) (w : World) (hw0 : 0 ≤ word) (hw1 : word < 256) (hb0 : 0 ≤ bit) (hb1 : bit < 256) (hk : word % 8 = 0) (hyk : 0 ≤ y0 ∧ y0 < 18446744073709551616)
    (HL : Hid (∀ W, Calls Try.prog 10 #[.agg #[.int .i64 t, .int .i64 s, .int .i64 l, .int .i64 b]] W fun e w' => e = .returned (.tuple #[.agg #[.int .u64 y0, .int .u64 y1, .int .u64 y2, .int .u64 y3, .int .u64 y4, .int .u64 y5, .int .u64 y6, .int .u64 y7], .int .i64 0]) ∧ Ext W w'))
    (HX : Hid (bits .xor .u64 y0 (IntKind.u64.wrap (2 ^ (bit % 64).toNat)) = x)) (hRm : Reads (.agg #[.int .u64 x, .int .u64 y1, .int .u64 y2, .int .u64 y3, .int .u64 y4, .int .u64 y5, .int .u64 y6, .int .u64 y7]) 0 0 0 0 8) (hRl : Reads (.agg #[.int .u64 y0, .int .u64 y1, .int .u64 y2, .int .u64 y3, .int .u64 y4, .int .u64 y5, .int .u64 y6, .int .u64 y7]) t s l b 0) :
    Calls Try.prog 5 #[.agg #[.int .i64 t, .int .i64 s, .int .i64 l, .int .i64 b], .int .u8 word, .int .u8 bit] w fun e w' => e = .returned (.bool true) ∧ Ext w w' := by
  have HRm := Lib.hid hRm
  have HB1 := Lib.hid (fun W => both_second _ _ _ _ _ _ _ _ _ _ _ _ _ _ _ _ _ _ _ _ _ _ _ _ W hRm hRl)
  have HB2 := Lib.hid (fun W => both_first _ _ _ _ _ _ _ _ _ _ _ _ _ _ _ _ _ _ _ _ _ _ _ _ W hRl hRm)
  unfold Reads at HRm
  clear hRm hRl
  have heq := fun W => eqc_yes t s l b W
  have hz6 : bit % 64 < 64 := by omega
  have hz7 : 0 ≤ bit % 64 := by omega
  obtain ⟨hy0, hy1⟩ := hyk
  go_enter Try.func5, Try.ntmps5
  go_wp2_with fail
  refine (HL.out _).mono ?_
  rintro r w1 ⟨rfl, hx⟩
  have q3 := (C4.new w t s l b 23).ext hx (by simp)
  have hz : w.heap.size < w1.heap.size := by have := hx.size; simp at this; omega
  have hn : ¬ w.heap.size = w1.heap.size := by omega
  have hxa := ((Ext.refl w).alloc _).trans hx
  clear hx HL
  go_wp2_with fail
  rw [HX.out]
  obtain ⟨W2, HW2⟩ : ∃ W2, Hid ((w1.alloc (.cells #[.int .u64 y0, .int .u64 y1, .int .u64 y2, .int .u64 y3, .int .u64 y4, .int .u64 y5, .int .u64 y6, .int .u64 y7] 26)).alloc (.cells #[.int .u64 x, .int .u64 y1, .int .u64 y2, .int .u64 y3, .int .u64 y4, .int .u64 y5, .int .u64 y6, .int .u64 y7] 26) = W2) := ⟨_, Lib.hid rfl⟩
  rw [HW2.out]
  have q7 : C8 W2 w1.heap.size y0 y1 y2 y3 y4 y5 y6 y7 := by
    rw [← HW2.out]
    exact (C8.new w1 y0 y1 y2 y3 y4 y5 y6 y7 _).alloc (by simp) _
  have q9 : C8 W2 (w1.heap.size + 1) x y1 y2 y3 y4 y5 y6 y7 := by
    rw [← HW2.out]
    have h := C8.new (w1.alloc (.cells #[.int .u64 y0, .int .u64 y1, .int .u64 y2, .int .u64 y3, .int .u64 y4, .int .u64 y5, .int .u64 y6, .int .u64 y7] 26)) x y1 y2 y3 y4 y5 y6 y7 26
    simpa using h
  have q3' : C4 W2 w.heap.size t s l b := by
    rw [← HW2.out]
    exact (q3.alloc hz _).alloc (by simp; omega) _
  have hsz : w1.heap.size + 1 < W2.heap.size := by rw [← HW2.out]; simp
  have hxb : Ext w W2 := by rw [← HW2.out]; exact (hxa.alloc _).alloc _
  clear HW2 q3 hxa hk HX hy0 hy1 hz6 hz7 hw0 hw1 hb0 hb1
  refine (HRm.out _).mono ?_
  rintro r w2 ⟨rfl, hx2⟩
  have p7 := q7.ext hx2 (by omega)
  have p9 := q9.ext hx2 hsz
  have p3 := q3'.ext hx2 (by omega)
  have hxc := hxb.trans hx2
  have hz2 : w1.heap.size + 1 < w2.heap.size := Nat.lt_of_lt_of_le hsz hx2.size
  clear HRm q7 q9 q3' hx2 hxb hsz
  clear W2
  obtain ⟨c0, c1, c2, c3, c4, c5, c6, c7⟩ := p7
  obtain ⟨m0, m1, m2, m3, m4, m5, m6, m7⟩ := p9
  have hz3 : w1.heap.size < w2.heap.size := by omega
  have hz4 : w.heap.size < w2.heap.size := by omega
  have hn2 : ¬ w1.heap.size + 1 = w2.heap.size := by omega
  have hn3 : ¬ w1.heap.size = w2.heap.size := by omega
  go_wp2_with fail
  refine (HB1.out _).mono ?_
  rintro r w3 ⟨rfl, hx3⟩
  have p7 := (C8.alloc (g := w1.heap.size) ⟨c0, c1, c2, c3, c4, c5, c6, c7⟩ hz3 _).ext hx3 (by simp; omega)
  have p9 := (C8.alloc (g := w1.heap.size + 1) ⟨m0, m1, m2, m3, m4, m5, m6, m7⟩ hz2 _).ext hx3 (by simp; omega)
  have r3 := (p3.alloc hz4 _).ext hx3 (by simp; omega)
  have hxd := (hxc.alloc _).trans hx3
  have hs3 := hx3.size
  simp at hs3
  clear c0 c1 c2 c3 c4 c5 c6 c7 m0 m1 m2 m3 m4 m5 m6 m7 p3 hx3 hxc HB1
  obtain ⟨c0, c1, c2, c3, c4, c5, c6, c7⟩ := p7
  obtain ⟨m0, m1, m2, m3, m4, m5, m6, m7⟩ := p9
  have hz5 : w1.heap.size + 1 < w3.heap.size := by omega
  have hz6 : w1.heap.size < w3.heap.size := by omega
  have hz7 : w.heap.size < w3.heap.size := by omega
  have hn4 : ¬ w1.heap.size + 1 = w3.heap.size := by omega
  have hn5 : ¬ w1.heap.size = w3.heap.size := by omega
  clear hs3 hz2 hz3 hz4 hn2 hn3
  go_wp2_with fail
  refine (HB2.out _).mono ?_
  rintro r w4 ⟨rfl, hx4⟩
  have u3 := (r3.alloc hz7 _).ext hx4 (by simp; omega)
  have u12 := (C4.new w3 t s l b 23).ext hx4 (by simp)
  have hxe := (hxd.alloc _).trans hx4
  have hs4 := hx4.size
  simp at hs4
  clear c0 c1 c2 c3 c4 c5 c6 c7 m0 m1 m2 m3 m4 m5 m6 m7 r3 hx4 hxd HB2
  go_wp2_with fail
  refine (awake5_any _).mono ?_
  rintro r w5 ⟨rfl, hx5⟩
  have v3 := (u3.alloc (by omega) _).ext hx5 (by simp; omega)
  have v12 := (u12.alloc (by omega) _).ext hx5 (by simp; omega)
  have v15 := (C4.new w4 t s l b 23).ext hx5 (by simp)
  have hxf := (hxe.alloc _).trans hx5
  clear u3 u12 hx5 hxe hs4
  obtain ⟨c0, c1, c2, c3⟩ := v3
  obtain ⟨d0, d1, d2, d3⟩ := v12
  obtain ⟨e0, e1, e2, e3⟩ := v15
  go_wp2_with fail
  go_ret
  exact ⟨rfl, hxf⟩
set_option maxRecDepth 100000 in
set_option maxHeartbeats 2000000 in
theorem superTurns_1 (t s l b y0 y1 y2 y3 y4 y5 y6 y7 x word bit : Int) (w : World) (hw0 : 0 ≤ word) (hw1 : word < 256) (hb0 : 0 ≤ bit) (hb1 : bit < 256) (hk : word % 8 = 1) (hyk : 0 ≤ y1 ∧ y1 < 18446744073709551616)
    (HL : Hid (∀ W, Calls Try.prog 10 #[.agg #[.int .i64 t, .int .i64 s, .int .i64 l, .int .i64 b]] W fun e w' => e = .returned (.tuple #[.agg #[.int .u64 y0, .int .u64 y1, .int .u64 y2, .int .u64 y3, .int .u64 y4, .int .u64 y5, .int .u64 y6, .int .u64 y7], .int .i64 0]) ∧ Ext W w'))
    (HX : Hid (bits .xor .u64 y1 (IntKind.u64.wrap (2 ^ (bit % 64).toNat)) = x)) (hRm : Reads (.agg #[.int .u64 y0, .int .u64 x, .int .u64 y2, .int .u64 y3, .int .u64 y4, .int .u64 y5, .int .u64 y6, .int .u64 y7]) 0 0 0 0 8) (hRl : Reads (.agg #[.int .u64 y0, .int .u64 y1, .int .u64 y2, .int .u64 y3, .int .u64 y4, .int .u64 y5, .int .u64 y6, .int .u64 y7]) t s l b 0) :
    Calls Try.prog 5 #[.agg #[.int .i64 t, .int .i64 s, .int .i64 l, .int .i64 b], .int .u8 word, .int .u8 bit] w fun e w' => e = .returned (.bool true) ∧ Ext w w' := by
  have HRm := Lib.hid hRm
  have HB1 := Lib.hid (fun W => both_second _ _ _ _ _ _ _ _ _ _ _ _ _ _ _ _ _ _ _ _ _ _ _ _ W hRm hRl)
  have HB2 := Lib.hid (fun W => both_first _ _ _ _ _ _ _ _ _ _ _ _ _ _ _ _ _ _ _ _ _ _ _ _ W hRl hRm)
  unfold Reads at HRm
  clear hRm hRl
  have heq := fun W => eqc_yes t s l b W
  have hz6 : bit % 64 < 64 := by omega
  have hz7 : 0 ≤ bit % 64 := by omega
  obtain ⟨hy0, hy1⟩ := hyk
  go_enter Try.func5, Try.ntmps5
  go_wp2_with fail
  refine (HL.out _).mono ?_
  rintro r w1 ⟨rfl, hx⟩
  have q3 := (C4.new w t s l b 23).ext hx (by simp)
  have hz : w.heap.size < w1.heap.size := by have := hx.size; simp at this; omega
  have hn : ¬ w.heap.size = w1.heap.size := by omega
  have hxa := ((Ext.refl w).alloc _).trans hx
  clear hx HL
  go_wp2_with fail
  rw [HX.out]
  obtain ⟨W2, HW2⟩ : ∃ W2, Hid ((w1.alloc (.cells #[.int .u64 y0, .int .u64 y1, .int .u64 y2, .int .u64 y3, .int .u64 y4, .int .u64 y5, .int .u64 y6, .int .u64 y7] 26)).alloc (.cells #[.int .u64 y0, .int .u64 x, .int .u64 y2, .int .u64 y3, .int .u64 y4, .int .u64 y5, .int .u64 y6, .int .u64 y7] 26) = W2) := ⟨_, Lib.hid rfl⟩
  rw [HW2.out]
  have q7 : C8 W2 w1.heap.size y0 y1 y2 y3 y4 y5 y6 y7 := by
    rw [← HW2.out]
    exact (C8.new w1 y0 y1 y2 y3 y4 y5 y6 y7 _).alloc (by simp) _
  have q9 : C8 W2 (w1.heap.size + 1) y0 x y2 y3 y4 y5 y6 y7 := by
    rw [← HW2.out]
    have h := C8.new (w1.alloc (.cells #[.int .u64 y0, .int .u64 y1, .int .u64 y2, .int .u64 y3, .int .u64 y4, .int .u64 y5, .int .u64 y6, .int .u64 y7] 26)) y0 x y2 y3 y4 y5 y6 y7 26
    simpa using h
  have q3' : C4 W2 w.heap.size t s l b := by
    rw [← HW2.out]
    exact (q3.alloc hz _).alloc (by simp; omega) _
  have hsz : w1.heap.size + 1 < W2.heap.size := by rw [← HW2.out]; simp
  have hxb : Ext w W2 := by rw [← HW2.out]; exact (hxa.alloc _).alloc _
  clear HW2 q3 hxa hk HX hy0 hy1 hz6 hz7 hw0 hw1 hb0 hb1
  refine (HRm.out _).mono ?_
  rintro r w2 ⟨rfl, hx2⟩
  have p7 := q7.ext hx2 (by omega)
  have p9 := q9.ext hx2 hsz
  have p3 := q3'.ext hx2 (by omega)
  have hxc := hxb.trans hx2
  have hz2 : w1.heap.size + 1 < w2.heap.size := Nat.lt_of_lt_of_le hsz hx2.size
  clear HRm q7 q9 q3' hx2 hxb hsz
  clear W2
  obtain ⟨c0, c1, c2, c3, c4, c5, c6, c7⟩ := p7
  obtain ⟨m0, m1, m2, m3, m4, m5, m6, m7⟩ := p9
  have hz3 : w1.heap.size < w2.heap.size := by omega
  have hz4 : w.heap.size < w2.heap.size := by omega
  have hn2 : ¬ w1.heap.size + 1 = w2.heap.size := by omega
  have hn3 : ¬ w1.heap.size = w2.heap.size := by omega
  go_wp2_with fail
  refine (HB1.out _).mono ?_
  rintro r w3 ⟨rfl, hx3⟩
  have p7 := (C8.alloc (g := w1.heap.size) ⟨c0, c1, c2, c3, c4, c5, c6, c7⟩ hz3 _).ext hx3 (by simp; omega)
  have p9 := (C8.alloc (g := w1.heap.size + 1) ⟨m0, m1, m2, m3, m4, m5, m6, m7⟩ hz2 _).ext hx3 (by simp; omega)
  have r3 := (p3.alloc hz4 _).ext hx3 (by simp; omega)
  have hxd := (hxc.alloc _).trans hx3
  have hs3 := hx3.size
  simp at hs3
  clear c0 c1 c2 c3 c4 c5 c6 c7 m0 m1 m2 m3 m4 m5 m6 m7 p3 hx3 hxc HB1
  obtain ⟨c0, c1, c2, c3, c4, c5, c6, c7⟩ := p7
  obtain ⟨m0, m1, m2, m3, m4, m5, m6, m7⟩ := p9
  have hz5 : w1.heap.size + 1 < w3.heap.size := by omega
  have hz6 : w1.heap.size < w3.heap.size := by omega
  have hz7 : w.heap.size < w3.heap.size := by omega
  have hn4 : ¬ w1.heap.size + 1 = w3.heap.size := by omega
  have hn5 : ¬ w1.heap.size = w3.heap.size := by omega
  clear hs3 hz2 hz3 hz4 hn2 hn3
  go_wp2_with fail
  refine (HB2.out _).mono ?_
  rintro r w4 ⟨rfl, hx4⟩
  have u3 := (r3.alloc hz7 _).ext hx4 (by simp; omega)
  have u12 := (C4.new w3 t s l b 23).ext hx4 (by simp)
  have hxe := (hxd.alloc _).trans hx4
  have hs4 := hx4.size
  simp at hs4
  clear c0 c1 c2 c3 c4 c5 c6 c7 m0 m1 m2 m3 m4 m5 m6 m7 r3 hx4 hxd HB2
  go_wp2_with fail
  refine (awake5_any _).mono ?_
  rintro r w5 ⟨rfl, hx5⟩
  have v3 := (u3.alloc (by omega) _).ext hx5 (by simp; omega)
  have v12 := (u12.alloc (by omega) _).ext hx5 (by simp; omega)
  have v15 := (C4.new w4 t s l b 23).ext hx5 (by simp)
  have hxf := (hxe.alloc _).trans hx5
  clear u3 u12 hx5 hxe hs4
  obtain ⟨c0, c1, c2, c3⟩ := v3
  obtain ⟨d0, d1, d2, d3⟩ := v12
  obtain ⟨e0, e1, e2, e3⟩ := v15
  go_wp2_with fail
  go_ret
  exact ⟨rfl, hxf⟩
set_option maxRecDepth 100000 in
set_option maxHeartbeats 2000000 in
theorem superTurns_2 (t s l b y0 y1 y2 y3 y4 y5 y6 y7 x word bit : Int) (w : World) (hw0 : 0 ≤ word) (hw1 : word < 256) (hb0 : 0 ≤ bit) (hb1 : bit < 256) (hk : word % 8 = 2) (hyk : 0 ≤ y2 ∧ y2 < 18446744073709551616)
    (HL : Hid (∀ W, Calls Try.prog 10 #[.agg #[.int .i64 t, .int .i64 s, .int .i64 l, .int .i64 b]] W fun e w' => e = .returned (.tuple #[.agg #[.int .u64 y0, .int .u64 y1, .int .u64 y2, .int .u64 y3, .int .u64 y4, .int .u64 y5, .int .u64 y6, .int .u64 y7], .int .i64 0]) ∧ Ext W w'))
    (HX : Hid (bits .xor .u64 y2 (IntKind.u64.wrap (2 ^ (bit % 64).toNat)) = x)) (hRm : Reads (.agg #[.int .u64 y0, .int .u64 y1, .int .u64 x, .int .u64 y3, .int .u64 y4, .int .u64 y5, .int .u64 y6, .int .u64 y7]) 0 0 0 0 8) (hRl : Reads (.agg #[.int .u64 y0, .int .u64 y1, .int .u64 y2, .int .u64 y3, .int .u64 y4, .int .u64 y5, .int .u64 y6, .int .u64 y7]) t s l b 0) :
    Calls Try.prog 5 #[.agg #[.int .i64 t, .int .i64 s, .int .i64 l, .int .i64 b], .int .u8 word, .int .u8 bit] w fun e w' => e = .returned (.bool true) ∧ Ext w w' := by
  have HRm := Lib.hid hRm
  have HB1 := Lib.hid (fun W => both_second _ _ _ _ _ _ _ _ _ _ _ _ _ _ _ _ _ _ _ _ _ _ _ _ W hRm hRl)
  have HB2 := Lib.hid (fun W => both_first _ _ _ _ _ _ _ _ _ _ _ _ _ _ _ _ _ _ _ _ _ _ _ _ W hRl hRm)
  unfold Reads at HRm
  clear hRm hRl
  have heq := fun W => eqc_yes t s l b W
  have hz6 : bit % 64 < 64 := by omega
  have hz7 : 0 ≤ bit % 64 := by omega
  obtain ⟨hy0, hy1⟩ := hyk
  go_enter Try.func5, Try.ntmps5
  go_wp2_with fail
  refine (HL.out _).mono ?_
  rintro r w1 ⟨rfl, hx⟩
  have q3 := (C4.new w t s l b 23).ext hx (by simp)
  have hz : w.heap.size < w1.heap.size := by have := hx.size; simp at this; omega
  have hn : ¬ w.heap.size = w1.heap.size := by omega
  have hxa := ((Ext.refl w).alloc _).trans hx
  clear hx HL
  go_wp2_with fail
  rw [HX.out]
  obtain ⟨W2, HW2⟩ : ∃ W2, Hid ((w1.alloc (.cells #[.int .u64 y0, .int .u64 y1, .int .u64 y2, .int .u64 y3, .int .u64 y4, .int .u64 y5, .int .u64 y6, .int .u64 y7] 26)).alloc (.cells #[.int .u64 y0, .int .u64 y1, .int .u64 x, .int .u64 y3, .int .u64 y4, .int .u64 y5, .int .u64 y6, .int .u64 y7] 26) = W2) := ⟨_, Lib.hid rfl⟩
  rw [HW2.out]
  have q7 : C8 W2 w1.heap.size y0 y1 y2 y3 y4 y5 y6 y7 := by
    rw [← HW2.out]
    exact (C8.new w1 y0 y1 y2 y3 y4 y5 y6 y7 _).alloc (by simp) _
  have q9 : C8 W2 (w1.heap.size + 1) y0 y1 x y3 y4 y5 y6 y7 := by
    rw [← HW2.out]
    have h := C8.new (w1.alloc (.cells #[.int .u64 y0, .int .u64 y1, .int .u64 y2, .int .u64 y3, .int .u64 y4, .int .u64 y5, .int .u64 y6, .int .u64 y7] 26)) y0 y1 x y3 y4 y5 y6 y7 26
    simpa using h
  have q3' : C4 W2 w.heap.size t s l b := by
    rw [← HW2.out]
    exact (q3.alloc hz _).alloc (by simp; omega) _
  have hsz : w1.heap.size + 1 < W2.heap.size := by rw [← HW2.out]; simp
  have hxb : Ext w W2 := by rw [← HW2.out]; exact (hxa.alloc _).alloc _
  clear HW2 q3 hxa hk HX hy0 hy1 hz6 hz7 hw0 hw1 hb0 hb1
  refine (HRm.out _).mono ?_
  rintro r w2 ⟨rfl, hx2⟩
  have p7 := q7.ext hx2 (by omega)
  have p9 := q9.ext hx2 hsz
  have p3 := q3'.ext hx2 (by omega)
  have hxc := hxb.trans hx2
  have hz2 : w1.heap.size + 1 < w2.heap.size := Nat.lt_of_lt_of_le hsz hx2.size
  clear HRm q7 q9 q3' hx2 hxb hsz
  clear W2
  obtain ⟨c0, c1, c2, c3, c4, c5, c6, c7⟩ := p7
  obtain ⟨m0, m1, m2, m3, m4, m5, m6, m7⟩ := p9
  have hz3 : w1.heap.size < w2.heap.size := by omega
  have hz4 : w.heap.size < w2.heap.size := by omega
  have hn2 : ¬ w1.heap.size + 1 = w2.heap.size := by omega
  have hn3 : ¬ w1.heap.size = w2.heap.size := by omega
  go_wp2_with fail
  refine (HB1.out _).mono ?_
  rintro r w3 ⟨rfl, hx3⟩
  have p7 := (C8.alloc (g := w1.heap.size) ⟨c0, c1, c2, c3, c4, c5, c6, c7⟩ hz3 _).ext hx3 (by simp; omega)
  have p9 := (C8.alloc (g := w1.heap.size + 1) ⟨m0, m1, m2, m3, m4, m5, m6, m7⟩ hz2 _).ext hx3 (by simp; omega)
  have r3 := (p3.alloc hz4 _).ext hx3 (by simp; omega)
  have hxd := (hxc.alloc _).trans hx3
  have hs3 := hx3.size
  simp at hs3
  clear c0 c1 c2 c3 c4 c5 c6 c7 m0 m1 m2 m3 m4 m5 m6 m7 p3 hx3 hxc HB1
  obtain ⟨c0, c1, c2, c3, c4, c5, c6, c7⟩ := p7
  obtain ⟨m0, m1, m2, m3, m4, m5, m6, m7⟩ := p9
  have hz5 : w1.heap.size + 1 < w3.heap.size := by omega
  have hz6 : w1.heap.size < w3.heap.size := by omega
  have hz7 : w.heap.size < w3.heap.size := by omega
  have hn4 : ¬ w1.heap.size + 1 = w3.heap.size := by omega
  have hn5 : ¬ w1.heap.size = w3.heap.size := by omega
  clear hs3 hz2 hz3 hz4 hn2 hn3
  go_wp2_with fail
  refine (HB2.out _).mono ?_
  rintro r w4 ⟨rfl, hx4⟩
  have u3 := (r3.alloc hz7 _).ext hx4 (by simp; omega)
  have u12 := (C4.new w3 t s l b 23).ext hx4 (by simp)
  have hxe := (hxd.alloc _).trans hx4
  have hs4 := hx4.size
  simp at hs4
  clear c0 c1 c2 c3 c4 c5 c6 c7 m0 m1 m2 m3 m4 m5 m6 m7 r3 hx4 hxd HB2
  go_wp2_with fail
  refine (awake5_any _).mono ?_
  rintro r w5 ⟨rfl, hx5⟩
  have v3 := (u3.alloc (by omega) _).ext hx5 (by simp; omega)
  have v12 := (u12.alloc (by omega) _).ext hx5 (by simp; omega)
  have v15 := (C4.new w4 t s l b 23).ext hx5 (by simp)
  have hxf := (hxe.alloc _).trans hx5
  clear u3 u12 hx5 hxe hs4
  obtain ⟨c0, c1, c2, c3⟩ := v3
  obtain ⟨d0, d1, d2, d3⟩ := v12
  obtain ⟨e0, e1, e2, e3⟩ := v15
  go_wp2_with fail
  go_ret
  exact ⟨rfl, hxf⟩
set_option maxRecDepth 100000 in
set_option maxHeartbeats 2000000 in
theorem superTurns_3 (t s l b y0 y1 y2 y3 y4 y5 y6 y7 x word bit : Int) (w : World) (hw0 : 0 ≤ word) (hw1 : word < 256) (hb0 : 0 ≤ bit) (hb1 : bit < 256) (hk : word % 8 = 3) (hyk : 0 ≤ y3 ∧ y3 < 18446744073709551616)
    (HL : Hid (∀ W, Calls Try.prog 10 #[.agg #[.int .i64 t, .int .i64 s, .int .i64 l, .int .i64 b]] W fun e w' => e = .returned (.tuple #[.agg #[.int .u64 y0, .int .u64 y1, .int .u64 y2, .int .u64 y3, .int .u64 y4, .int .u64 y5, .int .u64 y6, .int .u64 y7], .int .i64 0]) ∧ Ext W w'))
    (HX : Hid (bits .xor .u64 y3 (IntKind.u64.wrap (2 ^ (bit % 64).toNat)) = x)) (hRm : Reads (.agg #[.int .u64 y0, .int .u64 y1, .int .u64 y2, .int .u64 x, .int .u64 y4, .int .u64 y5, .int .u64 y6, .int .u64 y7]) 0 0 0 0 8) (hRl : Reads (.agg #[.int .u64 y0, .int .u64 y1, .int .u64 y2, .int .u64 y3, .int .u64 y4, .int .u64 y5, .int .u64 y6, .int .u64 y7]) t s l b 0) :
    Calls Try.prog 5 #[.agg #[.int .i64 t, .int .i64 s, .int .i64 l, .int .i64 b], .int .u8 word, .int .u8 bit] w fun e w' => e = .returned (.bool true) ∧ Ext w w' := by
  have HRm := Lib.hid hRm
  have HB1 := Lib.hid (fun W => both_second _ _ _ _ _ _ _ _ _ _ _ _ _ _ _ _ _ _ _ _ _ _ _ _ W hRm hRl)
  have HB2 := Lib.hid (fun W => both_first _ _ _ _ _ _ _ _ _ _ _ _ _ _ _ _ _ _ _ _ _ _ _ _ W hRl hRm)
  unfold Reads at HRm
  clear hRm hRl
  have heq := fun W => eqc_yes t s l b W
  have hz6 : bit % 64 < 64 := by omega
  have hz7 : 0 ≤ bit % 64 := by omega
  obtain ⟨hy0, hy1⟩ := hyk
  go_enter Try.func5, Try.ntmps5
  go_wp2_with fail
  refine (HL.out _).mono ?_
  rintro r w1 ⟨rfl, hx⟩
  have q3 := (C4.new w t s l b 23).ext hx (by simp)
  have hz : w.heap.size < w1.heap.size := by have := hx.size; simp at this; omega
  have hn : ¬ w.heap.size = w1.heap.size := by omega
  have hxa := ((Ext.refl w).alloc _).trans hx
  clear hx HL
  go_wp2_with fail
  rw [HX.out]
  obtain ⟨W2, HW2⟩ : ∃ W2, Hid ((w1.alloc (.cells #[.int .u64 y0, .int .u64 y1, .int .u64 y2, .int .u64 y3, .int .u64 y4, .int .u64 y5, .int .u64 y6, .int .u64 y7] 26)).alloc (.cells #[.int .u64 y0, .int .u64 y1, .int .u64 y2, .int .u64 x, .int .u64 y4, .int .u64 y5, .int .u64 y6, .int .u64 y7] 26) = W2) := ⟨_, Lib.hid rfl⟩
  rw [HW2.out]
  have q7 : C8 W2 w1.heap.size y0 y1 y2 y3 y4 y5 y6 y7 := by
    rw [← HW2.out]
    exact (C8.new w1 y0 y1 y2 y3 y4 y5 y6 y7 _).alloc (by simp) _
  have q9 : C8 W2 (w1.heap.size + 1) y0 y1 y2 x y4 y5 y6 y7 := by
    rw [← HW2.out]
    have h := C8.new (w1.alloc (.cells #[.int .u64 y0, .int .u64 y1, .int .u64 y2, .int .u64 y3, .int .u64 y4, .int .u64 y5, .int .u64 y6, .int .u64 y7] 26)) y0 y1 y2 x y4 y5 y6 y7 26
    simpa using h
  have q3' : C4 W2 w.heap.size t s l b := by
    rw [← HW2.out]
    exact (q3.alloc hz _).alloc (by simp; omega) _
  have hsz : w1.heap.size + 1 < W2.heap.size := by rw [← HW2.out]; simp
  have hxb : Ext w W2 := by rw [← HW2.out]; exact (hxa.alloc _).alloc _
  clear HW2 q3 hxa hk HX hy0 hy1 hz6 hz7 hw0 hw1 hb0 hb1
  refine (HRm.out _).mono ?_
  rintro r w2 ⟨rfl, hx2⟩
  have p7 := q7.ext hx2 (by omega)
  have p9 := q9.ext hx2 hsz
  have p3 := q3'.ext hx2 (by omega)
  have hxc := hxb.trans hx2
  have hz2 : w1.heap.size + 1 < w2.heap.size := Nat.lt_of_lt_of_le hsz hx2.size
  clear HRm q7 q9 q3' hx2 hxb hsz
  clear W2
  obtain ⟨c0, c1, c2, c3, c4, c5, c6, c7⟩ := p7
  obtain ⟨m0, m1, m2, m3, m4, m5, m6, m7⟩ := p9
  have hz3 : w1.heap.size < w2.heap.size := by omega
  have hz4 : w.heap.size < w2.heap.size := by omega
  have hn2 : ¬ w1.heap.size + 1 = w2.heap.size := by omega
  have hn3 : ¬ w1.heap.size = w2.heap.size := by omega
  go_wp2_with fail
  refine (HB1.out _).mono ?_
  rintro r w3 ⟨rfl, hx3⟩
  have p7 := (C8.alloc (g := w1.heap.size) ⟨c0, c1, c2, c3, c4, c5, c6, c7⟩ hz3 _).ext hx3 (by simp; omega)
  have p9 := (C8.alloc (g := w1.heap.size + 1) ⟨m0, m1, m2, m3, m4, m5, m6, m7⟩ hz2 _).ext hx3 (by simp; omega)
  have r3 := (p3.alloc hz4 _).ext hx3 (by simp; omega)
  have hxd := (hxc.alloc _).trans hx3
  have hs3 := hx3.size
  simp at hs3
  clear c0 c1 c2 c3 c4 c5 c6 c7 m0 m1 m2 m3 m4 m5 m6 m7 p3 hx3 hxc HB1
  obtain ⟨c0, c1, c2, c3, c4, c5, c6, c7⟩ := p7
  obtain ⟨m0, m1, m2, m3, m4, m5, m6, m7⟩ := p9
  have hz5 : w1.heap.size + 1 < w3.heap.size := by omega
  have hz6 : w1.heap.size < w3.heap.size := by omega
  have hz7 : w.heap.size < w3.heap.size := by omega
  have hn4 : ¬ w1.heap.size + 1 = w3.heap.size := by omega
  have hn5 : ¬ w1.heap.size = w3.heap.size := by omega
  clear hs3 hz2 hz3 hz4 hn2 hn3
  go_wp2_with fail
  refine (HB2.out _).mono ?_
  rintro r w4 ⟨rfl, hx4⟩
  have u3 := (r3.alloc hz7 _).ext hx4 (by simp; omega)
  have u12 := (C4.new w3 t s l b 23).ext hx4 (by simp)
  have hxe := (hxd.alloc _).trans hx4
  have hs4 := hx4.size
  simp at hs4
  clear c0 c1 c2 c3 c4 c5 c6 c7 m0 m1 m2 m3 m4 m5 m6 m7 r3 hx4 hxd HB2
  go_wp2_with fail
  refine (awake5_any _).mono ?_
  rintro r w5 ⟨rfl, hx5⟩
  have v3 := (u3.alloc (by omega) _).ext hx5 (by simp; omega)
  have v12 := (u12.alloc (by omega) _).ext hx5 (by simp; omega)
  have v15 := (C4.new w4 t s l b 23).ext hx5 (by simp)
  have hxf := (hxe.alloc _).trans hx5
  clear u3 u12 hx5 hxe hs4
  obtain ⟨c0, c1, c2, c3⟩ := v3
  obtain ⟨d0, d1, d2, d3⟩ := v12
  obtain ⟨e0, e1, e2, e3⟩ := v15
  go_wp2_with fail
  go_ret
  exact ⟨rfl, hxf⟩
set_option maxRecDepth 100000 in
set_option maxHeartbeats 2000000 in
theorem superTurns_4 (t s l b y0 y1 y2 y3 y4 y5 y6 y7 x word bit : Int) (w : World) (hw0 : 0 ≤ word) (hw1 : word < 256) (hb0 : 0 ≤ bit) (hb1 : bit < 256) (hk : word % 8 = 4) (hyk : 0 ≤ y4 ∧ y4 < 18446744073709551616)
    (HL : Hid (∀ W, Calls Try.prog 10 #[.agg #[.int .i64 t, .int .i64 s, .int .i64 l, .int .i64 b]] W fun e w' => e = .returned (.tuple #[.agg #[.int .u64 y0, .int .u64 y1, .int .u64 y2, .int .u64 y3, .int .u64 y4, .int .u64 y5, .int .u64 y6, .int .u64 y7], .int .i64 0]) ∧ Ext W w'))
    (HX : Hid (bits .xor .u64 y4 (IntKind.u64.wrap (2 ^ (bit % 64).toNat)) = x)) (hRm : Reads (.agg #[.int .u64 y0, .int .u64 y1, .int .u64 y2, .int .u64 y3, .int .u64 x, .int .u64 y5, .int .u64 y6, .int .u64 y7]) 0 0 0 0 8) (hRl : Reads (.agg #[.int .u64 y0, .int .u64 y1, .int .u64 y2, .int .u64 y3, .int .u64 y4, .int .u64 y5, .int .u64 y6, .int .u64 y7]) t s l b 0) :
    Calls Try.prog 5 #[.agg #[.int .i64 t, .int .i64 s, .int .i64 l, .int .i64 b], .int .u8 word, .int .u8 bit] w fun e w' => e = .returned (.bool true) ∧ Ext w w' := by
  have HRm := Lib.hid hRm
  have HB1 := Lib.hid (fun W => both_second _ _ _ _ _ _ _ _ _ _ _ _ _ _ _ _ _ _ _ _ _ _ _ _ W hRm hRl)
  have HB2 := Lib.hid (fun W => both_first _ _ _ _ _ _ _ _ _ _ _ _ _ _ _ _ _ _ _ _ _ _ _ _ W hRl hRm)
  unfold Reads at HRm
  clear hRm hRl
  have heq := fun W => eqc_yes t s l b W
  have hz6 : bit % 64 < 64 := by omega
  have hz7 : 0 ≤ bit % 64 := by omega
  obtain ⟨hy0, hy1⟩ := hyk
  go_enter Try.func5, Try.ntmps5
  go_wp2_with fail
  refine (HL.out _).mono ?_
  rintro r w1 ⟨rfl, hx⟩
  have q3 := (C4.new w t s l b 23).ext hx (by simp)
  have hz : w.heap.size < w1.heap.size := by have := hx.size; simp at this; omega
  have hn : ¬ w.heap.size = w1.heap.size := by omega
  have hxa := ((Ext.refl w).alloc _).trans hx
  clear hx HL
  go_wp2_with fail
  rw [HX.out]
  obtain ⟨W2, HW2⟩ : ∃ W2, Hid ((w1.alloc (.cells #[.int .u64 y0, .int .u64 y1, .int .u64 y2, .int .u64 y3, .int .u64 y4, .int .u64 y5, .int .u64 y6, .int .u64 y7] 26)).alloc (.cells #[.int .u64 y0, .int .u64 y1, .int .u64 y2, .int .u64 y3, .int .u64 x, .int .u64 y5, .int .u64 y6, .int .u64 y7] 26) = W2) := ⟨_, Lib.hid rfl⟩
  rw [HW2.out]
  have q7 : C8 W2 w1.heap.size y0 y1 y2 y3 y4 y5 y6 y7 := by
    rw [← HW2.out]
    exact (C8.new w1 y0 y1 y2 y3 y4 y5 y6 y7 _).alloc (by simp) _
  have q9 : C8 W2 (w1.heap.size + 1) y0 y1 y2 y3 x y5 y6 y7 := by
    rw [← HW2.out]
    have h := C8.new (w1.alloc (.cells #[.int .u64 y0, .int .u64 y1, .int .u64 y2, .int .u64 y3, .int .u64 y4, .int .u64 y5, .int .u64 y6, .int .u64 y7] 26)) y0 y1 y2 y3 x y5 y6 y7 26
    simpa using h
  have q3' : C4 W2 w.heap.size t s l b := by
    rw [← HW2.out]
    exact (q3.alloc hz _).alloc (by simp; omega) _
  have hsz : w1.heap.size + 1 < W2.heap.size := by rw [← HW2.out]; simp
  have hxb : Ext w W2 := by rw [← HW2.out]; exact (hxa.alloc _).alloc _
  clear HW2 q3 hxa hk HX hy0 hy1 hz6 hz7 hw0 hw1 hb0 hb1
  refine (HRm.out _).mono ?_
  rintro r w2 ⟨rfl, hx2⟩
  have p7 := q7.ext hx2 (by omega)
  have p9 := q9.ext hx2 hsz
  have p3 := q3'.ext hx2 (by omega)
  have hxc := hxb.trans hx2
  have hz2 : w1.heap.size + 1 < w2.heap.size := Nat.lt_of_lt_of_le hsz hx2.size
  clear HRm q7 q9 q3' hx2 hxb hsz
  clear W2
  obtain ⟨c0, c1, c2, c3, c4, c5, c6, c7⟩ := p7
  obtain ⟨m0, m1, m2, m3, m4, m5, m6, m7⟩ := p9
  have hz3 : w1.heap.size < w2.heap.size := by omega
  have hz4 : w.heap.size < w2.heap.size := by omega
  have hn2 : ¬ w1.heap.size + 1 = w2.heap.size := by omega
  have hn3 : ¬ w1.heap.size = w2.heap.size := by omega
  go_wp2_with fail
  refine (HB1.out _).mono ?_
  rintro r w3 ⟨rfl, hx3⟩
  have p7 := (C8.alloc (g := w1.heap.size) ⟨c0, c1, c2, c3, c4, c5, c6, c7⟩ hz3 _).ext hx3 (by simp; omega)
  have p9 := (C8.alloc (g := w1.heap.size + 1) ⟨m0, m1, m2, m3, m4, m5, m6, m7⟩ hz2 _).ext hx3 (by simp; omega)
  have r3 := (p3.alloc hz4 _).ext hx3 (by simp; omega)
  have hxd := (hxc.alloc _).trans hx3
  have hs3 := hx3.size
  simp at hs3
  clear c0 c1 c2 c3 c4 c5 c6 c7 m0 m1 m2 m3 m4 m5 m6 m7 p3 hx3 hxc HB1
  obtain ⟨c0, c1, c2, c3, c4, c5, c6, c7⟩ := p7
  obtain ⟨m0, m1, m2, m3, m4, m5, m6, m7⟩ := p9
  have hz5 : w1.heap.size + 1 < w3.heap.size := by omega
  have hz6 : w1.heap.size < w3.heap.size := by omega
  have hz7 : w.heap.size < w3.heap.size := by omega
  have hn4 : ¬ w1.heap.size + 1 = w3.heap.size := by omega
  have hn5 : ¬ w1.heap.size = w3.heap.size := by omega
  clear hs3 hz2 hz3 hz4 hn2 hn3
  go_wp2_with fail
  refine (HB2.out _).mono ?_
  rintro r w4 ⟨rfl, hx4⟩
  have u3 := (r3.alloc hz7 _).ext hx4 (by simp; omega)
  have u12 := (C4.new w3 t s l b 23).ext hx4 (by simp)
  have hxe := (hxd.alloc _).trans hx4
  have hs4 := hx4.size
  simp at hs4
  clear c0 c1 c2 c3 c4 c5 c6 c7 m0 m1 m2 m3 m4 m5 m6 m7 r3 hx4 hxd HB2
  go_wp2_with fail
  refine (awake5_any _).mono ?_
  rintro r w5 ⟨rfl, hx5⟩
  have v3 := (u3.alloc (by omega) _).ext hx5 (by simp; omega)
  have v12 := (u12.alloc (by omega) _).ext hx5 (by simp; omega)
  have v15 := (C4.new w4 t s l b 23).ext hx5 (by simp)
  have hxf := (hxe.alloc _).trans hx5
  clear u3 u12 hx5 hxe hs4
  obtain ⟨c0, c1, c2, c3⟩ := v3
  obtain ⟨d0, d1, d2, d3⟩ := v12
  obtain ⟨e0, e1, e2, e3⟩ := v15
  go_wp2_with fail
  go_ret
  exact ⟨rfl, hxf⟩
set_option maxRecDepth 100000 in
set_option maxHeartbeats 2000000 in
theorem superTurns_5 (t s l b y0 y1 y2 y3 y4 y5 y6 y7 x word bit : Int) (w : World) (hw0 : 0 ≤ word) (hw1 : word < 256) (hb0 : 0 ≤ bit) (hb1 : bit < 256) (hk : word % 8 = 5) (hyk : 0 ≤ y5 ∧ y5 < 18446744073709551616)
    (HL : Hid (∀ W, Calls Try.prog 10 #[.agg #[.int .i64 t, .int .i64 s, .int .i64 l, .int .i64 b]] W fun e w' => e = .returned (.tuple #[.agg #[.int .u64 y0, .int .u64 y1, .int .u64 y2, .int .u64 y3, .int .u64 y4, .int .u64 y5, .int .u64 y6, .int .u64 y7], .int .i64 0]) ∧ Ext W w'))
    (HX : Hid (bits .xor .u64 y5 (IntKind.u64.wrap (2 ^ (bit % 64).toNat)) = x)) (hRm : Reads (.agg #[.int .u64 y0, .int .u64 y1, .int .u64 y2, .int .u64 y3, .int .u64 y4, .int .u64 x, .int .u64 y6, .int .u64 y7]) 0 0 0 0 8) (hRl : Reads (.agg #[.int .u64 y0, .int .u64 y1, .int .u64 y2, .int .u64 y3, .int .u64 y4, .int .u64 y5, .int .u64 y6, .int .u64 y7]) t s l b 0) :
    Calls Try.prog 5 #[.agg #[.int .i64 t, .int .i64 s, .int .i64 l, .int .i64 b], .int .u8 word, .int .u8 bit] w fun e w' => e = .returned (.bool true) ∧ Ext w w' := by
  have HRm := Lib.hid hRm
  have HB1 := Lib.hid (fun W => both_second _ _ _ _ _ _ _ _ _ _ _ _ _ _ _ _ _ _ _ _ _ _ _ _ W hRm hRl)
  have HB2 := Lib.hid (fun W => both_first _ _ _ _ _ _ _ _ _ _ _ _ _ _ _ _ _ _ _ _ _ _ _ _ W hRl hRm)
  unfold Reads at HRm
  clear hRm hRl
  have heq := fun W => eqc_yes t s l b W
  have hz6 : bit % 64 < 64 := by omega
  have hz7 : 0 ≤ bit % 64 := by omega
  obtain ⟨hy0, hy1⟩ := hyk
  go_enter Try.func5, Try.ntmps5
  go_wp2_with fail
  refine (HL.out _).mono ?_
  rintro r w1 ⟨rfl, hx⟩
  have q3 := (C4.new w t s l b 23).ext hx (by simp)
  have hz : w.heap.size < w1.heap.size := by have := hx.size; simp at this; omega
  have hn : ¬ w.heap.size = w1.heap.size := by omega
  have hxa := ((Ext.refl w).alloc _).trans hx
  clear hx HL
  go_wp2_with fail
  rw [HX.out]
  obtain ⟨W2, HW2⟩ : ∃ W2, Hid ((w1.alloc (.cells #[.int .u64 y0, .int .u64 y1, .int .u64 y2, .int .u64 y3, .int .u64 y4, .int .u64 y5, .int .u64 y6, .int .u64 y7] 26)).alloc (.cells #[.int .u64 y0, .int .u64 y1, .int .u64 y2, .int .u64 y3, .int .u64 y4, .int .u64 x, .int .u64 y6, .int .u64 y7] 26) = W2) := ⟨_, Lib.hid rfl⟩
  rw [HW2.out]
  have q7 : C8 W2 w1.heap.size y0 y1 y2 y3 y4 y5 y6 y7 := by
    rw [← HW2.out]
    exact (C8.new w1 y0 y1 y2 y3 y4 y5 y6 y7 _).alloc (by simp) _
  have q9 : C8 W2 (w1.heap.size + 1) y0 y1 y2 y3 y4 x y6 y7 := by
    rw [← HW2.out]
    have h := C8.new (w1.alloc (.cells #[.int .u64 y0, .int .u64 y1, .int .u64 y2, .int .u64 y3, .int .u64 y4, .int .u64 y5, .int .u64 y6, .int .u64 y7] 26)) y0 y1 y2 y3 y4 x y6 y7 26
    simpa using h
  have q3' : C4 W2 w.heap.size t s l b := by
    rw [← HW2.out]
    exact (q3.alloc hz _).alloc (by simp; omega) _
  have hsz : w1.heap.size + 1 < W2.heap.size := by rw [← HW2.out]; simp
  have hxb : Ext w W2 := by rw [← HW2.out]; exact (hxa.alloc _).alloc _
  clear HW2 q3 hxa hk HX hy0 hy1 hz6 hz7 hw0 hw1 hb0 hb1
  refine (HRm.out _).mono ?_
  rintro r w2 ⟨rfl, hx2⟩
  have p7 := q7.ext hx2 (by omega)
  have p9 := q9.ext hx2 hsz
  have p3 := q3'.ext hx2 (by omega)
  have hxc := hxb.trans hx2
  have hz2 : w1.heap.size + 1 < w2.heap.size := Nat.lt_of_lt_of_le hsz hx2.size
  clear HRm q7 q9 q3' hx2 hxb hsz
  clear W2
  obtain ⟨c0, c1, c2, c3, c4, c5, c6, c7⟩ := p7
  obtain ⟨m0, m1, m2, m3, m4, m5, m6, m7⟩ := p9
  have hz3 : w1.heap.size < w2.heap.size := by omega
  have hz4 : w.heap.size < w2.heap.size := by omega
  have hn2 : ¬ w1.heap.size + 1 = w2.heap.size := by omega
  have hn3 : ¬ w1.heap.size = w2.heap.size := by omega
  go_wp2_with fail
  refine (HB1.out _).mono ?_
  rintro r w3 ⟨rfl, hx3⟩
  have p7 := (C8.alloc (g := w1.heap.size) ⟨c0, c1, c2, c3, c4, c5, c6, c7⟩ hz3 _).ext hx3 (by simp; omega)
  have p9 := (C8.alloc (g := w1.heap.size + 1) ⟨m0, m1, m2, m3, m4, m5, m6, m7⟩ hz2 _).ext hx3 (by simp; omega)
  have r3 := (p3.alloc hz4 _).ext hx3 (by simp; omega)
  have hxd := (hxc.alloc _).trans hx3
  have hs3 := hx3.size
  simp at hs3
  clear c0 c1 c2 c3 c4 c5 c6 c7 m0 m1 m2 m3 m4 m5 m6 m7 p3 hx3 hxc HB1
  obtain ⟨c0, c1, c2, c3, c4, c5, c6, c7⟩ := p7
  obtain ⟨m0, m1, m2, m3, m4, m5, m6, m7⟩ := p9
  have hz5 : w1.heap.size + 1 < w3.heap.size := by omega
  have hz6 : w1.heap.size < w3.heap.size := by omega
  have hz7 : w.heap.size < w3.heap.size := by omega
  have hn4 : ¬ w1.heap.size + 1 = w3.heap.size := by omega
  have hn5 : ¬ w1.heap.size = w3.heap.size := by omega
  clear hs3 hz2 hz3 hz4 hn2 hn3
  go_wp2_with fail
  refine (HB2.out _).mono ?_
  rintro r w4 ⟨rfl, hx4⟩
  have u3 := (r3.alloc hz7 _).ext hx4 (by simp; omega)
  have u12 := (C4.new w3 t s l b 23).ext hx4 (by simp)
  have hxe := (hxd.alloc _).trans hx4
  have hs4 := hx4.size
  simp at hs4
  clear c0 c1 c2 c3 c4 c5 c6 c7 m0 m1 m2 m3 m4 m5 m6 m7 r3 hx4 hxd HB2
  go_wp2_with fail
  refine (awake5_any _).mono ?_
  rintro r w5 ⟨rfl, hx5⟩
  have v3 := (u3.alloc (by omega) _).ext hx5 (by simp; omega)
  have v12 := (u12.alloc (by omega) _).ext hx5 (by simp; omega)
  have v15 := (C4.new w4 t s l b 23).ext hx5 (by simp)
  have hxf := (hxe.alloc _).trans hx5
  clear u3 u12 hx5 hxe hs4
  obtain ⟨c0, c1, c2, c3⟩ := v3
  obtain ⟨d0, d1, d2, d3⟩ := v12
  obtain ⟨e0, e1, e2, e3⟩ := v15
  go_wp2_with fail
  go_ret
  exact ⟨rfl, hxf⟩
set_option maxRecDepth 100000 in
set_option maxHeartbeats 2000000 in
theorem superTurns_6 (t s l b y0 y1 y2 y3 y4 y5 y6 y7 x word bit : Int) (w : World) (hw0 : 0 ≤ word) (hw1 : word < 256) (hb0 : 0 ≤ bit) (hb1 : bit < 256) (hk : word % 8 = 6) (hyk : 0 ≤ y6 ∧ y6 < 18446744073709551616)
    (HL : Hid (∀ W, Calls Try.prog 10 #[.agg #[.int .i64 t, .int .i64 s, .int .i64 l, .int .i64 b]] W fun e w' => e = .returned (.tuple #[.agg #[.int .u64 y0, .int .u64 y1, .int .u64 y2, .int .u64 y3, .int .u64 y4, .int .u64 y5, .int .u64 y6, .int .u64 y7], .int .i64 0]) ∧ Ext W w'))
    (HX : Hid (bits .xor .u64 y6 (IntKind.u64.wrap (2 ^ (bit % 64).toNat)) = x)) (hRm : Reads (.agg #[.int .u64 y0, .int .u64 y1, .int .u64 y2, .int .u64 y3, .int .u64 y4, .int .u64 y5, .int .u64 x, .int .u64 y7]) 0 0 0 0 8) (hRl : Reads (.agg #[.int .u64 y0, .int .u64 y1, .int .u64 y2, .int .u64 y3, .int .u64 y4, .int .u64 y5, .int .u64 y6, .int .u64 y7]) t s l b 0) :
    Calls Try.prog 5 #[.agg #[.int .i64 t, .int .i64 s, .int .i64 l, .int .i64 b], .int .u8 word, .int .u8 bit] w fun e w' => e = .returned (.bool true) ∧ Ext w w' := by
  have HRm := Lib.hid hRm
  have HB1 := Lib.hid (fun W => both_second _ _ _ _ _ _ _ _ _ _ _ _ _ _ _ _ _ _ _ _ _ _ _ _ W hRm hRl)
  have HB2 := Lib.hid (fun W => both_first _ _ _ _ _ _ _ _ _ _ _ _ _ _ _ _ _ _ _ _ _ _ _ _ W hRl hRm)
  unfold Reads at HRm
  clear hRm hRl
  have heq := fun W => eqc_yes t s l b W
  have hz6 : bit % 64 < 64 := by omega
  have hz7 : 0 ≤ bit % 64 := by omega
  obtain ⟨hy0, hy1⟩ := hyk
  go_enter Try.func5, Try.ntmps5
  go_wp2_with fail
  refine (HL.out _).mono ?_
  rintro r w1 ⟨rfl, hx⟩
  have q3 := (C4.new w t s l b 23).ext hx (by simp)
  have hz : w.heap.size < w1.heap.size := by have := hx.size; simp at this; omega
  have hn : ¬ w.heap.size = w1.heap.size := by omega
  have hxa := ((Ext.refl w).alloc _).trans hx
  clear hx HL
  go_wp2_with fail
  rw [HX.out]
  obtain ⟨W2, HW2⟩ : ∃ W2, Hid ((w1.alloc (.cells #[.int .u64 y0, .int .u64 y1, .int .u64 y2, .int .u64 y3, .int .u64 y4, .int .u64 y5, .int .u64 y6, .int .u64 y7] 26)).alloc (.cells #[.int .u64 y0, .int .u64 y1, .int .u64 y2, .int .u64 y3, .int .u64 y4, .int .u64 y5, .int .u64 x, .int .u64 y7] 26) = W2) := ⟨_, Lib.hid rfl⟩
  rw [HW2.out]
  have q7 : C8 W2 w1.heap.size y0 y1 y2 y3 y4 y5 y6 y7 := by
    rw [← HW2.out]
    exact (C8.new w1 y0 y1 y2 y3 y4 y5 y6 y7 _).alloc (by simp) _
  have q9 : C8 W2 (w1.heap.size + 1) y0 y1 y2 y3 y4 y5 x y7 := by
    rw [← HW2.out]
    have h := C8.new (w1.alloc (.cells #[.int .u64 y0, .int .u64 y1, .int .u64 y2, .int .u64 y3, .int .u64 y4, .int .u64 y5, .int .u64 y6, .int .u64 y7] 26)) y0 y1 y2 y3 y4 y5 x y7 26
    simpa using h
  have q3' : C4 W2 w.heap.size t s l b := by
    rw [← HW2.out]
    exact (q3.alloc hz _).alloc (by simp; omega) _
  have hsz : w1.heap.size + 1 < W2.heap.size := by rw [← HW2.out]; simp
  have hxb : Ext w W2 := by rw [← HW2.out]; exact (hxa.alloc _).alloc _
  clear HW2 q3 hxa hk HX hy0 hy1 hz6 hz7 hw0 hw1 hb0 hb1
  refine (HRm.out _).mono ?_
  rintro r w2 ⟨rfl, hx2⟩
  have p7 := q7.ext hx2 (by omega)
  have p9 := q9.ext hx2 hsz
  have p3 := q3'.ext hx2 (by omega)
  have hxc := hxb.trans hx2
  have hz2 : w1.heap.size + 1 < w2.heap.size := Nat.lt_of_lt_of_le hsz hx2.size
  clear HRm q7 q9 q3' hx2 hxb hsz
  clear W2
  obtain ⟨c0, c1, c2, c3, c4, c5, c6, c7⟩ := p7
  obtain ⟨m0, m1, m2, m3, m4, m5, m6, m7⟩ := p9
  have hz3 : w1.heap.size < w2.heap.size := by omega
  have hz4 : w.heap.size < w2.heap.size := by omega
  have hn2 : ¬ w1.heap.size + 1 = w2.heap.size := by omega
  have hn3 : ¬ w1.heap.size = w2.heap.size := by omega
  go_wp2_with fail
  refine (HB1.out _).mono ?_
  rintro r w3 ⟨rfl, hx3⟩
  have p7 := (C8.alloc (g := w1.heap.size) ⟨c0, c1, c2, c3, c4, c5, c6, c7⟩ hz3 _).ext hx3 (by simp; omega)
  have p9 := (C8.alloc (g := w1.heap.size + 1) ⟨m0, m1, m2, m3, m4, m5, m6, m7⟩ hz2 _).ext hx3 (by simp; omega)
  have r3 := (p3.alloc hz4 _).ext hx3 (by simp; omega)
  have hxd := (hxc.alloc _).trans hx3
  have hs3 := hx3.size
  simp at hs3
  clear c0 c1 c2 c3 c4 c5 c6 c7 m0 m1 m2 m3 m4 m5 m6 m7 p3 hx3 hxc HB1
  obtain ⟨c0, c1, c2, c3, c4, c5, c6, c7⟩ := p7
  obtain ⟨m0, m1, m2, m3, m4, m5, m6, m7⟩ := p9
  have hz5 : w1.heap.size + 1 < w3.heap.size := by omega
  have hz6 : w1.heap.size < w3.heap.size := by omega
  have hz7 : w.heap.size < w3.heap.size := by omega
  have hn4 : ¬ w1.heap.size + 1 = w3.heap.size := by omega
  have hn5 : ¬ w1.heap.size = w3.heap.size := by omega
  clear hs3 hz2 hz3 hz4 hn2 hn3
  go_wp2_with fail
  refine (HB2.out _).mono ?_
  rintro r w4 ⟨rfl, hx4⟩
  have u3 := (r3.alloc hz7 _).ext hx4 (by simp; omega)
  have u12 := (C4.new w3 t s l b 23).ext hx4 (by simp)
  have hxe := (hxd.alloc _).trans hx4
  have hs4 := hx4.size
  simp at hs4
  clear c0 c1 c2 c3 c4 c5 c6 c7 m0 m1 m2 m3 m4 m5 m6 m7 r3 hx4 hxd HB2
  go_wp2_with fail
  refine (awake5_any _).mono ?_
  rintro r w5 ⟨rfl, hx5⟩
  have v3 := (u3.alloc (by omega) _).ext hx5 (by simp; omega)
  have v12 := (u12.alloc (by omega) _).ext hx5 (by simp; omega)
  have v15 := (C4.new w4 t s l b 23).ext hx5 (by simp)
  have hxf := (hxe.alloc _).trans hx5
  clear u3 u12 hx5 hxe hs4
  obtain ⟨c0, c1, c2, c3⟩ := v3
  obtain ⟨d0, d1, d2, d3⟩ := v12
  obtain ⟨e0, e1, e2, e3⟩ := v15
  go_wp2_with fail
  go_ret
  exact ⟨rfl, hxf⟩
set_option maxRecDepth 100000 in
set_option maxHeartbeats 2000000 in
theorem superTurns_7 (t s l b y0 y1 y2 y3 y4 y5 y6 y7 x word bit : Int) (w : World) (hw0 : 0 ≤ word) (hw1 : word < 256) (hb0 : 0 ≤ bit) (hb1 : bit < 256) (hk : word % 8 = 7) (hyk : 0 ≤ y7 ∧ y7 < 18446744073709551616)
    (HL : Hid (∀ W, Calls Try.prog 10 #[.agg #[.int .i64 t, .int .i64 s, .int .i64 l, .int .i64 b]] W fun e w' => e = .returned (.tuple #[.agg #[.int .u64 y0, .int .u64 y1, .int .u64 y2, .int .u64 y3, .int .u64 y4, .int .u64 y5, .int .u64 y6, .int .u64 y7], .int .i64 0]) ∧ Ext W w'))
    (HX : Hid (bits .xor .u64 y7 (IntKind.u64.wrap (2 ^ (bit % 64).toNat)) = x)) (hRm : Reads (.agg #[.int .u64 y0, .int .u64 y1, .int .u64 y2, .int .u64 y3, .int .u64 y4, .int .u64 y5, .int .u64 y6, .int .u64 x]) 0 0 0 0 8) (hRl : Reads (.agg #[.int .u64 y0, .int .u64 y1, .int .u64 y2, .int .u64 y3, .int .u64 y4, .int .u64 y5, .int .u64 y6, .int .u64 y7]) t s l b 0) :
    Calls Try.prog 5 #[.agg #[.int .i64 t, .int .i64 s, .int .i64 l, .int .i64 b], .int .u8 word, .int .u8 bit] w fun e w' => e = .returned (.bool true) ∧ Ext w w' := by
  have HRm := Lib.hid hRm
  have HB1 := Lib.hid (fun W => both_second _ _ _ _ _ _ _ _ _ _ _ _ _ _ _ _ _ _ _ _ _ _ _ _ W hRm hRl)
  have HB2 := Lib.hid (fun W => both_first _ _ _ _ _ _ _ _ _ _ _ _ _ _ _ _ _ _ _ _ _ _ _ _ W hRl hRm)
  unfold Reads at HRm
  clear hRm hRl
  have heq := fun W => eqc_yes t s l b W
  have hz6 : bit % 64 < 64 := by omega
  have hz7 : 0 ≤ bit % 64 := by omega
  obtain ⟨hy0, hy1⟩ := hyk
  go_enter Try.func5, Try.ntmps5
  go_wp2_with fail
  refine (HL.out _).mono ?_
  rintro r w1 ⟨rfl, hx⟩
  have q3 := (C4.new w t s l b 23).ext hx (by simp)
  have hz : w.heap.size < w1.heap.size := by have := hx.size; simp at this; omega
  have hn : ¬ w.heap.size = w1.heap.size := by omega
  have hxa := ((Ext.refl w).alloc _).trans hx
  clear hx HL
  go_wp2_with fail
  rw [HX.out]
  obtain ⟨W2, HW2⟩ : ∃ W2, Hid ((w1.alloc (.cells #[.int .u64 y0, .int .u64 y1, .int .u64 y2, .int .u64 y3, .int .u64 y4, .int .u64 y5, .int .u64 y6, .int .u64 y7] 26)).alloc (.cells #[.int .u64 y0, .int .u64 y1, .int .u64 y2, .int .u64 y3, .int .u64 y4, .int .u64 y5, .int .u64 y6, .int .u64 x] 26) = W2) := ⟨_, Lib.hid rfl⟩
  rw [HW2.out]
  have q7 : C8 W2 w1.heap.size y0 y1 y2 y3 y4 y5 y6 y7 := by
    rw [← HW2.out]
    exact (C8.new w1 y0 y1 y2 y3 y4 y5 y6 y7 _).alloc (by simp) _
  have q9 : C8 W2 (w1.heap.size + 1) y0 y1 y2 y3 y4 y5 y6 x := by
    rw [← HW2.out]
    have h := C8.new (w1.alloc (.cells #[.int .u64 y0, .int .u64 y1, .int .u64 y2, .int .u64 y3, .int .u64 y4, .int .u64 y5, .int .u64 y6, .int .u64 y7] 26)) y0 y1 y2 y3 y4 y5 y6 x 26
    simpa using h
  have q3' : C4 W2 w.heap.size t s l b := by
    rw [← HW2.out]
    exact (q3.alloc hz _).alloc (by simp; omega) _
  have hsz : w1.heap.size + 1 < W2.heap.size := by rw [← HW2.out]; simp
  have hxb : Ext w W2 := by rw [← HW2.out]; exact (hxa.alloc _).alloc _
  clear HW2 q3 hxa hk HX hy0 hy1 hz6 hz7 hw0 hw1 hb0 hb1
  refine (HRm.out _).mono ?_
  rintro r w2 ⟨rfl, hx2⟩
  have p7 := q7.ext hx2 (by omega)
  have p9 := q9.ext hx2 hsz
  have p3 := q3'.ext hx2 (by omega)
  have hxc := hxb.trans hx2
  have hz2 : w1.heap.size + 1 < w2.heap.size := Nat.lt_of_lt_of_le hsz hx2.size
  clear HRm q7 q9 q3' hx2 hxb hsz
  clear W2
  obtain ⟨c0, c1, c2, c3, c4, c5, c6, c7⟩ := p7
  obtain ⟨m0, m1, m2, m3, m4, m5, m6, m7⟩ := p9
  have hz3 : w1.heap.size < w2.heap.size := by omega
  have hz4 : w.heap.size < w2.heap.size := by omega
  have hn2 : ¬ w1.heap.size + 1 = w2.heap.size := by omega
  have hn3 : ¬ w1.heap.size = w2.heap.size := by omega
  go_wp2_with fail
  refine (HB1.out _).mono ?_
  rintro r w3 ⟨rfl, hx3⟩
  have p7 := (C8.alloc (g := w1.heap.size) ⟨c0, c1, c2, c3, c4, c5, c6, c7⟩ hz3 _).ext hx3 (by simp; omega)
  have p9 := (C8.alloc (g := w1.heap.size + 1) ⟨m0, m1, m2, m3, m4, m5, m6, m7⟩ hz2 _).ext hx3 (by simp; omega)
  have r3 := (p3.alloc hz4 _).ext hx3 (by simp; omega)
  have hxd := (hxc.alloc _).trans hx3
  have hs3 := hx3.size
  simp at hs3
  clear c0 c1 c2 c3 c4 c5 c6 c7 m0 m1 m2 m3 m4 m5 m6 m7 p3 hx3 hxc HB1
  obtain ⟨c0, c1, c2, c3, c4, c5, c6, c7⟩ := p7
  obtain ⟨m0, m1, m2, m3, m4, m5, m6, m7⟩ := p9
  have hz5 : w1.heap.size + 1 < w3.heap.size := by omega
  have hz6 : w1.heap.size < w3.heap.size := by omega
  have hz7 : w.heap.size < w3.heap.size := by omega
  have hn4 : ¬ w1.heap.size + 1 = w3.heap.size := by omega
  have hn5 : ¬ w1.heap.size = w3.heap.size := by omega
  clear hs3 hz2 hz3 hz4 hn2 hn3
  go_wp2_with fail
  refine (HB2.out _).mono ?_
  rintro r w4 ⟨rfl, hx4⟩
  have u3 := (r3.alloc hz7 _).ext hx4 (by simp; omega)
  have u12 := (C4.new w3 t s l b 23).ext hx4 (by simp)
  have hxe := (hxd.alloc _).trans hx4
  have hs4 := hx4.size
  simp at hs4
  clear c0 c1 c2 c3 c4 c5 c6 c7 m0 m1 m2 m3 m4 m5 m6 m7 r3 hx4 hxd HB2
  go_wp2_with fail
  refine (awake5_any _).mono ?_
  rintro r w5 ⟨rfl, hx5⟩
  have v3 := (u3.alloc (by omega) _).ext hx5 (by simp; omega)
  have v12 := (u12.alloc (by omega) _).ext hx5 (by simp; omega)
  have v15 := (C4.new w4 t s l b 23).ext hx5 (by simp)
  have hxf := (hxe.alloc _).trans hx5
  clear u3 u12 hx5 hxe hs4
  obtain ⟨c0, c1, c2, c3⟩ := v3
  obtain ⟨d0, d1, d2, d3⟩ := v12
  obtain ⟨e0, e1, e2, e3⟩ := v15
  go_wp2_with fail
  go_ret
  exact ⟨rfl, hxf⟩
end Go.Proofs.Ytljleibhncidmaa
