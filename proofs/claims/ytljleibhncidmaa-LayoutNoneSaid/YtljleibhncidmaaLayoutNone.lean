/- Of what there is not there is no word: the walks, by the kinds of names. Conditions: those that each theorem names. -/
import Derived.Test.YtljleibhncidmaaAt
import Derived.Lib.QuietBelow
namespace Go.Proofs.Ytljleibhncidmaa
open Go.ChangeShapes Go.WideShapes Go.ChangeAt Go.RowKit
set_option linter.unusedVariables false
/-- The cells of a pair at a block. -/
def C2 (w : World) (g : Nat) (a b : Int) : Prop := w.cell? ⟨g, 0, none⟩ = some (.int .i64 a) ∧ w.cell? ⟨g, 1, none⟩ = some (.int .i64 b)
theorem C2.ext {w w' : World} {g : Nat} {a b : Int} (h : C2 w g a b) (x : Ext w w') (hg : g < w.heap.size) : C2 w' g a b := by
  obtain ⟨h0, h1⟩ := h
  exact ⟨(Below.cell x.below (by exact hg)).trans h0, (Below.cell x.below (by exact hg)).trans h1⟩
theorem C2.new (w : World) (a b : Int) (t : TypeId) : C2 (w.alloc (.cells #[.int .i64 a, .int .i64 b] t)) w.heap.size a b := by
  unfold C2
  refine ⟨?_, ?_⟩ <;> (rw [cell_of_row _ _ _ _ _ _ (heap_alloc_new w _)]; rfl)
set_option maxRecDepth 100000 in
set_option maxHeartbeats 4000000 in
theorem layoutNone_epoch (t s l b : Nat) (kind x y : Int) (w : World) (h : CfgOk t s l b) (ht : t ≤ 12) (hs : s ≤ 60) (h0 : 0 ≤ kind) (h1 : kind < 256) (hK : 5 + kind % 13 = 14) :
    Calls Try.prog 7 #[.agg #[.int .i64 t, .int .i64 s, .int .i64 l, .int .i64 b], .int .u8 kind, .agg #[.int .i64 x, .int .i64 y]] w fun e w' => e = .returned (.bool true) ∧ Ext w w' := by
  have HO := Lib.hid (fun W => of_yes t s l b W h)
  have HF := Lib.hid (fun W => few_small t s l b W (by omega) (by omega))
  obtain ⟨hs0, hl1, hb1⟩ : 1 ≤ s ∧ l ≤ 64 ∧ b ≤ 64 := by obtain ⟨_, ⟨_, _⟩, ⟨_, _⟩, _, _⟩ := h; omega
  have HAt := Lib.hid (fun W => at_any t s l b (14) 0 0 W ht hs hs0 hl1 hb1 (by omega) (by omega) (by omega) (by omega))
  have HT := Lib.hid (fun W p (hW : LayAt W p (cellsF (layF t s l b))) => told_any (layF t s l b) (okayF h) p (14) 0 0 W hW (by omega) (by omega))
  generalize toldF (layF t s l b) (14) 0 0 = T at *
  generalize layF t s l b = G at *
  clear h
  go_enter Try.func7, Try.ntmps7
  go_wp2_with fail
  refine (HO.out _).mono ?_
  rintro e w1 ⟨g, rfl, hg, hgl, x1⟩
  have p1 := ((C4.new w t s l b 23).alloc (by simp) (.cells #[.int .i64 x, .int .i64 y] 52)).ext x1 (by simp; omega)
  have r1 : C2 w1 (w.heap.size + 1) x y := by
    have hh := (C2.new (w.alloc (.cells #[.int .i64 t, .int .i64 s, .int .i64 l, .int .i64 b] 23)) x y 52).ext x1 (by simp)
    simpa using hh
  have hL := Lib.hid (show LayAt w1 (some ⟨g, 0, none⟩) (cellsF G) from Or.inl ⟨g, rfl, hg⟩)
  have xa := (ext2 w _ _).trans x1
  have z1 : w.heap.size + 1 < w1.heap.size := by have := x1.size; simp at this; omega
  have HP := Lib.hid p1
  have HR := Lib.hid r1
  obtain ⟨c0, c1, c2, c3⟩ := p1
  clear HO hg hgl x1 r1
  go_wp2_with fail
  refine (HF.out _).mono ?_
  rintro e w2 ⟨rfl, x2⟩
  replace hL := Lib.hid (hL.out.ext x2)
  replace HP := Lib.hid (HP.out.ext x2 (by omega))
  have r2 := HR.out.ext x2 z1
  have xb := xa.trans x2
  have z2 : w.heap.size + 1 < w2.heap.size := Nat.lt_of_lt_of_le z1 x2.size
  clear HF x2 xa z1 HR c0 c1 c2 c3
  obtain ⟨r0, r1⟩ := r2
  have z3 : w.heap.size < w2.heap.size := by omega
  have n3 : ¬ w.heap.size + 1 = w2.heap.size := by omega
  have n4 : ¬ w.heap.size = w2.heap.size := by omega
  go_wp2_with fail
  obtain ⟨w3, HW3⟩ : ∃ w3, Hid (w2.alloc (.cells #[.int .i64 (14), .int .i64 0, .int .i64 0] 50) = w3) := ⟨_, Lib.hid rfl⟩
  rw [HW3.out]
  have p3 : C4 w3 w.heap.size t s l b := by rw [← HW3.out]; exact HP.out.alloc z3 _
  have n9 : C3 w3 w2.heap.size (14) 0 0 := by rw [← HW3.out]; exact C3.new w2 _ _ _ _
  have x3 : Ext w2 w3 := by rw [← HW3.out]; exact (Ext.refl w2).alloc _
  have HL3 := Lib.hid (hL.out.ext x3)
  have xc := xb.trans x3
  clear HW3 hL HP x3 xb r0 r1 n3 n4
  obtain ⟨c0, c1, c2, c3⟩ := p3
  obtain ⟨m0, m1, m2⟩ := n9
  have d0 := fun d os => cell_regrown c0 d os
  have d1 := fun d os => cell_regrown c1 d os
  have d2 := fun d os => cell_regrown c2 d os
  have d3 := fun d os => cell_regrown c3 d os
  have f0 := fun d os => cell_regrown m0 d os
  have f1 := fun d os => cell_regrown m1 d os
  have f2 := fun d os => cell_regrown m2 d os
  have Q1 := Lib.hid (fun W => awake6_any W)
  have Q2 := Lib.hid (fun W (x : Ext w3 W) => HT.out W _ (HL3.out.ext x))
  clear c0 c1 c2 c3 m0 m1 m2 HT
  refine wp_region_quiet_below (by kernel_rfl) (by kernel_rfl) ?_
  repeat (quiet_step (first
    | (with_reducible exact Calls.regrown_of (Q1.out _))
    | (with_reducible exact Calls.regrown_of (Q2.out _ (Ext.of (below_regrown _ _ _))))
    | (with_reducible exact Calls.regrown_of (HAt.out _))))
  refine wpQuiet_nil ?_
  intro w5 hw'
  have x5 : Ext w3 w5 := by
    obtain ⟨⟨dq, osq⟩, hw2⟩ := hw'
    rw [hw2]
    exact Ext.of (below_regrown w3 dq osq)
  clear hw'
  go_wp2_with fail
  go_ret
  exact ⟨rfl, xc.trans x5⟩
set_option maxRecDepth 100000 in
set_option maxHeartbeats 4000000 in
theorem layoutNone_free (t s l b : Nat) (kind x y : Int) (w : World) (h : CfgOk t s l b) (ht : t ≤ 12) (hs : s ≤ 60) (h0 : 0 ≤ kind) (h1 : kind < 256) (hK : 5 + kind % 13 = 15) :
    Calls Try.prog 7 #[.agg #[.int .i64 t, .int .i64 s, .int .i64 l, .int .i64 b], .int .u8 kind, .agg #[.int .i64 x, .int .i64 y]] w fun e w' => e = .returned (.bool true) ∧ Ext w w' := by
  have HO := Lib.hid (fun W => of_yes t s l b W h)
  have HF := Lib.hid (fun W => few_small t s l b W (by omega) (by omega))
  obtain ⟨hs0, hl1, hb1⟩ : 1 ≤ s ∧ l ≤ 64 ∧ b ≤ 64 := by obtain ⟨_, ⟨_, _⟩, ⟨_, _⟩, _, _⟩ := h; omega
  have HAt := Lib.hid (fun W => at_any t s l b (15) 0 0 W ht hs hs0 hl1 hb1 (by omega) (by omega) (by omega) (by omega))
  have HT := Lib.hid (fun W p (hW : LayAt W p (cellsF (layF t s l b))) => told_any (layF t s l b) (okayF h) p (15) 0 0 W hW (by omega) (by omega))
  generalize toldF (layF t s l b) (15) 0 0 = T at *
  generalize layF t s l b = G at *
  clear h
  go_enter Try.func7, Try.ntmps7
  go_wp2_with fail
  refine (HO.out _).mono ?_
  rintro e w1 ⟨g, rfl, hg, hgl, x1⟩
  have p1 := ((C4.new w t s l b 23).alloc (by simp) (.cells #[.int .i64 x, .int .i64 y] 52)).ext x1 (by simp; omega)
  have r1 : C2 w1 (w.heap.size + 1) x y := by
    have hh := (C2.new (w.alloc (.cells #[.int .i64 t, .int .i64 s, .int .i64 l, .int .i64 b] 23)) x y 52).ext x1 (by simp)
    simpa using hh
  have hL := Lib.hid (show LayAt w1 (some ⟨g, 0, none⟩) (cellsF G) from Or.inl ⟨g, rfl, hg⟩)
  have xa := (ext2 w _ _).trans x1
  have z1 : w.heap.size + 1 < w1.heap.size := by have := x1.size; simp at this; omega
  have HP := Lib.hid p1
  have HR := Lib.hid r1
  obtain ⟨c0, c1, c2, c3⟩ := p1
  clear HO hg hgl x1 r1
  go_wp2_with fail
  refine (HF.out _).mono ?_
  rintro e w2 ⟨rfl, x2⟩
  replace hL := Lib.hid (hL.out.ext x2)
  replace HP := Lib.hid (HP.out.ext x2 (by omega))
  have r2 := HR.out.ext x2 z1
  have xb := xa.trans x2
  have z2 : w.heap.size + 1 < w2.heap.size := Nat.lt_of_lt_of_le z1 x2.size
  clear HF x2 xa z1 HR c0 c1 c2 c3
  obtain ⟨r0, r1⟩ := r2
  have z3 : w.heap.size < w2.heap.size := by omega
  have n3 : ¬ w.heap.size + 1 = w2.heap.size := by omega
  have n4 : ¬ w.heap.size = w2.heap.size := by omega
  go_wp2_with fail
  obtain ⟨w3, HW3⟩ : ∃ w3, Hid (w2.alloc (.cells #[.int .i64 (15), .int .i64 0, .int .i64 0] 50) = w3) := ⟨_, Lib.hid rfl⟩
  rw [HW3.out]
  have p3 : C4 w3 w.heap.size t s l b := by rw [← HW3.out]; exact HP.out.alloc z3 _
  have n9 : C3 w3 w2.heap.size (15) 0 0 := by rw [← HW3.out]; exact C3.new w2 _ _ _ _
  have x3 : Ext w2 w3 := by rw [← HW3.out]; exact (Ext.refl w2).alloc _
  have HL3 := Lib.hid (hL.out.ext x3)
  have xc := xb.trans x3
  clear HW3 hL HP x3 xb r0 r1 n3 n4
  obtain ⟨c0, c1, c2, c3⟩ := p3
  obtain ⟨m0, m1, m2⟩ := n9
  have d0 := fun d os => cell_regrown c0 d os
  have d1 := fun d os => cell_regrown c1 d os
  have d2 := fun d os => cell_regrown c2 d os
  have d3 := fun d os => cell_regrown c3 d os
  have f0 := fun d os => cell_regrown m0 d os
  have f1 := fun d os => cell_regrown m1 d os
  have f2 := fun d os => cell_regrown m2 d os
  have Q1 := Lib.hid (fun W => awake6_any W)
  have Q2 := Lib.hid (fun W (x : Ext w3 W) => HT.out W _ (HL3.out.ext x))
  clear c0 c1 c2 c3 m0 m1 m2 HT
  refine wp_region_quiet_below (by kernel_rfl) (by kernel_rfl) ?_
  repeat (quiet_step (first
    | (with_reducible exact Calls.regrown_of (Q1.out _))
    | (with_reducible exact Calls.regrown_of (Q2.out _ (Ext.of (below_regrown _ _ _))))
    | (with_reducible exact Calls.regrown_of (HAt.out _))))
  refine wpQuiet_nil ?_
  intro w5 hw'
  have x5 : Ext w3 w5 := by
    obtain ⟨⟨dq, osq⟩, hw2⟩ := hw'
    rw [hw2]
    exact Ext.of (below_regrown w3 dq osq)
  clear hw'
  go_wp2_with fail
  go_ret
  exact ⟨rfl, xc.trans x5⟩
set_option maxRecDepth 100000 in
set_option maxHeartbeats 4000000 in
theorem layoutNone_log (t s l b : Nat) (kind x y : Int) (w : World) (h : CfgOk t s l b) (ht : t ≤ 12) (hs : s ≤ 60) (h0 : 0 ≤ kind) (h1 : kind < 256) (hK : 5 + kind % 13 = 8) :
    Calls Try.prog 7 #[.agg #[.int .i64 t, .int .i64 s, .int .i64 l, .int .i64 b], .int .u8 kind, .agg #[.int .i64 x, .int .i64 y]] w fun e w' => e = .returned (.bool true) ∧ Ext w w' := by
  have HO := Lib.hid (fun W => of_yes t s l b W h)
  have HF := Lib.hid (fun W => few_small t s l b W (by omega) (by omega))
  obtain ⟨hs0, hl1, hb1⟩ : 1 ≤ s ∧ l ≤ 64 ∧ b ≤ 64 := by obtain ⟨_, ⟨_, _⟩, ⟨_, _⟩, _, _⟩ := h; omega
  have HAt := Lib.hid (fun W => at_any t s l b (8) x y W ht hs hs0 hl1 hb1 (by omega) (by omega) (by omega) (by omega))
  have HT := Lib.hid (fun W p (hW : LayAt W p (cellsF (layF t s l b))) => told_any (layF t s l b) (okayF h) p (8) x y W hW (by omega) (by omega))
  generalize toldF (layF t s l b) (8) x y = T at *
  generalize layF t s l b = G at *
  clear h
  go_enter Try.func7, Try.ntmps7
  go_wp2_with fail
  refine (HO.out _).mono ?_
  rintro e w1 ⟨g, rfl, hg, hgl, x1⟩
  have p1 := ((C4.new w t s l b 23).alloc (by simp) (.cells #[.int .i64 x, .int .i64 y] 52)).ext x1 (by simp; omega)
  have r1 : C2 w1 (w.heap.size + 1) x y := by
    have hh := (C2.new (w.alloc (.cells #[.int .i64 t, .int .i64 s, .int .i64 l, .int .i64 b] 23)) x y 52).ext x1 (by simp)
    simpa using hh
  have hL := Lib.hid (show LayAt w1 (some ⟨g, 0, none⟩) (cellsF G) from Or.inl ⟨g, rfl, hg⟩)
  have xa := (ext2 w _ _).trans x1
  have z1 : w.heap.size + 1 < w1.heap.size := by have := x1.size; simp at this; omega
  have HP := Lib.hid p1
  have HR := Lib.hid r1
  obtain ⟨c0, c1, c2, c3⟩ := p1
  clear HO hg hgl x1 r1
  go_wp2_with fail
  refine (HF.out _).mono ?_
  rintro e w2 ⟨rfl, x2⟩
  replace hL := Lib.hid (hL.out.ext x2)
  replace HP := Lib.hid (HP.out.ext x2 (by omega))
  have r2 := HR.out.ext x2 z1
  have xb := xa.trans x2
  have z2 : w.heap.size + 1 < w2.heap.size := Nat.lt_of_lt_of_le z1 x2.size
  clear HF x2 xa z1 HR c0 c1 c2 c3
  obtain ⟨r0, r1⟩ := r2
  have z3 : w.heap.size < w2.heap.size := by omega
  have n3 : ¬ w.heap.size + 1 = w2.heap.size := by omega
  have n4 : ¬ w.heap.size = w2.heap.size := by omega
  go_wp2_with fail
  obtain ⟨w3, HW3⟩ : ∃ w3, Hid (w2.alloc (.cells #[.int .i64 (8), .int .i64 x, .int .i64 y] 50) = w3) := ⟨_, Lib.hid rfl⟩
  rw [HW3.out]
  have p3 : C4 w3 w.heap.size t s l b := by rw [← HW3.out]; exact HP.out.alloc z3 _
  have n9 : C3 w3 w2.heap.size (8) x y := by rw [← HW3.out]; exact C3.new w2 _ _ _ _
  have x3 : Ext w2 w3 := by rw [← HW3.out]; exact (Ext.refl w2).alloc _
  have HL3 := Lib.hid (hL.out.ext x3)
  have xc := xb.trans x3
  clear HW3 hL HP x3 xb r0 r1 n3 n4
  obtain ⟨c0, c1, c2, c3⟩ := p3
  obtain ⟨m0, m1, m2⟩ := n9
  have d0 := fun d os => cell_regrown c0 d os
  have d1 := fun d os => cell_regrown c1 d os
  have d2 := fun d os => cell_regrown c2 d os
  have d3 := fun d os => cell_regrown c3 d os
  have f0 := fun d os => cell_regrown m0 d os
  have f1 := fun d os => cell_regrown m1 d os
  have f2 := fun d os => cell_regrown m2 d os
  have Q1 := Lib.hid (fun W => awake6_any W)
  have Q2 := Lib.hid (fun W (x : Ext w3 W) => HT.out W _ (HL3.out.ext x))
  clear c0 c1 c2 c3 m0 m1 m2 HT
  refine wp_region_quiet_below (by kernel_rfl) (by kernel_rfl) ?_
  repeat (quiet_step (first
    | (with_reducible exact Calls.regrown_of (Q1.out _))
    | (with_reducible exact Calls.regrown_of (Q2.out _ (Ext.of (below_regrown _ _ _))))
    | (with_reducible exact Calls.regrown_of (HAt.out _))))
  refine wpQuiet_nil ?_
  intro w5 hw'
  have x5 : Ext w3 w5 := by
    obtain ⟨⟨dq, osq⟩, hw2⟩ := hw'
    rw [hw2]
    exact Ext.of (below_regrown w3 dq osq)
  clear hw'
  go_wp2_with fail
  go_ret
  exact ⟨rfl, xc.trans x5⟩
set_option maxRecDepth 100000 in
set_option maxHeartbeats 4000000 in
theorem layoutNone_other (t s l b : Nat) (kind x y K : Int) (w : World) (h : CfgOk t s l b) (ht : t ≤ 12) (hs : s ≤ 60) (h0 : 0 ≤ kind) (h1 : kind < 256) (hK : 5 + kind % 13 = K) (hk5 : 5 ≤ K) (hk17 : K ≤ 17) (e14 : (K == 14) = false) (e15 : (K == 15) = false) (e8 : (K == 8) = false) (i14 : ¬ K = 14) (i15 : ¬ K = 15) (i8 : ¬ K = 8) :
    Calls Try.prog 7 #[.agg #[.int .i64 t, .int .i64 s, .int .i64 l, .int .i64 b], .int .u8 kind, .agg #[.int .i64 x, .int .i64 y]] w fun e w' => e = .returned (.bool true) ∧ Ext w w' := by
  have HO := Lib.hid (fun W => of_yes t s l b W h)
  have HF := Lib.hid (fun W => few_small t s l b W (by omega) (by omega))
  obtain ⟨hs0, hl1, hb1⟩ : 1 ≤ s ∧ l ≤ 64 ∧ b ≤ 64 := by obtain ⟨_, ⟨_, _⟩, ⟨_, _⟩, _, _⟩ := h; omega
  have HAt := Lib.hid (fun W => at_any t s l b (K) x 0 W ht hs hs0 hl1 hb1 (by omega) (by omega) (by omega) (by omega))
  have HT := Lib.hid (fun W p (hW : LayAt W p (cellsF (layF t s l b))) => told_any (layF t s l b) (okayF h) p (K) x 0 W hW (by omega) (by omega))
  generalize toldF (layF t s l b) (K) x 0 = T at *
  generalize layF t s l b = G at *
  clear h
  go_enter Try.func7, Try.ntmps7
  go_wp2_with fail
  refine (HO.out _).mono ?_
  rintro e w1 ⟨g, rfl, hg, hgl, x1⟩
  have p1 := ((C4.new w t s l b 23).alloc (by simp) (.cells #[.int .i64 x, .int .i64 y] 52)).ext x1 (by simp; omega)
  have r1 : C2 w1 (w.heap.size + 1) x y := by
    have hh := (C2.new (w.alloc (.cells #[.int .i64 t, .int .i64 s, .int .i64 l, .int .i64 b] 23)) x y 52).ext x1 (by simp)
    simpa using hh
  have hL := Lib.hid (show LayAt w1 (some ⟨g, 0, none⟩) (cellsF G) from Or.inl ⟨g, rfl, hg⟩)
  have xa := (ext2 w _ _).trans x1
  have z1 : w.heap.size + 1 < w1.heap.size := by have := x1.size; simp at this; omega
  have HP := Lib.hid p1
  have HR := Lib.hid r1
  obtain ⟨c0, c1, c2, c3⟩ := p1
  clear HO hg hgl x1 r1
  go_wp2_with fail
  refine (HF.out _).mono ?_
  rintro e w2 ⟨rfl, x2⟩
  replace hL := Lib.hid (hL.out.ext x2)
  replace HP := Lib.hid (HP.out.ext x2 (by omega))
  have r2 := HR.out.ext x2 z1
  have xb := xa.trans x2
  have z2 : w.heap.size + 1 < w2.heap.size := Nat.lt_of_lt_of_le z1 x2.size
  clear HF x2 xa z1 HR c0 c1 c2 c3
  obtain ⟨r0, r1⟩ := r2
  have z3 : w.heap.size < w2.heap.size := by omega
  have n3 : ¬ w.heap.size + 1 = w2.heap.size := by omega
  have n4 : ¬ w.heap.size = w2.heap.size := by omega
  go_wp2_with fail
  obtain ⟨w3, HW3⟩ : ∃ w3, Hid (w2.alloc (.cells #[.int .i64 (K), .int .i64 x, .int .i64 0] 50) = w3) := ⟨_, Lib.hid rfl⟩
  rw [HW3.out]
  have p3 : C4 w3 w.heap.size t s l b := by rw [← HW3.out]; exact HP.out.alloc z3 _
  have n9 : C3 w3 w2.heap.size (K) x 0 := by rw [← HW3.out]; exact C3.new w2 _ _ _ _
  have x3 : Ext w2 w3 := by rw [← HW3.out]; exact (Ext.refl w2).alloc _
  have HL3 := Lib.hid (hL.out.ext x3)
  have xc := xb.trans x3
  clear HW3 hL HP x3 xb r0 r1 n3 n4
  obtain ⟨c0, c1, c2, c3⟩ := p3
  obtain ⟨m0, m1, m2⟩ := n9
  have d0 := fun d os => cell_regrown c0 d os
  have d1 := fun d os => cell_regrown c1 d os
  have d2 := fun d os => cell_regrown c2 d os
  have d3 := fun d os => cell_regrown c3 d os
  have f0 := fun d os => cell_regrown m0 d os
  have f1 := fun d os => cell_regrown m1 d os
  have f2 := fun d os => cell_regrown m2 d os
  have Q1 := Lib.hid (fun W => awake6_any W)
  have Q2 := Lib.hid (fun W (x : Ext w3 W) => HT.out W _ (HL3.out.ext x))
  clear c0 c1 c2 c3 m0 m1 m2 HT
  refine wp_region_quiet_below (by kernel_rfl) (by kernel_rfl) ?_
  repeat (quiet_step (first
    | (with_reducible exact Calls.regrown_of (Q1.out _))
    | (with_reducible exact Calls.regrown_of (Q2.out _ (Ext.of (below_regrown _ _ _))))
    | (with_reducible exact Calls.regrown_of (HAt.out _))))
  refine wpQuiet_nil ?_
  intro w5 hw'
  have x5 : Ext w3 w5 := by
    obtain ⟨⟨dq, osq⟩, hw2⟩ := hw'
    rw [hw2]
    exact Ext.of (below_regrown w3 dq osq)
  clear hw'
  go_wp2_with fail
  go_ret
  exact ⟨rfl, xc.trans x5⟩
end Go.Proofs.Ytljleibhncidmaa
