/- Which config of two lines is read, by package super; the config of a line by the document's answer. Conditions: those that each theorem names. -/
import Derived.Test.YtljleibhncidmaaSuper3
namespace Go.Proofs.Ytljleibhncidmaa
open Go.ChangeShapes Go.WideShapes Go.ChangeAt Go.RowKit
set_option linter.unusedVariables false

/-- What a reading answers: a config and 0, or none and 8. -/
def Reads (v : Value) (t s l b e : Int) : Prop := ∀ w, Calls Try.prog 15 #[v] w fun r w' => r = .returned (.tuple #[.agg #[.int .i64 t, .int .i64 s, .int .i64 l, .int .i64 b], .int .i64 e]) ∧ Ext w w'
theorem ext5 (w : World) (o p q r s : Obj) : Ext w (((((w.alloc o).alloc p).alloc q).alloc r).alloc s) := (ext4 w o p q r).alloc s

set_option maxRecDepth 100000 in
set_option maxHeartbeats 1000000 in
theorem both_same (x0 x1 x2 x3 x4 x5 x6 x7 y0 y1 y2 y3 y4 y5 y6 y7 t s l b t' s' l' b' : Int) (w : World) (hA : Reads (.agg #[.int .u64 x0, .int .u64 x1, .int .u64 x2, .int .u64 x3, .int .u64 x4, .int .u64 x5, .int .u64 x6, .int .u64 x7]) t s l b 0) (hB : Reads (.agg #[.int .u64 y0, .int .u64 y1, .int .u64 y2, .int .u64 y3, .int .u64 y4, .int .u64 y5, .int .u64 y6, .int .u64 y7]) t' s' l' b' 0) (hS : [t, s, l, b] = [t', s', l', b']) :
    Calls Try.prog 17 #[.agg #[.int .u64 x0, .int .u64 x1, .int .u64 x2, .int .u64 x3, .int .u64 x4, .int .u64 x5, .int .u64 x6, .int .u64 x7], .agg #[.int .u64 y0, .int .u64 y1, .int .u64 y2, .int .u64 y3, .int .u64 y4, .int .u64 y5, .int .u64 y6, .int .u64 y7]] w fun r w' => r = .returned (.tuple #[.agg #[.int .i64 t, .int .i64 s, .int .i64 l, .int .i64 b], .int .i64 0, .int .i64 0]) ∧ Ext w w' := by
  have HA := Lib.hid hA
  have HB := Lib.hid hB
  clear hA hB
  unfold Reads at HA HB
  simp only [List.cons.injEq, and_true] at hS
  obtain ⟨rfl, rfl, rfl, rfl⟩ := hS
  have heq := fun W => eqc_yes t s l b W
  go_enter Try.func17, Try.ntmps17
  go_wp2_with fail
  refine (HA.out _).mono ?_
  rintro r1 w1 ⟨rfl, hx⟩
  obtain ⟨hz0, hz1, hz2, hn0, hn1, hn2⟩ := apart3 hx
  have hxa := (ext3 w _ _ _).trans hx
  obtain ⟨hc, hf⟩ := bcell hx.below
  go_wp2_with fail
  refine (HB.out _).mono ?_
  rintro r2 w2 ⟨rfl, hy⟩
  have hz3 : w1.heap.size < w2.heap.size := by have := hy.size; simp at this; omega
  have hn3 : ¬ w1.heap.size = w2.heap.size := by omega
  have hz4 : w.heap.size < w2.heap.size := by omega
  have hz5 : w.heap.size + 1 < w2.heap.size := by omega
  have hz6 : w.heap.size + 1 + 1 < w2.heap.size := by omega
  have hxb := (hxa.alloc _).trans hy
  obtain ⟨hd, hg⟩ := bcell hy.below
  go_wp2_with fail
  refine bodyPost_ret (v := .tuple #[.agg #[.int .i64 t, .int .i64 s, .int .i64 l, .int .i64 b], .int .i64 0, .int .i64 0]) (by simp [results, Try.results17, go_sem, hd, hc, hz1, hz2, hz6]) rfl ⟨rfl, ?_⟩
  repeat (first | exact hxb | refine Ext.alloc ?_ _ | refine Ext.setCell ?_ (by simp <;> omega) _)

set_option maxRecDepth 100000 in
set_option maxHeartbeats 1000000 in
theorem both_not (x0 x1 x2 x3 x4 x5 x6 x7 y0 y1 y2 y3 y4 y5 y6 y7 t s l b t' s' l' b' : Int) (w : World) (hA : Reads (.agg #[.int .u64 x0, .int .u64 x1, .int .u64 x2, .int .u64 x3, .int .u64 x4, .int .u64 x5, .int .u64 x6, .int .u64 x7]) t s l b 0) (hB : Reads (.agg #[.int .u64 y0, .int .u64 y1, .int .u64 y2, .int .u64 y3, .int .u64 y4, .int .u64 y5, .int .u64 y6, .int .u64 y7]) t' s' l' b' 0) (hS : ¬ [t, s, l, b] = [t', s', l', b']) :
    Calls Try.prog 17 #[.agg #[.int .u64 x0, .int .u64 x1, .int .u64 x2, .int .u64 x3, .int .u64 x4, .int .u64 x5, .int .u64 x6, .int .u64 x7], .agg #[.int .u64 y0, .int .u64 y1, .int .u64 y2, .int .u64 y3, .int .u64 y4, .int .u64 y5, .int .u64 y6, .int .u64 y7]] w fun r w' => r = .returned (.tuple #[.agg #[.int .i64 0, .int .i64 0, .int .i64 0, .int .i64 0], .int .i64 0, .int .i64 8]) ∧ Ext w w' := by
  have HA := Lib.hid hA
  have HB := Lib.hid hB
  clear hA hB
  unfold Reads at HA HB
  have heq := fun W => eqc_no _ _ _ _ _ _ _ _ hS W
  clear hS
  go_enter Try.func17, Try.ntmps17
  go_wp2_with fail
  refine (HA.out _).mono ?_
  rintro r1 w1 ⟨rfl, hx⟩
  obtain ⟨hz0, hz1, hz2, hn0, hn1, hn2⟩ := apart3 hx
  have hxa := (ext3 w _ _ _).trans hx
  obtain ⟨hc, hf⟩ := bcell hx.below
  go_wp2_with fail
  refine (HB.out _).mono ?_
  rintro r2 w2 ⟨rfl, hy⟩
  have hz3 : w1.heap.size < w2.heap.size := by have := hy.size; simp at this; omega
  have hn3 : ¬ w1.heap.size = w2.heap.size := by omega
  have hz4 : w.heap.size < w2.heap.size := by omega
  have hz5 : w.heap.size + 1 < w2.heap.size := by omega
  have hz6 : w.heap.size + 1 + 1 < w2.heap.size := by omega
  have hxb := (hxa.alloc _).trans hy
  obtain ⟨hd, hg⟩ := bcell hy.below
  go_wp2_with fail
  refine bodyPost_ret (v := .tuple #[.agg #[.int .i64 0, .int .i64 0, .int .i64 0, .int .i64 0], .int .i64 0, .int .i64 8]) (by simp [results, Try.results17, go_sem, hd, hc, hz1, hz2, hz6]) rfl ⟨rfl, ?_⟩
  repeat (first | exact hxb | refine Ext.alloc ?_ _ | refine Ext.setCell ?_ (by simp <;> omega) _)

set_option maxRecDepth 100000 in
set_option maxHeartbeats 1000000 in
theorem both_first (x0 x1 x2 x3 x4 x5 x6 x7 y0 y1 y2 y3 y4 y5 y6 y7 t s l b t' s' l' b' : Int) (w : World) (hA : Reads (.agg #[.int .u64 x0, .int .u64 x1, .int .u64 x2, .int .u64 x3, .int .u64 x4, .int .u64 x5, .int .u64 x6, .int .u64 x7]) t s l b 0) (hB : Reads (.agg #[.int .u64 y0, .int .u64 y1, .int .u64 y2, .int .u64 y3, .int .u64 y4, .int .u64 y5, .int .u64 y6, .int .u64 y7]) t' s' l' b' 8) :
    Calls Try.prog 17 #[.agg #[.int .u64 x0, .int .u64 x1, .int .u64 x2, .int .u64 x3, .int .u64 x4, .int .u64 x5, .int .u64 x6, .int .u64 x7], .agg #[.int .u64 y0, .int .u64 y1, .int .u64 y2, .int .u64 y3, .int .u64 y4, .int .u64 y5, .int .u64 y6, .int .u64 y7]] w fun r w' => r = .returned (.tuple #[.agg #[.int .i64 t, .int .i64 s, .int .i64 l, .int .i64 b], .int .i64 0, .int .i64 0]) ∧ Ext w w' := by
  have HA := Lib.hid hA
  have HB := Lib.hid hB
  clear hA hB
  unfold Reads at HA HB
  go_enter Try.func17, Try.ntmps17
  go_wp2_with fail
  refine (HA.out _).mono ?_
  rintro r1 w1 ⟨rfl, hx⟩
  obtain ⟨hz0, hz1, hz2, hn0, hn1, hn2⟩ := apart3 hx
  have hxa := (ext3 w _ _ _).trans hx
  obtain ⟨hc, hf⟩ := bcell hx.below
  go_wp2_with fail
  refine (HB.out _).mono ?_
  rintro r2 w2 ⟨rfl, hy⟩
  have hz3 : w1.heap.size < w2.heap.size := by have := hy.size; simp at this; omega
  have hn3 : ¬ w1.heap.size = w2.heap.size := by omega
  have hz4 : w.heap.size < w2.heap.size := by omega
  have hz5 : w.heap.size + 1 < w2.heap.size := by omega
  have hz6 : w.heap.size + 1 + 1 < w2.heap.size := by omega
  have hxb := (hxa.alloc _).trans hy
  obtain ⟨hd, hg⟩ := bcell hy.below
  go_wp2_with fail
  refine bodyPost_ret (v := .tuple #[.agg #[.int .i64 t, .int .i64 s, .int .i64 l, .int .i64 b], .int .i64 0, .int .i64 0]) (by simp [results, Try.results17, go_sem, hd, hc, hz1, hz2, hz6]) rfl ⟨rfl, ?_⟩
  repeat (first | exact hxb | refine Ext.alloc ?_ _ | refine Ext.setCell ?_ (by simp <;> omega) _)

set_option maxRecDepth 100000 in
set_option maxHeartbeats 1000000 in
theorem both_second (x0 x1 x2 x3 x4 x5 x6 x7 y0 y1 y2 y3 y4 y5 y6 y7 t s l b t' s' l' b' : Int) (w : World) (hA : Reads (.agg #[.int .u64 x0, .int .u64 x1, .int .u64 x2, .int .u64 x3, .int .u64 x4, .int .u64 x5, .int .u64 x6, .int .u64 x7]) t s l b 8) (hB : Reads (.agg #[.int .u64 y0, .int .u64 y1, .int .u64 y2, .int .u64 y3, .int .u64 y4, .int .u64 y5, .int .u64 y6, .int .u64 y7]) t' s' l' b' 0) :
    Calls Try.prog 17 #[.agg #[.int .u64 x0, .int .u64 x1, .int .u64 x2, .int .u64 x3, .int .u64 x4, .int .u64 x5, .int .u64 x6, .int .u64 x7], .agg #[.int .u64 y0, .int .u64 y1, .int .u64 y2, .int .u64 y3, .int .u64 y4, .int .u64 y5, .int .u64 y6, .int .u64 y7]] w fun r w' => r = .returned (.tuple #[.agg #[.int .i64 t', .int .i64 s', .int .i64 l', .int .i64 b'], .int .i64 1, .int .i64 0]) ∧ Ext w w' := by
  have HA := Lib.hid hA
  have HB := Lib.hid hB
  clear hA hB
  unfold Reads at HA HB
  go_enter Try.func17, Try.ntmps17
  go_wp2_with fail
  refine (HA.out _).mono ?_
  rintro r1 w1 ⟨rfl, hx⟩
  obtain ⟨hz0, hz1, hz2, hn0, hn1, hn2⟩ := apart3 hx
  have hxa := (ext3 w _ _ _).trans hx
  obtain ⟨hc, hf⟩ := bcell hx.below
  go_wp2_with fail
  refine (HB.out _).mono ?_
  rintro r2 w2 ⟨rfl, hy⟩
  have hz3 : w1.heap.size < w2.heap.size := by have := hy.size; simp at this; omega
  have hn3 : ¬ w1.heap.size = w2.heap.size := by omega
  have hz4 : w.heap.size < w2.heap.size := by omega
  have hz5 : w.heap.size + 1 < w2.heap.size := by omega
  have hz6 : w.heap.size + 1 + 1 < w2.heap.size := by omega
  have hxb := (hxa.alloc _).trans hy
  obtain ⟨hd, hg⟩ := bcell hy.below
  go_wp2_with fail
  refine bodyPost_ret (v := .tuple #[.agg #[.int .i64 t', .int .i64 s', .int .i64 l', .int .i64 b'], .int .i64 1, .int .i64 0]) (by simp [results, Try.results17, go_sem, hd, hc, hz1, hz2, hz6]) rfl ⟨rfl, ?_⟩
  repeat (first | exact hxb | refine Ext.alloc ?_ _ | refine Ext.setCell ?_ (by simp <;> omega) _)

set_option maxRecDepth 100000 in
set_option maxHeartbeats 1000000 in
theorem both_none (x0 x1 x2 x3 x4 x5 x6 x7 y0 y1 y2 y3 y4 y5 y6 y7 t s l b t' s' l' b' : Int) (w : World) (hA : Reads (.agg #[.int .u64 x0, .int .u64 x1, .int .u64 x2, .int .u64 x3, .int .u64 x4, .int .u64 x5, .int .u64 x6, .int .u64 x7]) t s l b 8) (hB : Reads (.agg #[.int .u64 y0, .int .u64 y1, .int .u64 y2, .int .u64 y3, .int .u64 y4, .int .u64 y5, .int .u64 y6, .int .u64 y7]) t' s' l' b' 8) :
    Calls Try.prog 17 #[.agg #[.int .u64 x0, .int .u64 x1, .int .u64 x2, .int .u64 x3, .int .u64 x4, .int .u64 x5, .int .u64 x6, .int .u64 x7], .agg #[.int .u64 y0, .int .u64 y1, .int .u64 y2, .int .u64 y3, .int .u64 y4, .int .u64 y5, .int .u64 y6, .int .u64 y7]] w fun r w' => r = .returned (.tuple #[.agg #[.int .i64 0, .int .i64 0, .int .i64 0, .int .i64 0], .int .i64 0, .int .i64 8]) ∧ Ext w w' := by
  have HA := Lib.hid hA
  have HB := Lib.hid hB
  clear hA hB
  unfold Reads at HA HB
  go_enter Try.func17, Try.ntmps17
  go_wp2_with fail
  refine (HA.out _).mono ?_
  rintro r1 w1 ⟨rfl, hx⟩
  obtain ⟨hz0, hz1, hz2, hn0, hn1, hn2⟩ := apart3 hx
  have hxa := (ext3 w _ _ _).trans hx
  obtain ⟨hc, hf⟩ := bcell hx.below
  go_wp2_with fail
  refine (HB.out _).mono ?_
  rintro r2 w2 ⟨rfl, hy⟩
  have hz3 : w1.heap.size < w2.heap.size := by have := hy.size; simp at this; omega
  have hn3 : ¬ w1.heap.size = w2.heap.size := by omega
  have hz4 : w.heap.size < w2.heap.size := by omega
  have hz5 : w.heap.size + 1 < w2.heap.size := by omega
  have hz6 : w.heap.size + 1 + 1 < w2.heap.size := by omega
  have hxb := (hxa.alloc _).trans hy
  obtain ⟨hd, hg⟩ := bcell hy.below
  go_wp2_with fail
  refine bodyPost_ret (v := .tuple #[.agg #[.int .i64 0, .int .i64 0, .int .i64 0, .int .i64 0], .int .i64 0, .int .i64 8]) (by simp [results, Try.results17, go_sem, hd, hc, hz1, hz2, hz6]) rfl ⟨rfl, ?_⟩
  repeat (first | exact hxb | refine Ext.alloc ?_ _ | refine Ext.setCell ?_ (by simp <;> omega) _)
end Go.Proofs.Ytljleibhncidmaa
