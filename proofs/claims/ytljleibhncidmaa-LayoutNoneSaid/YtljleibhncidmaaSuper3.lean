/- The config of a line, as package super reads it. Conditions: those that each theorem names. -/
import Derived.Test.YtljleibhncidmaaSuper2
import Derived.Test.YtljleibhncidmaaEqs
namespace Go.Proofs.Ytljleibhncidmaa
open Go.ChangeShapes Go.WideShapes Go.ChangeAt Go.RowKit
set_option linter.unusedVariables false

/-- A line is a config's. -/
def IsLine (x0 x1 x2 x3 x4 x5 x6 x7 : Int) : Prop := CfgOk x1 x2 x3 x4 ∧ x0 = 7739836655157129782 ∧ x5 = 1 ∧ x6 = 0 ∧ x7 = sum7 7739836655157129782 x1 x2 x3 x4 1 0
theorem ext3 (w : World) (o p q : Obj) : Ext w (((w.alloc o).alloc p).alloc q) := (ext2 w o p).alloc q

theorem apart3 {w w1 : World} {o p q : Obj} (hx : Ext (((w.alloc o).alloc p).alloc q) w1) : w.heap.size < w1.heap.size ∧ w.heap.size + 1 < w1.heap.size ∧ w.heap.size + 1 + 1 < w1.heap.size ∧ ¬ w.heap.size = w1.heap.size ∧ ¬ w.heap.size + 1 = w1.heap.size ∧ ¬ w.heap.size + 1 + 1 = w1.heap.size := by
  have := hx.size; simp at this; omega
set_option maxRecDepth 100000 in
set_option maxHeartbeats 1000000 in
theorem read_yes (t s l b : Int) (w : World) (h : CfgOk t s l b) :
    Calls Try.prog 15 #[.agg #[.int .u64 7739836655157129782, .int .u64 t, .int .u64 s, .int .u64 l, .int .u64 b, .int .u64 1, .int .u64 0, .int .u64 (sum7 7739836655157129782 t s l b 1 0)]] w fun e w' => e = .returned (.tuple #[.agg #[.int .i64 t, .int .i64 s, .int .i64 l, .int .i64 b], .int .i64 0]) ∧ Ext w w' := by
  obtain ⟨⟨t0, t1⟩, ⟨s0, s1⟩, ⟨l0, l1⟩, b0, b1⟩ := cfg_pos h
  have HL := Lib.hid (line_yes t s l b)
  unfold lineOf at HL
  generalize sum7 7739836655157129782 t s l b 1 0 = S at *
  go_enter Try.func15, Try.ntmps15
  go_wp2_with fail
  refine (HL.out _ h).mono ?_
  rintro e w1 ⟨rfl, hx⟩
  obtain ⟨hc, hf⟩ := bcell hx.below
  clear HL
  have heq := fun W => eql_yes 7739836655157129782 t s l b 1 0 S W
  obtain ⟨hz0, hz1, hz2, hn0, hn1, hn2⟩ := apart3 hx
  go_wp2_with fail
  refine bodyPost_ret (v := .tuple #[.agg #[.int .i64 t, .int .i64 s, .int .i64 l, .int .i64 b], .int .i64 0]) (by simp [results, Try.results15, go_sem, hc, hz1]) rfl ⟨rfl, ?_⟩
  have hx' := (ext3 w _ _ _).trans hx
  repeat (first | exact hx' | refine Ext.alloc ?_ _ | refine Ext.setCell ?_ (by simp) _)
set_option maxRecDepth 100000 in
set_option maxHeartbeats 1000000 in
theorem read_no (x0 x1 x2 x3 x4 x5 x6 x7 : Int) (w : World) (u0 : U64 x0) (u1 : U64 x1) (u2 : U64 x2) (u3 : U64 x3) (u4 : U64 x4) (h : ¬ IsLine x0 x1 x2 x3 x4 x5 x6 x7) :
    Calls Try.prog 15 #[.agg #[.int .u64 x0, .int .u64 x1, .int .u64 x2, .int .u64 x3, .int .u64 x4, .int .u64 x5, .int .u64 x6, .int .u64 x7]] w fun e w' => e = .returned (.tuple #[.agg #[.int .i64 0, .int .i64 0, .int .i64 0, .int .i64 0], .int .i64 8]) ∧ Ext w w' := by
  have HH := Lib.hid h
  clear h
  unfold U64 at *
  go_enter Try.func15, Try.ntmps15
  go_wp2_with fail
  have key : wrap64 x1 = x1 ∨ wrap64 x1 < 0 := by unfold wrap64; omega
  have key2 : wrap64 x2 = x2 ∨ wrap64 x2 < 0 := by unfold wrap64; omega
  have key3 : wrap64 x3 = x3 ∨ wrap64 x3 < 0 := by unfold wrap64; omega
  have key4 : wrap64 x4 = x4 ∨ wrap64 x4 < 0 := by unfold wrap64; omega
  generalize wrap64 x1 = T at *
  generalize wrap64 x2 = S at *
  generalize wrap64 x3 = L at *
  generalize wrap64 x4 = B at *
  rcases cfg_em T S L B with h | h
  · have hne : ¬ [7739836655157129782, T, S, L, B, 1, 0, sum7 7739836655157129782 T S L B 1 0] = [x0, x1, x2, x3, x4, x5, x6, x7] := by
      intro e
      simp only [List.cons.injEq, and_true] at e
      obtain ⟨e0, e1, e2, e3, e4, e5, e6, e7⟩ := e
      subst e1 e2 e3 e4
      exact HH.out ⟨h, e0.symm, e5.symm, e6.symm, e7.symm⟩
    have heq := fun W => eql_no _ _ _ _ _ _ _ _ _ _ _ _ _ _ _ _ hne W
    have HLn := Lib.hid (line_yes T S L B)
    unfold lineOf at HLn
    generalize sum7 7739836655157129782 T S L B 1 0 = V at *
    clear key key2 key3 key4 hne u0 u1 u2 u3 u4
    refine (HLn.out _ h).mono ?_
    rintro e w1 ⟨rfl, hx⟩
    obtain ⟨hc, hf⟩ := bcell hx.below
    clear HLn HH
    obtain ⟨hz0, hz1, hz2, hn0, hn1, hn2⟩ := apart3 hx
    go_wp2_with fail
    refine bodyPost_ret (v := .tuple #[.agg #[.int .i64 0, .int .i64 0, .int .i64 0, .int .i64 0], .int .i64 8]) (by simp [results, Try.results15, go_sem, hc, hz1]) rfl ⟨rfl, ?_⟩
    have hx' := (ext3 w _ _ _).trans hx
    repeat (first | exact hx' | refine Ext.alloc ?_ _ | refine Ext.setCell ?_ (by simp) _)
  · clear key key2 key3 key4 u0 u1 u2 u3 u4 HH
    refine (line_no _ _ _ _ _ h).mono ?_
    rintro e w1 ⟨rfl, hx⟩
    obtain ⟨hc, hf⟩ := bcell hx.below
    obtain ⟨hz0, hz1, hz2, hn0, hn1, hn2⟩ := apart3 hx
    go_wp2_with fail
    refine bodyPost_ret (v := .tuple #[.agg #[.int .i64 0, .int .i64 0, .int .i64 0, .int .i64 0], .int .i64 8]) (by simp [results, Try.results15, go_sem, hc, hz1]) rfl ⟨rfl, ?_⟩
    have hx' := (ext3 w _ _ _).trans hx
    repeat (first | exact hx' | refine Ext.alloc ?_ _ | refine Ext.setCell ?_ (by simp) _)
end Go.Proofs.Ytljleibhncidmaa
