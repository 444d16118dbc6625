/- More that a layout tells: its config, an entry of a log, the slot around a word. Conditions: those that each theorem names. -/
import Derived.Test.YtfjfeomkmhbpbaaLay6
namespace Go.Proofs.Ytfjfeomkmhbpbaa
open Go.ChangeShapes Go.WideShapes Go.ChangeAt Go.RowKit
set_option linter.unusedVariables false
theorem tConfig_any (p : Option Addr) (cs : List Value) (t s l b : Int) (w : World) (h : LayAt w p cs) (q0 : cs[0]? = some (.int .i64 t)) (q1 : cs[1]? = some (.int .i64 s)) (q2 : cs[2]? = some (.int .i64 l)) (q3 : cs[3]? = some (.int .i64 b)) :
    Calls Try.prog 38 #[.pointer p] w fun e w' => e = .returned (.agg #[.int .i64 t, .int .i64 s, .int .i64 l, .int .i64 b]) ∧ Ext w w' := by
  have h' := h.ext ((Ext.refl w).alloc (.cells #[.int .i64 0, .int .i64 0, .int .i64 0, .int .i64 0] 29))
  go_enter Try.func38, Try.ntmps38
  go_wp2_with fail
  refine (or_any p cs _ h').mono ?_
  rintro e w' ⟨g, rfl, hg, hx⟩
  have k0 : w'.cell? ⟨g, 0, none⟩ = some (.int .i64 t) := by rw [hg.cell]; exact q0
  have k1 : w'.cell? ⟨g, 1, none⟩ = some (.int .i64 s) := by rw [hg.cell]; exact q1
  have k2 : w'.cell? ⟨g, 2, none⟩ = some (.int .i64 l) := by rw [hg.cell]; exact q2
  have k3 : w'.cell? ⟨g, 3, none⟩ = some (.int .i64 b) := by rw [hg.cell]; exact q3
  clear q0 q1 q2 q3 h hg h'
  obtain ⟨hc, hf⟩ := bcell hx.below
  go_wp2_with fail
  refine bodyPost_ret (v := .agg #[.int .i64 t, .int .i64 s, .int .i64 l, .int .i64 b]) (by simp [results, Try.results38, go_sem, hc]) rfl ⟨rfl, ?_⟩
  have hx' := ((Ext.refl w).alloc _).trans hx
  repeat (first | exact hx' | refine Ext.alloc ?_ _ | refine Ext.setCell ?_ (by simp <;> omega) _)
/-- The number of an entry's word. -/
def logAt (v a d m c t n : Int) : Int := if 0 ≤ n ∧ n < c then wordAt v a d m t n else v * 8
/-- The thing among whose words one lies. -/
def aroundAt (a d m x : Int) : Int := if a ≤ x ∧ x < a + d * m then (x - a) / d else -1
end Go.Proofs.Ytfjfeomkmhbpbaa
