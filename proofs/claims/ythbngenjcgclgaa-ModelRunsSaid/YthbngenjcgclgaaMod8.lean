/- Layer 8: slices.Insert of a pair behind all; put of a pair. Conditions: those that each theorem names. -/
import Derived.Test.YthbngenjcgclgaaMod7
namespace Go.Proofs.Ythbngenjcgclgaa
open Go.ChangeShapes Go.WideShapes Go.ChangeAt Go.RowKit
set_option linter.unusedVariables false
/-- What an insertion leaves: a row of the call's own, there or in a new block; nothing else has turned. -/
def POnto (w0 w : World) (v : Value) (ps : List Pr) (e : Ending) (w' : World) : Prop := ∃ v', e = .returned v' ∧ PRow w' w0.heap.size v' ps ∧ Ext w0 w' ∧ (∀ g, g < w.heap.size → v.ownBlock ≠ some g → w'.heap[g]? = w.heap[g]? ∧ v'.ownBlock ≠ some g) ∧ w.heap.size ≤ w'.heap.size
theorem two_at {w : World} {g : Nat} {a b : Int} (h : Blk w g 46 [.int .u32 a, .int .u32 b]) : ∀ j, j < [a, b].length → w.cell? ((⟨g, 0, none⟩ : Addr).add j) = some (.int .u32 ([a, b].getD j 0)) := fun j hj => by
  rw [at0]
  match j, hj with
  | 0, _ => exact h.cell 0
  | 1, _ => exact h.cell 1
set_option maxRecDepth 100000 in
set_option maxHeartbeats 400000 in
theorem insEnd_ok (w0 w : World) (v : Value) (g : Nat) (a b : Int) (ps : List Pr) (hz : ps.length ≤ 1000000) (hr : PRow w w0.heap.size v ps) (ext : Ext w0 w) (hc : Blk w g 46 [.int .u32 a, .int .u32 b]) :
    Calls Try.prog 38 #[v, .int .i64 (ps.length : Int), .slice (some ⟨g, 0, none⟩) 1 1] w (POnto w0 w v (ps ++ [(a, b)])) := by
  have fl : flat (ps ++ [(a, b)]) = flat ps ++ [a, b] := by rw [flat_append]; rfl
  have ln : (ps ++ [(a, b)]).length = ps.length + 1 := by simp
  have HE : Hid (∀ v' w', RowN w' w0.heap.size 46 2 .u32 v' (ps.length + 1) (flat ps ++ [a, b]) → PRow w' w0.heap.size v' (ps ++ [(a, b)])) := Lib.hid (fun v' w' hh => by unfold PRow; rw [fl, ln]; exact hh)
  have HC := Lib.hid hc
  have HR : Hid (RowN w w0.heap.size 46 2 .u32 v ps.length (flat ps)) := Lib.hid hr
  clear hc fl ln
  have hr2 := hr.2
  clear hr
  generalize hn : ps.length = n at *
  have HN := Lib.hid hn
  clear hn
  rcases hr2 with ⟨rfl, h0⟩ | ⟨q, c, cur, rfl, _, _, hnc, hcm, _, _⟩
  · subst h0
    go_enter Try.func38, Try.ntmps38
    go_wp2_with ((at_builtin; refine Hid.out ?_))
    refine Lib.hid ?_
    refine wpList_appN rfl _ _ 23 rfl 46 .u32 2 8 (.agg #[.int .u32 0, .int .u32 0]) pair_info rfl (by decide) (by decide) Try.underlying23 w0 w _ 0 (flat ps) (by rfl) HR.out ext ⟨g, 0, none⟩ 1 1 [a, b] (by rfl) rfl (two_at HC.out) (by omega) ?_
    intro v' w' h1 h2 h3 h4
    go_wp2_with fail
    go_ret
    exact ⟨v', rfl, HE.out _ _ h1, h2, h3, h4⟩
  · unfold maxLen at hcm
    rcases Nat.lt_or_eq_of_le hnc with hlt | heq
    · go_enter Try.func38, Try.ntmps38
      go_wp2_with ((at_builtin; refine Hid.out ?_))
      refine Lib.hid ?_
      refine wpList_appN rfl _ _ 23 rfl 46 .u32 2 8 (.agg #[.int .u32 0, .int .u32 0]) pair_info rfl (by decide) (by decide) Try.underlying23 w0 w _ n (flat ps) (by rfl) HR.out ext ⟨g, 0, none⟩ 1 1 [a, b] (by rfl) rfl (two_at HC.out) (by omega) ?_
      intro v' w' h1 h2 h3 h4
      go_wp2_with fail
      go_ret
      exact ⟨v', rfl, HE.out _ _ h1, h2, h3, h4⟩
    · subst heq
      go_enter Try.func38, Try.ntmps38
      go_wp2_with ((at_builtin; refine Hid.out ?_))
      refine Lib.hid ?_
      refine wpList_appN rfl _ _ 23 rfl 46 .u32 2 8 (.agg #[.int .u32 0, .int .u32 0]) pair_info rfl (by decide) (by decide) Try.underlying23 w0 w _ n (flat ps) (by rfl) HR.out ext ⟨g, 0, none⟩ 1 1 [a, b] (by rfl) rfl (two_at HC.out) (by omega) ?_
      intro v' w' h1 h2 h3 h4
      go_wp2_with fail
      go_ret
      exact ⟨v', rfl, HE.out _ _ h1, h2, h3, h4⟩
end Go.Proofs.Ythbngenjcgclgaa
