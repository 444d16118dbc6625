/- Layer 8: slices.Equal; which states are alike. Conditions: those that each theorem names. -/
import Derived.Test.YthbngenjcgclgaaMod2
namespace Go.Proofs.Ythbngenjcgclgaa
open Go.ChangeShapes Go.WideShapes Go.ChangeAt Go.RowKit
set_option linter.unusedVariables false
theorem extN (w : World) (n : Nat) : Ext w (w.drewN n) := ⟨rfl, rfl, rfl, Nat.le_refl _, fun _ _ => rfl⟩
theorem eq_getD {α : Type} {d : α} : ∀ {xs ys : List α}, xs.length = ys.length → (∀ j, j < xs.length → xs.getD j d = ys.getD j d) → xs = ys
  | [], [], _, _ => rfl
  | [], _ :: _, h, _ => by simp at h
  | _ :: _, [], h, _ => by simp at h
  | x :: xs, y :: ys, h, hj => by
    have h0 : x = y := hj 0 (by simp)
    rw [h0, eq_getD (by simpa using h) (fun j hl => hj (j + 1) (by simpa using hl))]
set_option maxRecDepth 100000 in
set_option maxHeartbeats 1000000 in
theorem eq_pr (a b a' b' : Int) (w : World) :
    (Op.equalIn 10000 46 (.agg #[.int .u32 a, .int .u32 b]) (.agg #[.int .u32 a', .int .u32 b'])).run Try.prog w = .ok (decide ((a, b) = (a', b'))) w := by
  have u3 := Try.underlying32
  have a3 := Try.isAgg32
  have z3 := Try.sizeOf32
  rw [show (10000 : Nat) = 9999 + 1 from rfl, run_equalIn_struct _ _ _ _ _ (by kernel_rfl) (by kernel_rfl)]
  simp only [Program.fieldsOf, Try.underlying46]
  go_simp
  by_cases h1 : a = a'
  · by_cases h2 : b = b' <;> simp [h1, h2]
  · simp [h1]
theorem pr_yes (a b : Int) (w : World) : (Op.equalIn 10000 46 (.agg #[.int .u32 a, .int .u32 b]) (.agg #[.int .u32 a, .int .u32 b])).run Try.prog w = .ok true w := by rw [eq_pr]; simp
theorem pr_no {a b a' b' : Int} (h : ¬ (a, b) = (a', b')) (w : World) : (Op.equalIn 10000 46 (.agg #[.int .u32 a, .int .u32 b]) (.agg #[.int .u32 a', .int .u32 b'])).run Try.prog w = .ok false w := by rw [eq_pr, decide_eq_false h]
/-- A state, and where its parts are read. -/
structure Sta where
  q : List Int
  s : List Int
  m : List Pr
deriving DecidableEq
structure StAt (w : World) (A0 A1 A2 : Option Addr) (st : Sta) : Prop where
  q : Ints w .u32 A0 st.q
  s : Ints w .u32 A1 st.s
  m : PAt w A2 st.m
theorem StAt.ext {w w' : World} {A0 A1 A2 : Option Addr} {st : Sta} (h : StAt w A0 A1 A2 st) (x : Ext w w') : StAt w' A0 A1 A2 st := ⟨h.q.ext x, h.s.ext x, h.m.ext x⟩
structure Lens (st : Sta) (n0 n1 n2 : Nat) : Prop where
  q : st.q.length = n0
  s : st.s.length = n1
  m : st.m.length = n2
theorem sta_eq (a b : Sta) : decide (a = b) = (decide (a.q = b.q) && (decide (a.s = b.s) && decide (a.m = b.m))) := by
  obtain ⟨a0, a1, a2⟩ := a
  obtain ⟨b0, b1, b2⟩ := b
  simp [Bool.decide_and]
set_option maxRecDepth 100000 in
set_option maxHeartbeats 1000000 in
theorem few_ok (w : World) (A0 A1 A2 : Option Addr) (n0 n1 n2 c0 c1 c2 : Nat) (h0 : n0 ≤ 9223372036854775807) (h1 : n1 ≤ 9223372036854775807) (h2 : n2 ≤ 9223372036854775807) :
    Calls Try.prog 4 #[.agg #[.slice A0 n0 c0, .slice A1 n1 c1, .slice A2 n2 c2]] w fun e w' => e = .returned (.bool (decide (n0 ≤ 100) && (decide (n1 ≤ 100) && decide (n2 ≤ 100)))) ∧ Ext w w' := by
  by_cases k0 : n0 ≤ 100
  · have d0 : decide (n0 ≤ 100) = true := by simp; omega
    by_cases k1 : n1 ≤ 100
    · have d1 : decide (n1 ≤ 100) = true := by simp; omega
      by_cases k2 : n2 ≤ 100
      · have d2 : decide (n2 ≤ 100) = true := by simp; omega
        rw [d0, d1, d2]
        go_enter Try.func4, Try.ntmps4
        go_wp2_with fail
        go_ret
        exact ⟨by simp <;> omega, (Ext.refl w).alloc _⟩
      · have d2 : decide (n2 ≤ 100) = false := by simp; omega
        rw [d0, d1, d2]
        go_enter Try.func4, Try.ntmps4
        go_wp2_with fail
        go_ret
        exact ⟨by simp <;> omega, (Ext.refl w).alloc _⟩
    · have d1 : decide (n1 ≤ 100) = false := by simp; omega
      rw [d0, d1]
      go_enter Try.func4, Try.ntmps4
      go_wp2_with fail
      go_ret
      exact ⟨by simp, (Ext.refl w).alloc _⟩
  · have d0 : decide (n0 ≤ 100) = false := by simp; omega
    rw [d0]
    go_enter Try.func4, Try.ntmps4
    go_wp2_with fail
    go_ret
    exact ⟨by simp, (Ext.refl w).alloc _⟩
end Go.Proofs.Ythbngenjcgclgaa
