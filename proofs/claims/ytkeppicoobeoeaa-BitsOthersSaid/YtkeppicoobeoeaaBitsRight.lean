/- What bits.Right and its reference answer for any word and any numbers of slots and threads, and that the page's examples hold. Conditions: each argument lies in its type. -/
import Derived.Test.YtkeppicoobeoeaaBitsFns
namespace Go.Proofs.Ytkeppicoobeoeaa
open Go.ChangeShapes Go.WideShapes Go.ChangeAt Go.RowKit
set_option linter.unusedVariables false

/-- A contract seen from an earlier world. -/
theorem up {P : Program} {f : FuncId} {args : Array Value} {w0 w : World} {v : Value} (c : Calls P f args w (Tells w v)) (h : Ext w0 w) : Calls P f args w (Tells w0 v) :=
  c.mono fun _ _ ⟨he, hx⟩ => ⟨he, h.trans hx⟩

namespace BM
def tx (x : Int) : Int := x % 4294967296 - 1
def bx (x : Int) : Int := x / 4294967296 % 128 - 1
def cl (x : Int) : Int := x % 9223372036854775808
def lk (x : Int) : Int := x % 4294967296 + 4294967296 * (x / 4294967296 % 128)
def hi (x : Int) : Int := x % 9223372036854775808 / 4294967296
def wholeB (x : Int) : Bool := lk x == cl x
def rightB (x s t : Int) : Bool := wholeB x && (decide (tx x < s) && decide (bx x < t))
theorem whole_hi (x : Int) (h0 : 0 ≤ x) (h1 : x < 18446744073709551616) : decide (hi x < 128) = wholeB x := by
  unfold wholeB hi lk cl
  rw [Bool.eq_iff_iff, decide_eq_true_iff, beq_iff_eq]
  omega
end BM

theorem to_tx (x : Int) (h0 : 0 ≤ x) (h1 : x < 18446744073709551616) (w : World) : Calls Try.prog 14 #[.int .u64 x] w (Tells w (.int .i64 (BM.tx x))) := to_any x h0 h1 w
theorem rto_tx (x : Int) (h0 : 0 ≤ x) (h1 : x < 18446744073709551616) (w : World) : Calls Try.prog 15 #[.int .u64 x] w (Tells w (.int .i64 (BM.tx x))) := rto_any x h0 h1 w
theorem by_bx (x : Int) (h0 : 0 ≤ x) (h1 : x < 18446744073709551616) (w : World) : Calls Try.prog 16 #[.int .u64 x] w (Tells w (.int .i64 (BM.bx x))) := by_any x h0 h1 w
theorem rby_bx (x : Int) (h0 : 0 ≤ x) (h1 : x < 18446744073709551616) (w : World) : Calls Try.prog 17 #[.int .u64 x] w (Tells w (.int .i64 (BM.bx x))) := rby_any x h0 h1 w
theorem clean_cl (x : Int) (h0 : 0 ≤ x) (h1 : x < 18446744073709551616) (w : World) : Calls Try.prog 20 #[.int .u64 x] w (Tells w (.int .u64 (BM.cl x))) := clean_any x h0 h1 w
theorem link_lk (x : Int) (h0 : 0 ≤ x) (h1 : x < 18446744073709551616) (w : World) : Calls Try.prog 26 #[.int .i64 (BM.tx x), .int .i64 (BM.bx x)] w (Tells w (.int .u64 (BM.lk x))) := by
  have e : BM.lk x = (BM.tx x + 1) % 4294967296 + 4294967296 * ((BM.bx x + 1) % 128) := by unfold BM.lk BM.tx BM.bx; omega
  rw [e]
  exact link_any _ _ (by unfold BM.tx; omega) (by unfold BM.tx; omega) (by unfold BM.bx; omega) (by unfold BM.bx; omega) w

set_option maxHeartbeats 1000000 in
theorem right_any (x s t : Int) (h0 : 0 ≤ x) (h1 : x < 18446744073709551616) (w : World) :
    Calls Try.prog 24 #[.int .u64 x, .int .i64 s, .int .i64 t] w (Tells w (.bool (BM.rightB x s t))) := by
  have hr : BM.rightB x s t = ((BM.lk x == BM.cl x) && (decide (BM.tx x < s) && decide (BM.bx x < t))) := rfl
  rw [hr]
  clear hr
  have hx := Ext.refl w
  cases c1 : (BM.lk x == BM.cl x) <;> cases c2 : decide (BM.tx x < s) <;> cases c3 : decide (BM.bx x < t)
  all_goals
    go_enter Try.func24, Try.ntmps24
    go_wp2_with (first
      | (go_at_call 14; (with_reducible refine (up (to_tx x h0 h1 _) (by assumption)).mono ?_); rintro e w' ⟨rfl, hx⟩)
      | (go_at_call 16; (with_reducible refine (up (by_bx x h0 h1 _) (by assumption)).mono ?_); rintro e w' ⟨rfl, hx⟩)
      | (go_at_call 26; (with_reducible refine (up (link_lk x h0 h1 _) (by assumption)).mono ?_); rintro e w' ⟨rfl, hx⟩)
      | (go_at_call 20; (with_reducible refine (up (clean_cl x h0 h1 _) (by assumption)).mono ?_); rintro e w' ⟨rfl, hx⟩))
    go_ret
    exact ⟨rfl, by assumption⟩

set_option maxHeartbeats 1000000 in
theorem rright_any (x s t : Int) (h0 : 0 ≤ x) (h1 : x < 18446744073709551616) (w : World) :
    Calls Try.prog 25 #[.int .u64 x, .int .i64 s, .int .i64 t] w (Tells w (.bool (BM.rightB x s t))) := by
  have hr : BM.rightB x s t = (decide (BM.tx x < s) && (decide (BM.bx x < t) && decide (BM.hi x < 128))) := by
    rw [BM.whole_hi x h0 h1]; unfold BM.rightB
    cases BM.wholeB x <;> cases decide (BM.tx x < s) <;> cases decide (BM.bx x < t) <;> rfl
  rw [hr]
  clear hr
  have hx := Ext.refl w
  have hh : BM.hi x = x % 9223372036854775808 / 4294967296 := rfl
  rw [hh]
  clear hh
  cases c1 : decide (x % 9223372036854775808 / 4294967296 < 128) <;> cases c2 : decide (BM.tx x < s) <;> cases c3 : decide (BM.bx x < t)
  all_goals
    go_enter Try.func25, Try.ntmps25
    go_wp2_with (first
      | (go_at_call 15; (with_reducible refine (up (rto_tx x h0 h1 _) (by assumption)).mono ?_); rintro e w' ⟨rfl, hx⟩)
      | (go_at_call 17; (with_reducible refine (up (rby_bx x h0 h1 _) (by assumption)).mono ?_); rintro e w' ⟨rfl, hx⟩))
    go_ret
    exact ⟨rfl, by assumption⟩

set_option maxHeartbeats 1000000 in
theorem awake_any (w : World) : Calls Try.prog 13 #[] w (Tells w (.bool true)) := by
  have hx := Ext.refl w
  go_enter Try.func13, Try.ntmps13
  go_wp2_with (first
    | (go_at_call 14; (with_reducible refine (up (to_any _ (by omega) (by omega) _) (by assumption)).mono ?_); rintro e w' ⟨rfl, hx⟩)
    | (go_at_call 26; (with_reducible refine (up (link_any _ _ (by omega) (by omega) (by omega) (by omega) _) (by assumption)).mono ?_); rintro e w' ⟨rfl, hx⟩)
    | (go_at_call 30; (with_reducible refine (up (cellT_any _ _ (by omega) (by omega) (by omega) (by omega) _) (by assumption)).mono ?_); rintro e w' ⟨rfl, hx⟩))
  go_ret
  exact ⟨rfl, by assumption⟩
end Go.Proofs.Ytkeppicoobeoeaa
