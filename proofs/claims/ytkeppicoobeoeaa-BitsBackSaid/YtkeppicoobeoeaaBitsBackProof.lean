/- For all numbers that are not cut, the links, entries, cells and tops that the package bits makes tell the numbers of which they were made: the law answers true, and changes nothing. Conditions: none. -/
import Derived.Test.YtkeppicoobeoeaaBitsRight
namespace Go.Proofs.Ytkeppicoobeoeaa
open Go.ChangeShapes Go.WideShapes Go.ChangeAt Go.RowKit
set_option linter.unusedVariables false
namespace BM
def lw (x y : Int) : Int := x + 4294967296 * (y % 128)
def ew (x v : Int) : Int := x + 4294967296 * v
def cw (x y v : Int) : Int := v / 2 * 8589934592 + x + if 128 ≤ y then 4294967296 else 0
end BM
theorem bk_link (x y v : Int) (h0 : 0 ≤ x) (h1 : x < 4294967296) (h2 : 0 ≤ y) (h3 : y < 256) (h4 : 0 ≤ v) (h5 : v < 4294967296) (w : World) : Calls Try.prog 26 #[.int .i64 (x - 1), .int .i64 (y % 128 - 1)] w (Tells w (.int .u64 (BM.lw x y))) := by
  have e : BM.lw x y = (x - 1 + 1) % 4294967296 + 4294967296 * ((y % 128 - 1 + 1) % 128) := by unfold BM.lw; omega
  rw [e]; exact link_any _ _ (by omega) (by omega) (by omega) (by omega) w
theorem bk_entry (x y v : Int) (h0 : 0 ≤ x) (h1 : x < 4294967296) (h2 : 0 ≤ y) (h3 : y < 256) (h4 : 0 ≤ v) (h5 : v < 4294967296) (w : World) : Calls Try.prog 28 #[.int .i64 (x - 1), .int .i64 (v - 1)] w (Tells w (.int .u64 (BM.ew x v))) := by
  have e : BM.ew x v = (x - 1 + 1) % 4294967296 + 4294967296 * ((v - 1 + 1) % 4294967296) := by unfold BM.ew; omega
  rw [e]; exact entry_any _ _ (by omega) (by omega) (by omega) (by omega) w
theorem bk_top (x y v : Int) (h0 : 0 ≤ x) (h1 : x < 4294967296) (h2 : 0 ≤ y) (h3 : y < 256) (h4 : 0 ≤ v) (h5 : v < 4294967296) (w : World) : Calls Try.prog 32 #[.int .i64 (x - 1), .int .u32 v] w (Tells w (.int .u64 (BM.ew x v))) := by
  have e : BM.ew x v = (x - 1 + 1) % 4294967296 + 4294967296 * v := by unfold BM.ew; omega
  rw [e]; exact top_any _ _ (by omega) (by omega) h4 h5 w
theorem bk_cell (x y v : Int) (h0 : 0 ≤ x) (h1 : x < 4294967296) (h2 : 0 ≤ y) (h3 : y < 256) (h4 : 0 ≤ v) (h5 : v < 4294967296) (w : World) : Calls Try.prog 30 #[.int .i64 (v / 2), .bool (decide (128 ≤ y)), .int .u32 x] w (Tells w (.int .u64 (BM.cw x y v))) := by
  by_cases hy : 128 ≤ y
  · have e : BM.cw x y v = v / 2 % 2147483648 * 8589934592 + x + 4294967296 := by unfold BM.cw; rw [if_pos hy]; omega
    rw [e, show decide (128 ≤ y) = true from by simpa using hy]; exact cellT_any _ _ (by omega) (by omega) h0 h1 w
  · have e : BM.cw x y v = v / 2 % 2147483648 * 8589934592 + x := by unfold BM.cw; rw [if_neg hy]; omega
    rw [e, show decide (128 ≤ y) = false from by simpa using hy]; exact cellF_any _ _ (by omega) (by omega) h0 h1 w
theorem bk_to_l (x y v : Int) (h0 : 0 ≤ x) (h1 : x < 4294967296) (h2 : 0 ≤ y) (h3 : y < 256) (h4 : 0 ≤ v) (h5 : v < 4294967296) (w : World) : Calls Try.prog 14 #[.int .u64 (BM.lw x y)] w (Tells w (.int .i64 (x - 1))) := by
  have e : x - 1 = BM.lw x y % 4294967296 - 1 := by unfold BM.lw; omega
  rw [e]; exact to_any _ (by unfold BM.lw; omega) (by unfold BM.lw; omega) w
theorem bk_by_l (x y v : Int) (h0 : 0 ≤ x) (h1 : x < 4294967296) (h2 : 0 ≤ y) (h3 : y < 256) (h4 : 0 ≤ v) (h5 : v < 4294967296) (w : World) : Calls Try.prog 16 #[.int .u64 (BM.lw x y)] w (Tells w (.int .i64 (y % 128 - 1))) := by
  have e : y % 128 - 1 = BM.lw x y / 4294967296 % 128 - 1 := by unfold BM.lw; omega
  rw [e]; exact by_any _ (by unfold BM.lw; omega) (by unfold BM.lw; omega) w
theorem bk_dirty (x y v : Int) (h0 : 0 ≤ x) (h1 : x < 4294967296) (h2 : 0 ≤ y) (h3 : y < 256) (h4 : 0 ≤ v) (h5 : v < 4294967296) (w : World) : Calls Try.prog 18 #[.int .u64 (BM.lw x y)] w (Tells w (.bool false)) := by
  have e : false = BM.dirtyB (BM.lw x y) := by unfold BM.dirtyB BM.lw; symm; simp; omega
  rw [e]; exact dirty_any _ (by unfold BM.lw; omega) (by unfold BM.lw; omega) w
theorem bk_right0 (x y v : Int) (h0 : 0 ≤ x) (h1 : x < 4294967296) (h2 : 0 ≤ y) (h3 : y < 256) (h4 : 0 ≤ v) (h5 : v < 4294967296) (w : World) : Calls Try.prog 24 #[.int .u64 (BM.lw x y), .int .i64 (x), .int .i64 (y % 128)] w (Tells w (.bool true)) := by
  have e : true = BM.rightB (BM.lw x y) (x) (y % 128) := by
    have e1 : BM.tx (BM.lw x y) = x - 1 := by unfold BM.tx BM.lw; omega
    have e2 : BM.bx (BM.lw x y) = y % 128 - 1 := by unfold BM.bx BM.lw; omega
    have e3 : BM.wholeB (BM.lw x y) = true := by unfold BM.wholeB BM.lk BM.cl BM.lw; rw [beq_iff_eq]; omega
    unfold BM.rightB; rw [e1, e2, e3]; symm; simp; try omega
  rw [e]; exact right_any _ _ _ (by unfold BM.lw; omega) (by unfold BM.lw; omega) w
theorem bk_right1 (x y v : Int) (h0 : 0 ≤ x) (h1 : x < 4294967296) (h2 : 0 ≤ y) (h3 : y < 256) (h4 : 0 ≤ v) (h5 : v < 4294967296) (w : World) : Calls Try.prog 24 #[.int .u64 (BM.lw x y), .int .i64 (x - 1), .int .i64 (y % 128)] w (Tells w (.bool false)) := by
  have e : false = BM.rightB (BM.lw x y) (x - 1) (y % 128) := by
    have e1 : BM.tx (BM.lw x y) = x - 1 := by unfold BM.tx BM.lw; omega
    have e2 : BM.bx (BM.lw x y) = y % 128 - 1 := by unfold BM.bx BM.lw; omega
    have e3 : BM.wholeB (BM.lw x y) = true := by unfold BM.wholeB BM.lk BM.cl BM.lw; rw [beq_iff_eq]; omega
    unfold BM.rightB; rw [e1, e2, e3]; symm; simp; try omega
  rw [e]; exact right_any _ _ _ (by unfold BM.lw; omega) (by unfold BM.lw; omega) w
theorem bk_right2 (x y v : Int) (h0 : 0 ≤ x) (h1 : x < 4294967296) (h2 : 0 ≤ y) (h3 : y < 256) (h4 : 0 ≤ v) (h5 : v < 4294967296) (w : World) : Calls Try.prog 24 #[.int .u64 (BM.lw x y), .int .i64 (x), .int .i64 (y % 128 - 1)] w (Tells w (.bool false)) := by
  have e : false = BM.rightB (BM.lw x y) (x) (y % 128 - 1) := by
    have e1 : BM.tx (BM.lw x y) = x - 1 := by unfold BM.tx BM.lw; omega
    have e2 : BM.bx (BM.lw x y) = y % 128 - 1 := by unfold BM.bx BM.lw; omega
    have e3 : BM.wholeB (BM.lw x y) = true := by unfold BM.wholeB BM.lk BM.cl BM.lw; rw [beq_iff_eq]; omega
    unfold BM.rightB; rw [e1, e2, e3]; symm; simp; try omega
  rw [e]; exact right_any _ _ _ (by unfold BM.lw; omega) (by unfold BM.lw; omega) w
theorem bk_to_e (x y v : Int) (h0 : 0 ≤ x) (h1 : x < 4294967296) (h2 : 0 ≤ y) (h3 : y < 256) (h4 : 0 ≤ v) (h5 : v < 4294967296) (w : World) : Calls Try.prog 14 #[.int .u64 (BM.ew x v)] w (Tells w (.int .i64 (x - 1))) := by
  have e : x - 1 = BM.ew x v % 4294967296 - 1 := by unfold BM.ew; omega
  rw [e]; exact to_any _ (by unfold BM.ew; omega) (by unfold BM.ew; omega) w
theorem bk_stamp (x y v : Int) (h0 : 0 ≤ x) (h1 : x < 4294967296) (h2 : 0 ≤ y) (h3 : y < 256) (h4 : 0 ≤ v) (h5 : v < 4294967296) (w : World) : Calls Try.prog 34 #[.int .u64 (BM.ew x v)] w (Tells w (.int .i64 (v - 1))) := by
  have e : v - 1 = BM.ew x v / 4294967296 - 1 := by unfold BM.ew; omega
  rw [e]; exact stamp_any _ (by unfold BM.ew; omega) (by unfold BM.ew; omega) w
theorem bk_ver (x y v : Int) (h0 : 0 ≤ x) (h1 : x < 4294967296) (h2 : 0 ≤ y) (h3 : y < 256) (h4 : 0 ≤ v) (h5 : v < 4294967296) (w : World) : Calls Try.prog 42 #[.int .u64 (BM.ew x v)] w (Tells w (.int .u32 v)) := by
  have e : v = BM.ew x v / 4294967296 := by unfold BM.ew; omega
  have c := ver_any (BM.ew x v) (by unfold BM.ew; omega) (by unfold BM.ew; omega) w
  rw [← e] at c; exact c
theorem bk_seq (x y v : Int) (h0 : 0 ≤ x) (h1 : x < 4294967296) (h2 : 0 ≤ y) (h3 : y < 256) (h4 : 0 ≤ v) (h5 : v < 4294967296) (w : World) : Calls Try.prog 36 #[.int .u64 (BM.cw x y v)] w (Tells w (.int .i64 (v / 2))) := by
  have e : v / 2 = BM.cw x y v / 8589934592 := by unfold BM.cw; split <;> omega
  rw [e]; exact seq_any _ (by unfold BM.cw; split <;> omega) (by unfold BM.cw; split <;> omega) w
theorem bk_done (x y v : Int) (h0 : 0 ≤ x) (h1 : x < 4294967296) (h2 : 0 ≤ y) (h3 : y < 256) (h4 : 0 ≤ v) (h5 : v < 4294967296) (w : World) : Calls Try.prog 38 #[.int .u64 (BM.cw x y v)] w (Tells w (.bool (decide (128 ≤ y)))) := by
  have e : decide (128 ≤ y) = BM.doneB (BM.cw x y v) := by
    unfold BM.doneB BM.cw; rw [Bool.eq_iff_iff, decide_eq_true_iff, beq_iff_eq]; split <;> omega
  rw [e]; exact done_any _ (by unfold BM.cw; split <;> omega) (by unfold BM.cw; split <;> omega) w
theorem bk_val (x y v : Int) (h0 : 0 ≤ x) (h1 : x < 4294967296) (h2 : 0 ≤ y) (h3 : y < 256) (h4 : 0 ≤ v) (h5 : v < 4294967296) (w : World) : Calls Try.prog 40 #[.int .u64 (BM.cw x y v)] w (Tells w (.int .u32 x)) := by
  have e : x = BM.cw x y v % 4294967296 := by unfold BM.cw; split <;> omega
  have c := val_any (BM.cw x y v) (by unfold BM.cw; split <;> omega) (by unfold BM.cw; split <;> omega) w
  rw [← e] at c; exact c
set_option maxRecDepth 100000 in
set_option maxHeartbeats 4000000 in
theorem bitsBack_walk (x y v : Int) (h0 : 0 ≤ x) (h1 : x < 4294967296) (h2 : 0 ≤ y) (h3 : y < 256) (h4 : 0 ≤ v) (h5 : v < 4294967296) (w : World) :
    Calls Try.prog 6 #[.int .u32 x, .int .u8 y, .int .u32 v] w (Tells w (.bool true)) := by
  have hx := Ext.refl w
  go_enter Try.func6, Try.ntmps6
  go_wp2_with (first
    | (go_at_call 13; (with_reducible refine (up (awake_any _) (by assumption)).mono ?_); rintro e w' ⟨rfl, hx⟩)
    | (go_at_call 26; (with_reducible refine (up (bk_link x y v h0 h1 h2 h3 h4 h5 _) (by assumption)).mono ?_); rintro e w' ⟨rfl, hx⟩)
    | (go_at_call 28; (with_reducible refine (up (bk_entry x y v h0 h1 h2 h3 h4 h5 _) (by assumption)).mono ?_); rintro e w' ⟨rfl, hx⟩)
    | (go_at_call 32; (with_reducible refine (up (bk_top x y v h0 h1 h2 h3 h4 h5 _) (by assumption)).mono ?_); rintro e w' ⟨rfl, hx⟩)
    | (go_at_call 30; (with_reducible refine (up (bk_cell x y v h0 h1 h2 h3 h4 h5 _) (by assumption)).mono ?_); rintro e w' ⟨rfl, hx⟩)
    | (go_at_call 14; (with_reducible refine (up (bk_to_l x y v h0 h1 h2 h3 h4 h5 _) (by assumption)).mono ?_); rintro e w' ⟨rfl, hx⟩)
    | (go_at_call 16; (with_reducible refine (up (bk_by_l x y v h0 h1 h2 h3 h4 h5 _) (by assumption)).mono ?_); rintro e w' ⟨rfl, hx⟩)
    | (go_at_call 18; (with_reducible refine (up (bk_dirty x y v h0 h1 h2 h3 h4 h5 _) (by assumption)).mono ?_); rintro e w' ⟨rfl, hx⟩)
    | (go_at_call 24; (with_reducible refine (up (bk_right0 x y v h0 h1 h2 h3 h4 h5 _) (by assumption)).mono ?_); rintro e w' ⟨rfl, hx⟩)
    | (go_at_call 24; (with_reducible refine (up (bk_right1 x y v h0 h1 h2 h3 h4 h5 _) (by assumption)).mono ?_); rintro e w' ⟨rfl, hx⟩)
    | (go_at_call 24; (with_reducible refine (up (bk_right2 x y v h0 h1 h2 h3 h4 h5 _) (by assumption)).mono ?_); rintro e w' ⟨rfl, hx⟩)
    | (go_at_call 14; (with_reducible refine (up (bk_to_e x y v h0 h1 h2 h3 h4 h5 _) (by assumption)).mono ?_); rintro e w' ⟨rfl, hx⟩)
    | (go_at_call 34; (with_reducible refine (up (bk_stamp x y v h0 h1 h2 h3 h4 h5 _) (by assumption)).mono ?_); rintro e w' ⟨rfl, hx⟩)
    | (go_at_call 42; (with_reducible refine (up (bk_ver x y v h0 h1 h2 h3 h4 h5 _) (by assumption)).mono ?_); rintro e w' ⟨rfl, hx⟩)
    | (go_at_call 36; (with_reducible refine (up (bk_seq x y v h0 h1 h2 h3 h4 h5 _) (by assumption)).mono ?_); rintro e w' ⟨rfl, hx⟩)
    | (go_at_call 38; (with_reducible refine (up (bk_done x y v h0 h1 h2 h3 h4 h5 _) (by assumption)).mono ?_); rintro e w' ⟨rfl, hx⟩)
    | (go_at_call 40; (with_reducible refine (up (bk_val x y v h0 h1 h2 h3 h4 h5 _) (by assumption)).mono ?_); rintro e w' ⟨rfl, hx⟩))
  go_ret
  exact ⟨rfl, by assumption⟩

namespace bitsBack
set_option maxRecDepth 100000 in
theorem lifted (os : Os) (started : os.Started) (H : Type) (enc : TypeId × Value → H) :
    ReturnsInHanded {} Try.checked os 6 .any (Rows.bitsBackSpec.pre6 enc Try.prog Try.f6 Rows.bitsBackRow.domain false) (Rows.bitsBackSpec.post enc Try.prog Try.f6 false true false false) := by
  refine returnsInHanded_of_change (C := Try.checked) own started (by kernel_rfl) Try.func6
    (ChangeSpec.witness6 (enc := enc) (C := Try.checked) false ⟨#[], #[.int .u32 0, .int .u8 0, .int .u32 0], []⟩ 8 (by kernel_rfl) (by kernel_rfl) (by kernel_rfl) (by kernel_rfl)) ?_
  intro W base args ds gs before hval0 hW hcnd _
  have hval : ∀ (j : Nat) t v, Try.f6.params[j]? = some t → args[j]? = some v → Value.okWide Try.prog W .any base t v := hval0
  have hW' := hW
  obtain ⟨p, q, hA0, hV, rfl, hfz, hnd⟩ := hW
  have hA : DataW.TrodAll enc Try.prog W 0 (fun _ => true) true Try.f6.params.toList args.toList ds p := hA0
  rw [Try.params6] at hA hval
  obtain ⟨v0, vs0, d0, ds0, p0, q0, hargs, rfl, rfl, h0, r0⟩ := trodAll_cons hA
  obtain ⟨v1, vs1, d1, ds1, p1, q1, rfl, rfl, rfl, h1, r1⟩ := trodAll_cons r0
  obtain ⟨v2, vs2, d2, ds2, p2, q2, rfl, rfl, rfl, h2, r2⟩ := trodAll_cons r1
  obtain ⟨rfl, rfl, rfl⟩ := trodAll_nil r2
  obtain rfl : args = #[v0, v1, v2] := by cases args; simp_all
  obtain ⟨rfl, rfl⟩ := trodVars_none hV
  obtain ⟨a0, rfl, rfl, rfl, w0⟩ := open_int Try.underlying28 (hval 0 28 v0 rfl rfl) h0
  obtain ⟨a1, rfl, rfl, rfl, w1⟩ := open_int Try.underlying5 (hval 1 5 v1 rfl rfl) h1
  obtain ⟨a2, rfl, rfl, rfl, w2⟩ := open_int Try.underlying28 (hval 2 28 v2 rfl rfl) h2
  clear hA0 hval0
  simp only [List.append_nil] at hW'
  refine (bitsBack_walk a0 a1 a2 (wf_u32 w0).1 (wf_u32 w0).2 (wf_u8 w1).1 (wf_u8 w1).2 (wf_u32 w2).1 (wf_u32 w2).2 W).mono fun e W' ⟨he, hx⟩ => ?_
  subst he
  exact ⟨_, rfl, post_ext (pa := []) (pv := []) hW' (fun _ _ _ => (trodAll_cons_mk (shut_bool Try.underlying4 _) trodAll_mk0)) (fun sp _ => (trodAll_cons_mk (shut_int Try.underlying28 w0) (trodAll_cons_mk (shut_int Try.underlying5 w1) (trodAll_cons_mk (shut_int Try.underlying28 w2) trodAll_mk0)))) (fun _ _ => rfl) rfl hx (ok_one (by kernel_rfl) rfl (okWide_bool_mk Try.underlying4 _))⟩

theorem over : Rows.bitsBackRow.holds Try.pinned (OpenSpec.ofChange Rows.bitsBackSpec) :=
  OpenClaim.holds_of_wide 6 Try.f6 rfl rfl rfl rfl rfl rfl rfl ⟨rfl, rfl, rfl, rfl, rfl⟩ rfl rfl rfl rfl rfl (by kernel_rfl) Try.func6 (by kernel_rfl)
    (of_decide_eq_true (by kernel_rfl)) (by unfold Func.isWrapper; first | (rw [if_pos (by decide +kernel)]; kernel_rfl) | (rw [if_neg (by decide +kernel)]; exact ⟨rfl, rfl⟩))
    (fun os started H enc _ => lifted os started H enc)
end bitsBack

theorem bitsBack_holds : Rows.BitsBackSaid := bitsBack.over
#print axioms bitsBack_holds
end Go.Proofs.Ytkeppicoobeoeaa
