/- For every word and all numbers of slots and threads, a link that is made dirty tells the same as the clean one, and each is made of the other: the law answers true, and changes nothing. Conditions: none. -/
import Derived.Test.YtkeppicoobeoeaaBitsRight
namespace Go.Proofs.Ytkeppicoobeoeaa
open Go.ChangeShapes Go.WideShapes Go.ChangeAt Go.RowKit
set_option linter.unusedVariables false
namespace BM
def so (x : Int) : Int := x % 9223372036854775808 + 9223372036854775808
end BM
theorem soil_so (x : Int) (h0 : 0 ≤ x) (h1 : x < 18446744073709551616) (w : World) : Calls Try.prog 22 #[.int .u64 x] w (Tells w (.int .u64 (BM.so x))) := soil_any x h0 h1 w
theorem to_s (x : Int) (h0 : 0 ≤ x) (h1 : x < 18446744073709551616) (w : World) : Calls Try.prog 14 #[.int .u64 (BM.so x)] w (Tells w (.int .i64 (BM.tx x))) := by
  have e : BM.tx x = BM.so x % 4294967296 - 1 := by unfold BM.tx BM.so; omega
  rw [e]; exact to_any _ (by unfold BM.so; omega) (by unfold BM.so; omega) w
theorem by_s (x : Int) (h0 : 0 ≤ x) (h1 : x < 18446744073709551616) (w : World) : Calls Try.prog 16 #[.int .u64 (BM.so x)] w (Tells w (.int .i64 (BM.bx x))) := by
  have e : BM.bx x = BM.so x / 4294967296 % 128 - 1 := by unfold BM.bx BM.so; omega
  rw [e]; exact by_any _ (by unfold BM.so; omega) (by unfold BM.so; omega) w
theorem dirty_s (x : Int) (h0 : 0 ≤ x) (h1 : x < 18446744073709551616) (w : World) : Calls Try.prog 18 #[.int .u64 (BM.so x)] w (Tells w (.bool true)) := by
  have e : true = BM.dirtyB (BM.so x) := by
    unfold BM.dirtyB BM.so; symm; simp; omega
  rw [e]; exact dirty_any _ (by unfold BM.so; omega) (by unfold BM.so; omega) w
theorem right_s (x s t : Int) (h0 : 0 ≤ x) (h1 : x < 18446744073709551616) (w : World) : Calls Try.prog 24 #[.int .u64 (BM.so x), .int .i64 s, .int .i64 t] w (Tells w (.bool (BM.rightB x s t))) := by
  have e : BM.rightB x s t = BM.rightB (BM.so x) s t := by
    have e1 : BM.tx (BM.so x) = BM.tx x := by unfold BM.tx BM.so; omega
    have e2 : BM.bx (BM.so x) = BM.bx x := by unfold BM.bx BM.so; omega
    have e3 : BM.lk (BM.so x) = BM.lk x := by unfold BM.lk BM.so; omega
    have e4 : x % 9223372036854775808 = BM.so x % 9223372036854775808 := by unfold BM.so; omega
    unfold BM.rightB BM.wholeB
    rw [e1, e2, e3, show BM.cl (BM.so x) = BM.cl x from e4.symm]
  rw [e]; exact right_any _ s t (by unfold BM.so; omega) (by unfold BM.so; omega) w
theorem to_c (x : Int) (h0 : 0 ≤ x) (h1 : x < 18446744073709551616) (w : World) : Calls Try.prog 14 #[.int .u64 (BM.cl x)] w (Tells w (.int .i64 (BM.tx x))) := by
  have e : BM.tx x = BM.cl x % 4294967296 - 1 := by unfold BM.tx BM.cl; omega
  rw [e]; exact to_any _ (by unfold BM.cl; omega) (by unfold BM.cl; omega) w
theorem by_c (x : Int) (h0 : 0 ≤ x) (h1 : x < 18446744073709551616) (w : World) : Calls Try.prog 16 #[.int .u64 (BM.cl x)] w (Tells w (.int .i64 (BM.bx x))) := by
  have e : BM.bx x = BM.cl x / 4294967296 % 128 - 1 := by unfold BM.bx BM.cl; omega
  rw [e]; exact by_any _ (by unfold BM.cl; omega) (by unfold BM.cl; omega) w
theorem dirty_c (x : Int) (h0 : 0 ≤ x) (h1 : x < 18446744073709551616) (w : World) : Calls Try.prog 18 #[.int .u64 (BM.cl x)] w (Tells w (.bool false)) := by
  have e : false = BM.dirtyB (BM.cl x) := by
    unfold BM.dirtyB BM.cl; symm; simp; omega
  rw [e]; exact dirty_any _ (by unfold BM.cl; omega) (by unfold BM.cl; omega) w
theorem right_c (x s t : Int) (h0 : 0 ≤ x) (h1 : x < 18446744073709551616) (w : World) : Calls Try.prog 24 #[.int .u64 (BM.cl x), .int .i64 s, .int .i64 t] w (Tells w (.bool (BM.rightB x s t))) := by
  have e : BM.rightB x s t = BM.rightB (BM.cl x) s t := by
    have e1 : BM.tx (BM.cl x) = BM.tx x := by unfold BM.tx BM.cl; omega
    have e2 : BM.bx (BM.cl x) = BM.bx x := by unfold BM.bx BM.cl; omega
    have e3 : BM.lk (BM.cl x) = BM.lk x := by unfold BM.lk BM.cl; omega
    have e4 : x % 9223372036854775808 = BM.cl x % 9223372036854775808 := by unfold BM.cl; omega
    unfold BM.rightB BM.wholeB
    rw [e1, e2, e3, show BM.cl (BM.cl x) = BM.cl x from e4.symm]
  rw [e]; exact right_any _ s t (by unfold BM.cl; omega) (by unfold BM.cl; omega) w
theorem clean_s (x : Int) (h0 : 0 ≤ x) (h1 : x < 18446744073709551616) (w : World) : Calls Try.prog 20 #[.int .u64 (BM.so x)] w (Tells w (.int .u64 (BM.cl x))) := by
  have e : BM.cl x = BM.so x % 9223372036854775808 := by unfold BM.cl BM.so; omega
  rw [e]; exact clean_any _ (by unfold BM.so; omega) (by unfold BM.so; omega) w
theorem soil_c (x : Int) (h0 : 0 ≤ x) (h1 : x < 18446744073709551616) (w : World) : Calls Try.prog 22 #[.int .u64 (BM.cl x)] w (Tells w (.int .u64 (BM.so x))) := by
  have e : BM.so x = BM.cl x % 9223372036854775808 + 9223372036854775808 := by unfold BM.cl BM.so; omega
  rw [e]; exact soil_any _ (by unfold BM.cl; omega) (by unfold BM.cl; omega) w
set_option maxHeartbeats 2000000 in
theorem bitsDirty_walk (x s t : Int) (h0 : 0 ≤ x) (h1 : x < 18446744073709551616) (w : World) :
    Calls Try.prog 7 #[.int .u64 x, .int .i64 s, .int .i64 t] w (Tells w (.bool true)) := by
  have hx := Ext.refl w
  have c1 : (BM.so x != BM.cl x) = true := by unfold BM.so BM.cl; simp; omega
  cases c2 : (x == BM.so x)
  · have c3 : (x == BM.cl x) = true := by
      rw [beq_eq_false_iff_ne] at c2; rw [beq_iff_eq]; unfold BM.so at c2; unfold BM.cl; omega
    go_enter Try.func7, Try.ntmps7
    go_wp2_with (first
      | (go_at_call 13; (with_reducible refine (up (awake_any _) (by assumption)).mono ?_); rintro e w' ⟨rfl, hx⟩)
      | (go_at_call 20; (with_reducible refine (up (clean_s x h0 h1 _) (by assumption)).mono ?_); rintro e w' ⟨rfl, hx⟩)
      | (go_at_call 22; (with_reducible refine (up (soil_c x h0 h1 _) (by assumption)).mono ?_); rintro e w' ⟨rfl, hx⟩)
      | (go_at_call 22; (with_reducible refine (up (soil_so x h0 h1 _) (by assumption)).mono ?_); rintro e w' ⟨rfl, hx⟩)
      | (go_at_call 20; (with_reducible refine (up (clean_cl x h0 h1 _) (by assumption)).mono ?_); rintro e w' ⟨rfl, hx⟩)
      | (go_at_call 14; (with_reducible refine (up (to_s x h0 h1 _) (by assumption)).mono ?_); rintro e w' ⟨rfl, hx⟩)
      | (go_at_call 14; (with_reducible refine (up (to_c x h0 h1 _) (by assumption)).mono ?_); rintro e w' ⟨rfl, hx⟩)
      | (go_at_call 16; (with_reducible refine (up (by_s x h0 h1 _) (by assumption)).mono ?_); rintro e w' ⟨rfl, hx⟩)
      | (go_at_call 16; (with_reducible refine (up (by_c x h0 h1 _) (by assumption)).mono ?_); rintro e w' ⟨rfl, hx⟩)
      | (go_at_call 18; (with_reducible refine (up (dirty_s x h0 h1 _) (by assumption)).mono ?_); rintro e w' ⟨rfl, hx⟩)
      | (go_at_call 18; (with_reducible refine (up (dirty_c x h0 h1 _) (by assumption)).mono ?_); rintro e w' ⟨rfl, hx⟩)
      | (go_at_call 24; (with_reducible refine (up (right_s x s t h0 h1 _) (by assumption)).mono ?_); rintro e w' ⟨rfl, hx⟩)
      | (go_at_call 24; (with_reducible refine (up (right_c x s t h0 h1 _) (by assumption)).mono ?_); rintro e w' ⟨rfl, hx⟩))
    go_ret
    exact ⟨rfl, by assumption⟩
  · go_enter Try.func7, Try.ntmps7
    go_wp2_with (first
      | (go_at_call 13; (with_reducible refine (up (awake_any _) (by assumption)).mono ?_); rintro e w' ⟨rfl, hx⟩)
      | (go_at_call 20; (with_reducible refine (up (clean_s x h0 h1 _) (by assumption)).mono ?_); rintro e w' ⟨rfl, hx⟩)
      | (go_at_call 22; (with_reducible refine (up (soil_c x h0 h1 _) (by assumption)).mono ?_); rintro e w' ⟨rfl, hx⟩)
      | (go_at_call 22; (with_reducible refine (up (soil_so x h0 h1 _) (by assumption)).mono ?_); rintro e w' ⟨rfl, hx⟩)
      | (go_at_call 20; (with_reducible refine (up (clean_cl x h0 h1 _) (by assumption)).mono ?_); rintro e w' ⟨rfl, hx⟩)
      | (go_at_call 14; (with_reducible refine (up (to_s x h0 h1 _) (by assumption)).mono ?_); rintro e w' ⟨rfl, hx⟩)
      | (go_at_call 14; (with_reducible refine (up (to_c x h0 h1 _) (by assumption)).mono ?_); rintro e w' ⟨rfl, hx⟩)
      | (go_at_call 16; (with_reducible refine (up (by_s x h0 h1 _) (by assumption)).mono ?_); rintro e w' ⟨rfl, hx⟩)
      | (go_at_call 16; (with_reducible refine (up (by_c x h0 h1 _) (by assumption)).mono ?_); rintro e w' ⟨rfl, hx⟩)
      | (go_at_call 18; (with_reducible refine (up (dirty_s x h0 h1 _) (by assumption)).mono ?_); rintro e w' ⟨rfl, hx⟩)
      | (go_at_call 18; (with_reducible refine (up (dirty_c x h0 h1 _) (by assumption)).mono ?_); rintro e w' ⟨rfl, hx⟩)
      | (go_at_call 24; (with_reducible refine (up (right_s x s t h0 h1 _) (by assumption)).mono ?_); rintro e w' ⟨rfl, hx⟩)
      | (go_at_call 24; (with_reducible refine (up (right_c x s t h0 h1 _) (by assumption)).mono ?_); rintro e w' ⟨rfl, hx⟩))
    go_ret
    exact ⟨rfl, by assumption⟩

namespace bitsDirty
set_option maxRecDepth 100000 in
theorem lifted (os : Os) (started : os.Started) (H : Type) (enc : TypeId × Value → H) :
    ReturnsInHanded {} Try.checked os 7 .any (Rows.bitsDirtySpec.pre6 enc Try.prog Try.f7 Rows.bitsDirtyRow.domain false) (Rows.bitsDirtySpec.post enc Try.prog Try.f7 false true false false) := by
  refine returnsInHanded_of_change (C := Try.checked) own started (by kernel_rfl) Try.func7
    (ChangeSpec.witness6 (enc := enc) (C := Try.checked) false ⟨#[], #[.int .u64 0, .int .i64 0, .int .i64 0], []⟩ 8 (by kernel_rfl) (by kernel_rfl) (by kernel_rfl) (by kernel_rfl)) ?_
  intro W base args ds gs before hval0 hW hcnd _
  have hval : ∀ (j : Nat) t v, Try.f7.params[j]? = some t → args[j]? = some v → Value.okWide Try.prog W .any base t v := hval0
  have hW' := hW
  obtain ⟨p, q, hA0, hV, rfl, hfz, hnd⟩ := hW
  have hA : DataW.TrodAll enc Try.prog W 0 (fun _ => true) true Try.f7.params.toList args.toList ds p := hA0
  rw [Try.params7] at hA hval
  obtain ⟨v0, vs0, d0, ds0, p0, q0, hargs, rfl, rfl, h0, r0⟩ := trodAll_cons hA
  obtain ⟨v1, vs1, d1, ds1, p1, q1, rfl, rfl, rfl, h1, r1⟩ := trodAll_cons r0
  obtain ⟨v2, vs2, d2, ds2, p2, q2, rfl, rfl, rfl, h2, r2⟩ := trodAll_cons r1
  obtain ⟨rfl, rfl, rfl⟩ := trodAll_nil r2
  obtain rfl : args = #[v0, v1, v2] := by cases args; simp_all
  obtain ⟨rfl, rfl⟩ := trodVars_none hV
  obtain ⟨a0, rfl, rfl, rfl, w0⟩ := open_int Try.underlying22 (hval 0 22 v0 rfl rfl) h0
  obtain ⟨a1, rfl, rfl, rfl, w1⟩ := open_int Try.underlying3 (hval 1 3 v1 rfl rfl) h1
  obtain ⟨a2, rfl, rfl, rfl, w2⟩ := open_int Try.underlying3 (hval 2 3 v2 rfl rfl) h2
  clear hA0 hval0
  simp only [List.append_nil] at hW'
  refine (bitsDirty_walk a0 a1 a2 (wf_u64 w0).1 (wf_u64 w0).2 W).mono fun e W' ⟨he, hx⟩ => ?_
  subst he
  exact ⟨_, rfl, post_ext (pa := []) (pv := []) hW' (fun _ _ _ => (trodAll_cons_mk (shut_bool Try.underlying4 _) trodAll_mk0)) (fun sp _ => (trodAll_cons_mk (shut_int Try.underlying22 w0) (trodAll_cons_mk (shut_int Try.underlying3 w1) (trodAll_cons_mk (shut_int Try.underlying3 w2) trodAll_mk0)))) (fun _ _ => rfl) rfl hx (ok_one (by kernel_rfl) rfl (okWide_bool_mk Try.underlying4 _))⟩

theorem over : Rows.bitsDirtyRow.holds Try.pinned (OpenSpec.ofChange Rows.bitsDirtySpec) :=
  OpenClaim.holds_of_wide 7 Try.f7 rfl rfl rfl rfl rfl rfl rfl ⟨rfl, rfl, rfl, rfl, rfl⟩ rfl rfl rfl rfl rfl (by kernel_rfl) Try.func7 (by kernel_rfl)
    (of_decide_eq_true (by kernel_rfl)) (by unfold Func.isWrapper; first | (rw [if_pos (by decide +kernel)]; kernel_rfl) | (rw [if_neg (by decide +kernel)]; exact ⟨rfl, rfl⟩))
    (fun os started H enc _ => lifted os started H enc)
end bitsDirty

theorem bitsDirty_holds : Rows.BitsDirtySaid := bitsDirty.over
#print axioms bitsDirty_holds
end Go.Proofs.Ytkeppicoobeoeaa
