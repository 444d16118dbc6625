/- For all numbers, the links, entries, cells and tops that the package bits makes are those of the document's reference: the law answers true, and changes nothing. Conditions: none. -/
import Derived.Test.YtkeppicoobeoeaaBitsRight
namespace Go.Proofs.Ytkeppicoobeoeaa
open Go.ChangeShapes Go.WideShapes Go.ChangeAt Go.RowKit
set_option linter.unusedVariables false
set_option maxHeartbeats 2000000 in
theorem bitsMade_walk (a b v : Int) (h0 : -9223372036854775808 ≤ a) (h1 : a < 9223372036854775808) (h2 : -9223372036854775808 ≤ b) (h3 : b < 9223372036854775808) (h4 : 0 ≤ v) (h5 : v < 4294967296) (w : World) :
    Calls Try.prog 4 #[.int .i64 a, .int .i64 b, .int .u32 v] w (Tells w (.bool true)) := by
  have hx := Ext.refl w
  cases c : (a.tmod 2 == 0)
  all_goals
    go_enter Try.func4, Try.ntmps4
    go_wp2_with (first
      | (go_at_call 13; (with_reducible refine (up (awake_any _) (by assumption)).mono ?_); rintro e w' ⟨rfl, hx⟩)
      | (go_at_call 26; (with_reducible refine (up (link_any _ _ h0 h1 h2 h3 _) (by assumption)).mono ?_); rintro e w' ⟨rfl, hx⟩)
      | (go_at_call 27; (with_reducible refine (up (rlink_any _ _ h0 h1 h2 h3 _) (by assumption)).mono ?_); rintro e w' ⟨rfl, hx⟩)
      | (go_at_call 28; (with_reducible refine (up (entry_any _ _ h0 h1 h2 h3 _) (by assumption)).mono ?_); rintro e w' ⟨rfl, hx⟩)
      | (go_at_call 29; (with_reducible refine (up (rentry_any _ _ h0 h1 h2 h3 _) (by assumption)).mono ?_); rintro e w' ⟨rfl, hx⟩)
      | (go_at_call 32; (with_reducible refine (up (top_any _ _ h0 h1 h4 h5 _) (by assumption)).mono ?_); rintro e w' ⟨rfl, hx⟩)
      | (go_at_call 33; (with_reducible refine (up (rtop_any _ _ h0 h1 h4 h5 _) (by assumption)).mono ?_); rintro e w' ⟨rfl, hx⟩)
      | (go_at_call 30; (with_reducible refine (up (cellT_any _ _ h0 h1 h4 h5 _) (by assumption)).mono ?_); rintro e w' ⟨rfl, hx⟩)
      | (go_at_call 31; (with_reducible refine (up (rcellT_any _ _ h0 h1 h4 h5 _) (by assumption)).mono ?_); rintro e w' ⟨rfl, hx⟩)
      | (go_at_call 30; (with_reducible refine (up (cellF_any _ _ h0 h1 h4 h5 _) (by assumption)).mono ?_); rintro e w' ⟨rfl, hx⟩)
      | (go_at_call 31; (with_reducible refine (up (rcellF_any _ _ h0 h1 h4 h5 _) (by assumption)).mono ?_); rintro e w' ⟨rfl, hx⟩))
    go_ret
    exact ⟨rfl, by assumption⟩

namespace bitsMade
set_option maxRecDepth 100000 in
theorem lifted (os : Os) (started : os.Started) (H : Type) (enc : TypeId × Value → H) :
    ReturnsInHanded {} Try.checked os 4 .any (Rows.bitsMadeSpec.pre6 enc Try.prog Try.f4 Rows.bitsMadeRow.domain false) (Rows.bitsMadeSpec.post enc Try.prog Try.f4 false true false false) := by
  refine returnsInHanded_of_change (C := Try.checked) own started (by kernel_rfl) Try.func4
    (ChangeSpec.witness6 (enc := enc) (C := Try.checked) false ⟨#[], #[.int .i64 0, .int .i64 0, .int .u32 0], []⟩ 8 (by kernel_rfl) (by kernel_rfl) (by kernel_rfl) (by kernel_rfl)) ?_
  intro W base args ds gs before hval0 hW hcnd _
  have hval : ∀ (j : Nat) t v, Try.f4.params[j]? = some t → args[j]? = some v → Value.okWide Try.prog W .any base t v := hval0
  have hW' := hW
  obtain ⟨p, q, hA0, hV, rfl, hfz, hnd⟩ := hW
  have hA : DataW.TrodAll enc Try.prog W 0 (fun _ => true) true Try.f4.params.toList args.toList ds p := hA0
  rw [Try.params4] at hA hval
  obtain ⟨v0, vs0, d0, ds0, p0, q0, hargs, rfl, rfl, h0, r0⟩ := trodAll_cons hA
  obtain ⟨v1, vs1, d1, ds1, p1, q1, rfl, rfl, rfl, h1, r1⟩ := trodAll_cons r0
  obtain ⟨v2, vs2, d2, ds2, p2, q2, rfl, rfl, rfl, h2, r2⟩ := trodAll_cons r1
  obtain ⟨rfl, rfl, rfl⟩ := trodAll_nil r2
  obtain rfl : args = #[v0, v1, v2] := by cases args; simp_all
  obtain ⟨rfl, rfl⟩ := trodVars_none hV
  obtain ⟨a0, rfl, rfl, rfl, w0⟩ := open_int Try.underlying3 (hval 0 3 v0 rfl rfl) h0
  obtain ⟨a1, rfl, rfl, rfl, w1⟩ := open_int Try.underlying3 (hval 1 3 v1 rfl rfl) h1
  obtain ⟨a2, rfl, rfl, rfl, w2⟩ := open_int Try.underlying28 (hval 2 28 v2 rfl rfl) h2
  clear hA0 hval0
  simp only [List.append_nil] at hW'
  refine (bitsMade_walk a0 a1 a2 (wf_i64 w0).1 (wf_i64 w0).2 (wf_i64 w1).1 (wf_i64 w1).2 (wf_u32 w2).1 (wf_u32 w2).2 W).mono fun e W' ⟨he, hx⟩ => ?_
  subst he
  exact ⟨_, rfl, post_ext (pa := []) (pv := []) hW' (fun _ _ _ => (trodAll_cons_mk (shut_bool Try.underlying4 _) trodAll_mk0)) (fun sp _ => (trodAll_cons_mk (shut_int Try.underlying3 w0) (trodAll_cons_mk (shut_int Try.underlying3 w1) (trodAll_cons_mk (shut_int Try.underlying28 w2) trodAll_mk0)))) (fun _ _ => rfl) rfl hx (ok_one (by kernel_rfl) rfl (okWide_bool_mk Try.underlying4 _))⟩

theorem over : Rows.bitsMadeRow.holds Try.pinned (OpenSpec.ofChange Rows.bitsMadeSpec) :=
  OpenClaim.holds_of_wide 4 Try.f4 rfl rfl rfl rfl rfl rfl rfl ⟨rfl, rfl, rfl, rfl, rfl⟩ rfl rfl rfl rfl rfl (by kernel_rfl) Try.func4 (by kernel_rfl)
    (of_decide_eq_true (by kernel_rfl)) (by unfold Func.isWrapper; first | (rw [if_pos (by decide +kernel)]; kernel_rfl) | (rw [if_neg (by decide +kernel)]; exact ⟨rfl, rfl⟩))
    (fun os started H enc _ => lifted os started H enc)
end bitsMade

theorem bitsMade_holds : Rows.BitsMadeSaid := bitsMade.over
#print axioms bitsMade_holds
end Go.Proofs.Ytkeppicoobeoeaa
