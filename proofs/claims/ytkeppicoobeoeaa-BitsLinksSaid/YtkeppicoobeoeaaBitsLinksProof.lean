/- For every word and all numbers of slots and threads, what the package bits tells of the word as a link is what the document's reference tells: the law answers true, and changes nothing. Conditions: none. -/
import Derived.Test.YtkeppicoobeoeaaBitsRight
namespace Go.Proofs.Ytkeppicoobeoeaa
open Go.ChangeShapes Go.WideShapes Go.ChangeAt Go.RowKit
set_option linter.unusedVariables false
set_option maxHeartbeats 2000000 in
theorem bitsLinks_walk (x s t : Int) (h0 : 0 ≤ x) (h1 : x < 18446744073709551616) (w : World) :
    Calls Try.prog 3 #[.int .u64 x, .int .i64 s, .int .i64 t] w (Tells w (.bool true)) := by
  have hx := Ext.refl w
  go_enter Try.func3, Try.ntmps3
  go_wp2_with (first
    | (go_at_call 13; (with_reducible refine (up (awake_any _) (by assumption)).mono ?_); rintro e w' ⟨rfl, hx⟩)
    | (go_at_call 14; (with_reducible refine (up (to_any _ h0 h1 _) (by assumption)).mono ?_); rintro e w' ⟨rfl, hx⟩)
    | (go_at_call 15; (with_reducible refine (up (rto_any _ h0 h1 _) (by assumption)).mono ?_); rintro e w' ⟨rfl, hx⟩)
    | (go_at_call 16; (with_reducible refine (up (by_any _ h0 h1 _) (by assumption)).mono ?_); rintro e w' ⟨rfl, hx⟩)
    | (go_at_call 17; (with_reducible refine (up (rby_any _ h0 h1 _) (by assumption)).mono ?_); rintro e w' ⟨rfl, hx⟩)
    | (go_at_call 18; (with_reducible refine (up (dirty_any _ h0 h1 _) (by assumption)).mono ?_); rintro e w' ⟨rfl, hx⟩)
    | (go_at_call 19; (with_reducible refine (up (rdirty_any _ h0 h1 _) (by assumption)).mono ?_); rintro e w' ⟨rfl, hx⟩)
    | (go_at_call 20; (with_reducible refine (up (clean_any _ h0 h1 _) (by assumption)).mono ?_); rintro e w' ⟨rfl, hx⟩)
    | (go_at_call 21; (with_reducible refine (up (rclean_any _ h0 h1 _) (by assumption)).mono ?_); rintro e w' ⟨rfl, hx⟩)
    | (go_at_call 22; (with_reducible refine (up (soil_any _ h0 h1 _) (by assumption)).mono ?_); rintro e w' ⟨rfl, hx⟩)
    | (go_at_call 23; (with_reducible refine (up (rsoil_any _ h0 h1 _) (by assumption)).mono ?_); rintro e w' ⟨rfl, hx⟩)
    | (go_at_call 24; (with_reducible refine (up (right_any _ _ _ h0 h1 _) (by assumption)).mono ?_); rintro e w' ⟨rfl, hx⟩)
    | (go_at_call 25; (with_reducible refine (up (rright_any _ _ _ h0 h1 _) (by assumption)).mono ?_); rintro e w' ⟨rfl, hx⟩))
  go_ret
  exact ⟨rfl, by assumption⟩

namespace bitsLinks
set_option maxRecDepth 100000 in
theorem lifted (os : Os) (started : os.Started) (H : Type) (enc : TypeId × Value → H) :
    ReturnsInHanded {} Try.checked os 3 .any (Rows.bitsLinksSpec.pre6 enc Try.prog Try.f3 Rows.bitsLinksRow.domain false) (Rows.bitsLinksSpec.post enc Try.prog Try.f3 false true false false) := by
  refine returnsInHanded_of_change (C := Try.checked) own started (by kernel_rfl) Try.func3
    (ChangeSpec.witness6 (enc := enc) (C := Try.checked) false ⟨#[], #[.int .u64 0, .int .i64 0, .int .i64 0], []⟩ 8 (by kernel_rfl) (by kernel_rfl) (by kernel_rfl) (by kernel_rfl)) ?_
  intro W base args ds gs before hval0 hW hcnd _
  have hval : ∀ (j : Nat) t v, Try.f3.params[j]? = some t → args[j]? = some v → Value.okWide Try.prog W .any base t v := hval0
  have hW' := hW
  obtain ⟨p, q, hA0, hV, rfl, hfz, hnd⟩ := hW
  have hA : DataW.TrodAll enc Try.prog W 0 (fun _ => true) true Try.f3.params.toList args.toList ds p := hA0
  rw [Try.params3] at hA hval
  obtain ⟨v0, vs0, d0, ds0, p0, q0, hargs, rfl, rfl, h0, r0⟩ := trodAll_cons hA
  obtain ⟨v1, vs1, d1, ds1, p1, q1, rfl, rfl, rfl, h1, r1⟩ := trodAll_cons r0
  obtain ⟨v2, vs2, d2, ds2, p2, q2, rfl, rfl, rfl, h2, r2⟩ := trodAll_cons r1
  obtain ⟨rfl, rfl, rfl⟩ := trodAll_nil r2
  obtain rfl : args = #[v0, v1, v2] := by cases args; simp_all
  obtain ⟨rfl, rfl⟩ := trodVars_none hV
  obtain ⟨a0, rfl, rfl, rfl, w0⟩ := open_int Try.underlying22 (hval 0 22 v0 rfl rfl) h0
  obtain ⟨a1, rfl, rfl, rfl, w1⟩ := open_int Try.underlying3 (hval 1 3 v1 rfl rfl) h1
  obtain ⟨a2, rfl, rfl, rfl, w2⟩ := open_int Try.underlying3 (hval 2 3 v2 rfl rfl) h2
  clear hA0 hval0
  simp only [List.append_nil] at hW'
  refine (bitsLinks_walk a0 a1 a2 (wf_u64 w0).1 (wf_u64 w0).2 W).mono fun e W' ⟨he, hx⟩ => ?_
  subst he
  exact ⟨_, rfl, post_ext (pa := []) (pv := []) hW' (fun _ _ _ => (trodAll_cons_mk (shut_bool Try.underlying4 _) trodAll_mk0)) (fun sp _ => (trodAll_cons_mk (shut_int Try.underlying22 w0) (trodAll_cons_mk (shut_int Try.underlying3 w1) (trodAll_cons_mk (shut_int Try.underlying3 w2) trodAll_mk0)))) (fun _ _ => rfl) rfl hx (ok_one (by kernel_rfl) rfl (okWide_bool_mk Try.underlying4 _))⟩

theorem over : Rows.bitsLinksRow.holds Try.pinned (OpenSpec.ofChange Rows.bitsLinksSpec) :=
  OpenClaim.holds_of_wide 3 Try.f3 rfl rfl rfl rfl rfl rfl rfl ⟨rfl, rfl, rfl, rfl, rfl⟩ rfl rfl rfl rfl rfl (by kernel_rfl) Try.func3 (by kernel_rfl)
    (of_decide_eq_true (by kernel_rfl)) (by unfold Func.isWrapper; first | (rw [if_pos (by decide +kernel)]; kernel_rfl) | (rw [if_neg (by decide +kernel)]; exact ⟨rfl, rfl⟩))
    (fun os started H enc _ => lifted os started H enc)
end bitsLinks

theorem bitsLinks_holds : Rows.BitsLinksSaid := bitsLinks.over
#print axioms bitsLinks_holds
end Go.Proofs.Ytkeppicoobeoeaa
