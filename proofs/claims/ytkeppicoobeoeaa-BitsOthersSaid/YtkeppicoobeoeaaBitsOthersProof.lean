/- For every word, what the package bits tells of it as an entry, a cell and a top is what the document's reference tells: the law answers true, and changes nothing. Conditions: none. -/
import Derived.Test.YtkeppicoobeoeaaBitsRight
namespace Go.Proofs.Ytkeppicoobeoeaa
open Go.ChangeShapes Go.WideShapes Go.ChangeAt Go.RowKit
set_option linter.unusedVariables false
set_option maxHeartbeats 1000000 in
theorem bitsOthers_walk (x : Int) (h0 : 0 ≤ x) (h1 : x < 18446744073709551616) (w : World) :
    Calls Try.prog 5 #[.int .u64 x] w (Tells w (.bool true)) := by
  have hx := Ext.refl w
  go_enter Try.func5, Try.ntmps5
  go_wp2_with (first
    | (go_at_call 13; (with_reducible refine (up (awake_any _) (by assumption)).mono ?_); rintro e w' ⟨rfl, hx⟩)
    | (go_at_call 34; (with_reducible refine (up (stamp_any _ h0 h1 _) (by assumption)).mono ?_); rintro e w' ⟨rfl, hx⟩)
    | (go_at_call 35; (with_reducible refine (up (rstamp_any _ h0 h1 _) (by assumption)).mono ?_); rintro e w' ⟨rfl, hx⟩)
    | (go_at_call 36; (with_reducible refine (up (seq_any _ h0 h1 _) (by assumption)).mono ?_); rintro e w' ⟨rfl, hx⟩)
    | (go_at_call 37; (with_reducible refine (up (rseq_any _ h0 h1 _) (by assumption)).mono ?_); rintro e w' ⟨rfl, hx⟩)
    | (go_at_call 38; (with_reducible refine (up (done_any _ h0 h1 _) (by assumption)).mono ?_); rintro e w' ⟨rfl, hx⟩)
    | (go_at_call 39; (with_reducible refine (up (rdone_any _ h0 h1 _) (by assumption)).mono ?_); rintro e w' ⟨rfl, hx⟩)
    | (go_at_call 40; (with_reducible refine (up (val_any _ h0 h1 _) (by assumption)).mono ?_); rintro e w' ⟨rfl, hx⟩)
    | (go_at_call 41; (with_reducible refine (up (rval_any _ h0 h1 _) (by assumption)).mono ?_); rintro e w' ⟨rfl, hx⟩)
    | (go_at_call 42; (with_reducible refine (up (ver_any _ h0 h1 _) (by assumption)).mono ?_); rintro e w' ⟨rfl, hx⟩)
    | (go_at_call 43; (with_reducible refine (up (rver_any _ h0 h1 _) (by assumption)).mono ?_); rintro e w' ⟨rfl, hx⟩))
  go_ret
  exact ⟨rfl, by assumption⟩

namespace bitsOthers
set_option maxRecDepth 100000 in
theorem lifted (os : Os) (started : os.Started) (H : Type) (enc : TypeId × Value → H) :
    ReturnsInHanded {} Try.checked os 5 .any (Rows.bitsOthersSpec.pre6 enc Try.prog Try.f5 Rows.bitsOthersRow.domain false) (Rows.bitsOthersSpec.post enc Try.prog Try.f5 false true false false) := by
  refine returnsInHanded_of_change (C := Try.checked) own started (by kernel_rfl) Try.func5
    (ChangeSpec.witness6 (enc := enc) (C := Try.checked) false ⟨#[], #[.int .u64 0], []⟩ 8 (by kernel_rfl) (by kernel_rfl) (by kernel_rfl) (by kernel_rfl)) ?_
  intro W base args ds gs before hval0 hW hcnd _
  have hval : ∀ (j : Nat) t v, Try.f5.params[j]? = some t → args[j]? = some v → Value.okWide Try.prog W .any base t v := hval0
  have hW' := hW
  obtain ⟨p, q, hA0, hV, rfl, hfz, hnd⟩ := hW
  have hA : DataW.TrodAll enc Try.prog W 0 (fun _ => true) true Try.f5.params.toList args.toList ds p := hA0
  rw [Try.params5] at hA hval
  obtain ⟨v0, vs0, d0, ds0, p0, q0, hargs, rfl, rfl, h0, r0⟩ := trodAll_cons hA
  obtain ⟨rfl, rfl, rfl⟩ := trodAll_nil r0
  obtain rfl : args = #[v0] := by cases args; simp_all
  obtain ⟨rfl, rfl⟩ := trodVars_none hV
  obtain ⟨a0, rfl, rfl, rfl, w0⟩ := open_int Try.underlying22 (hval 0 22 v0 rfl rfl) h0
  clear hA0 hval0
  simp only [List.append_nil] at hW'
  refine (bitsOthers_walk a0 (wf_u64 w0).1 (wf_u64 w0).2 W).mono fun e W' ⟨he, hx⟩ => ?_
  subst he
  exact ⟨_, rfl, post_ext (pa := []) (pv := []) hW' (fun _ _ _ => (trodAll_cons_mk (shut_bool Try.underlying4 _) trodAll_mk0)) (fun sp _ => (trodAll_cons_mk (shut_int Try.underlying22 w0) trodAll_mk0)) (fun _ _ => rfl) rfl hx (ok_one (by kernel_rfl) rfl (okWide_bool_mk Try.underlying4 _))⟩

theorem over : Rows.bitsOthersRow.holds Try.pinned (OpenSpec.ofChange Rows.bitsOthersSpec) :=
  OpenClaim.holds_of_wide 5 Try.f5 rfl rfl rfl rfl rfl rfl rfl ⟨rfl, rfl, rfl, rfl, rfl⟩ rfl rfl rfl rfl rfl (by kernel_rfl) Try.func5 (by kernel_rfl)
    (of_decide_eq_true (by kernel_rfl)) (by unfold Func.isWrapper; first | (rw [if_pos (by decide +kernel)]; kernel_rfl) | (rw [if_neg (by decide +kernel)]; exact ⟨rfl, rfl⟩))
    (fun os started H enc _ => lifted os started H enc)
end bitsOthers

theorem bitsOthers_holds : Rows.BitsOthersSaid := bitsOthers.over
#print axioms bitsOthers_holds
end Go.Proofs.Ytkeppicoobeoeaa
