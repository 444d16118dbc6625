/- Which lines are a config's, and which one's, and of two copies which one is read: the law answers true for every input, and changes nothing. Conditions: none. -/
import Derived.Test.YtljleibhncidmaaSuperReads
namespace Go.Proofs.Ytljleibhncidmaa
open Go.ChangeShapes Go.WideShapes Go.ChangeAt Go.RowKit
set_option linter.unusedVariables false
theorem line_reads (x0 x1 x2 x3 x4 x5 x6 x7 : Int) (hu : Lim [x0, x1, x2, x3, x4, x5, x6, x7] 18446744073709551616) :
    (IsLine x0 x1 x2 x3 x4 x5 x6 x7 ∧ Reads (.agg #[.int .u64 x0, .int .u64 x1, .int .u64 x2, .int .u64 x3, .int .u64 x4, .int .u64 x5, .int .u64 x6, .int .u64 x7]) x1 x2 x3 x4 0 ∧ ∀ W, Calls Try.prog 16 #[.agg #[.int .u64 x0, .int .u64 x1, .int .u64 x2, .int .u64 x3, .int .u64 x4, .int .u64 x5, .int .u64 x6, .int .u64 x7]] W fun e w' => e = .returned (.tuple #[.agg #[.int .i64 x1, .int .i64 x2, .int .i64 x3, .int .i64 x4], .bool true]) ∧ Ext W w') ∨
    (¬ IsLine x0 x1 x2 x3 x4 x5 x6 x7 ∧ Reads (.agg #[.int .u64 x0, .int .u64 x1, .int .u64 x2, .int .u64 x3, .int .u64 x4, .int .u64 x5, .int .u64 x6, .int .u64 x7]) 0 0 0 0 8 ∧ ∀ W, Calls Try.prog 16 #[.agg #[.int .u64 x0, .int .u64 x1, .int .u64 x2, .int .u64 x3, .int .u64 x4, .int .u64 x5, .int .u64 x6, .int .u64 x7]] W fun e w' => e = .returned (.tuple #[.agg #[.int .i64 0, .int .i64 0, .int .i64 0, .int .i64 0], .bool false]) ∧ Ext W w') := by
  by_cases h : IsLine x0 x1 x2 x3 x4 x5 x6 x7
  · refine Or.inl ⟨h, ?_, fun W => (rread_any x0 x1 x2 x3 x4 x5 x6 x7 W hu).mono fun e w' hr => ?_⟩
    · obtain ⟨hc, rfl, rfl, rfl, rfl⟩ := h
      exact fun W => read_yes _ _ _ _ W hc
    · obtain ⟨⟨_, he⟩ | ⟨hn, _⟩, hx⟩ := hr
      · exact ⟨he, hx⟩
      · exact absurd h hn
  · refine Or.inr ⟨h, fun W => read_no _ _ _ _ _ _ _ _ W (hu 0 (by simp)) (hu 1 (by simp)) (hu 2 (by simp)) (hu 3 (by simp)) (hu 4 (by simp)) h, fun W => (rread_any x0 x1 x2 x3 x4 x5 x6 x7 W hu).mono fun e w' hr => ?_⟩
    obtain ⟨⟨hn, _⟩ | ⟨_, he⟩, hx⟩ := hr
    · exact absurd hn h
    · exact ⟨he, hx⟩
theorem superReads_walk (x0 x1 x2 x3 x4 x5 x6 x7 y0 y1 y2 y3 y4 y5 y6 y7 : Int) (w : World) (hu : Lim [x0, x1, x2, x3, x4, x5, x6, x7] 18446744073709551616) (hv : Lim [y0, y1, y2, y3, y4, y5, y6, y7] 18446744073709551616) :
    Calls Try.prog 4 #[.agg #[.int .u64 x0, .int .u64 x1, .int .u64 x2, .int .u64 x3, .int .u64 x4, .int .u64 x5, .int .u64 x6, .int .u64 x7], .agg #[.int .u64 y0, .int .u64 y1, .int .u64 y2, .int .u64 y3, .int .u64 y4, .int .u64 y5, .int .u64 y6, .int .u64 y7]] w fun e w' => e = .returned (.bool true) ∧ Ext w w' := by
  rcases line_reads _ _ _ _ _ _ _ _ hu with ⟨ix, hA, rA⟩ | ⟨ix, hA, rA⟩ <;> rcases line_reads _ _ _ _ _ _ _ _ hv with ⟨iy, hB, rB⟩ | ⟨iy, hB, rB⟩
  · by_cases hne : [x1, x2, x3, x4] = [y1, y2, y3, y4]
    · simp only [List.cons.injEq, and_true] at hne
      obtain ⟨rfl, rfl, rfl, rfl⟩ := hne
      exact superReads_same _ _ _ _ _ _ _ _ _ _ _ _ _ _ _ _ _ _ _ _ w hA hB (Lib.hid rA) (Lib.hid rB)
    · exact superReads_not _ _ _ _ _ _ _ _ _ _ _ _ _ _ _ _ _ _ _ _ _ _ _ _ w hA hB hne (Lib.hid rA) (Lib.hid rB)
  · exact superReads_first _ _ _ _ _ _ _ _ _ _ _ _ _ _ _ _ _ _ _ _ w hA hB (Lib.hid rA) (Lib.hid rB)
  · exact superReads_second _ _ _ _ _ _ _ _ _ _ _ _ _ _ _ _ _ _ _ _ w hA hB (Lib.hid rA) (Lib.hid rB)
  · exact superReads_none _ _ _ _ _ _ _ _ _ _ _ _ _ _ _ _ w hA hB (Lib.hid rA) (Lib.hid rB)

namespace superReads
set_option maxRecDepth 100000 in
theorem lifted (os : Os) (started : os.Started) (H : Type) (enc : TypeId × Value → H) :
    ReturnsInHanded {} Try.checked os 4 .any (Rows.superReadsSpec.pre6 enc Try.prog Try.f4 Rows.superReadsRow.domain false) (Rows.superReadsSpec.post enc Try.prog Try.f4 false true false false) := by
  refine returnsInHanded_of_change (C := Try.checked) own started (by kernel_rfl) Try.func4
    (ChangeSpec.witness6 (enc := enc) (C := Try.checked) false ⟨#[], #[.agg #[.int .u64 0, .int .u64 0, .int .u64 0, .int .u64 0, .int .u64 0, .int .u64 0, .int .u64 0, .int .u64 0], .agg #[.int .u64 0, .int .u64 0, .int .u64 0, .int .u64 0, .int .u64 0, .int .u64 0, .int .u64 0, .int .u64 0]], []⟩ 8 (by kernel_rfl) (by kernel_rfl) (by kernel_rfl) (by kernel_rfl)) ?_
  intro W base args ds gs before hval0 hW hcnd _
  have hval : ∀ (j : Nat) t v, Try.f4.params[j]? = some t → args[j]? = some v → Value.okWide Try.prog W .any base t v := hval0
  have hW' := hW
  obtain ⟨p, q, hA0, hV, rfl, hfz, hnd⟩ := hW
  have hA : DataW.TrodAll enc Try.prog W 0 (fun _ => true) true Try.f4.params.toList args.toList ds p := hA0
  have hlt : ∀ x ∈ p ++ q, x.block < W.heap.size := fun x hx => hW'.lt x hx
  rw [Try.params4] at hA hval
  have hB := hA
  obtain ⟨v0, vs0, d0, ds0, p0, q0, hargs, rfl, rfl, h0, r0⟩ := trodAll_cons hB
  obtain ⟨v1, vs1, d1, ds1, p1, q1, rfl, rfl, rfl, h1, r1⟩ := trodAll_cons r0
  obtain ⟨rfl, rfl, rfl⟩ := trodAll_nil r1
  obtain rfl : args = #[v0, v1] := by cases args; simp_all
  obtain ⟨rfl, rfl⟩ := trodVars_none hV
  obtain ⟨x0a, x0b, x0c, x0d, x0e, x0f, x0g, x0h, rfl, L0⟩ := view_line Try.underlying26 Try.underlying24 (by kernel_rfl) (by kernel_rfl) (hval 0 26 v0 rfl rfl) h0 (okWide_agg_array Try.underlying26 (hval 0 26 v0 rfl rfl))
  obtain ⟨x1a, x1b, x1c, x1d, x1e, x1f, x1g, x1h, rfl, L1⟩ := view_line Try.underlying26 Try.underlying24 (by kernel_rfl) (by kernel_rfl) (hval 1 26 v1 rfl rfl) h1 (okWide_agg_array Try.underlying26 (hval 1 26 v1 rfl rfl))
  clear hA0 hval0
  refine (superReads_walk x0a x0b x0c x0d x0e x0f x0g x0h x1a x1b x1c x1d x1e x1f x1g x1h W L0 L1).mono fun e W' ⟨he, hx⟩ => ?_
  subst he
  exact ⟨_, rfl, post_ext (pv := []) hW' (fun _ _ _ => (trodAll_cons_mk (shut_bool Try.underlying4 _) trodAll_mk0)) (fun sp hsp => trodAll_stays laid hx _ _ _ _ (readable_of (by kernel_rfl)) hA (fun x hx => hlt x (by first | (simp at hx ⊢; exact hx) | simp at hx)) (fun x hx => hsp x (by first | (simp at hx ⊢; exact hx) | simp at hx))) (fun _ _ => rfl) rfl hx (ok_one (by kernel_rfl) rfl (okWide_bool_mk Try.underlying4 _))⟩

theorem over : Rows.superReadsRow.holds Try.pinned (OpenSpec.ofChange Rows.superReadsSpec) :=
  OpenClaim.holds_of_wide 4 Try.f4 rfl rfl rfl rfl rfl rfl rfl ⟨rfl, rfl, rfl, rfl, rfl⟩ rfl rfl rfl rfl rfl (by kernel_rfl) Try.func4 (by kernel_rfl)
    (of_decide_eq_true (by kernel_rfl)) (by unfold Func.isWrapper; first | (rw [if_pos (by decide +kernel)]; kernel_rfl) | (rw [if_neg (by decide +kernel)]; exact ⟨rfl, rfl⟩))
    (fun os started H enc _ => lifted os started H enc)
end superReads

theorem superReads_holds : Rows.SuperReadsSaid := superReads.over
#print axioms superReads_holds
end Go.Proofs.Ytljleibhncidmaa
