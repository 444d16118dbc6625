/- Of a thread, a slot, an entry, a bucket that there is not there is no word, and of any there is the one by its name: the law answers true for every input, and changes nothing. Conditions: none. -/
import Derived.Test.YtljleibhncidmaaLayoutNone
import Derived.Test.YtljleibhncidmaaCfgView
namespace Go.Proofs.Ytljleibhncidmaa
open Go.ChangeShapes Go.WideShapes Go.ChangeAt Go.RowKit
set_option linter.unusedVariables false
theorem layoutNone_walk (t s l b kind x y : Int) (w : World) (h0 : 0 ≤ kind) (h1 : kind < 256) :
    Calls Try.prog 7 #[.agg #[.int .i64 t, .int .i64 s, .int .i64 l, .int .i64 b], .int .u8 kind, .agg #[.int .i64 x, .int .i64 y]] w fun e w' => e = .returned (.bool true) ∧ Ext w w' := by
  rcases cfg_em t s l b with h | h
  · by_cases hsm : t ≤ 12 ∧ s ≤ 60
    · obtain ⟨⟨t0, t1⟩, ⟨s0, s1⟩, ⟨l0, l1⟩, b0, b1⟩ := id h
      obtain ⟨tn, rfl⟩ := Int.eq_ofNat_of_zero_le (show 0 ≤ t by omega)
      obtain ⟨sn, rfl⟩ := Int.eq_ofNat_of_zero_le (show 0 ≤ s by omega)
      obtain ⟨ln, rfl⟩ := Int.eq_ofNat_of_zero_le (show 0 ≤ l by omega)
      obtain ⟨bn, rfl⟩ := Int.eq_ofNat_of_zero_le (show 0 ≤ b by omega)
      obtain ⟨K, hK⟩ : ∃ K, 5 + kind % 13 = K := ⟨_, rfl⟩
      by_cases i14 : K = 14
      · exact layoutNone_epoch tn sn ln bn kind x y w h (by omega) (by omega) h0 h1 (by omega)
      by_cases i15 : K = 15
      · exact layoutNone_free tn sn ln bn kind x y w h (by omega) (by omega) h0 h1 (by omega)
      by_cases i8 : K = 8
      · exact layoutNone_log tn sn ln bn kind x y w h (by omega) (by omega) h0 h1 (by omega)
      exact layoutNone_other tn sn ln bn kind x y K w h (by omega) (by omega) h0 h1 hK (by omega) (by omega) (by simpa using i14) (by simpa using i15) (by simpa using i8) i14 i15 i8
    · go_enter Try.func7, Try.ntmps7
      go_wp2_with fail
      refine (of_yes t s l b _ h).mono ?_
      rintro e w1 ⟨g, rfl, hg, hgl, x1⟩
      obtain ⟨c0, c1, c2, c3⟩ := ((C4.new w t s l b 23).alloc (by simp) (.cells #[.int .i64 x, .int .i64 y] 52)).ext x1 (by simp; omega)
      clear hg hgl
      go_wp2_with fail
      refine (few_great t s l b _ hsm h).mono ?_
      rintro e w2 ⟨rfl, x2⟩
      go_wp2_with fail
      refine (awake6_any _).mono ?_
      rintro e w3 ⟨rfl, x3⟩
      go_wp2_with fail
      go_ret
      exact ⟨rfl, (((ext2 w _ _).trans x1).trans x2).trans x3⟩
  · go_enter Try.func7, Try.ntmps7
    go_wp2_with fail
    refine (of_no t s l b _ h).mono ?_
    rintro e w1 ⟨rfl, x1⟩
    obtain ⟨c0, c1, c2, c3⟩ := ((C4.new w t s l b 23).alloc (by simp) (.cells #[.int .i64 x, .int .i64 y] 52)).ext x1 (by simp; omega)
    go_wp2_with fail
    refine (few_none t s l b _ h).mono ?_
    rintro e w2 ⟨rfl, x2⟩
    go_wp2_with fail
    refine (awake6_any _).mono ?_
    rintro e w3 ⟨rfl, x3⟩
    go_wp2_with fail
    go_ret
    exact ⟨rfl, (((ext2 w _ _).trans x1).trans x2).trans x3⟩

namespace layoutNone
set_option maxRecDepth 100000 in
theorem lifted (os : Os) (started : os.Started) (H : Type) (enc : TypeId × Value → H) :
    ReturnsInHanded {} Try.checked os 7 .any (Rows.layoutNoneSpec.pre6 enc Try.prog Try.f7 Rows.layoutNoneRow.domain false) (Rows.layoutNoneSpec.post enc Try.prog Try.f7 false true false false) := by
  refine returnsInHanded_of_change (C := Try.checked) own started (by kernel_rfl) Try.func7
    (ChangeSpec.witness6 (enc := enc) (C := Try.checked) false ⟨#[], #[.agg #[.int .i64 0, .int .i64 0, .int .i64 0, .int .i64 0], .int .u8 0, .agg #[.int .i64 0, .int .i64 0]], []⟩ 8 (by kernel_rfl) (by kernel_rfl) (by kernel_rfl) (by kernel_rfl)) ?_
  intro W base args ds gs before hval0 hW hcnd _
  have hval : ∀ (j : Nat) t v, Try.f7.params[j]? = some t → args[j]? = some v → Value.okWide Try.prog W .any base t v := hval0
  have hW' := hW
  obtain ⟨p, q, hA0, hV, rfl, hfz, hnd⟩ := hW
  have hA : DataW.TrodAll enc Try.prog W 0 (fun _ => true) true Try.f7.params.toList args.toList ds p := hA0
  have hlt : ∀ x ∈ p ++ q, x.block < W.heap.size := fun x hx => hW'.lt x hx
  rw [Try.params7] at hA hval
  have hB := hA
  obtain ⟨v0, vs0, d0, ds0, p0, q0, hargs, rfl, rfl, h0, r0⟩ := trodAll_cons hB
  obtain ⟨v1, vs1, d1, ds1, p1, q1, rfl, rfl, rfl, h1, r1⟩ := trodAll_cons r0
  obtain ⟨v2, vs2, d2, ds2, p2, q2, rfl, rfl, rfl, h2, r2⟩ := trodAll_cons r1
  obtain ⟨rfl, rfl, rfl⟩ := trodAll_nil r2
  obtain rfl : args = #[v0, v1, v2] := by cases args; simp_all
  obtain ⟨rfl, rfl⟩ := trodVars_none hV
  obtain ⟨x0t, x0s, x0l, x0b, rfl, ok0⟩ := view_cfg Try.underlying23 (by kernel_rfl) (by kernel_rfl) Try.underlying3 Try.underlying3 Try.underlying3 Try.underlying3 (hval 0 23 v0 rfl rfl) h0
  obtain ⟨a1, rfl, rfl, rfl, w1⟩ := open_int Try.underlying5 (hval 1 5 v1 rfl rfl) h1
  obtain ⟨x2a, x2b, rfl, ok2⟩ := view_pair Try.underlying52 Try.underlying3 (by kernel_rfl) (by kernel_rfl) (hval 2 52 v2 rfl rfl) h2 (okWide_agg_array Try.underlying52 (hval 2 52 v2 rfl rfl))
  clear hA0 hval0
  refine (layoutNone_walk x0t x0s x0l x0b a1 x2a x2b W (wf_u8 w1).1 (wf_u8 w1).2).mono fun e W' ⟨he, hx⟩ => ?_
  subst he
  exact ⟨_, rfl, post_ext (pv := []) hW' (fun _ _ _ => (trodAll_cons_mk (shut_bool Try.underlying4 _) trodAll_mk0)) (fun sp hsp => trodAll_stays laid hx _ _ _ _ (readable_of (by kernel_rfl)) hA (fun x hx => hlt x (by first | (simp at hx ⊢; exact hx) | simp at hx)) (fun x hx => hsp x (by first | (simp at hx ⊢; exact hx) | simp at hx))) (fun _ _ => rfl) rfl hx (ok_one (by kernel_rfl) rfl (okWide_bool_mk Try.underlying4 _))⟩

theorem over : Rows.layoutNoneRow.holds Try.pinned (OpenSpec.ofChange Rows.layoutNoneSpec) :=
  OpenClaim.holds_of_wide 7 Try.f7 rfl rfl rfl rfl rfl rfl rfl ⟨rfl, rfl, rfl, rfl, rfl⟩ rfl rfl rfl rfl rfl (by kernel_rfl) Try.func7 (by kernel_rfl)
    (of_decide_eq_true (by kernel_rfl)) (by unfold Func.isWrapper; first | (rw [if_pos (by decide +kernel)]; kernel_rfl) | (rw [if_neg (by decide +kernel)]; exact ⟨rfl, rfl⟩))
    (fun os started H enc _ => lifted os started H enc)
end layoutNone

theorem layoutNone_holds : Rows.LayoutNoneSaid := layoutNone.over
#print axioms layoutNone_holds
end Go.Proofs.Ytljleibhncidmaa
