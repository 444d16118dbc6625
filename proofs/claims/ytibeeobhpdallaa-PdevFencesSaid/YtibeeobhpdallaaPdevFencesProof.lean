/- Behind a flush and a fence what was seen is kept, and a crash takes nothing of that line; a crash behind a crash changes nothing: the law answers true for every input, and changes nothing. Conditions: none. -/
import Derived.Test.YtibeeobhpdallaaFencesYes
import Derived.Test.YtibeeobhpdallaaFencesNo
namespace Go.Proofs.Ytibeeobhpdallaa
open Go.ChangeShapes Go.WideShapes Go.ChangeAt Go.RowKit
set_option linter.unusedVariables false
theorem pdevFences_walk (w : World) (A A1 : Option Addr) (c n1 c1 : Nat) (zs : List Int) (ys : List Act5) (ln : Int) (hcap : zs.length ≤ c) (hcm : c ≤ maxLen) (hz : Lim zs 18446744073709551616) (hA : Ints w .u64 A zs)
    (hy : ys.length = n1) (hc1 : n1 ≤ c1) (hcm1 : c1 ≤ maxLen) (hY : Acts w A1 ys) :
    Calls Try.prog 6 #[.slice A zs.length c, .slice A1 n1 c1, .int .i64 ln] w (fun e w' => e = .returned (.bool true) ∧ Ext w w') := by
  unfold maxLen at hcm hcm1
  by_cases h8 : zs.length % 8 = 0
  · by_cases h0 : zs.length = 0
    · rw [h0]
      exact fences_err w A A1 0 c n1 c1 ln 3 (by decide) (open_none w A c 3 (by omega) (by decide) (by decide))
    · by_cases hl : 262144 < zs.length / 8
      · exact fences_err w A A1 _ c n1 c1 ln 2 (by decide) (open_long w A _ c 3 (by omega) h8 hl (by decide) (by decide))
      · obtain ⟨m, hm⟩ : ∃ m, zs.length = m * 8 := ⟨zs.length / 8, by omega⟩
        by_cases hb : 60 < zs.length ∨ 60 < n1 ∨ ln < 0 ∨ (zs.length : Int) / 8 ≤ ln
        · have HO := open_ok w A m c 3 zs hm (by omega) (by omega) (by omega) (by omega) hz hA (by decide) (by decide)
          rw [← hm] at HO
          exact fences_out w A A1 _ c n1 c1 ln _ (by omega) (by omega) hb HO
        · obtain ⟨q, rfl⟩ := Int.eq_ofNat_of_zero_le (show 0 ≤ ln by omega)
          exact pdevFences_yes w A A1 _ m c n1 c1 q zs ys hm.symm (by omega) (by omega) rfl hcap (by omega) hz hA hy (by omega) hc1 (by omega) hY (by omega)
  · exact fences_err w A A1 _ c n1 c1 ln 3 (by decide) (open_form w A _ c 3 (by omega) h8 (by decide) (by decide))

namespace pdevFences
set_option maxRecDepth 100000 in
theorem lifted (os : Os) (started : os.Started) (H : Type) (enc : TypeId × Value → H) :
    ReturnsInHanded {} Try.checked os 6 .any (Rows.pdevFencesSpec.pre6 enc Try.prog Try.f6 Rows.pdevFencesRow.domain false) (Rows.pdevFencesSpec.post enc Try.prog Try.f6 false true false false) := by
  refine returnsInHanded_of_change (C := Try.checked) own started (by kernel_rfl) Try.func6
    (ChangeSpec.witness6 (enc := enc) (C := Try.checked) false ⟨#[], #[.slice none 0 0, .slice none 0 0, .int .i64 0], []⟩ 8 (by kernel_rfl) (by kernel_rfl) (by kernel_rfl) (by kernel_rfl)) ?_
  intro W base args ds gs before hval0 hW hcnd _
  have hval : ∀ (j : Nat) t v, Try.f6.params[j]? = some t → args[j]? = some v → Value.okWide Try.prog W .any base t v := hval0
  have hW' := hW
  obtain ⟨p, q, hA0, hV, rfl, hfz, hnd⟩ := hW
  have hA : DataW.TrodAll enc Try.prog W 0 (fun _ => true) true Try.f6.params.toList args.toList ds p := hA0
  have hlt : ∀ x ∈ p ++ q, x.block < W.heap.size := fun x hx => hW'.lt x hx
  rw [Try.params6] at hA hval
  have hB := hA
  obtain ⟨v0, vs0, d0, ds0, p0, q0, hargs, rfl, rfl, h0, r0⟩ := trodAll_cons hB
  obtain ⟨v1, vs1, d1, ds1, p1, q1, rfl, rfl, rfl, h1, r1⟩ := trodAll_cons r0
  obtain ⟨v2, vs2, d2, ds2, p2, q2, rfl, rfl, rfl, h2, r2⟩ := trodAll_cons r1
  obtain ⟨rfl, rfl, rfl⟩ := trodAll_nil r2
  obtain rfl : args = #[v0, v1, v2] := by cases args; simp_all
  obtain ⟨rfl, rfl⟩ := trodVars_none hV
  obtain ⟨A0, c0, z0, rfl, lc0, mc0, I0, w0⟩ := view_ints Try.underlying22 Try.underlying32 (by kernel_rfl) (hval 0 22 v0 rfl rfl) h0
  obtain ⟨A1, n1, c1, y1, rfl, lc1, mc1, zl1, I1⟩ := view_acts Try.underlying23 Try.underlying36 (by kernel_rfl) (by kernel_rfl) Try.underlying3 Try.underlying3 Try.underlying3 Try.underlying3 Try.underlying32 (hval 1 23 v1 rfl rfl) h1
  obtain ⟨a2, rfl, rfl, rfl, w2⟩ := open_int Try.underlying3 (hval 2 3 v2 rfl rfl) h2
  clear hA0 hval0
  refine (pdevFences_walk W A0 A1 c0 n1 c1 z0 y1 a2 lc0 mc0 (lim_u64 w0) I0 zl1 lc1 mc1 I1).mono fun e W' ⟨he, hx⟩ => ?_
  subst he
  exact ⟨_, rfl, post_ext (pv := []) hW' (fun _ _ _ => (trodAll_cons_mk (shut_bool Try.underlying4 _) trodAll_mk0)) (fun sp hsp => trodAll_stays laid hx _ _ _ _ (readable_of (by kernel_rfl)) hA (fun x hx => hlt x (by first | (simp at hx ⊢; exact hx) | simp at hx)) (fun x hx => hsp x (by first | (simp at hx ⊢; exact hx) | simp at hx))) (fun _ _ => rfl) rfl hx (ok_one (by kernel_rfl) rfl (okWide_bool_mk Try.underlying4 _))⟩

theorem over : Rows.pdevFencesRow.holds Try.pinned (OpenSpec.ofChange Rows.pdevFencesSpec) :=
  OpenClaim.holds_of_wide 6 Try.f6 rfl rfl rfl rfl rfl rfl rfl ⟨rfl, rfl, rfl, rfl, rfl⟩ rfl rfl rfl rfl rfl (by kernel_rfl) Try.func6 (by kernel_rfl)
    (of_decide_eq_true (by kernel_rfl)) (by unfold Func.isWrapper; first | (rw [if_pos (by decide +kernel)]; kernel_rfl) | (rw [if_neg (by decide +kernel)]; exact ⟨rfl, rfl⟩))
    (fun os started H enc _ => lifted os started H enc)
end pdevFences

theorem pdevFences_holds : Rows.PdevFencesSaid := pdevFences.over
#print axioms pdevFences_holds
end Go.Proofs.Ytibeeobhpdallaa
