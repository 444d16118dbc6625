/- For every lines (up to 40) and every bytes (up to 3,000): the lines' bytes are the document's, and read back as they were; the bytes are lines just where 64 of them make each, and then the document's, whose bytes they are: the law answers true, and changes nothing. Conditions: none. -/
import Derived.Test.YtimbfclnkagnaaaImgYes
import Derived.Test.YtimbfclnkagnaaaImgNo
namespace Go.Proofs.Ytimbfclnkagnaaa
open Go.ChangeShapes Go.WideShapes Go.ChangeAt Go.RowKit
set_option linter.unusedVariables false
theorem linesImages_walk (A0 A1 : Option Addr) (n0 c0 c1 : Nat) (zs ys : List Int) (w : World) (hz : zs.length = 8 * n0) (hc0 : n0 ≤ c0) (hm0 : c0 ≤ maxLen) (hc1 : ys.length ≤ c1) (hm1 : c1 ≤ maxLen) (lz : Lim zs 18446744073709551616) (ly : Lim ys 256) (I0 : Ints w .u64 A0 zs) (I1 : Ints w .u8 A1 ys) :
    Calls Try.prog 4 #[.slice A0 n0 c0, .slice A1 ys.length c1] w fun e w' => e = .returned (.bool true) ∧ Ext w w' := by
  unfold maxLen at hm0 hm1
  have hN1 : A1 = none → ys.length = 0 := fun h => by
    rcases Nat.eq_zero_or_pos ys.length with h0 | h0
    · exact h0
    · obtain ⟨ad, e, _⟩ := I1 h0
      rw [h] at e; cases e
  by_cases g : 40 < n0 ∨ 3000 < ys.length
  · exact linesImages_far A0 A1 n0 c0 ys.length c1 w (by omega) (by omega) g
  · by_cases g2 : ys.length % 64 = 0
    · exact linesImages_yes A0 A1 n0 c0 ys.length c1 zs ys w (by omega) (by omega) hz rfl hc0 hc1 (by omega) lz ly I0 I1 hN1 (ys.length / 64) (by omega)
    · exact linesImages_no A0 A1 n0 c0 ys.length c1 zs ys w (by omega) (by omega) hz rfl hc0 hc1 (by omega) lz ly I0 I1 hN1 g2

namespace linesImages
set_option maxRecDepth 100000 in
theorem lifted (os : Os) (started : os.Started) (H : Type) (enc : TypeId × Value → H) :
    ReturnsInHanded {} Try.checked os 4 .any (Rows.linesImagesSpec.pre6 enc Try.prog Try.f4 Rows.linesImagesRow.domain false) (Rows.linesImagesSpec.post enc Try.prog Try.f4 false true false false) := by
  refine returnsInHanded_of_change (C := Try.checked) own started (by kernel_rfl) Try.func4
    (ChangeSpec.witness6 (enc := enc) (C := Try.checked) false ⟨#[], #[.slice none 0 0, .slice none 0 0], []⟩ 8 (by kernel_rfl) (by kernel_rfl) (by kernel_rfl) (by kernel_rfl)) ?_
  intro W base args ds gs before hval0 hW hcnd _
  have hval : ∀ (j : Nat) t v, Try.f4.params[j]? = some t → args[j]? = some v → Value.okWide Try.prog W .any base t v := hval0
  have hW' := hW
  obtain ⟨p, q, hA0, hV, rfl, hfz, hnd⟩ := hW
  have hA : DataW.TrodAll enc Try.prog W 0 (fun _ => true) true Try.f4.params.toList args.toList ds p := hA0
  have hlt : ∀ x ∈ p ++ q, x.block < W.heap.size := fun x hx => hW'.lt x hx
  rw [Try.params4] at hA hval
  have hB := hA
  obtain ⟨v0, vs0, d0, ds0, p0, q0, hargs, rfl, rfl, h0, r0⟩ := trodAll_cons hB
  obtain ⟨v1, vs1, d1, ds1, p1, q1, rfl, rfl, rfl, h1, r1⟩ := trodAll_cons r0
  obtain ⟨rfl, rfl, rfl⟩ := trodAll_nil r1
  obtain rfl : args = #[v0, v1] := by cases args; simp_all
  obtain ⟨rfl, rfl⟩ := trodVars_none hV
  obtain ⟨A0, n0, c0, z0, rfl, lc0, mc0, zl0, I0, L0⟩ := view_rows Try.underlying36 Try.underlying24 Try.underlying22 (by kernel_rfl) (by kernel_rfl) (by omega) (hval 0 36 v0 rfl rfl) h0
  obtain ⟨A1, c1, z1, rfl, lc1, mc1, I1, w1⟩ := view_ints Try.underlying25 Try.underlying5 (by kernel_rfl) (hval 1 25 v1 rfl rfl) h1
  clear hA0 hval0
  refine (linesImages_walk A0 A1 n0 c0 c1 z0 z1 W zl0 lc0 mc0 lc1 mc1 L0 (lim_u8 w1) I0 I1).mono fun e W' ⟨he, hx⟩ => ?_
  subst he
  exact ⟨_, rfl, post_ext (pv := []) hW' (fun _ _ _ => (trodAll_cons_mk (shut_bool Try.underlying4 _) trodAll_mk0)) (fun sp hsp => trodAll_stays laid hx _ _ _ _ (readable_of (by kernel_rfl)) hA (fun x hx => hlt x (by first | (simp at hx ⊢; exact hx) | simp at hx)) (fun x hx => hsp x (by first | (simp at hx ⊢; exact hx) | simp at hx))) (fun _ _ => rfl) rfl hx (ok_one (by kernel_rfl) rfl (okWide_bool_mk Try.underlying4 _))⟩

theorem over : Rows.linesImagesRow.holds Try.pinned (OpenSpec.ofChange Rows.linesImagesSpec) :=
  OpenClaim.holds_of_wide 4 Try.f4 rfl rfl rfl rfl rfl rfl rfl ⟨rfl, rfl, rfl, rfl, rfl⟩ rfl rfl rfl rfl rfl (by kernel_rfl) Try.func4 (by kernel_rfl)
    (of_decide_eq_true (by kernel_rfl)) (by unfold Func.isWrapper; first | (rw [if_pos (by decide +kernel)]; kernel_rfl) | (rw [if_neg (by decide +kernel)]; exact ⟨rfl, rfl⟩))
    (fun os started H enc _ => lifted os started H enc)
end linesImages

theorem linesImages_holds : Rows.LinesImagesSaid := linesImages.over
#print axioms linesImages_holds
end Go.Proofs.Ytimbfclnkagnaaa
