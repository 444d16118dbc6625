/- Which states are alike: the law answers true for every two states, and changes nothing. Conditions: none. -/
import Derived.Test.YtcelhllhdkminaaMod16
import Derived.Test.YtcelhllhdkminaaArgs
import Derived.Lib.QuietBelow
import Derived.Test.YtcelhllhdkminaaMod15
import Derived.Test.YtcelhllhdkminaaMod4
namespace Go.Proofs.Ytcelhllhdkminaa
open Go.ChangeShapes Go.WideShapes Go.ChangeAt Go.RowKit
set_option linter.unusedVariables false

open Go.Sort
theorem grown_ext (w : World) (d : Nat) (os : Array Obj) : Ext w (grow (redrawn w d) os) := Ext.of (below_regrown w d os)
theorem few_letter (n0 n1 n2 : Nat) : ∃ f, (decide (n0 ≤ 100) && (decide (n1 ≤ 100) && decide (n2 ≤ 100))) = f ∧ (f = true → n0 ≤ 100 ∧ n1 ≤ 100 ∧ n2 ≤ 100) := ⟨_, rfl, fun h => by simpa using h⟩
set_option maxRecDepth 100000 in
set_option maxHeartbeats 2000000 in
theorem sames_ok (w : World) (A0 A1 A2 B0 B1 B2 : Option Addr) (n0 n1 n2 c0 c1 c2 m0 m1 m2 d0 d1 d2 : Nat) (a b : Sta) (ha : StAt w A0 A1 A2 a) (hb : StAt w B0 B1 B2 b) (la : Lens a n0 n1 n2) (lb : Lens b m0 m1 m2)
    (h0 : n0 ≤ 9223372036854775807) (h1 : n1 ≤ 9223372036854775807) (h2 : n2 ≤ 9223372036854775807) (g0 : m0 ≤ 9223372036854775807) (g1 : m1 ≤ 9223372036854775807) (g2 : m2 ≤ 9223372036854775807) :
    Calls Try.prog 7 #[.agg #[.slice A0 n0 c0, .slice A1 n1 c1, .slice A2 n2 c2], .agg #[.slice B0 m0 d0, .slice B1 m1 d1, .slice B2 m2 d2]] w fun e w' => e = .returned (.bool true) ∧ Ext w w' := by
  have HA := Lib.hid ha
  have HB := Lib.hid hb
  have LA := Lib.hid la
  have LB := Lib.hid lb
  obtain ⟨fa, efa, hfa⟩ := few_letter n0 n1 n2
  obtain ⟨fb, efb, hfb⟩ := few_letter m0 m1 m2
  have FA := Lib.hid (fun W => few_ok W A0 A1 A2 n0 n1 n2 c0 c1 c2 h0 h1 h2)
  have FB := Lib.hid (fun W => few_ok W B0 B1 B2 m0 m1 m2 d0 d1 d2 g0 g1 g2)
  rw [efa] at FA
  rw [efb] at FB
  have GA := Lib.hid hfa
  have GB := Lib.hid hfb
  clear ha hb la lb efa efb hfa hfb h0 h1 h2 g0 g1 g2
  have l0 := (Blk.new w 54 [.slice A0 n0 c0, .slice A1 n1 c1, .slice A2 n2 c2]).ext ((Ext.refl _).alloc (.cells #[.slice B0 m0 d0, .slice B1 m1 d1, .slice B2 m2 d2] 54))
  have l1 := Blk.new (w.alloc (.cells #[.slice A0 n0 c0, .slice A1 n1 c1, .slice A2 n2 c2] 54)) 54 [.slice B0 m0 d0, .slice B1 m1 d1, .slice B2 m2 d2]
  rw [show (w.alloc (.cells #[.slice A0 n0 c0, .slice A1 n1 c1, .slice A2 n2 c2] 54)).heap.size = w.heap.size + 1 by simp] at l1
  have L0 := Lib.hid l0
  have L1 := Lib.hid l1
  have X0 := Lib.hid (((Ext.refl w).alloc (.cells #[.slice A0 n0 c0, .slice A1 n1 c1, .slice A2 n2 c2] 54)).alloc (.cells #[.slice B0 m0 d0, .slice B1 m1 d1, .slice B2 m2 d2] 54))
  clear l0 l1
  go_enter Try.func7, Try.ntmps7
  go_wp2_with fail
  refine (FA.out _).mono ?_
  rintro e w1 ⟨rfl, x1⟩
  cases fa
  · have X1 := Lib.hid (X0.out.trans x1)
    clear x1
    go_wp2_with fail
    refine (awake_ok _).mono ?_
    rintro e w2 ⟨rfl, x2⟩
    have X2 := Lib.hid (X1.out.trans x2)
    clear x2
    go_wp2_with fail
    go_ret
    exact ⟨rfl, X2.out⟩
  · have k1 := L1.out.ext x1
    have y0 : w1.cell? ⟨w.heap.size + 1, 0, none⟩ = some (.slice B0 m0 d0) := k1.cell 0
    have y1 : w1.cell? ⟨w.heap.size + 1, 1, none⟩ = some (.slice B1 m1 d1) := k1.cell 1
    have y2 : w1.cell? ⟨w.heap.size + 1, 2, none⟩ = some (.slice B2 m2 d2) := k1.cell 2
    have M0 := Lib.hid (L0.out.ext x1)
    have M1 := Lib.hid k1
    have X1 := Lib.hid (X0.out.trans x1)
    clear x1 k1
    go_wp2_with fail
    refine (FB.out _).mono ?_
    rintro e w2 ⟨rfl, x2⟩
    cases fb
    · have X2 := Lib.hid (X1.out.trans x2)
      clear x2 y0 y1 y2
      go_wp2_with fail
      refine (awake_ok _).mono ?_
      rintro e w3 ⟨rfl, x3⟩
      have X3 := Lib.hid (X2.out.trans x3)
      clear x3
      go_wp2_with fail
      go_ret
      exact ⟨rfl, X3.out⟩
    · obtain ⟨n0', n1', n2'⟩ := GA.out (by simp)
      obtain ⟨m0', m1', m2'⟩ := GB.out (by simp)
      have X2 := Lib.hid (X1.out.trans x2)
      have hsa := HA.out.ext X2.out
      have hsb := HB.out.ext X2.out
      have hab := fun d os => mSame_ok (grow (redrawn w2 d) os) A0 A1 A2 B0 B1 B2 n0 n1 n2 c0 c1 c2 m0 m1 m2 d0 d1 d2 a b (hsa.ext (grown_ext _ _ _)) (hsb.ext (grown_ext _ _ _)) LA.out LB.out (by omega) (by omega) (by omega) (by omega) (by omega) (by omega)
      have haa := fun d os => mSame_ok (grow (redrawn w2 d) os) A0 A1 A2 A0 A1 A2 n0 n1 n2 c0 c1 c2 n0 n1 n2 c0 c1 c2 a a (hsa.ext (grown_ext _ _ _)) (hsa.ext (grown_ext _ _ _)) LA.out LA.out (by omega) (by omega) (by omega) (by omega) (by omega) (by omega)
      have hcd := fun d os => same8_ok (grow (redrawn w2 d) os) A0 A1 A2 B0 B1 B2 n0 n1 n2 c0 c1 c2 m0 m1 m2 d0 d1 d2 a b (hsa.ext (grown_ext _ _ _)) (hsb.ext (grown_ext _ _ _)) LA.out LB.out (by omega) (by omega) (by omega) (by omega) (by omega) (by omega)
      rw [show decide (a = a) = true by simp] at haa
      generalize decide (a = b) = r at hab hcd
      have HAB := Lib.hid hab
      have HAA := Lib.hid haa
      have HCD := Lib.hid hcd
      have k0 := M0.out.ext x2
      have k1 := M1.out.ext x2
      have z0 := fun d os => cell_regrown (k0.cell 0) d os
      have z1 := fun d os => cell_regrown (k0.cell 1) d os
      have z2 := fun d os => cell_regrown (k0.cell 2) d os
      have z3 := fun d os => cell_regrown (k1.cell 0) d os
      have z4 := fun d os => cell_regrown (k1.cell 1) d os
      have z5 := fun d os => cell_regrown (k1.cell 2) d os
      clear x2 y0 y1 y2 hab haa hcd hsa hsb k0 k1
      have hrr : (r == r) = true := by simp
      go_wp2_with fail
      refine wp_region_quiet_below (by kernel_rfl) (by kernel_rfl) ?_
      repeat (quiet_step (first
        | (with_reducible exact Calls.regrown_of (awake_ok _))
        | (with_reducible exact Calls.regrown_of (HAB.out _ _))
        | (with_reducible exact Calls.regrown_of (HAA.out _ _))
        | (with_reducible exact Calls.regrown_of (HCD.out _ _))))
      refine wpQuiet_nil ?_
      intro w3 hw'
      have hx2 : Ext w2 w3 := by
        obtain ⟨⟨dq, osq⟩, hw2⟩ := hw'
        rw [hw2]
        exact grown_ext _ _ _
      clear hw'
      go_wp2_with fail
      go_ret
      exact ⟨rfl, X2.out.trans hx2⟩

namespace modelSames
set_option maxRecDepth 100000 in
theorem lifted (os : Os) (started : os.Started) (H : Type) (enc : TypeId × Value → H) :
    ReturnsInHanded {} Try.checked os 7 .any (Rows.modelSamesSpec.pre6 enc Try.prog Try.f7 Rows.modelSamesRow.domain false) (Rows.modelSamesSpec.post enc Try.prog Try.f7 false true false false) := by
  refine returnsInHanded_of_change (C := Try.checked) own started (by kernel_rfl) Try.func7
    (ChangeSpec.witness6 (enc := enc) (C := Try.checked) false ⟨#[], #[.agg #[.slice none 0 0, .slice none 0 0, .slice none 0 0], .agg #[.slice none 0 0, .slice none 0 0, .slice none 0 0]], []⟩ 8 (by kernel_rfl) (by kernel_rfl) (by kernel_rfl) (by kernel_rfl)) ?_
  intro W base args ds gs before hval0 hW hcnd _
  have hval : ∀ (j : Nat) t v, Try.f7.params[j]? = some t → args[j]? = some v → Value.okWide Try.prog W .any base t v := hval0
  have hW' := hW
  obtain ⟨p, q, hA0, hV, rfl, hfz, hnd⟩ := hW
  have hA : DataW.TrodAll enc Try.prog W 0 (fun _ => true) true Try.f7.params.toList args.toList ds p := hA0
  have hlt : ∀ x ∈ p ++ q, x.block < W.heap.size := fun x hx => hW'.lt x hx
  rw [Try.params7] at hA hval
  have hB := hA
  obtain ⟨v0, vs0, d0, ds0, p0, q0, hargs, rfl, rfl, h0, r0⟩ := trodAll_cons hB
  obtain ⟨v1, vs1, d1, ds1, p1, q1, rfl, rfl, rfl, h1, r1⟩ := trodAll_cons r0
  obtain ⟨rfl, rfl, rfl⟩ := trodAll_nil r1
  obtain rfl : args = #[v0, v1] := by cases args; simp_all
  obtain ⟨rfl, rfl⟩ := trodVars_none hV
  obtain ⟨x0A, x0B, x0C, x0a, x0b, x0c, s0, rfl, I0, l0, m0⟩ := view_state Try.underlying54 (by kernel_rfl) (by kernel_rfl) Try.underlying51 Try.underlying51 Try.underlying52 Try.underlying60 (by kernel_rfl) Try.underlying104 (by kernel_rfl) (by kernel_rfl) Try.underlying60 Try.underlying60 (hval 0 54 v0 rfl rfl) h0
  obtain ⟨x1A, x1B, x1C, x1a, x1b, x1c, s1, rfl, I1, l1, m1⟩ := view_state Try.underlying54 (by kernel_rfl) (by kernel_rfl) Try.underlying51 Try.underlying51 Try.underlying52 Try.underlying60 (by kernel_rfl) Try.underlying104 (by kernel_rfl) (by kernel_rfl) Try.underlying60 Try.underlying60 (hval 1 54 v1 rfl rfl) h1
  clear hA0 hval0
  refine (sames_ok W x0A x0B x0C x1A x1B x1C _ _ _ x0a x0b x0c _ _ _ x1a x1b x1c s0 s1 I0 I1 ⟨rfl, rfl, rfl⟩ ⟨rfl, rfl, rfl⟩ (Nat.le_trans l0.1 m0.1) (Nat.le_trans l0.2.1 m0.2.1) (Nat.le_trans l0.2.2 m0.2.2) (Nat.le_trans l1.1 m1.1) (Nat.le_trans l1.2.1 m1.2.1) (Nat.le_trans l1.2.2 m1.2.2)).mono fun e W' ⟨he, hx⟩ => ?_
  subst he
  exact ⟨_, rfl, post_ext (pv := []) hW' (fun _ _ _ => (trodAll_cons_mk (shut_bool Try.underlying4 _) trodAll_mk0)) (fun sp hsp => trodAll_stays laid hx _ _ _ _ (readable_of (by kernel_rfl)) hA (fun x hx => hlt x (by first | (simp at hx ⊢; exact hx) | simp at hx)) (fun x hx => hsp x (by first | (simp at hx ⊢; exact hx) | simp at hx))) (fun _ _ => rfl) rfl hx (ok_one (by kernel_rfl) rfl (okWide_bool_mk Try.underlying4 _))⟩

theorem over : Rows.modelSamesRow.holds Try.pinned (OpenSpec.ofChange Rows.modelSamesSpec) :=
  OpenClaim.holds_of_wide 7 Try.f7 rfl rfl rfl rfl rfl rfl rfl ⟨rfl, rfl, rfl, rfl, rfl⟩ rfl rfl rfl rfl rfl (by kernel_rfl) Try.func7 (by kernel_rfl)
    (of_decide_eq_true (by kernel_rfl)) (by unfold Func.isWrapper; first | (rw [if_pos (by decide +kernel)]; kernel_rfl) | (rw [if_neg (by decide +kernel)]; exact ⟨rfl, rfl⟩))
    (fun os started H enc _ => lifted os started H enc)
end modelSames

theorem modelSames_holds : Rows.ModelSamesSaid := modelSames.over
#print axioms modelSames_holds
end Go.Proofs.Ytcelhllhdkminaa
