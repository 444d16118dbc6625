/- PdevNone. Conditions: none. -/
import Derived.Test.YtimbfclnkagnaaaActs
namespace Go.Proofs.Ytimbfclnkagnaaa
open Go.ChangeShapes Go.WideShapes Go.ChangeAt Go.RowKit
set_option linter.unusedVariables false
set_option maxRecDepth 100000 in
set_option maxHeartbeats 1000000 in
theorem pdevNone_walk (w : World) (k t l a x : Int) : Calls Try.prog 11 #[.agg #[.int .i64 k, .int .i64 t, .int .i64 l, .int .i64 a, .int .u64 x]] w (fun e w' => e = .returned (.bool true) ∧ Ext w w') := by
  have HD := Lib.hid (fun W => do_nil W k t l a x)
  have HA := Lib.hid (fun W => awake4_of W)
  have HL := Lib.hid (fun W => lines_nil W)
  have HK := Lib.hid (fun W => kept_nil W)
  have HS := Lib.hid (fun W => seen_nil W)
  have HP := Lib.hid (fun W => pending_nil t W)
  have HW := Lib.hid (fun W => writes_nil l W)
  go_enter Try.func11, Try.ntmps11
  go_wp2_with fail
  refine (HD.out _).mono ?_
  rintro e w1 ⟨rfl, x1⟩
  have b1 := (Blk.new w 56 [.int .i64 k, .int .i64 t, .int .i64 l, .int .i64 a, .int .u64 x]).ext x1
  have xw1 := ((Ext.refl w).alloc _).trans x1
  have q0 := b1.cell 0
  clear x1
  by_cases c3 : k = 3
  · subst c3
    rw [show noDevice 3 = 0 from rfl]
    go_wp2_with fail
    refine (HA.out _).mono ?_
    rintro e w2 ⟨rfl, x2⟩
    have b2 := b1.ext x2
    have q1 := b2.cell 1
    have q2 := b2.cell 2
    have xw2 := xw1.trans x2
    clear x2 b1 b2 q0 xw1
    go_wp2_with fail
    refine (HL.out _).mono ?_
    rintro e w' ⟨rfl, rfl⟩
    go_wp2_with fail
    refine (HK.out _).mono ?_
    rintro e w' ⟨rfl, rfl⟩
    go_wp2_with fail
    refine (HS.out _).mono ?_
    rintro e w' ⟨rfl, rfl⟩
    go_wp2_with fail
    refine (HP.out _).mono ?_
    rintro e w' ⟨rfl, rfl⟩
    go_wp2_with fail
    refine (HW.out _).mono ?_
    rintro e w' ⟨rfl, rfl⟩
    go_wp2_with fail
    go_ret
    exact ⟨rfl, xw2⟩
  · have t3 : decide (k = 3) = false := by simp [c3]
    rw [show noDevice k = 1 from by simp [noDevice, c3]]
    go_wp2_with fail
    refine (HA.out _).mono ?_
    rintro e w2 ⟨rfl, x2⟩
    have b2 := b1.ext x2
    have q1 := b2.cell 1
    have q2 := b2.cell 2
    have xw2 := xw1.trans x2
    clear x2 b1 b2 q0 xw1
    go_wp2_with fail
    refine (HL.out _).mono ?_
    rintro e w' ⟨rfl, rfl⟩
    go_wp2_with fail
    refine (HK.out _).mono ?_
    rintro e w' ⟨rfl, rfl⟩
    go_wp2_with fail
    refine (HS.out _).mono ?_
    rintro e w' ⟨rfl, rfl⟩
    go_wp2_with fail
    refine (HP.out _).mono ?_
    rintro e w' ⟨rfl, rfl⟩
    go_wp2_with fail
    refine (HW.out _).mono ?_
    rintro e w' ⟨rfl, rfl⟩
    go_wp2_with fail
    go_ret
    exact ⟨rfl, xw2⟩
namespace pdevNone
set_option maxRecDepth 100000 in
theorem lifted (os : Os) (started : os.Started) (H : Type) (enc : TypeId × Value → H) :
    ReturnsInHanded {} Try.checked os 11 .any (Rows.pdevNoneSpec.pre6 enc Try.prog Try.f11 Rows.pdevNoneRow.domain false) (Rows.pdevNoneSpec.post enc Try.prog Try.f11 false true false false) := by
  refine returnsInHanded_of_change (C := Try.checked) own started (by kernel_rfl) Try.func11
    (ChangeSpec.witness6 (enc := enc) (C := Try.checked) false ⟨#[], #[.agg #[.int .i64 0, .int .i64 0, .int .i64 0, .int .i64 0, .int .u64 0]], []⟩ 8 (by kernel_rfl) (by kernel_rfl) (by kernel_rfl) (by kernel_rfl)) ?_
  intro W base args ds gs before hval0 hW hcnd _
  have hval : ∀ (j : Nat) t v, Try.f11.params[j]? = some t → args[j]? = some v → Value.okWide Try.prog W .any base t v := hval0
  have hW' := hW
  obtain ⟨p, q, hA0, hV, rfl, hfz, hnd⟩ := hW
  have hA : DataW.TrodAll enc Try.prog W 0 (fun _ => true) true Try.f11.params.toList args.toList ds p := hA0
  have hlt : ∀ x ∈ p ++ q, x.block < W.heap.size := fun x hx => hW'.lt x hx
  rw [Try.params11] at hA hval
  have hB := hA
  obtain ⟨v0, vs0, d0, ds0, p0, q0, hargs, rfl, rfl, h0, r0⟩ := trodAll_cons hB
  obtain ⟨rfl, rfl, rfl⟩ := trodAll_nil r0
  obtain rfl : args = #[v0] := by cases args; simp_all
  obtain ⟨rfl, rfl⟩ := trodVars_none hV
  obtain ⟨x0k, x0t, x0l, x0a, x0w, rfl, ok0⟩ := view_act Try.underlying56 (by kernel_rfl) (by kernel_rfl) Try.underlying3 Try.underlying3 Try.underlying3 Try.underlying3 Try.underlying22 (hval 0 56 v0 rfl rfl) h0
  clear hA0 hval0
  refine (pdevNone_walk W x0k x0t x0l x0a x0w).mono fun e W' ⟨he, hx⟩ => ?_
  subst he
  exact ⟨_, rfl, post_ext (pv := []) hW' (fun _ _ _ => (trodAll_cons_mk (shut_bool Try.underlying4 _) trodAll_mk0)) (fun sp hsp => trodAll_stays laid hx _ _ _ _ (readable_of (by kernel_rfl)) hA (fun x hx => hlt x (by first | (simp at hx ⊢; exact hx) | simp at hx)) (fun x hx => hsp x (by first | (simp at hx ⊢; exact hx) | simp at hx))) (fun _ _ => rfl) rfl hx (ok_one (by kernel_rfl) rfl (okWide_bool_mk Try.underlying4 _))⟩

theorem over : Rows.pdevNoneRow.holds Try.pinned (OpenSpec.ofChange Rows.pdevNoneSpec) :=
  OpenClaim.holds_of_wide 11 Try.f11 rfl rfl rfl rfl rfl rfl rfl ⟨rfl, rfl, rfl, rfl, rfl⟩ rfl rfl rfl rfl rfl (by kernel_rfl) Try.func11 (by kernel_rfl)
    (of_decide_eq_true (by kernel_rfl)) (by unfold Func.isWrapper; first | (rw [if_pos (by decide +kernel)]; kernel_rfl) | (rw [if_neg (by decide +kernel)]; exact ⟨rfl, rfl⟩))
    (fun os started H enc _ => lifted os started H enc)
end pdevNone

theorem pdevNone_holds : Rows.PdevNoneSaid := pdevNone.over
#print axioms pdevNone_holds
end Go.Proofs.Ytimbfclnkagnaaa
