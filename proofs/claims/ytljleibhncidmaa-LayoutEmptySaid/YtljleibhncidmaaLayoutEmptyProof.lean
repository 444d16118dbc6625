/- Of no layout nothing is told: the law answers true for every input, and changes nothing. Conditions: none. -/
import Derived.Test.YtljleibhncidmaaLay9
import Derived.Test.YtljleibhncidmaaCfgView
namespace Go.Proofs.Ytljleibhncidmaa
open Go.ChangeShapes Go.WideShapes Go.ChangeAt Go.RowKit
set_option linter.unusedVariables false
theorem word0 (n pl : Int) : wordAt 0 0 0 0 n pl = 0 := by
  unfold wordAt
  rw [if_neg (by omega)]; rfl
theorem log0 (a b : Int) : logAt 0 0 0 0 0 a b = 0 := by
  unfold logAt
  rw [if_neg (by omega)]; rfl
theorem told0 (k a b : Int) : toldF (fun _ => 0) k a b = 0 := by
  unfold toldF
  simp only [word0, log0, ite_self]
theorem around0 (x : Int) : aroundAt 0 0 0 x = -1 := by
  unfold aroundAt
  rw [if_neg (by omega)]
set_option maxRecDepth 100000 in
set_option maxHeartbeats 1000000 in
theorem layoutEmpty_walk (kind a b : Int) (w : World) (h0 : 0 ≤ kind) (h1 : kind < 256) :
    Calls Try.prog 9 #[.int .u8 kind, .int .i64 a, .int .i64 b] w fun e w' => e = .returned (.bool true) ∧ Ext w w' := by
  have hn : ∀ W : World, LayAt W none (cellsF (fun _ => 0)) := fun W => Or.inr ⟨rfl, noughts_F.symm⟩
  have HT : Hid (∀ W, Calls Try.prog 26 #[.pointer none, .agg #[.int .i64 (2 + kind % 16), .int .i64 a, .int .i64 b]] W fun e w' => e = .returned (.int .i64 0) ∧ Ext W w') := Lib.hid (fun W => (told_any (fun _ => 0) okay0 none (2 + kind % 16) a b W (hn W) (by omega) (by omega)).mono fun e w' hh => ⟨hh.1.trans (reti (told0 _ a b)), hh.2⟩)
  have HL : Hid (∀ W, Calls Try.prog 24 #[.pointer none] W fun e w' => e = .returned (.int .i64 0) ∧ Ext W w') := Lib.hid (fun W => tLines_any none _ 0 W (hn W) (cellsF_at _ 4 (by omega)))
  have HP : Hid (∀ W, Calls Try.prog 25 #[.pointer none] W fun e w' => e = .returned (.int .i64 0) ∧ Ext W w') := Lib.hid (fun W => tPassing_any none _ 0 W (hn W) (cellsF_at _ 5 (by omega)))
  have HS : Hid (∀ W, Calls Try.prog 28 #[.pointer none, .int .i64 a] W fun e w' => e = .returned (.int .i64 (-1)) ∧ Ext W w') := Lib.hid (fun W => (tSlot_any none _ 0 0 0 a W (hn W) ⟨by decide, by decide⟩ ⟨by decide, by decide⟩ (by decide) (by decide) (by decide) (cellsF_at _ 18 (by omega)) (cellsF_at _ 19 (by omega)) (cellsF_at _ 20 (by omega))).mono fun e w' hh => ⟨hh.1.trans (reti (around0 a)), hh.2⟩)
  have HC : Hid (∀ W, Calls Try.prog 23 #[.pointer none] W fun e w' => e = .returned (.agg #[.int .i64 0, .int .i64 0, .int .i64 0, .int .i64 0]) ∧ Ext W w') := Lib.hid (fun W => tConfig_any none _ 0 0 0 0 W (hn W) (cellsF_at _ 0 (by omega)) (cellsF_at _ 1 (by omega)) (cellsF_at _ 2 (by omega)) (cellsF_at _ 3 (by omega)))
  clear hn
  have heq := fun W => eqc_yes 0 0 0 0 W
  go_enter Try.func9, Try.ntmps9
  go_wp2_with fail
  refine (awake6_any _).mono ?_
  rintro e w0 ⟨rfl, hx⟩
  go_wp2_with fail
  refine (HT.out _).mono ?_
  rintro e w1 ⟨rfl, x1⟩
  go_wp2_with fail
  refine (HL.out _).mono ?_
  rintro e w2 ⟨rfl, x2⟩
  go_wp2_with fail
  refine (HP.out _).mono ?_
  rintro e w3 ⟨rfl, x3⟩
  go_wp2_with fail
  refine (HS.out _).mono ?_
  rintro e w4 ⟨rfl, x4⟩
  go_wp2_with fail
  refine (HC.out _).mono ?_
  rintro e w5 ⟨rfl, x5⟩
  go_wp2_with fail
  go_ret
  exact ⟨rfl, ((((hx.trans x1).trans x2).trans x3).trans x4).trans x5⟩

namespace layoutEmpty
set_option maxRecDepth 100000 in
theorem lifted (os : Os) (started : os.Started) (H : Type) (enc : TypeId × Value → H) :
    ReturnsInHanded {} Try.checked os 9 .any (Rows.layoutEmptySpec.pre6 enc Try.prog Try.f9 Rows.layoutEmptyRow.domain false) (Rows.layoutEmptySpec.post enc Try.prog Try.f9 false true false false) := by
  refine returnsInHanded_of_change (C := Try.checked) own started (by kernel_rfl) Try.func9
    (ChangeSpec.witness6 (enc := enc) (C := Try.checked) false ⟨#[], #[.int .u8 0, .int .i64 0, .int .i64 0], []⟩ 8 (by kernel_rfl) (by kernel_rfl) (by kernel_rfl) (by kernel_rfl)) ?_
  intro W base args ds gs before hval0 hW hcnd _
  have hval : ∀ (j : Nat) t v, Try.f9.params[j]? = some t → args[j]? = some v → Value.okWide Try.prog W .any base t v := hval0
  have hW' := hW
  obtain ⟨p, q, hA0, hV, rfl, hfz, hnd⟩ := hW
  have hA : DataW.TrodAll enc Try.prog W 0 (fun _ => true) true Try.f9.params.toList args.toList ds p := hA0
  have hlt : ∀ x ∈ p ++ q, x.block < W.heap.size := fun x hx => hW'.lt x hx
  rw [Try.params9] at hA hval
  have hB := hA
  obtain ⟨v0, vs0, d0, ds0, p0, q0, hargs, rfl, rfl, h0, r0⟩ := trodAll_cons hB
  obtain ⟨v1, vs1, d1, ds1, p1, q1, rfl, rfl, rfl, h1, r1⟩ := trodAll_cons r0
  obtain ⟨v2, vs2, d2, ds2, p2, q2, rfl, rfl, rfl, h2, r2⟩ := trodAll_cons r1
  obtain ⟨rfl, rfl, rfl⟩ := trodAll_nil r2
  obtain rfl : args = #[v0, v1, v2] := by cases args; simp_all
  obtain ⟨rfl, rfl⟩ := trodVars_none hV
  obtain ⟨a0, rfl, rfl, rfl, w0⟩ := open_int Try.underlying5 (hval 0 5 v0 rfl rfl) h0
  obtain ⟨a1, rfl, rfl, rfl, w1⟩ := open_int Try.underlying3 (hval 1 3 v1 rfl rfl) h1
  obtain ⟨a2, rfl, rfl, rfl, w2⟩ := open_int Try.underlying3 (hval 2 3 v2 rfl rfl) h2
  clear hA0 hval0
  refine (layoutEmpty_walk a0 a1 a2 W (wf_u8 w0).1 (wf_u8 w0).2).mono fun e W' ⟨he, hx⟩ => ?_
  subst he
  exact ⟨_, rfl, post_ext (pv := []) hW' (fun _ _ _ => (trodAll_cons_mk (shut_bool Try.underlying4 _) trodAll_mk0)) (fun sp hsp => trodAll_stays laid hx _ _ _ _ (readable_of (by kernel_rfl)) hA (fun x hx => hlt x (by first | (simp at hx ⊢; exact hx) | simp at hx)) (fun x hx => hsp x (by first | (simp at hx ⊢; exact hx) | simp at hx))) (fun _ _ => rfl) rfl hx (ok_one (by kernel_rfl) rfl (okWide_bool_mk Try.underlying4 _))⟩

theorem over : Rows.layoutEmptyRow.holds Try.pinned (OpenSpec.ofChange Rows.layoutEmptySpec) :=
  OpenClaim.holds_of_wide 9 Try.f9 rfl rfl rfl rfl rfl rfl rfl ⟨rfl, rfl, rfl, rfl, rfl⟩ rfl rfl rfl rfl rfl (by kernel_rfl) Try.func9 (by kernel_rfl)
    (of_decide_eq_true (by kernel_rfl)) (by unfold Func.isWrapper; first | (rw [if_pos (by decide +kernel)]; kernel_rfl) | (rw [if_neg (by decide +kernel)]; exact ⟨rfl, rfl⟩))
    (fun os started H enc _ => lifted os started H enc)
end layoutEmpty

theorem layoutEmpty_holds : Rows.LayoutEmptySaid := layoutEmpty.over
#print axioms layoutEmpty_holds
end Go.Proofs.Ytljleibhncidmaa
