/- The mix and the bucket of any key, of any number of buckets; unlike keys have unlike mixes: the law answers true for all numbers, and changes nothing. Conditions: none. -/
import Derived.Test.YtfjfeomkmhbpbaaHash2
namespace Go.Proofs.Ytfjfeomkmhbpbaa
open Go.ChangeShapes Go.WideShapes Go.ChangeAt Go.RowKit
set_option linter.unusedVariables false

set_option maxHeartbeats 1000000 in
theorem hashMixes_walk (w : World) (a b : Nat) (ha : a < 4294967296) (hb : b < 4294967296) (m : Int) (hm0 : -9223372036854775808 ≤ m) (hm : m < 9223372036854775808) :
    Calls Try.prog 3 #[.int .u32 (a : Int), .int .u32 (b : Int), .int .i64 m] w fun e w' => e = .returned (.bool true) ∧ Ext w w' := by
  have HX := Lib.hid (mix_any a ha w)
  have HY := Lib.hid (mix_any b hb w)
  have HR := Lib.hid (rmix_any a ha w)
  have HA := Lib.hid (awake16_ok w)
  have HI := Lib.hid (fun h : HM.mixN a = HM.mixN b => HM.mix_inj ha hb h)
  have hl := HM.mixN_lt a
  have HK : Hid (a = b → HM.mixN a = HM.mixN b) := Lib.hid (fun e => by rw [e])
  have HBn : Hid (m < 1 → Calls Try.prog 11 #[.int .u32 (a : Int), .int .i64 m] w fun e w' => e = .returned (.int .i64 (-1)) ∧ w = w') := Lib.hid (fun h => bucket_no a ha m h w)
  have HBy : Hid (1 ≤ m → Calls Try.prog 11 #[.int .u32 (a : Int), .int .i64 m] w fun e w' => e = .returned (.int .i64 ((HM.mixN a : Int) % m)) ∧ w = w') := Lib.hid (fun h => bucket_yes a ha m h hm w)
  generalize HM.mixN a = x at *
  generalize HM.mixN b = y at *
  have dn : ((x : Int) != (x : Int)) = false := by simp
  obtain ⟨p, hp⟩ : ∃ p, ((x : Int) == (y : Int)) = p := ⟨_, rfl⟩
  have hq : ((a : Int) == (b : Int)) = p := by
    by_cases e : a = b
    · rw [HK.out e] at hp
      rw [e]
      rw [← hp]
      simp
    · have e2 : ¬ x = y := fun h => e (HI.out h)
      rw [← hp]
      rw [show ((a : Int) == (b : Int)) = false from by rw [beq_eq_false_iff_ne]; omega]
      exact (by rw [beq_eq_false_iff_ne]; omega : ((x : Int) == (y : Int)) = false).symm
  have dp : (p != p) = false := by cases p <;> rfl
  have e1 : (x : Int).tmod m = (x : Int) % m := by rw [Int.tmod_eq_emod_of_nonneg (by omega)]
  by_cases h1 : m < 1
  · have d : decide (m < 1) = true := by simp; omega
    have HB := Lib.hid (HBn.out h1)
    go_enter Try.func3, Try.ntmps3
    go_wp2_with (first
      | (with_reducible refine HX.out.mono ?_; rintro e w' ⟨rfl, rfl⟩)
      | (with_reducible refine HY.out.mono ?_; rintro e w' ⟨rfl, rfl⟩)
      | (with_reducible refine HR.out.mono ?_; rintro e w' ⟨rfl, rfl⟩)
      | (with_reducible refine HA.out.mono ?_; rintro e w' ⟨rfl, rfl⟩)
      | (with_reducible refine HB.out.mono ?_; rintro e w' ⟨rfl, rfl⟩))
    go_ret
    exact ⟨rfl, Ext.refl _⟩
  · have d : decide (m < 1) = false := by simp; omega
    have HB := Lib.hid (HBy.out (by omega))
    have e2 : 0 ≤ (x : Int) % m := Int.emod_nonneg _ (by omega)
    have e3 : (x : Int) % m < m := Int.emod_lt_of_pos _ (by omega)
    have e4 : m ≠ 0 := by omega
    have e5 : (m == 0) = false := by rw [beq_eq_false_iff_ne]; omega
    have hm1 : 1 ≤ m := by omega
    go_enter Try.func3, Try.ntmps3
    go_wp2_with (first
      | (with_reducible refine HX.out.mono ?_; rintro e w' ⟨rfl, rfl⟩)
      | (with_reducible refine HY.out.mono ?_; rintro e w' ⟨rfl, rfl⟩)
      | (with_reducible refine HR.out.mono ?_; rintro e w' ⟨rfl, rfl⟩)
      | (with_reducible refine HA.out.mono ?_; rintro e w' ⟨rfl, rfl⟩)
      | (with_reducible refine HB.out.mono ?_; rintro e w' ⟨rfl, rfl⟩))
    go_ret
    exact ⟨by simp, Ext.refl _⟩
theorem nat_u32 {x : Int} (h : (Lit.int .u32 x).wf = true) : ∃ n : Nat, x = (n : Int) ∧ n < 4294967296 := by
  obtain ⟨h0, h1⟩ := wf_u32 h
  exact ⟨x.toNat, by omega, by omega⟩
theorem hashMixes_any (w : World) (a b m : Int) (ha : (Lit.int .u32 a).wf = true) (hb : (Lit.int .u32 b).wf = true) (hm : (Lit.int .i64 m).wf = true) :
    Calls Try.prog 3 #[.int .u32 a, .int .u32 b, .int .i64 m] w fun e w' => e = .returned (.bool true) ∧ Ext w w' := by
  obtain ⟨a', rfl, ha'⟩ := nat_u32 ha
  obtain ⟨b', rfl, hb'⟩ := nat_u32 hb
  exact hashMixes_walk w a' b' ha' hb' m (wf_i64 hm).1 (wf_i64 hm).2

namespace hashMixes
set_option maxRecDepth 100000 in
theorem lifted (os : Os) (started : os.Started) (H : Type) (enc : TypeId × Value → H) :
    ReturnsInHanded {} Try.checked os 3 .any (Rows.hashMixesSpec.pre6 enc Try.prog Try.f3 Rows.hashMixesRow.domain false) (Rows.hashMixesSpec.post enc Try.prog Try.f3 false true false false) := by
  refine returnsInHanded_of_change (C := Try.checked) own started (by kernel_rfl) Try.func3
    (ChangeSpec.witness6 (enc := enc) (C := Try.checked) false ⟨#[], #[.int .u32 0, .int .u32 0, .int .i64 0], []⟩ 8 (by kernel_rfl) (by kernel_rfl) (by kernel_rfl) (by kernel_rfl)) ?_
  intro W base args ds gs before hval0 hW hcnd _
  have hval : ∀ (j : Nat) t v, Try.f3.params[j]? = some t → args[j]? = some v → Value.okWide Try.prog W .any base t v := hval0
  have hW' := hW
  obtain ⟨p, q, hA0, hV, rfl, hfz, hnd⟩ := hW
  have hA : DataW.TrodAll enc Try.prog W 0 (fun _ => true) true Try.f3.params.toList args.toList ds p := hA0
  rw [Try.params3] at hA hval
  obtain ⟨v0, vs0, d0, ds0, p0, q0, hargs, rfl, rfl, h0, r0⟩ := trodAll_cons hA
  obtain ⟨v1, vs1, d1, ds1, p1, q1, rfl, rfl, rfl, h1, r1⟩ := trodAll_cons r0
  obtain ⟨v2, vs2, d2, ds2, p2, q2, rfl, rfl, rfl, h2, r2⟩ := trodAll_cons r1
  obtain ⟨rfl, rfl, rfl⟩ := trodAll_nil r2
  obtain rfl : args = #[v0, v1, v2] := by cases args; simp_all
  obtain ⟨rfl, rfl⟩ := trodVars_none hV
  obtain ⟨a0, rfl, rfl, rfl, w0⟩ := open_int Try.underlying22 (hval 0 22 v0 rfl rfl) h0
  obtain ⟨a1, rfl, rfl, rfl, w1⟩ := open_int Try.underlying22 (hval 1 22 v1 rfl rfl) h1
  obtain ⟨a2, rfl, rfl, rfl, w2⟩ := open_int Try.underlying3 (hval 2 3 v2 rfl rfl) h2
  clear hA0 hval0
  simp only [List.append_nil] at hW'
  refine (hashMixes_any W a0 a1 a2 w0 w1 w2).mono fun e W' ⟨he, hx⟩ => ?_
  subst he
  exact ⟨_, rfl, post_ext (pa := []) (pv := []) hW' (fun _ _ _ => (trodAll_cons_mk (shut_bool Try.underlying4 _) trodAll_mk0)) (fun sp _ => (trodAll_cons_mk (shut_int Try.underlying22 w0) (trodAll_cons_mk (shut_int Try.underlying22 w1) (trodAll_cons_mk (shut_int Try.underlying3 w2) trodAll_mk0)))) (fun _ _ => rfl) rfl hx (ok_one (by kernel_rfl) rfl (okWide_bool_mk Try.underlying4 _))⟩

theorem over : Rows.hashMixesRow.holds Try.pinned (OpenSpec.ofChange Rows.hashMixesSpec) :=
  OpenClaim.holds_of_wide 3 Try.f3 rfl rfl rfl rfl rfl rfl rfl ⟨rfl, rfl, rfl, rfl, rfl⟩ rfl rfl rfl rfl rfl (by kernel_rfl) Try.func3 (by kernel_rfl)
    (of_decide_eq_true (by kernel_rfl)) (by unfold Func.isWrapper; first | (rw [if_pos (by decide +kernel)]; kernel_rfl) | (rw [if_neg (by decide +kernel)]; exact ⟨rfl, rfl⟩))
    (fun os started H enc _ => lifted os started H enc)
end hashMixes

theorem hashMixes_holds : Rows.HashMixesSaid := hashMixes.over
#print axioms hashMixes_holds
end Go.Proofs.Ytfjfeomkmhbpbaa
