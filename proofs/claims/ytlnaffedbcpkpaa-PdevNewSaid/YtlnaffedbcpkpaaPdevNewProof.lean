/- Which devices may be, all noughts: the law answers true for every input, and changes nothing. Conditions: none. -/
import Derived.Test.YtlnaffedbcpkpaaSame
import Derived.Test.YtlnaffedbcpkpaaNewNo
import Derived.Test.YtlnaffedbcpkpaaViews
namespace Go.Proofs.Ytlnaffedbcpkpaa
open Go.ChangeShapes Go.WideShapes Go.ChangeAt Go.RowKit
set_option linter.unusedVariables false
set_option maxRecDepth 100000 in
set_option maxHeartbeats 2000000 in
theorem pdevNew_yes (n T : Nat) (n0 : 0 < n) (n1 : n ≤ 300) (T0 : 0 < T) (T1 : T ≤ 64) (w : World) : Calls Try.prog 4 #[.int .i64 (n : Int), .int .i64 (T : Int)] w (fun e w' => e = .returned (.bool true) ∧ Ext w w') := by
  have HN := Lib.hid (new_ok w n T n0 (by omega) T0 T1)
  have HM := Lib.hid (fun W => mayNew_yes (n : Int) (T : Int) ⟨by omega, by omega, by omega, by omega⟩ W)
  obtain ⟨N, hN⟩ : ∃ N, n * 8 = N := ⟨_, rfl⟩
  have HO : Hid (∀ (W : World) (A : Option Addr), Ints W .u64 A (List.replicate N 0) → Calls Try.prog 12 #[.slice A N N, .int .i64 (T : Int)] W (RefNew W T n (List.replicate N 0))) := Lib.hid (fun W A hI => refOpen_ok W A N n N T (List.replicate N 0) hN (by omega) n0 (by simp) (lim_noughts _) hI T0 T1)
  have hmk := fun W => make_words N N (Nat.le_refl _) (by omega) W
  simp only [Nat.mul_one] at hmk
  have h8 : 8 * (n : Int) = (N : Int) := by omega
  have u1 : decide (300 < n) = false := by simp; omega
  have u2 : ¬ (300 : Int) < (n : Int) := by omega
  have HNN := Lib.hid hN
  rw [hN] at HN
  clear hN
  go_enter Try.func4, Try.ntmps4
  go_wp2_with fail
  refine HN.out.mono ?_
  rintro e w1 ⟨D, rfl, h, x⟩
  have a1 : At w w1 D.ptr _ := At.mk h x
  generalize D.ptr = v at a1
  have A1 := Lib.hid a1
  clear h x HN a1
  go_wp2_with fail
  refine (HM.out _).mono ?_
  rintro e w' ⟨rfl, rfl⟩
  go_wp2_with fail
  refine (awake4_of _).mono ?_
  rintro e w2 ⟨rfl, x2⟩
  have A2 := Lib.hid (A1.out.ext x2)
  clear x2 A1
  have hrow := Row.made w2 32 N N .u64 (Nat.le_refl _) (by omega)
  rw [Nat.mul_one] at hrow
  obtain ⟨A, c, hv, hI, _⟩ := hrow.form
  have hI' : Ints (w2.alloc (.cells (madeCells #[.int .u64 0] N) 32)) .u64 (some ⟨w2.heap.size, 0, none⟩) (List.replicate N 0) := by
    injection hv with q1
    rw [q1]
    exact hI
  have HI := Lib.hid hI'
  clear hrow hv hI hI'
  have hwN : IntKind.i64.wrap (N : Int) = (N : Int) := IntWalk.i64_in _ (by omega)
  go_wp2_with fail
  refine (HO.out _ _ HI.out).mono ?_
  rintro e w3 ⟨R, rfl, hl, hR, x3⟩
  have AA := Lib.hid ((A2.out.ext ((Ext.refl w2).alloc _)).ext x3)
  have RR := Lib.hid (RefAt.new (T := T) hR hl (by rw [List.length_replicate]; exact HNN.out.symm))
  clear hl hR x3 HO HI
  go_wp2_with fail
  refine (same_ok AA.out RR.out (i := 0) (by decide) (fine_new n T _)).mono ?_
  rintro e w4 ⟨rfl, x4⟩
  have X := Lib.hid (AA.out.held.1.trans x4)
  clear x4
  go_wp2_with fail
  go_ret
  exact ⟨rfl, X.out⟩
set_option maxRecDepth 100000 in
set_option maxHeartbeats 2000000 in
theorem pdevNew_mid (n : Int) (t : Int) (h1 : 300 < n) (h2 : n ≤ 262144) (w : World) : Calls Try.prog 4 #[.int .i64 n, .int .i64 t] w (fun e w' => e = .returned (.bool true) ∧ Ext w w') := by
  go_enter Try.func4, Try.ntmps4
  go_wp2_with fail
  refine (awake4_of _).mono ?_
  rintro e w1 ⟨rfl, x1⟩
  have X := Lib.hid x1
  clear x1
  go_wp2_with fail
  go_ret
  exact ⟨rfl, X.out⟩
theorem pdevNew_walk (n t : Int) (w : World) : Calls Try.prog 4 #[.int .i64 n, .int .i64 t] w (fun e w' => e = .returned (.bool true) ∧ Ext w w') := by
  by_cases hm : 300 < n ∧ n ≤ 262144
  · exact pdevNew_mid n t hm.1 hm.2 w
  by_cases h : MayNew n t
  · have h' := h
    unfold MayNew at h'
    obtain ⟨a, rfl⟩ := Int.eq_ofNat_of_zero_le (show 0 ≤ n by omega)
    obtain ⟨b, rfl⟩ := Int.eq_ofNat_of_zero_le (show 0 ≤ t by omega)
    exact pdevNew_yes a b (by omega) (by omega) (by omega) (by omega) w
  · exact pdevNew_no n t h w

namespace pdevNew
set_option maxRecDepth 100000 in
theorem lifted (os : Os) (started : os.Started) (H : Type) (enc : TypeId × Value → H) :
    ReturnsInHanded {} Try.checked os 4 .any (Rows.pdevNewSpec.pre6 enc Try.prog Try.f4 Rows.pdevNewRow.domain false) (Rows.pdevNewSpec.post enc Try.prog Try.f4 false true false false) := by
  refine returnsInHanded_of_change (C := Try.checked) own started (by kernel_rfl) Try.func4
    (ChangeSpec.witness6 (enc := enc) (C := Try.checked) false ⟨#[], #[.int .i64 0, .int .i64 0], []⟩ 8 (by kernel_rfl) (by kernel_rfl) (by kernel_rfl) (by kernel_rfl)) ?_
  intro W base args ds gs before hval0 hW hcnd _
  have hval : ∀ (j : Nat) t v, Try.f4.params[j]? = some t → args[j]? = some v → Value.okWide Try.prog W .any base t v := hval0
  have hW' := hW
  obtain ⟨p, q, hA0, hV, rfl, hfz, hnd⟩ := hW
  have hA : DataW.TrodAll enc Try.prog W 0 (fun _ => true) true Try.f4.params.toList args.toList ds p := hA0
  have hlt : ∀ x ∈ p ++ q, x.block < W.heap.size := fun x hx => hW'.lt x hx
  rw [Try.params4] at hA hval
  have hB := hA
  obtain ⟨v0, vs0, d0, ds0, p0, q0, hargs, rfl, rfl, h0, r0⟩ := trodAll_cons hB
  obtain ⟨v1, vs1, d1, ds1, p1, q1, rfl, rfl, rfl, h1, r1⟩ := trodAll_cons r0
  obtain ⟨rfl, rfl, rfl⟩ := trodAll_nil r1
  obtain rfl : args = #[v0, v1] := by cases args; simp_all
  obtain ⟨rfl, rfl⟩ := trodVars_none hV
  obtain ⟨a0, rfl, rfl, rfl, w0⟩ := open_int Try.underlying3 (hval 0 3 v0 rfl rfl) h0
  obtain ⟨a1, rfl, rfl, rfl, w1⟩ := open_int Try.underlying3 (hval 1 3 v1 rfl rfl) h1
  clear hA0 hval0
  refine (pdevNew_walk a0 a1 W).mono fun e W' ⟨he, hx⟩ => ?_
  subst he
  exact ⟨_, rfl, post_ext (pv := []) hW' (fun _ _ _ => (trodAll_cons_mk (shut_bool Try.underlying4 _) trodAll_mk0)) (fun sp hsp => trodAll_stays laid hx _ _ _ _ (readable_of (by kernel_rfl)) hA (fun x hx => hlt x (by first | (simp at hx ⊢; exact hx) | simp at hx)) (fun x hx => hsp x (by first | (simp at hx ⊢; exact hx) | simp at hx))) (fun _ _ => rfl) rfl hx (ok_one (by kernel_rfl) rfl (okWide_bool_mk Try.underlying4 _))⟩

theorem over : Rows.pdevNewRow.holds Try.pinned (OpenSpec.ofChange Rows.pdevNewSpec) :=
  OpenClaim.holds_of_wide 4 Try.f4 rfl rfl rfl rfl rfl rfl rfl ⟨rfl, rfl, rfl, rfl, rfl⟩ rfl rfl rfl rfl rfl (by kernel_rfl) Try.func4 (by kernel_rfl)
    (of_decide_eq_true (by kernel_rfl)) (by unfold Func.isWrapper; first | (rw [if_pos (by decide +kernel)]; kernel_rfl) | (rw [if_neg (by decide +kernel)]; exact ⟨rfl, rfl⟩))
    (fun os started H enc _ => lifted os started H enc)
end pdevNew

theorem pdevNew_holds : Rows.PdevNewSaid := pdevNew.over
#print axioms pdevNew_holds
end Go.Proofs.Ytlnaffedbcpkpaa
