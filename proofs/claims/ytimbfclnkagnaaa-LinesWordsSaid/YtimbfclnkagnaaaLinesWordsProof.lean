/- For every lines (up to 40) and every words (up to 300): the lines' words are cut again as they were, and the words are lines just where eight of them make each: the law answers true, and changes nothing. Conditions: none. -/
import Derived.Test.YtimbfclnkagnaaaLineLaw
namespace Go.Proofs.Ytimbfclnkagnaaa
open Go.ChangeShapes Go.WideShapes Go.ChangeAt Go.RowKit
set_option linter.unusedVariables false
set_option maxRecDepth 100000 in
theorem linesWords_far (A0 A1 : Option Addr) (n0 c0 n1 c1 : Nat) (w : World) (h0 : n0 ≤ 9223372036854775807) (h1 : n1 ≤ 9223372036854775807) (h : 40 < n0 ∨ 300 < n1) :
    Calls Try.prog 5 #[.slice A0 n0 c0, .slice A1 n1 c1] w fun e w' => e = .returned (.bool true) ∧ Ext w w' := by
  by_cases g : 40 < n0
  · have t0 : decide (40 < (n0 : Int)) = true := by simp; omega
    go_enter Try.func5, Try.ntmps5
    go_wp2_with fail
    refine (awake3_any _).mono ?_
    rintro e w1 ⟨rfl, hx1⟩
    go_wp2_with fail
    go_ret
    exact ⟨rfl, hx1⟩
  · have t0 : decide (40 < (n0 : Int)) = false := by simp; omega
    have t1 : decide (300 < (n1 : Int)) = true := by simp; omega
    clear h
    go_enter Try.func5, Try.ntmps5
    go_wp2_with fail
    refine (awake3_any _).mono ?_
    rintro e w1 ⟨rfl, hx1⟩
    go_wp2_with fail
    go_ret
    exact ⟨rfl, hx1⟩
set_option maxRecDepth 100000 in
set_option maxHeartbeats 1000000 in
theorem linesWords_yes (A0 A1 : Option Addr) (n0 c0 n1 c1 : Nat) (zs ys : List Int) (w : World) (h0 : n0 ≤ 40) (h1 : n1 ≤ 300) (hz : zs.length = 8 * n0) (hy : ys.length = n1) (hc0 : n0 ≤ c0) (hc1 : n1 ≤ c1) (hm1 : c1 ≤ 9223372036854775807) (lz : Lim zs 18446744073709551616) (ly : Lim ys 18446744073709551616) (I0 : Ints w .u64 A0 zs) (I1 : Ints w .u64 A1 ys) (m : Nat) (hm : n1 = m * 8) :
    Calls Try.prog 5 #[.slice A0 n0 c0, .slice A1 n1 c1] w fun e w' => e = .returned (.bool true) ∧ Ext w w' := by
  have t0 : decide (40 < (n0 : Int)) = false := by simp; omega
  have t1 : decide (300 < (n1 : Int)) = false := by simp; omega
  have HW := Lib.hid (fun W (h : Ints W .u64 A0 zs) => words_of W A0 n0 c0 zs hz (by omega) lz h)
  have HF := Lib.hid (fun W (h : Ints W .u64 A0 zs) => flat_any W A0 n0 c0 zs hz (by omega) h)
  have HI0 := Lib.hid I0
  have HI1 := Lib.hid I1
  subst hm
  have HC := Lib.hid (fun W (h : Ints W .u64 A1 ys) => cut_of A1 m c1 ys W hy (by omega) hc1 hm1 ly h)
  have HMay := Lib.hid (fun W => may8 (m * 8) (by omega) W)
  have em : LM.may (m * 8) 8 = 0 := by unfold LM.may; rw [if_pos (by omega), if_neg (by omega)]
  rw [em] at HMay
  clear em
  have HZ := Lib.hid hz
  have HY := Lib.hid hy
  clear I0 I1 hz hy
  go_enter Try.func5, Try.ntmps5
  go_wp2_with fail
  refine (HW.out _ HI0.out).mono ?_
  rintro e w1 ⟨va, rfl, ra, x1⟩
  obtain ⟨Aa, ca, hva, Ia, _⟩ := ra.form
  have e8 : zs.length = n0 * 8 := by have := HZ.out; omega
  rw [e8] at hva
  subst hva
  have Hn := Lib.hid e8
  clear e8
  have hca : n0 * 8 ≤ ca := by
    obtain ⟨A2, c2, h2, hl2, _⟩ := (RowN.of_row ra).form (by decide)
    injection h2 with _ h3 h4
    have := Hn.out
    omega
  have hcm : ca ≤ 9223372036854775807 := by
    obtain ⟨A2, c2, h2, _, hm2, _⟩ := (RowN.of_row ra).form (by decide)
    injection h2 with _ h3 h4
    unfold maxLen at hm2
    omega
  have HIa := Lib.hid Ia
  clear Ia ra
  go_wp2_with fail
  refine (cut_of Aa n0 ca zs _ Hn.out (by omega) hca hcm lz HIa.out).mono ?_
  rintro e w2 ⟨vm, rfl, rm, x2⟩
  obtain ⟨Am, cm, rfl, _, _, Im, _, _⟩ := rm.form (by decide)
  have HIm := Lib.hid Im
  clear Im rm
  go_wp2_with fail
  refine (HC.out _ (HI1.out.ext (x1.trans x2))).mono ?_
  rintro e w3 ⟨vk, rfl, rk, x3⟩
  obtain ⟨Ak, ck, rfl, _, _, Ik, _, _⟩ := rk.form (by decide)
  have HIk := Lib.hid Ik
  clear Ik rk
  go_wp2_with fail
  refine (HF.out _ (HI0.out.ext ((x1.trans x2).trans x3))).mono ?_
  rintro e w4 ⟨vf, rfl, rf, x4⟩
  obtain ⟨Af, cf, hvf, If, _⟩ := rf.form
  rw [Hn.out] at hvf
  subst hvf
  have HIf := Lib.hid If
  clear If rf
  go_wp2_with fail
  refine (same_n Aa Af (n0 * 8) (n0 * 8) ca cf zs zs true _ Hn.out Hn.out (by omega) (by simp) (HIa.out.ext ((x2.trans x3).trans x4)) HIf.out).mono ?_
  rintro e w5 ⟨rfl, x5⟩
  go_wp2_with fail
  refine (flat_any _ Am n0 cm zs HZ.out (by omega) (HIm.out.ext ((x3.trans x4).trans x5))).mono ?_
  rintro e w6 ⟨vg, rfl, rg, x6⟩
  obtain ⟨Ag, cg, hvg, Ig, _⟩ := rg.form
  rw [Hn.out] at hvg
  subst hvg
  have HIg := Lib.hid Ig
  clear Ig rg
  go_wp2_with fail
  refine (same_n Ag Aa (n0 * 8) (n0 * 8) cg ca zs zs true _ Hn.out Hn.out (by omega) (by simp) HIg.out (HIa.out.ext ((((x2.trans x3).trans x4).trans x5).trans x6))).mono ?_
  rintro e w7 ⟨rfl, x7⟩
  go_wp2_with fail
  refine (HMay.out _).mono ?_
  rintro e w8 ⟨rfl, rfl⟩
  go_wp2_with fail
  refine (awake3_any _).mono ?_
  rintro e w9 ⟨rfl, x9⟩
  go_wp2_with fail
  refine (flat_any _ Ak m ck ys (by have := HY.out; omega) (by omega) (HIk.out.ext (((((x4.trans x5).trans x6).trans x7)).trans x9))).mono ?_
  rintro e w10 ⟨vh, rfl, rh, x10⟩
  obtain ⟨Ah, ch, hvh, Ih, _⟩ := rh.form
  rw [HY.out] at hvh
  subst hvh
  go_wp2_with fail
  refine (same_n Ah A1 (m * 8) (m * 8) ch c1 ys ys true _ HY.out HY.out (by omega) (by simp) Ih (HI1.out.ext ((((((((x1.trans x2).trans x3).trans x4).trans x5).trans x6).trans x7).trans x9).trans x10))).mono ?_
  rintro e w11 ⟨rfl, x11⟩
  go_wp2_with fail
  go_ret
  exact ⟨rfl, (((((((((x1.trans x2).trans x3).trans x4).trans x5).trans x6).trans x7).trans x9).trans x10)).trans x11⟩
set_option maxRecDepth 100000 in
set_option maxHeartbeats 1000000 in
theorem linesWords_no (A0 A1 : Option Addr) (n0 c0 n1 c1 : Nat) (zs ys : List Int) (w : World) (h0 : n0 ≤ 40) (h1 : n1 ≤ 300) (hz : zs.length = 8 * n0) (hy : ys.length = n1) (hc0 : n0 ≤ c0) (hc1 : n1 ≤ c1) (hm1 : c1 ≤ 9223372036854775807) (lz : Lim zs 18446744073709551616) (ly : Lim ys 18446744073709551616) (I0 : Ints w .u64 A0 zs) (I1 : Ints w .u64 A1 ys) (hm : n1 % 8 ≠ 0) :
    Calls Try.prog 5 #[.slice A0 n0 c0, .slice A1 n1 c1] w fun e w' => e = .returned (.bool true) ∧ Ext w w' := by
  have t0 : decide (40 < (n0 : Int)) = false := by simp; omega
  have t1 : decide (300 < (n1 : Int)) = false := by simp; omega
  have HW := Lib.hid (fun W (h : Ints W .u64 A0 zs) => words_of W A0 n0 c0 zs hz (by omega) lz h)
  have HF := Lib.hid (fun W (h : Ints W .u64 A0 zs) => flat_any W A0 n0 c0 zs hz (by omega) h)
  have HI0 := Lib.hid I0
  have HI1 := Lib.hid I1
  have HC := Lib.hid (fun W => cut_form A1 n1 c1 (by omega) hm W)
  have HMay := Lib.hid (fun W => may8 n1 (by omega) W)
  have em : LM.may n1 8 = 3 := by unfold LM.may; rw [if_neg hm]
  rw [em] at HMay
  clear em hm
  have HZ := Lib.hid hz
  have HY := Lib.hid hy
  clear I0 I1 hz hy
  go_enter Try.func5, Try.ntmps5
  go_wp2_with fail
  refine (HW.out _ HI0.out).mono ?_
  rintro e w1 ⟨va, rfl, ra, x1⟩
  obtain ⟨Aa, ca, hva, Ia, _⟩ := ra.form
  have e8 : zs.length = n0 * 8 := by have := HZ.out; omega
  rw [e8] at hva
  subst hva
  have Hn := Lib.hid e8
  clear e8
  have hca : n0 * 8 ≤ ca := by
    obtain ⟨A2, c2, h2, hl2, _⟩ := (RowN.of_row ra).form (by decide)
    injection h2 with _ h3 h4
    have := Hn.out
    omega
  have hcm : ca ≤ 9223372036854775807 := by
    obtain ⟨A2, c2, h2, _, hm2, _⟩ := (RowN.of_row ra).form (by decide)
    injection h2 with _ h3 h4
    unfold maxLen at hm2
    omega
  have HIa := Lib.hid Ia
  clear Ia ra
  go_wp2_with fail
  refine (cut_of Aa n0 ca zs _ Hn.out (by omega) hca hcm lz HIa.out).mono ?_
  rintro e w2 ⟨vm, rfl, rm, x2⟩
  obtain ⟨Am, cm, rfl, _, _, Im, _, _⟩ := rm.form (by decide)
  have HIm := Lib.hid Im
  clear Im rm
  go_wp2_with fail
  refine (HC.out _).mono ?_
  rintro e w3 ⟨rfl, x3⟩
  go_wp2_with fail
  refine (HF.out _ (HI0.out.ext ((x1.trans x2).trans x3))).mono ?_
  rintro e w4 ⟨vf, rfl, rf, x4⟩
  obtain ⟨Af, cf, hvf, If, _⟩ := rf.form
  rw [Hn.out] at hvf
  subst hvf
  have HIf := Lib.hid If
  clear If rf
  go_wp2_with fail
  refine (same_n Aa Af (n0 * 8) (n0 * 8) ca cf zs zs true _ Hn.out Hn.out (by omega) (by simp) (HIa.out.ext ((x2.trans x3).trans x4)) HIf.out).mono ?_
  rintro e w5 ⟨rfl, x5⟩
  go_wp2_with fail
  refine (flat_any _ Am n0 cm zs HZ.out (by omega) (HIm.out.ext ((x3.trans x4).trans x5))).mono ?_
  rintro e w6 ⟨vg, rfl, rg, x6⟩
  obtain ⟨Ag, cg, hvg, Ig, _⟩ := rg.form
  rw [Hn.out] at hvg
  subst hvg
  have HIg := Lib.hid Ig
  clear Ig rg
  go_wp2_with fail
  refine (same_n Ag Aa (n0 * 8) (n0 * 8) cg ca zs zs true _ Hn.out Hn.out (by omega) (by simp) HIg.out (HIa.out.ext ((((x2.trans x3).trans x4).trans x5).trans x6))).mono ?_
  rintro e w7 ⟨rfl, x7⟩
  go_wp2_with fail
  refine (HMay.out _).mono ?_
  rintro e w8 ⟨rfl, rfl⟩
  go_wp2_with fail
  refine (awake3_any _).mono ?_
  rintro e w9 ⟨rfl, x9⟩
  go_wp2_with fail
  go_ret
  exact ⟨rfl, (((((((x1.trans x2).trans x3).trans x4).trans x5).trans x6).trans x7).trans x9)⟩
theorem linesWords_walk (A0 A1 : Option Addr) (n0 c0 c1 : Nat) (zs ys : List Int) (w : World) (hz : zs.length = 8 * n0) (hc0 : n0 ≤ c0) (hm0 : c0 ≤ maxLen) (hc1 : ys.length ≤ c1) (hm1 : c1 ≤ maxLen) (lz : Lim zs 18446744073709551616) (ly : Lim ys 18446744073709551616) (I0 : Ints w .u64 A0 zs) (I1 : Ints w .u64 A1 ys) :
    Calls Try.prog 5 #[.slice A0 n0 c0, .slice A1 ys.length c1] w fun e w' => e = .returned (.bool true) ∧ Ext w w' := by
  unfold maxLen at hm0 hm1
  by_cases g : 40 < n0 ∨ 300 < ys.length
  · exact linesWords_far A0 A1 n0 c0 ys.length c1 w (by omega) (by omega) g
  · by_cases g2 : ys.length % 8 = 0
    · exact linesWords_yes A0 A1 n0 c0 ys.length c1 zs ys w (by omega) (by omega) hz rfl hc0 hc1 (by omega) lz ly I0 I1 (ys.length / 8) (by omega)
    · exact linesWords_no A0 A1 n0 c0 ys.length c1 zs ys w (by omega) (by omega) hz rfl hc0 hc1 (by omega) lz ly I0 I1 g2

namespace linesWords
set_option maxRecDepth 100000 in
theorem lifted (os : Os) (started : os.Started) (H : Type) (enc : TypeId × Value → H) :
    ReturnsInHanded {} Try.checked os 5 .any (Rows.linesWordsSpec.pre6 enc Try.prog Try.f5 Rows.linesWordsRow.domain false) (Rows.linesWordsSpec.post enc Try.prog Try.f5 false true false false) := by
  refine returnsInHanded_of_change (C := Try.checked) own started (by kernel_rfl) Try.func5
    (ChangeSpec.witness6 (enc := enc) (C := Try.checked) false ⟨#[], #[.slice none 0 0, .slice none 0 0], []⟩ 8 (by kernel_rfl) (by kernel_rfl) (by kernel_rfl) (by kernel_rfl)) ?_
  intro W base args ds gs before hval0 hW hcnd _
  have hval : ∀ (j : Nat) t v, Try.f5.params[j]? = some t → args[j]? = some v → Value.okWide Try.prog W .any base t v := hval0
  have hW' := hW
  obtain ⟨p, q, hA0, hV, rfl, hfz, hnd⟩ := hW
  have hA : DataW.TrodAll enc Try.prog W 0 (fun _ => true) true Try.f5.params.toList args.toList ds p := hA0
  have hlt : ∀ x ∈ p ++ q, x.block < W.heap.size := fun x hx => hW'.lt x hx
  rw [Try.params5] at hA hval
  have hB := hA
  obtain ⟨v0, vs0, d0, ds0, p0, q0, hargs, rfl, rfl, h0, r0⟩ := trodAll_cons hB
  obtain ⟨v1, vs1, d1, ds1, p1, q1, rfl, rfl, rfl, h1, r1⟩ := trodAll_cons r0
  obtain ⟨rfl, rfl, rfl⟩ := trodAll_nil r1
  obtain rfl : args = #[v0, v1] := by cases args; simp_all
  obtain ⟨rfl, rfl⟩ := trodVars_none hV
  obtain ⟨A0, n0, c0, z0, rfl, lc0, mc0, zl0, I0, L0⟩ := view_rows Try.underlying36 Try.underlying24 Try.underlying22 (by kernel_rfl) (by kernel_rfl) (by omega) (hval 0 36 v0 rfl rfl) h0
  obtain ⟨A1, c1, z1, rfl, lc1, mc1, I1, w1⟩ := view_ints Try.underlying32 Try.underlying22 (by kernel_rfl) (hval 1 32 v1 rfl rfl) h1
  clear hA0 hval0
  refine (linesWords_walk A0 A1 n0 c0 c1 z0 z1 W zl0 lc0 mc0 lc1 mc1 L0 (lim_u64 w1) I0 I1).mono fun e W' ⟨he, hx⟩ => ?_
  subst he
  exact ⟨_, rfl, post_ext (pv := []) hW' (fun _ _ _ => (trodAll_cons_mk (shut_bool Try.underlying4 _) trodAll_mk0)) (fun sp hsp => trodAll_stays laid hx _ _ _ _ (readable_of (by kernel_rfl)) hA (fun x hx => hlt x (by first | (simp at hx ⊢; exact hx) | simp at hx)) (fun x hx => hsp x (by first | (simp at hx ⊢; exact hx) | simp at hx))) (fun _ _ => rfl) rfl hx (ok_one (by kernel_rfl) rfl (okWide_bool_mk Try.underlying4 _))⟩

theorem over : Rows.linesWordsRow.holds Try.pinned (OpenSpec.ofChange Rows.linesWordsSpec) :=
  OpenClaim.holds_of_wide 5 Try.f5 rfl rfl rfl rfl rfl rfl rfl ⟨rfl, rfl, rfl, rfl, rfl⟩ rfl rfl rfl rfl rfl (by kernel_rfl) Try.func5 (by kernel_rfl)
    (of_decide_eq_true (by kernel_rfl)) (by unfold Func.isWrapper; first | (rw [if_pos (by decide +kernel)]; kernel_rfl) | (rw [if_neg (by decide +kernel)]; exact ⟨rfl, rfl⟩))
    (fun os started H enc _ => lifted os started H enc)
end linesWords

theorem linesWords_holds : Rows.LinesWordsSaid := linesWords.over
#print axioms linesWords_holds
end Go.Proofs.Ytimbfclnkagnaaa
