/- Whatever is loaded, stored, swapped, flushed and fenced, written back and lost, each access is the document's, and so is what is there: the law answers true for every input, and changes nothing. Conditions: none. -/
import Derived.Test.YtcelhllhdkminaaMMem
namespace Go.Proofs.Ytcelhllhdkminaa
open Go.ChangeShapes Go.WideShapes Go.ChangeAt Go.RowKit
set_option linter.unusedVariables false
set_option maxRecDepth 100000 in
set_option maxHeartbeats 2000000 in
theorem plays7_long (w : World) (A A1 : Option Addr) (N c n1 c1 : Nat) (T : Int) (h : 60 < N ∨ 60 < n1) (hN : N ≤ 9223372036854775807) (h1 : n1 ≤ 9223372036854775807) : Calls Try.prog 3 #[.slice A N c, .int .i64 T, .slice A1 n1 c1] w (fun e w' => e = .returned (.bool true) ∧ Ext w w') := by
  by_cases h60 : 60 < N
  · have u1 : decide (60 < N) = true := by simp; omega
    clear h
    go_enter Try.func3, Try.ntmps3
    go_wp2_with fail
    refine (awake7_of _).mono ?_
    rintro e w1 ⟨rfl, x1⟩
    have X := Lib.hid x1
    clear x1
    go_wp2_with fail
    go_ret
    exact ⟨rfl, X.out⟩
  · have u1 : decide (60 < N) = false := by simp; omega
    have u2 : decide (60 < n1) = true := by simp; omega
    have u3 : ¬ (n1 : Int) ≤ 60 := by omega
    have u4 : (60 : Int) < (n1 : Int) := by omega
    have u5 : ¬ (60 : Int) < (N : Int) := by omega
    clear h
    go_enter Try.func3, Try.ntmps3
    go_wp2_with fail
    refine (awake7_of _).mono ?_
    rintro e w1 ⟨rfl, x1⟩
    have X := Lib.hid x1
    clear x1
    go_wp2_with fail
    go_ret
    exact ⟨rfl, X.out⟩
set_option maxRecDepth 100000 in
set_option maxHeartbeats 2000000 in
theorem plays7_err (w : World) (A A1 : Option Addr) (N c n1 c1 : Nat) (T : Int) (hN : N ≤ 60) (h1 : n1 ≤ 60) (h : N % 8 ≠ 0 ∨ N = 0) : Calls Try.prog 3 #[.slice A N c, .int .i64 T, .slice A1 n1 c1] w (fun e w' => e = .returned (.bool true) ∧ Ext w w') := by
  have HO := Lib.hid (both_no w A N c T hN h)
  have HM : Hid (∀ W, Calls Try.prog 11 #[.int .i64 (N : Int), .int .i64 3] W fun e w' => e = .returned (.int .i64 3) ∧ W = w') := Lib.hid (fun W => by
    by_cases h0 : N = 0
    · subst h0
      exact mayOpen_none 3 (by decide) (by decide) W
    · exact mayOpen_form N 3 (by decide) (by decide) (by omega) (by omega) W)
  unfold NoBoth at HO
  clear h
  have u1 : decide (60 < N) = false := by simp; omega
  have u2 : decide (60 < n1) = false := by simp; omega
  go_enter Try.func3, Try.ntmps3
  go_wp2_with fail
  refine HO.out.mono ?_
  rintro e w' ⟨rfl, rfl⟩
  go_wp2_with fail
  refine (awake7_of _).mono ?_
  rintro e w2 ⟨rfl, x2⟩
  have X := Lib.hid x2
  clear x2
  go_wp2_with fail
  refine (HM.out _).mono ?_
  rintro e w' ⟨rfl, rfl⟩
  go_wp2_with fail
  go_ret
  exact ⟨rfl, X.out⟩
set_option maxRecDepth 100000 in
set_option maxHeartbeats 2000000 in
theorem plays7_out (w : World) (A A1 : Option Addr) (N c n1 c1 : Nat) (T : Int) (hN : N ≤ 60) (h1 : n1 ≤ 60) (h : N % 8 = 0) (hp : 0 < N) (hT : T < 0 ∨ 300 < T) : Calls Try.prog 3 #[.slice A N c, .int .i64 T, .slice A1 n1 c1] w (fun e w' => e = .returned (.bool true) ∧ Ext w w') := by
  have HO := Lib.hid (both_out w A N c T hN hT)
  have HM := Lib.hid (fun W => mayOpen_yes N (N / 8) 3 (by decide) (by decide) (by omega) (by omega) (by omega) W)
  unfold NoBoth at HO
  clear h
  have u1 : decide (60 < N) = false := by simp; omega
  have u2 : decide (60 < n1) = false := by simp; omega
  by_cases hT0 : T < 0
  · clear hT
    have u3 : decide (T < 0) = true := by simp; omega
    go_enter Try.func3, Try.ntmps3
    go_wp2_with fail
    refine HO.out.mono ?_
    rintro e w' ⟨rfl, rfl⟩
    go_wp2_with fail
    refine (awake7_of _).mono ?_
    rintro e w2 ⟨rfl, x2⟩
    have X := Lib.hid x2
    clear x2
    go_wp2_with fail
    refine (HM.out _).mono ?_
    rintro e w' ⟨rfl, rfl⟩
    go_wp2_with fail
    go_ret
    exact ⟨rfl, X.out⟩
  · have u3 : decide (T < 0) = false := by simp; omega
    have u4 : decide (300 < T) = true := by simp; omega
    have u5 : 300 < T := by omega
    clear hT
    go_enter Try.func3, Try.ntmps3
    go_wp2_with fail
    refine HO.out.mono ?_
    rintro e w' ⟨rfl, rfl⟩
    go_wp2_with fail
    refine (awake7_of _).mono ?_
    rintro e w2 ⟨rfl, x2⟩
    have X := Lib.hid x2
    clear x2
    go_wp2_with fail
    refine (HM.out _).mono ?_
    rintro e w' ⟨rfl, rfl⟩
    go_wp2_with fail
    go_ret
    exact ⟨rfl, X.out⟩
set_option maxRecDepth 100000 in
set_option maxHeartbeats 2000000 in
theorem plays7_yes (w : World) (A A1 : Option Addr) (N m c n1 c1 Tn : Nat) (zs : List Int) (ys : List Act7) (hN : m * 8 = N) (N2 : N ≤ 60) (m0 : 0 < m) (hl : zs.length = N) (hcap : N ≤ c) (hcm : c ≤ 9223372036854775807) (hz : Lim zs 18446744073709551616) (hA : Ints w .u64 A zs) (T1 : Tn ≤ 300) (hy : ys.length = n1) (hn1 : n1 ≤ 60) (hY : Acts7 w A1 ys) : Calls Try.prog 3 #[.slice A N c, .int .i64 (Tn : Int), .slice A1 n1 c1] w (fun e w' => e = .returned (.bool true) ∧ Ext w w') := by
  have HB := Lib.hid (both_ok w A N m c Tn zs hN N2 m0 hl hcap hcm hz hA T1)
  have HY := Lib.hid hY
  have HW0 : Hid (Well 0 (MSt.new (DSt.new m 3 zs) Tn)) := Lib.hid ⟨fine_new m 3 zs, Int.le_refl 0, Int.le_refl 0, Int.le_refl 0, Int.le_refl 0⟩
  clear hz hl hA hN hY
  have u1 : decide (60 < N) = false := by simp; omega
  have u2 : decide (60 < n1) = false := by simp; omega
  go_enter Try.func3, Try.ntmps3
  go_wp2_with fail
  refine HB.out.mono ?_
  rintro e w1 ⟨gm, dv, pv, g, R, rv, rfl, b1⟩
  have B1 := Lib.hid b1
  clear b1 HB
  go_wp2_with fail
  go_loopw [10] (fun i wr => ∃ (k : Nat) (s : MSt), k ≤ n1 ∧ i = .int .i64 k ∧ BothAt w wr gm dv pv g R rv s ∧ Well k s) (fun i _ => n1 - (intOf i).toNat)
  case atStart => exact ⟨0, _, Nat.zero_le _, rfl, B1.out, HW0.out⟩
  case round =>
    clear B1 HW0
    obtain ⟨k, s, hk, rfl, bk, wk⟩ := hrel
    have BK := Lib.hid bk
    have WK := Lib.hid wk
    clear bk wk
    by_cases hlt : k < n1
    · have v1 : decide (k < n1) = true := by simp; omega
      obtain ⟨ad, hA1, _, hac⟩ := HY.out.ext BK.out.mem.lt.1 (by omega)
      obtain ⟨⟨q0, q1, q2, q3, q4⟩, hx⟩ := hac k (by omega)
      have HD := Lib.hid (do7_ok BK.out.mem (i := k) (by omega) WK.out.fine (WK.out.calm (by omega)) (ys.getD k noAct7).k (ys.getD k noAct7).t (ys.getD k noAct7).a (ys.getD k noAct7).z (ys.getD k noAct7).x hx.1 hx.2.1 hx.2.2)
      have HQ : Hid (∀ W, Ext w W → (ys.getD k noAct7).at W (ad.add (k * 5))) := Lib.hid (fun W x => by
        obtain ⟨ad', hA1', _, hac'⟩ := HY.out.ext x (by omega)
        have : ad = ad' := by rw [hA1] at hA1'; injection hA1'
        subst this
        exact (hac' k (by omega)).1)
      have HFx := Lib.hid hx
      have HFn := Lib.hid (WK.out.act (by omega) (ys.getD k noAct7).k (ys.getD k noAct7).t (ys.getD k noAct7).a (ys.getD k noAct7).z (ys.getD k noAct7).x)
      clear hac hx
      generalize hz5 : ys.getD k noAct7 = z at *
      clear hz5
      subst hA1
      go_wp2_with fail
      refine HD.out.mono ?_
      rintro e w3 ⟨⟨u, rfl⟩, m3⟩
      have M3 := Lib.hid m3
      have R3 := Lib.hid (BK.out.ref.heldQ (w' := w3) (fun b hb => m3.keptQ b hb))
      have HMU := Lib.hid (must7_ok R3.out BK.out.sound (i := k) (by omega) WK.out.fine (WK.out.calm (by omega)) z.k z.t z.a z.z z.x HFx.out.1 HFx.out.2.1)
      clear m3 BK HD q0 q1 q2 q3 q4
      obtain ⟨q0, q1, q2, q3, q4⟩ := HQ.out w3 M3.out.lt.1
      go_wp2_with fail
      refine HMU.out.mono ?_
      rintro e w4 ⟨⟨u', rfl⟩, r4, f4⟩
      have B4 : Hid (BothAt w w4 gm dv pv g R rv (s.act z.k z.t z.a z.z z.x)) := Lib.hid ⟨M3.out.afterRef f4 (fun b hb => (R3.out.foot_lt hb).1), r4⟩
      clear r4 f4 HMU q0 q1 q2 q3 q4 M3 R3 HQ
      generalize s.act z.k z.t z.a z.z z.x = s4 at *
      have HSm := Lib.hid (same7_ok B4.out.mem B4.out.ref B4.out.sound)
      go_wp2_with fail
      refine HSm.out.mono ?_
      rintro e w5 ⟨rfl, x5⟩
      have B5 := Lib.hid (B4.out.ext x5)
      clear x5 B4 HSm
      go_wp2_with fail
      go_roundw
      case rel => exact ⟨k + 1, _, by omega, by go_num, B5.out, HFn.out⟩
      case measure => simp [intOf]; omega
    · have v1 : decide (k < n1) = false := by simp; omega
      go_wp2_with fail
      refine (awake7_of _).mono ?_
      rintro e w3 ⟨rfl, x3⟩
      have B3 := Lib.hid (BK.out.ext x3)
      clear x3 BK
      have HSm := Lib.hid (same7_ok B3.out.mem B3.out.ref B3.out.sound)
      go_wp2_with fail
      refine HSm.out.mono ?_
      rintro e w4 ⟨rfl, x4⟩
      have X := Lib.hid (B3.out.mem.lt.1.trans x4)
      clear x4
      go_wp2_with fail
      go_ret
      exact ⟨rfl, X.out⟩
theorem pmemPlays_walk (w : World) (A A1 : Option Addr) (c n1 c1 : Nat) (T : Int) (zs : List Int) (ys : List Act7) (hcap : zs.length ≤ c) (hcm : c ≤ maxLen) (hz : Lim zs 18446744073709551616) (hA : Ints w .u64 A zs) (hy : ys.length = n1) (hc1 : n1 ≤ c1) (hcm1 : c1 ≤ maxLen) (hY : Acts7 w A1 ys) : Calls Try.prog 3 #[.slice A zs.length c, .int .i64 T, .slice A1 n1 c1] w (fun e w' => e = .returned (.bool true) ∧ Ext w w') := by
  unfold maxLen at hcm hcm1
  by_cases hlong : 60 < zs.length ∨ 60 < n1
  · exact plays7_long w A A1 _ c n1 c1 T hlong (by omega) (by omega)
  by_cases h8 : zs.length % 8 ≠ 0 ∨ zs.length = 0
  · exact plays7_err w A A1 _ c n1 c1 T (by omega) (by omega) h8
  by_cases hT : T < 0 ∨ 300 < T
  · exact plays7_out w A A1 _ c n1 c1 T (by omega) (by omega) (by omega) (by omega) hT
  obtain ⟨t, rfl⟩ := Int.eq_ofNat_of_zero_le (show 0 ≤ T by omega)
  exact plays7_yes w A A1 _ (zs.length / 8) c n1 c1 t zs ys (by omega) (by omega) (by omega) rfl hcap (by omega) hz hA (by omega) hy (by omega) hY

namespace pmemPlays
set_option maxRecDepth 100000 in
theorem lifted (os : Os) (started : os.Started) (H : Type) (enc : TypeId × Value → H) :
    ReturnsInHanded {} Try.checked os 3 .any (Rows.pmemPlaysSpec.pre6 enc Try.prog Try.f3 Rows.pmemPlaysRow.domain false) (Rows.pmemPlaysSpec.post enc Try.prog Try.f3 false true false false) := by
  refine returnsInHanded_of_change (C := Try.checked) own started (by kernel_rfl) Try.func3
    (ChangeSpec.witness6 (enc := enc) (C := Try.checked) false ⟨#[], #[.slice none 0 0, .int .i64 0, .slice none 0 0], []⟩ 8 (by kernel_rfl) (by kernel_rfl) (by kernel_rfl) (by kernel_rfl)) ?_
  intro W base args ds gs before hval0 hW hcnd _
  have hval : ∀ (j : Nat) t v, Try.f3.params[j]? = some t → args[j]? = some v → Value.okWide Try.prog W .any base t v := hval0
  have hW' := hW
  obtain ⟨p, q, hA0, hV, rfl, hfz, hnd⟩ := hW
  have hA : DataW.TrodAll enc Try.prog W 0 (fun _ => true) true Try.f3.params.toList args.toList ds p := hA0
  have hlt : ∀ x ∈ p ++ q, x.block < W.heap.size := fun x hx => hW'.lt x hx
  rw [Try.params3] at hA hval
  have hB := hA
  obtain ⟨v0, vs0, d0, ds0, p0, q0, hargs, rfl, rfl, h0, r0⟩ := trodAll_cons hB
  obtain ⟨v1, vs1, d1, ds1, p1, q1, rfl, rfl, rfl, h1, r1⟩ := trodAll_cons r0
  obtain ⟨v2, vs2, d2, ds2, p2, q2, rfl, rfl, rfl, h2, r2⟩ := trodAll_cons r1
  obtain ⟨rfl, rfl, rfl⟩ := trodAll_nil r2
  obtain rfl : args = #[v0, v1, v2] := by cases args; simp_all
  obtain ⟨rfl, rfl⟩ := trodVars_none hV
  obtain ⟨A0, c0, z0, rfl, lc0, mc0, I0, w0⟩ := view_ints Try.underlying22 Try.underlying31 (by kernel_rfl) (hval 0 22 v0 rfl rfl) h0
  obtain ⟨a1, rfl, rfl, rfl, w1⟩ := open_int Try.underlying3 (hval 1 3 v1 rfl rfl) h1
  obtain ⟨A2, n2, c2, y2, rfl, lc2, mc2, zl2, I2⟩ := view_acts7 Try.underlying23 Try.underlying33 (by kernel_rfl) (by kernel_rfl) Try.underlying3 Try.underlying3 Try.underlying3 Try.underlying31 Try.underlying31 (hval 2 23 v2 rfl rfl) h2
  clear hA0 hval0
  refine (pmemPlays_walk W A0 A2 c0 n2 c2 a1 z0 y2 lc0 mc0 (lim_u64 w0) I0 zl2 lc2 mc2 I2).mono fun e W' ⟨he, hx⟩ => ?_
  subst he
  exact ⟨_, rfl, post_ext (pv := []) hW' (fun _ _ _ => (trodAll_cons_mk (shut_bool Try.underlying4 _) trodAll_mk0)) (fun sp hsp => trodAll_stays laid hx _ _ _ _ (readable_of (by kernel_rfl)) hA (fun x hx => hlt x (by first | (simp at hx ⊢; exact hx) | simp at hx)) (fun x hx => hsp x (by first | (simp at hx ⊢; exact hx) | simp at hx))) (fun _ _ => rfl) rfl hx (ok_one (by kernel_rfl) rfl (okWide_bool_mk Try.underlying4 _))⟩

theorem over : Rows.pmemPlaysRow.holds Try.pinned (OpenSpec.ofChange Rows.pmemPlaysSpec) :=
  OpenClaim.holds_of_wide 3 Try.f3 rfl rfl rfl rfl rfl rfl rfl ⟨rfl, rfl, rfl, rfl, rfl⟩ rfl rfl rfl rfl rfl (by kernel_rfl) Try.func3 (by kernel_rfl)
    (of_decide_eq_true (by kernel_rfl)) (by unfold Func.isWrapper; first | (rw [if_pos (by decide +kernel)]; kernel_rfl) | (rw [if_neg (by decide +kernel)]; exact ⟨rfl, rfl⟩))
    (fun os started H enc _ => lifted os started H enc)
end pmemPlays

theorem pmemPlays_holds : Rows.PmemPlaysSaid := pmemPlays.over
#print axioms pmemPlays_holds
end Go.Proofs.Ytcelhllhdkminaa
