/- Whatever is loaded, stored, flushed, fenced, written back and lost, each answer, what is seen and what is kept, is the document's: the law answers true for every input, and changes nothing. Conditions: none. -/
import Derived.Test.YtlnaffedbcpkpaaSame
import Derived.Test.YtlnaffedbcpkpaaBoth
namespace Go.Proofs.Ytlnaffedbcpkpaa
open Go.ChangeShapes Go.WideShapes Go.ChangeAt Go.RowKit
set_option linter.unusedVariables false
set_option maxRecDepth 100000 in
set_option maxHeartbeats 2000000 in
theorem plays_long (w : World) (A A1 : Option Addr) (N c n1 c1 : Nat) (T : Int) (h : 60 < N ∨ 60 < n1) (hN : N ≤ 9223372036854775807) (h1 : n1 ≤ 9223372036854775807) : Calls Try.prog 3 #[.slice A N c, .int .i64 T, .slice A1 n1 c1] w (fun e w' => e = .returned (.bool true) ∧ Ext w w') := by
  by_cases h60 : 60 < N
  · have u1 : decide (60 < N) = true := by simp; omega
    clear h
    go_enter Try.func3, Try.ntmps3
    go_wp2_with fail
    refine (awake4_of _).mono ?_
    rintro e w1 ⟨rfl, x1⟩
    have X := Lib.hid x1
    clear x1
    go_wp2_with fail
    go_ret
    exact ⟨rfl, X.out⟩
  · have u1 : decide (60 < N) = false := by simp; omega
    have u2 : decide (60 < n1) = true := by simp; omega
    have u3 : ¬ (n1 : Int) ≤ 60 := by omega
    have u4 : (60 : Int) < (n1 : Int) := by omega
    have u5 : ¬ (60 : Int) < (N : Int) := by omega
    clear h
    go_enter Try.func3, Try.ntmps3
    go_wp2_with fail
    refine (awake4_of _).mono ?_
    rintro e w1 ⟨rfl, x1⟩
    have X := Lib.hid x1
    clear x1
    go_wp2_with fail
    go_ret
    exact ⟨rfl, X.out⟩
set_option maxRecDepth 100000 in
set_option maxHeartbeats 2000000 in
theorem plays_err (w : World) (A A1 : Option Addr) (N c n1 c1 : Nat) (T k : Int) (k0 : k ≠ 0) (hN : N ≤ 60) (h1 : n1 ≤ 60) (HO : Calls Try.prog 10 #[.slice A N c, .int .i64 T] w (DevNone w k)) (HM : ∀ W, Calls Try.prog 11 #[.int .i64 (N : Int), .int .i64 T] W fun e w' => e = .returned (.int .i64 k) ∧ W = w') : Calls Try.prog 3 #[.slice A N c, .int .i64 T, .slice A1 n1 c1] w (fun e w' => e = .returned (.bool true) ∧ Ext w w') := by
  have HO' := Lib.hid HO
  have HM' := Lib.hid HM
  clear HO HM
  have u1 : decide (60 < N) = false := by simp; omega
  have u2 : decide (60 < n1) = false := by simp; omega
  have u3 : decide (k = 0) = false := by simp [k0]
  go_enter Try.func3, Try.ntmps3
  go_wp2_with fail
  refine HO'.out.mono ?_
  rintro e w1 ⟨rfl, x1⟩
  have X1 := Lib.hid x1
  clear x1
  go_wp2_with fail
  refine (HM'.out _).mono ?_
  rintro e w' ⟨rfl, rfl⟩
  go_wp2_with fail
  refine (awake4_of _).mono ?_
  rintro e w2 ⟨rfl, x2⟩
  have X := Lib.hid (X1.out.trans x2)
  clear x2
  go_wp2_with fail
  go_ret
  exact ⟨rfl, X.out⟩
set_option maxRecDepth 100000 in
set_option maxHeartbeats 2000000 in
theorem plays_yes (w : World) (A A1 : Option Addr) (N m c n1 c1 Tn : Nat) (zs : List Int) (ys : List Act5) (hN : m * 8 = N) (N2 : N ≤ 60) (m0 : 0 < m) (hl : zs.length = N) (hcap : N ≤ c) (hcm : c ≤ 9223372036854775807) (hz : Lim zs 18446744073709551616) (hA : Ints w .u64 A zs) (T0 : 0 < Tn) (T1 : Tn ≤ 64) (hy : ys.length = n1) (hn1 : n1 ≤ 60) (hY : Acts w A1 ys) : Calls Try.prog 3 #[.slice A N c, .int .i64 (Tn : Int), .slice A1 n1 c1] w (fun e w' => e = .returned (.bool true) ∧ Ext w w') := by
  have HM := Lib.hid (fun W => mayOpen_yes N m (Tn : Int) (by omega) (by omega) hN m0 (by omega) W)
  have ho := open_ok w A m c Tn zs (by omega) m0 (by omega) (by omega) hcm hz hA T0 T1
  rw [hN] at ho
  have HO := Lib.hid ho
  have HR := Lib.hid (fun (W : World) (x : Ext w W) => refOpen_ok W A N m c Tn zs hN (by omega) m0 hl hz (hA.ext x) T0 T1)
  have HY := Lib.hid hY
  have HL : Hid (zs.length = m * 8) := Lib.hid (by omega)
  clear ho hz hl hA hN hY
  have u1 : decide (60 < N) = false := by simp; omega
  have u2 : decide (60 < n1) = false := by simp; omega
  go_enter Try.func3, Try.ntmps3
  go_wp2_with fail
  refine HO.out.mono ?_
  rintro e w1 ⟨D, rfl, h, x⟩
  have a1 : At w w1 D.ptr _ := At.mk h x
  generalize D.ptr = v at a1
  have A1' := Lib.hid a1
  clear h x HO a1
  go_wp2_with fail
  refine (HM.out _).mono ?_
  rintro e w' ⟨rfl, rfl⟩
  go_wp2_with fail
  refine (HR.out _ A1'.out.held.1).mono ?_
  rintro e w2 ⟨R, rfl, hrl, hR, x2⟩
  have RR := Lib.hid (RefAt.new (T := Tn) hR hrl HL.out)
  have AA : Hid (AtQ R.foot w2 w w2 v (DSt.new m Tn zs)) := Lib.hid (A1'.out.turnM (S := fun _ => False) (A1'.out.held.1.trans x2) (Fr.of_ext x2) (fun _ hs => hs.elim) (fun g hg => ⟨(RR.out.is.foot_lt hg).2, Or.inr (RR.out.is.foot_lt hg).1⟩))
  have hbase : w.heap.size ≤ w1.heap.size := A1'.out.held.1.size
  have HB := Lib.hid hbase
  have HF0 : Hid (Fine 0 (DSt.new m Tn zs)) := Lib.hid (fine_new m Tn zs)
  clear hrl hR x2 HR A1' HL hbase
  generalize hRp : R.ptr = rp at *
  have HRp := Lib.hid hRp
  clear hRp
  go_wp2_with fail
  go_loopw [10] (fun i wr => ∃ (k : Nat) (s : DSt), k ≤ n1 ∧ i = .int .i64 k ∧ AtQ R.foot wr w wr v s ∧ RefAt w1.heap.size wr R s ∧ Fine k s) (fun i _ => n1 - (intOf i).toNat)
  case atStart => exact ⟨0, _, Nat.zero_le _, rfl, AA.out, RR.out, HF0.out⟩
  case round =>
    clear AA RR HF0
    obtain ⟨k, s, hk, rfl, ak, rk, fk⟩ := hrel
    have AK := Lib.hid ak
    have RK := Lib.hid rk
    have FK := Lib.hid fk
    clear ak rk fk
    by_cases hlt : k < n1
    · have v1 : decide (k < n1) = true := by simp; omega
      obtain ⟨ad, hA1, _, hac⟩ := HY.out.ext AK.out.held.1 (by omega)
      obtain ⟨⟨q0, q1, q2, q3, q4⟩, hx⟩ := hac k (by omega)
      have HD := Lib.hid (do_ok w wr v _ AK.out k (by omega) FK.out (ys.getD k noAct).k (ys.getD k noAct).t (ys.getD k noAct).l (ys.getD k noAct).a (ys.getD k noAct).x hx)
      have HQ : Hid (∀ W, Ext w W → (ys.getD k noAct).at W (ad.add (k * 5))) := Lib.hid (fun W x => by
        obtain ⟨ad', hA1', _, hac'⟩ := HY.out.ext x (by omega)
        have : ad = ad' := by rw [hA1] at hA1'; injection hA1'
        subst this
        exact (hac' k (by omega)).1)
      have HFn := Lib.hid (FK.out.act (by omega) (ys.getD k noAct).k (ys.getD k noAct).t (ys.getD k noAct).l (ys.getD k noAct).a (ys.getD k noAct).x)
      clear hac hx
      generalize hz5 : ys.getD k noAct = z at *
      clear hz5
      subst hA1
      go_wp2_with fail
      refine HD.out.mono ?_
      rintro e w3 ⟨rfl, ak3⟩
      have AK3 := Lib.hid ak3
      have RK3 := Lib.hid (RK.out.heldQ (w' := w3) (fun b hb => (ak3.held.2 b hb).2))
      have HMu := must_ok RK3.out AK.out.sound (i := k) (Nat.le_trans (Nat.le_of_lt (RK3.out.is.foot_lt (Or.inl rfl)).2) (Nat.le_refl _) |> fun hh => Nat.le_trans (RK3.out.is.foot_lt (Or.inl rfl)).1 hh) (by omega) FK.out z.k z.t z.l z.a z.x
      rw [HRp.out] at HMu
      have HMU := Lib.hid HMu
      clear ak3 HMu AK RK HD q0 q1 q2 q3 q4
      obtain ⟨q0, q1, q2, q3, q4⟩ := HQ.out w3 AK3.out.held.1
      go_wp2_with fail
      refine HMU.out.mono ?_
      rintro e w4 ⟨rfl, r4, f4⟩
      have R4 := Lib.hid r4
      have A4 := Lib.hid (AK3.out.afterRef f4 (fun b hb => Nat.le_trans HB.out (RK3.out.is.foot_lt hb).1))
      clear r4 f4 HMU q0 q1 q2 q3 q4 AK3 RK3 HQ
      generalize actV s z.k z.a = va at *
      generalize actE s z.k z.t z.l z.a = ea at *
      have hsm := same_ok A4.out R4.out (i := k + 1) (by omega) HFn.out
      rw [HRp.out] at hsm
      have HSm := Lib.hid hsm
      clear hsm
      go_wp2_with fail
      refine HSm.out.mono ?_
      rintro e w5 ⟨rfl, x5⟩
      have A5 := Lib.hid ((A4.out.ext x5).rebase)
      have R5 := Lib.hid (R4.out.ext x5)
      clear x5 A4 R4 HSm
      go_wp2_with fail
      go_roundw
      case rel => exact ⟨k + 1, _, by omega, by go_num, A5.out, R5.out, HFn.out⟩
      case measure => simp [intOf]; omega
    · have v1 : decide (k < n1) = false := by simp; omega
      go_wp2_with fail
      refine (awake4_of _).mono ?_
      rintro e w3 ⟨rfl, x3⟩
      have A3 := Lib.hid (AK.out.ext x3)
      have R3 := Lib.hid (RK.out.ext x3)
      clear x3 AK RK
      have hsm := same_ok A3.out R3.out (i := k) (by omega) FK.out
      rw [HRp.out] at hsm
      have HSm := Lib.hid hsm
      clear hsm
      go_wp2_with fail
      refine HSm.out.mono ?_
      rintro e w4 ⟨rfl, x4⟩
      have X := Lib.hid (A3.out.held.1.trans x4)
      clear x4
      go_wp2_with fail
      go_ret
      exact ⟨rfl, X.out⟩
theorem pdevPlays_walk (w : World) (A A1 : Option Addr) (c n1 c1 : Nat) (T : Int) (zs : List Int) (ys : List Act5) (hcap : zs.length ≤ c) (hcm : c ≤ maxLen) (hz : Lim zs 18446744073709551616) (hA : Ints w .u64 A zs) (hy : ys.length = n1) (hc1 : n1 ≤ c1) (hcm1 : c1 ≤ maxLen) (hY : Acts w A1 ys) : Calls Try.prog 3 #[.slice A zs.length c, .int .i64 T, .slice A1 n1 c1] w (fun e w' => e = .returned (.bool true) ∧ Ext w w') := by
  unfold maxLen at hcm hcm1
  by_cases hlong : 60 < zs.length ∨ 60 < n1
  · exact plays_long w A A1 _ c n1 c1 T hlong (by omega) (by omega)
  by_cases hT : T < 1 ∨ 64 < T
  · exact plays_err w A A1 _ c n1 c1 T 1 (by decide) (by omega) (by omega) (open_thread w _ T hT) (fun W => mayOpen_thread _ T hT W)
  obtain ⟨t, rfl⟩ := Int.eq_ofNat_of_zero_le (show 0 ≤ T by omega)
  by_cases h8 : zs.length % 8 = 0
  · by_cases h0 : zs.length = 0
    · rw [h0]
      exact plays_err w A A1 0 c n1 c1 _ 3 (by decide) (by omega) (by omega) (open_none w A c t (by omega) (by omega) (by omega)) (fun W => mayOpen_none _ (by omega) (by omega) W)
    · exact plays_yes w A A1 _ (zs.length / 8) c n1 c1 t zs ys (by omega) (by omega) (by omega) rfl hcap (by omega) hz hA (by omega) (by omega) hy (by omega) hY
  · exact plays_err w A A1 _ c n1 c1 _ 3 (by decide) (by omega) (by omega) (open_form w A _ c t (by omega) h8 (by omega) (by omega)) (fun W => mayOpen_form _ _ (by omega) (by omega) (by omega) h8 W)

namespace pdevPlays
set_option maxRecDepth 100000 in
theorem lifted (os : Os) (started : os.Started) (H : Type) (enc : TypeId × Value → H) :
    ReturnsInHanded {} Try.checked os 3 .any (Rows.pdevPlaysSpec.pre6 enc Try.prog Try.f3 Rows.pdevPlaysRow.domain false) (Rows.pdevPlaysSpec.post enc Try.prog Try.f3 false true false false) := by
  refine returnsInHanded_of_change (C := Try.checked) own started (by kernel_rfl) Try.func3
    (ChangeSpec.witness6 (enc := enc) (C := Try.checked) false ⟨#[], #[.slice none 0 0, .int .i64 0, .slice none 0 0], []⟩ 8 (by kernel_rfl) (by kernel_rfl) (by kernel_rfl) (by kernel_rfl)) ?_
  intro W base args ds gs before hval0 hW hcnd _
  have hval : ∀ (j : Nat) t v, Try.f3.params[j]? = some t → args[j]? = some v → Value.okWide Try.prog W .any base t v := hval0
  have hW' := hW
  obtain ⟨p, q, hA0, hV, rfl, hfz, hnd⟩ := hW
  have hA : DataW.TrodAll enc Try.prog W 0 (fun _ => true) true Try.f3.params.toList args.toList ds p := hA0
  have hlt : ∀ x ∈ p ++ q, x.block < W.heap.size := fun x hx => hW'.lt x hx
  rw [Try.params3] at hA hval
  have hB := hA
  obtain ⟨v0, vs0, d0, ds0, p0, q0, hargs, rfl, rfl, h0, r0⟩ := trodAll_cons hB
  obtain ⟨v1, vs1, d1, ds1, p1, q1, rfl, rfl, rfl, h1, r1⟩ := trodAll_cons r0
  obtain ⟨v2, vs2, d2, ds2, p2, q2, rfl, rfl, rfl, h2, r2⟩ := trodAll_cons r1
  obtain ⟨rfl, rfl, rfl⟩ := trodAll_nil r2
  obtain rfl : args = #[v0, v1, v2] := by cases args; simp_all
  obtain ⟨rfl, rfl⟩ := trodVars_none hV
  obtain ⟨A0, c0, z0, rfl, lc0, mc0, I0, w0⟩ := view_ints Try.underlying22 Try.underlying32 (by kernel_rfl) (hval 0 22 v0 rfl rfl) h0
  obtain ⟨a1, rfl, rfl, rfl, w1⟩ := open_int Try.underlying3 (hval 1 3 v1 rfl rfl) h1
  obtain ⟨A2, n2, c2, y2, rfl, lc2, mc2, zl2, I2⟩ := view_acts Try.underlying23 Try.underlying36 (by kernel_rfl) (by kernel_rfl) Try.underlying3 Try.underlying3 Try.underlying3 Try.underlying3 Try.underlying32 (hval 2 23 v2 rfl rfl) h2
  clear hA0 hval0
  refine (pdevPlays_walk W A0 A2 c0 n2 c2 a1 z0 y2 lc0 mc0 (lim_u64 w0) I0 zl2 lc2 mc2 I2).mono fun e W' ⟨he, hx⟩ => ?_
  subst he
  exact ⟨_, rfl, post_ext (pv := []) hW' (fun _ _ _ => (trodAll_cons_mk (shut_bool Try.underlying4 _) trodAll_mk0)) (fun sp hsp => trodAll_stays laid hx _ _ _ _ (readable_of (by kernel_rfl)) hA (fun x hx => hlt x (by first | (simp at hx ⊢; exact hx) | simp at hx)) (fun x hx => hsp x (by first | (simp at hx ⊢; exact hx) | simp at hx))) (fun _ _ => rfl) rfl hx (ok_one (by kernel_rfl) rfl (okWide_bool_mk Try.underlying4 _))⟩

theorem over : Rows.pdevPlaysRow.holds Try.pinned (OpenSpec.ofChange Rows.pdevPlaysSpec) :=
  OpenClaim.holds_of_wide 3 Try.f3 rfl rfl rfl rfl rfl rfl rfl ⟨rfl, rfl, rfl, rfl, rfl⟩ rfl rfl rfl rfl rfl (by kernel_rfl) Try.func3 (by kernel_rfl)
    (of_decide_eq_true (by kernel_rfl)) (by unfold Func.isWrapper; first | (rw [if_pos (by decide +kernel)]; kernel_rfl) | (rw [if_neg (by decide +kernel)]; exact ⟨rfl, rfl⟩))
    (fun os started H enc _ => lifted os started H enc)
end pdevPlays

theorem pdevPlays_holds : Rows.PdevPlaysSaid := pdevPlays.over
#print axioms pdevPlays_holds
end Go.Proofs.Ytlnaffedbcpkpaa
