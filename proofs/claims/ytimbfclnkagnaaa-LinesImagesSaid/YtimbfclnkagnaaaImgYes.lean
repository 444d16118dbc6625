/- LinesImages, where the bytes are lines (a long walk: some fifteen minutes). Conditions: those that each theorem names. -/
import Derived.Test.YtimbfclnkagnaaaImgBase
namespace Go.Proofs.Ytimbfclnkagnaaa
open Go.ChangeShapes Go.WideShapes Go.ChangeAt Go.RowKit
set_option linter.unusedVariables false
set_option maxRecDepth 100000 in
set_option maxHeartbeats 40000000 in
theorem linesImages_yes (A0 A1 : Option Addr) (n0 c0 n1 c1 : Nat) (zs ys : List Int) (w : World) (h0 : n0 ≤ 40) (h1 : n1 ≤ 3000) (hz : zs.length = 8 * n0) (hy : ys.length = n1) (hc0 : n0 ≤ c0) (hc1 : n1 ≤ c1) (hm1 : c1 ≤ 9223372036854775807) (lz : Lim zs 18446744073709551616) (ly : Lim ys 256) (I0 : Ints w .u64 A0 zs) (I1 : Ints w .u8 A1 ys) (hN1 : A1 = none → n1 = 0) (m : Nat) (hm : n1 = m * 64) :
    Calls Try.prog 4 #[.slice A0 n0 c0, .slice A1 n1 c1] w fun e w' => e = .returned (.bool true) ∧ Ext w w' := by
  have t0 : decide (40 < (n0 : Int)) = false := by simp; omega
  have t1 : decide (3000 < (n1 : Int)) = false := by simp; omega
  have HA := Lib.hid (all_any w A0 n0 c0 zs hz (by omega) lz I0)
  have HF := Lib.hid (fun W (h : Ints W .u64 A0 zs) => flat_any W A0 n0 c0 zs hz (by omega) h)
  have HI0 := Lib.hid I0
  have HI1 := Lib.hid I1
  have hLB : (LM.bytesOf zs).length = n0 * 64 := by rw [LM.bytesOf_len, hz]; omega
  have hE : LM.wordsOf (LM.bytesOf zs) = zs := LM.wordsOf_bytesOf _ (LM.of_lim lz)
  have hLim := LM.bytesOf_lim zs
  have HLB := Lib.hid hLB
  have HE := Lib.hid hE
  have Hn := Lib.hid (show zs.length = n0 * 8 from by omega)
  clear hLB hE
  obtain ⟨S, hS⟩ : ∃ S, strOf (LM.bytesOf zs) = S := ⟨_, rfl⟩
  have HS := Lib.hid hS
  clear hS
  subst hm
  have HC := Lib.hid (fun W (h : Ints W .u8 A1 ys) => image_of A1 m c1 ys W hy (by omega) hc1 hm1 ly h)
  have HMay := Lib.hid (fun W => may64 (m * 64) (by omega) W)
  have em : LM.may (m * 64) 64 = 0 := by unfold LM.may; rw [if_pos (by omega), if_neg (by omega)]
  rw [em] at HMay
  clear em
  have hkl : Lim (LM.wordsOf ys) 18446744073709551616 := LM.wordsOf_lim ly
  have hkb : LM.bytesOf (LM.wordsOf ys) = ys := LM.bytesOf_wordsOf (m * 8) ys (by omega) (LM.of_lim ly)
  have hkn : (LM.wordsOf ys).length = m * 8 := by rw [LM.wordsOf_len, hy]; omega
  have HRW := Lib.hid (fun W (h : Ints W .u8 A1 ys) => refWords_of W A1 c1 ys (by omega) ly h)
  rw [hy] at HRW
  have HKB := Lib.hid hkb
  have HKN := Lib.hid hkn
  clear hkb hkn
  obtain ⟨T, hT⟩ : ∃ T, strOf ys = T := ⟨_, rfl⟩
  have HT := Lib.hid hT
  clear hT
  generalize LM.wordsOf ys = ks at *
  have HZ := Lib.hid hz
  have HY := Lib.hid hy
  clear I0 I1 hz hy
  go_enter Try.func4, Try.ntmps4
  go_wp2_with fail
  refine HA.out.mono ?_
  rintro e w1 ⟨vs, rfl, rs, x1⟩
  obtain ⟨As, cs, rfl, hcs, hms, Is, hAs⟩ := row_n rs HLB.out
  have HIs := Lib.hid Is
  clear Is rs
  go_wp2_with fail
  refine (image_of As n0 cs (LM.bytesOf zs) _ HLB.out (by omega) hcs hms hLim HIs.out).mono ?_
  rintro e w2 ⟨vm, rfl, rm, x2⟩
  rw [HE.out] at rm
  obtain ⟨Am, cm, rfl, _, _, Im, _, _⟩ := rm.form (by decide)
  have HIm := Lib.hid Im
  clear Im rm
  go_wp2_with fail
  refine (HC.out _ (HI1.out.ext (x1.trans x2))).mono ?_
  rintro e w3 ⟨vk, rfl, rk, x3⟩
  obtain ⟨Ak, ck, rfl, _, _, Ik, _, _⟩ := rk.form (by decide)
  have HIk := Lib.hid Ik
  clear Ik rk
  have x03 := (x1.trans x2).trans x3
  have HI03 := Lib.hid (HI0.out.ext x03)
  have HI13 := Lib.hid (HI1.out.ext x03)
  have HIs3 := Lib.hid (HIs.out.ext (x2.trans x3))
  have HIm3 := Lib.hid (HIm.out.ext x3)
  have HFm := Lib.hid (fun W (h : Ints W .u64 Am zs) => flat_any W Am n0 cm zs HZ.out (by omega) h)
  clear HI0 HI1 HIs HIm x1 x2 x3 HA
  go_upto_region 6 with fail
  go_cut [56] (fun s56 wx => s56 = .bool false ∧ Ext w3 wx)
  case first =>
    have xt : Ext w3 w3.drew := (Ext.refl w3).drew
    have cv3 := conv_str w3.drew As (n0 * 64) cs _ HLB.out (HIs3.out.ext xt) hAs
    rw [HS.out] at cv3
    go_region_with (first
      | (go_at_call_of 20 (Value.slice A0 n0 c0); have hx := x5; refine (HF.out _ (by exact HI03.out.ext xt)).mono ?_; rintro e w7 ⟨v7, rfl, r7, x7⟩; replace xt := xt.trans x7; obtain ⟨A7, c7, h7, _, _, I7, _⟩ := row_n r7 Hn.out; subst h7; have I7h := Lib.hid I7; clear I7 r7 hx; try (replace I6h := Lib.hid (I6h.out.ext x7)))
      | (go_at_call_of 20 (Value.slice Am n0 cm); refine (HFm.out _ (by exact HIm3.out.ext xt)).mono ?_; rintro e w6 ⟨v6, rfl, r6, x6⟩; replace xt := xt.trans x6; obtain ⟨A6, c6, h6, _, _, I6, _⟩ := row_n r6 Hn.out; subst h6; have I6h := Lib.hid I6; clear I6 r6; try (replace I7h := Lib.hid (I7h.out.ext x6)))
      | (go_at_call_of 20 (Value.slice A0 n0 c0); refine (HF.out _ (by exact HI03.out.ext xt)).mono ?_; rintro e w4 ⟨v4, rfl, r4, x4⟩; replace xt := xt.trans x4; obtain ⟨A4, c4, h4, _, _, I4, _⟩ := row_n r4 Hn.out; subst h4; have I4h := Lib.hid I4; clear I4 r4; have cv4 := conv_str w4 As (n0 * 64) cs _ HLB.out (HIs3.out.ext xt) hAs; rw [HS.out] at cv4)
      | (go_at_call 15; refine (refBytes_n _ A4 (n0 * 8) c4 zs Hn.out (by omega) lz I4h.out).mono ?_; rintro e w5 ⟨v5, rfl, r5, x5⟩; replace xt := xt.trans x5; obtain ⟨A5, c5, h5, _, _, I5, hA5⟩ := row_n r5 HLB.out; subst h5; have cv5 := conv_str w5 As (n0 * 64) cs _ HLB.out (HIs3.out.ext xt) hAs; have cv5r := conv_str w5 A5 (n0 * 64) c5 _ HLB.out I5 hA5; rw [HS.out] at cv5 cv5r; clear I5 r5 hA5)
      | (go_at_call 16; refine (same_n A6 A7 (n0 * 8) (n0 * 8) c6 c7 zs zs true _ Hn.out Hn.out (by omega) (by simp) I6h.out I7h.out).mono ?_; rintro e w8 ⟨rfl, x8⟩; replace xt := xt.trans x8)
      | (go_at_call 21; refine (HMay.out _).mono ?_; rintro e w9 ⟨rfl, rfl⟩))
    all_goals
      go_wp2_with fail
      go_meet
      exact ⟨rfl, xt⟩
  case rest =>
    obtain ⟨rfl, x45⟩ := hcut
    have HIk4 := Lib.hid (HIk.out.ext x45)
    have HI14 := Lib.hid (HI13.out.ext x45)
    go_wp2_with fail
    have xt : Ext wc wc.drew := (Ext.refl wc).drew
    go_region_with (first
      | (go_at_call 12; refine (awake3_any _).mono ?_; rintro e w6 ⟨rfl, y6⟩; replace xt := xt.trans y6)
      | (go_at_call 20; refine (flat_any _ Ak m ck ks (by have := HKN.out; omega) (by omega) (by exact HIk4.out.ext xt)).mono ?_; rintro e w7 ⟨v6, rfl, r6, y7⟩; replace xt := xt.trans y7; obtain ⟨A6, c6, h6, _, _, I6, _⟩ := row_n r6 HKN.out; subst h6; have I6h := Lib.hid I6; clear I6 r6; try (replace I7h := Lib.hid (I7h.out.ext y7)))
      | (go_at_call 17; refine (HRW.out _ (by exact HI14.out.ext xt)).mono ?_; rintro e w8 ⟨v7, rfl, r7, y8⟩; replace xt := xt.trans y8; obtain ⟨A7, c7, h7, _, _, I7, _⟩ := row_n r7 HKN.out; subst h7; have I7h := Lib.hid I7; clear I7 r7; try (replace I6h := Lib.hid (I6h.out.ext y8)))
      | (go_at_call 16; refine (same_n A6 A7 (m * 8) (m * 8) c6 c7 ks ks true _ HKN.out HKN.out (by omega) (by simp) I6h.out I7h.out).mono ?_; rintro e w9 ⟨rfl, y9⟩; replace xt := xt.trans y9; have cv9 := conv_str w9 A1 (m * 64) c1 ys HY.out (HI14.out.ext xt) hN1; rw [HT.out] at cv9)
      | (go_at_call 18; refine (all_any _ Ak m ck ks (by have := HKN.out; omega) (by omega) hkl (by exact HIk4.out.ext xt)).mono ?_; rintro e w10 ⟨v10, rfl, r10, y10⟩; replace xt := xt.trans y10; rw [HKB.out] at r10; obtain ⟨A10, c10, h10, _, _, I10, hA10⟩ := row_n r10 HY.out; subst h10; have cv10 := conv_str w10 A10 (m * 64) c10 ys HY.out I10 hA10; have cv10b := conv_str w10 A1 (m * 64) c1 ys HY.out (HI14.out.ext xt) hN1; rw [HT.out] at cv10 cv10b; clear I10 r10 hA10))
    all_goals
      go_wp2_with fail
      go_ret
      exact ⟨rfl, (x03.trans x45).trans xt⟩
end Go.Proofs.Ytimbfclnkagnaaa
