/- PmemSwaps: its walk. Conditions: those that each theorem names. -/
import Derived.Test.YtlnaffedbcpkpaaBoth
namespace Go.Proofs.Ytlnaffedbcpkpaa
open Go.ChangeShapes Go.WideShapes Go.ChangeAt Go.RowKit
set_option linter.unusedVariables false
theorem peekB_put (s : MSt) (a x b : Int) : peekB (s.put a x) b = peekB s b := by
  unfold MSt.put
  by_cases h : 0 ≤ a
  · rw [if_pos h]
    unfold peekB DSt.store
    by_cases h2 : 0 ≤ a ∧ a < (s.dev.n : Int) * 8
    · simp only [if_pos h2]
    · simp only [if_neg h2]
  · rw [if_neg h]
    unfold peekB
    simp
theorem peekV_put (s : MSt) (a x : Int) (hs : s.dev.seen.length = s.dev.n * 8) (h : peekB s a = true) : peekV (s.put a x) a = x := by
  unfold MSt.put
  by_cases h0 : 0 ≤ a
  · have h2 : 0 ≤ a ∧ a < (s.dev.n : Int) * 8 := ⟨h0, by unfold peekB at h; rw [if_pos h0] at h; simpa using h⟩
    rw [if_pos h0]
    unfold peekV DSt.store
    simp only [if_pos h2, if_pos h0]
    unfold loadV
    simp only [if_pos h2]
    rw [List.getD_eq_getElem?_getD, List.getElem?_set_self (by omega)]; rfl
  · have h2 : -1 - a < (s.pas.length : Int) := by unfold peekB at h; rw [if_neg h0] at h; simpa using h
    rw [if_neg h0]
    unfold peekV
    simp only [if_neg h0]
    rw [List.getD_eq_getElem?_getD, List.getElem?_set_self (by omega)]; rfl
theorem put_big (s : MSt) (a x : Int) (hs : s.dev.seen.length = s.dev.n * 8) : (s.put a x).dev.seen.length = (s.put a x).dev.n * 8 := by
  unfold MSt.put
  split
  · unfold DSt.store
    simp only
    split
    · simp only [List.length_set]; exact hs
    · exact hs
  · exact hs
theorem sw_no {s : MSt} {a : Int} (h : peekB s a = false) (t z x : Int) : swapB s a z = false ∧ s.swap t a z x = s.note ⟨3, t, a, 0, x, false⟩ true := by
  unfold swapB MSt.swap
  rw [h]
  exact ⟨rfl, rfl⟩
theorem sw_yes {s : MSt} {a z : Int} (h : peekB s a = true) (hv : peekV s a = z) (t x : Int) : swapB s a z = true ∧ s.swap t a z x = (s.put a x).note ⟨3, t, a, z, x, true⟩ false := by
  unfold swapB MSt.swap
  rw [h, hv]
  simp
theorem sw_not {s : MSt} {a z : Int} (h : peekB s a = true) (hv : peekV s a ≠ z) (t x : Int) : swapB s a z = false ∧ s.swap t a z x = s.note ⟨3, t, a, peekV s a, x, false⟩ false := by
  unfold swapB MSt.swap
  rw [h]
  simp [hv]
theorem calm_new (d : DSt) (n : Nat) : Calm (MSt.new d n) := ⟨show (0 : Int) ≤ 0 by decide, show (0 : Int) ≤ 1000000000 by decide, show (0 : Int) ≤ 0 by decide, show (0 : Int) ≤ 1000000000 by decide⟩
set_option maxRecDepth 100000 in
set_option maxHeartbeats 2000000 in
theorem swaps_no (w : World) (A : Option Addr) (N m c : Nat) (zs : List Int) (hN : m * 8 = N) (N2 : N ≤ 60) (m0 : 0 < m) (hl : zs.length = N) (hcap : N ≤ c) (hcm : c ≤ 9223372036854775807) (hz : Lim zs 18446744073709551616) (hA : Ints w .u64 A zs) (a x0 x1 x2 : Int) (h0 : -9223372036854775808 ≤ a) (h1 : a < 9223372036854775808) (hx0 : 0 ≤ x0 ∧ x0 < 18446744073709551616) (hx1 : 0 ≤ x1 ∧ x1 < 18446744073709551616) (hP : peekB (MSt.new (DSt.new m 3 zs) 3) a = false) : Calls Try.prog 7 #[.slice A N c, .int .i64 a, .agg #[.int .u64 x0, .int .u64 x1, .int .u64 x2]] w (fun e w' => e = .returned (.bool true) ∧ Ext w w') := by
  have HB := Lib.hid (fun (W : World) (x : Ext w W) => both_ok W A N m c 3 zs hN N2 m0 hl hcap hcm hz (hA.ext x) (by decide))
  have HA := Lib.hid hA
  have HL := Lib.hid hl
  have HN := Lib.hid hN
  have u60 : decide (60 < N) = false := by simp; omega
  clear hA hl hcap hcm hz
  have HPP := Lib.hid hP
  clear hP
  go_enter Try.func7, Try.ntmps7
  go_wp2_with fail
  refine (HB.out _ ((Ext.refl w).alloc _)).mono ?_
  rintro e w1 ⟨gm, dv, pv, g, R, rv, rfl, hB⟩
  have b0 := Blk.new w 66 [.int .u64 x0, .int .u64 x1, .int .u64 x2]
  have y0 := (Ext.refl w).alloc (.cells #[.int .u64 x0, .int .u64 x1, .int .u64 x2] 66)
  generalize w.alloc (.cells #[.int .u64 x0, .int .u64 x1, .int .u64 x2] 66) = w0 at *
  have M1 := Lib.hid hB.mem
  have B0 := Lib.hid b0
  have Y0 := Lib.hid y0
  clear hB b0 y0 HB
  have F := Lib.hid (show Calm ((MSt.new (DSt.new m 3 zs) 3).note ⟨3, 0, a, 0, x0, false⟩ true) ∧ peekB (MSt.new (DSt.new m 3 zs) 3) a = false ∧ ((((MSt.new (DSt.new m 3 zs) 3).note ⟨3, 0, a, 0, x0, false⟩ true).note ⟨3, 1, a, 0, x1, false⟩ true).bad = 2) ∧ (((MSt.new (DSt.new m 3 zs) 3).note ⟨3, 0, a, 0, x0, false⟩ true).note ⟨3, 1, a, 0, x1, false⟩ true).dev = DSt.new m 3 zs from ⟨⟨show (0 : Int) ≤ 0 + 1 by decide, show (0 : Int) + 1 ≤ 1000000000 by decide, show (0 : Int) ≤ 0 + 1 by decide, show (0 : Int) + 1 ≤ 1000000000 by decide⟩, HPP.out, rfl, rfl⟩)
  generalize hs0 : MSt.new (DSt.new m 3 zs) 3 = s0 at *
  have hp := M1.out.peek a h0 h1
  have hc0 : Calm s0 := by rw [← hs0]; exact calm_new _ _
  have HS0 := Lib.hid hs0
  clear hs0
  generalize hz0 : peekV s0 a = z at *
  rw [F.out.2.1] at hp
  have HP := Lib.hid hp
  clear hp
  have hw1 := memSwap_ok M1.out 0 a z x0 h0 h1 hx0 hc0
  rw [(sw_no F.out.2.1 0 z x0).1, (sw_no F.out.2.1 0 z x0).2] at hw1
  have HW1 := Lib.hid hw1
  clear hw1
  go_wp2_with fail
  refine HP.out.mono ?_
  rintro e w' ⟨rfl, rfl⟩
  generalize hgb : w.heap.size = gb at *
  have q0 : w1.cell? ⟨gb, 0, none⟩ = some (.int .u64 x0) := (B0.out.ext M1.out.lt.1).cell 0
  clear HP M1
  go_wp2_with fail
  refine HW1.out.mono ?_
  rintro e w2 ⟨rfl, m2⟩
  clear q0 HW1
  have M2 := Lib.hid m2
  have q1 : w2.cell? ⟨gb, 1, none⟩ = some (.int .u64 x1) := (B0.out.ext m2.lt.1).cell 1
  clear m2
  have hw2 := memSwap_ok M2.out 1 a z x1 h0 h1 hx1 F.out.1
  rw [(sw_no (show peekB (s0.note ⟨3, 0, a, 0, x0, false⟩ true) a = false from F.out.2.1) 1 z x1).1, (sw_no (show peekB (s0.note ⟨3, 0, a, 0, x0, false⟩ true) a = false from F.out.2.1) 1 z x1).2] at hw2
  have HW2 := Lib.hid hw2
  clear hw2 M2
  go_wp2_with fail
  refine HW2.out.mono ?_
  rintro e w3 ⟨rfl, m3⟩
  clear q1 HW2
  have M3 := Lib.hid m3
  clear m3
  have hp2 := M3.out.peek a h0 h1
  generalize peekV _ a = z2 at hp2
  generalize peekB _ a = b2 at hp2
  have HP2 := Lib.hid hp2
  clear hp2
  go_wp2_with fail
  refine HP2.out.mono ?_
  rintro e w' ⟨rfl, rfl⟩
  clear HP2
  go_wp2_with fail
  refine (awake7_of _).mono ?_
  rintro e w4 ⟨rfl, x4⟩
  have M4 := Lib.hid (M3.out.ext x4)
  have X4 := Lib.hid (Y0.out.trans M4.out.lt.1)
  have q0 : w4.cell? ⟨gb, 0, none⟩ = some (.int .u64 x0) := (B0.out.ext M4.out.lt.1).cell 0
  have q1 : w4.cell? ⟨gb, 1, none⟩ = some (.int .u64 x1) := (B0.out.ext M4.out.lt.1).cell 1
  clear x4 M3
  have hb4 := memBad_ok M4.out
  rw [F.out.2.2.1] at hb4
  have HB4 := Lib.hid hb4
  have HD4 := Lib.hid (memDevice_ok M4.out)
  have hse := M4.out.dev.seenA N (by rw [F.out.2.2.2]; exact HN.out)
  rw [F.out.2.2.2] at hse
  have HSe := Lib.hid hse
  clear hb4 hse
  go_wp2_with fail
  refine HB4.out.mono ?_
  rintro e w' ⟨rfl, rfl⟩
  go_wp2_with fail
  refine HD4.out.mono ?_
  rintro e w' ⟨rfl, rfl⟩
  go_wp2_with fail
  refine HSe.out.mono ?_
  rintro e w5 ⟨⟨gs, cs, rfl, _, _, hI, x5, _, _⟩, _⟩
  have HI := Lib.hid hI
  have X5 := Lib.hid x5
  clear hI x5 q0 q1
  go_wp2_with fail
  refine (same_n _ _ N N _ _ zs zs true _ HL.out HL.out (by omega) (by simp) HI.out ((HA.out.ext X4.out).ext X5.out)).mono ?_
  rintro e w6 ⟨rfl, x6⟩
  go_wp2_with fail
  go_ret
  exact ⟨rfl, (X4.out.trans X5.out).trans x6⟩
set_option maxRecDepth 100000 in
set_option maxHeartbeats 2000000 in
theorem swaps_same (w : World) (A : Option Addr) (N m c : Nat) (zs : List Int) (hN : m * 8 = N) (N2 : N ≤ 60) (m0 : 0 < m) (hl : zs.length = N) (hcap : N ≤ c) (hcm : c ≤ 9223372036854775807) (hz : Lim zs 18446744073709551616) (hA : Ints w .u64 A zs) (a x0 x1 x2 : Int) (h0 : -9223372036854775808 ≤ a) (h1 : a < 9223372036854775808) (hx0 : 0 ≤ x0 ∧ x0 < 18446744073709551616) (hx1 : 0 ≤ x1 ∧ x1 < 18446744073709551616) (hP : peekB (MSt.new (DSt.new m 3 zs) 3) a = true) (hE : x0 = peekV (MSt.new (DSt.new m 3 zs) 3) a) : Calls Try.prog 7 #[.slice A N c, .int .i64 a, .agg #[.int .u64 x0, .int .u64 x1, .int .u64 x2]] w (fun e w' => e = .returned (.bool true) ∧ Ext w w') := by
  have HB := Lib.hid (fun (W : World) (x : Ext w W) => both_ok W A N m c 3 zs hN N2 m0 hl hcap hcm hz (hA.ext x) (by decide))
  have HA := Lib.hid hA
  have HL := Lib.hid hl
  have HN := Lib.hid hN
  have u60 : decide (60 < N) = false := by simp; omega
  clear hA hl hcap hcm hz
  have HPP := Lib.hid hP
  clear hP
  have HE := Lib.hid hE
  clear hE
  go_enter Try.func7, Try.ntmps7
  go_wp2_with fail
  refine (HB.out _ ((Ext.refl w).alloc _)).mono ?_
  rintro e w1 ⟨gm, dv, pv, g, R, rv, rfl, hB⟩
  have b0 := Blk.new w 66 [.int .u64 x0, .int .u64 x1, .int .u64 x2]
  have y0 := (Ext.refl w).alloc (.cells #[.int .u64 x0, .int .u64 x1, .int .u64 x2] 66)
  generalize w.alloc (.cells #[.int .u64 x0, .int .u64 x1, .int .u64 x2] 66) = w0 at *
  have M1 := Lib.hid hB.mem
  have B0 := Lib.hid b0
  have Y0 := Lib.hid y0
  clear hB b0 y0 HB
  have F := Lib.hid (show Calm (((MSt.new (DSt.new m 3 zs) 3).put a x0).note ⟨3, 0, a, (peekV (MSt.new (DSt.new m 3 zs) 3) a), x0, true⟩ false) ∧ peekB (MSt.new (DSt.new m 3 zs) 3) a = true ∧ peekB (((MSt.new (DSt.new m 3 zs) 3).put a x0).note ⟨3, 0, a, (peekV (MSt.new (DSt.new m 3 zs) 3) a), x0, true⟩ false) a = true ∧ peekV (((MSt.new (DSt.new m 3 zs) 3).put a x0).note ⟨3, 0, a, (peekV (MSt.new (DSt.new m 3 zs) 3) a), x0, true⟩ false) a = x0 ∧ peekV (((((MSt.new (DSt.new m 3 zs) 3).put a x0).note ⟨3, 0, a, (peekV (MSt.new (DSt.new m 3 zs) 3) a), x0, true⟩ false).put a x1).note ⟨3, 1, a, (peekV (MSt.new (DSt.new m 3 zs) 3) a), x1, true⟩ false) a = x1 ∧ x0 = peekV (MSt.new (DSt.new m 3 zs) 3) a from ⟨⟨by rw [show (((MSt.new (DSt.new m 3 zs) 3).put a x0).note ⟨3, 0, a, (peekV (MSt.new (DSt.new m 3 zs) 3) a), x0, true⟩ false).clock = 1 from by rw [show (((MSt.new (DSt.new m 3 zs) 3).put a x0).note ⟨3, 0, a, (peekV (MSt.new (DSt.new m 3 zs) 3) a), x0, true⟩ false).clock = ((MSt.new (DSt.new m 3 zs) 3).put a x0).clock + 1 from rfl, (put_clock _ _ _).1]; rfl]; decide, by rw [show (((MSt.new (DSt.new m 3 zs) 3).put a x0).note ⟨3, 0, a, (peekV (MSt.new (DSt.new m 3 zs) 3) a), x0, true⟩ false).clock = 1 from by rw [show (((MSt.new (DSt.new m 3 zs) 3).put a x0).note ⟨3, 0, a, (peekV (MSt.new (DSt.new m 3 zs) 3) a), x0, true⟩ false).clock = ((MSt.new (DSt.new m 3 zs) 3).put a x0).clock + 1 from rfl, (put_clock _ _ _).1]; rfl]; decide, by rw [show (((MSt.new (DSt.new m 3 zs) 3).put a x0).note ⟨3, 0, a, (peekV (MSt.new (DSt.new m 3 zs) 3) a), x0, true⟩ false).bad = 0 from (put_clock _ _ _).2]; decide, by rw [show (((MSt.new (DSt.new m 3 zs) 3).put a x0).note ⟨3, 0, a, (peekV (MSt.new (DSt.new m 3 zs) 3) a), x0, true⟩ false).bad = 0 from (put_clock _ _ _).2]; decide⟩, HPP.out, (show peekB (((MSt.new (DSt.new m 3 zs) 3).put a x0).note ⟨3, 0, a, (peekV (MSt.new (DSt.new m 3 zs) 3) a), x0, true⟩ false) a = true from (peekB_put _ _ _ _).trans HPP.out), (show peekV (((MSt.new (DSt.new m 3 zs) 3).put a x0).note ⟨3, 0, a, (peekV (MSt.new (DSt.new m 3 zs) 3) a), x0, true⟩ false) a = x0 from peekV_put _ _ _ (by show zs.length = m * 8; have e1 := HL.out; have e2 := HN.out; omega) HPP.out), peekV_put _ _ _ (put_big _ _ _ (by show zs.length = m * 8; have e1 := HL.out; have e2 := HN.out; omega)) (show peekB (((MSt.new (DSt.new m 3 zs) 3).put a x0).note ⟨3, 0, a, (peekV (MSt.new (DSt.new m 3 zs) 3) a), x0, true⟩ false) a = true from (peekB_put _ _ _ _).trans HPP.out), HE.out⟩)
  generalize hs0 : MSt.new (DSt.new m 3 zs) 3 = s0 at *
  have hp := M1.out.peek a h0 h1
  have hc0 : Calm s0 := by rw [← hs0]; exact calm_new _ _
  have HS0 := Lib.hid hs0
  clear hs0
  generalize hz0 : peekV s0 a = z at *
  rw [F.out.2.1] at hp
  have HP := Lib.hid hp
  clear hp
  have hw1 := memSwap_ok M1.out 0 a z x0 h0 h1 hx0 hc0
  rw [(sw_yes F.out.2.1 hz0 0 x0).1, (sw_yes F.out.2.1 hz0 0 x0).2] at hw1
  have HW1 := Lib.hid hw1
  clear hw1
  go_wp2_with fail
  refine HP.out.mono ?_
  rintro e w' ⟨rfl, rfl⟩
  generalize hgb : w.heap.size = gb at *
  have q0 : w1.cell? ⟨gb, 0, none⟩ = some (.int .u64 x0) := (B0.out.ext M1.out.lt.1).cell 0
  clear HP M1
  go_wp2_with fail
  refine HW1.out.mono ?_
  rintro e w2 ⟨rfl, m2⟩
  clear q0 HW1
  have M2 := Lib.hid m2
  have q1 : w2.cell? ⟨gb, 1, none⟩ = some (.int .u64 x1) := (B0.out.ext m2.lt.1).cell 1
  clear m2
  have hw2 := memSwap_ok M2.out 1 a z x1 h0 h1 hx1 F.out.1
  rw [(sw_yes F.out.2.2.1 (F.out.2.2.2.1.trans F.out.2.2.2.2.2) 1 x1).1, (sw_yes F.out.2.2.1 (F.out.2.2.2.1.trans F.out.2.2.2.2.2) 1 x1).2] at hw2
  have HW2 := Lib.hid hw2
  clear hw2 M2
  go_wp2_with fail
  refine HW2.out.mono ?_
  rintro e w3 ⟨rfl, m3⟩
  clear q1 HW2
  have M3 := Lib.hid m3
  clear m3
  have hp2 := M3.out.peek a h0 h1
  rw [F.out.2.2.2.2.1] at hp2
  generalize peekB _ a = b2 at hp2
  have HP2 := Lib.hid hp2
  clear hp2
  go_wp2_with fail
  refine HP2.out.mono ?_
  rintro e w' ⟨rfl, rfl⟩
  clear HP2
  have hxz : x0 = z := F.out.2.2.2.2.2
  subst hxz
  have p0 : w3.cell? ⟨gb, 0, none⟩ = some (.int .u64 x0) := (B0.out.ext M3.out.lt.1).cell 0
  go_wp2_with fail
  refine (awake7_of _).mono ?_
  rintro e w4 ⟨rfl, x4⟩
  have M4 := Lib.hid (M3.out.ext x4)
  have X4 := Lib.hid (Y0.out.trans M4.out.lt.1)
  have q8 : w4.cell? ⟨gb, 0, none⟩ = some (.int .u64 x0) := (B0.out.ext M4.out.lt.1).cell 0
  have q1 : w4.cell? ⟨gb, 1, none⟩ = some (.int .u64 x1) := (B0.out.ext M4.out.lt.1).cell 1
  clear x4 M3 p0
  go_wp2_with fail
  go_ret
  exact ⟨rfl, X4.out⟩
set_option maxRecDepth 100000 in
set_option maxHeartbeats 2000000 in
theorem swaps_other (w : World) (A : Option Addr) (N m c : Nat) (zs : List Int) (hN : m * 8 = N) (N2 : N ≤ 60) (m0 : 0 < m) (hl : zs.length = N) (hcap : N ≤ c) (hcm : c ≤ 9223372036854775807) (hz : Lim zs 18446744073709551616) (hA : Ints w .u64 A zs) (a x0 x1 x2 : Int) (h0 : -9223372036854775808 ≤ a) (h1 : a < 9223372036854775808) (hx0 : 0 ≤ x0 ∧ x0 < 18446744073709551616) (hx1 : 0 ≤ x1 ∧ x1 < 18446744073709551616) (hP : peekB (MSt.new (DSt.new m 3 zs) 3) a = true) (hE : x0 ≠ peekV (MSt.new (DSt.new m 3 zs) 3) a) : Calls Try.prog 7 #[.slice A N c, .int .i64 a, .agg #[.int .u64 x0, .int .u64 x1, .int .u64 x2]] w (fun e w' => e = .returned (.bool true) ∧ Ext w w') := by
  have HB := Lib.hid (fun (W : World) (x : Ext w W) => both_ok W A N m c 3 zs hN N2 m0 hl hcap hcm hz (hA.ext x) (by decide))
  have HA := Lib.hid hA
  have HL := Lib.hid hl
  have HN := Lib.hid hN
  have u60 : decide (60 < N) = false := by simp; omega
  clear hA hl hcap hcm hz
  have HPP := Lib.hid hP
  clear hP
  have HE := Lib.hid hE
  clear hE
  go_enter Try.func7, Try.ntmps7
  go_wp2_with fail
  refine (HB.out _ ((Ext.refl w).alloc _)).mono ?_
  rintro e w1 ⟨gm, dv, pv, g, R, rv, rfl, hB⟩
  have b0 := Blk.new w 66 [.int .u64 x0, .int .u64 x1, .int .u64 x2]
  have y0 := (Ext.refl w).alloc (.cells #[.int .u64 x0, .int .u64 x1, .int .u64 x2] 66)
  generalize w.alloc (.cells #[.int .u64 x0, .int .u64 x1, .int .u64 x2] 66) = w0 at *
  have M1 := Lib.hid hB.mem
  have B0 := Lib.hid b0
  have Y0 := Lib.hid y0
  clear hB b0 y0 HB
  have F := Lib.hid (show Calm (((MSt.new (DSt.new m 3 zs) 3).put a x0).note ⟨3, 0, a, (peekV (MSt.new (DSt.new m 3 zs) 3) a), x0, true⟩ false) ∧ peekB (MSt.new (DSt.new m 3 zs) 3) a = true ∧ peekB (((MSt.new (DSt.new m 3 zs) 3).put a x0).note ⟨3, 0, a, (peekV (MSt.new (DSt.new m 3 zs) 3) a), x0, true⟩ false) a = true ∧ peekV (((MSt.new (DSt.new m 3 zs) 3).put a x0).note ⟨3, 0, a, (peekV (MSt.new (DSt.new m 3 zs) 3) a), x0, true⟩ false) a = x0 ∧ peekV ((((MSt.new (DSt.new m 3 zs) 3).put a x0).note ⟨3, 0, a, (peekV (MSt.new (DSt.new m 3 zs) 3) a), x0, true⟩ false).note ⟨3, 1, a, x0, x1, false⟩ false) a = x0 ∧ x0 ≠ peekV (MSt.new (DSt.new m 3 zs) 3) a ∧ ((((MSt.new (DSt.new m 3 zs) 3).put a x0).note ⟨3, 0, a, (peekV (MSt.new (DSt.new m 3 zs) 3) a), x0, true⟩ false).note ⟨3, 1, a, x0, x1, false⟩ false).bad = 0 ∧ ((((MSt.new (DSt.new m 3 zs) 3).put a x0).note ⟨3, 0, a, (peekV (MSt.new (DSt.new m 3 zs) 3) a), x0, true⟩ false).note ⟨3, 1, a, x0, x1, false⟩ false).clock = 2 from ⟨⟨by rw [show (((MSt.new (DSt.new m 3 zs) 3).put a x0).note ⟨3, 0, a, (peekV (MSt.new (DSt.new m 3 zs) 3) a), x0, true⟩ false).clock = 1 from by rw [show (((MSt.new (DSt.new m 3 zs) 3).put a x0).note ⟨3, 0, a, (peekV (MSt.new (DSt.new m 3 zs) 3) a), x0, true⟩ false).clock = ((MSt.new (DSt.new m 3 zs) 3).put a x0).clock + 1 from rfl, (put_clock _ _ _).1]; rfl]; decide, by rw [show (((MSt.new (DSt.new m 3 zs) 3).put a x0).note ⟨3, 0, a, (peekV (MSt.new (DSt.new m 3 zs) 3) a), x0, true⟩ false).clock = 1 from by rw [show (((MSt.new (DSt.new m 3 zs) 3).put a x0).note ⟨3, 0, a, (peekV (MSt.new (DSt.new m 3 zs) 3) a), x0, true⟩ false).clock = ((MSt.new (DSt.new m 3 zs) 3).put a x0).clock + 1 from rfl, (put_clock _ _ _).1]; rfl]; decide, by rw [show (((MSt.new (DSt.new m 3 zs) 3).put a x0).note ⟨3, 0, a, (peekV (MSt.new (DSt.new m 3 zs) 3) a), x0, true⟩ false).bad = 0 from (put_clock _ _ _).2]; decide, by rw [show (((MSt.new (DSt.new m 3 zs) 3).put a x0).note ⟨3, 0, a, (peekV (MSt.new (DSt.new m 3 zs) 3) a), x0, true⟩ false).bad = 0 from (put_clock _ _ _).2]; decide⟩, HPP.out, (show peekB (((MSt.new (DSt.new m 3 zs) 3).put a x0).note ⟨3, 0, a, (peekV (MSt.new (DSt.new m 3 zs) 3) a), x0, true⟩ false) a = true from (peekB_put _ _ _ _).trans HPP.out), (show peekV (((MSt.new (DSt.new m 3 zs) 3).put a x0).note ⟨3, 0, a, (peekV (MSt.new (DSt.new m 3 zs) 3) a), x0, true⟩ false) a = x0 from peekV_put _ _ _ (by show zs.length = m * 8; have e1 := HL.out; have e2 := HN.out; omega) HPP.out), (show peekV (((MSt.new (DSt.new m 3 zs) 3).put a x0).note ⟨3, 0, a, (peekV (MSt.new (DSt.new m 3 zs) 3) a), x0, true⟩ false) a = x0 from peekV_put _ _ _ (by show zs.length = m * 8; have e1 := HL.out; have e2 := HN.out; omega) HPP.out), HE.out, (show ((((MSt.new (DSt.new m 3 zs) 3).put a x0).note ⟨3, 0, a, (peekV (MSt.new (DSt.new m 3 zs) 3) a), x0, true⟩ false).note ⟨3, 1, a, x0, x1, false⟩ false).bad = 0 from (put_clock _ _ _).2), (show ((((MSt.new (DSt.new m 3 zs) 3).put a x0).note ⟨3, 0, a, (peekV (MSt.new (DSt.new m 3 zs) 3) a), x0, true⟩ false).note ⟨3, 1, a, x0, x1, false⟩ false).clock = 2 from by rw [show ((((MSt.new (DSt.new m 3 zs) 3).put a x0).note ⟨3, 0, a, (peekV (MSt.new (DSt.new m 3 zs) 3) a), x0, true⟩ false).note ⟨3, 1, a, x0, x1, false⟩ false).clock = ((MSt.new (DSt.new m 3 zs) 3).put a x0).clock + 1 + 1 from rfl, (put_clock _ _ _).1]; rfl)⟩)
  generalize hs0 : MSt.new (DSt.new m 3 zs) 3 = s0 at *
  have hp := M1.out.peek a h0 h1
  have hc0 : Calm s0 := by rw [← hs0]; exact calm_new _ _
  have HS0 := Lib.hid hs0
  clear hs0
  generalize hz0 : peekV s0 a = z at *
  rw [F.out.2.1] at hp
  have HP := Lib.hid hp
  clear hp
  have hw1 := memSwap_ok M1.out 0 a z x0 h0 h1 hx0 hc0
  rw [(sw_yes F.out.2.1 hz0 0 x0).1, (sw_yes F.out.2.1 hz0 0 x0).2] at hw1
  have HW1 := Lib.hid hw1
  clear hw1
  go_wp2_with fail
  refine HP.out.mono ?_
  rintro e w' ⟨rfl, rfl⟩
  generalize hgb : w.heap.size = gb at *
  have q0 : w1.cell? ⟨gb, 0, none⟩ = some (.int .u64 x0) := (B0.out.ext M1.out.lt.1).cell 0
  clear HP M1
  go_wp2_with fail
  refine HW1.out.mono ?_
  rintro e w2 ⟨rfl, m2⟩
  clear q0 HW1
  have M2 := Lib.hid m2
  have q1 : w2.cell? ⟨gb, 1, none⟩ = some (.int .u64 x1) := (B0.out.ext m2.lt.1).cell 1
  clear m2
  have hw2 := memSwap_ok M2.out 1 a z x1 h0 h1 hx1 F.out.1
  have hsn := sw_not (s := (s0.put a x0).note ⟨3, 0, a, z, x0, true⟩ false) F.out.2.2.1 (z := z) (by rw [F.out.2.2.2.1]; exact F.out.2.2.2.2.2.1) 1 x1
  rw [F.out.2.2.2.1] at hsn
  rw [hsn.1, hsn.2] at hw2
  clear hsn
  have HW2 := Lib.hid hw2
  clear hw2 M2
  go_wp2_with fail
  refine HW2.out.mono ?_
  rintro e w3 ⟨rfl, m3⟩
  clear q1 HW2
  have M3 := Lib.hid m3
  clear m3
  have hp2 := M3.out.peek a h0 h1
  rw [F.out.2.2.2.2.1] at hp2
  generalize peekB _ a = b2 at hp2
  have HP2 := Lib.hid hp2
  clear hp2
  go_wp2_with fail
  refine HP2.out.mono ?_
  rintro e w' ⟨rfl, rfl⟩
  clear HP2
  have hne : ¬ x0 = z := F.out.2.2.2.2.2.1
  have hdec : decide (x0 = z) = false := by simp [hne]
  have p0 : w3.cell? ⟨gb, 0, none⟩ = some (.int .u64 x0) := (B0.out.ext M3.out.lt.1).cell 0
  go_wp2_with fail
  refine (awake7_of _).mono ?_
  rintro e w4 ⟨rfl, x4⟩
  have M4 := Lib.hid (M3.out.ext x4)
  have X4 := Lib.hid (Y0.out.trans M4.out.lt.1)
  have q0 : w4.cell? ⟨gb, 0, none⟩ = some (.int .u64 x0) := (B0.out.ext M4.out.lt.1).cell 0
  have q1 : w4.cell? ⟨gb, 1, none⟩ = some (.int .u64 x1) := (B0.out.ext M4.out.lt.1).cell 1
  clear x4 M3 p0
  have hb4 := memBad_ok M4.out
  rw [F.out.2.2.2.2.2.2.1] at hb4
  have HB4 := Lib.hid hb4
  have hk4 := memClock_ok M4.out
  rw [F.out.2.2.2.2.2.2.2] at hk4
  have HK4 := Lib.hid hk4
  clear hb4 hk4
  go_wp2_with fail
  refine HB4.out.mono ?_
  rintro e w' ⟨rfl, rfl⟩
  go_wp2_with fail
  refine HK4.out.mono ?_
  rintro e w' ⟨rfl, rfl⟩
  go_wp2_with fail
  go_ret
  exact ⟨rfl, X4.out⟩
set_option maxRecDepth 100000 in
set_option maxHeartbeats 2000000 in
theorem swaps_long (w : World) (A : Option Addr) (N c : Nat) (a x0 x1 x2 : Int) (h : 60 < N) (h2 : N ≤ 9223372036854775807) : Calls Try.prog 7 #[.slice A N c, .int .i64 a, .agg #[.int .u64 x0, .int .u64 x1, .int .u64 x2]] w (fun e w' => e = .returned (.bool true) ∧ Ext w w') := by
  go_enter Try.func7, Try.ntmps7
  go_wp2_with fail
  refine (awake7_of _).mono ?_
  rintro e w1 ⟨rfl, x1⟩
  have X := Lib.hid (((Ext.refl w).alloc _).trans x1)
  clear x1
  go_wp2_with fail
  go_ret
  exact ⟨rfl, X.out⟩
set_option maxRecDepth 100000 in
set_option maxHeartbeats 2000000 in
theorem swaps_none (w : World) (A : Option Addr) (N c : Nat) (a x0 x1 x2 : Int) (N2 : N ≤ 60) (h : N % 8 ≠ 0 ∨ N = 0) : Calls Try.prog 7 #[.slice A N c, .int .i64 a, .agg #[.int .u64 x0, .int .u64 x1, .int .u64 x2]] w (fun e w' => e = .returned (.bool true) ∧ Ext w w') := by
  have HB := Lib.hid (fun W => both_no W A N c 3 N2 h)
  have u60 : decide (60 < N) = false := by simp; omega
  clear h
  unfold NoBoth at HB
  go_enter Try.func7, Try.ntmps7
  go_wp2_with fail
  refine (HB.out _).mono ?_
  rintro e w' ⟨rfl, rfl⟩
  go_wp2_with fail
  refine (awake7_of _).mono ?_
  rintro e w1 ⟨rfl, x1⟩
  have X := Lib.hid (((Ext.refl w).alloc _).trans x1)
  clear x1
  go_wp2_with fail
  go_ret
  exact ⟨rfl, X.out⟩
theorem pmemSwaps_walk (w : World) (A : Option Addr) (N c : Nat) (zs : List Int) (hl : zs.length = N) (hcap : N ≤ c) (hcm : c ≤ 9223372036854775807) (hz : Lim zs 18446744073709551616) (hA : Ints w .u64 A zs) (a x0 x1 x2 : Int) (h0 : -9223372036854775808 ≤ a) (h1 : a < 9223372036854775808) (hx0 : 0 ≤ x0 ∧ x0 < 18446744073709551616) (hx1 : 0 ≤ x1 ∧ x1 < 18446744073709551616) : Calls Try.prog 7 #[.slice A N c, .int .i64 a, .agg #[.int .u64 x0, .int .u64 x1, .int .u64 x2]] w (fun e w' => e = .returned (.bool true) ∧ Ext w w') := by
  by_cases hlong : 60 < N
  · exact swaps_long w A N c a x0 x1 x2 hlong (by omega)
  by_cases h8 : N % 8 ≠ 0 ∨ N = 0
  · exact swaps_none w A N c a x0 x1 x2 (by omega) h8
  cases hP : peekB (MSt.new (DSt.new (N / 8) 3 zs) 3) a
  · exact swaps_no w A N (N / 8) c zs (by omega) (by omega) (by omega) hl hcap hcm hz hA a x0 x1 x2 h0 h1 hx0 hx1 hP
  by_cases hE : x0 = peekV (MSt.new (DSt.new (N / 8) 3 zs) 3) a
  · exact swaps_same w A N (N / 8) c zs (by omega) (by omega) (by omega) hl hcap hcm hz hA a x0 x1 x2 h0 h1 hx0 hx1 hP hE
  · exact swaps_other w A N (N / 8) c zs (by omega) (by omega) (by omega) hl hcap hcm hz hA a x0 x1 x2 h0 h1 hx0 hx1 hP hE
end Go.Proofs.Ytlnaffedbcpkpaa
