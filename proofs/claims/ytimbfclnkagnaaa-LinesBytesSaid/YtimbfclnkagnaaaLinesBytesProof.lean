/- For every line, and every bytes (up to 300): the line's bytes are the document's, and read back as it was; of bytes that are not 64 there is no line, of 64 there is the document's, whose bytes they are: the law answers true, and changes nothing. Conditions: none. -/
import Derived.Test.YtimbfclnkagnaaaLineLaw
namespace Go.Proofs.Ytimbfclnkagnaaa
open Go.ChangeShapes Go.WideShapes Go.ChangeAt Go.RowKit
set_option linter.unusedVariables false
set_option maxRecDepth 100000 in
theorem linesBytes_far (a0 a1 a2 a3 a4 a5 a6 a7 : Int) (A1 : Option Addr) (n1 c1 : Nat) (w : World) (h1 : n1 ≤ 9223372036854775807) (h : 300 < n1) :
    Calls Try.prog 3 #[.agg #[.int .u64 a0, .int .u64 a1, .int .u64 a2, .int .u64 a3, .int .u64 a4, .int .u64 a5, .int .u64 a6, .int .u64 a7], .slice A1 n1 c1] w fun e w' => e = .returned (.bool true) ∧ Ext w w' := by
  have t1 : decide (300 < (n1 : Int)) = true := by simp; omega
  go_enter Try.func3, Try.ntmps3
  go_wp2_with fail
  refine (awake3_any _).mono ?_
  rintro e w1 ⟨rfl, hx1⟩
  go_wp2_with fail
  go_ret
  exact ⟨rfl, ((Ext.refl w).alloc _).trans hx1⟩
set_option maxRecDepth 100000 in
set_option maxHeartbeats 2000000 in
theorem linesBytes_yes (a0 a1 a2 a3 a4 a5 a6 a7 : Int) (A1 : Option Addr) (c1 : Nat) (ys : List Int) (w : World) (h1 : ys.length ≤ 300) (hc1 : ys.length ≤ c1) (hm1 : c1 ≤ 9223372036854775807) (la : Lim [a0, a1, a2, a3, a4, a5, a6, a7] 18446744073709551616) (ly : Lim ys 256) (I1 : Ints w .u8 A1 ys) (hy : ys.length = 64) :
    Calls Try.prog 3 #[.agg #[.int .u64 a0, .int .u64 a1, .int .u64 a2, .int .u64 a3, .int .u64 a4, .int .u64 a5, .int .u64 a6, .int .u64 a7], .slice A1 ys.length c1] w fun e w' => e = .returned (.bool true) ∧ Ext w w' := by
  have t1 : decide (300 < (ys.length : Int)) = false := by simp; omega
  have hE : LM.wordsOf (LM.bytesOf [a0, a1, a2, a3, a4, a5, a6, a7]) = [a0, a1, a2, a3, a4, a5, a6, a7] := LM.wordsOf_bytesOf _ (LM.of_lim la)
  have hLB : (LM.bytesOf [a0, a1, a2, a3, a4, a5, a6, a7]).length = 64 := by rw [LM.bytesOf_len]; rfl
  have hLim := LM.bytesOf_lim [a0, a1, a2, a3, a4, a5, a6, a7]
  have HI1 := Lib.hid I1
  clear I1
  obtain ⟨ad, rfl, _, _⟩ := HI1.out (by omega)
  obtain ⟨k0, k1, k2, k3, k4, k5, k6, k7, hks⟩ := eight (ls := LM.wordsOf ys) (by rw [LM.wordsOf_len, hy])
  have hkl : Lim [k0, k1, k2, k3, k4, k5, k6, k7] 18446744073709551616 := by rw [← hks]; exact LM.wordsOf_lim ly
  have hkb : LM.bytesOf [k0, k1, k2, k3, k4, k5, k6, k7] = ys := by rw [← hks]; exact LM.bytesOf_wordsOf 8 ys (by omega) (LM.of_lim ly)
  have HK := Lib.hid hks
  have HKB := Lib.hid hkb
  clear hks hkb
  have t2 : ((ys.length : Int) != 64) = false := by rw [bne_eq_false_iff_eq]; omega
  have HRd := Lib.hid (fun W (h : Ints W .u8 (some ad) ys) => read_of ad c1 ys k0 k1 k2 k3 k4 k5 k6 k7 W hy (by omega) hm1 ly h HK.out)
  have HRW := Lib.hid (fun W (h : Ints W .u8 (some ad) ys) => refWords_of W (some ad) c1 ys (by omega) ly h)
  rw [HK.out] at HRW
  rw [hy] at HRW
  have HY := Lib.hid hy
  rw [hy] at t1 t2 h1 hc1 ⊢
  clear hy
  have HLB := Lib.hid hLB
  have HE := Lib.hid hE
  clear hLB hE
  have heqA := fun W => eq_line a0 a1 a2 a3 a4 a5 a6 a7 a0 a1 a2 a3 a4 a5 a6 a7 W
  rw [show decide ([a0, a1, a2, a3, a4, a5, a6, a7] = [a0, a1, a2, a3, a4, a5, a6, a7]) = true from by simp] at heqA
  have HBy := Lib.hid (fun W => bytes_line8 W a0 a1 a2 a3 a4 a5 a6 a7 la)
  have HRB := Lib.hid (fun W (h : Ints W .u64 (some ⟨w.heap.size, 0, none⟩) [a0, a1, a2, a3, a4, a5, a6, a7]) => refBytes_of W (some ⟨w.heap.size, 0, none⟩) 8 [a0, a1, a2, a3, a4, a5, a6, a7] (by simp) la h)
  have HRA := Lib.hid (fun W (A : Addr) (c : Nat) (hc : 64 ≤ c) (hm : c ≤ 9223372036854775807) (h : Ints W .u8 (some A) (LM.bytesOf [a0, a1, a2, a3, a4, a5, a6, a7])) => read_of A c (LM.bytesOf [a0, a1, a2, a3, a4, a5, a6, a7]) a0 a1 a2 a3 a4 a5 a6 a7 W HLB.out hc hm hLim h HE.out)
  go_enter Try.func3, Try.ntmps3
  go_wp2_with fail
  refine (HBy.out _).mono ?_
  rintro e w1 ⟨vs, rfl, rs, x1⟩
  obtain ⟨As, cs, rfl, hcs, hms, Is, hAs, _⟩ := (RowN.of_row rs).form (by decide)
  obtain ⟨gs, rfl, _, hgs⟩ := hAs (by rw [HLB.out]; omega)
  rw [HLB.out] at hcs
  rw [HLB.out]
  unfold maxLen at hms
  have x01 : Ext w w1 := ((Ext.refl w).alloc _).trans x1
  have cA1 : Cells8 w1 ⟨w.heap.size, 0, none⟩ .u64 a0 a1 a2 a3 a4 a5 a6 a7 := (Cells8.new w 24 a0 a1 a2 a3 a4 a5 a6 a7).ext (by simp) x1
  have hN1 : w.heap.size < w1.heap.size := by have := x1.size; simp at this; omega
  have HIs := Lib.hid Is
  have HcA1 := Lib.hid cA1
  clear Is rs hAs cA1
  go_wp2_with fail
  refine (HRA.out _ ⟨gs, 0, none⟩ cs hcs hms HIs.out).mono ?_
  rintro e w2 ⟨rfl, x2⟩
  go_wp2_with fail
  refine (HRd.out _ (by exact HI1.out.ext ((x01.trans x2).alloc _))).mono ?_
  rintro e w3 ⟨rfl, x3⟩
  have hN2 : w.heap.size < w2.heap.size := by have := x2.size; omega
  have x23 : Ext w2 w3 := ((Ext.refl w2).alloc _).trans x3
  have cM3 : Cells8 w3 ⟨w2.heap.size, 0, none⟩ .u64 a0 a1 a2 a3 a4 a5 a6 a7 := (Cells8.new w2 24 a0 a1 a2 a3 a4 a5 a6 a7).ext (by simp) x3
  have hM3 : w2.heap.size < w3.heap.size := by have := x3.size; simp at this; omega
  have x03 : Ext w w3 := (x01.trans x2).trans x23
  have cA3 : Cells8 w3 ⟨w.heap.size, 0, none⟩ .u64 a0 a1 a2 a3 a4 a5 a6 a7 := HcA1.out.ext hN1 (x2.trans x23)
  have hN3 : w.heap.size < w3.heap.size := by have := x23.size; omega
  have Is3 := HIs.out.ext (x2.trans x23)
  have cK4 : Cells8 (w3.alloc (.cells #[.int .u64 k0, .int .u64 k1, .int .u64 k2, .int .u64 k3, .int .u64 k4, .int .u64 k5, .int .u64 k6, .int .u64 k7] 24)) ⟨w3.heap.size, 0, none⟩ .u64 k0 k1 k2 k3 k4 k5 k6 k7 := Cells8.new w3 24 k0 k1 k2 k3 k4 k5 k6 k7
  have x34 : Ext w3 (w3.alloc (.cells #[.int .u64 k0, .int .u64 k1, .int .u64 k2, .int .u64 k3, .int .u64 k4, .int .u64 k5, .int .u64 k6, .int .u64 k7] 24)) := (Ext.refl w3).alloc _
  have cM4 := cM3.ext hM3 x34
  have cA4 := cA3.ext hN3 x34
  have Is4 := Is3.ext x34
  have hsz4 : (w3.alloc (.cells #[.int .u64 k0, .int .u64 k1, .int .u64 k2, .int .u64 k3, .int .u64 k4, .int .u64 k5, .int .u64 k6, .int .u64 k7] 24)).heap.size = w3.heap.size + 1 := by simp
  have HI4 := Lib.hid (HI1.out.ext (x03.trans x34))
  have x04 := x03.trans x34
  clear cA3 cM3 Is3
  go_upto_region 6 with fail
  generalize w3.alloc (.cells #[.int .u64 k0, .int .u64 k1, .int .u64 k2, .int .u64 k3, .int .u64 k4, .int .u64 k5, .int .u64 k6, .int .u64 k7] 24) = w4 at *
  have hN4 : w.heap.size < w4.heap.size := by omega
  have hM4 : w2.heap.size < w4.heap.size := by omega
  have hK4 : w3.heap.size < w4.heap.size := by omega
  have HcA4 := Lib.hid cA4
  have HcM4 := Lib.hid cM4
  have HcK4 := Lib.hid cK4
  have HIs4 := Lib.hid Is4
  clear cA4 cM4 cK4 Is4 hsz4 x34 x23 x3
  have HRB4 := Lib.hid (HRB.out w4.drew (by exact HcA4.out.ints hN4))
  go_cut [40] (fun s40 wx => s40 = .bool false ∧ Ext w4 wx)
  case first =>
    obtain ⟨p0, p1, p2, p3, p4, p5, p6, p7⟩ := HcA4.out
    obtain ⟨q0, q1, q2, q3, q4, q5, q6, q7⟩ := HcM4.out
    have cv4 : (convert 25 9 (.slice (some ⟨gs, 0, none⟩) 64 cs)).run Try.prog w4.drew = .ok (.string (strOf (LM.bytesOf [a0, a1, a2, a3, a4, a5, a6, a7]))) w4.drew := conv_str w4.drew (some ⟨gs, 0, none⟩) 64 cs _ HLB.out HIs4.out (by intro h; cases h)
    generalize hS : strOf (LM.bytesOf [a0, a1, a2, a3, a4, a5, a6, a7]) = S at *
    have HS := Lib.hid hS
    clear hS
    go_region_with (go_at_call 15; refine HRB4.out.mono ?_; rintro e w5 ⟨vr, rfl, rr, x5⟩; obtain ⟨Ar, cr, hvr, Ir, _, hAr⟩ : ∃ A c, vr = .slice A 64 c ∧ Ints w5 .u8 A (LM.bytesOf [a0, a1, a2, a3, a4, a5, a6, a7]) ∧ True ∧ (A = none → 64 = 0) := (by obtain ⟨A, c, h1, _, _, h2, _, h3⟩ := (RowN.of_row rr).form (by decide); rw [HLB.out] at h1 h3; exact ⟨A, c, h1, h2, trivial, h3⟩); subst hvr; have cv5 := conv_str w5 (some ⟨gs, 0, none⟩) 64 cs _ HLB.out (HIs4.out.ext (((Ext.refl w4).drew).trans x5)) (by intro h; cases h); have cv6 := conv_str w5 Ar 64 cr _ HLB.out Ir hAr; rw [HS.out] at cv5 cv6; obtain ⟨u0, u1, u2, u3, u4, u5, u6, u7⟩ := HcA4.out.ext hN4 (((Ext.refl w4).drew).trans x5); obtain ⟨v0, v1, v2, v3, v4, v5, v6, v7⟩ := HcM4.out.ext hM4 (((Ext.refl w4).drew).trans x5); clear Ir rr hAr)
    all_goals
      go_wp2_with fail
      go_meet
      exact ⟨rfl, ((Ext.refl w4).drew).trans x5⟩
  case rest =>
    obtain ⟨rfl, x45⟩ := hcut
    clear HRB4
    have HK5 := Lib.hid (HcK4.out.ext hK4 x45)
    have hK5 : w3.heap.size < wc.heap.size := by have := x45.size; omega
    go_wp2_with fail
    go_region_with (first
      | (go_at_call 12; refine (awake3_any _).mono ?_; rintro e w6 ⟨rfl, x6⟩)
      | (go_at_call 17; refine (HRW.out _ (by exact HI4.out.ext (x45.trans (((Ext.refl wc).drew).trans x6)))).mono ?_; rintro e w7 ⟨vr, rfl, rr, x7⟩; obtain ⟨Ar, cr, hvr, Ir⟩ : ∃ A c, vr = .slice A 8 c ∧ Ints w7 .u64 A [k0, k1, k2, k3, k4, k5, k6, k7] := (by obtain ⟨A, c, h1, _, _, h2, _⟩ := (RowN.of_row rr).form (by decide); exact ⟨A, c, h1, h2⟩); subst hvr; have HIr := Lib.hid Ir; clear Ir rr)
      | (go_at_call 16; refine (same_n (some ⟨w3.heap.size, 0, none⟩) Ar 8 8 8 cr [k0, k1, k2, k3, k4, k5, k6, k7] [k0, k1, k2, k3, k4, k5, k6, k7] true _ rfl rfl (by omega) (by simp) (by exact ((HK5.out.ext hK5 (((Ext.refl wc).drew).trans (x6.trans x7))).ints (by have := x6.size; have := x7.size; simp at *; omega))) HIr.out).mono ?_; rintro e w8 ⟨rfl, x8⟩; obtain ⟨u0, u1, u2, u3, u4, u5, u6, u7⟩ := HK5.out.ext hK5 (((Ext.refl wc).drew).trans ((x6.trans x7).trans x8)); have cv8 := conv_str w8 (some ad) 64 c1 ys HY.out (HI4.out.ext (x45.trans (((Ext.refl wc).drew).trans ((x6.trans x7).trans x8)))) (by intro h; cases h))
      | (go_at_call 13; refine (bytes_line8 _ k0 k1 k2 k3 k4 k5 k6 k7 hkl).mono ?_; rintro e w9 ⟨vb, rfl, rb, x9⟩; rw [HKB.out] at rb; obtain ⟨Ab, cb, hvb, Ib, hAb⟩ : ∃ A c, vb = .slice A 64 c ∧ Ints w9 .u8 A ys ∧ (A = none → 64 = 0) := (by obtain ⟨A, c, h1, _, _, h2, _, h3⟩ := (RowN.of_row rb).form (by decide); rw [HY.out] at h1 h3; exact ⟨A, c, h1, h2, h3⟩); subst hvb; have cv9 := conv_str w9 Ab 64 cb ys HY.out Ib hAb; have cv9b := conv_str w9 (some ad) 64 c1 ys HY.out (HI4.out.ext (x45.trans (((Ext.refl wc).drew).trans (((x6.trans x7).trans x8).trans x9)))) (by intro h; cases h); clear Ib rb hAb))
    all_goals
      go_wp2_with fail
      go_ret
      exact ⟨rfl, x04.trans (x45.trans (((Ext.refl wc).drew).trans (((x6.trans x7).trans x8).trans x9)))⟩
set_option maxRecDepth 100000 in
set_option maxHeartbeats 2000000 in
theorem linesBytes_no (a0 a1 a2 a3 a4 a5 a6 a7 : Int) (A1 : Option Addr) (c1 : Nat) (ys : List Int) (w : World) (h1 : ys.length ≤ 300) (hc1 : ys.length ≤ c1) (hm1 : c1 ≤ 9223372036854775807) (la : Lim [a0, a1, a2, a3, a4, a5, a6, a7] 18446744073709551616) (ly : Lim ys 256) (I1 : Ints w .u8 A1 ys) (hy : ys.length ≠ 64) :
    Calls Try.prog 3 #[.agg #[.int .u64 a0, .int .u64 a1, .int .u64 a2, .int .u64 a3, .int .u64 a4, .int .u64 a5, .int .u64 a6, .int .u64 a7], .slice A1 ys.length c1] w fun e w' => e = .returned (.bool true) ∧ Ext w w' := by
  have t1 : decide (300 < (ys.length : Int)) = false := by simp; omega
  have hE : LM.wordsOf (LM.bytesOf [a0, a1, a2, a3, a4, a5, a6, a7]) = [a0, a1, a2, a3, a4, a5, a6, a7] := LM.wordsOf_bytesOf _ (LM.of_lim la)
  have hLB : (LM.bytesOf [a0, a1, a2, a3, a4, a5, a6, a7]).length = 64 := by rw [LM.bytesOf_len]; rfl
  have hLim := LM.bytesOf_lim [a0, a1, a2, a3, a4, a5, a6, a7]
  have HI1 := Lib.hid I1
  clear I1
  have t2 : ((ys.length : Int) != 64) = true := by rw [bne_iff_ne]; omega
  have HRd := Lib.hid (fun W => read_no A1 ys.length c1 W (by omega) hy)
  have HY := Lib.hid hy
  skip
  clear hy
  have HLB := Lib.hid hLB
  have HE := Lib.hid hE
  clear hLB hE
  have heqA := fun W => eq_line a0 a1 a2 a3 a4 a5 a6 a7 a0 a1 a2 a3 a4 a5 a6 a7 W
  rw [show decide ([a0, a1, a2, a3, a4, a5, a6, a7] = [a0, a1, a2, a3, a4, a5, a6, a7]) = true from by simp] at heqA
  have HBy := Lib.hid (fun W => bytes_line8 W a0 a1 a2 a3 a4 a5 a6 a7 la)
  have HRB := Lib.hid (fun W (h : Ints W .u64 (some ⟨w.heap.size, 0, none⟩) [a0, a1, a2, a3, a4, a5, a6, a7]) => refBytes_of W (some ⟨w.heap.size, 0, none⟩) 8 [a0, a1, a2, a3, a4, a5, a6, a7] (by simp) la h)
  have HRA := Lib.hid (fun W (A : Addr) (c : Nat) (hc : 64 ≤ c) (hm : c ≤ 9223372036854775807) (h : Ints W .u8 (some A) (LM.bytesOf [a0, a1, a2, a3, a4, a5, a6, a7])) => read_of A c (LM.bytesOf [a0, a1, a2, a3, a4, a5, a6, a7]) a0 a1 a2 a3 a4 a5 a6 a7 W HLB.out hc hm hLim h HE.out)
  go_enter Try.func3, Try.ntmps3
  go_wp2_with fail
  refine (HBy.out _).mono ?_
  rintro e w1 ⟨vs, rfl, rs, x1⟩
  obtain ⟨As, cs, rfl, hcs, hms, Is, hAs, _⟩ := (RowN.of_row rs).form (by decide)
  obtain ⟨gs, rfl, _, hgs⟩ := hAs (by rw [HLB.out]; omega)
  rw [HLB.out] at hcs
  rw [HLB.out]
  unfold maxLen at hms
  have x01 : Ext w w1 := ((Ext.refl w).alloc _).trans x1
  have cA1 : Cells8 w1 ⟨w.heap.size, 0, none⟩ .u64 a0 a1 a2 a3 a4 a5 a6 a7 := (Cells8.new w 24 a0 a1 a2 a3 a4 a5 a6 a7).ext (by simp) x1
  have hN1 : w.heap.size < w1.heap.size := by have := x1.size; simp at this; omega
  have HIs := Lib.hid Is
  have HcA1 := Lib.hid cA1
  clear Is rs hAs cA1
  go_wp2_with fail
  refine (HRA.out _ ⟨gs, 0, none⟩ cs hcs hms HIs.out).mono ?_
  rintro e w2 ⟨rfl, x2⟩
  go_wp2_with fail
  refine (HRd.out _).mono ?_
  rintro e w3 ⟨rfl, x3⟩
  unfold z8
  have hN2 : w.heap.size < w2.heap.size := by have := x2.size; omega
  have x23 : Ext w2 w3 := ((Ext.refl w2).alloc _).trans x3
  have cM3 : Cells8 w3 ⟨w2.heap.size, 0, none⟩ .u64 a0 a1 a2 a3 a4 a5 a6 a7 := (Cells8.new w2 24 a0 a1 a2 a3 a4 a5 a6 a7).ext (by simp) x3
  have hM3 : w2.heap.size < w3.heap.size := by have := x3.size; simp at this; omega
  have x03 : Ext w w3 := (x01.trans x2).trans x23
  have cA3 : Cells8 w3 ⟨w.heap.size, 0, none⟩ .u64 a0 a1 a2 a3 a4 a5 a6 a7 := HcA1.out.ext hN1 (x2.trans x23)
  have hN3 : w.heap.size < w3.heap.size := by have := x23.size; omega
  have Is3 := HIs.out.ext (x2.trans x23)
  have cK4 : Cells8 (w3.alloc (.cells #[.int .u64 0, .int .u64 0, .int .u64 0, .int .u64 0, .int .u64 0, .int .u64 0, .int .u64 0, .int .u64 0] 24)) ⟨w3.heap.size, 0, none⟩ .u64 0 0 0 0 0 0 0 0 := Cells8.new w3 24 0 0 0 0 0 0 0 0
  have x34 : Ext w3 (w3.alloc (.cells #[.int .u64 0, .int .u64 0, .int .u64 0, .int .u64 0, .int .u64 0, .int .u64 0, .int .u64 0, .int .u64 0] 24)) := (Ext.refl w3).alloc _
  have cM4 := cM3.ext hM3 x34
  have cA4 := cA3.ext hN3 x34
  have Is4 := Is3.ext x34
  have hsz4 : (w3.alloc (.cells #[.int .u64 0, .int .u64 0, .int .u64 0, .int .u64 0, .int .u64 0, .int .u64 0, .int .u64 0, .int .u64 0] 24)).heap.size = w3.heap.size + 1 := by simp
  have HI4 := Lib.hid (HI1.out.ext (x03.trans x34))
  have x04 := x03.trans x34
  clear cA3 cM3 Is3
  go_upto_region 6 with fail
  generalize w3.alloc (.cells #[.int .u64 0, .int .u64 0, .int .u64 0, .int .u64 0, .int .u64 0, .int .u64 0, .int .u64 0, .int .u64 0] 24) = w4 at *
  have hN4 : w.heap.size < w4.heap.size := by omega
  have hM4 : w2.heap.size < w4.heap.size := by omega
  have hK4 : w3.heap.size < w4.heap.size := by omega
  have HcA4 := Lib.hid cA4
  have HcM4 := Lib.hid cM4
  have HcK4 := Lib.hid cK4
  have HIs4 := Lib.hid Is4
  clear cA4 cM4 cK4 Is4 hsz4 x34 x23 x3
  have HRB4 := Lib.hid (HRB.out w4.drew (by exact HcA4.out.ints hN4))
  go_cut [40] (fun s40 wx => s40 = .bool false ∧ Ext w4 wx)
  case first =>
    obtain ⟨p0, p1, p2, p3, p4, p5, p6, p7⟩ := HcA4.out
    obtain ⟨q0, q1, q2, q3, q4, q5, q6, q7⟩ := HcM4.out
    have cv4 : (convert 25 9 (.slice (some ⟨gs, 0, none⟩) 64 cs)).run Try.prog w4.drew = .ok (.string (strOf (LM.bytesOf [a0, a1, a2, a3, a4, a5, a6, a7]))) w4.drew := conv_str w4.drew (some ⟨gs, 0, none⟩) 64 cs _ HLB.out HIs4.out (by intro h; cases h)
    generalize hS : strOf (LM.bytesOf [a0, a1, a2, a3, a4, a5, a6, a7]) = S at *
    have HS := Lib.hid hS
    clear hS
    go_region_with (go_at_call 15; refine HRB4.out.mono ?_; rintro e w5 ⟨vr, rfl, rr, x5⟩; obtain ⟨Ar, cr, hvr, Ir, _, hAr⟩ : ∃ A c, vr = .slice A 64 c ∧ Ints w5 .u8 A (LM.bytesOf [a0, a1, a2, a3, a4, a5, a6, a7]) ∧ True ∧ (A = none → 64 = 0) := (by obtain ⟨A, c, h1, _, _, h2, _, h3⟩ := (RowN.of_row rr).form (by decide); rw [HLB.out] at h1 h3; exact ⟨A, c, h1, h2, trivial, h3⟩); subst hvr; have cv5 := conv_str w5 (some ⟨gs, 0, none⟩) 64 cs _ HLB.out (HIs4.out.ext (((Ext.refl w4).drew).trans x5)) (by intro h; cases h); have cv6 := conv_str w5 Ar 64 cr _ HLB.out Ir hAr; rw [HS.out] at cv5 cv6; obtain ⟨u0, u1, u2, u3, u4, u5, u6, u7⟩ := HcA4.out.ext hN4 (((Ext.refl w4).drew).trans x5); obtain ⟨v0, v1, v2, v3, v4, v5, v6, v7⟩ := HcM4.out.ext hM4 (((Ext.refl w4).drew).trans x5); clear Ir rr hAr)
    all_goals
      go_wp2_with fail
      go_meet
      exact ⟨rfl, ((Ext.refl w4).drew).trans x5⟩
  case rest =>
    obtain ⟨rfl, x45⟩ := hcut
    clear HRB4
    have heqZ := fun W => eq_line 0 0 0 0 0 0 0 0 0 0 0 0 0 0 0 0 W
    rw [show decide ([(0 : Int), 0, 0, 0, 0, 0, 0, 0] = [0, 0, 0, 0, 0, 0, 0, 0]) = true from rfl] at heqZ
    go_wp2_with fail
    refine (awake3_any _).mono ?_
    rintro e w6 ⟨rfl, x6⟩
    obtain ⟨u0, u1, u2, u3, u4, u5, u6, u7⟩ := HcK4.out.ext hK4 (x45.trans x6)
    go_wp2_with fail
    go_ret
    exact ⟨rfl, x04.trans (x45.trans x6)⟩
theorem linesBytes_walk (a0 a1 a2 a3 a4 a5 a6 a7 : Int) (A1 : Option Addr) (c1 : Nat) (ys : List Int) (w : World) (hc1 : ys.length ≤ c1) (hm1 : c1 ≤ maxLen) (la : Lim [a0, a1, a2, a3, a4, a5, a6, a7] 18446744073709551616) (ly : Lim ys 256) (I1 : Ints w .u8 A1 ys) :
    Calls Try.prog 3 #[.agg #[.int .u64 a0, .int .u64 a1, .int .u64 a2, .int .u64 a3, .int .u64 a4, .int .u64 a5, .int .u64 a6, .int .u64 a7], .slice A1 ys.length c1] w fun e w' => e = .returned (.bool true) ∧ Ext w w' := by
  unfold maxLen at hm1
  by_cases g : 300 < ys.length
  · exact linesBytes_far a0 a1 a2 a3 a4 a5 a6 a7 A1 ys.length c1 w (by omega) g
  · by_cases g2 : ys.length = 64
    · exact linesBytes_yes a0 a1 a2 a3 a4 a5 a6 a7 A1 c1 ys w (by omega) hc1 (by omega) la ly I1 g2
    · exact linesBytes_no a0 a1 a2 a3 a4 a5 a6 a7 A1 c1 ys w (by omega) hc1 (by omega) la ly I1 g2

namespace linesBytes
set_option maxRecDepth 100000 in
theorem lifted (os : Os) (started : os.Started) (H : Type) (enc : TypeId × Value → H) :
    ReturnsInHanded {} Try.checked os 3 .any (Rows.linesBytesSpec.pre6 enc Try.prog Try.f3 Rows.linesBytesRow.domain false) (Rows.linesBytesSpec.post enc Try.prog Try.f3 false true false false) := by
  refine returnsInHanded_of_change (C := Try.checked) own started (by kernel_rfl) Try.func3
    (ChangeSpec.witness6 (enc := enc) (C := Try.checked) false ⟨#[], #[.agg #[.int .u64 0, .int .u64 0, .int .u64 0, .int .u64 0, .int .u64 0, .int .u64 0, .int .u64 0, .int .u64 0], .slice none 0 0], []⟩ 8 (by kernel_rfl) (by kernel_rfl) (by kernel_rfl) (by kernel_rfl)) ?_
  intro W base args ds gs before hval0 hW hcnd _
  have hval : ∀ (j : Nat) t v, Try.f3.params[j]? = some t → args[j]? = some v → Value.okWide Try.prog W .any base t v := hval0
  have hW' := hW
  obtain ⟨p, q, hA0, hV, rfl, hfz, hnd⟩ := hW
  have hA : DataW.TrodAll enc Try.prog W 0 (fun _ => true) true Try.f3.params.toList args.toList ds p := hA0
  have hlt : ∀ x ∈ p ++ q, x.block < W.heap.size := fun x hx => hW'.lt x hx
  rw [Try.params3] at hA hval
  have hB := hA
  obtain ⟨v0, vs0, d0, ds0, p0, q0, hargs, rfl, rfl, h0, r0⟩ := trodAll_cons hB
  obtain ⟨v1, vs1, d1, ds1, p1, q1, rfl, rfl, rfl, h1, r1⟩ := trodAll_cons r0
  obtain ⟨rfl, rfl, rfl⟩ := trodAll_nil r1
  obtain rfl : args = #[v0, v1] := by cases args; simp_all
  obtain ⟨rfl, rfl⟩ := trodVars_none hV
  obtain ⟨x0a, x0b, x0c, x0d, x0e, x0f, x0g, x0h, rfl, L0⟩ := view_line Try.underlying24 Try.underlying22 (by kernel_rfl) (by kernel_rfl) (hval 0 24 v0 rfl rfl) h0 (okWide_agg_array Try.underlying24 (hval 0 24 v0 rfl rfl))
  obtain ⟨A1, c1, z1, rfl, lc1, mc1, I1, w1⟩ := view_ints Try.underlying25 Try.underlying5 (by kernel_rfl) (hval 1 25 v1 rfl rfl) h1
  clear hA0 hval0
  refine (linesBytes_walk x0a x0b x0c x0d x0e x0f x0g x0h A1 c1 z1 W lc1 mc1 L0 (lim_u8 w1) I1).mono fun e W' ⟨he, hx⟩ => ?_
  subst he
  exact ⟨_, rfl, post_ext (pv := []) hW' (fun _ _ _ => (trodAll_cons_mk (shut_bool Try.underlying4 _) trodAll_mk0)) (fun sp hsp => trodAll_stays laid hx _ _ _ _ (readable_of (by kernel_rfl)) hA (fun x hx => hlt x (by first | (simp at hx ⊢; exact hx) | simp at hx)) (fun x hx => hsp x (by first | (simp at hx ⊢; exact hx) | simp at hx))) (fun _ _ => rfl) rfl hx (ok_one (by kernel_rfl) rfl (okWide_bool_mk Try.underlying4 _))⟩

theorem over : Rows.linesBytesRow.holds Try.pinned (OpenSpec.ofChange Rows.linesBytesSpec) :=
  OpenClaim.holds_of_wide 3 Try.f3 rfl rfl rfl rfl rfl rfl rfl ⟨rfl, rfl, rfl, rfl, rfl⟩ rfl rfl rfl rfl rfl (by kernel_rfl) Try.func3 (by kernel_rfl)
    (of_decide_eq_true (by kernel_rfl)) (by unfold Func.isWrapper; first | (rw [if_pos (by decide +kernel)]; kernel_rfl) | (rw [if_neg (by decide +kernel)]; exact ⟨rfl, rfl⟩))
    (fun os started H enc _ => lifted os started H enc)
end linesBytes

theorem linesBytes_holds : Rows.LinesBytesSaid := linesBytes.over
#print axioms linesBytes_holds
end Go.Proofs.Ytimbfclnkagnaaa
