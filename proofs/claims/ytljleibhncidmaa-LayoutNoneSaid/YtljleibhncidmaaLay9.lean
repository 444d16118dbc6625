/- The layout of a config, whole; the page's example of layer 6. Conditions: those that each theorem names. -/
import Derived.Test.YtljleibhncidmaaLay3
import Derived.Test.YtljleibhncidmaaLay4
import Derived.Test.YtljleibhncidmaaLay8
namespace Go.Proofs.Ytljleibhncidmaa
open Go.ChangeShapes Go.WideShapes Go.ChangeAt Go.RowKit
set_option linter.unusedVariables false
/-- The numbers of a config's layout: nb lines of buckets, nl lines a log. -/
def layN (t s l b nb nl : Int) (j : Nat) : Int := [t, s, l, b, 5 + nb + t + t * nl + s, 2 + t + s, 16, 24, 32, 40, 1, b, (5 + nb) * 8, 8, t, (5 + nb + t) * 8, nl * 8, t, (5 + nb + t + t * nl) * 8, 8, s, -1, -2, -3, -1, t, -1 - (2 + t), -1, s].getD j 0
def layF (t s l b : Int) : Nat → Int := layN t s l b ((b + 7) / 8) ((l + 7) / 8)
theorem mul_lim {t x : Int} (t0 : 0 ≤ t) (t1 : t ≤ 64) (x0 : 0 ≤ x) (x1 : x ≤ 8) : 0 ≤ t * x ∧ t * x ≤ 512 :=
  ⟨Int.mul_nonneg t0 x0, Int.le_trans (Int.mul_le_mul_of_nonneg_right t1 x0) (by omega)⟩
theorem okayF {t s l b : Int} (h : CfgOk t s l b) : Okay (layF t s l b) := by
  obtain ⟨⟨t0, t1⟩, ⟨s0, s1⟩, ⟨l0, l1⟩, b0, b1⟩ := h
  unfold layF
  have x0 : 0 ≤ (b + 7) / 8 := by omega
  have x1 : (b + 7) / 8 ≤ 8 := by omega
  have y0 : 0 ≤ (l + 7) / 8 := by omega
  have y1 : (l + 7) / 8 ≤ 8 := by omega
  generalize (b + 7) / 8 = nb at *
  generalize (l + 7) / 8 = nl at *
  obtain ⟨p0, p1⟩ := mul_lim (t := t) (by omega) t1 y0 y1
  refine ⟨?_, ?_, ⟨?_, ?_, ?_⟩, ⟨?_, ?_, ?_⟩, ⟨?_, ?_, ?_⟩, ⟨?_, ?_, ?_⟩, ⟨?_, ?_, ?_⟩, ⟨?_, ?_, ?_⟩, ?_, ?_, ?_, ?_, ?_⟩ <;> simp [layN, Small] <;> omega
set_option maxRecDepth 100000 in
set_option maxHeartbeats 1000000 in
theorem of_yes (t s l b : Int) (w : World) (h : CfgOk t s l b) :
    Calls Try.prog 20 #[.agg #[.int .i64 t, .int .i64 s, .int .i64 l, .int .i64 b]] w fun e w' => ∃ g, e = .returned (.tuple #[.pointer (some ⟨g, 0, none⟩), .int .i64 0]) ∧ Blk w' g 66 (cellsF (layF t s l b)) ∧ w.heap.size ≤ g ∧ Ext w w' := by
  obtain ⟨⟨t0, t1⟩, ⟨s0, s1⟩, ⟨l0, l1⟩, b0, b1⟩ := id h
  have HLb := Lib.hid (fun W => linesOf_any b W (by omega) (by omega))
  have HLl := Lib.hid (fun W => linesOf_any l W (by omega) (by omega))
  have HF : Hid (cellsF (layF t s l b) = cellsF (layN t s l b ((b + 7) / 8) ((l + 7) / 8))) := Lib.hid rfl
  have x0 : 0 ≤ (b + 7) / 8 := by omega
  have x1 : (b + 7) / 8 ≤ 8 := by omega
  have y0 : 0 ≤ (l + 7) / 8 := by omega
  have y1 : (l + 7) / 8 ≤ 8 := by omega
  generalize (b + 7) / 8 = nb at *
  generalize (l + 7) / 8 = nl at *
  obtain ⟨p0, p1⟩ := mul_lim (t := t) (by omega) t1 y0 y1
  have HY := Lib.hid (fun W => right_yes t s l b W h)
  go_enter Try.func20, Try.ntmps20
  go_wp2_with fail
  refine (HY.out _).mono ?_
  rintro e w1 ⟨rfl, hx1⟩
  obtain ⟨c0, c1, c2, c3⟩ := (C4.new w t s l b 23).ext hx1 (by simp)
  have hxa := ((Ext.refl w).alloc _).trans hx1
  have hz : w.heap.size < w1.heap.size := by have := hx1.size; simp at this; omega
  clear HY hx1
  go_wp2_with fail
  refine (layLasting_any t s l b nb nl w1.heap.size _ (Blk.new w1 _ _) ⟨⟨by omega, t1⟩, ⟨by omega, s1⟩, ⟨by omega, l1⟩, by omega, b1⟩ x0 x1 y0 y1 p0 p1 HLb HLl).mono ?_
  rintro e w2 ⟨rfl, hB2, hF2⟩
  go_wp2_with fail
  refine (layPassing_any t s l b nb nl w1.heap.size _ hB2 ⟨⟨by omega, t1⟩, ⟨by omega, s1⟩, ⟨by omega, l1⟩, by omega, b1⟩).mono ?_
  rintro e w3 ⟨rfl, hB3, hF3⟩
  go_wp2_with fail
  have hX : Ext w w3 := (hF2.trans hF3 (fun g _ e => e)).ext (hxa.alloc _) (fun g e => by omega)
  have hB : Blk w3 w1.heap.size 66 (cellsF (layF t s l b)) := by
    rw [HF.out]
    exact hB3
  clear hB3 hB2 hF2 hF3 HF HLb HLl
  go_ret2
  exact ⟨w1.heap.size, rfl, hB, by omega, hX⟩
theorem of_no (t s l b : Int) (w : World) (h : ¬ CfgOk t s l b) :
    Calls Try.prog 20 #[.agg #[.int .i64 t, .int .i64 s, .int .i64 l, .int .i64 b]] w fun e w' => e = .returned (.tuple #[.pointer none, .int .i64 1]) ∧ Ext w w' := by
  go_enter Try.func20, Try.ntmps20
  go_wp2_with fail
  refine (right_no t s l b _ h).mono ?_
  rintro e w1 ⟨rfl, hx1⟩
  go_wp2_with fail
  go_ret2
  exact ⟨rfl, ((Ext.refl w).alloc _).trans hx1⟩
set_option maxRecDepth 100000 in
set_option maxHeartbeats 1000000 in
theorem awake6_any (w : World) : Calls Try.prog 19 #[] w fun e w' => e = .returned (.bool true) ∧ Ext w w' := by
  have hk : CfgOk 1 2 3 9 := ⟨by omega, by omega, by omega, by omega⟩
  have HO := Lib.hid (fun W => of_yes 1 2 3 9 W hk)
  have ok := okayF hk
  have H0 : Hid (∀ W p, LayAt W p (cellsF (layF 1 2 3 9)) → Calls Try.prog 32 #[.pointer p, .int .i64 8] W fun e w' => e = .returned (.int .i64 48) ∧ Ext W w') := Lib.hid (fun W p hW => (tBucket_any _ _ (layF 1 2 3 9 4) (layF 1 2 3 9 9) (layF 1 2 3 9 10) (layF 1 2 3 9 11) 8 W hW (cellsF_at (layF 1 2 3 9) 4 (by omega)) ok.v0 ok.v1 ok.r9.a ok.r9.d ok.r9.m (cellsF_at (layF 1 2 3 9) 9 (by omega)) (cellsF_at (layF 1 2 3 9) 10 (by omega)) (cellsF_at (layF 1 2 3 9) 11 (by omega))).mono fun e w' hh => ⟨hh.1.trans (reti (by decide +kernel)), hh.2⟩)
  have H1 : Hid (∀ W p, LayAt W p (cellsF (layF 1 2 3 9)) → Calls Try.prog 33 #[.pointer p, .int .i64 0] W fun e w' => e = .returned (.int .i64 56) ∧ Ext W w') := Lib.hid (fun W p hW => (tCell_any _ _ (layF 1 2 3 9 4) (layF 1 2 3 9 12) (layF 1 2 3 9 13) (layF 1 2 3 9 14) 0 W hW (cellsF_at (layF 1 2 3 9) 4 (by omega)) ok.v0 ok.v1 ok.r12.a ok.r12.d ok.r12.m (cellsF_at (layF 1 2 3 9) 12 (by omega)) (cellsF_at (layF 1 2 3 9) 13 (by omega)) (cellsF_at (layF 1 2 3 9) 14 (by omega))).mono fun e w' hh => ⟨hh.1.trans (reti (by decide +kernel)), hh.2⟩)
  have H2 : Hid (∀ W p, LayAt W p (cellsF (layF 1 2 3 9)) → Calls Try.prog 34 #[.pointer p, .int .i64 0, .int .i64 0] W fun e w' => e = .returned (.int .i64 64) ∧ Ext W w') := Lib.hid (fun W p hW => (tLog_any _ _ (layF 1 2 3 9 4) (layF 1 2 3 9 15) (layF 1 2 3 9 16) (layF 1 2 3 9 17) (layF 1 2 3 9 2) 0 0 W hW (cellsF_at (layF 1 2 3 9) 4 (by omega)) ok.v0 ok.v1 ok.r15.a ok.r15.d ok.r15.m ok.c2 (cellsF_at (layF 1 2 3 9) 2 (by omega)) (cellsF_at (layF 1 2 3 9) 15 (by omega)) (cellsF_at (layF 1 2 3 9) 16 (by omega)) (cellsF_at (layF 1 2 3 9) 17 (by omega))).mono fun e w' hh => ⟨hh.1.trans (reti (by decide +kernel)), hh.2⟩)
  have H3 : Hid (∀ W p, LayAt W p (cellsF (layF 1 2 3 9)) → Calls Try.prog 35 #[.pointer p, .int .i64 1] W fun e w' => e = .returned (.int .i64 80) ∧ Ext W w') := Lib.hid (fun W p hW => (tGen_any _ _ (layF 1 2 3 9 4) (layF 1 2 3 9 18) (layF 1 2 3 9 19) (layF 1 2 3 9 20) 1 W hW (cellsF_at (layF 1 2 3 9) 4 (by omega)) ok.v0 ok.v1 ok.r18.a ok.r18.d ok.r18.m (cellsF_at (layF 1 2 3 9) 18 (by omega)) (cellsF_at (layF 1 2 3 9) 19 (by omega)) (cellsF_at (layF 1 2 3 9) 20 (by omega))).mono fun e w' hh => ⟨hh.1.trans (reti (by decide +kernel)), hh.2⟩)
  have H4 : Hid (∀ W p, LayAt W p (cellsF (layF 1 2 3 9)) → Calls Try.prog 24 #[.pointer p] W fun e w' => e = .returned (.int .i64 11) ∧ Ext W w') := Lib.hid (fun W p hW => (tLines_any _ _ (layF 1 2 3 9 4) W hW (cellsF_at (layF 1 2 3 9) 4 (by omega))).mono fun e w' hh => ⟨hh.1.trans (reti (by decide +kernel)), hh.2⟩)
  clear hk ok
  go_enter Try.func19, Try.ntmps19
  go_wp2_with fail
  refine (HO.out _).mono ?_
  rintro e w0 ⟨g, rfl, hg, hgl, hx⟩
  have hL := Lib.hid (show LayAt w0 (some ⟨g, 0, none⟩) (cellsF (layF 1 2 3 9)) from Or.inl ⟨g, rfl, hg⟩)
  clear hg hgl HO
  go_wp2_with fail
  refine (H0.out _ _ hL.out).mono ?_
  rintro e w1 ⟨rfl, x1⟩
  replace hL := Lib.hid (hL.out.ext x1)
  replace hx := hx.trans x1
  clear x1
  go_wp2_with fail
  refine (H1.out _ _ hL.out).mono ?_
  rintro e w2 ⟨rfl, x2⟩
  replace hL := Lib.hid (hL.out.ext x2)
  replace hx := hx.trans x2
  clear x2
  go_wp2_with fail
  refine (H2.out _ _ hL.out).mono ?_
  rintro e w3 ⟨rfl, x3⟩
  replace hL := Lib.hid (hL.out.ext x3)
  replace hx := hx.trans x3
  clear x3
  go_wp2_with fail
  refine (H3.out _ _ hL.out).mono ?_
  rintro e w4 ⟨rfl, x4⟩
  replace hL := Lib.hid (hL.out.ext x4)
  replace hx := hx.trans x4
  clear x4
  go_wp2_with fail
  refine (H4.out _ _ hL.out).mono ?_
  rintro e w5 ⟨rfl, x5⟩
  replace hL := Lib.hid (hL.out.ext x5)
  replace hx := hx.trans x5
  clear x5
  go_wp2_with fail
  go_ret
  exact ⟨rfl, hx⟩
end Go.Proofs.Ytljleibhncidmaa
