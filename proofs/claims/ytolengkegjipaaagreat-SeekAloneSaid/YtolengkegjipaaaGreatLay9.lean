/- The layout of a config, whole; the page's example of layer 6. Conditions: those that each theorem names. -/
import Derived.Test.YtolengkegjipaaaGreatLay3
import Derived.Test.YtolengkegjipaaaGreatLay4
import Derived.Test.YtolengkegjipaaaGreatKLayB
namespace Go.Proofs.YtolengkegjipaaaGreat
open Go.ChangeShapes Go.WideShapes Go.ChangeAt Go.RowKit
set_option linter.unusedVariables false
/-- The numbers of a config's layout: nb lines of buckets, nl lines a log. -/
def layN (t s l b nb nl : Int) (j : Nat) : Int := [t, s, l, b, 5 + nb + t + t * nl + s, 2 + t + s, 16, 24, 32, 40, 1, b, (5 + nb) * 8, 8, t, (5 + nb + t) * 8, nl * 8, t, (5 + nb + t + t * nl) * 8, 8, s, -1, -2, -3, -1, t, -1 - (2 + t), -1, s].getD j 0
def layF (t s l b : Int) : Nat → Int := layN t s l b ((b + 7) / 8) ((l + 7) / 8)
theorem mul_lim {t x : Int} (t0 : 0 ≤ t) (t1 : t ≤ 64) (x0 : 0 ≤ x) (x1 : x ≤ 8) : 0 ≤ t * x ∧ t * x ≤ 512 :=
  ⟨Int.mul_nonneg t0 x0, Int.le_trans (Int.mul_le_mul_of_nonneg_right t1 x0) (by omega)⟩
theorem okayF {t s l b : Int} (h : CfgOk t s l b) : Okay (layF t s l b) := by
  obtain ⟨⟨t0, t1⟩, ⟨s0, s1⟩, ⟨l0, l1⟩, b0, b1⟩ := h
  unfold layF
  have x0 : 0 ≤ (b + 7) / 8 := by omega
  have x1 : (b + 7) / 8 ≤ 8 := by omega
  have y0 : 0 ≤ (l + 7) / 8 := by omega
  have y1 : (l + 7) / 8 ≤ 8 := by omega
  generalize (b + 7) / 8 = nb at *
  generalize (l + 7) / 8 = nl at *
  obtain ⟨p0, p1⟩ := mul_lim (t := t) (by omega) t1 y0 y1
  refine ⟨?_, ?_, ⟨?_, ?_, ?_⟩, ⟨?_, ?_, ?_⟩, ⟨?_, ?_, ?_⟩, ⟨?_, ?_, ?_⟩, ⟨?_, ?_, ?_⟩, ⟨?_, ?_, ?_⟩, ?_, ?_, ?_, ?_, ?_⟩ <;> simp [layN, Small] <;> omega
set_option maxRecDepth 100000 in
set_option maxHeartbeats 1000000 in
theorem of_yes (t s l b : Int) (w : World) (h : CfgOk t s l b) :
    Calls Tryz.prog 23 #[.agg #[.int .i64 t, .int .i64 s, .int .i64 l, .int .i64 b]] w fun e w' => ∃ g, e = .returned (.tuple #[.pointer (some ⟨g, 0, none⟩), .int .i64 0]) ∧ Blk w' g 97 (cellsF (layF t s l b)) ∧ w.heap.size ≤ g ∧ Ext w w' := by
  obtain ⟨⟨t0, t1⟩, ⟨s0, s1⟩, ⟨l0, l1⟩, b0, b1⟩ := id h
  have HLb := Lib.hid (fun W => linesOf_any b W (by omega) (by omega))
  have HLl := Lib.hid (fun W => linesOf_any l W (by omega) (by omega))
  have HF : Hid (cellsF (layF t s l b) = cellsF (layN t s l b ((b + 7) / 8) ((l + 7) / 8))) := Lib.hid rfl
  have x0 : 0 ≤ (b + 7) / 8 := by omega
  have x1 : (b + 7) / 8 ≤ 8 := by omega
  have y0 : 0 ≤ (l + 7) / 8 := by omega
  have y1 : (l + 7) / 8 ≤ 8 := by omega
  generalize (b + 7) / 8 = nb at *
  generalize (l + 7) / 8 = nl at *
  obtain ⟨p0, p1⟩ := mul_lim (t := t) (by omega) t1 y0 y1
  have HY := Lib.hid (fun W => right_yes t s l b W h)
  go_enter Tryz.func23, Tryz.ntmps23
  go_wp2_with fail
  refine (HY.out _).mono ?_
  rintro e w1 ⟨rfl, hx1⟩
  obtain ⟨c0, c1, c2, c3⟩ := (C4.new w t s l b 23).ext hx1 (by simp)
  have hxa := ((Ext.refl w).alloc _).trans hx1
  have hz : w.heap.size < w1.heap.size := by have := hx1.size; simp at this; omega
  clear HY hx1
  go_wp2_with fail
  refine (layLasting_any t s l b nb nl w1.heap.size _ (Blk.new w1 _ _) ⟨⟨by omega, t1⟩, ⟨by omega, s1⟩, ⟨by omega, l1⟩, by omega, b1⟩ x0 x1 y0 y1 p0 p1 HLb HLl).mono ?_
  rintro e w2 ⟨rfl, hB2, hF2⟩
  go_wp2_with fail
  refine (layPassing_any t s l b nb nl w1.heap.size _ hB2 ⟨⟨by omega, t1⟩, ⟨by omega, s1⟩, ⟨by omega, l1⟩, by omega, b1⟩).mono ?_
  rintro e w3 ⟨rfl, hB3, hF3⟩
  go_wp2_with fail
  have hX : Ext w w3 := (hF2.trans hF3 (fun g _ e => e)).ext (hxa.alloc _) (fun g e => by omega)
  have hB : Blk w3 w1.heap.size 97 (cellsF (layF t s l b)) := by
    rw [HF.out]
    exact hB3
  clear hB3 hB2 hF2 hF3 HF HLb HLl
  go_ret2
  exact ⟨w1.heap.size, rfl, hB, by omega, hX⟩
end Go.Proofs.YtolengkegjipaaaGreat

