/- The walk of FreeLists: over any ground. Conditions: those that each theorem names. -/
import Derived.Test.YtiggailjdnenpaaKFreeB
namespace Go.Proofs.Ytiggailjdnenpaa
open Go.ChangeShapes Go.WideShapes Go.ChangeAt Go.RowKit
set_option linter.unusedVariables false
theorem row_at {w : World} {B : Nat} {v : Value} {zs : List Int} (h : Row w B 3 .i64 v zs) : ∃ A c, v = .slice A zs.length c ∧ Ints w .i64 A zs ∧ zs.length ≤ 9223372036854775807 := by
  obtain ⟨A, c, e, h1, h2, hI, _, _⟩ := RowN.form (RowN.of_row h) (by decide)
  unfold maxLen at h2
  exact ⟨A, c, e, hI, by omega⟩
set_option maxRecDepth 100000 in
set_option maxHeartbeats 4000000 in
theorem freeLists_yes (w : World) (A : Option Addr) (n c : Nat) (t s l b : Nat) (ys : List Put) (hg : GrOk t s l b) (hy : ys.length = n) (hn : n ≤ 100) (hY : PutsAt w A ys) :
    Calls Try.prog 6 #[.agg #[.int .i64 t, .int .i64 s, .int .i64 l, .int .i64 b, .slice A n c]] w fun e w' => e = .returned (.bool true) ∧ Ext w w' := by
  have X0 := Lib.hid ((Ext.refl w).alloc (.cells #[.int .i64 t, .int .i64 s, .int .i64 l, .int .i64 b, .slice A n c] 52))
  have B0 := Lib.hid (Blk.new w 52 [.int .i64 t, .int .i64 s, .int .i64 l, .int .i64 b, .slice A n c])
  have HL := Lib.hid (lay_ok (w.alloc (.cells #[.int .i64 t, .int .i64 s, .int .i64 l, .int .i64 b, .slice A n c] 52)) A n c t s l b ys hg hy hn (hY.ext X0.out))
  obtain ⟨hc, h1, h2, h3, h4⟩ := id hg
  obtain ⟨⟨q0, q1⟩, ⟨q2, q3⟩, ⟨q4, q5⟩, q6, q7⟩ := id hc
  have HC : Hid (CfgN t s l b) := Lib.hid ⟨by omega, by omega, by omega, by omega, by omega⟩
  have HOk := Lib.hid (okayF hc)
  have HF22 : Hid (layF t s l b 22 = -2) := Lib.hid rfl
  have HF1 : Hid (layF t s l b 1 = (s : Int)) := Lib.hid rfl
  have hs30 : s ≤ 30 := by omega
  clear hY hg hc h1 h2 h3 h4 q0 q1 q2 q3 q4 q5 q6 q7
  go_enter Try.func6, Try.ntmps6
  go_upto_region 1 with fail
  generalize w.alloc (.cells #[.int .i64 t, .int .i64 s, .int .i64 l, .int .i64 b, .slice A n c] 52) = W0 at *
  have y0 : W0.cell? ⟨w.heap.size, 0, none⟩ = some (.int .i64 t) := B0.out.cell 0
  have y1 : W0.cell? ⟨w.heap.size, 1, none⟩ = some (.int .i64 s) := B0.out.cell 1
  have y2 : W0.cell? ⟨w.heap.size, 2, none⟩ = some (.int .i64 l) := B0.out.cell 2
  have y3 : W0.cell? ⟨w.heap.size, 3, none⟩ = some (.int .i64 b) := B0.out.cell 3
  have y4 : W0.cell? ⟨w.heap.size, 4, none⟩ = some (.slice A n c) := B0.out.cell 4
  go_wp2_with fail
  refine HL.out.mono ?_
  rintro e w1 ⟨gl, gm, dv, pv, g, R, rv, rfl, bl, gr⟩
  have BL := Lib.hid bl
  have GR := Lib.hid gr
  have X1 := Lib.hid (X0.out.trans gr.mem.lt.1)
  have B1 := Lib.hid (B0.out.ext gr.mem.lt.1)
  have HLi := Lib.hid (freeList_ok gr.mem HOk.out bl HF22.out s HF1.out (by omega))
  have HRi := Lib.hid (fun W (x : Ext w1 W) => refList_ok (gr.ref.ext x) gr.sound HC.out HOk.out (fun a => gr.mem.peekU a))
  generalize freeList (layF t s l b) s (groundSt t s l b ys) = r at *
  obtain ⟨out, q⟩ := r
  clear bl gr y0 y1 y2 y3 y4 HL B0 X0 BL GR
  have hqq : (q != q) = false := by cases q <;> rfl
  go_wp2_with fail
  refine HLi.out.mono ?_
  rintro e w2 ⟨va, rfl, ra, x2⟩
  obtain ⟨Aa, ca, rfl, ia, hbig⟩ := row_at ra
  have IA := Lib.hid ia
  have B2 := Lib.hid (B1.out.ext x2)
  have X2 := Lib.hid (X1.out.trans x2)
  have HRi2 := Lib.hid (HRi.out w2 x2)
  have y0 : w2.cell? ⟨w.heap.size, 0, none⟩ = some (.int .i64 t) := B2.out.cell 0
  have y1 : w2.cell? ⟨w.heap.size, 1, none⟩ = some (.int .i64 s) := B2.out.cell 1
  have y2 : w2.cell? ⟨w.heap.size, 2, none⟩ = some (.int .i64 l) := B2.out.cell 2
  have y3 : w2.cell? ⟨w.heap.size, 3, none⟩ = some (.int .i64 b) := B2.out.cell 3
  clear ra ia x2 HLi HRi B1 X1
  obtain ⟨L, hL⟩ : ∃ L, out.length = L := ⟨_, rfl⟩
  rw [hL] at hbig
  rw [hL]
  go_wp2_with fail
  refine HRi2.out.mono ?_
  rintro e w3 ⟨vb, rfl, rb, x3⟩
  obtain ⟨Ab, cb, rfl, ib, -⟩ := row_at rb
  rw [hL]
  have IB := Lib.hid ib
  have IA3 := Lib.hid (IA.out.ext x3)
  have X3 := Lib.hid (X2.out.trans x3)
  have HLn := Lib.hid hL
  have hll : ((L : Int) != (L : Int)) = false := by simp
  clear rb ib x3 HRi2 B2 X2 IA hL y0 y1 y2 y3
  go_wp2_with fail
  go_loopw [11] (fun i wr => ∃ k : Nat, k ≤ L ∧ i = .int .i64 k ∧ Ext w3 wr) (fun i _ => L - (intOf i).toNat)
  case atStart => exact ⟨0, Nat.zero_le _, rfl, Ext.refl _⟩
  case round =>
    obtain ⟨k, hk, rfl, xk⟩ := hrel
    have XK := Lib.hid xk
    clear xk
    by_cases hlt : k < L
    · have v1 : decide (k < L) = true := by simp; omega
      obtain ⟨aa, hAa, _, hca⟩ := (IA3.out.ext XK.out) (by have := HLn.out; omega)
      obtain ⟨ab, hAb, _, hcb⟩ := (IB.out.ext XK.out) (by have := HLn.out; omega)
      have p0 := hca k (by have := HLn.out; omega)
      have p1 := hcb k (by have := HLn.out; omega)
      generalize out.getD k 0 = z at *
      have hzz : (z != z) = false := by simp
      subst hAa hAb
      clear hca hcb
      go_wp2_with fail
      go_quiet (fail)
      go_wp2_with fail
      go_roundw
      case rel => exact ⟨k + 1, by omega, by go_num, by first | exact ext_drewN XK.out _ | exact XK.out⟩
      case measure => simp [intOf]; omega
    · have v1 : decide (k < L) = false := by simp; omega
      go_wp2_with fail
      refine (awake9_ok _).mono ?_
      rintro e w5 ⟨rfl, x5⟩
      have X5 := Lib.hid ((X3.out.trans XK.out).trans x5)
      clear x5
      go_wp2_with fail
      go_ret
      exact ⟨rfl, X5.out⟩
set_option maxRecDepth 100000 in
set_option maxHeartbeats 4000000 in
theorem freeLists_no (w : World) (A : Option Addr) (n c : Nat) (t s l b : Int) (h : ¬ GrOk t s l b ∨ 100 < n) (hn : n ≤ 9223372036854775807) :
    Calls Try.prog 6 #[.agg #[.int .i64 t, .int .i64 s, .int .i64 l, .int .i64 b, .slice A n c]] w fun e w' => e = .returned (.bool true) ∧ Ext w w' := by
  have X0 := Lib.hid ((Ext.refl w).alloc (.cells #[.int .i64 t, .int .i64 s, .int .i64 l, .int .i64 b, .slice A n c] 52))
  have HL := Lib.hid (fun W => lay_no W A n c t s l b h hn)
  unfold NoGr at HL
  clear h
  go_enter Try.func6, Try.ntmps6
  go_wp2_with fail
  refine (HL.out _).mono ?_
  rintro e w1 ⟨rfl, x1⟩
  have X1 := Lib.hid (X0.out.trans x1)
  clear x1
  go_wp2_with fail
  refine (awake9_ok _).mono ?_
  rintro e w2 ⟨rfl, x2⟩
  have X2 := Lib.hid (X1.out.trans x2)
  clear x2
  go_wp2_with fail
  go_ret
  exact ⟨rfl, X2.out⟩
theorem freeLists_walk (w : World) (A : Option Addr) (n c : Nat) (t s l b : Int) (ys : List Put) (hy : ys.length = n) (hn : n ≤ 9223372036854775807) (hY : PutsAt w A ys) :
    Calls Try.prog 6 #[.agg #[.int .i64 t, .int .i64 s, .int .i64 l, .int .i64 b, .slice A n c]] w fun e w' => e = .returned (.bool true) ∧ Ext w w' := by
  by_cases h : GrOk t s l b ∧ n ≤ 100
  · obtain ⟨hg, hn1⟩ := h
    obtain ⟨⟨q0, q1⟩, ⟨q2, q3⟩, ⟨q4, q5⟩, q6, q7⟩ := id hg.1
    obtain ⟨t', rfl⟩ := Int.eq_ofNat_of_zero_le (show 0 ≤ t by omega)
    obtain ⟨s', rfl⟩ := Int.eq_ofNat_of_zero_le (show 0 ≤ s by omega)
    obtain ⟨l', rfl⟩ := Int.eq_ofNat_of_zero_le (show 0 ≤ l by omega)
    obtain ⟨b', rfl⟩ := Int.eq_ofNat_of_zero_le (show 0 ≤ b by omega)
    exact freeLists_yes w A n c t' s' l' b' ys hg hy hn1 hY
  · exact freeLists_no w A n c t s l b (by
      by_cases hg : GrOk t s l b
      · exact Or.inr (by
          have : ¬ n ≤ 100 := fun h2 => h ⟨hg, h2⟩
          omega)
      · exact Or.inl hg) hn
end Go.Proofs.Ytiggailjdnenpaa
