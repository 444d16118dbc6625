/- Which results an operation may have, and the state behind it: the law answers true for every state, operation and result, and changes nothing. Conditions: none. -/
import Derived.Test.YtiggailjdnenpaaMod45
import Derived.Test.YtiggailjdnenpaaArgs
import Derived.Test.YtiggailjdnenpaaMod16
import Derived.Test.YtiggailjdnenpaaMod4
namespace Go.Proofs.Ytiggailjdnenpaa
open Go.ChangeShapes Go.WideShapes Go.ChangeAt Go.RowKit
set_option linter.unusedVariables false

theorem few_le (n0 n1 n2 : Nat) : ∃ f, (decide (n0 ≤ 100) && (decide (n1 ≤ 100) && decide (n2 ≤ 100))) = f ∧ (f = true → n0 ≤ 100 ∧ n1 ≤ 100 ∧ n2 ≤ 100) := ⟨_, rfl, fun h => by simpa using h⟩
set_option maxRecDepth 100000 in
set_option maxHeartbeats 8000000 in
theorem allowsLaw_ok (w : World) (A0 A1 A2 : Option Addr) (n0 n1 n2 c0 c1 c2 : Nat) (st : Sta) (k a b rk rv : Int) (h : StAt w A0 A1 A2 st) (hl : Lens st n0 n1 n2) (hcap : n0 ≤ c0 ∧ c0 ≤ 9223372036854775807)
    (h1 : n1 ≤ 9223372036854775807) (h2 : n2 ≤ 9223372036854775807) :
    Calls Try.prog 4 #[.agg #[.slice A0 n0 c0, .slice A1 n1 c1, .slice A2 n2 c2], .agg #[.int .i64 k, .int .u32 a, .int .u32 b], .agg #[.int .i64 rk, .int .u32 rv]] w fun e w' => e = .returned (.bool true) ∧ Ext w w' := by
  have HS := Lib.hid h
  have HLL := Lib.hid hl
  obtain ⟨fa, efa, hfa⟩ := few_le n0 n1 n2
  have FA := Lib.hid (fun W => few_ok W A0 A1 A2 n0 n1 n2 c0 c1 c2 (Nat.le_trans hcap.1 hcap.2) h1 h2)
  rw [efa] at FA
  have GA := Lib.hid hfa
  have HCP := Lib.hid hcap
  clear h hl efa hfa h1 h2 hcap
  have l0 := ((Blk.new w 25 [.slice A0 n0 c0, .slice A1 n1 c1, .slice A2 n2 c2]).ext ((Ext.refl _).alloc (.cells #[.int .i64 k, .int .u32 a, .int .u32 b] 38))).ext ((Ext.refl _).alloc (.cells #[.int .i64 rk, .int .u32 rv] 34))
  have l1 := (Blk.new (w.alloc (.cells #[.slice A0 n0 c0, .slice A1 n1 c1, .slice A2 n2 c2] 25)) 38 [.int .i64 k, .int .u32 a, .int .u32 b]).ext ((Ext.refl _).alloc (.cells #[.int .i64 rk, .int .u32 rv] 34))
  have l2 := Blk.new ((w.alloc (.cells #[.slice A0 n0 c0, .slice A1 n1 c1, .slice A2 n2 c2] 25)).alloc (.cells #[.int .i64 k, .int .u32 a, .int .u32 b] 38)) 34 [.int .i64 rk, .int .u32 rv]
  simp only [World.size_alloc] at l1 l2
  have L0 := Lib.hid l0
  have L1 := Lib.hid l1
  have L2 := Lib.hid l2
  have X0 := Lib.hid ((((Ext.refl w).alloc (.cells #[.slice A0 n0 c0, .slice A1 n1 c1, .slice A2 n2 c2] 25)).alloc (.cells #[.int .i64 k, .int .u32 a, .int .u32 b] 38)).alloc (.cells #[.int .i64 rk, .int .u32 rv] 34))
  clear l0 l1 l2
  go_enter Try.func4, Try.ntmps4
  go_upto_region 1 with fail
  generalize (((w.alloc (.cells #[.slice A0 n0 c0, .slice A1 n1 c1, .slice A2 n2 c2] 25)).alloc (.cells #[.int .i64 k, .int .u32 a, .int .u32 b] 38)).alloc (.cells #[.int .i64 rk, .int .u32 rv] 34)) = W0 at *
  have y00 : W0.cell? ⟨w.heap.size, 0, none⟩ = some (.slice A0 n0 c0) := L0.out.cell 0
  have y01 : W0.cell? ⟨w.heap.size, 1, none⟩ = some (.slice A1 n1 c1) := L0.out.cell 1
  have y02 : W0.cell? ⟨w.heap.size, 2, none⟩ = some (.slice A2 n2 c2) := L0.out.cell 2
  have y10 : W0.cell? ⟨w.heap.size + 1, 0, none⟩ = some (.int .i64 k) := L1.out.cell 0
  have y11 : W0.cell? ⟨w.heap.size + 1, 1, none⟩ = some (.int .u32 a) := L1.out.cell 1
  have y12 : W0.cell? ⟨w.heap.size + 1, 2, none⟩ = some (.int .u32 b) := L1.out.cell 2
  have y20 : W0.cell? ⟨w.heap.size + 1 + 1, 0, none⟩ = some (.int .i64 rk) := L2.out.cell 0
  have y21 : W0.cell? ⟨w.heap.size + 1 + 1, 1, none⟩ = some (.int .u32 rv) := L2.out.cell 1
  go_wp2_with fail
  refine (FA.out _).mono ?_
  rintro e w1 ⟨rfl, x1⟩
  cases fa
  · have X1 := Lib.hid (X0.out.trans x1)
    clear x1 y00 y01 y02 y10 y11 y12 y20 y21
    go_wp2_with fail
    refine (awake_ok _).mono ?_
    rintro e w2 ⟨rfl, x2⟩
    have X2 := Lib.hid (X1.out.trans x2)
    clear x2
    go_wp2_with fail
    go_ret
    exact ⟨rfl, X2.out⟩
  obtain ⟨n0', n1', n2'⟩ := GA.out (by simp)
  have M0 := Lib.hid (L0.out.ext x1)
  have M1 := Lib.hid (L1.out.ext x1)
  have M2 := Lib.hid (L2.out.ext x1)
  have X1 := Lib.hid (X0.out.trans x1)
  have HR := Lib.hid (rRight_ok w1 A0 A1 A2 n0 n1 n2 c0 c1 c2 st (HS.out.ext X1.out) HLL.out (by omega) (by omega))
  obtain ⟨u, hu⟩ : ∃ u, upS st = u := ⟨_, rfl⟩
  rw [hu] at HR
  have HU := Lib.hid hu
  clear x1 L0 L1 L2 X0 FA GA hu y00 y01 y02 y10 y11 y12 y20 y21
  have y00 : w1.cell? ⟨w.heap.size, 0, none⟩ = some (.slice A0 n0 c0) := M0.out.cell 0
  have y01 : w1.cell? ⟨w.heap.size, 1, none⟩ = some (.slice A1 n1 c1) := M0.out.cell 1
  have y02 : w1.cell? ⟨w.heap.size, 2, none⟩ = some (.slice A2 n2 c2) := M0.out.cell 2
  have y10 : w1.cell? ⟨w.heap.size + 1, 0, none⟩ = some (.int .i64 k) := M1.out.cell 0
  have y11 : w1.cell? ⟨w.heap.size + 1, 1, none⟩ = some (.int .u32 a) := M1.out.cell 1
  have y12 : w1.cell? ⟨w.heap.size + 1, 2, none⟩ = some (.int .u32 b) := M1.out.cell 2
  have y20 : w1.cell? ⟨w.heap.size + 1 + 1, 0, none⟩ = some (.int .i64 rk) := M2.out.cell 0
  have y21 : w1.cell? ⟨w.heap.size + 1 + 1, 1, none⟩ = some (.int .u32 rv) := M2.out.cell 1
  go_wp2_with fail
  refine HR.out.mono ?_
  rintro e w2 ⟨rfl, x2⟩
  cases u
  · have X2 := Lib.hid (X1.out.trans x2)
    clear x2 y00 y01 y02 y10 y11 y12 y20 y21
    go_wp2_with fail
    refine (awake_ok _).mono ?_
    rintro e w3 ⟨rfl, x3⟩
    have X3 := Lib.hid (X2.out.trans x3)
    clear x3
    go_wp2_with fail
    go_ret
    exact ⟨rfl, X3.out⟩
  have X2 := Lib.hid (X1.out.trans x2)
  have N0 := Lib.hid (M0.out.ext x2)
  have N1 := Lib.hid (M1.out.ext x2)
  have N2 := Lib.hid (M2.out.ext x2)
  clear x2 M0 M1 M2 X1 HR y00 y01 y02 y10 y11 y12 y20 y21
  have y00 : w2.cell? ⟨w.heap.size, 0, none⟩ = some (.slice A0 n0 c0) := N0.out.cell 0
  have y01 : w2.cell? ⟨w.heap.size, 1, none⟩ = some (.slice A1 n1 c1) := N0.out.cell 1
  have y02 : w2.cell? ⟨w.heap.size, 2, none⟩ = some (.slice A2 n2 c2) := N0.out.cell 2
  have y10 : w2.cell? ⟨w.heap.size + 1, 0, none⟩ = some (.int .i64 k) := N1.out.cell 0
  have y11 : w2.cell? ⟨w.heap.size + 1, 1, none⟩ = some (.int .u32 a) := N1.out.cell 1
  have y12 : w2.cell? ⟨w.heap.size + 1, 2, none⟩ = some (.int .u32 b) := N1.out.cell 2
  have y20 : w2.cell? ⟨w.heap.size + 1 + 1, 0, none⟩ = some (.int .i64 rk) := N2.out.cell 0
  have y21 : w2.cell? ⟨w.heap.size + 1 + 1, 1, none⟩ = some (.int .u32 rv) := N2.out.cell 1
  have hup : st.m.Pairwise (fun p q => p.1 < q.1) := by
    have := HU.out
    unfold upS at this
    rw [Bool.and_eq_true] at this
    exact (upP_pw st.m).1 this.2
  have HUp := Lib.hid hup
  clear hup
  have SZ0 : Hid (Small (doS st k a b).1 101) := Lib.hid (small_do (n := 100) ⟨by rw [HLL.out.q]; exact n0', by rw [HLL.out.s]; exact n1', by rw [HLL.out.m]; exact n2'⟩ k a b)
  have HAl := Lib.hid (allows_ok w2 A0 A1 A2 n0 n1 n2 c0 c1 c2 st k a b rk rv (HS.out.ext X2.out) HLL.out (by omega) (by omega) (by omega))
  have HRa := Lib.hid (fun (W : World) (x : Ext w2 W) => rApply_ok W A0 A1 A2 n0 n1 n2 c0 c1 c2 st k a b (HS.out.ext (X2.out.trans x)) HLL.out (by omega) (by omega) (by omega) HCP.out HUp.out)
  have HA0 : Hid (allowS st k a b (rk, rv) = if (decide (1 ≤ k) && decide (k ≤ 8)) = false then (st, false) else if (rk, rv) = (doS st k a b).2 then ((doS st k a b).1, true) else (st, decide ((rk, rv) = ((5, 0) : Rs)))) := Lib.hid rfl
  generalize (doS st k a b).1 = Z at *
  generalize (doS st k a b).2 = p at *
  obtain ⟨p0, p1⟩ := p
  obtain ⟨ar, har⟩ : ∃ ar, allowS st k a b (rk, rv) = ar := ⟨_, rfl⟩
  rw [har] at HAl HA0
  clear har
  obtain ⟨sa, ok⟩ := ar
  have HK := Lib.hid (kind_ok k)
  obtain ⟨kd, hkd⟩ : ∃ x, (decide (1 ≤ k) && decide (k ≤ 8)) = x := ⟨_, rfl⟩
  rw [hkd] at HA0 HK
  obtain ⟨qw, hqw⟩ : ∃ x, decide ((rk, rv) = (p0, p1)) = x := ⟨_, rfl⟩
  obtain ⟨qf, hqf⟩ : ∃ x, decide ((rk, rv) = ((5 : Int), (0 : Int))) = x := ⟨_, rfl⟩
  have heqw := fun W => eq_res rk rv p0 p1 W
  have heqf := fun W => eq_res rk rv 5 0 W
  rw [hqw] at heqw
  rw [hqf] at heqf
  have s2 : w.heap.size + 1 + 1 < w2.heap.size := N2.out.lt
  go_wp2_with fail
  refine HAl.out.mono ?_
  rintro e w3 ⟨B0, B1, B2, d0, d1, d2, rfl, sa3, x3⟩
  have SA3 := Lib.hid sa3
  have hs3 : w.heap.size + 1 + 1 < w3.heap.size := Nat.lt_of_lt_of_le s2 x3.size
  have e3 := (Ext.refl w3).alloc (.cells #[.slice B0 sa.q.length d0, .slice B1 sa.s.length d1, .slice B2 sa.m.length d2] 25)
  have BA := Lib.hid (Blk.new w3 25 [.slice B0 sa.q.length d0, .slice B1 sa.s.length d1, .slice B2 sa.m.length d2])
  have P0 := Lib.hid (N0.out.ext x3)
  have P1 := Lib.hid (N1.out.ext x3)
  have P2 := Lib.hid (N2.out.ext x3)
  have E3 := Lib.hid (x3.trans e3)
  have E30 := Lib.hid e3
  clear x3 e3 sa3 y00 y01 y02 y10 y11 y12 y20 y21 N0 N1 N2 HAl s2
  have y00 : w3.cell? ⟨w.heap.size, 0, none⟩ = some (.slice A0 n0 c0) := P0.out.cell 0
  have y01 : w3.cell? ⟨w.heap.size, 1, none⟩ = some (.slice A1 n1 c1) := P0.out.cell 1
  have y02 : w3.cell? ⟨w.heap.size, 2, none⟩ = some (.slice A2 n2 c2) := P0.out.cell 2
  have y10 : w3.cell? ⟨w.heap.size + 1, 0, none⟩ = some (.int .i64 k) := P1.out.cell 0
  have y11 : w3.cell? ⟨w.heap.size + 1, 1, none⟩ = some (.int .u32 a) := P1.out.cell 1
  have y12 : w3.cell? ⟨w.heap.size + 1, 2, none⟩ = some (.int .u32 b) := P1.out.cell 2
  have y20 : w3.cell? ⟨w.heap.size + 1 + 1, 0, none⟩ = some (.int .i64 rk) := P2.out.cell 0
  have y21 : w3.cell? ⟨w.heap.size + 1 + 1, 1, none⟩ = some (.int .u32 rv) := P2.out.cell 1
  have t0 : ¬ w.heap.size = w3.heap.size := by omega
  have t1 : ¬ w.heap.size + 1 = w3.heap.size := by omega
  have t2 : ¬ w.heap.size + 1 + 1 = w3.heap.size := by omega
  have t4 : w.heap.size < w3.heap.size := by omega
  have t5 : w.heap.size + 1 < w3.heap.size := by omega
  go_wp2_with fail
  refine (HRa.out _ E3.out).mono ?_
  rintro e w4 ⟨C0, C1, C2, f0, f1, f2, rfl, -, sb4, x4⟩
  have SB4 := Lib.hid sb4
  have hs4 : w3.heap.size < w4.heap.size := by have := x4.size; simp at this; omega
  have e4 := ((Ext.refl w4).alloc (.cells #[.slice C0 Z.q.length f0, .slice C1 Z.s.length f1, .slice C2 Z.m.length f2] 25)).alloc (.cells #[.int .i64 p0, .int .u32 p1] 34)
  have E4 := Lib.hid (E30.out.trans (x4.trans e4))
  have Q0 := Lib.hid (P0.out.ext E4.out)
  have Q1 := Lib.hid (P1.out.ext E4.out)
  have Q2 := Lib.hid (P2.out.ext E4.out)
  have BA5 := Lib.hid (BA.out.ext (x4.trans e4))
  have BB5 := Lib.hid ((Blk.new w4 25 [.slice C0 Z.q.length f0, .slice C1 Z.s.length f1, .slice C2 Z.m.length f2]).ext ((Ext.refl _).alloc (.cells #[.int .i64 p0, .int .u32 p1] 34)))
  have BW5 := Lib.hid (Blk.new (w4.alloc (.cells #[.slice C0 Z.q.length f0, .slice C1 Z.s.length f1, .slice C2 Z.m.length f2] 25)) 34 [.int .i64 p0, .int .u32 p1])
  rw [show (w4.alloc (.cells #[.slice C0 Z.q.length f0, .slice C1 Z.s.length f1, .slice C2 Z.m.length f2] 25)).heap.size = w4.heap.size + 1 by simp] at BW5
  have SA5 := Lib.hid (SA3.out.ext E4.out)
  have SB5 := Lib.hid (sb4.ext e4)
  have X5 := Lib.hid ((X2.out.trans E3.out).trans (x4.trans e4))
  clear x4 e4 sb4 y00 y01 y02 y10 y11 y12 y20 y21 t0 t1 t2 t4 t5 P0 P1 P2 BA HRa SA3 SB4 E3 E30
  go_upto_region 5 with fail
  generalize (w4.alloc (.cells #[.slice C0 Z.q.length f0, .slice C1 Z.s.length f1, .slice C2 Z.m.length f2] 25)).alloc (.cells #[.int .i64 p0, .int .u32 p1] 34) = w5 at *
  have HSame : Hid (∀ W, Ext w5 W → (Calls Try.prog 20 #[.agg #[.slice B0 sa.q.length d0, .slice B1 sa.s.length d1, .slice B2 sa.m.length d2], .agg #[.slice C0 Z.q.length f0, .slice C1 Z.s.length f1, .slice C2 Z.m.length f2]] W fun e w' => e = .returned (.bool (decide (sa = Z))) ∧ Ext W w') ∧ (Calls Try.prog 20 #[.agg #[.slice B0 sa.q.length d0, .slice B1 sa.s.length d1, .slice B2 sa.m.length d2], .agg #[.slice A0 n0 c0, .slice A1 n1 c1, .slice A2 n2 c2]] W fun e w' => e = .returned (.bool (decide (sa = st))) ∧ Ext W w')) := Lib.hid (fun W x => by
    have hsz : Small sa 1000 := by
      have := HA0.out
      have hz := SZ0.out
      have hst : Small st 1000 := ⟨by rw [HLL.out.q]; omega, by rw [HLL.out.s]; omega, by rw [HLL.out.m]; omega⟩
      split at this
      · injection this with e1 e2
        rw [e1]; exact hst
      · split at this
        · injection this with e1 e2
          rw [e1]; exact hz.mono (by omega)
        · injection this with e1 e2
          rw [e1]; exact hst
    have hz := SZ0.out
    exact ⟨same8_ok W B0 B1 B2 C0 C1 C2 _ _ _ d0 d1 d2 _ _ _ f0 f1 f2 sa Z (SA5.out.ext x) (SB5.out.ext x) ⟨rfl, rfl, rfl⟩ ⟨rfl, rfl, rfl⟩ (by have := hsz.q; omega) (by have := hsz.s; omega) (by have := hsz.m; omega) (by have := hz.q; omega) (by have := hz.s; omega) (by have := hz.m; omega),
      same8_ok W B0 B1 B2 A0 A1 A2 _ _ _ d0 d1 d2 n0 n1 n2 c0 c1 c2 sa st (SA5.out.ext x) (HS.out.ext (X5.out.trans x)) ⟨rfl, rfl, rfl⟩ HLL.out (by have := hsz.q; omega) (by have := hsz.s; omega) (by have := hsz.m; omega) (by omega) (by omega) (by omega)⟩)
  have y00 : w5.cell? ⟨w.heap.size, 0, none⟩ = some (.slice A0 n0 c0) := Q0.out.cell 0
  have y01 : w5.cell? ⟨w.heap.size, 1, none⟩ = some (.slice A1 n1 c1) := Q0.out.cell 1
  have y02 : w5.cell? ⟨w.heap.size, 2, none⟩ = some (.slice A2 n2 c2) := Q0.out.cell 2
  have y10 : w5.cell? ⟨w.heap.size + 1, 0, none⟩ = some (.int .i64 k) := Q1.out.cell 0
  have y11 : w5.cell? ⟨w.heap.size + 1, 1, none⟩ = some (.int .u32 a) := Q1.out.cell 1
  have y12 : w5.cell? ⟨w.heap.size + 1, 2, none⟩ = some (.int .u32 b) := Q1.out.cell 2
  have y20 : w5.cell? ⟨w.heap.size + 1 + 1, 0, none⟩ = some (.int .i64 rk) := Q2.out.cell 0
  have y21 : w5.cell? ⟨w.heap.size + 1 + 1, 1, none⟩ = some (.int .u32 rv) := Q2.out.cell 1
  have g0 : w5.cell? ⟨w4.heap.size + 1, 0, none⟩ = some (.int .i64 p0) := BW5.out.cell 0
  have g1 : w5.cell? ⟨w4.heap.size + 1, 1, none⟩ = some (.int .u32 p1) := BW5.out.cell 1
  cases kd
  · obtain ⟨rfl, rfl⟩ : sa = st ∧ ok = false := by
      have := HA0.out
      rw [if_pos rfl] at this
      injection this with e1 e2
      exact ⟨e1, e2⟩
    by_cases h1 : 1 ≤ k
    · have h8 : decide (k ≤ 8) = false := by
        rw [show decide (1 ≤ k) = true by simpa using h1] at hkd
        simpa using hkd
      have dk1 : decide (1 ≤ k) = true := by simpa using h1
      clear hkd h1
      go_wp2_with fail
      refine (awake_ok _).mono ?_
      rintro e w6 ⟨rfl, x6⟩
      have X6 := Lib.hid x6
      have XX6 := Lib.hid (X5.out.trans x6)
      have HSm := (HSame.out w6 x6).2
      first
        | rw [show decide (sa = sa) = true by simp] at HSm
        | simp only [decide_true] at HSm
      have HSM := Lib.hid HSm
      clear HSm x6 y00 y01 y02 y10 y11 y12 y20 y21 g0 g1
      have a0 : w6.cell? ⟨w3.heap.size, 0, none⟩ = some (.slice B0 sa.q.length d0) := (BA5.out.ext X6.out).cell 0
      have a1 : w6.cell? ⟨w3.heap.size, 1, none⟩ = some (.slice B1 sa.s.length d1) := (BA5.out.ext X6.out).cell 1
      have a2 : w6.cell? ⟨w3.heap.size, 2, none⟩ = some (.slice B2 sa.m.length d2) := (BA5.out.ext X6.out).cell 2
      have y00 : w6.cell? ⟨w.heap.size, 0, none⟩ = some (.slice A0 n0 c0) := (Q0.out.ext X6.out).cell 0
      have y01 : w6.cell? ⟨w.heap.size, 1, none⟩ = some (.slice A1 n1 c1) := (Q0.out.ext X6.out).cell 1
      have y02 : w6.cell? ⟨w.heap.size, 2, none⟩ = some (.slice A2 n2 c2) := (Q0.out.ext X6.out).cell 2
      have y10 : w6.cell? ⟨w.heap.size + 1, 0, none⟩ = some (.int .i64 k) := (Q1.out.ext X6.out).cell 0
      have y11 : w6.cell? ⟨w.heap.size + 1, 1, none⟩ = some (.int .u32 a) := (Q1.out.ext X6.out).cell 1
      have y12 : w6.cell? ⟨w.heap.size + 1, 2, none⟩ = some (.int .u32 b) := (Q1.out.ext X6.out).cell 2
      have y20 : w6.cell? ⟨w.heap.size + 1 + 1, 0, none⟩ = some (.int .i64 rk) := (Q2.out.ext X6.out).cell 0
      have y21 : w6.cell? ⟨w.heap.size + 1 + 1, 1, none⟩ = some (.int .u32 rv) := (Q2.out.ext X6.out).cell 1
      go_wp2_with fail
      refine HSM.out.mono ?_
      rintro e w7 ⟨rfl, x7⟩
      have XX7 := Lib.hid (XX6.out.trans x7)
      have EX7 := Lib.hid (X6.out.trans x7)
      clear x7 HSM
      have y10 : w7.cell? ⟨w.heap.size + 1, 0, none⟩ = some (.int .i64 k) := (Q1.out.ext EX7.out).cell 0
      go_wp2_with fail
      refine (HK.out _).mono ?_
      rintro e w' ⟨rfl, rfl⟩
      go_wp2_with fail
      go_ret
      exact ⟨by first | rfl | simp, XX7.out⟩
    · have dk1 : decide (1 ≤ k) = false := by simpa using h1
      clear hkd h1
      go_wp2_with fail
      refine (awake_ok _).mono ?_
      rintro e w6 ⟨rfl, x6⟩
      have X6 := Lib.hid x6
      have XX6 := Lib.hid (X5.out.trans x6)
      have HSm := (HSame.out w6 x6).2
      first
        | rw [show decide (sa = sa) = true by simp] at HSm
        | simp only [decide_true] at HSm
      have HSM := Lib.hid HSm
      clear HSm x6 y00 y01 y02 y10 y11 y12 y20 y21 g0 g1
      have a0 : w6.cell? ⟨w3.heap.size, 0, none⟩ = some (.slice B0 sa.q.length d0) := (BA5.out.ext X6.out).cell 0
      have a1 : w6.cell? ⟨w3.heap.size, 1, none⟩ = some (.slice B1 sa.s.length d1) := (BA5.out.ext X6.out).cell 1
      have a2 : w6.cell? ⟨w3.heap.size, 2, none⟩ = some (.slice B2 sa.m.length d2) := (BA5.out.ext X6.out).cell 2
      have y00 : w6.cell? ⟨w.heap.size, 0, none⟩ = some (.slice A0 n0 c0) := (Q0.out.ext X6.out).cell 0
      have y01 : w6.cell? ⟨w.heap.size, 1, none⟩ = some (.slice A1 n1 c1) := (Q0.out.ext X6.out).cell 1
      have y02 : w6.cell? ⟨w.heap.size, 2, none⟩ = some (.slice A2 n2 c2) := (Q0.out.ext X6.out).cell 2
      have y10 : w6.cell? ⟨w.heap.size + 1, 0, none⟩ = some (.int .i64 k) := (Q1.out.ext X6.out).cell 0
      have y11 : w6.cell? ⟨w.heap.size + 1, 1, none⟩ = some (.int .u32 a) := (Q1.out.ext X6.out).cell 1
      have y12 : w6.cell? ⟨w.heap.size + 1, 2, none⟩ = some (.int .u32 b) := (Q1.out.ext X6.out).cell 2
      have y20 : w6.cell? ⟨w.heap.size + 1 + 1, 0, none⟩ = some (.int .i64 rk) := (Q2.out.ext X6.out).cell 0
      have y21 : w6.cell? ⟨w.heap.size + 1 + 1, 1, none⟩ = some (.int .u32 rv) := (Q2.out.ext X6.out).cell 1
      go_wp2_with fail
      refine HSM.out.mono ?_
      rintro e w7 ⟨rfl, x7⟩
      have XX7 := Lib.hid (XX6.out.trans x7)
      have EX7 := Lib.hid (X6.out.trans x7)
      clear x7 HSM
      have y10 : w7.cell? ⟨w.heap.size + 1, 0, none⟩ = some (.int .i64 k) := (Q1.out.ext EX7.out).cell 0
      go_wp2_with fail
      refine (HK.out _).mono ?_
      rintro e w' ⟨rfl, rfl⟩
      go_wp2_with fail
      go_ret
      exact ⟨by first | rfl | simp, XX7.out⟩
  · have dk1 : decide (1 ≤ k) = true := by
      rw [Bool.and_eq_true] at hkd
      exact hkd.1
    have dk8 : decide (k ≤ 8) = true := by
      rw [Bool.and_eq_true] at hkd
      exact hkd.2
    clear hkd
    cases qw
    · obtain ⟨rfl, rfl⟩ : sa = st ∧ ok = qf := by
        have := HA0.out
        rw [if_neg (by simp), if_neg (of_decide_eq_false hqw)] at this
        injection this with e1 e2
        exact ⟨e1, e2.trans hqf⟩
      go_wp2_with fail
      refine (awake_ok _).mono ?_
      rintro e w6 ⟨rfl, x6⟩
      have X6 := Lib.hid x6
      have XX6 := Lib.hid (X5.out.trans x6)
      have HSm := (HSame.out w6 x6).2
      first
        | rw [show decide (sa = sa) = true by simp] at HSm
        | simp only [decide_true] at HSm
      have HSM := Lib.hid HSm
      clear HSm x6 y00 y01 y02 y10 y11 y12 y20 y21 g0 g1
      have a0 : w6.cell? ⟨w3.heap.size, 0, none⟩ = some (.slice B0 sa.q.length d0) := (BA5.out.ext X6.out).cell 0
      have a1 : w6.cell? ⟨w3.heap.size, 1, none⟩ = some (.slice B1 sa.s.length d1) := (BA5.out.ext X6.out).cell 1
      have a2 : w6.cell? ⟨w3.heap.size, 2, none⟩ = some (.slice B2 sa.m.length d2) := (BA5.out.ext X6.out).cell 2
      have y00 : w6.cell? ⟨w.heap.size, 0, none⟩ = some (.slice A0 n0 c0) := (Q0.out.ext X6.out).cell 0
      have y01 : w6.cell? ⟨w.heap.size, 1, none⟩ = some (.slice A1 n1 c1) := (Q0.out.ext X6.out).cell 1
      have y02 : w6.cell? ⟨w.heap.size, 2, none⟩ = some (.slice A2 n2 c2) := (Q0.out.ext X6.out).cell 2
      have y10 : w6.cell? ⟨w.heap.size + 1, 0, none⟩ = some (.int .i64 k) := (Q1.out.ext X6.out).cell 0
      have y11 : w6.cell? ⟨w.heap.size + 1, 1, none⟩ = some (.int .u32 a) := (Q1.out.ext X6.out).cell 1
      have y12 : w6.cell? ⟨w.heap.size + 1, 2, none⟩ = some (.int .u32 b) := (Q1.out.ext X6.out).cell 2
      have y20 : w6.cell? ⟨w.heap.size + 1 + 1, 0, none⟩ = some (.int .i64 rk) := (Q2.out.ext X6.out).cell 0
      have y21 : w6.cell? ⟨w.heap.size + 1 + 1, 1, none⟩ = some (.int .u32 rv) := (Q2.out.ext X6.out).cell 1
      go_wp2_with fail
      refine HSM.out.mono ?_
      rintro e w7 ⟨rfl, x7⟩
      have XX7 := Lib.hid (XX6.out.trans x7)
      have EX7 := Lib.hid (X6.out.trans x7)
      clear x7 HSM
      have y10 : w7.cell? ⟨w.heap.size + 1, 0, none⟩ = some (.int .i64 k) := (Q1.out.ext EX7.out).cell 0
      go_wp2_with fail
      refine (HK.out _).mono ?_
      rintro e w' ⟨rfl, rfl⟩
      go_wp2_with fail
      go_ret
      exact ⟨by first | rfl | simp, XX7.out⟩
    · obtain ⟨rfl, rfl⟩ : sa = Z ∧ ok = true := by
        have := HA0.out
        rw [if_neg (by simp), if_pos (of_decide_eq_true hqw)] at this
        injection this with e1 e2
        exact ⟨e1, e2⟩
      go_wp2_with fail
      refine (awake_ok _).mono ?_
      rintro e w6 ⟨rfl, x6⟩
      have X6 := Lib.hid x6
      have XX6 := Lib.hid (X5.out.trans x6)
      have HSm := (HSame.out w6 x6).1
      first
        | rw [show decide (sa = sa) = true by simp] at HSm
        | simp only [decide_true] at HSm
      have HSM := Lib.hid HSm
      clear HSm x6 y00 y01 y02 y10 y11 y12 y20 y21 g0 g1
      have a0 : w6.cell? ⟨w3.heap.size, 0, none⟩ = some (.slice B0 sa.q.length d0) := (BA5.out.ext X6.out).cell 0
      have a1 : w6.cell? ⟨w3.heap.size, 1, none⟩ = some (.slice B1 sa.s.length d1) := (BA5.out.ext X6.out).cell 1
      have a2 : w6.cell? ⟨w3.heap.size, 2, none⟩ = some (.slice B2 sa.m.length d2) := (BA5.out.ext X6.out).cell 2
      have b0 : w6.cell? ⟨w4.heap.size, 0, none⟩ = some (.slice C0 sa.q.length f0) := (BB5.out.ext X6.out).cell 0
      have b1 : w6.cell? ⟨w4.heap.size, 1, none⟩ = some (.slice C1 sa.s.length f1) := (BB5.out.ext X6.out).cell 1
      have b2 : w6.cell? ⟨w4.heap.size, 2, none⟩ = some (.slice C2 sa.m.length f2) := (BB5.out.ext X6.out).cell 2
      go_wp2_with fail
      refine HSM.out.mono ?_
      rintro e w7 ⟨rfl, x7⟩
      have XX7 := Lib.hid (XX6.out.trans x7)
      have EX7 := Lib.hid (X6.out.trans x7)
      clear x7 HSM
      go_wp2_with fail
      go_ret
      exact ⟨rfl, XX7.out⟩

namespace modelAllows
set_option maxRecDepth 100000 in
theorem lifted (os : Os) (started : os.Started) (H : Type) (enc : TypeId × Value → H) :
    ReturnsInHanded {} Try.checked os 4 .any (Rows.modelAllowsSpec.pre6 enc Try.prog Try.f4 Rows.modelAllowsRow.domain false) (Rows.modelAllowsSpec.post enc Try.prog Try.f4 false true false false) := by
  refine returnsInHanded_of_change (C := Try.checked) own started (by kernel_rfl) Try.func4
    (ChangeSpec.witness6 (enc := enc) (C := Try.checked) false ⟨#[], #[.agg #[.slice none 0 0, .slice none 0 0, .slice none 0 0], .agg #[.int .i64 0, .int .u32 0, .int .u32 0], .agg #[.int .i64 0, .int .u32 0]], []⟩ 8 (by kernel_rfl) (by kernel_rfl) (by kernel_rfl) (by kernel_rfl)) ?_
  intro W base args ds gs before hval0 hW hcnd _
  have hval : ∀ (j : Nat) t v, Try.f4.params[j]? = some t → args[j]? = some v → Value.okWide Try.prog W .any base t v := hval0
  have hW' := hW
  obtain ⟨p, q, hA0, hV, rfl, hfz, hnd⟩ := hW
  have hA : DataW.TrodAll enc Try.prog W 0 (fun _ => true) true Try.f4.params.toList args.toList ds p := hA0
  have hlt : ∀ x ∈ p ++ q, x.block < W.heap.size := fun x hx => hW'.lt x hx
  rw [Try.params4] at hA hval
  have hB := hA
  obtain ⟨v0, vs0, d0, ds0, p0, q0, hargs, rfl, rfl, h0, r0⟩ := trodAll_cons hB
  obtain ⟨v1, vs1, d1, ds1, p1, q1, rfl, rfl, rfl, h1, r1⟩ := trodAll_cons r0
  obtain ⟨v2, vs2, d2, ds2, p2, q2, rfl, rfl, rfl, h2, r2⟩ := trodAll_cons r1
  obtain ⟨rfl, rfl, rfl⟩ := trodAll_nil r2
  obtain rfl : args = #[v0, v1, v2] := by cases args; simp_all
  obtain ⟨rfl, rfl⟩ := trodVars_none hV
  obtain ⟨x0A, x0B, x0C, x0a, x0b, x0c, s0, rfl, I0, l0, m0⟩ := view_state Try.underlying25 (by kernel_rfl) (by kernel_rfl) Try.underlying22 Try.underlying22 Try.underlying23 Try.underlying32 (by kernel_rfl) Try.underlying107 (by kernel_rfl) (by kernel_rfl) Try.underlying32 Try.underlying32 (hval 0 25 v0 rfl rfl) h0
  obtain ⟨x1k, x1a, x1b, rfl⟩ := view_op Try.underlying38 (by kernel_rfl) (by kernel_rfl) Try.underlying3 Try.underlying32 Try.underlying32 (hval 1 38 v1 rfl rfl) h1
  obtain ⟨x2k, x2a, rfl⟩ := view_res Try.underlying34 (by kernel_rfl) (by kernel_rfl) Try.underlying3 Try.underlying32 (hval 2 34 v2 rfl rfl) h2
  clear hA0 hval0
  refine (allowsLaw_ok W x0A x0B x0C _ _ _ x0a x0b x0c s0 x1k x1a x1b x2k x2a I0 ⟨rfl, rfl, rfl⟩ ⟨l0.1, m0.1⟩ (Nat.le_trans l0.2.1 m0.2.1) (Nat.le_trans l0.2.2 m0.2.2)).mono fun e W' ⟨he, hx⟩ => ?_
  subst he
  exact ⟨_, rfl, post_ext (pv := []) hW' (fun _ _ _ => (trodAll_cons_mk (shut_bool Try.underlying4 _) trodAll_mk0)) (fun sp hsp => trodAll_stays laid hx _ _ _ _ (readable_of (by kernel_rfl)) hA (fun x hx => hlt x (by first | (simp at hx ⊢; exact hx) | simp at hx)) (fun x hx => hsp x (by first | (simp at hx ⊢; exact hx) | simp at hx))) (fun _ _ => rfl) rfl hx (ok_one (by kernel_rfl) rfl (okWide_bool_mk Try.underlying4 _))⟩

theorem over : Rows.modelAllowsRow.holds Try.pinned (OpenSpec.ofChange Rows.modelAllowsSpec) :=
  OpenClaim.holds_of_wide 4 Try.f4 rfl rfl rfl rfl rfl rfl rfl ⟨rfl, rfl, rfl, rfl, rfl⟩ rfl rfl rfl rfl rfl (by kernel_rfl) Try.func4 (by kernel_rfl)
    (of_decide_eq_true (by kernel_rfl)) (by unfold Func.isWrapper; first | (rw [if_pos (by decide +kernel)]; kernel_rfl) | (rw [if_neg (by decide +kernel)]; exact ⟨rfl, rfl⟩))
    (fun os started H enc _ => lifted os started H enc)
end modelAllows

theorem modelAllows_holds : Rows.ModelAllowsSaid := modelAllows.over
#print axioms modelAllows_holds
end Go.Proofs.Ytiggailjdnenpaa
