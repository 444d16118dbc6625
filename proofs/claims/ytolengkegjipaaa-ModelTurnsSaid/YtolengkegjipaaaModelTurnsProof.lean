/- Operations on unlike parts, and on unlike keys, may be done in either order, and who looks changes nothing: the law answers true for every state and two operations, and changes nothing. Conditions: none. -/
import Derived.Test.YtolengkegjipaaaMod35
import Derived.Test.YtolengkegjipaaaArgs
import Derived.Deep.RegionHeld3
import Derived.Lib.QuietBelow
import Derived.Test.YtolengkegjipaaaMod16
import Derived.Test.YtolengkegjipaaaMod4
namespace Go.Proofs.Ytolengkegjipaaa
open Go.ChangeShapes Go.WideShapes Go.ChangeAt Go.RowKit
set_option linter.unusedVariables false

open Go.Sort
theorem grown_ext8 (w : World) (d : Nat) (os : Array Obj) : Ext w (grow (redrawn w d) os) := Ext.of (below_regrown w d os)
theorem few_let (n0 n1 n2 : Nat) : ∃ f, (decide (n0 ≤ 100) && (decide (n1 ≤ 100) && decide (n2 ≤ 100))) = f ∧ (f = true → n0 ≤ 100 ∧ n1 ≤ 100 ∧ n2 ≤ 100) := ⟨_, rfl, fun h => by simpa using h⟩
/-- What Run of two operations leaves. -/
def Run2 (w : World) (X : Sta) (p q : Rs) (e : Ending) (w' : World) : Prop := ∃ (B0 B1 B2 : Option Addr) (g d0 d1 d2 d : Nat), e = .returned (.tuple #[.agg #[.slice B0 X.q.length d0, .slice B1 X.s.length d1, .slice B2 X.m.length d2], .slice (some ⟨g, 0, none⟩) 2 d]) ∧ StAt w' B0 B1 B2 X ∧ (w'.cell? ⟨g, 0, none⟩ = some (.int .i64 p.1) ∧ w'.cell? ⟨g, 1, none⟩ = some (.int .u32 p.2) ∧ w'.cell? ⟨g, 2, none⟩ = some (.int .i64 q.1) ∧ w'.cell? ⟨g, 3, none⟩ = some (.int .u32 q.2)) ∧ g < w'.heap.size ∧ Ext w w'
theorem run2_ok (w : World) (A0 A1 A2 : Option Addr) (n0 n1 n2 c0 c1 c2 g : Nat) (st : Sta) (ka a b kb a' b' : Int) (h : StAt w A0 A1 A2 st) (hl : Lens st n0 n1 n2) (m0 : n0 ≤ 1000) (m1 : n1 ≤ 1000) (m2 : n2 ≤ 1000)
    (hb : Blk w g 38 [.int .i64 ka, .int .u32 a, .int .u32 b, .int .i64 kb, .int .u32 a', .int .u32 b']) :
    Calls Try.prog 9 #[.agg #[.slice A0 n0 c0, .slice A1 n1 c1, .slice A2 n2 c2], .slice (some ⟨g, 0, none⟩) 2 2] w (Run2 w (doS (doS st ka a b).1 kb a' b').1 (doS st ka a b).2 (doS (doS st ka a b).1 kb a' b').2) := by
  refine (run_ok w A0 A1 A2 (some ⟨g, 0, none⟩) n0 n1 n2 c0 c1 c2 2 2 st [(ka, a, b), (kb, a', b')] h hl m0 m1 m2 rfl (by omega) ?_).mono ?_
  · intro _
    refine ⟨_, rfl, hb.lt, fun i hi => ?_⟩
    have hi' : i < 2 := hi
    match i, hi' with
    | 0, _ => exact ⟨hb.cell 0, hb.cell 1, hb.cell 2⟩
    | 1, _ => exact ⟨hb.cell 3, hb.cell 4, hb.cell 5⟩
  · rintro e w' ⟨B0, B1, B2, R, d0, d1, d2, d, he, hs, hr, hx⟩
    have hr' : RAt w' R [(doS st ka a b).2, (doS (doS st ka a b).1 kb a' b').2] := hr
    obtain ⟨g', rfl, hg, hc⟩ := hr' (by simp)
    obtain ⟨k0, k1⟩ := hc 0 (by simp)
    obtain ⟨k2, k3⟩ := hc 1 (by simp)
    exact ⟨B0, B1, B2, g', d0, d1, d2, d, he, hs, ⟨k0, k1, k2, k3⟩, hg, hx⟩
set_option maxRecDepth 100000 in
set_option maxHeartbeats 16000000 in
theorem turns_ok (w : World) (A0 A1 A2 : Option Addr) (n0 n1 n2 c0 c1 c2 : Nat) (st : Sta) (ka a b kb a' b' : Int) (h : StAt w A0 A1 A2 st) (hl : Lens st n0 n1 n2)
    (h0 : n0 ≤ 9223372036854775807) (h1 : n1 ≤ 9223372036854775807) (h2 : n2 ≤ 9223372036854775807) :
    Calls Try.prog 4 #[.agg #[.slice A0 n0 c0, .slice A1 n1 c1, .slice A2 n2 c2], .agg #[.int .i64 ka, .int .u32 a, .int .u32 b], .agg #[.int .i64 kb, .int .u32 a', .int .u32 b']] w fun e w' => e = .returned (.bool true) ∧ Ext w w' := by
  have HS := Lib.hid h
  have HLL := Lib.hid hl
  obtain ⟨fa, efa, hfa⟩ := few_let n0 n1 n2
  have FA := Lib.hid (fun W => few_ok W A0 A1 A2 n0 n1 n2 c0 c1 c2 h0 h1 h2)
  rw [efa] at FA
  have GA := Lib.hid hfa
  clear h hl efa hfa h0 h1 h2
  have l0 := ((Blk.new w 25 [.slice A0 n0 c0, .slice A1 n1 c1, .slice A2 n2 c2]).ext ((Ext.refl _).alloc (.cells #[.int .i64 ka, .int .u32 a, .int .u32 b] 38))).ext ((Ext.refl _).alloc (.cells #[.int .i64 kb, .int .u32 a', .int .u32 b'] 38))
  have l1 := (Blk.new (w.alloc (.cells #[.slice A0 n0 c0, .slice A1 n1 c1, .slice A2 n2 c2] 25)) 38 [.int .i64 ka, .int .u32 a, .int .u32 b]).ext ((Ext.refl _).alloc (.cells #[.int .i64 kb, .int .u32 a', .int .u32 b'] 38))
  have l2 := Blk.new ((w.alloc (.cells #[.slice A0 n0 c0, .slice A1 n1 c1, .slice A2 n2 c2] 25)).alloc (.cells #[.int .i64 ka, .int .u32 a, .int .u32 b] 38)) 38 [.int .i64 kb, .int .u32 a', .int .u32 b']
  simp only [World.size_alloc] at l1 l2
  have L0 := Lib.hid l0
  have L1 := Lib.hid l1
  have L2 := Lib.hid l2
  have X0 := Lib.hid ((((Ext.refl w).alloc (.cells #[.slice A0 n0 c0, .slice A1 n1 c1, .slice A2 n2 c2] 25)).alloc (.cells #[.int .i64 ka, .int .u32 a, .int .u32 b] 38)).alloc (.cells #[.int .i64 kb, .int .u32 a', .int .u32 b'] 38))
  clear l0 l1 l2
  go_enter Try.func4, Try.ntmps4
  go_wp2_with fail
  refine (FA.out _).mono ?_
  rintro e w1 ⟨rfl, x1⟩
  cases fa
  · have X1 := Lib.hid (X0.out.trans x1)
    clear x1
    go_wp2_with fail
    refine (awake_ok _).mono ?_
    rintro e w2 ⟨rfl, x2⟩
    have X2 := Lib.hid (X1.out.trans x2)
    clear x2
    go_wp2_with fail
    go_ret
    exact ⟨rfl, X2.out⟩
  obtain ⟨n0', n1', n2'⟩ := GA.out (by simp)
  have M0 := Lib.hid (L0.out.ext x1)
  have M1 := Lib.hid (L1.out.ext x1)
  have M2 := Lib.hid (L2.out.ext x1)
  have X1 := Lib.hid (X0.out.trans x1)
  have y0 : w1.cell? ⟨w.heap.size, 0, none⟩ = some (.slice A0 n0 c0) := M0.out.cell 0
  have y1 : w1.cell? ⟨w.heap.size, 1, none⟩ = some (.slice A1 n1 c1) := M0.out.cell 1
  have y2 : w1.cell? ⟨w.heap.size, 2, none⟩ = some (.slice A2 n2 c2) := M0.out.cell 2
  have HR := Lib.hid (rRight_ok w1 A0 A1 A2 n0 n1 n2 c0 c1 c2 st (HS.out.ext X1.out) HLL.out (by omega) (by omega))
  obtain ⟨u, hu⟩ : ∃ u, upS st = u := ⟨_, rfl⟩
  rw [hu] at HR
  have HU := Lib.hid hu
  clear x1 L0 L1 L2 X0 FA GA hu
  go_wp2_with fail
  refine HR.out.mono ?_
  rintro e w2 ⟨rfl, x2⟩
  cases u
  · have X2 := Lib.hid (X1.out.trans x2)
    clear x2 y0 y1 y2
    go_wp2_with fail
    refine (awake_ok _).mono ?_
    rintro e w3 ⟨rfl, x3⟩
    have X3 := Lib.hid (X2.out.trans x3)
    clear x3
    go_wp2_with fail
    go_ret
    exact ⟨rfl, X3.out⟩
  have X2 := Lib.hid (X1.out.trans x2)
  have N0 := Lib.hid (M0.out.ext x2)
  have N1 := Lib.hid (M1.out.ext x2)
  have N2 := Lib.hid (M2.out.ext x2)
  clear x2 y0 y1 y2 M0 M1 M2 X1 HR
  have y0 : w2.cell? ⟨w.heap.size, 0, none⟩ = some (.slice A0 n0 c0) := N0.out.cell 0
  have y1 : w2.cell? ⟨w.heap.size, 1, none⟩ = some (.slice A1 n1 c1) := N0.out.cell 1
  have y2 : w2.cell? ⟨w.heap.size, 2, none⟩ = some (.slice A2 n2 c2) := N0.out.cell 2
  have y3 : w2.cell? ⟨w.heap.size + 1, 0, none⟩ = some (.int .i64 ka) := N1.out.cell 0
  have y4 : w2.cell? ⟨w.heap.size + 1, 1, none⟩ = some (.int .u32 a) := N1.out.cell 1
  have y5 : w2.cell? ⟨w.heap.size + 1, 2, none⟩ = some (.int .u32 b) := N1.out.cell 2
  have y6 : w2.cell? ⟨w.heap.size + 1 + 1, 0, none⟩ = some (.int .i64 kb) := N2.out.cell 0
  have y7 : w2.cell? ⟨w.heap.size + 1 + 1, 1, none⟩ = some (.int .u32 a') := N2.out.cell 1
  have y8 : w2.cell? ⟨w.heap.size + 1 + 1, 2, none⟩ = some (.int .u32 b') := N2.out.cell 2
  obtain ⟨X, hX⟩ : ∃ X, (doS (doS st ka a b).1 kb a' b').1 = X := ⟨_, rfl⟩
  obtain ⟨Y, hY⟩ : ∃ X, (doS (doS st kb a' b').1 ka a b).1 = X := ⟨_, rfl⟩
  obtain ⟨Z, hZ⟩ : ∃ X, (doS st ka a b).1 = X := ⟨_, rfl⟩
  obtain ⟨p0, hp0⟩ : ∃ X, (doS st ka a b).2 = X := ⟨_, rfl⟩
  obtain ⟨p1, hp1⟩ : ∃ X, (doS (doS st ka a b).1 kb a' b').2 = X := ⟨_, rfl⟩
  obtain ⟨q0, hq0⟩ : ∃ X, (doS st kb a' b').2 = X := ⟨_, rfl⟩
  obtain ⟨q1, hq1⟩ : ∃ X, (doS (doS st kb a' b').1 ka a b).2 = X := ⟨_, rfl⟩
  have HT : Hid (apartB ka a kb a' = true → X = Y ∧ p0 = q1 ∧ p1 = q0) := Lib.hid (fun hh => by
    obtain ⟨t1, t2, t3⟩ := apart_turn st ka a b kb a' b' HU.out hh
    rw [hX, hY] at t1
    rw [hp1, hq0] at t2
    rw [hq1, hp0] at t3
    exact ⟨t1, t3.symm, t2⟩)
  have HK : Hid (looksB ka = true → Z = st) := Lib.hid (fun hh => by rw [← hZ]; exact looks_do st ka a b hh)
  have SX : Hid (Small X 102) := Lib.hid (by rw [← hX]; exact small_do (small_do (n := 100) ⟨by rw [HLL.out.q]; exact n0', by rw [HLL.out.s]; exact n1', by rw [HLL.out.m]; exact n2'⟩ ka a b) kb a' b')
  have SY : Hid (Small Y 102) := Lib.hid (by rw [← hY]; exact small_do (small_do (n := 100) ⟨by rw [HLL.out.q]; exact n0', by rw [HLL.out.s]; exact n1', by rw [HLL.out.m]; exact n2'⟩ kb a' b') ka a b)
  have SZ : Hid (Small Z 101) := Lib.hid (by rw [← hZ]; exact small_do (n := 100) ⟨by rw [HLL.out.q]; exact n0', by rw [HLL.out.s]; exact n1', by rw [HLL.out.m]; exact n2'⟩ ka a b)
  have R1 : Hid (∀ (W : World) (g : Nat), Ext w W → Blk W g 38 [.int .i64 ka, .int .u32 a, .int .u32 b, .int .i64 kb, .int .u32 a', .int .u32 b'] → Calls Try.prog 9 #[.agg #[.slice A0 n0 c0, .slice A1 n1 c1, .slice A2 n2 c2], .slice (some ⟨g, 0, none⟩) 2 2] W (Run2 W X p0 p1)) := Lib.hid (fun W g x hb => by
    have := run2_ok W A0 A1 A2 n0 n1 n2 c0 c1 c2 g st ka a b kb a' b' (HS.out.ext x) HLL.out (by omega) (by omega) (by omega) hb
    rw [hX, hp0, hp1] at this
    exact this)
  have R2 : Hid (∀ (W : World) (g : Nat), Ext w W → Blk W g 38 [.int .i64 kb, .int .u32 a', .int .u32 b', .int .i64 ka, .int .u32 a, .int .u32 b] → Calls Try.prog 9 #[.agg #[.slice A0 n0 c0, .slice A1 n1 c1, .slice A2 n2 c2], .slice (some ⟨g, 0, none⟩) 2 2] W (Run2 W Y q0 q1)) := Lib.hid (fun W g x hb => by
    have := run2_ok W A0 A1 A2 n0 n1 n2 c0 c1 c2 g st kb a' b' ka a b (HS.out.ext x) HLL.out (by omega) (by omega) (by omega) hb
    rw [hY, hq0, hq1] at this
    exact this)
  have R3 : Hid (∀ (W : World), Ext w W → Calls Try.prog 10 #[.agg #[.slice A0 n0 c0, .slice A1 n1 c1, .slice A2 n2 c2], .agg #[.int .i64 ka, .int .u32 a, .int .u32 b]] W (AppPost W Z p0)) := Lib.hid (fun W x => by
    have := apply_ok W A0 A1 A2 n0 n1 n2 c0 c1 c2 st ka a b (HS.out.ext x) HLL.out (by omega) (by omega) (by omega)
    rw [hZ, hp0] at this
    exact this)
  clear hX hY hZ hp0 hp1 hq0 hq1 HU
  obtain ⟨p00, p01⟩ := p0
  obtain ⟨p10, p11⟩ := p1
  obtain ⟨q00, q01⟩ := q0
  obtain ⟨q10, q11⟩ := q1
  have s2 : w.heap.size + 1 + 1 < w2.heap.size := N2.out.lt
  go_wp2_with fail
  refine (R1.out _ w2.heap.size (X2.out.alloc _) (Blk.new w2 _ _)).mono ?_
  rintro e w3 ⟨B0, B1, B2, g1, d0, d1, d2, d, rfl, sx, ⟨k0, k1, k2, k3⟩, hg1, x3⟩
  have hs3 : w.heap.size + 1 + 1 < w3.heap.size := Nat.lt_of_lt_of_le s2 (by have := x3.size; simp at this; omega)
  have XA := Lib.hid (((Ext.refl w2).alloc (.cells #[.int .i64 ka, .int .u32 a, .int .u32 b, .int .i64 kb, .int .u32 a', .int .u32 b'] 38)).trans x3)
  have e3 := (Ext.refl w3).alloc (.cells #[.slice B0 X.q.length d0, .slice B1 X.s.length d1, .slice B2 X.m.length d2] 25)
  have KX : Hid (∀ W, Ext w3 W → W.cell? ⟨g1, 0, none⟩ = some (.int .i64 p00) ∧ W.cell? ⟨g1, 1, none⟩ = some (.int .u32 p01) ∧ W.cell? ⟨g1, 2, none⟩ = some (.int .i64 p10) ∧ W.cell? ⟨g1, 3, none⟩ = some (.int .u32 p11)) := Lib.hid (fun W x => ⟨(World.cell?_of_block (x.block g1 hg1)).trans k0, (World.cell?_of_block (x.block g1 hg1)).trans k1, (World.cell?_of_block (x.block g1 hg1)).trans k2, (World.cell?_of_block (x.block g1 hg1)).trans k3⟩)
  have SX3 := Lib.hid sx
  have X3 := Lib.hid (X2.out.trans XA.out)
  have E3 := Lib.hid e3
  have BX := Lib.hid (Blk.new w3 25 [.slice B0 X.q.length d0, .slice B1 X.s.length d1, .slice B2 X.m.length d2])
  have P0 := Lib.hid ((N0.out.ext XA.out))
  have P1 := Lib.hid ((N1.out.ext XA.out))
  have P2 := Lib.hid ((N2.out.ext XA.out))
  clear y0 y1 y2 y3 y4 y5 y6 y7 y8 N0 N1 N2 x3 e3 k0 k1 k2 k3 sx XA X2 s2
  have y0 : w3.cell? ⟨w.heap.size, 0, none⟩ = some (.slice A0 n0 c0) := P0.out.cell 0
  have y1 : w3.cell? ⟨w.heap.size, 1, none⟩ = some (.slice A1 n1 c1) := P0.out.cell 1
  have y2 : w3.cell? ⟨w.heap.size, 2, none⟩ = some (.slice A2 n2 c2) := P0.out.cell 2
  have y3 : w3.cell? ⟨w.heap.size + 1, 0, none⟩ = some (.int .i64 ka) := P1.out.cell 0
  have y4 : w3.cell? ⟨w.heap.size + 1, 1, none⟩ = some (.int .u32 a) := P1.out.cell 1
  have y5 : w3.cell? ⟨w.heap.size + 1, 2, none⟩ = some (.int .u32 b) := P1.out.cell 2
  have y6 : w3.cell? ⟨w.heap.size + 1 + 1, 0, none⟩ = some (.int .i64 kb) := P2.out.cell 0
  have y7 : w3.cell? ⟨w.heap.size + 1 + 1, 1, none⟩ = some (.int .u32 a') := P2.out.cell 1
  have y8 : w3.cell? ⟨w.heap.size + 1 + 1, 2, none⟩ = some (.int .u32 b') := P2.out.cell 2
  have t0 : ¬ w.heap.size = w3.heap.size := by omega
  have t1 : ¬ w.heap.size + 1 = w3.heap.size := by omega
  have t2 : ¬ w.heap.size + 1 + 1 = w3.heap.size := by omega
  have t4 : w.heap.size < w3.heap.size := by omega
  have t5 : w.heap.size + 1 < w3.heap.size := by omega
  go_wp2_with fail
  have hZ1 : (w3.alloc (.cells #[.slice B0 X.q.length d0, .slice B1 X.s.length d1, .slice B2 X.m.length d2] 25)).heap.size = w3.heap.size + 1 := by simp
  have R2' := R2.out _ (w3.alloc (.cells #[.slice B0 X.q.length d0, .slice B1 X.s.length d1, .slice B2 X.m.length d2] 25)).heap.size ((X3.out.trans E3.out).alloc _) (Blk.new (w3.alloc (.cells #[.slice B0 X.q.length d0, .slice B1 X.s.length d1, .slice B2 X.m.length d2] 25)) _ _)
  rw [hZ1] at R2'
  refine R2'.mono ?_
  clear R2'
  rintro e w4 ⟨C0, C1, C2, g2, f0, f1, f2, f, rfl, sy, ⟨k0, k1, k2, k3⟩, hg2, x4⟩
  have XA := Lib.hid ((E3.out.alloc (.cells #[.int .i64 kb, .int .u32 a', .int .u32 b', .int .i64 ka, .int .u32 a, .int .u32 b] 38)).trans x4)
  have hs4 : w3.heap.size + 1 < w4.heap.size := by have := x4.size; simp at this; omega
  have BX4 := Lib.hid (BX.out.ext (((Ext.refl _).alloc (.cells #[.int .i64 kb, .int .u32 a', .int .u32 b', .int .i64 ka, .int .u32 a, .int .u32 b] 38)).trans x4))
  have KY : Hid (∀ W, Ext w4 W → W.cell? ⟨g2, 0, none⟩ = some (.int .i64 q00) ∧ W.cell? ⟨g2, 1, none⟩ = some (.int .u32 q01) ∧ W.cell? ⟨g2, 2, none⟩ = some (.int .i64 q10) ∧ W.cell? ⟨g2, 3, none⟩ = some (.int .u32 q11)) := Lib.hid (fun W x => ⟨(World.cell?_of_block (x.block g2 hg2)).trans k0, (World.cell?_of_block (x.block g2 hg2)).trans k1, (World.cell?_of_block (x.block g2 hg2)).trans k2, (World.cell?_of_block (x.block g2 hg2)).trans k3⟩)
  have SY4 := Lib.hid sy
  have SX4 := Lib.hid (SX3.out.ext XA.out)
  have KX4 : Hid (∀ W, Ext w4 W → W.cell? ⟨g1, 0, none⟩ = some (.int .i64 p00) ∧ W.cell? ⟨g1, 1, none⟩ = some (.int .u32 p01) ∧ W.cell? ⟨g1, 2, none⟩ = some (.int .i64 p10) ∧ W.cell? ⟨g1, 3, none⟩ = some (.int .u32 p11)) := Lib.hid (fun W x => KX.out W (XA.out.trans x))
  have X4 := Lib.hid (X3.out.trans XA.out)
  have Q0 := Lib.hid (P0.out.ext XA.out)
  have Q1 := Lib.hid (P1.out.ext XA.out)
  have e4 := (Ext.refl w4).alloc (.cells #[.slice C0 Y.q.length f0, .slice C1 Y.s.length f1, .slice C2 Y.m.length f2] 25)
  have E4 := Lib.hid e4
  have BY := Lib.hid (Blk.new w4 25 [.slice C0 Y.q.length f0, .slice C1 Y.s.length f1, .slice C2 Y.m.length f2])
  have Q2 := Lib.hid (P2.out.ext XA.out)
  clear y0 y1 y2 y3 y4 y5 y6 y7 y8 P0 P1 P2 x4 e4 k0 k1 k2 k3 sy XA X3 t0 t1 t2 t4 t5 KX SX3 BX hZ1
  have y0 : w4.cell? ⟨w.heap.size, 0, none⟩ = some (.slice A0 n0 c0) := Q0.out.cell 0
  have y1 : w4.cell? ⟨w.heap.size, 1, none⟩ = some (.slice A1 n1 c1) := Q0.out.cell 1
  have y2 : w4.cell? ⟨w.heap.size, 2, none⟩ = some (.slice A2 n2 c2) := Q0.out.cell 2
  have y3 : w4.cell? ⟨w.heap.size + 1, 0, none⟩ = some (.int .i64 ka) := Q1.out.cell 0
  have y4 : w4.cell? ⟨w.heap.size + 1, 1, none⟩ = some (.int .u32 a) := Q1.out.cell 1
  have y5 : w4.cell? ⟨w.heap.size + 1, 2, none⟩ = some (.int .u32 b) := Q1.out.cell 2
  have t0 : ¬ w.heap.size = w4.heap.size := by omega
  have t1 : ¬ w.heap.size + 1 = w4.heap.size := by omega
  have t3 : w.heap.size + 1 < w4.heap.size := by omega
  have t4 : w.heap.size < w4.heap.size := by omega
  go_wp2_with fail
  refine (R3.out _ (X4.out.trans E4.out)).mono ?_
  rintro e w5 ⟨D0, D1, D2, h0, h1, h2, rfl, sz, x5⟩
  have XA := Lib.hid (E4.out.trans x5)
  have hs5 : w4.heap.size < w5.heap.size := by have := x5.size; simp at this; omega
  have X5 := Lib.hid (X4.out.trans XA.out)
  have e5 := ((Ext.refl w5).alloc (.cells #[.slice D0 Z.q.length h0, .slice D1 Z.s.length h1, .slice D2 Z.m.length h2] 25)).alloc (.cells #[.int .i64 p00, .int .u32 p01] 34)
  have W0' := Lib.hid ((Q0.out.ext XA.out).ext e5)
  have W1' := Lib.hid ((Q1.out.ext XA.out).ext e5)
  have W2' := Lib.hid ((Q2.out.ext XA.out).ext e5)
  have WX := Lib.hid ((BX4.out.ext XA.out).ext e5)
  have WY := Lib.hid ((BY.out.ext x5).ext e5)
  have WZ := Lib.hid ((Blk.new w5 25 [.slice D0 Z.q.length h0, .slice D1 Z.s.length h1, .slice D2 Z.m.length h2]).ext ((Ext.refl _).alloc (.cells #[.int .i64 p00, .int .u32 p01] 34)))
  have X6 := Lib.hid (X5.out.trans e5)
  have SX6 := Lib.hid ((SX4.out.ext XA.out).ext e5)
  have SY6 := Lib.hid ((SY4.out.ext XA.out).ext e5)
  have SZ6 := Lib.hid (sz.ext e5)
  have KX6 := Lib.hid (KX4.out _ (XA.out.trans e5))
  have KY6 := Lib.hid (KY.out _ (XA.out.trans e5))
  clear y0 y1 y2 y3 y4 y5 t0 t1 t3 t4 x5 e5 sz XA X5 X4 Q0 Q1 Q2 BX4 BY SX4 SY4 KX4 KY E3 E4 R1 R2 R3
  go_upto_region 6 with fail
  generalize (w5.alloc (.cells #[.slice D0 Z.q.length h0, .slice D1 Z.s.length h1, .slice D2 Z.m.length h2] 25)).alloc (.cells #[.int .i64 p00, .int .u32 p01] 34) = w6 at *
  have y3 : w6.cell? ⟨w.heap.size + 1, 0, none⟩ = some (.int .i64 ka) := W1'.out.cell 0
  have HL := Lib.hid (looks_ok ka w6)
  have HLs : Hid ((ka == 5 || ka == 7) = looksB ka) := Lib.hid rfl
  rw [HLs.out] at HL
  obtain ⟨la, hla⟩ : ∃ l, looksB ka = l := ⟨_, rfl⟩
  rw [hla] at HL HK
  have y0 : w6.cell? ⟨w.heap.size, 0, none⟩ = some (.slice A0 n0 c0) := W0'.out.cell 0
  have y1 : w6.cell? ⟨w.heap.size, 1, none⟩ = some (.slice A1 n1 c1) := W0'.out.cell 1
  have y2 : w6.cell? ⟨w.heap.size, 2, none⟩ = some (.slice A2 n2 c2) := W0'.out.cell 2
  have z0 : w6.cell? ⟨w5.heap.size, 0, none⟩ = some (.slice D0 Z.q.length h0) := WZ.out.cell 0
  have z1 : w6.cell? ⟨w5.heap.size, 1, none⟩ = some (.slice D1 Z.s.length h1) := WZ.out.cell 1
  have z2 : w6.cell? ⟨w5.heap.size, 2, none⟩ = some (.slice D2 Z.m.length h2) := WZ.out.cell 2
  have HZS : Hid (la = true → Calls Try.prog 12 #[.agg #[.slice D0 Z.q.length h0, .slice D1 Z.s.length h1, .slice D2 Z.m.length h2], .agg #[.slice A0 n0 c0, .slice A1 n1 c1, .slice A2 n2 c2]] w6 fun e w' => e = .returned (.bool true) ∧ Ext w6 w') := Lib.hid (fun hh => by
    have hz := HK.out hh
    have s := SZ.out
    have := same8_ok w6 D0 D1 D2 A0 A1 A2 Z.q.length Z.s.length Z.m.length h0 h1 h2 n0 n1 n2 c0 c1 c2 Z st SZ6.out (HS.out.ext X6.out) ⟨rfl, rfl, rfl⟩ HLL.out (by have := s.q; omega) (by have := s.s; omega) (by have := s.m; omega) (by omega) (by omega) (by omega)
    rw [show decide (Z = st) = true by simp [hz]] at this
    exact this)
  clear hla HLs
  have KX8 : Hid (∀ W, Ext w6 W → W.cell? ⟨g1, 0, none⟩ = some (.int .i64 p00) ∧ W.cell? ⟨g1, 1, none⟩ = some (.int .u32 p01) ∧ W.cell? ⟨g1, 2, none⟩ = some (.int .i64 p10) ∧ W.cell? ⟨g1, 3, none⟩ = some (.int .u32 p11)) := Lib.hid (fun W x => by
    obtain ⟨k0, k1, k2, k3⟩ := KX6.out
    have hb := block_lt_of_cell k0
    exact ⟨(World.cell?_of_block (x.block g1 hb)).trans k0, (World.cell?_of_block (x.block g1 hb)).trans k1, (World.cell?_of_block (x.block g1 hb)).trans k2, (World.cell?_of_block (x.block g1 hb)).trans k3⟩)
  have KY8 : Hid (∀ W, Ext w6 W → W.cell? ⟨g2, 0, none⟩ = some (.int .i64 q00) ∧ W.cell? ⟨g2, 1, none⟩ = some (.int .u32 q01) ∧ W.cell? ⟨g2, 2, none⟩ = some (.int .i64 q10) ∧ W.cell? ⟨g2, 3, none⟩ = some (.int .u32 q11)) := Lib.hid (fun W x => by
    obtain ⟨k0, k1, k2, k3⟩ := KY6.out
    have hb := block_lt_of_cell k0
    exact ⟨(World.cell?_of_block (x.block g2 hb)).trans k0, (World.cell?_of_block (x.block g2 hb)).trans k1, (World.cell?_of_block (x.block g2 hb)).trans k2, (World.cell?_of_block (x.block g2 hb)).trans k3⟩)
  clear KX6 KY6
  go_cut [62] (fun s62 wx => s62 = .bool false ∧ Ext w6 wx)
  case first =>
    go_wp2_with fail
    refine HL.out.mono ?_
    rintro e w7 ⟨rfl, rfl⟩
    cases la
    · go_wp2_with fail
      go_meet
      exact ⟨rfl, Ext.refl _⟩
    · go_wp2_with fail
      refine (HZS.out (by simp)).mono ?_
      rintro e w8 ⟨rfl, xt⟩
      go_wp2_with fail
      go_meet
      exact ⟨rfl, xt⟩
  case rest =>
    obtain ⟨rfl, xt⟩ := hcut
    generalize wc = w7 at *
    go_wp2_with fail
    have T0 := Lib.hid (W1'.out.ext xt)
    have T1 := Lib.hid (W2'.out.ext xt)
    have TX := Lib.hid (WX.out.ext xt)
    have TY := Lib.hid (WY.out.ext xt)
    have X7 := Lib.hid (X6.out.trans xt)
    have SX7 := Lib.hid (SX6.out.ext xt)
    have SY7 := Lib.hid (SY6.out.ext xt)
    have KX7 := KX8.out _ xt
    have KY7 := KY8.out _ xt
    clear xt y0 y1 y2 y3 z0 z1 z2 W0' W1' W2' WX WY WZ X6 SX6 SY6 SZ6 HZS HL HK KX8 KY8
    obtain ⟨ab, hab⟩ : ∃ r, apartB ka a kb a' = r := ⟨_, rfl⟩
    have HAP : Hid (∀ W, Calls Try.prog 15 #[.agg #[.int .i64 ka, .int .u32 a, .int .u32 b], .agg #[.int .i64 kb, .int .u32 a', .int .u32 b']] W fun e w' => e = .returned (.bool ab) ∧ Ext W w') := Lib.hid (fun W => by
      have := apart_ok W ka a b kb a' b'
      rw [hab] at this
      exact this)
    rw [hab] at HT
    have HAW := Lib.hid awake_ok
    have v0 := fun d os => cell_regrown (T0.out.cell 0) d os
    have v1 := fun d os => cell_regrown (T0.out.cell 1) d os
    have v2 := fun d os => cell_regrown (T0.out.cell 2) d os
    have v3 := fun d os => cell_regrown (T1.out.cell 0) d os
    have v4 := fun d os => cell_regrown (T1.out.cell 1) d os
    have v5 := fun d os => cell_regrown (T1.out.cell 2) d os
    clear hab HLL HS SZ
    cases ab
    · have r0 := fun d os => cell_regrown (TX.out.cell 0) d os
      have r1 := fun d os => cell_regrown (TX.out.cell 1) d os
      have r2 := fun d os => cell_regrown (TX.out.cell 2) d os
      have r3 := fun d os => cell_regrown (TY.out.cell 0) d os
      have r4 := fun d os => cell_regrown (TY.out.cell 1) d os
      have r5 := fun d os => cell_regrown (TY.out.cell 2) d os
      clear T0 T1 KX7 KY7 SX7 SY7 TX TY SX SY HT hg1 hg2 hs3 hs4 hs5 n0' n1' n2'
      generalize X.q.length = lx0 at *
      generalize X.s.length = lx1 at *
      generalize X.m.length = lx2 at *
      generalize Y.q.length = ly0 at *
      generalize Y.s.length = ly1 at *
      generalize Y.m.length = ly2 at *
      clear X Y
      refine wp_region_quiet_below (by kernel_rfl) (by kernel_rfl) ?_
      (quiet_step (first
        | (with_reducible exact Calls.regrown_of (HAW.out _))
        | (with_reducible exact Calls.regrown_of (HAP.out _))))
      (quiet_step (first
        | (with_reducible exact Calls.regrown_of (HAW.out _))
        | (with_reducible exact Calls.regrown_of (HAP.out _))))
      (quiet_step (first
        | (with_reducible exact Calls.regrown_of (HAW.out _))
        | (with_reducible exact Calls.regrown_of (HAP.out _))))
      (quiet_step (first
        | (with_reducible exact Calls.regrown_of (HAW.out _))
        | (with_reducible exact Calls.regrown_of (HAP.out _))))
      (quiet_step (first
        | (with_reducible exact Calls.regrown_of (HAW.out _))
        | (with_reducible exact Calls.regrown_of (HAP.out _))))
      (quiet_step (first
        | (with_reducible exact Calls.regrown_of (HAW.out _))
        | (with_reducible exact Calls.regrown_of (HAP.out _))))
      refine wpQuiet_step (fun K hK => ?_)
      go_simp
      generalize hq : Act.mk _ _ = act
      refine hK act ?_
      clear hK K
      repeat (
        refine wpQuiet_step (fun K hK => ?_)
        simp only [← hq]
        clear hq
        clear act
        go_simp
        try (rw [if_neg (fun h => by cases h)])
        generalize hq : Act.mk _ _ = act
        refine hK act ?_
        clear hK K)
      refine wpQuiet_nil ?_
      subst hq
      intro w9 hw'
      have hx2 : Ext w7 w9 := by
        obtain ⟨⟨dq, osq⟩, hw2⟩ := hw'
        rw [hw2]
        exact grown_ext8 _ _ _
      clear hw' v0 v1 v2 v3 v4 v5 r0 r1 r2 r3 r4 r5
      go_wp2_with fail
      go_ret
      exact ⟨rfl, X7.out.trans hx2⟩
    · obtain ⟨hXY, e1, e2⟩ := HT.out (by simp)
      subst hXY
      obtain ⟨h00, h01⟩ : p00 = q10 ∧ p01 = q11 := by simpa using e1
      obtain ⟨h10, h11⟩ : p10 = q00 ∧ p11 = q01 := by simpa using e2
      subst h00 h01 h10 h11
      have t1 := fun a b W => res_yes a b W
      have HP8 : Hid (∀ W, Ext w7 W → W.cell? ⟨w.heap.size + 1, 0, none⟩ = some (.int .i64 ka) ∧ W.cell? ⟨w.heap.size + 1, 1, none⟩ = some (.int .u32 a) ∧ W.cell? ⟨w.heap.size + 1, 2, none⟩ = some (.int .u32 b) ∧ W.cell? ⟨w.heap.size + 1 + 1, 0, none⟩ = some (.int .i64 kb) ∧ W.cell? ⟨w.heap.size + 1 + 1, 1, none⟩ = some (.int .u32 a') ∧ W.cell? ⟨w.heap.size + 1 + 1, 2, none⟩ = some (.int .u32 b') ∧ W.cell? ⟨w3.heap.size, 0, none⟩ = some (.slice B0 X.q.length d0) ∧ W.cell? ⟨w3.heap.size, 1, none⟩ = some (.slice B1 X.s.length d1) ∧ W.cell? ⟨w3.heap.size, 2, none⟩ = some (.slice B2 X.m.length d2) ∧ W.cell? ⟨w4.heap.size, 0, none⟩ = some (.slice C0 X.q.length f0) ∧ W.cell? ⟨w4.heap.size, 1, none⟩ = some (.slice C1 X.s.length f1) ∧ W.cell? ⟨w4.heap.size, 2, none⟩ = some (.slice C2 X.m.length f2) ∧ W.cell? ⟨g1, 0, none⟩ = some (.int .i64 p00) ∧ W.cell? ⟨g1, 1, none⟩ = some (.int .u32 p01) ∧ W.cell? ⟨g1, 2, none⟩ = some (.int .i64 p10) ∧ W.cell? ⟨g1, 3, none⟩ = some (.int .u32 p11) ∧ W.cell? ⟨g2, 0, none⟩ = some (.int .i64 p10) ∧ W.cell? ⟨g2, 1, none⟩ = some (.int .u32 p11) ∧ W.cell? ⟨g2, 2, none⟩ = some (.int .i64 p00) ∧ W.cell? ⟨g2, 3, none⟩ = some (.int .u32 p01)) := Lib.hid (fun W x => ⟨(T0.out.ext x).cell 0, (T0.out.ext x).cell 1, (T0.out.ext x).cell 2, (T1.out.ext x).cell 0, (T1.out.ext x).cell 1, (T1.out.ext x).cell 2, (TX.out.ext x).cell 0, (TX.out.ext x).cell 1, (TX.out.ext x).cell 2, (TY.out.ext x).cell 0, (TY.out.ext x).cell 1, (TY.out.ext x).cell 2, (World.cell?_of_block (x.block g1 (block_lt_of_cell KX7.1))).trans KX7.1, (World.cell?_of_block (x.block g1 (block_lt_of_cell KX7.1))).trans KX7.2.1, (World.cell?_of_block (x.block g1 (block_lt_of_cell KX7.1))).trans KX7.2.2.1, (World.cell?_of_block (x.block g1 (block_lt_of_cell KX7.1))).trans KX7.2.2.2, (World.cell?_of_block (x.block g2 (block_lt_of_cell KY7.1))).trans KY7.1, (World.cell?_of_block (x.block g2 (block_lt_of_cell KY7.1))).trans KY7.2.1, (World.cell?_of_block (x.block g2 (block_lt_of_cell KY7.1))).trans KY7.2.2.1, (World.cell?_of_block (x.block g2 (block_lt_of_cell KY7.1))).trans KY7.2.2.2⟩)
      have HSS : Hid (∀ W, Ext w7 W → Calls Try.prog 12 #[.agg #[.slice B0 X.q.length d0, .slice B1 X.s.length d1, .slice B2 X.m.length d2], .agg #[.slice C0 X.q.length f0, .slice C1 X.s.length f1, .slice C2 X.m.length f2]] W fun e w' => e = .returned (.bool true) ∧ Ext W w') := Lib.hid (fun W x => by
        have := same8_ok W B0 B1 B2 C0 C1 C2 X.q.length X.s.length X.m.length d0 d1 d2 X.q.length X.s.length X.m.length f0 f1 f2 X X (SX7.out.ext x) (SY7.out.ext x) ⟨rfl, rfl, rfl⟩ ⟨rfl, rfl, rfl⟩ (by have := SX.out.q; omega) (by have := SX.out.s; omega) (by have := SX.out.m; omega) (by have := SX.out.q; omega) (by have := SX.out.s; omega) (by have := SX.out.m; omega)
        rw [show decide (X = X) = true by simp] at this
        exact this)
      clear e1 e2 HT SX7 SY7 SX SY KX7 KY7 TX TY hg1 hg2 hs3 hs4 hs5 n0' n1' n2' v0 v1 v2 v3 v4 v5 T0 T1
      generalize X.q.length = lx0 at *
      generalize X.s.length = lx1 at *
      generalize X.m.length = lx2 at *
      clear X
      have XT := Lib.hid ((Ext.refl w7).drew)
      obtain ⟨r0, r1, r2, r3, r4, r5, r6, r7, r8, r9, r10, r11, i0, i1, i2, i3, i4, i5, i6, i7⟩ := HP8.out w7 (Ext.refl _)
      go_region_held3 (fun W => W.cell? ⟨w.heap.size + 1, 0, none⟩ = some (.int .i64 ka) ∧ W.cell? ⟨w.heap.size + 1, 1, none⟩ = some (.int .u32 a) ∧ W.cell? ⟨w.heap.size + 1, 2, none⟩ = some (.int .u32 b) ∧ W.cell? ⟨w.heap.size + 1 + 1, 0, none⟩ = some (.int .i64 kb) ∧ W.cell? ⟨w.heap.size + 1 + 1, 1, none⟩ = some (.int .u32 a') ∧ W.cell? ⟨w.heap.size + 1 + 1, 2, none⟩ = some (.int .u32 b') ∧ W.cell? ⟨w3.heap.size, 0, none⟩ = some (.slice B0 lx0 d0) ∧ W.cell? ⟨w3.heap.size, 1, none⟩ = some (.slice B1 lx1 d1) ∧ W.cell? ⟨w3.heap.size, 2, none⟩ = some (.slice B2 lx2 d2) ∧ W.cell? ⟨w4.heap.size, 0, none⟩ = some (.slice C0 lx0 f0) ∧ W.cell? ⟨w4.heap.size, 1, none⟩ = some (.slice C1 lx1 f1) ∧ W.cell? ⟨w4.heap.size, 2, none⟩ = some (.slice C2 lx2 f2) ∧ W.cell? ⟨g1, 0, none⟩ = some (.int .i64 p00) ∧ W.cell? ⟨g1, 1, none⟩ = some (.int .u32 p01) ∧ W.cell? ⟨g1, 2, none⟩ = some (.int .i64 p10) ∧ W.cell? ⟨g1, 3, none⟩ = some (.int .u32 p11) ∧ W.cell? ⟨g2, 0, none⟩ = some (.int .i64 p10) ∧ W.cell? ⟨g2, 1, none⟩ = some (.int .u32 p11) ∧ W.cell? ⟨g2, 2, none⟩ = some (.int .i64 p00) ∧ W.cell? ⟨g2, 3, none⟩ = some (.int .u32 p01)) (first | exact HP8.out _ XT.out | go_keep) (first
        | (go_at_call 8; refine (HAW.out _).mono ?_; rintro e wa ⟨rfl, xa⟩; replace XT := Lib.hid (XT.out.trans xa); clear xa)
        | (go_at_call 15; refine (HAP.out _).mono ?_; rintro e wa ⟨rfl, xa⟩; replace XT := Lib.hid (XT.out.trans xa); clear xa)
        | (go_at_call 12; refine (HSS.out _ XT.out).mono ?_; rintro e wa ⟨rfl, xa⟩; replace XT := Lib.hid (XT.out.trans xa); clear xa))
      all_goals
        go_wp2_with fail
        go_ret
        exact ⟨rfl, X7.out.trans XT.out⟩

namespace modelTurns
set_option maxRecDepth 100000 in
theorem lifted (os : Os) (started : os.Started) (H : Type) (enc : TypeId × Value → H) :
    ReturnsInHanded {} Try.checked os 4 .any (Rows.modelTurnsSpec.pre6 enc Try.prog Try.f4 Rows.modelTurnsRow.domain false) (Rows.modelTurnsSpec.post enc Try.prog Try.f4 false true false false) := by
  refine returnsInHanded_of_change (C := Try.checked) own started (by kernel_rfl) Try.func4
    (ChangeSpec.witness6 (enc := enc) (C := Try.checked) false ⟨#[], #[.agg #[.slice none 0 0, .slice none 0 0, .slice none 0 0], .agg #[.int .i64 0, .int .u32 0, .int .u32 0], .agg #[.int .i64 0, .int .u32 0, .int .u32 0]], []⟩ 8 (by kernel_rfl) (by kernel_rfl) (by kernel_rfl) (by kernel_rfl)) ?_
  intro W base args ds gs before hval0 hW hcnd _
  have hval : ∀ (j : Nat) t v, Try.f4.params[j]? = some t → args[j]? = some v → Value.okWide Try.prog W .any base t v := hval0
  have hW' := hW
  obtain ⟨p, q, hA0, hV, rfl, hfz, hnd⟩ := hW
  have hA : DataW.TrodAll enc Try.prog W 0 (fun _ => true) true Try.f4.params.toList args.toList ds p := hA0
  have hlt : ∀ x ∈ p ++ q, x.block < W.heap.size := fun x hx => hW'.lt x hx
  rw [Try.params4] at hA hval
  have hB := hA
  obtain ⟨v0, vs0, d0, ds0, p0, q0, hargs, rfl, rfl, h0, r0⟩ := trodAll_cons hB
  obtain ⟨v1, vs1, d1, ds1, p1, q1, rfl, rfl, rfl, h1, r1⟩ := trodAll_cons r0
  obtain ⟨v2, vs2, d2, ds2, p2, q2, rfl, rfl, rfl, h2, r2⟩ := trodAll_cons r1
  obtain ⟨rfl, rfl, rfl⟩ := trodAll_nil r2
  obtain rfl : args = #[v0, v1, v2] := by cases args; simp_all
  obtain ⟨rfl, rfl⟩ := trodVars_none hV
  obtain ⟨x0A, x0B, x0C, x0a, x0b, x0c, s0, rfl, I0, l0, m0⟩ := view_state Try.underlying25 (by kernel_rfl) (by kernel_rfl) Try.underlying22 Try.underlying22 Try.underlying23 Try.underlying32 (by kernel_rfl) Try.underlying49 (by kernel_rfl) (by kernel_rfl) Try.underlying32 Try.underlying32 (hval 0 25 v0 rfl rfl) h0
  obtain ⟨x1k, x1a, x1b, rfl⟩ := view_op Try.underlying38 (by kernel_rfl) (by kernel_rfl) Try.underlying3 Try.underlying32 Try.underlying32 (hval 1 38 v1 rfl rfl) h1
  obtain ⟨x2k, x2a, x2b, rfl⟩ := view_op Try.underlying38 (by kernel_rfl) (by kernel_rfl) Try.underlying3 Try.underlying32 Try.underlying32 (hval 2 38 v2 rfl rfl) h2
  clear hA0 hval0
  refine (turns_ok W x0A x0B x0C _ _ _ x0a x0b x0c s0 x1k x1a x1b x2k x2a x2b I0 ⟨rfl, rfl, rfl⟩ (Nat.le_trans l0.1 m0.1) (Nat.le_trans l0.2.1 m0.2.1) (Nat.le_trans l0.2.2 m0.2.2)).mono fun e W' ⟨he, hx⟩ => ?_
  subst he
  exact ⟨_, rfl, post_ext (pv := []) hW' (fun _ _ _ => (trodAll_cons_mk (shut_bool Try.underlying4 _) trodAll_mk0)) (fun sp hsp => trodAll_stays laid hx _ _ _ _ (readable_of (by kernel_rfl)) hA (fun x hx => hlt x (by first | (simp at hx ⊢; exact hx) | simp at hx)) (fun x hx => hsp x (by first | (simp at hx ⊢; exact hx) | simp at hx))) (fun _ _ => rfl) rfl hx (ok_one (by kernel_rfl) rfl (okWide_bool_mk Try.underlying4 _))⟩

theorem over : Rows.modelTurnsRow.holds Try.pinned (OpenSpec.ofChange Rows.modelTurnsSpec) :=
  OpenClaim.holds_of_wide 4 Try.f4 rfl rfl rfl rfl rfl rfl rfl ⟨rfl, rfl, rfl, rfl, rfl⟩ rfl rfl rfl rfl rfl (by kernel_rfl) Try.func4 (by kernel_rfl)
    (of_decide_eq_true (by kernel_rfl)) (by unfold Func.isWrapper; first | (rw [if_pos (by decide +kernel)]; kernel_rfl) | (rw [if_neg (by decide +kernel)]; exact ⟨rfl, rfl⟩))
    (fun os started H enc _ => lifted os started H enc)
end modelTurns

theorem modelTurns_holds : Rows.ModelTurnsSaid := modelTurns.over
#print axioms modelTurns_holds
end Go.Proofs.Ytolengkegjipaaa
