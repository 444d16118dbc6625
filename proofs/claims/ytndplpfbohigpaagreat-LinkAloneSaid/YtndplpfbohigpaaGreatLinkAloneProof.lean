/- Alone a Read of a dirty link takes five steps, and leaves it clean, and kept; a Set behind it takes four: the law answers true for every config, thread, place and links, and changes nothing. Conditions: none. -/
import Derived.Test.YtndplpfbohigpaaGreatKLk
import Derived.Test.YtndplpfbohigpaaGreatLk4
import Derived.Deep.RegionHeld3
import Derived.Deep.DeepCutAuto
import Derived.Deep.CutBlock
import Derived.Deep.MidRow
import Derived.Test.YtndplpfbohigpaaGreatArgs
import Derived.Test.YtndplpfbohigpaaGreatViewP
import Derived.Test.YtndplpfbohigpaaGreatLinkAloneFacts
namespace Go.Proofs.YtndplpfbohigpaaGreat
open Go.ChangeShapes Go.WideShapes Go.ChangeAt Go.RowKit
set_option linter.unusedVariables false

theorem one_putA {w : World} (a fi : Int) (ha : I64 a) (hf : W64 fi) : PutsAt (w.alloc (.cells #[.int .i64 a, .int .u64 fi] 65)) (some ⟨w.heap.size, 0, none⟩) [(a, fi)] := fun _ => by
  have b := Blk.new w 65 [.int .i64 a, .int .u64 fi]
  refine ⟨⟨w.heap.size, 0, none⟩, rfl, b.lt, fun i hi => ?_⟩
  have hi0 : i = 0 := by simpa using hi
  subst hi0
  exact ⟨⟨b.cell 0, b.cell 1⟩, ha, hf⟩
theorem one_lok {t s l b : Nat} (a fi : Int) : LOk (2 + t + s) (wN t s l b) t (groundSt t s l b [(a, fi)]) := (LOk.start t s l b).putAll [(a, fi)]
theorem one_seen {t s l b : Nat} {a fi : Int} (h0 : 0 ≤ a) (h1 : a < (wN t s l b : Int) * 8) : peekV (groundSt t s l b [(a, fi)]) a = fi := by
  show peekV ((startSt t s l b).store 0 a fi) a = fi
  rw [peekV_store (MOk.start t s l b) ((MOk.start t s l b).is (by omega) h1), if_pos rfl]
theorem ints_cell {W : World} {k : IntKind} {g i : Nat} {zs : List Int} {z : Int} (h : Ints W k (some ⟨g, 0, none⟩) zs) (hi : i < zs.length) (hz : zs.getD i 0 = z) : W.cell? ⟨g, i, none⟩ = some (.int k z) := by
  obtain ⟨ad, e, _, hc⟩ := h (by omega)
  injection e with e
  subst e
  have h2 := hc i hi
  rw [at0, hz] at h2
  exact h2
theorem i64N {a : Nat} (h : (a : Int) < 9223372036854775808) : I64 (a : Int) := ⟨by omega, h⟩
set_option maxRecDepth 100000 in
set_option maxHeartbeats 16000000 in
theorem linkAlone_yes (w : World) (t s l b th a : Nat) (z0 z1 : Int) (hg : GrOk t s l b) (hth : th < t) (ha : (a : Int) < 9223372036854775808) (hz0 : W64 z0) (hz1 : W64 z1) :
    Calls Tryz.prog 12 #[.agg #[.int .i64 t, .int .i64 s, .int .i64 l, .int .i64 b], .agg #[.int .i64 th, .int .i64 a], .agg #[.int .u64 z0, .int .u64 z1]] w fun e w' => e = .returned (.bool true) ∧ Ext w w' := by
  have X0 := Lib.hid ((((Ext.refl w).alloc (.cells #[.int .i64 t, .int .i64 s, .int .i64 l, .int .i64 b] 23)).alloc (.cells #[.int .i64 th, .int .i64 a] 61)).alloc (.cells #[.int .u64 z0, .int .u64 z1] 130))
  have B0 : Hid (Blk (((w.alloc (.cells #[.int .i64 t, .int .i64 s, .int .i64 l, .int .i64 b] 23)).alloc (.cells #[.int .i64 th, .int .i64 a] 61)).alloc (.cells #[.int .u64 z0, .int .u64 z1] 130)) w.heap.size 23 [.int .i64 t, .int .i64 s, .int .i64 l, .int .i64 b]) := Lib.hid (((Blk.new w 23 [.int .i64 t, .int .i64 s, .int .i64 l, .int .i64 b]).ext ((Ext.refl _).alloc (.cells #[.int .i64 th, .int .i64 a] 61))).ext ((Ext.refl _).alloc (.cells #[.int .u64 z0, .int .u64 z1] 130)))
  have U0 : Hid (Blk (((w.alloc (.cells #[.int .i64 t, .int .i64 s, .int .i64 l, .int .i64 b] 23)).alloc (.cells #[.int .i64 th, .int .i64 a] 61)).alloc (.cells #[.int .u64 z0, .int .u64 z1] 130)) (w.heap.size + 1) 61 [.int .i64 th, .int .i64 a]) := Lib.hid (by have := (Blk.new (w.alloc (.cells #[.int .i64 t, .int .i64 s, .int .i64 l, .int .i64 b] 23)) 61 [.int .i64 th, .int .i64 a]).ext ((Ext.refl _).alloc (.cells #[.int .u64 z0, .int .u64 z1] 130)); rw [World.size_alloc] at this; exact this)
  have V0 : Hid (Blk (((w.alloc (.cells #[.int .i64 t, .int .i64 s, .int .i64 l, .int .i64 b] 23)).alloc (.cells #[.int .i64 th, .int .i64 a] 61)).alloc (.cells #[.int .u64 z0, .int .u64 z1] 130)) (w.heap.size + 2) 130 [.int .u64 z0, .int .u64 z1]) := Lib.hid (by have := Blk.new ((w.alloc (.cells #[.int .i64 t, .int .i64 s, .int .i64 l, .int .i64 b] 23)).alloc (.cells #[.int .i64 th, .int .i64 a] 61)) 130 [.int .u64 z0, .int .u64 z1]; rw [World.size_alloc, World.size_alloc] at this; exact this)
  obtain ⟨hc, h1, h2, h3, h4⟩ := id hg
  obtain ⟨⟨q0, q1⟩, ⟨q2, q3⟩, ⟨q4, q5⟩, q6, q7⟩ := id hc
  have HFe := Lib.hid (fun W => few9_yes t s l b W hg)
  have ht6 : t ≤ 6 := by omega
  have hN0 : wN t s l b ≤ 60 := wN_le (by omega) (by omega) (by omega) (by omega)
  have HG := Lib.hid hg
  have HZ0 := Lib.hid hz0
  have HZ1 := Lib.hid hz1
  have HA := Lib.hid (i64N ha)
  have HTh := Lib.hid (show I64 (th : Int) from ⟨by omega, by omega⟩)
  have d0 : decide ((th : Int) < 0) = false := by simp
  have d1 : decide ((t : Int) ≤ (th : Int)) = false := by simp; omega
  have d1' : decide (t ≤ th) = false := by simp; omega
  have d2 : decide ((a : Int) < 0) = false := by simp
  have HSo : Hid (∀ W, Calls Tryz.prog 84 #[.int .u64 z0] W fun e w' => e = .returned (.int .u64 (soN z0)) ∧ Ext W w') := Lib.hid (fun W => rsoil_any z0 hz0.1 hz0.2 W)
  have HCl : Hid (∀ z W, W64 z → Calls Tryz.prog 85 #[.int .u64 z] W fun e w' => e = .returned (.int .u64 (clN z)) ∧ Ext W w') := Lib.hid (fun z W h => rclean_any z h.1 h.2 W)
  have HLay := Lib.hid (fun (W : World) => lay_ok (W.alloc (.cells #[.int .i64 a, .int .u64 (soN z0)] 65)) (some ⟨W.heap.size, 0, none⟩) 1 1 t s l b [((a : Int), soN z0)] hg rfl (by decide) (one_putA a (soN z0) (i64N ha) (soN_rng z0)))
  unfold GrNew at HLay
  have HLo := Lib.hid (one_lok (t := t) (s := s) (l := l) (b := b) a (soN z0))
  have HSe : Hid ((a : Int) < (wN t s l b : Int) * 8 → peekV (groundSt t s l b [((a : Int), soN z0)]) a = soN z0) := Lib.hid (fun h => one_seen (by omega) h)
  have HFi := Lib.hid (ground_fine t s l b [((a : Int), soN z0)])
  have HCa := Lib.hid (ground_calm t s l b [((a : Int), soN z0)] (by show 1 ≤ 100; decide))
  clear hg hc h1 h2 h3 h4 q0 q1 q2 q3 q4 q5 q6 q7 hz0 hz1 ha
  generalize groundSt t s l b [((a : Int), soN z0)] = st at *
  have HSz := Lib.hid (soN_rng z0)
  go_enter Tryz.func12, Tryz.ntmps12
  go_upto_region 1 with fail
  generalize (((w.alloc (.cells #[.int .i64 t, .int .i64 s, .int .i64 l, .int .i64 b] 23)).alloc (.cells #[.int .i64 th, .int .i64 a] 61)).alloc (.cells #[.int .u64 z0, .int .u64 z1] 130)) = W0 at *
  have y0 : W0.cell? ⟨w.heap.size, 0, none⟩ = some (.int .i64 t) := (B0.out).cell 0
  have y1 : W0.cell? ⟨w.heap.size, 1, none⟩ = some (.int .i64 s) := (B0.out).cell 1
  have y2 : W0.cell? ⟨w.heap.size, 2, none⟩ = some (.int .i64 l) := (B0.out).cell 2
  have y3 : W0.cell? ⟨w.heap.size, 3, none⟩ = some (.int .i64 b) := (B0.out).cell 3
  have u0 : W0.cell? ⟨w.heap.size + 1, 0, none⟩ = some (.int .i64 th) := (U0.out).cell 0
  have u1 : W0.cell? ⟨w.heap.size + 1, 1, none⟩ = some (.int .i64 a) := (U0.out).cell 1
  have v0 : W0.cell? ⟨w.heap.size + 2, 0, none⟩ = some (.int .u64 z0) := (V0.out).cell 0
  have v1 : W0.cell? ⟨w.heap.size + 2, 1, none⟩ = some (.int .u64 z1) := (V0.out).cell 1
  go_wp2_with fail
  refine (HFe.out _).mono ?_
  rintro e w1 ⟨rfl, xf⟩
  have X1 := Lib.hid (X0.out.trans xf)
  have B1 := Lib.hid (B0.out.ext xf)
  have U1 := Lib.hid (U0.out.ext xf)
  have V1 := Lib.hid (V0.out.ext xf)
  clear xf y0 y1 y2 y3 u0 u1 v0 v1 X0 B0 U0 V0 HFe
  have y0 : w1.cell? ⟨w.heap.size, 0, none⟩ = some (.int .i64 t) := (B1.out).cell 0
  have y1 : w1.cell? ⟨w.heap.size, 1, none⟩ = some (.int .i64 s) := (B1.out).cell 1
  have y2 : w1.cell? ⟨w.heap.size, 2, none⟩ = some (.int .i64 l) := (B1.out).cell 2
  have y3 : w1.cell? ⟨w.heap.size, 3, none⟩ = some (.int .i64 b) := (B1.out).cell 3
  have u0 : w1.cell? ⟨w.heap.size + 1, 0, none⟩ = some (.int .i64 th) := (U1.out).cell 0
  have u1 : w1.cell? ⟨w.heap.size + 1, 1, none⟩ = some (.int .i64 a) := (U1.out).cell 1
  have v0 : w1.cell? ⟨w.heap.size + 2, 0, none⟩ = some (.int .u64 z0) := (V1.out).cell 0
  have v1 : w1.cell? ⟨w.heap.size + 2, 1, none⟩ = some (.int .u64 z1) := (V1.out).cell 1
  go_upto_region 3 with fail
  clear y0 y1 y2 y3 u0 u1 v0 v1 d0 d1 d1' d2
  obtain ⟨sz, hsz⟩ : ∃ sz, soN z0 = sz := ⟨_, rfl⟩
  rw [hsz] at HSo HLay
  clear hsz
  have HS : Hid (∀ W, Ext w1 W → W.cell? ⟨w.heap.size, 0, none⟩ = some (.int .i64 t) ∧ W.cell? ⟨w.heap.size, 1, none⟩ = some (.int .i64 s) ∧ W.cell? ⟨w.heap.size, 2, none⟩ = some (.int .i64 l) ∧ W.cell? ⟨w.heap.size, 3, none⟩ = some (.int .i64 b) ∧ W.cell? ⟨w.heap.size + 1, 0, none⟩ = some (.int .i64 th) ∧ W.cell? ⟨w.heap.size + 1, 1, none⟩ = some (.int .i64 a) ∧ W.cell? ⟨w.heap.size + 2, 0, none⟩ = some (.int .u64 z0) ∧ W.cell? ⟨w.heap.size + 2, 1, none⟩ = some (.int .u64 z1)) := Lib.hid (fun W x => ⟨(B1.out.ext x).cell 0, (B1.out.ext x).cell 1, (B1.out.ext x).cell 2, (B1.out.ext x).cell 3, (U1.out.ext x).cell 0, (U1.out.ext x).cell 1, (V1.out.ext x).cell 0, (V1.out.ext x).cell 1⟩)
  go_cut [8, 10] (fun s8 s10 wx => ∃ (wb : World) (gl gm : Nat) (dv pv : Value) (g : Nat) (R : RefB) (rv : Value), s8 = .pointer (some ⟨gm, 0, none⟩) ∧ s10 = .bool true ∧ Ext w1 wb ∧ Gr (fun q => q = gl) wb wx gm dv pv g R rv st)
  case first =>
    obtain ⟨y0, y1, y2, y3, u0, u1, v0, v1⟩ := HS.out w1 (Ext.refl _)
    have XT := Lib.hid ((Ext.refl w1).drew)
    go_region_held3 (fun W => W.cell? ⟨w.heap.size, 0, none⟩ = some (.int .i64 t) ∧ W.cell? ⟨w.heap.size, 1, none⟩ = some (.int .i64 s) ∧ W.cell? ⟨w.heap.size, 2, none⟩ = some (.int .i64 l) ∧ W.cell? ⟨w.heap.size, 3, none⟩ = some (.int .i64 b) ∧ W.cell? ⟨w.heap.size + 1, 0, none⟩ = some (.int .i64 th) ∧ W.cell? ⟨w.heap.size + 1, 1, none⟩ = some (.int .i64 a) ∧ W.cell? ⟨w.heap.size + 2, 0, none⟩ = some (.int .u64 z0) ∧ W.cell? ⟨w.heap.size + 2, 1, none⟩ = some (.int .u64 z1)) (first | exact HS.out _ XT.out | go_keep) (first
      | (go_at_call 84; refine (HSo.out _).mono ?_; rintro e wa ⟨rfl, xa⟩; replace XT := Lib.hid (XT.out.trans xa); clear xa)
      | (go_at_call 18; refine (HLay.out _).mono ?_; rintro e w3 ⟨gl, gm, dv, pv, g, R, rv, rfl, bl, gr⟩; have XB := Lib.hid (XT.out.trans ((Ext.refl _).alloc (.cells #[.int .i64 a, .int .u64 sz] 65))); replace XT := Lib.hid (XB.out.trans gr.mem.lt.1); have GR := Lib.hid gr; clear bl gr))
    all_goals
      go_wp2_with fail
      go_meet
      exact ⟨_, gl, gm, dv, pv, g, R, rv, rfl, rfl, XB.out, GR.out⟩
  case rest =>
    obtain ⟨wb, gl, gm, dv, pv, g, R, rv, rfl, rfl, xb, gr⟩ := hcut
    generalize wc = w3 at *
    have GR := Lib.hid gr
    have XB := Lib.hid (X1.out.trans xb)
    have HSb : Hid (∀ W, Ext wb W → W.cell? ⟨w.heap.size, 0, none⟩ = some (.int .i64 t) ∧ W.cell? ⟨w.heap.size, 1, none⟩ = some (.int .i64 s) ∧ W.cell? ⟨w.heap.size, 2, none⟩ = some (.int .i64 l) ∧ W.cell? ⟨w.heap.size, 3, none⟩ = some (.int .i64 b) ∧ W.cell? ⟨w.heap.size + 1, 0, none⟩ = some (.int .i64 th) ∧ W.cell? ⟨w.heap.size + 1, 1, none⟩ = some (.int .i64 a) ∧ W.cell? ⟨w.heap.size + 2, 0, none⟩ = some (.int .u64 z0) ∧ W.cell? ⟨w.heap.size + 2, 1, none⟩ = some (.int .u64 z1)) := Lib.hid (fun W x => HS.out W (xb.trans x))
    obtain ⟨y0, y1, y2, y3, u0, u1, v0, v1⟩ := HSb.out w3 gr.mem.lt.1
    have hpk := gr.mem.peek (a : Int) (by omega) HA.out.2
    clear gr xb HS HLay X1 B1 U1 V1 y0 y1 y2 y3 u0 v0 v1 HSo
    by_cases hin : (a : Int) < (wN t s l b : Int) * 8
    · have hpB : peekB st (a : Int) = true := HLo.out.ok.is (by omega) hin
      have RR := Lib.hid (read_run HLo.out (t := (th : Int)) (a := (a : Int)) (v := z0) (by omega) (by omega) (by omega) hin (HSe.out hin))
      rw [hpB] at hpk
      have HPk := Lib.hid hpk
      obtain ⟨pvv, hpvv⟩ : ∃ pvv, peekV st (a : Int) = pvv := ⟨_, rfl⟩
      rw [hpvv] at HPk
      obtain ⟨P, hP⟩ : ∃ P : Nat → LrM × MSt, ∀ k, stepsL (lrS th a) (⟨0, 0, 0, false⟩, st) k = P k := ⟨_, fun _ => rfl⟩
      have hP0 : P 0 = (⟨0, 0, 0, false⟩, st) := (hP 0).symm
      have HSc : Hid (∀ k : Nat, lrS th a (P k).1 (P k).2 = P (k + 1)) := Lib.hid (fun k => by rw [← hP, ← hP]; rfl)
      obtain ⟨r1, r2, r3, r4, r5, r6, r7⟩ := RR.out
      rw [hP] at r3 r4 r5 r6 r7
      have HNo : Hid (∀ k : Nat, k < 5 → (P k).1.dn = false) := Lib.hid (fun k hk => by rw [← hP]; exact r1 k hk)
      have HWf : Hid (∀ k : Nat, k < 5 → (P k).1.Wf) := Lib.hid (fun k hk => by rw [← hP]; exact r2 k hk)
      have HFc : Hid (∀ k : Nat, k ≤ 20 → Fine k (P k).2.dev ∧ CalmN (100 + (k : Int)) (P k).2) := Lib.hid (fun k => by
        induction k with
        | zero => intro _; rw [hP0]; exact ⟨HFi.out, by simpa using HCa.out⟩
        | succ k ih =>
          intro hk
          obtain ⟨f1, f2⟩ := ih (by omega)
          rw [← HSc.out k]
          refine ⟨lrS_fine f1 (by omega), ?_⟩
          have := lrS_calm (t := (th : Int)) (a := (a : Int)) (x := (P k).1) f2
          rw [show (100 : Int) + ((k + 1 : Nat) : Int) = 100 + (k : Int) + 1 by omega]
          exact this)
      have R3 := Lib.hid r3
      have R4 := Lib.hid r4
      have R5 := Lib.hid r5
      have R6 := Lib.hid r6
      have R7 := Lib.hid r7
      clear hpk hpB hpvv r1 r2 r3 r4 r5 r6 r7 hP HSe RR
      go_wp2_with fail
      refine HPk.out.mono ?_
      rintro e w' ⟨rfl, rfl⟩
      clear HPk
      have u0 : w3.cell? ⟨w.heap.size + 1, 0, none⟩ = some (.int .i64 th) := (HSb.out w3 GR.out.mem.lt.1).2.2.2.2.1
      go_wp2_with fail
      refine (newRead_ok w3 th a).mono ?_
      rintro e w4 ⟨gp, rfl, lp, bp, x4⟩
      have M4 : Hid (IsMem (fun q => q = gp) w4 wb w4 gm dv pv (P 0).2) := Lib.hid (by
        rw [hP0]
        exact GR.out.mem.hold x4 (fun q hq => by rw [hq]; exact ⟨bp.lt, Or.inr lp⟩))
      have BP4 : Hid (Blk w4 gp 240 ((P 0).1.cells th a)) := Lib.hid (by rw [hP0]; exact bp)
      have hw1 : wb.heap.size ≤ gp := Nat.le_trans GR.out.mem.lt.1.size lp
      clear bp x4 lp GR hP0 u0 u1
      go_wp2_with fail
      go_loopw [14] (fun i wr => ∃ k : Nat, k ≤ 4 ∧ i = .int .i64 k ∧ IsMem (fun q => q = gp) wr wb wr gm dv pv (P k).2 ∧ Blk wr gp 240 ((P k).1.cells th a)) (fun i _ => 4 - (intOf i).toNat)
      case atStart => exact ⟨0, by omega, rfl, M4.out, BP4.out⟩
      case round =>
        obtain ⟨k, hk, rfl, mk, pk⟩ := hrel
        have MK := Lib.hid mk
        have PK := Lib.hid pk
        clear mk pk M4 BP4
        by_cases hlt : k < 4
        · have v1 : decide (k < 4) = true := by simp; omega
          have v2 : decide ((k : Int) < 4) = true := by simp; omega
          have hf := HFc.out k (by omega)
          have hst := lrStep_ok (i := k) MK.out (hf.2.calm (by omega)) (by omega) hf.1 HA.out (HWf.out k (by omega)) PK.out rfl hw1
          rw [HSc.out k, HNo.out (k + 1) (by omega)] at hst
          have HSt := Lib.hid hst
          clear hst hf
          go_wp2_with fail
          refine HSt.out.mono ?_
          rintro e w5 ⟨rfl, m5, b5, k5⟩
          have M5 := Lib.hid m5
          have B5 := Lib.hid b5
          clear m5 b5 k5 HSt MK PK
          go_wp2_with fail
          go_roundw
          case rel => exact ⟨k + 1, by omega, by go_num, M5.out, B5.out⟩
          case measure => simp [intOf]; omega
        · have v1 : decide (k < 4) = false := by simp; omega
          have v2 : decide ((k : Int) < 4) = false := by simp; omega
          obtain rfl : k = 4 := by omega
          have hf := HFc.out 4 (by omega)
          have HSt := Lib.hid (fun W (x : Ext wr W) => by
            have hst := lrStep_ok (i := 4) (MK.out.ext x).here (hf.2.calm (by omega)) (by omega) hf.1 HA.out (HWf.out 4 (by omega)) (PK.out.ext x) rfl hw1
            rw [HSc.out 4, R3.out] at hst
            exact hst)
          clear hf
          generalize wr = w6 at *
          go_upto_region 13 with fail
          have HS5 : Hid (∀ W, Ext wb W → W.cell? ⟨w.heap.size + 1, 1, none⟩ = some (.int .i64 a) ∧ W.cell? ⟨w.heap.size + 2, 0, none⟩ = some (.int .u64 z0)) := Lib.hid (fun W x => by obtain ⟨y0, y1, y2, y3, u0, u1, v0, v1⟩ := HSb.out W x; exact ⟨u1, v0⟩)
          obtain ⟨u1, v0⟩ := HS5.out w6 MK.out.lt.1
          have dcc : (clN z0 != clN z0) = false := by simp
          have HC0 := Lib.hid (fun W => HCl.out z0 W HZ0.out)
          have hkv : (P 5).2.dev.kept.getD a 0 = soN z0 := by have := R7.out; unfold keptV at this; exact this
          have hkl : (P 5).2.dev.kept.length = wN t s l b * 8 := R5.out.k
          have HKv := Lib.hid hkv
          have HKl := Lib.hid hkl
          have HC1 : Hid (∀ W, Calls Tryz.prog 85 #[.int .u64 (soN z0)] W fun e w' => e = .returned (.int .u64 (clN z0)) ∧ Ext W w') := Lib.hid (fun W => (HCl.out (soN z0) W HSz.out).mono (fun e w' h => by rw [clN_so] at h; exact h))
          obtain ⟨NN, hNN⟩ : ∃ NN, wN t s l b * 8 = NN := ⟨_, rfl⟩
          have hin' : a < NN := by omega
          have i0 : (0 : Int) ≤ (a : Int) := by omega
          have i1 : (a : Int) < (NN : Int) := by omega
          have i2 : (a : Int).toNat = a := by omega
          have i3 : decide (a < NN) = true := by simp; omega
          have i4 : decide ((a : Int) < (NN : Int)) = true := by simp; omega
          have hnn : (P 5).2.dev.n * 8 = NN := by rw [R5.out.ok.n]; exact hNN
          have HNn := Lib.hid hnn
          have HNNh := Lib.hid hNN
          rw [hNN] at HKl
          clear hkv hkl hNN hnn
          obtain ⟨cz, hcz⟩ : ∃ cz, clN z0 = cz := ⟨_, rfl⟩
          have HCz : Hid (clN cz = cz ∧ W64 cz ∧ peekV (P 5).2 (a : Int) = cz) := Lib.hid (by rw [← hcz]; exact ⟨clN_cl z0, clN_rng z0, R6.out⟩)
          have HR4 : Hid ((P 5).1.wd = cz) := Lib.hid (by rw [← hcz]; exact R4.out)
          obtain ⟨sz, hsz⟩ : ∃ sz, soN z0 = sz := ⟨_, rfl⟩
          rw [hcz] at dcc HC0 HC1
          rw [hsz] at HC1 HKv
          clear hcz hsz
          have HWd : Hid (∀ W, Blk W gp 240 ((P 5).1.cells th a) → Calls Tryz.prog 74 #[.pointer (some ⟨gp, 0, none⟩)] W fun e w' => e = .returned (.int .u64 cz) ∧ Ext W w') := Lib.hid (fun W bw => by
            have h := lrWord_ok W gp (P 5).1.wd (P 5).1.dn (bw.cell 3) (bw.cell 5)
            rw [R3.out, if_pos rfl, HR4.out] at h
            exact h.mono (by rintro e w' ⟨rfl, rfl⟩; exact ⟨rfl, Ext.refl _⟩))
          have XT := Lib.hid (MK.out.lt.1.drew)
          have XD := Lib.hid ((Ext.refl w6).drew)
          have HMK := Lib.hid (And.intro MK.out PK.out)
          go_cut [105] (fun s105 wx => s105 = .bool false ∧ Ext wb wx ∧ Blk wx gp 240 ((P 5).1.cells th a) ∧ IsMem (fun q => q = gp) wx wb wx gm dv pv (P 5).2)
          case first =>
            clear HNo HWf HFc R5 R6 R7 HSc HCl HLo HFi HCa HSz XB HSb HMK MK PK HA HTh HG HZ0 HZ1 R3 R4 hth ht6 hN0
            go_region_with (first
              | (go_at_call 71; refine (HSt.out _ XD.out).mono ?_; rintro e w7 ⟨rfl, m7, b7, k7⟩; have M7 := Lib.hid m7; have B7 := Lib.hid b7; replace XT := Lib.hid m7.lt.1; have XE := Lib.hid (Ext.refl w7); obtain ⟨u1, v0⟩ := HS5.out _ XT.out; clear m7 b7 k7)
              | (go_at_call 74; refine (HWd.out _ (B7.out.ext XE.out)).mono ?_; rintro e w8 ⟨rfl, x8⟩; replace XT := Lib.hid (XT.out.trans x8); replace XE := Lib.hid (XE.out.trans x8); obtain ⟨u1, v0⟩ := HS5.out _ XT.out; clear x8)
              | (go_at_call_of 85 (Value.int .u64 z0); refine (HC0.out _).mono ?_; rintro e w9 ⟨rfl, x9⟩; replace XT := Lib.hid (XT.out.trans x9); replace XE := Lib.hid (XE.out.trans x9); obtain ⟨u1, v0⟩ := HS5.out _ XT.out; clear x9)
              | (go_at_call 63; refine (memDevice_ok (M7.out.ext XE.out)).mono ?_; rintro e w' ⟨rfl, rfl⟩)
              | (go_at_call 64; refine ((M7.out.ext XE.out).dev.keptA NN HNn.out).mono ?_; rintro e wk ⟨⟨gk, ck, rfl, -, -, hIk, xk, -, -⟩, -⟩; replace XT := Lib.hid (XT.out.trans xk); replace XE := Lib.hid (XE.out.trans xk); obtain ⟨u1, v0⟩ := HS5.out _ XT.out; have ckc := ints_cell hIk (by rw [HKl.out]; exact hin') HKv.out; clear hIk xk)
              | (go_at_call 85; refine (HC1.out _).mono ?_; rintro e w10 ⟨rfl, x10⟩; replace XT := Lib.hid (XT.out.trans x10); replace XE := Lib.hid (XE.out.trans x10); obtain ⟨u1, v0⟩ := HS5.out _ XT.out; clear x10))
            all_goals
              go_wp2_with fail
              go_meet
              exact ⟨rfl, XT.out, B7.out.ext XE.out, (M7.out.ext XE.out).here⟩
          case rest =>
            obtain ⟨rfl, xt8, b8, m8⟩ := hcut
            generalize wc = w8 at *
            have X7 := Lib.hid xt8
            have B8 := Lib.hid b8
            have M8 := Lib.hid m8
            clear xt8 b8 m8 u1 v0 XD HSt MK PK HMK HKv HKl HNn XT HC0 HC1
            have HNs := Lib.hid (fun W => newSet_ok W (th : Int) (a : Int) cz z1 HCz.out.2.1 HZ1.out)
            have HS7 : Hid (∀ W, Ext wb W → W.cell? ⟨w.heap.size + 1, 0, none⟩ = some (.int .i64 th) ∧ W.cell? ⟨w.heap.size + 1, 1, none⟩ = some (.int .i64 a) ∧ W.cell? ⟨w.heap.size + 2, 1, none⟩ = some (.int .u64 z1)) := Lib.hid (fun W x => by obtain ⟨y0, y1, y2, y3, u0, u1, v0, v1⟩ := HSb.out W x; exact ⟨u0, u1, v1⟩)
            obtain ⟨u0, u1, v1⟩ := HS7.out w8 X7.out
            have XT := Lib.hid X7.out.drew
            have XE := Lib.hid ((Ext.refl w8).drew)
            go_wp2_with fail
            go_region_held3 (fun W => W.cell? ⟨w.heap.size + 1, 0, none⟩ = some (.int .i64 th) ∧ W.cell? ⟨w.heap.size + 1, 1, none⟩ = some (.int .i64 a) ∧ W.cell? ⟨w.heap.size + 2, 1, none⟩ = some (.int .u64 z1)) (first | exact HS7.out _ XT.out | go_keep) (first
              | (go_at_call 74; refine (HWd.out _ (B8.out.ext XE.out)).mono ?_; rintro e wa ⟨rfl, xa⟩; replace XT := Lib.hid (XT.out.trans xa); replace XE := Lib.hid (XE.out.trans xa); clear xa)
              | (go_at_call 76; refine (HNs.out _).mono ?_; rintro e w9 ⟨gq, rfl, lq, bq, xq⟩; have LQ := Lib.hid (Nat.le_trans XE.out.size lq); replace XT := Lib.hid (XT.out.trans xq); replace XE := Lib.hid (XE.out.trans xq); have BQ := Lib.hid bq; clear lq bq xq))
            all_goals
              obtain ⟨X, hX⟩ : ∃ X : Nat → LsM × MSt, ∀ k, stepsL (lsS th a (soN z1) (clN cz)) (⟨0, 0, false, false, 0⟩, (P 5).2) k = X k := ⟨_, fun _ => rfl⟩
              have hX0 : X 0 = (⟨0, 0, false, false, 0⟩, (P 5).2) := (hX 0).symm
              have M9 : Hid (IsMem (fun q => q = gq) w9 wb w9 gm dv pv (X 0).2) := Lib.hid (by rw [hX0]; exact M8.out.hold XE.out (fun q hq => by rw [hq]; exact ⟨BQ.out.lt, Or.inr LQ.out⟩))
              have B9 : Hid (Blk w9 gq 242 ((X 0).1.cells th a (soN z1) (clN cz))) := Lib.hid (by rw [hX0]; exact BQ.out)
              have hw2 : wb.heap.size ≤ gq := Nat.le_trans X7.out.size LQ.out
              have HXc : Hid (∀ k : Nat, lsS th a (soN z1) (clN cz) (X k).1 (X k).2 = X (k + 1)) := Lib.hid (fun k => by rw [← hX, ← hX]; rfl)
              have SR := set_run R5.out (t := (th : Int)) (a := (a : Int)) (w := z1) (o := cz) (by omega) (by omega) (by omega) hin (by rw [HCz.out.1]; exact HCz.out.2.2)
              obtain ⟨r1, r2, r3, r4, r5, r6, r7, r8, r9, r10⟩ := SR
              rw [hX] at r3 r4 r8 r9 r10
              have HNo2 : Hid (∀ k : Nat, k < 4 → (X k).1.dn = false) := Lib.hid (fun k hk => by rw [← hX]; exact r1 k hk)
              have HPt2 : Hid (∀ k : Nat, k < 5 → ((X k).1.part = 0 ∨ (X k).1.part = 1 ∨ (X k).1.part = 2 ∨ (X k).1.part = 3)) := Lib.hid (fun k hk => by rw [← hX]; exact r2 k hk)
              have HFc2 : Hid (∀ k : Nat, k ≤ 20 → Fine (5 + k) (X k).2.dev ∧ CalmN (105 + (k : Int)) (X k).2) := Lib.hid (fun k => by
                induction k with
                | zero =>
                  intro _
                  rw [hX0]
                  have h5 := HFc.out 5 (by omega)
                  exact ⟨h5.1, by simpa using h5.2⟩
                | succ k ih =>
                  intro hk
                  obtain ⟨f1, f2⟩ := ih (by omega)
                  rw [← HXc.out k]
                  refine ⟨lsS_fine (k := 5 + k) f1 (by omega), ?_⟩
                  have := lsS_calm (t := (th : Int)) (a := (a : Int)) (wd := soN z1) (old := clN cz) (x := (X k).1) f2
                  rw [show (105 : Int) + ((k + 1 : Nat) : Int) = 105 + (k : Int) + 1 by omega]
                  exact this)
              have S3 := Lib.hid r3
              have S4 := Lib.hid r4
              have S8 := Lib.hid r8
              have S9 := Lib.hid r9
              have S10 := Lib.hid r10
              clear r1 r2 r3 r4 r5 r6 r7 r8 r9 r10 hX hX0 M8 B8 XE XT LQ BQ u0 u1 v1 HNs
              go_wp2_with fail
              go_loopw [16] (fun i wr => ∃ k : Nat, k ≤ 3 ∧ i = .int .i64 k ∧ IsMem (fun q => q = gq) wr wb wr gm dv pv (X k).2 ∧ Blk wr gq 242 ((X k).1.cells th a (soN z1) (clN cz))) (fun i _ => 3 - (intOf i).toNat)
              case atStart => exact ⟨0, by omega, rfl, M9.out, B9.out⟩
              case round =>
                obtain ⟨k, hk, rfl, mk, pk⟩ := hrel
                have MK := Lib.hid mk
                have PK := Lib.hid pk
                clear mk pk M9 B9
                by_cases hlt : k < 3
                · have v1 : decide (k < 3) = true := by simp; omega
                  have v2 : decide ((k : Int) < 3) = true := by simp; omega
                  have hf := HFc2.out k (by omega)
                  have hst := lsStep_ok (i := 5 + k) MK.out (hf.2.calm (by omega)) (by omega) hf.1 HA.out (HPt2.out k (by omega)) (soN_rng z1) PK.out rfl hw2
                  rw [HXc.out k, HNo2.out (k + 1) (by omega)] at hst
                  have HSt := Lib.hid hst
                  clear hst hf
                  go_wp2_with fail
                  refine HSt.out.mono ?_
                  rintro e w5 ⟨rfl, m5, b5, k5⟩
                  have M5 := Lib.hid m5
                  have B5 := Lib.hid b5
                  clear m5 b5 k5 HSt MK PK
                  go_wp2_with fail
                  go_roundw
                  case rel => exact ⟨k + 1, by omega, by go_num, M5.out, B5.out⟩
                  case measure => simp [intOf]; omega
                · have v1 : decide (k < 3) = false := by simp; omega
                  have v2 : decide ((k : Int) < 3) = false := by simp; omega
                  obtain rfl : k = 3 := by omega
                  have HXL := Lib.hid MK.out.lt.1
                  obtain ⟨y0, y1, y2, y3, u0, u1, v0, vv1⟩ := HSb.out wr HXL.out
                  have hpk := MK.out.peek (a : Int) (by omega) HA.out.2
                  rw [S9.out, show peekB (X 3).2 (a : Int) = true from S8.out.ok.is (by omega) hin] at hpk
                  have HPk3 := Lib.hid hpk
                  have HNn3 : Hid ((X 3).2.dev.n * 8 = NN) := Lib.hid (by rw [S8.out.ok.n]; exact HNNh.out)
                  have HKl3 : Hid ((X 3).2.dev.kept.length = NN) := Lib.hid (by rw [S8.out.k]; exact HNNh.out)
                  have HKv3 : Hid ((X 3).2.dev.kept.getD a 0 = soN z1) := Lib.hid S10.out
                  have HSt := Lib.hid (fun W (x : Ext wr W) => by
                    have hf := HFc2.out 3 (by omega)
                    have hst := lsStep_ok (i := 5 + 3) (MK.out.ext x).here (hf.2.calm (by omega)) (by omega) hf.1 HA.out (HPt2.out 3 (by omega)) (soN_rng z1) (PK.out.ext x) rfl hw2
                    rw [HXc.out 3, S3.out] at hst
                    exact hst)
                  have HPu : Hid (∀ W, Blk W gq 242 ((X 4).1.cells th a (soN z1) (clN cz)) → Calls Tryz.prog 81 #[.pointer (some ⟨gq, 0, none⟩)] W fun e w' => e = .returned (.bool true) ∧ Ext W w') := Lib.hid (fun W bw => (lsPut_ok W gq true (by rw [← S4.out]; exact bw.cell 7)).mono (by rintro e w' ⟨rfl, rfl⟩; exact ⟨rfl, Ext.refl _⟩))
                  have HC2 := Lib.hid (fun W => HCl.out z1 W HZ1.out)
                  have HC3 : Hid (∀ W, Calls Tryz.prog 85 #[.int .u64 (soN z1)] W fun e w' => e = .returned (.int .u64 (clN z1)) ∧ Ext W w') := Lib.hid (fun W => (HCl.out (soN z1) W (soN_rng z1)).mono (fun e w' h => by rw [clN_so] at h; exact h))
                  have dzz : (clN z1 == clN z1) = true := by simp
                  obtain ⟨c1, hc1⟩ : ∃ c1, clN z1 = c1 := ⟨_, rfl⟩
                  obtain ⟨s1, hs1⟩ : ∃ s1, soN z1 = s1 := ⟨_, rfl⟩
                  rw [hc1] at HC2 HC3 dzz
                  rw [hs1] at HC3 HKv3 HPk3
                  have HM3 := Lib.hid MK.out
                  clear y0 y1 y2 y3 u0 v0 vv1 hpk hc1 MK PK
                  generalize wr = wt at *
                  go_wp2_with fail
                  refine HPk3.out.mono ?_
                  rintro e w' ⟨rfl, rfl⟩
                  have XT := Lib.hid (HXL.out.drew)
                  have XE := Lib.hid ((Ext.refl wt).drew)
                  go_wp2_with fail
                  go_cut [19] (fun s19 wx => s19 = .int .u64 s1 ∧ Ext wt wx)
                  case first =>
                    clear HSt HPu HC2 HC3 HXc HNo2 HPt2 HFc2 S3 S4 HNo HWf HFc HSc HCl HLo HFi HCa HSz HS7 HPk3
                    go_region_with (first
                      | (go_at_call 63; refine (memDevice_ok (HM3.out.ext XE.out)).mono ?_; rintro e w' ⟨rfl, rfl⟩)
                      | (go_at_call 64; refine ((HM3.out.ext XE.out).dev.keptA NN HNn3.out).mono ?_; rintro e wk ⟨⟨gk, ck, rfl, -, -, hIk, xk, -, -⟩, -⟩; replace XT := Lib.hid (XT.out.trans xk); replace XE := Lib.hid (XE.out.trans xk); have u1 := (HSb.out _ XT.out).2.2.2.2.2.1; have ckc := ints_cell hIk (by rw [HKl3.out]; exact hin') HKv3.out; clear hIk xk))
                    all_goals
                      go_wp2_with fail
                      go_meet
                      exact ⟨rfl, XE.out⟩
                  case rest =>
                    obtain ⟨rfl, xtk⟩ := hcut
                    generalize wc = wk at *
                    have vv1 : wk.cell? ⟨w.heap.size + 2, 1, none⟩ = some (.int .u64 z1) := (HSb.out wk (HXL.out.trans xtk)).2.2.2.2.2.2.2
                    replace XT := Lib.hid ((HXL.out.trans xtk).trans ((Ext.refl wk).drew))
                    replace XE := Lib.hid (xtk.trans ((Ext.refl wk).drew))
                    clear xtk u1
                    go_wp2_with fail
                    go_region_held3 (fun W => W.cell? ⟨w.heap.size + 2, 1, none⟩ = some (.int .u64 z1)) (first | exact (HSb.out _ XT.out).2.2.2.2.2.2.2 | go_keep) (first
                      | (go_at_call 68; refine (awake13_ok _).mono ?_; rintro e wa ⟨rfl, xa⟩; replace XT := Lib.hid (XT.out.trans xa); replace XE := Lib.hid (XE.out.trans xa); clear xa)
                      | (go_at_call 78; refine (HSt.out _ XE.out).mono ?_; rintro e wc ⟨rfl, m7, b7, k7⟩; replace XT := Lib.hid m7.lt.1; have XF := Lib.hid (Ext.refl wc); have BF := Lib.hid b7; clear m7 b7 k7)
                      | (go_at_call 81; refine (HPu.out _ (BF.out.ext XF.out)).mono ?_; rintro e wd ⟨rfl, xd⟩; replace XT := Lib.hid (XT.out.trans xd); replace XF := Lib.hid (XF.out.trans xd); clear xd)
                      | (go_at_call_of 85 (Value.int .u64 z1); refine (HC2.out _).mono ?_; rintro e we ⟨rfl, xd⟩; replace XT := Lib.hid (XT.out.trans xd); clear xd)
                      | (go_at_call 85; refine (HC3.out _).mono ?_; rintro e wf ⟨rfl, xd⟩; replace XT := Lib.hid (XT.out.trans xd); clear xd))
                    all_goals
                      go_wp2_with fail
                      go_ret
                      exact ⟨rfl, XB.out.trans XT.out⟩
    · have hpB : peekB st (a : Int) = false := by
        unfold peekB
        rw [if_pos (by omega), HLo.out.ok.n]
        simpa using hin
      rw [hpB] at hpk
      have HPk := Lib.hid hpk
      obtain ⟨pvv, hpvv⟩ : ∃ pvv, peekV st (a : Int) = pvv := ⟨_, rfl⟩
      rw [hpvv] at HPk
      clear hpk hpB hpvv
      go_wp2_with fail
      refine HPk.out.mono ?_
      rintro e w' ⟨rfl, rfl⟩
      clear HPk
      go_wp2_with fail
      refine (awake13_ok _).mono ?_
      rintro e w4 ⟨rfl, x4⟩
      have X4 := Lib.hid ((XB.out.trans GR.out.mem.lt.1).trans x4)
      clear x4
      go_wp2_with fail
      go_ret
      exact ⟨rfl, X4.out⟩

set_option maxRecDepth 100000 in
set_option maxHeartbeats 4000000 in
theorem linkAlone_no (w : World) (t s l b th a z0 z1 : Int) (h : ¬ GrOk t s l b ∨ th < 0 ∨ t ≤ th ∨ a < 0) :
    Calls Tryz.prog 12 #[.agg #[.int .i64 t, .int .i64 s, .int .i64 l, .int .i64 b], .agg #[.int .i64 th, .int .i64 a], .agg #[.int .u64 z0, .int .u64 z1]] w fun e w' => e = .returned (.bool true) ∧ Ext w w' := by
  have X0 := Lib.hid ((((Ext.refl w).alloc (.cells #[.int .i64 t, .int .i64 s, .int .i64 l, .int .i64 b] 23)).alloc (.cells #[.int .i64 th, .int .i64 a] 61)).alloc (.cells #[.int .u64 z0, .int .u64 z1] 130))
  have B0 : Hid (Blk (((w.alloc (.cells #[.int .i64 t, .int .i64 s, .int .i64 l, .int .i64 b] 23)).alloc (.cells #[.int .i64 th, .int .i64 a] 61)).alloc (.cells #[.int .u64 z0, .int .u64 z1] 130)) w.heap.size 23 [.int .i64 t, .int .i64 s, .int .i64 l, .int .i64 b]) := Lib.hid (((Blk.new w 23 [.int .i64 t, .int .i64 s, .int .i64 l, .int .i64 b]).ext ((Ext.refl _).alloc (.cells #[.int .i64 th, .int .i64 a] 61))).ext ((Ext.refl _).alloc (.cells #[.int .u64 z0, .int .u64 z1] 130)))
  have U0 : Hid (Blk (((w.alloc (.cells #[.int .i64 t, .int .i64 s, .int .i64 l, .int .i64 b] 23)).alloc (.cells #[.int .i64 th, .int .i64 a] 61)).alloc (.cells #[.int .u64 z0, .int .u64 z1] 130)) (w.heap.size + 1) 61 [.int .i64 th, .int .i64 a]) := Lib.hid (by have := (Blk.new (w.alloc (.cells #[.int .i64 t, .int .i64 s, .int .i64 l, .int .i64 b] 23)) 61 [.int .i64 th, .int .i64 a]).ext ((Ext.refl _).alloc (.cells #[.int .u64 z0, .int .u64 z1] 130)); rw [World.size_alloc] at this; exact this)
  have V0 : Hid (Blk (((w.alloc (.cells #[.int .i64 t, .int .i64 s, .int .i64 l, .int .i64 b] 23)).alloc (.cells #[.int .i64 th, .int .i64 a] 61)).alloc (.cells #[.int .u64 z0, .int .u64 z1] 130)) (w.heap.size + 2) 130 [.int .u64 z0, .int .u64 z1]) := Lib.hid (by have := Blk.new ((w.alloc (.cells #[.int .i64 t, .int .i64 s, .int .i64 l, .int .i64 b] 23)).alloc (.cells #[.int .i64 th, .int .i64 a] 61)) 130 [.int .u64 z0, .int .u64 z1]; rw [World.size_alloc, World.size_alloc] at this; exact this)
  obtain ⟨fe, HFe, hfe⟩ : ∃ fe, Hid (∀ W, Calls Tryz.prog 27 #[.agg #[.int .i64 t, .int .i64 s, .int .i64 l, .int .i64 b]] W fun e w' => (e = .returned (.bool fe)) ∧ Ext W w') ∧ (fe = false ∨ GrOk t s l b) := by
    by_cases hg : GrOk t s l b
    · exact ⟨true, Lib.hid (fun W => few9_yes t s l b W hg), Or.inr hg⟩
    · exact ⟨false, Lib.hid (fun W => few9_no t s l b W hg), Or.inl rfl⟩
  have h2 : fe = false ∨ th < 0 ∨ t ≤ th ∨ a < 0 := by
    rcases hfe with e | e
    · exact Or.inl e
    · rcases h with h | h
      · exact absurd e h
      · exact Or.inr h
  clear h hfe
  obtain ⟨p1, hp1⟩ : ∃ p1, decide (th < 0) = p1 := ⟨_, rfl⟩
  obtain ⟨p2, hp2⟩ : ∃ p2, decide (t ≤ th) = p2 := ⟨_, rfl⟩
  obtain ⟨p3, hp3⟩ : ∃ p3, decide (a < 0) = p3 := ⟨_, rfl⟩
  have h3 : fe = false ∨ p1 = true ∨ p2 = true ∨ p3 = true := by
    rcases h2 with h | h | h | h
    · exact Or.inl h
    · exact Or.inr (Or.inl (by rw [← hp1]; exact decide_eq_true h))
    · exact Or.inr (Or.inr (Or.inl (by rw [← hp2]; exact decide_eq_true h)))
    · exact Or.inr (Or.inr (Or.inr (by rw [← hp3]; exact decide_eq_true h)))
  clear h2
  go_enter Tryz.func12, Tryz.ntmps12
  go_upto_region 1 with fail
  generalize (((w.alloc (.cells #[.int .i64 t, .int .i64 s, .int .i64 l, .int .i64 b] 23)).alloc (.cells #[.int .i64 th, .int .i64 a] 61)).alloc (.cells #[.int .u64 z0, .int .u64 z1] 130)) = W0 at *
  have y0 : W0.cell? ⟨w.heap.size, 0, none⟩ = some (.int .i64 t) := (B0.out).cell 0
  have y1 : W0.cell? ⟨w.heap.size, 1, none⟩ = some (.int .i64 s) := (B0.out).cell 1
  have y2 : W0.cell? ⟨w.heap.size, 2, none⟩ = some (.int .i64 l) := (B0.out).cell 2
  have y3 : W0.cell? ⟨w.heap.size, 3, none⟩ = some (.int .i64 b) := (B0.out).cell 3
  have u0 : W0.cell? ⟨w.heap.size + 1, 0, none⟩ = some (.int .i64 th) := (U0.out).cell 0
  have u1 : W0.cell? ⟨w.heap.size + 1, 1, none⟩ = some (.int .i64 a) := (U0.out).cell 1
  have v0 : W0.cell? ⟨w.heap.size + 2, 0, none⟩ = some (.int .u64 z0) := (V0.out).cell 0
  have v1 : W0.cell? ⟨w.heap.size + 2, 1, none⟩ = some (.int .u64 z1) := (V0.out).cell 1
  go_wp2_with fail
  refine (HFe.out _).mono ?_
  rintro e w1 ⟨rfl, xf⟩
  have X1 := Lib.hid (X0.out.trans xf)
  have B1 := Lib.hid (B0.out.ext xf)
  have U1 := Lib.hid (U0.out.ext xf)
  have V1 := Lib.hid (V0.out.ext xf)
  clear xf y0 y1 y2 y3 u0 u1 v0 v1 X0 B0 U0 V0 HFe
  have y0 : w1.cell? ⟨w.heap.size, 0, none⟩ = some (.int .i64 t) := (B1.out).cell 0
  have y1 : w1.cell? ⟨w.heap.size, 1, none⟩ = some (.int .i64 s) := (B1.out).cell 1
  have y2 : w1.cell? ⟨w.heap.size, 2, none⟩ = some (.int .i64 l) := (B1.out).cell 2
  have y3 : w1.cell? ⟨w.heap.size, 3, none⟩ = some (.int .i64 b) := (B1.out).cell 3
  have u0 : w1.cell? ⟨w.heap.size + 1, 0, none⟩ = some (.int .i64 th) := (U1.out).cell 0
  have u1 : w1.cell? ⟨w.heap.size + 1, 1, none⟩ = some (.int .i64 a) := (U1.out).cell 1
  have v0 : w1.cell? ⟨w.heap.size + 2, 0, none⟩ = some (.int .u64 z0) := (V1.out).cell 0
  have v1 : w1.cell? ⟨w.heap.size + 2, 1, none⟩ = some (.int .u64 z1) := (V1.out).cell 1
  have fin : ∀ {Z : Prop}, fe = false ∨ p1 = true ∨ p2 = true ∨ p3 = true → (fe = false → Z) → (fe = true → p1 = true → Z) → (fe = true → p1 = false → p2 = true → Z) → (fe = true → p1 = false → p2 = false → p3 = true → Z) → Z := fun {Z} h a1 a2 a3 a4 => by
    cases fe
    · exact a1 rfl
    · cases p1
      · cases p2
        · cases p3
          · simp at h
          · exact a4 rfl rfl rfl rfl
        · exact a3 rfl rfl rfl
      · exact a2 rfl rfl
  refine fin h3 (fun e0 => ?_) (fun e0 e1 => ?_) (fun e0 e1 e2 => ?_) (fun e0 e1 e2 e3 => ?_)
  all_goals
    clear h3 fin
    subst_vars
    go_wp2_with fail
    refine (awake13_ok _).mono ?_
    rintro e w2 ⟨rfl, x2⟩
    have X2 := Lib.hid (X1.out.trans x2)
    clear x2
    go_wp2_with fail
    go_ret
    exact ⟨rfl, X2.out⟩
theorem linkAlone_walk (w : World) (t s l b th a z0 z1 : Int) (hth : I64 th) (ha : I64 a) (hz0 : W64 z0) (hz1 : W64 z1) :
    Calls Tryz.prog 12 #[.agg #[.int .i64 t, .int .i64 s, .int .i64 l, .int .i64 b], .agg #[.int .i64 th, .int .i64 a], .agg #[.int .u64 z0, .int .u64 z1]] w fun e w' => e = .returned (.bool true) ∧ Ext w w' := by
  by_cases h : ¬ GrOk t s l b ∨ th < 0 ∨ t ≤ th ∨ a < 0
  · exact linkAlone_no w t s l b th a z0 z1 h
  · have hg : GrOk t s l b := Classical.byContradiction (fun c => h (Or.inl c))
    have h1 : ¬ th < 0 := fun c => h (Or.inr (Or.inl c))
    have h2 : ¬ t ≤ th := fun c => h (Or.inr (Or.inr (Or.inl c)))
    have h3 : ¬ a < 0 := fun c => h (Or.inr (Or.inr (Or.inr c)))
    obtain ⟨⟨q0, q1⟩, ⟨q2, q3⟩, ⟨q4, q5⟩, q6, q7⟩ := id hg.1
    obtain ⟨t', rfl⟩ := Int.eq_ofNat_of_zero_le (show 0 ≤ t by omega)
    obtain ⟨s', rfl⟩ := Int.eq_ofNat_of_zero_le (show 0 ≤ s by omega)
    obtain ⟨l', rfl⟩ := Int.eq_ofNat_of_zero_le (show 0 ≤ l by omega)
    obtain ⟨b', rfl⟩ := Int.eq_ofNat_of_zero_le (show 0 ≤ b by omega)
    obtain ⟨th', rfl⟩ := Int.eq_ofNat_of_zero_le (show 0 ≤ th by omega)
    obtain ⟨a', rfl⟩ := Int.eq_ofNat_of_zero_le (show 0 ≤ a by omega)
    exact linkAlone_yes w t' s' l' b' th' a' z0 z1 hg (by omega) ha.2 hz0 hz1

namespace linkAlone
set_option maxRecDepth 100000 in
theorem lifted (os : Os) (started : os.Started) (H : Type) (enc : TypeId × Value → H) :
    ReturnsInHanded {} Tryz.checked os 12 .any (Rows.linkAloneSpec.pre6 enc Tryz.prog Tryz.f12 Rows.linkAloneRow.domain false) (Rows.linkAloneSpec.post enc Tryz.prog Tryz.f12 false true false false) := by
  refine returnsInHanded_of_change (C := Tryz.checked) own started (by kernel_rfl) Tryz.func12
    (ChangeSpec.witness6 (enc := enc) (C := Tryz.checked) false ⟨#[], #[.agg #[.int .i64 0, .int .i64 0, .int .i64 0, .int .i64 0], .agg #[.int .i64 0, .int .i64 0], .agg #[.int .u64 0, .int .u64 0]], []⟩ 8 (by kernel_rfl) (by kernel_rfl) (by kernel_rfl) (by kernel_rfl)) ?_
  intro W base args ds gs before hval0 hW hcnd _
  have hval : ∀ (j : Nat) t v, Tryz.f12.params[j]? = some t → args[j]? = some v → Value.okWide Tryz.prog W .any base t v := hval0
  have hW' := hW
  obtain ⟨p, q, hA0, hV, rfl, hfz, hnd⟩ := hW
  have hA : DataW.TrodAll enc Tryz.prog W 0 (fun _ => true) true Tryz.f12.params.toList args.toList ds p := hA0
  have hlt : ∀ x ∈ p ++ q, x.block < W.heap.size := fun x hx => hW'.lt x hx
  rw [Tryz.params12] at hA hval
  have hB := hA
  obtain ⟨v0, vs0, d0, ds0, p0, q0, hargs, rfl, rfl, h0, r0⟩ := trodAll_cons hB
  obtain ⟨v1, vs1, d1, ds1, p1, q1, rfl, rfl, rfl, h1, r1⟩ := trodAll_cons r0
  obtain ⟨v2, vs2, d2, ds2, p2, q2, rfl, rfl, rfl, h2, r2⟩ := trodAll_cons r1
  obtain ⟨rfl, rfl, rfl⟩ := trodAll_nil r2
  obtain rfl : args = #[v0, v1, v2] := by cases args; simp_all
  obtain ⟨rfl, rfl⟩ := trodVars_none hV
  obtain ⟨x0t, x0s, x0l, x0b, rfl, ok0⟩ := view_cfg Tryz.underlying23 (by kernel_rfl) (by kernel_rfl) Tryz.underlying3 Tryz.underlying3 Tryz.underlying3 Tryz.underlying3 (hval 0 23 v0 rfl rfl) h0
  obtain ⟨x1a, x1b, rfl, ok1⟩ := view_pair Tryz.underlying61 Tryz.underlying3 (by kernel_rfl) (by kernel_rfl) (hval 1 61 v1 rfl rfl) h1 (okWide_agg_array Tryz.underlying61 (hval 1 61 v1 rfl rfl))
  obtain ⟨x2a, x2b, rfl, ok2a, ok2b⟩ := view_pairK Tryz.underlying130 Tryz.underlying45 (by kernel_rfl) (by kernel_rfl) (hval 2 130 v2 rfl rfl) h2 (okWide_agg_array Tryz.underlying130 (hval 2 130 v2 rfl rfl))
  clear hA0 hval0
  refine (linkAlone_walk W x0t x0s x0l x0b x1a x1b x2a x2b ok1.1 ok1.2 (wf_u64 ok2a) (wf_u64 ok2b)).mono fun e W' ⟨he, hx⟩ => ?_
  subst he
  exact ⟨_, rfl, post_ext (pv := []) hW' (fun _ _ _ => (trodAll_cons_mk (shut_bool Tryz.underlying4 _) trodAll_mk0)) (fun sp hsp => trodAll_stays laid hx _ _ _ _ (readable_of (by kernel_rfl)) hA (fun x hx => hlt x (by first | (simp at hx ⊢; exact hx) | simp at hx)) (fun x hx => hsp x (by first | (simp at hx ⊢; exact hx) | simp at hx))) (fun _ _ => rfl) rfl hx (ok_one (by kernel_rfl) rfl (okWide_bool_mk Tryz.underlying4 _))⟩

theorem over : Rows.linkAloneRow.holds Tryz.pinned (OpenSpec.ofChange Rows.linkAloneSpec) :=
  OpenClaim.holds_of_wide 12 Tryz.f12 rfl rfl rfl rfl rfl rfl rfl ⟨rfl, rfl, rfl, rfl, rfl⟩ rfl rfl rfl rfl rfl (by kernel_rfl) Tryz.func12 linkAlone_closed
    (of_decide_eq_true (by kernel_rfl)) (by unfold Func.isWrapper; first | (rw [if_pos (by decide +kernel)]; kernel_rfl) | (rw [if_neg (by decide +kernel)]; exact ⟨rfl, rfl⟩))
    (fun os started H enc _ => lifted os started H enc)
end linkAlone

theorem linkAlone_holds : Rows.LinkAloneSaid := linkAlone.over
#print axioms linkAlone_holds
end Go.Proofs.YtndplpfbohigpaaGreat
