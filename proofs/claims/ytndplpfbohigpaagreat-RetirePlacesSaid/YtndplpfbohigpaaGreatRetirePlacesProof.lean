/- Places reserved and cancelled by one thread alone: the first empty one is reserved, and Slots tells just the slots that stand there: the law answers true for every config, thread and acts, and changes nothing. Conditions: none. -/
import Derived.Test.YtndplpfbohigpaaGreatRet15
import Derived.Deep.RegionHeld3
import Derived.Deep.DeepCutAuto
import Derived.Deep.CutBlock
import Derived.Deep.MidRow
import Derived.Test.YtndplpfbohigpaaGreatArgs
import Derived.Test.YtndplpfbohigpaaGreatKView
import Derived.Test.YtndplpfbohigpaaGreatRetirePlacesFacts
namespace Go.Proofs.YtndplpfbohigpaaGreat
open Go.ChangeShapes Go.WideShapes Go.ChangeAt Go.RowKit
set_option linter.unusedVariables false

set_option maxRecDepth 100000 in
set_option maxHeartbeats 16000000 in
theorem retirePlaces_yes (w : World) (A : Option Addr) (n c : Nat) (t s l b th : Nat) (zs : List Int) (hl : zs.length = n) (hn : n ≤ 60) (hA : Ints w .u8 A zs) (hz : Lim zs 256) (hg : GrOk t s l b) (hth : th < t) :
    Calls Tryz.prog 5 #[.agg #[.int .i64 t, .int .i64 s, .int .i64 l, .int .i64 b], .int .i64 th, .slice A n c] w fun e w' => e = .returned (.bool true) ∧ Ext w w' := by
  have X0 := Lib.hid ((Ext.refl w).alloc (.cells #[.int .i64 t, .int .i64 s, .int .i64 l, .int .i64 b] 23))
  have B0 := Lib.hid (Blk.new w 23 [.int .i64 t, .int .i64 s, .int .i64 l, .int .i64 b])
  have HY := Lib.hid (fun W => few9_yes t s l b W hg)
  have HI := Lib.hid hA
  have HZ := Lib.hid hz
  have HL := Lib.hid hl
  have HTh := Lib.hid hth
  have HLa : Hid (∀ W, Calls Tryz.prog 18 #[.agg #[.int .i64 t, .int .i64 s, .int .i64 l, .int .i64 b, .slice none 0 0]] W (GrNew W t s l b [])) := Lib.hid (fun W => lay_ok W none 0 0 t s l b [] hg rfl (by decide) (fun h => absurd h (by decide)))
  have HP0 := Lib.hid (PlaceAt.zero (t := t) (s := s) (l := l) (b := b) (th := th))
  obtain ⟨hc, h1, h2, h3, h4⟩ := id hg
  obtain ⟨⟨q0, q1⟩, ⟨q2, q3⟩, ⟨q4, q5⟩, q6, q7⟩ := id hc
  have HOk := Lib.hid (okayF hc)
  have hl8 : l ≤ 8 := by omega
  have hl1 : 0 < l := by omega
  have ht6 : t ≤ 6 := by omega
  have hs30 : s ≤ 30 := by omega
  have hs1 : 0 < s := by omega
  have hN9 : wN t s l b ≤ 90 := by have := wN_le (t := t) (s := s) (l := l) (b := b) (by omega) (by omega) (by omega) (by omega); omega
  have HN9 := Lib.hid hN9
  have HF0 : Hid (layF t s l b 0 = (t : Int)) := Lib.hid rfl
  have HF2 : Hid (layF t s l b 2 = (l : Int)) := Lib.hid rfl
  have hmk := fun W => make_ints15 l (by omega) W
  have HMd := Lib.hid (made_ints15 l)
  generalize madeCells #[.int .i64 0] l = MW at *
  have d0 : decide ((th : Int) < 0) = false := by simp
  have d1 : decide ((t : Int) ≤ (th : Int)) = false := by simp; omega
  have d1' : decide (t ≤ th) = false := by simp; omega
  have d60 : decide (60 < n) = false := by simp; omega
  have d60' : decide ((60 : Int) < (n : Int)) = false := by simp; omega
  clear hA hz hl hg hc h1 h2 h3 h4 q0 q1 q2 q3 q4 q5 q6 q7 hN9 hth
  go_enter Tryz.func5, Tryz.ntmps5
  go_upto_region 1 with fail
  generalize w.alloc (.cells #[.int .i64 t, .int .i64 s, .int .i64 l, .int .i64 b] 23) = W0 at *
  have y0 : W0.cell? ⟨w.heap.size, 0, none⟩ = some (.int .i64 t) := (B0.out).cell 0
  have y1 : W0.cell? ⟨w.heap.size, 1, none⟩ = some (.int .i64 s) := (B0.out).cell 1
  have y2 : W0.cell? ⟨w.heap.size, 2, none⟩ = some (.int .i64 l) := (B0.out).cell 2
  have y3 : W0.cell? ⟨w.heap.size, 3, none⟩ = some (.int .i64 b) := (B0.out).cell 3
  go_wp2_with fail
  refine (HY.out _).mono ?_
  rintro e w1 ⟨rfl, x1⟩
  have X1 := Lib.hid (X0.out.trans x1)
  have B1 := Lib.hid (B0.out.ext x1)
  clear x1 y0 y1 y2 y3 X0 B0 HY
  have y0 : w1.cell? ⟨w.heap.size, 0, none⟩ = some (.int .i64 t) := (B1.out).cell 0
  have y1 : w1.cell? ⟨w.heap.size, 1, none⟩ = some (.int .i64 s) := (B1.out).cell 1
  have y2 : w1.cell? ⟨w.heap.size, 2, none⟩ = some (.int .i64 l) := (B1.out).cell 2
  have y3 : w1.cell? ⟨w.heap.size, 3, none⟩ = some (.int .i64 b) := (B1.out).cell 3
  go_upto_region 3 with fail
  clear d0 d1 d1' d60 d60'
  have HSb : Hid (∀ W, Ext w1 W → W.cell? ⟨w.heap.size, 0, none⟩ = some (.int .i64 t) ∧ W.cell? ⟨w.heap.size, 1, none⟩ = some (.int .i64 s) ∧ W.cell? ⟨w.heap.size, 2, none⟩ = some (.int .i64 l) ∧ W.cell? ⟨w.heap.size, 3, none⟩ = some (.int .i64 b)) := Lib.hid (fun W x => ⟨(B1.out.ext x).cell 0, (B1.out.ext x).cell 1, (B1.out.ext x).cell 2, (B1.out.ext x).cell 3⟩)
  go_wp2_with fail
  refine (HLa.out _).mono ?_
  rintro e w3 ⟨gl, gm, dv, pv, g, R, rv, rfl, bl, gr⟩
  have BL := Lib.hid bl
  have GR := Lib.hid gr
  clear bl gr HLa y0 y1 y2 y3
  obtain ⟨y0, y1, y2, y3⟩ := HSb.out w3 GR.out.mem.lt.1
  clear y0 y1 y3
  go_upto_block 0 with fail
  have x4 := (Ext.refl w3).alloc (.cells MW 3)
  have bi := Blk.new w3 3 ((List.replicate l (0 : Int)).map (Value.int .i64))
  rw [List.map_replicate, ← HMd.out, ← List.map_replicate] at bi
  have M4 : Hid (IsMem (fun q => q = gl ∨ q = w3.heap.size) (w3.alloc (.cells MW 3)) w1 (w3.alloc (.cells MW 3)) gm dv pv (groundSt t s l b [])) := Lib.hid (GR.out.mem.hold x4 (fun q hq => by
    have hbl := BL.out.lt
    rcases hq with e | e
    · rw [e]; exact ⟨by simp; omega, Or.inl (Or.inr rfl)⟩
    · rw [e]; exact ⟨by simp, Or.inr (Nat.le_refl _)⟩))
  have L4 : Hid (Blk (w3.alloc (.cells MW 3)) gl 256 (cellsF (layF t s l b))) := Lib.hid (BL.out.ext x4)
  have I4 := Lib.hid bi
  have nli : gl ≠ w3.heap.size := by have := BL.out.lt; omega
  have hi1 : w1.heap.size ≤ w3.heap.size := GR.out.mem.lt.1.size
  generalize groundSt t s l b [] = st at *
  generalize w3.alloc (.cells MW 3) = W4 at *
  generalize w3.heap.size = gi at *
  clear x4 bi hmk HMd y2 BL GR
  go_wp2_with fail
  go_loopw [12] (fun i wr => ∃ (k : Nat) (lg : List Int) (st : MSt), k ≤ n ∧ i = .int .i64 k ∧ IsMem (fun q => q = gl ∨ q = gi) wr w1 wr gm dv pv st ∧ Blk wr gl 256 (cellsF (layF t s l b)) ∧ Blk wr gi 3 (lg.map (Value.int .i64)) ∧ PlaceAt t s l b th k lg st) (fun i _ => n - (intOf i).toNat)
  case atStart => exact ⟨0, _, _, Nat.zero_le _, rfl, M4.out, L4.out, I4.out, HP0.out⟩
  case round =>
    obtain ⟨k, lg, sk, hk, rfl, mk, lk, ik, pk⟩ := hrel
    have MK := Lib.hid mk
    have LK := Lib.hid lk
    have IK := Lib.hid ik
    have PK := Lib.hid pk
    clear mk lk ik pk M4 L4 I4 HP0
    by_cases hlt : k < n
    · have v1 : decide (k < n) = true := by simp; omega
      have v2 : decide ((k : Int) < (n : Int)) = true := by simp; omega
      obtain ⟨ad, hAd, hadb, hcc⟩ := (HI.out.ext (X1.out.trans MK.out.lt.1)) (by have := HL.out; omega)
      have p0 := hcc k (by have := HL.out; omega)
      have HPz : Hid (∀ W, Ext w W → W.cell? (ad.add k) = some (.int .u8 (zs.getD k 0))) := Lib.hid (fun W x => by
        obtain ⟨ad', hA', _, hcc'⟩ := (HI.out.ext x) (by have := HL.out; omega)
        rw [hAd] at hA'
        injection hA' with hA'
        subst hA'
        exact hcc' k (by have := HL.out; omega))
      have zr := HZ.out k (by have := HL.out; omega)
      generalize zs.getD k 0 = z at *
      obtain ⟨zn, rfl⟩ := Int.eq_ofNat_of_zero_le zr.1
      subst hAd
      obtain ⟨mn, hmn⟩ : ∃ mn : Nat, zn % 128 = mn := ⟨_, rfl⟩
      obtain ⟨pn, hpn⟩ : ∃ pn : Nat, mn % l = pn := ⟨_, rfl⟩
      obtain ⟨sn, hsn⟩ : ∃ sn : Nat, mn % s = sn := ⟨_, rfl⟩
      have zr2 := zr.2
      have m128 : mn < 128 := by rw [← hmn]; exact Nat.mod_lt _ (by decide)
      have pl : pn < l := by rw [← hpn]; exact Nat.mod_lt _ hl1
      have sl : sn < s := by rw [← hsn]; exact Nat.mod_lt _ hs1
      have g1 : ((zn : Int)).tmod 128 = (mn : Int) := by rw [Int.tmod_eq_emod_of_nonneg (by omega), ← hmn]; rfl
      have G1 := Lib.hid g1
      have g1b : ((zn : Int)) % 128 = (mn : Int) := by rw [← hmn]; rfl
      have G1b := Lib.hid g1b
      have G2 : Hid (IntKind.i64.wrap (mn : Int) = (mn : Int)) := Lib.hid (i64w _ (by omega) (by omega))
      have G2b : Hid (wrap64 (mn : Int) = (mn : Int)) := Lib.hid (by unfold wrap64; omega)
      have G2c : Hid (IntKind.u8.wrap (mn : Int) = (mn : Int)) := Lib.hid (by unfold IntKind.wrap; simp [IntKind.signed, IntKind.bits]; omega)
      have G3 : Hid (((mn : Int)).tmod (l : Int) = (pn : Int)) := Lib.hid (by rw [Int.tmod_eq_emod_of_nonneg (by omega), ← hpn]; rfl)
      have G3b : Hid (((mn : Int)) % (l : Int) = (pn : Int)) := Lib.hid (by rw [← hpn]; rfl)
      have G4 : Hid (((mn : Int)).tmod (s : Int) = (sn : Int)) := Lib.hid (by rw [Int.tmod_eq_emod_of_nonneg (by omega), ← hsn]; rfl)
      have G4b : Hid (((mn : Int)) % (s : Int) = (sn : Int)) := Lib.hid (by rw [← hsn]; rfl)
      have G5 : Hid (IntKind.i64.wrap (pn : Int) = (pn : Int)) := Lib.hid (i64w _ (by omega) (by omega))
      have G6 : Hid (IntKind.i64.wrap (sn : Int) = (sn : Int)) := Lib.hid (i64w _ (by omega) (by omega))
      clear hcc zr hmn hpn hsn g1 g1b hadb
      obtain ⟨y0, y1, y2, y3⟩ := HSb.out wr MK.out.lt.1
      clear y0 y1 y3
      have ht0 : ((l : Int) == 0) = false := by rw [beq_eq_false_iff_ne]; omega
      have ht0' : ¬ (l : Int) = 0 := by omega
      have g1 := G1.out
      have g2 := G2.out
      have g2c := G2c.out
      have g3 := G3.out
      have g5 := G5.out
      go_wp2_with fail
      go_quiet (fail)
      go_upto_region 9 with fail
      have xq := Lib.hid (ext_drewN (Ext.refl wr) nq)
      have p1 : (wr.drewN nq).cell? (ad.add k) = some (.int .u8 (zn : Int)) := HPz.out _ ((X1.out.trans MK.out.lt.1).trans xq.out)
      obtain ⟨y0, y1b, y2b, y3⟩ := HSb.out (wr.drewN nq) (MK.out.lt.1.trans xq.out)
      clear y0 y2b y3 p0 y2 g3 g5 ht0 ht0'
      generalize wr.drewN nq = wq at *
      have ht0 : ((s : Int) == 0) = false := by rw [beq_eq_false_iff_ne]; omega
      have ht0' : ¬ (s : Int) = 0 := by omega
      have g4 := G4.out
      have g6 := G6.out
      go_quiet (fail)
      go_upto_region 10 with fail
      have xu := Lib.hid (xq.out.trans (ext_drewN (Ext.refl wq) nq))
      generalize wq.drewN nq = wu at *
      have p2 : wu.cell? (ad.add k) = some (.int .u8 (zn : Int)) := HPz.out _ ((X1.out.trans MK.out.lt.1).trans xu.out)
      have MU := Lib.hid ((MK.out.ext xu.out).here)
      have LU := Lib.hid (LK.out.ext xu.out)
      have IU := Lib.hid (IK.out.ext xu.out)
      obtain ⟨e8, he8⟩ : ∃ e8, decide ((128 : Int) ≤ (zn : Int)) = e8 := ⟨_, rfl⟩
      have he8' : decide (128 ≤ zn) = e8 := by rw [← he8]; simp; omega
      clear p1 y1b g1 g2 g2c g4 g6 ht0 ht0' xq xu MK LK IK G1 G1b G2 G2b G2c G3 G3b G4 G4b G5 G6 HPz
      go_upto_if 81 with fail
      clear he8 he8' p2
      go_cut [11] (fun s11 wx => s11 = .slice (some ⟨gi, 0, none⟩) l l ∧ ∃ (lg' : List Int) (sk' : MSt), IsMem (fun q => q = gl ∨ q = gi) wx w1 wx gm dv pv sk' ∧ Blk wx gl 256 (cellsF (layF t s l b)) ∧ Blk wx gi 3 (lg'.map (Value.int .i64)) ∧ PlaceAt t s l b th (k + 1) lg' sk')
      case first =>
        have hgi : gi < wu.heap.size := IU.out.lt
        have hgl : gl < wu.heap.size := LU.out.lt
        have hll : lg.length = l := PK.out.pl.1
        cases e8
        · obtain ⟨r0, r1, r2, r3⟩ := PK.out.reserve HTh.out hl1 hl8 HN9.out sn (by omega)
          obtain ⟨P, hP⟩ : ∃ P : Nat → RvM × MSt, ∀ j, stepsR (rvS (layF t s l b) th sn) (⟨0, 0, false⟩, sk) j = P j := ⟨_, fun _ => rfl⟩
          have HSc : Hid (∀ j : Nat, rvS (layF t s l b) th sn (P j).1 (P j).2 = P (j + 1)) := Lib.hid (fun j => by rw [← hP, ← hP]; rfl)
          have HP0 : Hid (P 0 = (⟨0, 0, false⟩, sk)) := Lib.hid (hP 0).symm
          have hP4 := hP (l + 4)
          rw [hP4] at r1 r2 r3
          have HR0 : Hid (∀ j : Nat, j ≤ 12 → (P j).1.Wf (l : Int) ∧ Fine (30 + 13 * k + j) (P j).2.dev ∧ CalmN (100 + 13 * (k : Int) + (j : Int)) (P j).2) := Lib.hid (fun j hj => by rw [← hP]; exact r0 j hj)
          have hws : -1 ≤ wantD lg l l ∧ wantD lg l l < (l : Int) := by
            rcases wantD_spec lg l l (Nat.le_refl l) with ⟨h1, _⟩ | ⟨p, h1, _, h3, _, _⟩ <;> rw [h1] <;> omega
          obtain ⟨wd, hwd⟩ : ∃ wd, wantD lg l l = wd := ⟨_, rfl⟩
          rw [hwd] at r2 r3 hws
          have HR1 := Lib.hid r1
          have HR2 := Lib.hid r2
          have HR3 := Lib.hid r3
          have HWd := Lib.hid hwd
          have HWs := Lib.hid hws
          clear r0 r1 r2 r3 hP hP4 hwd hws
          obtain ⟨y0, y1, y2, y3⟩ := HSb.out wu MU.out.lt.1
          clear y0 y1 y3
          have hwl : IntKind.i64.wrap ((l : Int) - 1) = (l : Int) - 1 := i64w _ (by omega) (by omega)
          have hwl' : wrap64 ((l : Int) - 1) = (l : Int) - 1 := by unfold wrap64; omega
          go_wp2_with fail
          clear y2 hwl hwl'
          go_loopw [16, 17] (fun a i wr => ∃ m : Nat, m ≤ l ∧ a = .int .i64 (wantD lg l m) ∧ i = .int .i64 (((l - m : Nat) : Int) - 1) ∧ wu = wr) (fun a i _ => (intOf i + 1).toNat)
          case atStart => exact ⟨0, Nat.zero_le _, rfl, by rw [Nat.sub_zero], rfl⟩
          case round =>
            obtain ⟨m, hm, rfl, rfl, rfl⟩ := hrel
            by_cases hml : m < l
            · obtain ⟨j, hj⟩ : ∃ j, l - m = j + 1 := ⟨l - m - 1, by omega⟩
              have hjl : j < l := by omega
              have e17 : (((l - m : Nat) : Int) - 1) = (j : Int) := by omega
              rw [e17]
              have v1 : decide ((0 : Int) ≤ (j : Int)) = true := by simp
              have v2 : decide ((j : Int) < (l : Int)) = true := by simp; omega
              have v3 : decide (j < l) = true := by simp; omega
              have hw1 : IntKind.i64.wrap ((j : Int) - 1) = (j : Int) - 1 := i64w _ (by omega) (by omega)
              have hw2 : wrap64 ((j : Int) - 1) = (j : Int) - 1 := by unfold wrap64; omega
              have hwD : wantD lg l (m + 1) = if lg.getD j 0 = 0 then (j : Int) else wantD lg l m := by
                show (if lg.getD (l - (m + 1)) 0 = 0 then ((l - (m + 1) : Nat) : Int) else wantD lg l m) = _
                rw [show l - (m + 1) = j by omega]
              have c0 : wu.cell? ⟨gi, j, none⟩ = some (.int .i64 (lg.getD j 0)) := (IU.out.cell j).trans (map_cell lg j (by omega))
              have hj2 : l - (m + 1) = j := by omega
              generalize lg.getD j 0 = x at *
              by_cases x0 : x = 0
              · subst x0
                rw [if_pos rfl] at hwD
                have HwD := Lib.hid hwD
                clear hwD e17
                go_wp2_with fail
                go_roundw
                case rel => exact ⟨m + 1, by omega, by rw [HwD.out], by rw [hj2], by first | trivial | rfl⟩
                case measure => simp [intOf] <;> omega
              · have d0 : (x == 0) = false := by rw [beq_eq_false_iff_ne]; exact x0
                rw [if_neg x0] at hwD
                have HwD := Lib.hid hwD
                clear hwD e17
                go_wp2_with fail
                go_roundw
                case rel => exact ⟨m + 1, by omega, by rw [HwD.out], by rw [hj2], by first | trivial | rfl⟩
                case measure => simp [intOf] <;> omega
            · obtain rfl : l = m := by omega
              have e17 : (((l - l : Nat) : Int) - 1) = -1 := by omega
              rw [e17, HWd.out]
              clear e17
              have v1 : decide ((0 : Int) ≤ -1) = false := by decide
              go_wp2_with fail
              refine (newReserve_ok wu gl th sn).mono ?_
              rintro e w4 ⟨gp, rfl, lp, bp, x4⟩
              have M4 : Hid (IsMem (fun q => q = gl ∨ q = gi ∨ q = gp) w4 w1 w4 gm dv pv (P 0).2) := Lib.hid (by
                rw [HP0.out]
                exact MU.out.hold x4 (fun q hq => by
                  rcases hq with e | e | e
                  · rw [e]; exact ⟨(LU.out.ext x4).lt, Or.inl (Or.inl rfl)⟩
                  · rw [e]; exact ⟨(IU.out.ext x4).lt, Or.inl (Or.inr rfl)⟩
                  · rw [e]; exact ⟨bp.lt, Or.inr lp⟩))
              have L4 : Hid (Blk w4 gl 256 (cellsF (layF t s l b))) := Lib.hid (LU.out.ext x4)
              have I4 : Hid (Blk w4 gi 3 (lg.map (Value.int .i64))) := Lib.hid (IU.out.ext x4)
              have P4 : Hid (Blk w4 gp 196 ((P 0).1.cells gl th sn)) := Lib.hid (by rw [HP0.out]; exact bp)
              have hw1 : w1.heap.size ≤ gp := Nat.le_trans MU.out.lt.1.size lp
              have npl : gl ≠ gp := by omega
              have npi : gi ≠ gp := by omega
              clear bp x4 lp MU LU IU v1
              go_wp2_with fail
              go_loopw [19] (fun i wr => ∃ j : Nat, j ≤ l + 4 ∧ i = .int .i64 j ∧ IsMem (fun q => q = gl ∨ q = gi ∨ q = gp) wr w1 wr gm dv pv (P j).2 ∧ Blk wr gl 256 (cellsF (layF t s l b)) ∧ Blk wr gi 3 (lg.map (Value.int .i64)) ∧ Blk wr gp 196 ((P j).1.cells gl th sn)) (fun i _ => (l + 4) - (intOf i).toNat)
              case atStart => exact ⟨0, by omega, rfl, M4.out, L4.out, I4.out, P4.out⟩
              case round =>
                obtain ⟨j, hj, rfl, mj, lj, ij, pj⟩ := hrel
                have MJ := Lib.hid mj
                have LJ := Lib.hid lj
                have IJ := Lib.hid ij
                have PJ := Lib.hid pj
                clear mj lj ij pj M4 L4 I4 P4
                obtain ⟨y0, y1, y2, y3⟩ := HSb.out wr MJ.out.lt.1
                clear y0 y1 y3
                have HWL : Hid (IntKind.i64.wrap ((l : Int) + 4) = (l : Int) + 4) := Lib.hid (i64w _ (by omega) (by omega))
                have HWL' : Hid (wrap64 ((l : Int) + 4) = (l : Int) + 4) := Lib.hid (by unfold wrap64; omega)
                by_cases hjl : j < l + 4
                · have v1 : decide (j < l + 4) = true := by simp; omega
                  have v2 : decide ((j : Int) < (l : Int) + 4) = true := by simp; omega
                  have ha := HR0.out j (by omega)
                  have HSt := Lib.hid (rvStep_ok (slot := (sn : Int)) (L := l) (i := 30 + 13 * k + j) MJ.out (ha.2.2.calm (by omega)) (by omega) ha.2.1 HOk.out ⟨by omega, by omega⟩ ha.1 HF2.out (by omega) PJ.out LJ.out (Or.inr (Or.inr rfl)) (Or.inl rfl) npl hw1)
                  have e1 := HSc.out j
                  rw [e1] at HSt
                  clear e1 ha
                  have hwl := HWL.out
                  have hwl' := HWL'.out
                  go_wp2_with fail
                  refine HSt.out.mono ?_
                  rintro e w5 ⟨rfl, m5, b5, k5⟩
                  have M5 := Lib.hid m5
                  have B5 := Lib.hid b5
                  have L5 : Hid (Blk w5 gl 256 (cellsF (layF t s l b))) := Lib.hid ((k5 gl (Or.inl rfl) npl).trans LJ.out)
                  have I5 : Hid (Blk w5 gi 3 (lg.map (Value.int .i64))) := Lib.hid ((k5 gi (Or.inr (Or.inl rfl)) npi).trans IJ.out)
                  clear m5 b5 k5 HSt MJ LJ IJ PJ y2 hwl hwl'
                  go_wp2_with fail
                  go_roundw
                  case rel => exact ⟨j + 1, by omega, by go_num, M5.out, L5.out, I5.out, B5.out⟩
                  case measure => simp [intOf]; omega
                · have v1 : decide (j < l + 4) = false := by simp; omega
                  have v2 : decide ((j : Int) < (l : Int) + 4) = false := by simp; omega
                  obtain rfl : l + 4 = j := by omega
                  have htl : (P (l + 4)).1.tells (layF t s l b 2) = wd := HR2.out
                  have HDo := Lib.hid (fun W (x : Ext wr W) => doneReserve_ok W gp true (by have := (PJ.out.ext x).cell 2; rw [← HR1.out]; exact this))
                  have HPa := Lib.hid (fun W (x : Ext wr W) => place_ok (F := layF t s l b) W gp gl (P (l + 4)).1 th sn (PJ.out.ext x) (LJ.out.ext x))
                  rw [htl] at HPa
                  have dz : (wd != wd) = false := by simp
                  clear htl
                  have hwl := HWL.out
                  have hwl' := HWL'.out
                  generalize wr = wt at *
                  go_wp2_with fail
                  refine (HDo.out _ (Ext.refl _)).mono ?_
                  rintro e wa ⟨rfl, rfl⟩
                  go_wp2_with fail
                  refine (HPa.out _ (Ext.refl _)).mono ?_
                  rintro e wa ⟨rfl, xa⟩
                  have MA := Lib.hid ((MJ.out.ext xa).here)
                  have LA := Lib.hid (LJ.out.ext xa)
                  have IA := Lib.hid (IJ.out.ext xa)
                  clear xa y2 hwl hwl' v1 v2 HDo HPa MJ LJ IJ PJ HR0 HSc HP0
                  by_cases hw0 : 0 ≤ wd
                  · obtain ⟨p, rfl⟩ := Int.eq_ofNat_of_zero_le hw0
                    have hpl : p < l := by have := HWs.out; omega
                    have v1 : decide ((0 : Int) ≤ (p : Int)) = true := by simp
                    have v2 : decide ((p : Int) < (l : Int)) = true := by simp; omega
                    have v3 : decide (p < l) = true := by simp; omega
                    have hr3 := HR3.out
                    rw [if_pos hw0, Int.toNat_natCast] at hr3
                    have PA := Lib.hid hr3
                    have hws1 : IntKind.i64.wrap ((sn : Int) + 1) = (sn : Int) + 1 := i64w _ (by omega) (by omega)
                    have hws2 : wrap64 ((sn : Int) + 1) = (sn : Int) + 1 := by unfold wrap64; omega
                    have c0 : wa.cell? ⟨gi, p, none⟩ = some (.int .i64 (lg.getD p 0)) := (IA.out.cell p).trans (map_cell lg p (by omega))
                    have f0 : wa.frozen? ⟨gi, p, none⟩ = false := IA.out.frozen p
                    clear hr3 hw0
                    go_wp2_with fail
                    have fr : Fr (fun b => b = gi) wa (wa.setCell ⟨gi, p, none⟩ (.int .i64 (((sn : Int) + 1)))) := Fr.setCell (S := fun b => b = gi) (p := ⟨gi, p, none⟩) (Fr.refl _ wa) (Or.inl rfl) _
                    have MB := Lib.hid ((MA.out.turn fr (fun q e => by rw [e]; exact Or.inr (Or.inl rfl)) (fun q e => by rw [e]; exact hi1)).less (Q' := fun q => q = gl ∨ q = gi) (fun q hq => by rcases hq with e | e; exact Or.inl e; exact Or.inr (Or.inl e)) (fun _ _ => rfl))
                    have LB := Lib.hid (LA.out.far (p := ⟨gi, p, none⟩) nli (.int .i64 (((sn : Int) + 1))))
                    have hib := IA.out.set p (.int .i64 (((sn : Int) + 1)))
                    rw [map_set] at hib
                    have IB := Lib.hid hib
                    clear hib fr c0 f0 MA LA IA
                    generalize wa.setCell ⟨gi, p, none⟩ (.int .i64 (((sn : Int) + 1))) = wb at *
                    go_meet
                    exact ⟨rfl, _, _, MB.out, LB.out, IB.out, PA.out⟩
                  · have hwm : wd = -1 := by have := HWs.out; omega
                    subst hwm
                    have v1 : decide ((0 : Int) ≤ -1) = false := by decide
                    have hr3 := HR3.out
                    rw [if_neg hw0] at hr3
                    have PA := Lib.hid hr3
                    clear hr3 hw0
                    go_wp2_with fail
                    go_meet
                    exact ⟨rfl, _, _, MA.out.less (fun q hq => by rcases hq with e | e; exact Or.inl e; exact Or.inr (Or.inl e)) (fun _ _ => rfl), LA.out, IA.out, PA.out⟩
        · have HSt0 := Lib.hid (fun W gp (M : IsMem (fun q => q = gl ∨ q = gi ∨ q = gp) W w1 W gm dv pv sk) (hb : Blk W gp 214 (cnCells gl th pn false)) (hl : Blk W gl 256 (cellsF (layF t s l b))) (nlp : gl ≠ gp) (p0 : w1.heap.size ≤ gp) => cnStep_ok M (PK.out.ca.calm (by omega)) HOk.out hb hl (Or.inr (Or.inr rfl)) (Or.inl rfl) nlp p0)
          have PA := Lib.hid (PK.out.cancel HTh.out pn pl)
          go_wp2_with fail
          refine (newCancel_ok wu gl th pn).mono ?_
          rintro e w4 ⟨gp, rfl, lp, bp, x4⟩
          have M4 : Hid (IsMem (fun q => q = gl ∨ q = gi ∨ q = gp) w4 w1 w4 gm dv pv sk) := Lib.hid (MU.out.hold x4 (fun q hq => by
            rcases hq with e | e | e
            · rw [e]; exact ⟨(LU.out.ext x4).lt, Or.inl (Or.inl rfl)⟩
            · rw [e]; exact ⟨(IU.out.ext x4).lt, Or.inl (Or.inr rfl)⟩
            · rw [e]; exact ⟨bp.lt, Or.inr lp⟩))
          have npl : gl ≠ gp := by omega
          have npi : gi ≠ gp := by omega
          have HSt := Lib.hid (HSt0.out w4 gp M4.out bp (LU.out.ext x4) npl (Nat.le_trans MU.out.lt.1.size lp))
          have L4 : Hid (Blk w4 gl 256 (cellsF (layF t s l b))) := Lib.hid (LU.out.ext x4)
          have I4 : Hid (Blk w4 gi 3 (lg.map (Value.int .i64))) := Lib.hid (IU.out.ext x4)
          clear bp x4 lp MU LU IU HSt0 M4
          go_wp2_with fail
          refine HSt.out.mono ?_
          rintro e wa ⟨rfl, m5, b5, k5⟩
          have MA := Lib.hid m5.here
          have LA : Hid (Blk wa gl 256 (cellsF (layF t s l b))) := Lib.hid ((k5 gl (Or.inl rfl) npl).trans L4.out)
          have IA : Hid (Blk wa gi 3 (lg.map (Value.int .i64))) := Lib.hid ((k5 gi (Or.inr (Or.inl rfl)) npi).trans I4.out)
          clear m5 b5 k5 HSt L4 I4
          have v2 : decide ((pn : Int) < (l : Int)) = true := by simp; omega
          have v3 : decide (pn < l) = true := by simp; omega
          have c0 : wa.cell? ⟨gi, pn, none⟩ = some (.int .i64 (lg.getD pn 0)) := (IA.out.cell pn).trans (map_cell lg pn (by omega))
          have f0 : wa.frozen? ⟨gi, pn, none⟩ = false := IA.out.frozen pn
          go_wp2_with fail
          have fr : Fr (fun b => b = gi) wa (wa.setCell ⟨gi, pn, none⟩ (.int .i64 (0))) := Fr.setCell (S := fun b => b = gi) (p := ⟨gi, pn, none⟩) (Fr.refl _ wa) (Or.inl rfl) _
          have MB := Lib.hid ((MA.out.turn fr (fun q e => by rw [e]; exact Or.inr (Or.inl rfl)) (fun q e => by rw [e]; exact hi1)).less (Q' := fun q => q = gl ∨ q = gi) (fun q hq => by rcases hq with e | e; exact Or.inl e; exact Or.inr (Or.inl e)) (fun _ _ => rfl))
          have LB := Lib.hid (LA.out.far (p := ⟨gi, pn, none⟩) nli (.int .i64 (0)))
          have hib := IA.out.set pn (.int .i64 (0))
          rw [map_set] at hib
          have IB := Lib.hid hib
          clear hib fr c0 f0 MA LA IA
          generalize wa.setCell ⟨gi, pn, none⟩ (.int .i64 (0)) = wb at *
          go_meet
          exact ⟨rfl, _, _, MB.out, LB.out, IB.out, PA.out⟩
      case rest =>
        obtain ⟨rfl, lg', sk', m', l', i', pk'⟩ := hcut
        generalize wc = wv at *
        have MV := Lib.hid m'
        have LV := Lib.hid l'
        have IV := Lib.hid i'
        have PV := Lib.hid pk'
        have hll : lg'.length = l := pk'.pl.1
        have HRg := Lib.hid pk'.rg
        have hsl0 := slots_ok (t := (th : Int)) m' HOk.out t l HF0.out (by omega) HF2.out l'
        rw [pk'.slots HTh.out] at hsl0
        have HSl := Lib.hid hsl0
        clear m' l' i' pk' hsl0 MU LU IU PK
        generalize hVV : (fun n => lg'.getD n 0) = VV at *
        have hV : ∀ n, VV n = lg'.getD n 0 := fun n => by rw [← hVV]
        clear hVV
        go_wp2_with fail
        refine HSl.out.mono ?_
        rintro e w7 ⟨v, rfl, row, x7⟩
        have ROW := Lib.hid row
        obtain ⟨av, cv, hvv, hI, hcv1⟩ := row.form
        subst hvv
        have M7 := Lib.hid ((MV.out.ext x7).here)
        have L7 := Lib.hid (LV.out.ext x7)
        have I7 := Lib.hid (IV.out.ext x7)
        have hlen : (logL VV (List.finRange l)).length ≤ l := by have := logL_len VV (List.finRange l); simpa using this
        clear row x7 HSl hI hcv1 MV LV IV
        obtain ⟨ws, hws⟩ : ∃ ws, logL VV (List.finRange l) = ws := ⟨_, rfl⟩
        rw [hws] at ROW hlen
        rw [hws]
        have HZs := Lib.hid hws
        clear hws
        obtain ⟨zl, hzl⟩ : ∃ zl, ws.length = zl := ⟨_, rfl⟩
        rw [hzl] at hlen
        rw [hzl]
        have HZl := Lib.hid hzl
        clear hzl
        go_wp2_with fail
        go_loopw [21, 22] (fun a i wr => ∃ q : Nat, q ≤ l ∧ i = .int .i64 q ∧ a = .int .i64 ((logL VV ((List.finRange l).take q)).length : Nat) ∧ Ext w7 wr) (fun a i _ => l - (intOf i).toNat)
        case atStart => exact ⟨0, Nat.zero_le _, rfl, by simp [logL], Ext.refl _⟩
        case round =>
          obtain ⟨q, hq, rfl, rfl, xr⟩ := hrel
          have XR := Lib.hid xr
          obtain ⟨y0, y1, y2, y3⟩ := HSb.out wr (M7.out.lt.1.trans xr)
          clear xr y0 y1 y3
          by_cases hql : q < l
          · have v1 : decide (q < l) = true := by simpa using hql
            have v2 : decide ((q : Int) < (l : Int)) = true := by simp; omega
            have hta := take_app VV q hql
            have htm := take_more VV q hql
            rw [HZs.out] at hta
            have c0 : wr.cell? ⟨gi, q, none⟩ = some (.int .i64 (VV q)) := by rw [hV]; exact ((I7.out.ext XR.out).cell q).trans (map_cell lg' q (by omega))
            have hxr := HRg.out q hql
            rw [← hV] at hxr
            obtain ⟨pre, hpre⟩ : ∃ pre, logL VV ((List.finRange l).take q) = pre := ⟨_, rfl⟩
            obtain ⟨post, hpost⟩ : ∃ post, logL VV ((List.finRange l).drop (q + 1)) = post := ⟨_, rfl⟩
            rw [hpre] at hta htm
            rw [hpost] at hta
            rw [hpre]
            have HTm := Lib.hid htm
            clear hpre hpost htm
            generalize VV q = x at *
            obtain ⟨plen, hpl⟩ : ∃ plen, pre.length = plen := ⟨_, rfl⟩
            rw [hpl]
            by_cases x0 : x = 0
            · rw [if_pos x0, List.append_nil] at hta
              have HTm2 : Hid ((logL VV ((List.finRange l).take (q + 1))).length = plen) := Lib.hid (by rw [HTm.out, if_pos x0, List.append_nil]; exact hpl)
              subst x0
              have d0 : decide ((0 : Int) < 0) = false := by decide
              clear hta hpl HTm hxr
              go_wp2_with fail
              go_roundw
              case rel => exact ⟨q + 1, by omega, by go_num, by rw [HTm2.out], XR.out⟩
              case measure => simp [intOf]; omega
            · have d0 : decide ((0 : Int) < x) = true := by simp; omega
              rw [if_neg x0, toN_pos x (by omega) hxr.2] at hta
              have HTm2 : Hid ((logL VV ((List.finRange l).take (q + 1))).length = plen + 1) := Lib.hid (by rw [HTm.out, if_neg x0, List.length_append, hpl]; rfl)
              have hzl2 : plen < zl := by rw [← HZl.out, hta, ← hpl]; simp only [List.length_append, List.length_cons, List.length_nil]; omega
              have hget : ws.getD plen 0 = x - 1 := by rw [hta, ← hpl]; simp [List.getD_eq_getElem?_getD]
              have d1 : decide ((zl : Int) ≤ (plen : Int)) = false := by simp; omega
              have d1' : decide (zl ≤ plen) = false := by simp; omega
              have d2 : decide ((plen : Int) < (zl : Int)) = true := by simp; omega
              have d2' : decide (plen < zl) = true := by simp; omega
              obtain ⟨ga, ca, hav, hca, hcm, lga, hga⟩ := (RowN.of_row ROW.out).at_ (by rw [HZl.out]; omega)
              injection hav with hav1 hav2 hav3
              have hcell : ∀ W, Ext w7 W → W.cell? ⟨ga, plen, none⟩ = some (.int .i64 (x - 1)) := fun W xx => by
                have hr := RowN.cell (j := plen) (RowN.of_row (by rw [← hav3, ← hav1] at *; exact ROW.out)) (by rw [HZl.out]; omega)
                rw [hget] at hr
                exact cellE hr xx
              subst hav1 hav3
              have c1 := hcell wr XR.out
              have hwx : IntKind.i64.wrap (x - 1) = x - 1 := i64w _ (by omega) (by omega)
              have hwx' : wrap64 (x - 1) = x - 1 := by unfold wrap64; omega
              have dt : ((x - 1) != (x - 1)) = false := by simp
              clear hta hpl HTm hxr x0 hcell hget hav2 hca hcm
              go_wp2_with fail
              go_quiet (fail)
              go_upto_region 37 with fail
              have xq := Lib.hid (XR.out.trans (ext_drewN (Ext.refl wr) nq))
              generalize wr.drewN nq = wq at *
              clear c0 c1 y2
              go_wp2_with fail
              go_roundw
              case rel => exact ⟨q + 1, by omega, by go_num, by rw [HTm2.out]; go_num, xq.out⟩
              case measure => simp [intOf]; omega
          · have v1 : decide (q < l) = false := by simpa using hql
            have v2 : decide ((q : Int) < (l : Int)) = false := by simp; omega
            obtain rfl : l = q := by omega
            rw [show (List.finRange l).take l = List.finRange l from List.take_of_length_le (by simp), HZs.out, HZl.out]
            have dz : ((zl : Int) != (zl : Int)) = false := by simp
            have MR := Lib.hid ((M7.out.ext XR.out).here)
            have LR := Lib.hid (L7.out.ext XR.out)
            have IR := Lib.hid (I7.out.ext XR.out)
            clear M7 L7 I7 XR
            generalize wr = wz at *
            go_wp2_with fail
            go_roundw
            case rel => exact ⟨k + 1, lg', sk', by omega, by go_num, MR.out, LR.out, IR.out, PV.out⟩
            case measure => simp [intOf]; omega
    · have v1 : decide (k < n) = false := by simp; omega
      have v2 : decide ((k : Int) < (n : Int)) = false := by simp; omega
      have X9 := Lib.hid MK.out.lt.1
      clear MK LK IK PK
      generalize wr = wz at *
      go_wp2_with fail
      refine (awake11_ok _).mono ?_
      rintro e w4 ⟨rfl, x4⟩
      have X4 := Lib.hid ((X1.out.trans X9.out).trans x4)
      clear x4
      go_wp2_with fail
      go_ret
      exact ⟨rfl, X4.out⟩

set_option maxRecDepth 100000 in
set_option maxHeartbeats 4000000 in
theorem retirePlaces_no (w : World) (A : Option Addr) (n c : Nat) (t s l b th : Int) (h : ¬ GrOk t s l b ∨ th < 0 ∨ t ≤ th ∨ 60 < n) (hn : n ≤ 9223372036854775807) :
    Calls Tryz.prog 5 #[.agg #[.int .i64 t, .int .i64 s, .int .i64 l, .int .i64 b], .int .i64 th, .slice A n c] w fun e w' => e = .returned (.bool true) ∧ Ext w w' := by
  have X0 := Lib.hid ((Ext.refl w).alloc (.cells #[.int .i64 t, .int .i64 s, .int .i64 l, .int .i64 b] 23))
  have B0 := Lib.hid (Blk.new w 23 [.int .i64 t, .int .i64 s, .int .i64 l, .int .i64 b])
  obtain ⟨fe, HFe, hfe⟩ : ∃ fe, Hid (∀ W, Calls Tryz.prog 27 #[.agg #[.int .i64 t, .int .i64 s, .int .i64 l, .int .i64 b]] W fun e w' => (e = .returned (.bool fe)) ∧ Ext W w') ∧ (fe = false ∨ GrOk t s l b) := by
    by_cases hg : GrOk t s l b
    · exact ⟨true, Lib.hid (fun W => few9_yes t s l b W hg), Or.inr hg⟩
    · exact ⟨false, Lib.hid (fun W => few9_no t s l b W hg), Or.inl rfl⟩
  have h2 : fe = false ∨ th < 0 ∨ t ≤ th ∨ 60 < n := by
    rcases hfe with e | e
    · exact Or.inl e
    · rcases h with h | h
      · exact absurd e h
      · exact Or.inr h
  clear h hfe
  obtain ⟨p1, hp1⟩ : ∃ p1, decide (th < 0) = p1 := ⟨_, rfl⟩
  obtain ⟨p2, hp2⟩ : ∃ p2, decide (t ≤ th) = p2 := ⟨_, rfl⟩
  obtain ⟨p3, hp3⟩ : ∃ p3, decide (60 < n) = p3 := ⟨_, rfl⟩
  have hp3' : decide ((60 : Int) < (n : Int)) = p3 := by
    rw [← hp3]
    by_cases c : 60 < n
    · rw [decide_eq_true c, decide_eq_true (by omega)]
    · rw [decide_eq_false c, decide_eq_false (by omega)]
  have h3 : fe = false ∨ p1 = true ∨ p2 = true ∨ p3 = true := by
    rcases h2 with h | h | h | h
    · exact Or.inl h
    · exact Or.inr (Or.inl (by rw [← hp1]; exact decide_eq_true h))
    · exact Or.inr (Or.inr (Or.inl (by rw [← hp2]; exact decide_eq_true h)))
    · exact Or.inr (Or.inr (Or.inr (by rw [← hp3]; exact decide_eq_true h)))
  clear h2
  go_enter Tryz.func5, Tryz.ntmps5
  go_upto_region 1 with fail
  generalize w.alloc (.cells #[.int .i64 t, .int .i64 s, .int .i64 l, .int .i64 b] 23) = W0 at *
  have y0 : W0.cell? ⟨w.heap.size, 0, none⟩ = some (.int .i64 t) := (B0.out).cell 0
  have y1 : W0.cell? ⟨w.heap.size, 1, none⟩ = some (.int .i64 s) := (B0.out).cell 1
  have y2 : W0.cell? ⟨w.heap.size, 2, none⟩ = some (.int .i64 l) := (B0.out).cell 2
  have y3 : W0.cell? ⟨w.heap.size, 3, none⟩ = some (.int .i64 b) := (B0.out).cell 3
  go_wp2_with fail
  refine (HFe.out _).mono ?_
  rintro e w1 ⟨rfl, xf⟩
  have X1 := Lib.hid (X0.out.trans xf)
  have B1 := Lib.hid (B0.out.ext xf)
  clear xf y0 y1 y2 y3 X0 B0 HFe
  have y0 : w1.cell? ⟨w.heap.size, 0, none⟩ = some (.int .i64 t) := (B1.out).cell 0
  have y1 : w1.cell? ⟨w.heap.size, 1, none⟩ = some (.int .i64 s) := (B1.out).cell 1
  have y2 : w1.cell? ⟨w.heap.size, 2, none⟩ = some (.int .i64 l) := (B1.out).cell 2
  have y3 : w1.cell? ⟨w.heap.size, 3, none⟩ = some (.int .i64 b) := (B1.out).cell 3
  have fin : ∀ {Z : Prop}, fe = false ∨ p1 = true ∨ p2 = true ∨ p3 = true → (fe = false → Z) → (fe = true → p1 = true → Z) → (fe = true → p1 = false → p2 = true → Z) → (fe = true → p1 = false → p2 = false → p3 = true → Z) → Z := fun {Z} h a1 a2 a3 a4 => by
    cases fe
    · exact a1 rfl
    · cases p1
      · cases p2
        · cases p3
          · simp at h
          · exact a4 rfl rfl rfl rfl
        · exact a3 rfl rfl rfl
      · exact a2 rfl rfl
  refine fin h3 (fun e0 => ?_) (fun e0 e1 => ?_) (fun e0 e1 e2 => ?_) (fun e0 e1 e2 e3 => ?_)
  all_goals
    clear h3 fin
    first
      | (rw [e1] at hp1; rw [e2] at hp2; rw [e3] at hp3 hp3')
      | (rw [e1] at hp1; rw [e2] at hp2; clear hp3 hp3')
      | (rw [e1] at hp1; clear hp2 hp3 hp3')
      | (clear hp1 hp2 hp3 hp3')
    subst e0
    go_wp2_with fail
    refine (awake11_ok _).mono ?_
    rintro e w2 ⟨rfl, x2⟩
    have X2 := Lib.hid (X1.out.trans x2)
    clear x2
    go_wp2_with fail
    go_ret
    exact ⟨rfl, X2.out⟩
theorem retirePlaces_walk (w : World) (t s l b th : Int) (A : Option Addr) (n c : Nat) (zs : List Int) (hl : zs.length = n) (hn : n ≤ 9223372036854775807) (hA : Ints w .u8 A zs) (hz : Lim zs 256) :
    Calls Tryz.prog 5 #[.agg #[.int .i64 t, .int .i64 s, .int .i64 l, .int .i64 b], .int .i64 th, .slice A n c] w fun e w' => e = .returned (.bool true) ∧ Ext w w' := by
  by_cases h : ¬ GrOk t s l b ∨ th < 0 ∨ t ≤ th ∨ 60 < n
  · exact retirePlaces_no w A n c t s l b th h hn
  · have hg : GrOk t s l b := Classical.byContradiction (fun c => h (Or.inl c))
    have h1 : ¬ th < 0 := fun c => h (Or.inr (Or.inl c))
    have h2 : ¬ t ≤ th := fun c => h (Or.inr (Or.inr (Or.inl c)))
    have h3 : ¬ 60 < n := fun c => h (Or.inr (Or.inr (Or.inr c)))
    obtain ⟨⟨q0, q1⟩, ⟨q2, q3⟩, ⟨q4, q5⟩, q6, q7⟩ := id hg.1
    obtain ⟨t', rfl⟩ := Int.eq_ofNat_of_zero_le (show 0 ≤ t by omega)
    obtain ⟨s', rfl⟩ := Int.eq_ofNat_of_zero_le (show 0 ≤ s by omega)
    obtain ⟨l', rfl⟩ := Int.eq_ofNat_of_zero_le (show 0 ≤ l by omega)
    obtain ⟨b', rfl⟩ := Int.eq_ofNat_of_zero_le (show 0 ≤ b by omega)
    obtain ⟨th', rfl⟩ := Int.eq_ofNat_of_zero_le (show 0 ≤ th by omega)
    exact retirePlaces_yes w A n c t' s' l' b' th' zs hl (by omega) hA hz hg (by omega)

namespace retirePlaces
set_option maxRecDepth 100000 in
theorem lifted (os : Os) (started : os.Started) (H : Type) (enc : TypeId × Value → H) :
    ReturnsInHanded {} Tryz.checked os 5 .any (Rows.retirePlacesSpec.pre6 enc Tryz.prog Tryz.f5 Rows.retirePlacesRow.domain false) (Rows.retirePlacesSpec.post enc Tryz.prog Tryz.f5 false true false false) := by
  refine returnsInHanded_of_change (C := Tryz.checked) own started (by kernel_rfl) Tryz.func5
    (ChangeSpec.witness6 (enc := enc) (C := Tryz.checked) false ⟨#[], #[.agg #[.int .i64 0, .int .i64 0, .int .i64 0, .int .i64 0], .int .i64 0, .slice none 0 0], []⟩ 8 (by kernel_rfl) (by kernel_rfl) (by kernel_rfl) (by kernel_rfl)) ?_
  intro W base args ds gs before hval0 hW hcnd _
  have hval : ∀ (j : Nat) t v, Tryz.f5.params[j]? = some t → args[j]? = some v → Value.okWide Tryz.prog W .any base t v := hval0
  have hW' := hW
  obtain ⟨p, q, hA0, hV, rfl, hfz, hnd⟩ := hW
  have hA : DataW.TrodAll enc Tryz.prog W 0 (fun _ => true) true Tryz.f5.params.toList args.toList ds p := hA0
  have hlt : ∀ x ∈ p ++ q, x.block < W.heap.size := fun x hx => hW'.lt x hx
  rw [Tryz.params5] at hA hval
  have hB := hA
  obtain ⟨v0, vs0, d0, ds0, p0, q0, hargs, rfl, rfl, h0, r0⟩ := trodAll_cons hB
  obtain ⟨v1, vs1, d1, ds1, p1, q1, rfl, rfl, rfl, h1, r1⟩ := trodAll_cons r0
  obtain ⟨v2, vs2, d2, ds2, p2, q2, rfl, rfl, rfl, h2, r2⟩ := trodAll_cons r1
  obtain ⟨rfl, rfl, rfl⟩ := trodAll_nil r2
  obtain rfl : args = #[v0, v1, v2] := by cases args; simp_all
  obtain ⟨rfl, rfl⟩ := trodVars_none hV
  obtain ⟨x0t, x0s, x0l, x0b, rfl, ok0⟩ := view_cfg Tryz.underlying23 (by kernel_rfl) (by kernel_rfl) Tryz.underlying3 Tryz.underlying3 Tryz.underlying3 Tryz.underlying3 (hval 0 23 v0 rfl rfl) h0
  obtain ⟨a1, rfl, rfl, rfl, w1⟩ := open_int Tryz.underlying3 (hval 1 3 v1 rfl rfl) h1
  obtain ⟨A2, c2, z2, rfl, lc2, mc2, I2, w2⟩ := view_ints Tryz.underlying76 Tryz.underlying5 (by kernel_rfl) (hval 2 76 v2 rfl rfl) h2
  clear hA0 hval0
  refine (retirePlaces_walk W x0t x0s x0l x0b a1 A2 _ c2 z2 rfl (Nat.le_trans lc2 mc2) I2 (lim_u8 w2)).mono fun e W' ⟨he, hx⟩ => ?_
  subst he
  exact ⟨_, rfl, post_ext (pv := []) hW' (fun _ _ _ => (trodAll_cons_mk (shut_bool Tryz.underlying4 _) trodAll_mk0)) (fun sp hsp => trodAll_stays laid hx _ _ _ _ (readable_of (by kernel_rfl)) hA (fun x hx => hlt x (by first | (simp at hx ⊢; exact hx) | simp at hx)) (fun x hx => hsp x (by first | (simp at hx ⊢; exact hx) | simp at hx))) (fun _ _ => rfl) rfl hx (ok_one (by kernel_rfl) rfl (okWide_bool_mk Tryz.underlying4 _))⟩

theorem over : Rows.retirePlacesRow.holds Tryz.pinned (OpenSpec.ofChange Rows.retirePlacesSpec) :=
  OpenClaim.holds_of_wide 5 Tryz.f5 rfl rfl rfl rfl rfl rfl rfl ⟨rfl, rfl, rfl, rfl, rfl⟩ rfl rfl rfl rfl rfl (by kernel_rfl) Tryz.func5 retirePlaces_closed
    (of_decide_eq_true (by kernel_rfl)) (by unfold Func.isWrapper; first | (rw [if_pos (by decide +kernel)]; kernel_rfl) | (rw [if_neg (by decide +kernel)]; exact ⟨rfl, rfl⟩))
    (fun os started H enc _ => lifted os started H enc)
end retirePlaces

theorem retirePlaces_holds : Rows.RetirePlacesSaid := retirePlaces.over
#print axioms retirePlaces_holds
end Go.Proofs.YtndplpfbohigpaaGreat
