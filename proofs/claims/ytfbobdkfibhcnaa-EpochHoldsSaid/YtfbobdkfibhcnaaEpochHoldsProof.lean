/- While a thread is in, the epoch goes on by 1 at most, however threads come in, go out, and advance between one another: the law answers true for every config and picks, and changes nothing. Conditions: none. -/
import Derived.Test.YtfbobdkfibhcnaaEpH2
import Derived.Test.YtfbobdkfibhcnaaArgs
import Derived.Deep.RegionHeld3
import Derived.Deep.DeepCutAuto
import Derived.Deep.CutBlock
import Derived.Deep.MidRow
import Derived.Test.YtfbobdkfibhcnaaCfgV
namespace Go.Proofs.Ytfbobdkfibhcnaa
open Go.ChangeShapes Go.WideShapes Go.ChangeAt Go.RowKit
set_option linter.unusedVariables false

set_option maxRecDepth 100000 in
set_option maxHeartbeats 16000000 in
theorem epochHolds_yes (w : World) (A : Option Addr) (n c : Nat) (t s l b : Nat) (zs : List Int) (hl : zs.length = n) (hn : n ≤ 300) (hA : Ints w .u8 A zs) (hz : Lim zs 256) (hg : GrOk t s l b) :
    Calls Try.prog 7 #[.agg #[.int .i64 t, .int .i64 s, .int .i64 l, .int .i64 b], .slice A n c] w fun e w' => e = .returned (.bool true) ∧ Ext w w' := by
  have X0 := Lib.hid ((Ext.refl w).alloc (.cells #[.int .i64 t, .int .i64 s, .int .i64 l, .int .i64 b] 23))
  have B0 := Lib.hid (Blk.new w 23 [.int .i64 t, .int .i64 s, .int .i64 l, .int .i64 b])
  have HY := Lib.hid (fun W => few9_yes t s l b W hg)
  have HI := Lib.hid hA
  have HZ := Lib.hid hz
  have HL := Lib.hid hl
  have HLa := Lib.hid (fun W => lay_ok W none 0 0 t s l b [] hg rfl (by decide) (fun h => absurd h (by decide)))
  have HSt := Lib.hid (EI.start t s l b)
  have HCa : Hid (CalmN 0 (groundSt t s l b [])) := Lib.hid (putAll_calm (s := startSt t s l b) rfl rfl [] 0 (Nat.le_refl _))
  obtain ⟨hc, h1, h2, h3, h4⟩ := id hg
  obtain ⟨⟨q0, q1⟩, ⟨q2, q3⟩, ⟨q4, q5⟩, q6, q7⟩ := id hc
  have HOk := Lib.hid (okayF hc)
  have HF0 : Hid (layF t s l b 0 = (t : Int)) := Lib.hid rfl
  have HF21 : Hid (layF t s l b 21 = -1) := Lib.hid rfl
  have t1 : 1 ≤ t := by omega
  have t6 : t ≤ 6 := by omega
  have hmk := fun W => make_holds t (by omega) W
  have HMd := Lib.hid (made_holds t)
  generalize madeCells #[.pointer none, .pointer none, .pointer none, .bool false, .int .u64 0] (t * 5) = MW at *
  have HAw := Lib.hid (fun W => awake10_ok W)
  have d300 : decide (300 < n) = false := by simp; omega
  have d300' : decide ((300 : Int) < (n : Int)) = false := by simp; omega
  clear hA hz hl hg hc h1 h2 h3 h4 q0 q1 q2 q3 q4 q5 q6 q7
  go_enter Try.func7, Try.ntmps7
  go_upto_region 1 with fail
  generalize w.alloc (.cells #[.int .i64 t, .int .i64 s, .int .i64 l, .int .i64 b] 23) = W0 at *
  have y0 : W0.cell? ⟨w.heap.size, 0, none⟩ = some (.int .i64 t) := B0.out.cell 0
  have y1 : W0.cell? ⟨w.heap.size, 1, none⟩ = some (.int .i64 s) := B0.out.cell 1
  have y2 : W0.cell? ⟨w.heap.size, 2, none⟩ = some (.int .i64 l) := B0.out.cell 2
  have y3 : W0.cell? ⟨w.heap.size, 3, none⟩ = some (.int .i64 b) := B0.out.cell 3
  go_wp2_with fail
  refine (HY.out _).mono ?_
  rintro e w1 ⟨rfl, x1⟩
  have X1 := Lib.hid (X0.out.trans x1)
  have B1 := Lib.hid (B0.out.ext x1)
  clear x1 y0 y1 y2 y3 X0 B0 HY
  have y0 : w1.cell? ⟨w.heap.size, 0, none⟩ = some (.int .i64 t) := B1.out.cell 0
  have y1 : w1.cell? ⟨w.heap.size, 1, none⟩ = some (.int .i64 s) := B1.out.cell 1
  have y2 : w1.cell? ⟨w.heap.size, 2, none⟩ = some (.int .i64 l) := B1.out.cell 2
  have y3 : w1.cell? ⟨w.heap.size, 3, none⟩ = some (.int .i64 b) := B1.out.cell 3
  go_upto_region 3 with fail
  clear d300 d300'
  go_wp2_with fail
  refine (HLa.out _).mono ?_
  rintro e w4 ⟨gl, gm, dv, pv, g, R, rv, rfl, bl, gr⟩
  have B4 := Lib.hid (B1.out.ext gr.mem.lt.1)
  have BL := Lib.hid bl
  have GR := Lib.hid gr
  generalize groundSt t s l b [] = s0 at *
  clear bl gr HLa y0 y1 y2 y3
  have y0 : w4.cell? ⟨w.heap.size, 0, none⟩ = some (.int .i64 t) := B4.out.cell 0
  have y1 : w4.cell? ⟨w.heap.size, 1, none⟩ = some (.int .i64 s) := B4.out.cell 1
  have y2 : w4.cell? ⟨w.heap.size, 2, none⟩ = some (.int .i64 l) := B4.out.cell 2
  have y3 : w4.cell? ⟨w.heap.size, 3, none⟩ = some (.int .i64 b) := B4.out.cell 3
  go_wp2_with fail
  have x5 := (Ext.refl w4).alloc (.cells MW 70)
  have A5 : Hid (ManyAt 70 w1 (w4.alloc (.cells MW 70)) gm dv pv gl w4.heap.size (layF t s l b) ((List.replicate t h5).map EH.cells) ((List.replicate t h5).mapIdx (ownE gl)) s0) := Lib.hid (by
    have hbl := BL.out.lt
    have bh := Blk.new w4 70 (((List.replicate t h5).map EH.cells).flatten)
    rw [← HMd.out] at bh
    refine ⟨GR.out.mem.hold x5 (fun q hq => ?_), BL.out.ext x5, bh, fun i p e => absurd e (ownE_none gl t i p), fun i j p q e => absurd e (ownE_none gl t i p), by omega, GR.out.mem.lt.1.size⟩
    rcases hq with e | e | ⟨i, p, e, _⟩
    · rw [e]; exact ⟨by simp; omega, Or.inl (Or.inr rfl)⟩
    · rw [e]; exact ⟨by simp, Or.inr (Nat.le_refl _)⟩
    · exact absurd e (ownE_none gl t i p))
  have L5 : Hid ((List.replicate t h5).length = t) := Lib.hid (by simp)
  generalize List.replicate t h5 = hsS at *
  generalize w4.alloc (.cells MW 70) = W5 at *
  generalize w4.heap.size = gh at *
  clear x5 hmk HMd y0 y1 y2 y3 B4 BL GR
  generalize w1 = w3 at *
  go_loopw [10] (fun i wr => ∃ (j : Nat) (hs : List EH) (sk : MSt), j ≤ n ∧ i = .int .i64 j ∧ hs.length = t ∧ ManyAt 70 w3 wr gm dv pv gl gh (layF t s l b) (hs.map EH.cells) (hs.mapIdx (ownE gl)) sk ∧ EI t s l b j hs sk ∧ CalmN (j : Int) sk) (fun i _ => n - (intOf i).toNat)
  case atStart => exact ⟨0, hsS, s0, Nat.zero_le _, rfl, L5.out, A5.out, HSt.out, HCa.out⟩
  case round =>
    obtain ⟨j, hs, sk, hj, rfl, hlen, ha, hi, hca⟩ := hrel
    have HA := Lib.hid ha
    have HIn := Lib.hid hi
    have HC := Lib.hid hca
    have HN0 := Lib.hid hlen
    have HB := Lib.hid (B1.out.ext ha.m.lt.1)
    have XK := Lib.hid (X1.out.trans ha.m.lt.1)
    clear ha hi hca hlen A5 HSt HCa L5
    by_cases hlt : j < n
    · have v2 : decide (j < n) = true := by simp; omega
      obtain ⟨ad, hAd, _, hcc⟩ := (HI.out.ext XK.out) (by have := HL.out; omega)
      have p0 := hcc j (by have := HL.out; omega)
      have HP0 : Hid (∀ W, Ext w W → W.cell? (ad.add j) = some (.int .u8 (zs.getD j 0))) := Lib.hid (fun W x => by
        obtain ⟨ad', hAd', _, hcc'⟩ := (HI.out.ext x) (by have := HL.out; omega)
        have : ad = ad' := by rw [hAd] at hAd'; injection hAd'
        subst this
        exact hcc' j (by have := HL.out; omega))
      have zr := HZ.out j (by have := HL.out; omega)
      generalize zs.getD j 0 = z at *
      obtain ⟨zn, rfl⟩ := Int.eq_ofNat_of_zero_le zr.1
      subst hAd
      clear hcc
      have y0 : wr.cell? ⟨w.heap.size, 0, none⟩ = some (.int .i64 t) := HB.out.cell 0
      have y1 : wr.cell? ⟨w.heap.size, 1, none⟩ = some (.int .i64 s) := HB.out.cell 1
      have y2 : wr.cell? ⟨w.heap.size, 2, none⟩ = some (.int .i64 l) := HB.out.cell 2
      have y3 : wr.cell? ⟨w.heap.size, 3, none⟩ = some (.int .i64 b) := HB.out.cell 3
      obtain ⟨z8, hz8⟩ : ∃ z8, zn % 8 = z8 := ⟨_, rfl⟩
      have hm8 : ((zn : Int)).tmod 8 = (z8 : Int) := by
        rw [Int.tmod_eq_emod_of_nonneg (by omega), ← hz8]
        rfl
      have z8l : z8 < 8 := by rw [← hz8]; exact Nat.mod_lt _ (by decide)
      have wz8 : IntKind.u8.wrap (z8 : Int) = (z8 : Int) := by unfold IntKind.wrap; simp [IntKind.signed, IntKind.bits]; omega
      have wz8i : IntKind.i64.wrap (z8 : Int) = (z8 : Int) := i64w _ (by omega) (by omega)
      obtain ⟨tt, htt⟩ : ∃ tt, z8 % t = tt := ⟨_, rfl⟩
      have hm0 : ((z8 : Int)).tmod (t : Int) = (tt : Int) := by
        rw [Int.tmod_eq_emod_of_nonneg (by omega), ← htt]
        rfl
      have htl : tt < t := by rw [← htt]; exact Nat.mod_lt _ (by omega)
      have ht0 : ((t : Int) == 0) = false := by rw [beq_eq_false_iff_ne]; omega
      have ht0' : ¬ (t : Int) = 0 := by omega
      clear htt hz8
      go_wp2_with fail
      go_quiet (fail)
      go_upto_region 10 with fail
      have xq := ext_drewN (Ext.refl wr) nq
      have HAq := Lib.hid (HA.out.ext xq)
      have p1 : (wr.drewN nq).cell? (ad.add j) = some (.int .u8 (zn : Int)) := HP0.out _ (XK.out.trans xq)
      have HBq := Lib.hid (HB.out.ext xq)
      clear xq HA XK HB p0 y0 y1 y2 y3 hm0 hm8 wz8 wz8i HP0
      generalize wr.drewN nq = wq at *
      obtain ⟨h0, e0⟩ : ∃ h0, hs[tt]? = some h0 := ⟨hs[tt]'(by rw [HN0.out]; exact htl), List.getElem?_eq_getElem _⟩
      have hlt2 : tt < hs.length := by rw [HN0.out]; exact htl
      obtain ⟨m, inn, a0⟩ := h0
      have ER : Hid ((hs.map EH.cells)[tt]? = some (EH.cells ⟨m, inn, a0⟩)) := Lib.hid (by rw [List.getElem?_map, e0]; rfl)
      have EO : Hid ((hs.mapIdx (ownE gl))[tt]? = some (m.own gl tt)) := Lib.hid (by rw [List.getElem?_mapIdx, e0]; rfl)
      have E0 := Lib.hid e0
      have HH := HAt.of HAq.out (rowsE_len hs) ER.out EO.out
      have c0 : wq.cell? ⟨gh, tt * 5, none⟩ = some (.pointer m.pE) := HH.cell (f := 0) (by decide)
      have c1 : wq.cell? ⟨gh, tt * 5 + 1, none⟩ = some (.pointer m.pL) := HH.cell (f := 1) (by decide)
      have c2 : wq.cell? ⟨gh, tt * 5 + 2, none⟩ = some (.pointer m.pA) := HH.cell (f := 2) (by decide)
      have HDn := Lib.hid (mdone_ok wq m (Mc.at_of (gl := gl) (t := (tt : Int)) (fun p e => (HAq.out.a tt p (by rw [EO.out, e])).1)))
      obtain ⟨d, hd⟩ : ∃ d, m.dn = d := ⟨_, rfl⟩
      rw [hd] at HDn
      have HDd := Lib.hid hd
      clear hd HH e0
      go_wp2_with fail
      refine HDn.out.mono ?_
      rintro e w5 ⟨rfl, x5⟩
      have HAq5 := Lib.hid (HAq.out.ext x5)
      have HBq5 := Lib.hid (HBq.out.ext x5)
      have p2 : w5.cell? (ad.add j) = some (.int .u8 (zn : Int)) := cell_ext p1 x5
      clear HDn x5 c0 c1 c2 HAq HBq p1
      have HAq := HAq5
      have HBq := HBq5
      clear HAq5 HBq5
      generalize w5 = wq5 at *
      go_upto_if 61 with fail
      go_cut [13] (fun _ wx => ∃ (hs' : List EH) (h' : EH), hs'.length = t ∧ hs'[tt]? = some h' ∧ h'.m.dn = false ∧ ManyAt 70 w3 wx gm dv pv gl gh (layF t s l b) (hs'.map EH.cells) (hs'.mapIdx (ownE gl)) sk ∧ EI t s l b j hs' sk)
      case first =>
        have HH := HAt.of HAq.out (rowsE_len hs) ER.out EO.out
        have c3 : wq5.cell? ⟨gh, tt * 5 + 3, none⟩ = some (.bool inn) := HH.cell (f := 3) (by decide)
        have y0 : wq5.cell? ⟨w.heap.size, 0, none⟩ = some (.int .i64 t) := HBq.out.cell 0
        have y1 : wq5.cell? ⟨w.heap.size, 1, none⟩ = some (.int .i64 s) := HBq.out.cell 1
        have y2 : wq5.cell? ⟨w.heap.size, 2, none⟩ = some (.int .i64 l) := HBq.out.cell 2
        have y3 : wq5.cell? ⟨w.heap.size, 3, none⟩ = some (.int .i64 b) := HBq.out.cell 3
        clear HH
        cases d
        · clear c3
          go_wp2_with fail
          go_meet
          exact ⟨hs, _, HN0.out, E0.out, HDd.out, HAq.out, HIn.out⟩
        · by_cases h128 : 128 ≤ zn
          · have e128 : decide (128 ≤ zn) = true := by simp; omega
            have e128' : decide ((128 : Int) ≤ (zn : Int)) = true := by simp; omega
            cases inn
            · go_wp2_with fail
              refine (made_ok _ gl t s l b 0 (tt : Int)).mono ?_
              rintro e w6 ⟨gM, gRr, rfl, md⟩
              have H6 := (HAt.of HAq.out (rowsE_len hs) (tt := tt) (r := EH.cells ⟨m, false, a0⟩) (o := m.own gl tt) ER.out EO.out).ext md.x
              obtain ⟨TM, cM, hown, hbM⟩ := md.own
              have H7 := (HAt.of HAq.out (rowsE_len hs) (tt := tt) (r := EH.cells ⟨m, false, a0⟩) (o := m.own gl tt) ER.out EO.out).take md.x (q := (gM, TM, cM)) md.g0 hbM
              have HTh : Hid (w6.there gh (tt * 5) 3) := Lib.hid (fun i hi => ⟨by
                rw [H7.cell (show i < 5 by omega)]
                have : i = 0 ∨ i = 1 ∨ i = 2 := by omega
                rcases this with rfl | rfl | rfl <;> rfl, H7.frozen i⟩)
              have H8 := ((H7.put (f := 0) (by decide) (.pointer (newMc 0 gM).pE)).put (f := 1) (by decide) (.pointer (newMc 0 gM).pL)).put (f := 2) (by decide) (.pointer (newMc 0 gM).pA)
              have HN : Hid (ManyAt 70 w3 (((w6.setCell ⟨gh, tt * 5 + 0, none⟩ (.pointer (newMc 0 gM).pE)).setCell ⟨gh, tt * 5 + 1, none⟩ (.pointer (newMc 0 gM).pL)).setCell ⟨gh, tt * 5 + 2, none⟩ (.pointer (newMc 0 gM).pA)) gm dv pv gl gh (layF t s l b) ((hs.set tt ⟨newMc 0 gM, false, a0⟩).map EH.cells) ((hs.set tt ⟨newMc 0 gM, false, a0⟩).mapIdx (ownE gl)) sk) := Lib.hid (by
                have hm := H8.m
                obtain ⟨e1, e2⟩ := setE (hs := hs) (gl := gl) (h' := ⟨newMc 0 gM, false, a0⟩) (r := EH.cells ⟨newMc 0 gM, false, a0⟩) (o := some (gM, TM, cM)) hlt2 rfl hown.symm
                rw [← e1, ← e2]
                exact hm)
              have HI2 := Lib.hid (HIn.out.make E0.out (newMc 0 gM) (Or.inl ⟨gM, rfl, rfl⟩))
              have HG : Hid ((hs.set tt ⟨newMc 0 gM, false, a0⟩)[tt]? = some ⟨newMc 0 gM, false, a0⟩) := Lib.hid (by rw [set_get _ _ _ _ hlt2, if_pos rfl])
              have HDn : Hid ((newMc 0 gM).dn = false) := Lib.hid rfl
              clear H6 H7 H8 hown hbM md
              generalize newMc 0 gM = mN at *
              go_wp2_with ((with_reducible refine (id ?_ : wpList _ _ _ ({ dst := none, op := Op.store _ _ _, type := _, pos := _, after := _, guard := _ } :: _) _ _)); refine Hid.out ?_)
              refine Lib.hid ?_
              refine wpList_store_mid rfl _ (.tmp 88) (.tmp 85) rfl gh (tt * 5) #[.pointer mN.pE, .pointer mN.pL, .pointer mN.pA] (by rfl) (by rfl) HTh.out (by kernel_rfl) (by simp [Value.oneCell']) ?_
              go_wp2_with fail
              go_meet
              exact ⟨_, ⟨mN, false, a0⟩, by rw [List.length_set]; exact HN0.out, HG.out, HDn.out, HN.out, HI2.out⟩
            · go_wp2_with fail
              refine (made_ok _ gl t s l b 1 (tt : Int)).mono ?_
              rintro e w6 ⟨gM, gRr, rfl, md⟩
              have H6 := (HAt.of HAq.out (rowsE_len hs) (tt := tt) (r := EH.cells ⟨m, true, a0⟩) (o := m.own gl tt) ER.out EO.out).ext md.x
              obtain ⟨TM, cM, hown, hbM⟩ := md.own
              have H7 := (HAt.of HAq.out (rowsE_len hs) (tt := tt) (r := EH.cells ⟨m, true, a0⟩) (o := m.own gl tt) ER.out EO.out).take md.x (q := (gM, TM, cM)) md.g0 hbM
              have HTh : Hid (w6.there gh (tt * 5) 3) := Lib.hid (fun i hi => ⟨by
                rw [H7.cell (show i < 5 by omega)]
                have : i = 0 ∨ i = 1 ∨ i = 2 := by omega
                rcases this with rfl | rfl | rfl <;> rfl, H7.frozen i⟩)
              have H8 := ((H7.put (f := 0) (by decide) (.pointer (newMc 1 gM).pE)).put (f := 1) (by decide) (.pointer (newMc 1 gM).pL)).put (f := 2) (by decide) (.pointer (newMc 1 gM).pA)
              have HN : Hid (ManyAt 70 w3 (((w6.setCell ⟨gh, tt * 5 + 0, none⟩ (.pointer (newMc 1 gM).pE)).setCell ⟨gh, tt * 5 + 1, none⟩ (.pointer (newMc 1 gM).pL)).setCell ⟨gh, tt * 5 + 2, none⟩ (.pointer (newMc 1 gM).pA)) gm dv pv gl gh (layF t s l b) ((hs.set tt ⟨newMc 1 gM, true, a0⟩).map EH.cells) ((hs.set tt ⟨newMc 1 gM, true, a0⟩).mapIdx (ownE gl)) sk) := Lib.hid (by
                have hm := H8.m
                obtain ⟨e1, e2⟩ := setE (hs := hs) (gl := gl) (h' := ⟨newMc 1 gM, true, a0⟩) (r := EH.cells ⟨newMc 1 gM, true, a0⟩) (o := some (gM, TM, cM)) hlt2 rfl hown.symm
                rw [← e1, ← e2]
                exact hm)
              have HI2 := Lib.hid (HIn.out.make E0.out (newMc 1 gM) (Or.inr (Or.inl ⟨gM, rfl⟩)))
              have HG : Hid ((hs.set tt ⟨newMc 1 gM, true, a0⟩)[tt]? = some ⟨newMc 1 gM, true, a0⟩) := Lib.hid (by rw [set_get _ _ _ _ hlt2, if_pos rfl])
              have HDn : Hid ((newMc 1 gM).dn = false) := Lib.hid rfl
              clear H6 H7 H8 hown hbM md
              generalize newMc 1 gM = mN at *
              go_wp2_with ((with_reducible refine (id ?_ : wpList _ _ _ ({ dst := none, op := Op.store _ _ _, type := _, pos := _, after := _, guard := _ } :: _) _ _)); refine Hid.out ?_)
              refine Lib.hid ?_
              refine wpList_store_mid rfl _ (.tmp 88) (.tmp 85) rfl gh (tt * 5) #[.pointer mN.pE, .pointer mN.pL, .pointer mN.pA] (by rfl) (by rfl) HTh.out (by kernel_rfl) (by simp [Value.oneCell']) ?_
              go_wp2_with fail
              go_meet
              exact ⟨_, ⟨mN, true, a0⟩, by rw [List.length_set]; exact HN0.out, HG.out, HDn.out, HN.out, HI2.out⟩
          · have e128 : decide (128 ≤ zn) = false := by simp; omega
            have e128' : decide ((128 : Int) ≤ (zn : Int)) = false := by simp; omega
            go_wp2_with fail
            refine (made_ok _ gl t s l b 2 (tt : Int)).mono ?_
            rintro e w6 ⟨gM, gRr, rfl, md⟩
            have H6 := (HAt.of HAq.out (rowsE_len hs) (tt := tt) (r := EH.cells ⟨m, inn, a0⟩) (o := m.own gl tt) ER.out EO.out).ext md.x
            obtain ⟨TM, cM, hown, hbM⟩ := md.own
            have H7 := (HAt.of HAq.out (rowsE_len hs) (tt := tt) (r := EH.cells ⟨m, inn, a0⟩) (o := m.own gl tt) ER.out EO.out).take md.x (q := (gM, TM, cM)) md.g0 hbM
            have HTh : Hid (w6.there gh (tt * 5) 3) := Lib.hid (fun i hi => ⟨by
              rw [H7.cell (show i < 5 by omega)]
              have : i = 0 ∨ i = 1 ∨ i = 2 := by omega
              rcases this with rfl | rfl | rfl <;> rfl, H7.frozen i⟩)
            have H8 := ((H7.put (f := 0) (by decide) (.pointer (newMc 2 gM).pE)).put (f := 1) (by decide) (.pointer (newMc 2 gM).pL)).put (f := 2) (by decide) (.pointer (newMc 2 gM).pA)
            have HN : Hid (ManyAt 70 w3 (((w6.setCell ⟨gh, tt * 5 + 0, none⟩ (.pointer (newMc 2 gM).pE)).setCell ⟨gh, tt * 5 + 1, none⟩ (.pointer (newMc 2 gM).pL)).setCell ⟨gh, tt * 5 + 2, none⟩ (.pointer (newMc 2 gM).pA)) gm dv pv gl gh (layF t s l b) ((hs.set tt ⟨newMc 2 gM, inn, a0⟩).map EH.cells) ((hs.set tt ⟨newMc 2 gM, inn, a0⟩).mapIdx (ownE gl)) sk) := Lib.hid (by
              have hm := H8.m
              obtain ⟨e1, e2⟩ := setE (hs := hs) (gl := gl) (h' := ⟨newMc 2 gM, inn, a0⟩) (r := EH.cells ⟨newMc 2 gM, inn, a0⟩) (o := some (gM, TM, cM)) hlt2 rfl hown.symm
              rw [← e1, ← e2]
              exact hm)
            have HI2 := Lib.hid (HIn.out.make E0.out (newMc 2 gM) (Or.inr (Or.inr ⟨gM, rfl⟩)))
            have HG : Hid ((hs.set tt ⟨newMc 2 gM, inn, a0⟩)[tt]? = some ⟨newMc 2 gM, inn, a0⟩) := Lib.hid (by rw [set_get _ _ _ _ hlt2, if_pos rfl])
            have HDn : Hid ((newMc 2 gM).dn = false) := Lib.hid rfl
            clear H6 H7 H8 hown hbM md
            generalize newMc 2 gM = mN at *
            go_wp2_with ((with_reducible refine (id ?_ : wpList _ _ _ ({ dst := none, op := Op.store _ _ _, type := _, pos := _, after := _, guard := _ } :: _) _ _)); refine Hid.out ?_)
            refine Lib.hid ?_
            refine wpList_store_mid rfl _ (.tmp 88) (.tmp 85) rfl gh (tt * 5) #[.pointer mN.pE, .pointer mN.pL, .pointer mN.pA] (by rfl) (by rfl) HTh.out (by kernel_rfl) (by simp [Value.oneCell']) ?_
            go_wp2_with fail
            go_meet
            exact ⟨_, ⟨mN, inn, a0⟩, by rw [List.length_set]; exact HN0.out, HG.out, HDn.out, HN.out, HI2.out⟩
      case rest =>
        obtain ⟨hs', h', hlen, he, hdn, ha, hi⟩ := hcut
        generalize wc = w7 at *
        obtain ⟨m', inn', a0'⟩ := h'
        simp only at hdn
        have HA7 := Lib.hid ha
        have HI7 := Lib.hid hi
        have HN7 := Lib.hid hlen
        have HE7 := Lib.hid he
        have hlt7 : tt < hs'.length := by rw [hlen]; exact htl
        have er : (hs'.map EH.cells)[tt]? = some (EH.cells ⟨m', inn', a0'⟩) := by rw [List.getElem?_map, he]; rfl
        have eo : (hs'.mapIdx (ownE gl))[tt]? = some (m'.own gl tt) := by rw [List.getElem?_mapIdx, he]; rfl
        obtain ⟨p, hp⟩ := Mc.own_of hdn gl (tt : Int)
        have eo2 : (hs'.mapIdx (ownE gl))[tt]? = some (some p) := by rw [eo, hp]
        obtain ⟨cs', hp'⟩ := Mc.own_step (F := layF t s l b) (T := t) hp sk
        have HH := HAt.of ha (rowsE_len hs') er eo
        have c0 : w7.cell? ⟨gh, tt * 5, none⟩ = some (.pointer m'.pE) := HH.cell (f := 0) (by decide)
        have c1 : w7.cell? ⟨gh, tt * 5 + 1, none⟩ = some (.pointer m'.pL) := HH.cell (f := 1) (by decide)
        have c2 : w7.cell? ⟨gh, tt * 5 + 2, none⟩ = some (.pointer m'.pA) := HH.cell (f := 2) (by decide)
        have hU := fun a => ha.m.peekU a
        have hent : ∀ g x, m' = .ent g x → W64 x.2.2 := fun g x e => (hi.ent tt _ g x he e).1
        have hadv : ∀ g x, m' = .adv g x → x.Wf t := fun g x e => (hi.adv tt _ g x he e).1
        have HSt := Lib.hid (mstep_ok hp hp' ha.m (HC.out.calm (by omega)) HOk.out hent hadv (by omega) HF21.out HF0.out (ha.a tt p eo2).1 ha.l (Or.inr (Or.inr ⟨tt, p, eo2, rfl⟩)) (Or.inl rfl) (ha.a tt p eo2).2.1.symm (ha.a tt p eo2).2.2.2)
        have HEi := Lib.hid (hi.step (by omega) hU he hdn)
        have HCn := Lib.hid (Mc.S_calm (F := layF t s l b) (T := t) (t := (tt : Int)) (hU (-1)) hadv HC.out)
        obtain ⟨z1, z2, z3⟩ := Mc.S_ptrs m' (layF t s l b) t (tt : Int) sk
        have HER := Lib.hid er
        have HEO := Lib.hid eo2
        have HP' := Lib.hid hp'
        have HPt : Hid ((m'.S (layF t s l b) t (tt : Int) sk).1.pE = m'.pE ∧ (m'.S (layF t s l b) t (tt : Int) sk).1.pL = m'.pL ∧ (m'.S (layF t s l b) t (tt : Int) sk).1.pA = m'.pA) := Lib.hid ⟨z1, z2, z3⟩
        clear HH hU hent hadv ha hi er eo eo2 hp hp' z1 z2 z3 hlen he hdn HAq HIn HBq p2 E0 EO ER HDd
        generalize m'.S (layF t s l b) t (tt : Int) sk = X at *
        obtain ⟨mX, s'⟩ := X
        simp only at HPt HEi HCn HP' HSt
        go_wp2_with fail
        refine HSt.out.mono ?_
        rintro e w8 ⟨rfl, m8, b8, k8⟩
        have M8 := HA7.out.step HEO.out m8 b8 k8
        have HM8 := Lib.hid M8
        have HPk := Lib.hid (M8.m.peek (-1) (by decide) (by decide))
        have HInn := in_ok M8.m HOk.out M8.l t HF0.out (tt : Int)
        rw [show inS (layF t s l b) t s' (tt : Int) = ((inS (layF t s l b) t s' (tt : Int)).1, (inS (layF t s l b) t s' (tt : Int)).2) from rfl, inS_inB htl] at HInn
        have HIc := Lib.hid HInn
        clear M8 m8 b8 k8 HSt c0 c1 c2 HInn
        generalize (inS (layF t s l b) t s' (tt : Int)).1 = q1 at *
        go_wp2_with fail
        refine HPk.out.mono ?_
        rintro e w' ⟨rfl, rfl⟩
        clear HPk
        go_wp2_with fail
        refine HIc.out.mono ?_
        rintro e w9 ⟨rfl, x9⟩
        have HH := HAt.of (HM8.out.ext x9) (rowsE_len hs') (tt := tt) (r := EH.cells ⟨m', inn', a0'⟩) (o := some (p.1, p.2.1, cs')) HER.out (by rw [set_get _ _ _ _ (by rw [List.length_mapIdx]; exact hlt7), if_pos rfl])
        have HHd := Lib.hid HH
        clear HH x9 HIc HM8
        obtain ⟨E', hE'⟩ : ∃ E', peekV s' (-1) = E' := ⟨_, rfl⟩
        rw [hE']
        obtain ⟨ib, hib⟩ : ∃ ib, inB (layF t s l b) s' tt = ib := ⟨_, rfl⟩
        rw [hib]
        have hsi : sinceS (layF t s l b) s' tt ⟨m', inn', a0'⟩ = if (ib && !inn') = true then E' else a0' := by
          unfold sinceS
          rw [hib, hE']
        obtain ⟨aN, haN⟩ : ∃ aN, sinceS (layF t s l b) s' tt ⟨m', inn', a0'⟩ = aN := ⟨_, rfl⟩
        rw [haN] at hsi
        have hei := HEi.out
        rw [hib, haN] at hei
        have HEn := Lib.hid hei
        have HSi := Lib.hid hsi
        have HEe := Lib.hid hE'
        clear hE' hib haN hsi hei HEi
        have c3 : w9.cell? ⟨gh, tt * 5 + 3, none⟩ = some (.bool inn') := HHd.out.cell (f := 3) (by decide)
        cases ib
        · have haN : aN = a0' := by rw [HSi.out]; rfl
          subst haN
          go_upto_region 22 with fail
          have H10 := HHd
          clear HHd c3
          generalize w9 = w10 at *
          have f3 : w10.frozen? ⟨gh, tt * 5 + 3, none⟩ = false := H10.out.frozen 3
          have k3 : w10.cell? ⟨gh, tt * 5 + 3, none⟩ = some (.bool inn') := H10.out.cell (f := 3) (by decide)
          have H11 := H10.out.put (f := 3) (by decide) (.bool false)
          have HN11 : Hid (ManyAt 70 w3 (w10.setCell ⟨gh, tt * 5 + 3, none⟩ (.bool false)) gm dv pv gl gh (layF t s l b) ((hs'.set tt ⟨mX, false, aN⟩).map EH.cells) ((hs'.set tt ⟨mX, false, aN⟩).mapIdx (ownE gl)) s') := Lib.hid (by
            have hm := H11.m
            simp only [List.set_set] at hm
            obtain ⟨e1, e2⟩ := setE (hs := hs') (gl := gl) (tt := tt) (h' := ⟨mX, false, aN⟩) (r := EH.cells ⟨mX, false, aN⟩) (o := some (p.1, p.2.1, cs')) hlt7 rfl HP'.out.symm
            rw [← e1, ← e2]
            have er : EH.cells ⟨mX, false, aN⟩ = [.pointer m'.pE, .pointer m'.pL, .pointer m'.pA, .bool false, .int .u64 aN] := by
              unfold EH.cells
              simp only
              rw [HPt.out.1, HPt.out.2.1, HPt.out.2.2]
            rw [er]
            exact hm)
          clear H11 H10
          go_wp2_with fail
          generalize w10.setCell ⟨gh, tt * 5 + 3, none⟩ (.bool false) = w11 at *
          clear f3 k3
          have HLn : Hid ((hs'.set tt ⟨mX, false, aN⟩).length = t) := Lib.hid (by rw [List.length_set]; exact HN7.out)
          generalize hs'.set tt ⟨mX, false, aN⟩ = hsN at *
          go_loopw [18] (fun i wv => ∃ kk : Nat, kk ≤ t ∧ i = .int .i64 kk ∧ Ext w11 wv) (fun i _ => t - (intOf i).toNat)
          case atStart => exact ⟨0, Nat.zero_le _, rfl, Ext.refl _⟩
          case round =>
            obtain ⟨kk, hkk, rfl, xv⟩ := hrel
            have XV := Lib.hid xv
            clear xv
            by_cases hlk : kk < t
            · have v3 : decide (kk < t) = true := by simp; omega
              obtain ⟨hk, ek⟩ : ∃ hk, hsN[kk]? = some hk := ⟨hsN[kk]'(by rw [HLn.out]; exact hlk), List.getElem?_eq_getElem _⟩
              have b3 : wr.cell? ⟨gh, kk * 5 + 3, none⟩ = some (.bool hk.inn) := by rw [(HN11.out.ext XV.out).h.cell, rowsE_at ek (by decide)]; rfl
              have b4 : wr.cell? ⟨gh, kk * 5 + 4, none⟩ = some (.int .u64 hk.a0) := by rw [(HN11.out.ext XV.out).h.cell, rowsE_at ek (by decide)]; rfl
              have han := (HEn.out.an kk hk ek).1
              have hee := HEn.out.e
              rw [HEe.out] at hee
              obtain ⟨mk, ik, ak⟩ := hk
              simp only at b3 b4
              cases ik
              · clear han hee ek
                go_wp2_with fail
                go_roundw
                case rel => exact ⟨kk + 1, by omega, by go_num, XV.out⟩
                case measure => simp [intOf]; omega
              · obtain ⟨u1, u2, u3, u4⟩ := han.yes rfl
                rw [HEe.out] at u3 u4
                simp only at u2 u3 u4
                have wak : IntKind.u64.wrap (ak + 1) = ak + 1 := u64w _ (by omega) (by omega)
                have dak : decide (ak + 1 < E') = false := by simp; omega
                clear han hee ek u1 u2 u3 u4
                go_wp2_with fail
                go_roundw
                case rel => exact ⟨kk + 1, by omega, by go_num, XV.out⟩
                case measure => simp [intOf]; omega
            · have v3 : decide (kk < t) = false := by simp; omega
              have HAz := Lib.hid (HN11.out.ext XV.out)
              go_wp2_with fail
              go_roundw
              case rel => exact ⟨j + 1, hsN, s', by omega, by go_num, HLn.out, HAz.out, HEn.out, by rw [show ((j + 1 : Nat) : Int) = (j : Int) + 1 by omega]; exact HCn.out⟩
              case measure => simp [intOf]; omega
        · cases inn'
          · have haN : aN = E' := by rw [HSi.out]; rfl
            subst haN
            have f4 : w9.frozen? ⟨gh, tt * 5 + 4, none⟩ = false := HHd.out.frozen 4
            have k4 : w9.cell? ⟨gh, tt * 5 + 4, none⟩ = some (.int .u64 a0') := HHd.out.cell (f := 4) (by decide)
            have H10 := Lib.hid (HHd.out.put (f := 4) (by decide) (.int .u64 aN))
            clear HHd
            go_upto_region 22 with fail
            clear c3 f4 k4
            generalize w9.setCell ⟨gh, tt * 5 + 4, none⟩ (.int .u64 aN) = w10 at *
            have f3 : w10.frozen? ⟨gh, tt * 5 + 3, none⟩ = false := H10.out.frozen 3
            have k3 : w10.cell? ⟨gh, tt * 5 + 3, none⟩ = some (.bool false) := H10.out.cell (f := 3) (by decide)
            have H11 := H10.out.put (f := 3) (by decide) (.bool true)
            have HN11 : Hid (ManyAt 70 w3 (w10.setCell ⟨gh, tt * 5 + 3, none⟩ (.bool true)) gm dv pv gl gh (layF t s l b) ((hs'.set tt ⟨mX, true, aN⟩).map EH.cells) ((hs'.set tt ⟨mX, true, aN⟩).mapIdx (ownE gl)) s') := Lib.hid (by
              have hm := H11.m
              simp only [List.set_set] at hm
              obtain ⟨e1, e2⟩ := setE (hs := hs') (gl := gl) (tt := tt) (h' := ⟨mX, true, aN⟩) (r := EH.cells ⟨mX, true, aN⟩) (o := some (p.1, p.2.1, cs')) hlt7 rfl HP'.out.symm
              rw [← e1, ← e2]
              have er : EH.cells ⟨mX, true, aN⟩ = [.pointer m'.pE, .pointer m'.pL, .pointer m'.pA, .bool true, .int .u64 aN] := by
                unfold EH.cells
                simp only
                rw [HPt.out.1, HPt.out.2.1, HPt.out.2.2]
              rw [er]
              exact hm)
            clear H11 H10
            go_wp2_with fail
            generalize w10.setCell ⟨gh, tt * 5 + 3, none⟩ (.bool true) = w11 at *
            clear f3 k3
            have HLn : Hid ((hs'.set tt ⟨mX, true, aN⟩).length = t) := Lib.hid (by rw [List.length_set]; exact HN7.out)
            generalize hs'.set tt ⟨mX, true, aN⟩ = hsN at *
            go_loopw [18] (fun i wv => ∃ kk : Nat, kk ≤ t ∧ i = .int .i64 kk ∧ Ext w11 wv) (fun i _ => t - (intOf i).toNat)
            case atStart => exact ⟨0, Nat.zero_le _, rfl, Ext.refl _⟩
            case round =>
              obtain ⟨kk, hkk, rfl, xv⟩ := hrel
              have XV := Lib.hid xv
              clear xv
              by_cases hlk : kk < t
              · have v3 : decide (kk < t) = true := by simp; omega
                obtain ⟨hk, ek⟩ : ∃ hk, hsN[kk]? = some hk := ⟨hsN[kk]'(by rw [HLn.out]; exact hlk), List.getElem?_eq_getElem _⟩
                have b3 : wr.cell? ⟨gh, kk * 5 + 3, none⟩ = some (.bool hk.inn) := by rw [(HN11.out.ext XV.out).h.cell, rowsE_at ek (by decide)]; rfl
                have b4 : wr.cell? ⟨gh, kk * 5 + 4, none⟩ = some (.int .u64 hk.a0) := by rw [(HN11.out.ext XV.out).h.cell, rowsE_at ek (by decide)]; rfl
                have han := (HEn.out.an kk hk ek).1
                have hee := HEn.out.e
                rw [HEe.out] at hee
                obtain ⟨mk, ik, ak⟩ := hk
                simp only at b3 b4
                cases ik
                · clear han hee ek
                  go_wp2_with fail
                  go_roundw
                  case rel => exact ⟨kk + 1, by omega, by go_num, XV.out⟩
                  case measure => simp [intOf]; omega
                · obtain ⟨u1, u2, u3, u4⟩ := han.yes rfl
                  rw [HEe.out] at u3 u4
                  simp only at u2 u3 u4
                  have wak : IntKind.u64.wrap (ak + 1) = ak + 1 := u64w _ (by omega) (by omega)
                  have dak : decide (ak + 1 < aN) = false := by simp; omega
                  clear han hee ek u1 u2 u3 u4
                  go_wp2_with fail
                  go_roundw
                  case rel => exact ⟨kk + 1, by omega, by go_num, XV.out⟩
                  case measure => simp [intOf]; omega
              · have v3 : decide (kk < t) = false := by simp; omega
                have HAz := Lib.hid (HN11.out.ext XV.out)
                go_wp2_with fail
                go_roundw
                case rel => exact ⟨j + 1, hsN, s', by omega, by go_num, HLn.out, HAz.out, HEn.out, by rw [show ((j + 1 : Nat) : Int) = (j : Int) + 1 by omega]; exact HCn.out⟩
                case measure => simp [intOf]; omega
          · have haN : aN = a0' := by rw [HSi.out]; rfl
            subst haN
            go_upto_region 22 with fail
            have H10 := HHd
            clear HHd c3
            generalize w9 = w10 at *
            have f3 : w10.frozen? ⟨gh, tt * 5 + 3, none⟩ = false := H10.out.frozen 3
            have k3 : w10.cell? ⟨gh, tt * 5 + 3, none⟩ = some (.bool true) := H10.out.cell (f := 3) (by decide)
            have H11 := H10.out.put (f := 3) (by decide) (.bool true)
            have HN11 : Hid (ManyAt 70 w3 (w10.setCell ⟨gh, tt * 5 + 3, none⟩ (.bool true)) gm dv pv gl gh (layF t s l b) ((hs'.set tt ⟨mX, true, aN⟩).map EH.cells) ((hs'.set tt ⟨mX, true, aN⟩).mapIdx (ownE gl)) s') := Lib.hid (by
              have hm := H11.m
              simp only [List.set_set] at hm
              obtain ⟨e1, e2⟩ := setE (hs := hs') (gl := gl) (tt := tt) (h' := ⟨mX, true, aN⟩) (r := EH.cells ⟨mX, true, aN⟩) (o := some (p.1, p.2.1, cs')) hlt7 rfl HP'.out.symm
              rw [← e1, ← e2]
              have er : EH.cells ⟨mX, true, aN⟩ = [.pointer m'.pE, .pointer m'.pL, .pointer m'.pA, .bool true, .int .u64 aN] := by
                unfold EH.cells
                simp only
                rw [HPt.out.1, HPt.out.2.1, HPt.out.2.2]
              rw [er]
              exact hm)
            clear H11 H10
            go_wp2_with fail
            generalize w10.setCell ⟨gh, tt * 5 + 3, none⟩ (.bool true) = w11 at *
            clear f3 k3
            have HLn : Hid ((hs'.set tt ⟨mX, true, aN⟩).length = t) := Lib.hid (by rw [List.length_set]; exact HN7.out)
            generalize hs'.set tt ⟨mX, true, aN⟩ = hsN at *
            go_loopw [18] (fun i wv => ∃ kk : Nat, kk ≤ t ∧ i = .int .i64 kk ∧ Ext w11 wv) (fun i _ => t - (intOf i).toNat)
            case atStart => exact ⟨0, Nat.zero_le _, rfl, Ext.refl _⟩
            case round =>
              obtain ⟨kk, hkk, rfl, xv⟩ := hrel
              have XV := Lib.hid xv
              clear xv
              by_cases hlk : kk < t
              · have v3 : decide (kk < t) = true := by simp; omega
                obtain ⟨hk, ek⟩ : ∃ hk, hsN[kk]? = some hk := ⟨hsN[kk]'(by rw [HLn.out]; exact hlk), List.getElem?_eq_getElem _⟩
                have b3 : wr.cell? ⟨gh, kk * 5 + 3, none⟩ = some (.bool hk.inn) := by rw [(HN11.out.ext XV.out).h.cell, rowsE_at ek (by decide)]; rfl
                have b4 : wr.cell? ⟨gh, kk * 5 + 4, none⟩ = some (.int .u64 hk.a0) := by rw [(HN11.out.ext XV.out).h.cell, rowsE_at ek (by decide)]; rfl
                have han := (HEn.out.an kk hk ek).1
                have hee := HEn.out.e
                rw [HEe.out] at hee
                obtain ⟨mk, ik, ak⟩ := hk
                simp only at b3 b4
                cases ik
                · clear han hee ek
                  go_wp2_with fail
                  go_roundw
                  case rel => exact ⟨kk + 1, by omega, by go_num, XV.out⟩
                  case measure => simp [intOf]; omega
                · obtain ⟨u1, u2, u3, u4⟩ := han.yes rfl
                  rw [HEe.out] at u3 u4
                  simp only at u2 u3 u4
                  have wak : IntKind.u64.wrap (ak + 1) = ak + 1 := u64w _ (by omega) (by omega)
                  have dak : decide (ak + 1 < E') = false := by simp; omega
                  clear han hee ek u1 u2 u3 u4
                  go_wp2_with fail
                  go_roundw
                  case rel => exact ⟨kk + 1, by omega, by go_num, XV.out⟩
                  case measure => simp [intOf]; omega
              · have v3 : decide (kk < t) = false := by simp; omega
                have HAz := Lib.hid (HN11.out.ext XV.out)
                go_wp2_with fail
                go_roundw
                case rel => exact ⟨j + 1, hsN, s', by omega, by go_num, HLn.out, HAz.out, HEn.out, by rw [show ((j + 1 : Nat) : Int) = (j : Int) + 1 by omega]; exact HCn.out⟩
                case measure => simp [intOf]; omega
    · have v2 : decide (j < n) = false := by simp; omega
      go_wp2_with fail
      refine (HAw.out _).mono ?_
      rintro e wz ⟨rfl, xz⟩
      have XZ := Lib.hid (XK.out.trans xz)
      clear xz
      go_wp2_with fail
      go_ret
      exact ⟨rfl, XZ.out⟩

set_option maxRecDepth 100000 in
set_option maxHeartbeats 4000000 in
theorem epochHolds_no (w : World) (A : Option Addr) (n c : Nat) (t s l b : Int) (h : ¬ GrOk t s l b ∨ 300 < n) (hn : n ≤ 9223372036854775807) :
    Calls Try.prog 7 #[.agg #[.int .i64 t, .int .i64 s, .int .i64 l, .int .i64 b], .slice A n c] w fun e w' => e = .returned (.bool true) ∧ Ext w w' := by
  have X0 := Lib.hid ((Ext.refl w).alloc (.cells #[.int .i64 t, .int .i64 s, .int .i64 l, .int .i64 b] 23))
  by_cases hg : GrOk t s l b
  · have h3 : 300 < n := h.resolve_left (fun k => k hg)
    have HY := Lib.hid (fun W => few9_yes t s l b W hg)
    have d3 : decide (300 < n) = true := by simp; omega
    have d3' : decide ((300 : Int) < (n : Int)) = true := by simp; omega
    clear h hg
    go_enter Try.func7, Try.ntmps7
    go_wp2_with fail
    refine (HY.out _).mono ?_
    rintro e w1 ⟨rfl, x1⟩
    have X1 := Lib.hid (X0.out.trans x1)
    clear x1
    go_wp2_with fail
    refine (awake10_ok _).mono ?_
    rintro e w2 ⟨rfl, x2⟩
    have X2 := Lib.hid (X1.out.trans x2)
    clear x2
    go_wp2_with fail
    go_ret
    exact ⟨rfl, X2.out⟩
  · have HY := Lib.hid (fun W => few9_no t s l b W hg)
    clear h hg
    go_enter Try.func7, Try.ntmps7
    go_wp2_with fail
    refine (HY.out _).mono ?_
    rintro e w1 ⟨rfl, x1⟩
    have X1 := Lib.hid (X0.out.trans x1)
    clear x1
    go_wp2_with fail
    refine (awake10_ok _).mono ?_
    rintro e w2 ⟨rfl, x2⟩
    have X2 := Lib.hid (X1.out.trans x2)
    clear x2
    go_wp2_with fail
    go_ret
    exact ⟨rfl, X2.out⟩
theorem epochHolds_walk (w : World) (t s l b : Int) (A : Option Addr) (n c : Nat) (zs : List Int) (hl : zs.length = n) (hn : n ≤ 9223372036854775807) (hA : Ints w .u8 A zs) (hz : Lim zs 256) :
    Calls Try.prog 7 #[.agg #[.int .i64 t, .int .i64 s, .int .i64 l, .int .i64 b], .slice A n c] w fun e w' => e = .returned (.bool true) ∧ Ext w w' := by
  by_cases h : GrOk t s l b ∧ n ≤ 300
  · obtain ⟨hg, hn1⟩ := h
    obtain ⟨⟨q0, q1⟩, ⟨q2, q3⟩, ⟨q4, q5⟩, q6, q7⟩ := id hg.1
    obtain ⟨t', rfl⟩ := Int.eq_ofNat_of_zero_le (show 0 ≤ t by omega)
    obtain ⟨s', rfl⟩ := Int.eq_ofNat_of_zero_le (show 0 ≤ s by omega)
    obtain ⟨l', rfl⟩ := Int.eq_ofNat_of_zero_le (show 0 ≤ l by omega)
    obtain ⟨b', rfl⟩ := Int.eq_ofNat_of_zero_le (show 0 ≤ b by omega)
    exact epochHolds_yes w A n c t' s' l' b' zs hl hn1 hA hz hg
  · exact epochHolds_no w A n c t s l b (by
      by_cases hg : GrOk t s l b
      · exact Or.inr (by
          have : ¬ n ≤ 300 := fun h2 => h ⟨hg, h2⟩
          omega)
      · exact Or.inl hg) hn

namespace epochHolds
set_option maxRecDepth 100000 in
theorem lifted (os : Os) (started : os.Started) (H : Type) (enc : TypeId × Value → H) :
    ReturnsInHanded {} Try.checked os 7 .any (Rows.epochHoldsSpec.pre6 enc Try.prog Try.f7 Rows.epochHoldsRow.domain false) (Rows.epochHoldsSpec.post enc Try.prog Try.f7 false true false false) := by
  refine returnsInHanded_of_change (C := Try.checked) own started (by kernel_rfl) Try.func7
    (ChangeSpec.witness6 (enc := enc) (C := Try.checked) false ⟨#[], #[.agg #[.int .i64 0, .int .i64 0, .int .i64 0, .int .i64 0], .slice none 0 0], []⟩ 8 (by kernel_rfl) (by kernel_rfl) (by kernel_rfl) (by kernel_rfl)) ?_
  intro W base args ds gs before hval0 hW hcnd _
  have hval : ∀ (j : Nat) t v, Try.f7.params[j]? = some t → args[j]? = some v → Value.okWide Try.prog W .any base t v := hval0
  have hW' := hW
  obtain ⟨p, q, hA0, hV, rfl, hfz, hnd⟩ := hW
  have hA : DataW.TrodAll enc Try.prog W 0 (fun _ => true) true Try.f7.params.toList args.toList ds p := hA0
  have hlt : ∀ x ∈ p ++ q, x.block < W.heap.size := fun x hx => hW'.lt x hx
  rw [Try.params7] at hA hval
  have hB := hA
  obtain ⟨v0, vs0, d0, ds0, p0, q0, hargs, rfl, rfl, h0, r0⟩ := trodAll_cons hB
  obtain ⟨v1, vs1, d1, ds1, p1, q1, rfl, rfl, rfl, h1, r1⟩ := trodAll_cons r0
  obtain ⟨rfl, rfl, rfl⟩ := trodAll_nil r1
  obtain rfl : args = #[v0, v1] := by cases args; simp_all
  obtain ⟨rfl, rfl⟩ := trodVars_none hV
  obtain ⟨x0t, x0s, x0l, x0b, rfl, ok0⟩ := view_cfg Try.underlying23 (by kernel_rfl) (by kernel_rfl) Try.underlying3 Try.underlying3 Try.underlying3 Try.underlying3 (hval 0 23 v0 rfl rfl) h0
  obtain ⟨A1, c1, z1, rfl, lc1, mc1, I1, w1⟩ := view_ints Try.underlying45 Try.underlying5 (by kernel_rfl) (hval 1 45 v1 rfl rfl) h1
  clear hA0 hval0
  refine (epochHolds_walk W x0t x0s x0l x0b A1 _ c1 z1 rfl (Nat.le_trans lc1 mc1) I1 (lim_u8 w1)).mono fun e W' ⟨he, hx⟩ => ?_
  subst he
  exact ⟨_, rfl, post_ext (pv := []) hW' (fun _ _ _ => (trodAll_cons_mk (shut_bool Try.underlying4 _) trodAll_mk0)) (fun sp hsp => trodAll_stays laid hx _ _ _ _ (readable_of (by kernel_rfl)) hA (fun x hx => hlt x (by first | (simp at hx ⊢; exact hx) | simp at hx)) (fun x hx => hsp x (by first | (simp at hx ⊢; exact hx) | simp at hx))) (fun _ _ => rfl) rfl hx (ok_one (by kernel_rfl) rfl (okWide_bool_mk Try.underlying4 _))⟩

theorem over : Rows.epochHoldsRow.holds Try.pinned (OpenSpec.ofChange Rows.epochHoldsSpec) :=
  OpenClaim.holds_of_wide 7 Try.f7 rfl rfl rfl rfl rfl rfl rfl ⟨rfl, rfl, rfl, rfl, rfl⟩ rfl rfl rfl rfl rfl (by kernel_rfl) Try.func7 (by kernel_rfl)
    (of_decide_eq_true (by kernel_rfl)) (by unfold Func.isWrapper; first | (rw [if_pos (by decide +kernel)]; kernel_rfl) | (rw [if_neg (by decide +kernel)]; exact ⟨rfl, rfl⟩))
    (fun os started H enc _ => lifted os started H enc)
end epochHolds

theorem epochHolds_holds : Rows.EpochHoldsSaid := epochHolds.over
#print axioms epochHolds_holds
end Go.Proofs.Ytfbobdkfibhcnaa
