/- Each step of Enter, Leave and Advance, over any memory, whatever others do between, is the document's: the law answers true for every ground, kind, thread and acts, and changes nothing. Conditions: none. -/
import Derived.Test.YtfbobdkfibhcnaaGreatKPk
import Derived.Deep.MidRow
import Derived.Deep.CutBlock
import Derived.Deep.RegionHeld3
import Derived.Lib.QuietBelow
import Derived.Deep.DeepCutAuto
import Derived.Test.YtfbobdkfibhcnaaGreatKEpB
import Derived.Test.YtfbobdkfibhcnaaGreatGrView
import Derived.Test.YtfbobdkfibhcnaaGreatArgs
import Derived.Test.YtfbobdkfibhcnaaGreatCfgV
namespace Go.Proofs.YtfbobdkfibhcnaaGreat
open Go.ChangeShapes Go.WideShapes Go.ChangeAt Go.RowKit
set_option linter.unusedVariables false

set_option maxRecDepth 100000 in
set_option maxHeartbeats 16000000 in
theorem epochSteps_yes (w : World) (A : Option Addr) (n c : Nat) (t s l b : Nat) (ys : List Put) (kd th : Int) (PA : Option Addr) (pn pc : Nat) (pk : List Pk7) (hg : GrOk t s l b) (hy : ys.length = n) (hn : n ≤ 100) (hY : PutsAt w A ys) (hp : pk.length = pn) (hpn : pn ≤ 60) (hP : Pokes w PA pk) :
    Calls Tryz.prog 5 #[.agg #[.int .i64 t, .int .i64 s, .int .i64 l, .int .i64 b, .slice A n c], .agg #[.int .i64 kd, .int .i64 th], .slice PA pn pc] w fun e w' => e = .returned (.bool true) ∧ Ext w w' := by
  have X0 := Lib.hid (((Ext.refl w).alloc (.cells #[.int .i64 t, .int .i64 s, .int .i64 l, .int .i64 b, .slice A n c] 26)).alloc (.cells #[.int .i64 kd, .int .i64 th] 51))
  have B0 := Lib.hid ((Blk.new w 26 [.int .i64 t, .int .i64 s, .int .i64 l, .int .i64 b, .slice A n c]).ext ((Ext.refl (w.alloc (.cells #[.int .i64 t, .int .i64 s, .int .i64 l, .int .i64 b, .slice A n c] 26))).alloc (.cells #[.int .i64 kd, .int .i64 th] 51)))
  have U0 : Hid (Blk ((w.alloc (.cells #[.int .i64 t, .int .i64 s, .int .i64 l, .int .i64 b, .slice A n c] 26)).alloc (.cells #[.int .i64 kd, .int .i64 th] 51)) (w.heap.size + 1) 51 [.int .i64 kd, .int .i64 th]) := Lib.hid (by have := Blk.new (w.alloc (.cells #[.int .i64 t, .int .i64 s, .int .i64 l, .int .i64 b, .slice A n c] 26)) 51 [.int .i64 kd, .int .i64 th]; simp only [World.size_alloc] at this; exact this)
  have HL := Lib.hid (lay_ok ((w.alloc (.cells #[.int .i64 t, .int .i64 s, .int .i64 l, .int .i64 b, .slice A n c] 26)).alloc (.cells #[.int .i64 kd, .int .i64 th] 51)) A n c t s l b ys hg hy hn (hY.ext X0.out))
  have HPk := Lib.hid hP
  have HPl := Lib.hid hp
  have HFi := Lib.hid (ground_fine t s l b ys)
  have HCa := Lib.hid (ground_calm t s l b ys (by omega))
  have HAw := Lib.hid (fun W => awake10_ok W)
  obtain ⟨hc, h1, h2, h3, h4⟩ := id hg
  obtain ⟨⟨q0, q1⟩, ⟨q2, q3⟩, ⟨q4, q5⟩, q6, q7⟩ := id hc
  have HC : Hid (CfgN t s l b) := Lib.hid ⟨by omega, by omega, by omega, by omega, by omega⟩
  have HOk := Lib.hid (okayF hc)
  have HF0 : Hid (layF t s l b 0 = (t : Int)) := Lib.hid rfl
  have HF21 : Hid (layF t s l b 21 = -1) := Lib.hid rfl
  have t6 : t ≤ 6 := by omega
  have d60 : decide (60 < pn) = false := by simp; omega
  have d60' : decide ((60 : Int) < (pn : Int)) = false := by simp; omega
  clear hY hg hc h1 h2 h3 h4 q0 q1 q2 q3 q4 q5 q6 q7 hP hp
  go_enter Tryz.func5, Tryz.ntmps5
  go_upto_region 1 with fail
  generalize ((w.alloc (.cells #[.int .i64 t, .int .i64 s, .int .i64 l, .int .i64 b, .slice A n c] 26)).alloc (.cells #[.int .i64 kd, .int .i64 th] 51)) = W0 at *
  have y0 : W0.cell? ⟨w.heap.size, 0, none⟩ = some (.int .i64 t) := B0.out.cell 0
  have y1 : W0.cell? ⟨w.heap.size, 1, none⟩ = some (.int .i64 s) := B0.out.cell 1
  have y2 : W0.cell? ⟨w.heap.size, 2, none⟩ = some (.int .i64 l) := B0.out.cell 2
  have y3 : W0.cell? ⟨w.heap.size, 3, none⟩ = some (.int .i64 b) := B0.out.cell 3
  have y4 : W0.cell? ⟨w.heap.size, 4, none⟩ = some (.slice A n c) := B0.out.cell 4
  have u0 : W0.cell? ⟨w.heap.size + 1, 0, none⟩ = some (.int .i64 kd) := U0.out.cell 0
  have u1 : W0.cell? ⟨w.heap.size + 1, 1, none⟩ = some (.int .i64 th) := U0.out.cell 1
  go_wp2_with fail
  refine HL.out.mono ?_
  rintro e w1 ⟨gl, gm, dv, pv, g, R, rv, rfl, bl, gr0⟩
  have BL := Lib.hid bl
  have GR := Lib.hid gr0
  have B1 := Lib.hid (B0.out.ext gr0.mem.lt.1)
  have U1 := Lib.hid (U0.out.ext gr0.mem.lt.1)
  generalize groundSt t s l b ys = s0 at *
  clear bl gr0 y0 y1 y2 y3 y4 u0 u1 HL B0 U0
  have y0 : w1.cell? ⟨w.heap.size, 0, none⟩ = some (.int .i64 t) := B1.out.cell 0
  have y1 : w1.cell? ⟨w.heap.size, 1, none⟩ = some (.int .i64 s) := B1.out.cell 1
  have y2 : w1.cell? ⟨w.heap.size, 2, none⟩ = some (.int .i64 l) := B1.out.cell 2
  have y3 : w1.cell? ⟨w.heap.size, 3, none⟩ = some (.int .i64 b) := B1.out.cell 3
  have y4 : w1.cell? ⟨w.heap.size, 4, none⟩ = some (.slice A n c) := B1.out.cell 4
  have u0 : w1.cell? ⟨w.heap.size + 1, 0, none⟩ = some (.int .i64 kd) := U1.out.cell 0
  have u1 : w1.cell? ⟨w.heap.size + 1, 1, none⟩ = some (.int .i64 th) := U1.out.cell 1
  go_upto_region 4 with fail
  go_cut [11] (fun s11 wx => s11 = .int .i64 kd ∧ Ext w1 wx)
  case first =>
    go_wp2_with fail
    go_meet
    exact ⟨rfl, Ext.refl _⟩
  case rest =>
    obtain ⟨rfl, xc⟩ := hcut
    have XC := Lib.hid xc
    clear xc
    generalize wc = wb at *
    rename_i hK
    refine hK _ _ ?_
    go_upto_region 5 with fail
    go_cut [38] (fun s38 wx => s38 = .bool (!(decide (kd = 0)) && !(decide (kd = 1))) ∧ Ext w1 wx)
    case first =>
      by_cases hk0 : kd = 0
      · subst hk0
        go_wp2_with fail
        go_meet
        exact ⟨rfl, XC.out⟩
      · have b0 : (kd != 0) = true := by rw [bne_iff_ne]; exact hk0
        have e0 : decide (kd = 0) = false := by simpa using hk0
        by_cases hk1 : kd = 1
        · subst hk1
          go_wp2_with fail
          go_meet
          exact ⟨rfl, XC.out⟩
        · have b1 : (kd != 1) = true := by rw [bne_iff_ne]; exact hk1
          have e1 : decide (kd = 1) = false := by simpa using hk1
          go_wp2_with fail
          go_meet
          exact ⟨by first | rfl | simp [e0, e1], XC.out⟩
    case rest =>
    obtain ⟨rfl, xc2⟩ := hcut
    replace XC := Lib.hid xc2
    clear xc2
    generalize wc = wb2 at *
    rename_i hK2
    refine hK2 _ _ ?_
    go_cut [11] (fun s11 wx => ∃ kn : Int, s11 = .int .i64 kn ∧ (kn = 0 ∨ kn = 1 ∨ kn = 2) ∧ Ext w1 wx)
    case first =>
      by_cases hk0 : kd = 0
      · subst hk0
        go_wp2_with fail
        go_meet
        exact ⟨0, rfl, Or.inl rfl, XC.out⟩
      · have e0 : decide (kd = 0) = false := by simpa using hk0
        by_cases hk1 : kd = 1
        · subst hk1
          go_wp2_with fail
          go_meet
          exact ⟨1, rfl, Or.inr (Or.inl rfl), XC.out⟩
        · have e1 : decide (kd = 1) = false := by simpa using hk1
          rw [e0, e1]
          go_wp2_with fail
          go_meet
          exact ⟨2, rfl, Or.inr (Or.inr rfl), XC.out⟩
    case rest =>
      obtain ⟨kn, rfl, hkn, x2⟩ := hcut
      have XX2 := Lib.hid x2
      have B2 := Lib.hid (B1.out.ext x2)
      have U2 := Lib.hid (U1.out.ext x2)
      have HLt := Lib.hid BL.out.lt
      clear x2 XC
      generalize wc = w2 at *
      have y0 : w2.cell? ⟨w.heap.size, 0, none⟩ = some (.int .i64 t) := B2.out.cell 0
      have y1 : w2.cell? ⟨w.heap.size, 1, none⟩ = some (.int .i64 s) := B2.out.cell 1
      have y2 : w2.cell? ⟨w.heap.size, 2, none⟩ = some (.int .i64 l) := B2.out.cell 2
      have y3 : w2.cell? ⟨w.heap.size, 3, none⟩ = some (.int .i64 b) := B2.out.cell 3
      have y4 : w2.cell? ⟨w.heap.size, 4, none⟩ = some (.slice A n c) := B2.out.cell 4
      have u0 : w2.cell? ⟨w.heap.size + 1, 0, none⟩ = some (.int .i64 kd) := U2.out.cell 0
      have u1 : w2.cell? ⟨w.heap.size + 1, 1, none⟩ = some (.int .i64 th) := U2.out.cell 1
      clear y4 u0
      go_wp2_with fail
      refine (made_ok w2 gl t s l b kn th).mono ?_
      rintro e w3 ⟨gM, gr, rfl, md⟩
      have x4 := (Ext.refl w3).alloc (.cells #[.pointer none, .pointer none, .pointer none] 62)
      have b4 := Blk.new w3 62 [.pointer none, .pointer none, .pointer none]
      have HTh : Hid ((w3.alloc (.cells #[.pointer none, .pointer none, .pointer none] 62)).there w3.heap.size 0 3) := Lib.hid (fun j hj => ⟨by
        rw [b4.cell (0 + j)]
        have hj3 : j = 0 ∨ j = 1 ∨ j = 2 := by omega
        rcases hj3 with rfl | rfl | rfl <;> rfl, b4.frozen _⟩)
      have HRn := Lib.hid (RelE.new t kn hkn gM)
      obtain ⟨TM, cM, hown, hbM⟩ := md.own
      have HOw := Lib.hid hown
      have md1 := md.g0
      have md2 := md.r0
      have md3 := md.ne
      have md4 := md.r
      have md5 := md.x
      have hbMl := hbM.lt
      have hrl := md4.lt
      clear md hown y0 y1 y2 y3 u1 hkn
      have z1 : w1.heap.size ≤ w2.heap.size := XX2.out.size
      have HNe : Hid ((gl ≠ gM ∧ gl ≠ gr ∧ gl ≠ w3.heap.size) ∧ (gM ≠ gr ∧ gM ≠ w3.heap.size ∧ gr ≠ w3.heap.size)) := Lib.hid (by have := HLt.out; exact ⟨⟨by omega, by omega, by omega⟩, ⟨by omega, by omega, by omega⟩⟩)
      have x5 : Ext w1 ((((w3.alloc (.cells #[.pointer none, .pointer none, .pointer none] 62)).setCell ⟨w3.heap.size, 0, none⟩ (.pointer (newMc kn gM).pE)).setCell ⟨w3.heap.size, 1, none⟩ (.pointer (newMc kn gM).pL)).setCell ⟨w3.heap.size, 2, none⟩ (.pointer (newMc kn gM).pA)) := ((((XX2.out.trans md5).trans x4).setCell (p := ⟨w3.heap.size, 0, none⟩) (by show w1.heap.size ≤ w3.heap.size; omega) _).setCell (p := ⟨w3.heap.size, 1, none⟩) (by show w1.heap.size ≤ w3.heap.size; omega) _).setCell (p := ⟨w3.heap.size, 2, none⟩) (by show w1.heap.size ≤ w3.heap.size; omega) _
      have bx := ((b4.set 0 (.pointer (newMc kn gM).pE)).set 1 (.pointer (newMc kn gM).pL)).set 2 (.pointer (newMc kn gM).pA)
      have bM := (((hbM.ext x4).far (p := ⟨w3.heap.size, 0, none⟩) HNe.out.2.2.1 (.pointer (newMc kn gM).pE)).far (p := ⟨w3.heap.size, 1, none⟩) HNe.out.2.2.1 (.pointer (newMc kn gM).pL)).far (p := ⟨w3.heap.size, 2, none⟩) HNe.out.2.2.1 (.pointer (newMc kn gM).pA)
      have bR := (((md4.ext x4).far (p := ⟨w3.heap.size, 0, none⟩) HNe.out.2.2.2 (.pointer (newMc kn gM).pE)).far (p := ⟨w3.heap.size, 1, none⟩) HNe.out.2.2.2 (.pointer (newMc kn gM).pL)).far (p := ⟨w3.heap.size, 2, none⟩) HNe.out.2.2.2 (.pointer (newMc kn gM).pA)
      have HBX : Hid (Blk ((((w3.alloc (.cells #[.pointer none, .pointer none, .pointer none] 62)).setCell ⟨w3.heap.size, 0, none⟩ (.pointer (newMc kn gM).pE)).setCell ⟨w3.heap.size, 1, none⟩ (.pointer (newMc kn gM).pL)).setCell ⟨w3.heap.size, 2, none⟩ (.pointer (newMc kn gM).pA)) w3.heap.size 62 [.pointer (newMc kn gM).pE, .pointer (newMc kn gM).pL, .pointer (newMc kn gM).pA]) := Lib.hid bx
      have HBM := Lib.hid bM
      have HBR := Lib.hid bR
      have G5 := Lib.hid (GR.out.owns (Own' := fun q => q = gl ∨ q = gM ∨ q = gr ∨ q = w3.heap.size) x5 (fun q hq => by
        have hs5 := x5.size
        have := HLt.out
        rcases hq with e | e | e | e
        · rw [e]; exact ⟨by omega, Or.inl rfl⟩
        · rw [e]; exact ⟨bM.lt, Or.inr (by omega)⟩
        · rw [e]; exact ⟨bR.lt, Or.inr (by omega)⟩
        · rw [e]; exact ⟨bx.lt, Or.inr (by omega)⟩))
      have L5 := Lib.hid (BL.out.ext x5)
      have HPa : Hid (newMc kn gM = newMc kn gM) := Lib.hid rfl
      clear x4 b4 bx bM bR x5 md1 md2 md3 md4 md5 hbM hbMl hrl z1 HPa GR BL B1 U1 B2 U2 XX2 HLt d60 d60'
      generalize newMc kn gM = mN at *
      go_wp2_with ((with_reducible refine (id ?_ : wpList _ _ _ ({ dst := none, op := Op.store _ _ _, type := _, pos := _, after := _, guard := _ } :: _) _ _)); refine Hid.out ?_)
      refine Lib.hid ?_
      refine wpList_store_mid rfl _ (.tmp 12) (.tmp 47) rfl w3.heap.size 0 #[.pointer mN.pE, .pointer mN.pL, .pointer mN.pA] (by rfl) (by rfl) HTh.out (by kernel_rfl) (by simp [Value.oneCell']) ?_
      go_wp2_with fail
      generalize hW5 : (((w3.alloc (.cells #[.pointer none, .pointer none, .pointer none] 62)).setCell ⟨w3.heap.size, 0, none⟩ (.pointer mN.pE)).setCell ⟨w3.heap.size, 1, none⟩ (.pointer mN.pL)).setCell ⟨w3.heap.size, 2, none⟩ (.pointer mN.pA) = w5 at *
      have HW5 := Lib.hid hW5
      clear hW5
      rw [show (w3.alloc (.cells #[.pointer none, .pointer none, .pointer none] 62)).setCells w3.heap.size 0 [.pointer mN.pE, .pointer mN.pL, .pointer mN.pA] = w5 from HW5.out]
      have HGx : Hid (w3.heap.size = w3.heap.size) := Lib.hid rfl
      clear HTh HGx
      generalize w3.heap.size = gx at *
      clear HW5
      go_loopw [14] (fun i wr => ∃ (k : Nat) (m : Mc) (r : RMa) (p : Nat × TypeId × List Value) (sk : MSt), k ≤ pn ∧ i = .int .i64 k ∧ Gr (fun q => q = gl ∨ q = gM ∨ q = gr ∨ q = gx) W0 wr gm dv pv g R rv sk ∧ Blk wr gl 223 (cellsF (layF t s l b)) ∧ (m.own gl th = some p ∧ p.1 = gM) ∧ Blk wr p.1 p.2.1 p.2.2 ∧ Blk wr gr 67 (r.cells t s l b th) ∧ Blk wr gx 62 [.pointer m.pE, .pointer m.pL, .pointer m.pA] ∧ RelE t m r ∧ Fine k sk.dev ∧ CalmN (100 + (k : Int)) sk) (fun i _ => pn - (intOf i).toNat)
      case atStart => exact ⟨0, mN, ⟨kn, 1, 0, false⟩, (gM, TM, cM), s0, Nat.zero_le _, rfl, G5.out, L5.out, ⟨HOw.out, rfl⟩, HBM.out, HBR.out, HBX.out, HRn.out, HFi.out, by simpa using HCa.out⟩
      case round =>
        obtain ⟨k, m, r, p, sk, hk, rfl, gr1, bl, ⟨hown, hpg⟩, bp, bq, bx, rel, fi, ca⟩ := hrel
        have GK := Lib.hid gr1
        have LK := Lib.hid bl
        have OK := Lib.hid hown
        have PG := Lib.hid hpg
        have PK := Lib.hid bp
        have QK := Lib.hid bq
        have BK := Lib.hid bx
        have RK := Lib.hid rel
        have FK := Lib.hid fi
        have CK := Lib.hid ca
        have XK := Lib.hid (X0.out.trans gr1.mem.lt.1)
        clear gr1 bl hown hpg bp bq bx rel fi ca G5 L5 HOw HBM HBR HBX HRn
        by_cases hlt : k < pn
        · have v1 : decide (k < pn) = true := by simp; omega
          obtain ⟨ad, hAd, _, hcc⟩ := (HPk.out.ext XK.out) (by have := HPl.out; omega)
          obtain ⟨⟨p0, ⟨p1, p2, p3, p4, p5⟩⟩, hfit⟩ := hcc k (by have := HPl.out; omega)
          have HQ : Hid (∀ W, Ext w W → Pk7.at (pk.getD k noPk7) W (ad.add (k * 6))) := Lib.hid (fun W x => by
            obtain ⟨ad', hA1', _, hac'⟩ := HPk.out.ext x (by have := HPl.out; omega)
            have : ad = ad' := by rw [hAd] at hA1'; injection hA1'
            subst this
            exact (hac' k (by have := HPl.out; omega)).1)
          have HFit := Lib.hid hfit
          clear hcc hfit
          generalize hz5 : pk.getD k noPk7 = z at *
          clear hz5
          subst hAd
          obtain ⟨bb, ac⟩ := z
          go_upto_if 59 with fail
          go_cut [15] (fun _ wx => ∃ (m' : Mc) (r' : RMa) (p' : Nat × TypeId × List Value) (sk' : MSt), Gr (fun q => q = gl ∨ q = gM ∨ q = gr ∨ q = gx) W0 wx gm dv pv g R rv sk' ∧ Blk wx gl 223 (cellsF (layF t s l b)) ∧ (m'.own gl th = some p' ∧ p'.1 = gM) ∧ Blk wx p'.1 p'.2.1 p'.2.2 ∧ Blk wx gr 67 (r'.cells t s l b th) ∧ Blk wx gx 62 [.pointer m'.pE, .pointer m'.pL, .pointer m'.pA] ∧ RelE t m' r' ∧ Fine (k + 1) sk'.dev ∧ CalmN (100 + (k : Int) + 1) sk')
          case first =>
            cases bb
            · -- another one's act
              have HD := Lib.hid (do7_ok GK.out.mem (i := k) (by omega) FK.out (CK.out.calm (by omega)) ac.k ac.t ac.a ac.z ac.x HFit.out.1 HFit.out.2.1 HFit.out.2.2)
              have FN := Lib.hid (act_fine FK.out (by omega) ac.k ac.t ac.a ac.z ac.x)
              have CN := Lib.hid (act_calm CK.out ac.k ac.t ac.a ac.z ac.x)
              go_wp2_with fail
              refine HD.out.mono ?_
              rintro e w4 ⟨⟨u, rfl⟩, m4⟩
              have M4 := Lib.hid m4
              have R4 := Lib.hid (GK.out.refMid m4)
              have HMU := Lib.hid (must7_ok R4.out GK.out.sound (i := k) (by omega) FK.out (CK.out.calm (by omega)) ac.k ac.t ac.a ac.z ac.x HFit.out.1 HFit.out.2.1)
              clear m4 HD p0 p1 p2 p3 p4 p5
              obtain ⟨p0, p1, p2, p3, p4, p5⟩ := HQ.out w4 (X0.out.trans M4.out.lt.1)
              go_wp2_with fail
              refine HMU.out.mono ?_
              rintro e w5 ⟨⟨u', rfl⟩, r5, f5⟩
              have G5 := Lib.hid (GK.out.both M4.out r5 f5)
              have L5 := Lib.hid ((GK.out.keeps M4.out f5 (b := gl) (Or.inl rfl)).trans LK.out)
              have P5 := Lib.hid ((GK.out.keeps M4.out f5 (b := p.1) (Or.inr (Or.inl PG.out))).trans PK.out)
              have Q5 := Lib.hid ((GK.out.keeps M4.out f5 (b := gr) (Or.inr (Or.inr (Or.inl rfl)))).trans QK.out)
              have B5 := Lib.hid ((GK.out.keeps M4.out f5 (b := gx) (Or.inr (Or.inr (Or.inr rfl)))).trans BK.out)
              clear r5 f5 HMU p0 p1 p2 p3 p4 p5
              go_wp2_with fail
              go_meet
              exact ⟨m, r, p, _, G5.out, L5.out, ⟨OK.out, PG.out⟩, P5.out, Q5.out, B5.out, RK.out, FN.out, CN.out⟩
            · -- a step
              have hU := fun a => GK.out.mem.peekU a
              have hoff := GK.out.off
              obtain ⟨cs', hp'⟩ := Mc.own_step (F := layF t s l b) (T := t) OK.out sk
              have HS := Lib.hid (mstep_ok OK.out hp' GK.out.mem (CK.out.calm (by omega)) HOk.out RK.out.entW RK.out.advW (by omega) HF21.out HF0.out PK.out LK.out (Or.inr (Or.inr (Or.inl PG.out))) (Or.inr (Or.inl rfl)) (by rw [PG.out]; exact HNe.out.1.1) (hoff p.1 (Or.inr (Or.inl PG.out))).2)
              have HP' := Lib.hid hp'
              have FN := Lib.hid (Mc.S_fine (F := layF t s l b) (T := t) (t := th) (m := m) FK.out (by omega))
              have CN := Lib.hid (Mc.S_calm (F := layF t s l b) (T := t) (t := th) (hU (-1)) RK.out.advW CK.out)
              have HU := Lib.hid hU
              have c0 : wr.cell? ⟨gx, 0, none⟩ = some (.pointer m.pE) := BK.out.cell 0
              have c1 : wr.cell? ⟨gx, 1, none⟩ = some (.pointer m.pL) := BK.out.cell 1
              have c2 : wr.cell? ⟨gx, 2, none⟩ = some (.pointer m.pA) := BK.out.cell 2
              have HPt := Lib.hid (Mc.S_ptrs m (layF t s l b) t th sk)
              clear hU hp' p1 p2 p3 p4 p5 HQ HFit hoff
              go_wp2_with fail
              refine HS.out.mono ?_
              rintro e w4 ⟨rfl, m4, b4, k4⟩
              have hoff := GK.out.off
              have hgp : ∀ q, rfoot g R rv q → q ≠ p.1 := fun q hq e => (hoff p.1 (Or.inr (Or.inl PG.out))).1 (e ▸ hq)
              have R4 := GK.out.ref.heldQ (fun q hq => k4 q (Or.inl hq) (hgp q hq))
              have L4 : Blk w4 gl 223 (cellsF (layF t s l b)) := (k4 gl (Or.inr (Or.inl rfl)) (by rw [PG.out]; exact HNe.out.1.1)).trans LK.out
              have Q4 : Blk w4 gr 67 (r.cells t s l b th) := (k4 gr (Or.inr (Or.inr (Or.inr (Or.inl rfl)))) (by rw [PG.out]; exact HNe.out.2.1.symm)).trans QK.out
              have X4 : Blk w4 gx 62 [.pointer m.pE, .pointer m.pL, .pointer m.pA] := (k4 gx (Or.inr (Or.inr (Or.inr (Or.inr rfl)))) (by rw [PG.out]; exact HNe.out.2.2.1.symm)).trans BK.out
              obtain ⟨r', hrel', hrm⟩ := rmach_ok (tn := th) RK.out R4 GK.out.sound (CK.out.calm (by omega)) HC.out (by omega) HOk.out Q4 (hoff gr (Or.inr (Or.inr (Or.inl rfl)))).1 HU.out
              have HRm := Lib.hid hrm
              have HRe := Lib.hid hrel'
              have M4 := Lib.hid m4
              have B4 := Lib.hid b4
              have LL4 := Lib.hid L4
              have XX4 := Lib.hid X4
              clear m4 b4 k4 R4 L4 Q4 X4 HS p0 hrm hrel' c0 c1 c2
              go_wp2_with fail
              refine HRm.out.mono ?_
              rintro e w5 ⟨⟨u', rfl⟩, rg⟩
              have m5 : IsMem (fun q => rfoot g R rv q ∨ q = gl ∨ q = gM ∨ q = gr ∨ q = gx) w5 W0 w5 gm dv pv (m.S (layF t s l b) t th sk).2 := M4.out.turn rg.fr (fun q hq => by
                rcases hq with e | e
                · exact Or.inl e
                · exact Or.inr (Or.inr (Or.inr (Or.inl e)))) (fun q hq => by
                rcases hq with e | e
                · exact (GK.out.ref.foot_lt e).1
                · rw [e]; exact (hoff gr (Or.inr (Or.inr (Or.inl rfl)))).2)
              have G5 : Hid (Gr (fun q => q = gl ∨ q = gM ∨ q = gr ∨ q = gx) W0 w5 gm dv pv g R rv (m.S (layF t s l b) t th sk).2) := Lib.hid ⟨m5, rg.ref, hoff⟩
              have L5 := Lib.hid (LL4.out.fr rg.fr (fun hq => by
                rcases hq with e | e
                · exact (hoff gl (Or.inl rfl)).1 e
                · exact HNe.out.1.2.1 e))
              have P5 := Lib.hid (B4.out.fr rg.fr (fun hq => by
                rcases hq with e | e
                · exact (hoff p.1 (Or.inr (Or.inl PG.out))).1 e
                · exact HNe.out.2.1 (PG.out.symm.trans e)))
              have X5 := Lib.hid (XX4.out.fr rg.fr (fun hq => by
                rcases hq with e | e
                · exact (hoff gx (Or.inr (Or.inr (Or.inr rfl)))).1 e
                · exact HNe.out.2.2.2 e.symm))
              have Q5 := Lib.hid rg.blk
              have c5 : w5.cell? ⟨gr, 6, none⟩ = some (.int .i64 r'.line) := rg.blk.cell 6
              have hlb := HRe.out.lineB
              clear rg m5 HRm hoff hgp M4 B4 LL4 XX4
              generalize m.S (layF t s l b) t th sk = X at *
              obtain ⟨m', s'⟩ := X
              simp only at hlb
              obtain ⟨dn', hdn⟩ : ∃ dn', m'.dn = dn' := ⟨_, rfl⟩
              obtain ⟨ln, hln⟩ : ∃ ln, r'.line = ln := ⟨_, rfl⟩
              rw [hln] at c5 hlb
              rw [hdn] at hlb
              have dbb : (dn' != dn') = false := by cases dn' <;> rfl
              simp only
              rw [hdn]
              clear hdn hln
              have hdl : decide (ln = 0) = dn' := by rw [← hlb]; rfl
              have XN : Hid (Blk w5 gx 62 [.pointer m'.pE, .pointer m'.pL, .pointer m'.pA]) := Lib.hid (by
                have h3 := HPt.out
                simp only at h3
                rw [h3.1, h3.2.1, h3.2.2]
                exact X5.out)
              go_wp2_with fail
              go_meet
              exact ⟨m', r', (p.1, p.2.1, cs'), s', G5.out, L5.out, ⟨HP'.out, PG.out⟩, P5.out, Q5.out, XN.out, HRe.out, FN.out, CN.out⟩
          case rest =>
            obtain ⟨m', r', p', sk', gr1, bl, ⟨hown, hpg⟩, bp, bq, bx, rel, fi, ca⟩ := hcut
            generalize wc = w6 at *
            have HSm : Hid (∀ W, Ext w6 W → Calls Tryz.prog 22 #[.pointer (some ⟨gm, 0, none⟩), .pointer (some ⟨g, 0, none⟩)] W fun e w' => e = .returned (.bool true) ∧ Ext W w') := Lib.hid (fun W x => same7_ok (gr1.ext x).mem (gr1.ext x).ref (gr1.ext x).sound)
            obtain ⟨dn, hdn⟩ : ∃ dn, m'.dn = dn := ⟨_, rfl⟩
            obtain ⟨ln, hln⟩ : ∃ ln, r'.line = ln := ⟨_, rfl⟩
            obtain ⟨mo, hmo⟩ : ∃ mo, r'.mv = mo := ⟨_, rfl⟩
            have hlb := rel.lineB
            rw [hln, hdn] at hlb
            have hmv := rel.mvB
            rw [hmo] at hmv
            have HDo : Hid (∀ W, Ext w6 W → Calls Tryz.prog 33 #[.agg #[.pointer m'.pE, .pointer m'.pL, .pointer m'.pA]] W fun e w' => e = .returned (.bool dn) ∧ Ext W w') := Lib.hid (fun W x => (mdone_ok W m' (Mc.at_of (gl := gl) (t := th) (fun q e => by rw [hown] at e; injection e with e; subst e; exact bp.ext x))).mono (by rintro e w' ⟨rfl, xx⟩; exact ⟨by rw [hdn], xx⟩))
            have HMo : Hid (∀ W, Ext w6 W → Calls Tryz.prog 34 #[.pointer m'.pA] W fun e w' => e = .returned (.bool mo) ∧ Ext W w') := Lib.hid (fun W x => (movedM_ok W m' (fun q y e => by subst e; injection hown with e; subst e; exact (bp.ext x).cell 6)).mono (by rintro e w' ⟨rfl, rfl⟩; exact ⟨by rw [hmv], Ext.refl _⟩))
            have y6 : w6.cell? ⟨gr, 6, none⟩ = some (.int .i64 ln) := by rw [← hln]; exact bq.cell 6
            have y8 : w6.cell? ⟨gr, 8, none⟩ = some (.bool mo) := by rw [← hmo]; exact bq.cell 8
            have k0 : w6.cell? ⟨gx, 0, none⟩ = some (.pointer m'.pE) := bx.cell 0
            have k1 : w6.cell? ⟨gx, 1, none⟩ = some (.pointer m'.pL) := bx.cell 1
            have k2 : w6.cell? ⟨gx, 2, none⟩ = some (.pointer m'.pA) := bx.cell 2
            have z6 := fun d os => cell_regrown y6 d os
            have z8 := fun d os => cell_regrown y8 d os
            have zk0 := fun d os => cell_regrown k0 d os
            have zk1 := fun d os => cell_regrown k1 d os
            have zk2 := fun d os => cell_regrown k2 d os
            have G6 := Lib.hid gr1
            have L6 := Lib.hid bl
            have O6 := Lib.hid hown
            have N6 := Lib.hid hpg
            have P6 := Lib.hid bp
            have Q6 := Lib.hid bq
            have X6 := Lib.hid bx
            have R6 := Lib.hid rel
            have F6 := Lib.hid fi
            have C6 := Lib.hid ca
            have dbb : (dn != dn) = false := by cases dn <;> rfl
            have dmm : (mo != mo) = false := by cases mo <;> rfl
            have hdl : decide (ln = 0) = dn := by rw [← hlb]; rfl
            clear gr1 bl hown hpg bp bq bx rel fi ca hdn hln hmo hmv GK LK OK PG PK QK BK RK FK CK HQ HFit
            go_wp2_with fail
            refine wp_region_quiet_below (by kernel_rfl) (by kernel_rfl) ?_
            repeat (quiet_step (first
              | (with_reducible exact Calls.regrown_of (HSm.out _ (grown_extF _ _ _)))
              | (with_reducible exact Calls.regrown_of (HDo.out _ (grown_extF _ _ _)))
              | (with_reducible exact Calls.regrown_of (HMo.out _ (grown_extF _ _ _)))))
            refine wpQuiet_nil ?_
            intro wf hwf
            have XF : Ext w6 wf := by
              obtain ⟨⟨dq, osq⟩, hw2⟩ := hwf
              rw [hw2]
              exact grown_extF _ _ _
            have G7 := Lib.hid (G6.out.ext XF)
            have L7 := Lib.hid (L6.out.ext XF)
            have P7 := Lib.hid (P6.out.ext XF)
            have Q7 := Lib.hid (Q6.out.ext XF)
            have X7 := Lib.hid (X6.out.ext XF)
            clear hwf z6 z8 zk0 zk1 zk2 y6 y8 k0 k1 k2 XF G6 L6 P6 Q6 X6
            go_wp2_with fail
            go_roundw
            case rel => exact ⟨k + 1, m', r', p', sk', by omega, by go_num, G7.out, L7.out, ⟨O6.out, N6.out⟩, P7.out, Q7.out, X7.out, R6.out, F6.out, by rw [show (100 : Int) + ((k + 1 : Nat) : Int) = 100 + (k : Int) + 1 by omega]; exact C6.out⟩
            case measure => simp [intOf]; omega
        · have v1 : decide (k < pn) = false := by simp; omega
          go_wp2_with fail
          refine (HAw.out _).mono ?_
          rintro e w4 ⟨rfl, x4⟩
          have X4 := Lib.hid (XK.out.trans x4)
          clear x4
          go_wp2_with fail
          go_ret
          exact ⟨rfl, X4.out⟩
set_option maxRecDepth 100000 in
set_option maxHeartbeats 4000000 in
theorem epochSteps_long (w : World) (A : Option Addr) (n c : Nat) (t s l b : Nat) (ys : List Put) (kd th : Int) (PA : Option Addr) (pn pc : Nat) (hg : GrOk t s l b) (hy : ys.length = n) (hn : n ≤ 100) (hY : PutsAt w A ys) (hpn : 60 < pn) (hp2 : pn ≤ 9223372036854775807) :
    Calls Tryz.prog 5 #[.agg #[.int .i64 t, .int .i64 s, .int .i64 l, .int .i64 b, .slice A n c], .agg #[.int .i64 kd, .int .i64 th], .slice PA pn pc] w fun e w' => e = .returned (.bool true) ∧ Ext w w' := by
  have X0 := Lib.hid (((Ext.refl w).alloc (.cells #[.int .i64 t, .int .i64 s, .int .i64 l, .int .i64 b, .slice A n c] 26)).alloc (.cells #[.int .i64 kd, .int .i64 th] 51))
  have B0 := Lib.hid ((Blk.new w 26 [.int .i64 t, .int .i64 s, .int .i64 l, .int .i64 b, .slice A n c]).ext ((Ext.refl (w.alloc (.cells #[.int .i64 t, .int .i64 s, .int .i64 l, .int .i64 b, .slice A n c] 26))).alloc (.cells #[.int .i64 kd, .int .i64 th] 51)))
  have HL := Lib.hid (lay_ok ((w.alloc (.cells #[.int .i64 t, .int .i64 s, .int .i64 l, .int .i64 b, .slice A n c] 26)).alloc (.cells #[.int .i64 kd, .int .i64 th] 51)) A n c t s l b ys hg hy hn (hY.ext X0.out))
  have d60 : decide (60 < pn) = true := by simp; omega
  have d60' : decide ((60 : Int) < (pn : Int)) = true := by simp; omega
  clear hg hY
  go_enter Tryz.func5, Tryz.ntmps5
  go_upto_region 1 with fail
  generalize ((w.alloc (.cells #[.int .i64 t, .int .i64 s, .int .i64 l, .int .i64 b, .slice A n c] 26)).alloc (.cells #[.int .i64 kd, .int .i64 th] 51)) = W0 at *
  have y0 : W0.cell? ⟨w.heap.size, 0, none⟩ = some (.int .i64 t) := B0.out.cell 0
  have y1 : W0.cell? ⟨w.heap.size, 1, none⟩ = some (.int .i64 s) := B0.out.cell 1
  have y2 : W0.cell? ⟨w.heap.size, 2, none⟩ = some (.int .i64 l) := B0.out.cell 2
  have y3 : W0.cell? ⟨w.heap.size, 3, none⟩ = some (.int .i64 b) := B0.out.cell 3
  have y4 : W0.cell? ⟨w.heap.size, 4, none⟩ = some (.slice A n c) := B0.out.cell 4
  go_wp2_with fail
  refine HL.out.mono ?_
  rintro e w1 ⟨gl, gm, dv, pv, g, R, rv, rfl, bl, gr⟩
  have X1 := Lib.hid (X0.out.trans gr.mem.lt.1)
  clear bl gr y0 y1 y2 y3 y4
  go_wp2_with fail
  refine (awake10_ok _).mono ?_
  rintro e w2 ⟨rfl, x2⟩
  have X2 := Lib.hid (X1.out.trans x2)
  clear x2
  go_wp2_with fail
  go_ret
  exact ⟨rfl, X2.out⟩
set_option maxRecDepth 100000 in
set_option maxHeartbeats 4000000 in
theorem epochSteps_no (w : World) (A : Option Addr) (n c : Nat) (t s l b kd th : Int) (PA : Option Addr) (pn pc : Nat) (h : ¬ GrOk t s l b ∨ 100 < n) (hn : n ≤ 9223372036854775807) :
    Calls Tryz.prog 5 #[.agg #[.int .i64 t, .int .i64 s, .int .i64 l, .int .i64 b, .slice A n c], .agg #[.int .i64 kd, .int .i64 th], .slice PA pn pc] w fun e w' => e = .returned (.bool true) ∧ Ext w w' := by
  have X0 := Lib.hid (((Ext.refl w).alloc (.cells #[.int .i64 t, .int .i64 s, .int .i64 l, .int .i64 b, .slice A n c] 26)).alloc (.cells #[.int .i64 kd, .int .i64 th] 51))
  have HL := Lib.hid (fun W => lay_no W A n c t s l b h hn)
  unfold NoGr at HL
  clear h
  go_enter Tryz.func5, Tryz.ntmps5
  go_wp2_with fail
  refine (HL.out _).mono ?_
  rintro e w1 ⟨rfl, x1⟩
  have X1 := Lib.hid (X0.out.trans x1)
  clear x1
  go_wp2_with fail
  refine (awake10_ok _).mono ?_
  rintro e w2 ⟨rfl, x2⟩
  have X2 := Lib.hid (X1.out.trans x2)
  clear x2
  go_wp2_with fail
  go_ret
  exact ⟨rfl, X2.out⟩
theorem epochSteps_walk (w : World) (A : Option Addr) (n c : Nat) (t s l b kd th : Int) (ys : List Put) (PA : Option Addr) (pn pc : Nat) (pk : List Pk7) (hy : ys.length = n) (hn : n ≤ 9223372036854775807) (hY : PutsAt w A ys) (hp : pk.length = pn) (hpn : pn ≤ 9223372036854775807) (hP : Pokes w PA pk) :
    Calls Tryz.prog 5 #[.agg #[.int .i64 t, .int .i64 s, .int .i64 l, .int .i64 b, .slice A n c], .agg #[.int .i64 kd, .int .i64 th], .slice PA pn pc] w fun e w' => e = .returned (.bool true) ∧ Ext w w' := by
  by_cases h : GrOk t s l b ∧ n ≤ 100
  · obtain ⟨hg, hn1⟩ := h
    obtain ⟨⟨q0, q1⟩, ⟨q2, q3⟩, ⟨q4, q5⟩, q6, q7⟩ := id hg.1
    obtain ⟨t', rfl⟩ := Int.eq_ofNat_of_zero_le (show 0 ≤ t by omega)
    obtain ⟨s', rfl⟩ := Int.eq_ofNat_of_zero_le (show 0 ≤ s by omega)
    obtain ⟨l', rfl⟩ := Int.eq_ofNat_of_zero_le (show 0 ≤ l by omega)
    obtain ⟨b', rfl⟩ := Int.eq_ofNat_of_zero_le (show 0 ≤ b by omega)
    by_cases h60 : pn ≤ 60
    · exact epochSteps_yes w A n c t' s' l' b' ys kd th PA pn pc pk hg hy hn1 hY hp h60 hP
    · exact epochSteps_long w A n c t' s' l' b' ys kd th PA pn pc hg hy hn1 hY (by omega) hpn
  · exact epochSteps_no w A n c t s l b kd th PA pn pc (by
      by_cases hg : GrOk t s l b
      · exact Or.inr (by
          have : ¬ n ≤ 100 := fun h2 => h ⟨hg, h2⟩
          omega)
      · exact Or.inl hg) hn

namespace epochSteps
set_option maxRecDepth 100000 in
theorem lifted (os : Os) (started : os.Started) (H : Type) (enc : TypeId × Value → H) :
    ReturnsInHanded {} Tryz.checked os 5 .any (Rows.epochStepsSpec.pre6 enc Tryz.prog Tryz.f5 Rows.epochStepsRow.domain false) (Rows.epochStepsSpec.post enc Tryz.prog Tryz.f5 false true false false) := by
  refine returnsInHanded_of_change (C := Tryz.checked) own started (by kernel_rfl) Tryz.func5
    (ChangeSpec.witness6 (enc := enc) (C := Tryz.checked) false ⟨#[], #[.agg #[.int .i64 0, .int .i64 0, .int .i64 0, .int .i64 0, .slice none 0 0], .agg #[.int .i64 0, .int .i64 0], .slice none 0 0], []⟩ 8 (by kernel_rfl) (by kernel_rfl) (by kernel_rfl) (by kernel_rfl)) ?_
  intro W base args ds gs before hval0 hW hcnd _
  have hval : ∀ (j : Nat) t v, Tryz.f5.params[j]? = some t → args[j]? = some v → Value.okWide Tryz.prog W .any base t v := hval0
  have hW' := hW
  obtain ⟨p, q, hA0, hV, rfl, hfz, hnd⟩ := hW
  have hA : DataW.TrodAll enc Tryz.prog W 0 (fun _ => true) true Tryz.f5.params.toList args.toList ds p := hA0
  have hlt : ∀ x ∈ p ++ q, x.block < W.heap.size := fun x hx => hW'.lt x hx
  rw [Tryz.params5] at hA hval
  have hB := hA
  obtain ⟨v0, vs0, d0, ds0, p0, q0, hargs, rfl, rfl, h0, r0⟩ := trodAll_cons hB
  obtain ⟨v1, vs1, d1, ds1, p1, q1, rfl, rfl, rfl, h1, r1⟩ := trodAll_cons r0
  obtain ⟨v2, vs2, d2, ds2, p2, q2, rfl, rfl, rfl, h2, r2⟩ := trodAll_cons r1
  obtain ⟨rfl, rfl, rfl⟩ := trodAll_nil r2
  obtain rfl : args = #[v0, v1, v2] := by cases args; simp_all
  obtain ⟨rfl, rfl⟩ := trodVars_none hV
  obtain ⟨g0t, g0s, g0l, g0b, A0, c0, y0, rfl, lc0, mc0, I0⟩ := view_ground Tryz.underlying26 (by kernel_rfl) rfl (by kernel_rfl) rfl (by kernel_rfl) Tryz.underlying23 (by kernel_rfl) Tryz.underlying3 Tryz.underlying3 Tryz.underlying3 Tryz.underlying3 Tryz.underlying24 Tryz.underlying93 (by kernel_rfl) (by kernel_rfl) Tryz.underlying3 Tryz.underlying37 (hval 0 26 v0 rfl rfl) h0
  obtain ⟨x1a, x1b, rfl, ok1⟩ := view_pair Tryz.underlying51 Tryz.underlying3 (by kernel_rfl) (by kernel_rfl) (hval 1 51 v1 rfl rfl) h1 (okWide_agg_array Tryz.underlying51 (hval 1 51 v1 rfl rfl))
  obtain ⟨A2, n2, c2, y2, rfl, lc2, mc2, zl2, I2⟩ := view_pokes Tryz.underlying27 Tryz.underlying43 (by kernel_rfl) rfl (by kernel_rfl) Tryz.underlying4 rfl (by kernel_rfl) Tryz.underlying41 (by kernel_rfl) Tryz.underlying3 Tryz.underlying3 Tryz.underlying3 Tryz.underlying37 Tryz.underlying37 (hval 2 27 v2 rfl rfl) h2
  clear hA0 hval0
  refine (epochSteps_walk W A0 _ c0 g0t g0s g0l g0b x1a x1b y0 A2 n2 c2 y2 rfl (Nat.le_trans lc0 mc0) I0 zl2 (Nat.le_trans lc2 mc2) I2).mono fun e W' ⟨he, hx⟩ => ?_
  subst he
  exact ⟨_, rfl, post_ext (pv := []) hW' (fun _ _ _ => (trodAll_cons_mk (shut_bool Tryz.underlying4 _) trodAll_mk0)) (fun sp hsp => trodAll_stays laid hx _ _ _ _ (readable_of (by kernel_rfl)) hA (fun x hx => hlt x (by first | (simp at hx ⊢; exact hx) | simp at hx)) (fun x hx => hsp x (by first | (simp at hx ⊢; exact hx) | simp at hx))) (fun _ _ => rfl) rfl hx (ok_one (by kernel_rfl) rfl (okWide_bool_mk Tryz.underlying4 _))⟩

theorem over : Rows.epochStepsRow.holds Tryz.pinned (OpenSpec.ofChange Rows.epochStepsSpec) :=
  OpenClaim.holds_of_wide 5 Tryz.f5 rfl rfl rfl rfl rfl rfl rfl ⟨rfl, rfl, rfl, rfl, rfl⟩ rfl rfl rfl rfl rfl (by kernel_rfl) Tryz.func5 (by kernel_rfl)
    (of_decide_eq_true (by kernel_rfl)) (by unfold Func.isWrapper; first | (rw [if_pos (by decide +kernel)]; kernel_rfl) | (rw [if_neg (by decide +kernel)]; exact ⟨rfl, rfl⟩))
    (fun os started H enc _ => lifted os started H enc)
end epochSteps

theorem epochSteps_holds : Rows.EpochStepsSaid := epochSteps.over
#print axioms epochSteps_holds
end Go.Proofs.YtfbobdkfibhcnaaGreat
