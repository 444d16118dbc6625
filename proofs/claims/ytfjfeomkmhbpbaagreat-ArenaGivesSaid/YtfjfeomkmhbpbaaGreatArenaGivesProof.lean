/- Each step of a Give, over any memory, whatever others do between, is the document's, and what it holds: the law answers true for every ground, thread, slot and acts, and changes nothing. Conditions: none. -/
import Derived.Test.YtfjfeomkmhbpbaaGreatKGv
import Derived.Deep.RegionHeld3
import Derived.Lib.QuietBelow
import Derived.Deep.DeepCutAuto
import Derived.Test.YtfjfeomkmhbpbaaGreatKPk
import Derived.Test.YtfjfeomkmhbpbaaGreatKFreeB
import Derived.Test.YtfjfeomkmhbpbaaGreatKView
import Derived.Test.YtfjfeomkmhbpbaaGreatArgs
namespace Go.Proofs.YtfjfeomkmhbpbaaGreat
open Go.ChangeShapes Go.WideShapes Go.ChangeAt Go.RowKit
set_option linter.unusedVariables false

set_option maxRecDepth 100000 in
set_option maxHeartbeats 8000000 in
theorem arenaGives_yes (w : World) (A : Option Addr) (n c : Nat) (t s l b : Nat) (ys : List Put) (th sl : Int) (hsl : I64 sl) (PA : Option Addr) (pn pc : Nat) (pk : List Pk7) (hg : GrOk t s l b) (hy : ys.length = n) (hn : n ≤ 100) (hY : PutsAt w A ys) (hp : pk.length = pn) (hpn : pn ≤ 60) (hP : Pokes w PA pk) :
    Calls Tryz.prog 4 #[.agg #[.int .i64 t, .int .i64 s, .int .i64 l, .int .i64 b, .slice A n c], .agg #[.int .i64 th, .int .i64 sl], .slice PA pn pc] w fun e w' => e = .returned (.bool true) ∧ Ext w w' := by
  have X0 := Lib.hid (((Ext.refl w).alloc (.cells #[.int .i64 t, .int .i64 s, .int .i64 l, .int .i64 b, .slice A n c] 26)).alloc (.cells #[.int .i64 th, .int .i64 sl] 61))
  have B0 := Lib.hid ((Blk.new w 26 [.int .i64 t, .int .i64 s, .int .i64 l, .int .i64 b, .slice A n c]).ext ((Ext.refl (w.alloc (.cells #[.int .i64 t, .int .i64 s, .int .i64 l, .int .i64 b, .slice A n c] 26))).alloc (.cells #[.int .i64 th, .int .i64 sl] 61)))
  have U0 : Hid (Blk ((w.alloc (.cells #[.int .i64 t, .int .i64 s, .int .i64 l, .int .i64 b, .slice A n c] 26)).alloc (.cells #[.int .i64 th, .int .i64 sl] 61)) (w.heap.size + 1) 61 [.int .i64 th, .int .i64 sl]) := Lib.hid (by have := Blk.new (w.alloc (.cells #[.int .i64 t, .int .i64 s, .int .i64 l, .int .i64 b, .slice A n c] 26)) 61 [.int .i64 th, .int .i64 sl]; simp only [World.size_alloc] at this; exact this)
  have HL := Lib.hid (lay_ok ((w.alloc (.cells #[.int .i64 t, .int .i64 s, .int .i64 l, .int .i64 b, .slice A n c] 26)).alloc (.cells #[.int .i64 th, .int .i64 sl] 61)) A n c t s l b ys hg hy hn (hY.ext X0.out))
  have HPk := Lib.hid hP
  have HPl := Lib.hid hp
  have HFi := Lib.hid (ground_fine t s l b ys)
  have HCa := Lib.hid (ground_calm t s l b ys (by omega))
  have HAw := Lib.hid (fun W => awake12_ok W)
  obtain ⟨hc, h1, h2, h3, h4⟩ := id hg
  obtain ⟨⟨q0, q1⟩, ⟨q2, q3⟩, ⟨q4, q5⟩, q6, q7⟩ := id hc
  have HC : Hid (CfgN t s l b) := Lib.hid ⟨by omega, by omega, by omega, by omega, by omega⟩
  have HOk := Lib.hid (okayF hc)
  have HF22 : Hid (layF t s l b 22 = -2) := Lib.hid rfl
  have d60 : decide (60 < pn) = false := by simp; omega
  have d60' : decide ((60 : Int) < (pn : Int)) = false := by simp; omega
  clear hY hg hc h1 h2 h3 h4 q0 q1 q2 q3 q4 q5 q6 q7 hP hp
  go_enter Tryz.func4, Tryz.ntmps4
  go_upto_region 1 with fail
  generalize ((w.alloc (.cells #[.int .i64 t, .int .i64 s, .int .i64 l, .int .i64 b, .slice A n c] 26)).alloc (.cells #[.int .i64 th, .int .i64 sl] 61)) = W0 at *
  have y0 : W0.cell? ⟨w.heap.size, 0, none⟩ = some (.int .i64 t) := B0.out.cell 0
  have y1 : W0.cell? ⟨w.heap.size, 1, none⟩ = some (.int .i64 s) := B0.out.cell 1
  have y2 : W0.cell? ⟨w.heap.size, 2, none⟩ = some (.int .i64 l) := B0.out.cell 2
  have y3 : W0.cell? ⟨w.heap.size, 3, none⟩ = some (.int .i64 b) := B0.out.cell 3
  have y4 : W0.cell? ⟨w.heap.size, 4, none⟩ = some (.slice A n c) := B0.out.cell 4
  have u0 : W0.cell? ⟨w.heap.size + 1, 0, none⟩ = some (.int .i64 th) := U0.out.cell 0
  have u1 : W0.cell? ⟨w.heap.size + 1, 1, none⟩ = some (.int .i64 sl) := U0.out.cell 1
  go_wp2_with fail
  refine HL.out.mono ?_
  rintro e w1 ⟨gl, gm, dv, pv, g, R, rv, rfl, bl, gr⟩
  have BL := Lib.hid bl
  have GR := Lib.hid gr
  have B1 := Lib.hid (B0.out.ext gr.mem.lt.1)
  have U1 := Lib.hid (U0.out.ext gr.mem.lt.1)
  have HSl := Lib.hid hsl
  generalize groundSt t s l b ys = s0 at *
  have U00 := Lib.hid U0.out
  clear bl gr y0 y1 y2 y3 y4 u0 u1 HL B0 U0 hsl
  have y0 : w1.cell? ⟨w.heap.size, 0, none⟩ = some (.int .i64 t) := B1.out.cell 0
  have y1 : w1.cell? ⟨w.heap.size, 1, none⟩ = some (.int .i64 s) := B1.out.cell 1
  have y2 : w1.cell? ⟨w.heap.size, 2, none⟩ = some (.int .i64 l) := B1.out.cell 2
  have y3 : w1.cell? ⟨w.heap.size, 3, none⟩ = some (.int .i64 b) := B1.out.cell 3
  have y4 : w1.cell? ⟨w.heap.size, 4, none⟩ = some (.slice A n c) := B1.out.cell 4
  have u0 : w1.cell? ⟨w.heap.size + 1, 0, none⟩ = some (.int .i64 th) := U1.out.cell 0
  have u1 : w1.cell? ⟨w.heap.size + 1, 1, none⟩ = some (.int .i64 sl) := U1.out.cell 1
  go_wp2_with fail
  have HP : Hid (∀ W, Ext w1 W → (W.cell? ⟨w.heap.size, 0, none⟩ = some (.int .i64 t) ∧ W.cell? ⟨w.heap.size, 1, none⟩ = some (.int .i64 s) ∧ W.cell? ⟨w.heap.size, 2, none⟩ = some (.int .i64 l) ∧ W.cell? ⟨w.heap.size, 3, none⟩ = some (.int .i64 b)) ∧ W.cell? ⟨w.heap.size + 1, 0, none⟩ = some (.int .i64 th) ∧ W.cell? ⟨w.heap.size + 1, 1, none⟩ = some (.int .i64 sl)) := Lib.hid (fun W x => ⟨⟨(B1.out.ext x).cell 0, (B1.out.ext x).cell 1, (B1.out.ext x).cell 2, (B1.out.ext x).cell 3⟩, (U1.out.ext x).cell 0, (U1.out.ext x).cell 1⟩)
  have X := Lib.hid ((Ext.refl w1).drew)
  have HG1 := Lib.hid (fun W => newGive_ok W gl th sl)
  have HG2 := Lib.hid (fun W => newGive12_ok t s l b th sl W)
  have HLt := Lib.hid BL.out.lt
  clear y4
  go_region_held3 (fun W => (W.cell? ⟨w.heap.size, 0, none⟩ = some (.int .i64 t) ∧ W.cell? ⟨w.heap.size, 1, none⟩ = some (.int .i64 s) ∧ W.cell? ⟨w.heap.size, 2, none⟩ = some (.int .i64 l) ∧ W.cell? ⟨w.heap.size, 3, none⟩ = some (.int .i64 b)) ∧ W.cell? ⟨w.heap.size + 1, 0, none⟩ = some (.int .i64 th) ∧ W.cell? ⟨w.heap.size + 1, 1, none⟩ = some (.int .i64 sl)) (first | exact HP.out _ X.out | go_keep) (first
    | (go_at_call 20; refine (HG1.out _).mono ?_; rintro e w2 ⟨gp, gu, rfl, lu, lp, bp, bu, x2⟩; have LU := Lib.hid (Nat.le_trans X.out.size lu); have LP := Lib.hid lp; have BP := Lib.hid bp; have BU := Lib.hid bu; replace X := Lib.hid (X.out.trans x2); clear lu lp bp bu x2)
    | (go_at_call 21; refine (HG2.out _).mono ?_; rintro e w3 ⟨gq, rfl, lq, bq, x3⟩; have XX2 := Lib.hid X.out; have LQ := Lib.hid lq; have BQ := Lib.hid bq; have XX3 := Lib.hid x3; replace X := Lib.hid (X.out.trans x3); clear lq bq x3))
  have lq := LQ.out
  have bq := BQ.out
  have x3 := XX3.out
  have BL2 := Lib.hid (BL.out.ext XX2.out)
  have hgp2 : gp < w2.heap.size := BP.out.lt
  have hgu2 : gu < w2.heap.size := BU.out.lt
  have hsz2 : w1.heap.size ≤ w2.heap.size := XX2.out.size
  have HNe : Hid (gl ≠ gp ∧ gl ≠ gq ∧ gp ≠ gq ∧ gl ≠ gu ∧ gu ≠ gq ∧ gu ≠ gp) := Lib.hid (by have := HLt.out; have := LP.out; have := LU.out; exact ⟨by omega, by omega, by omega, by omega, by omega, by omega⟩)
  have G3 : Hid (Gr (fun q => q = gl ∨ q = gp ∨ q = gu ∨ q = gq) W0 w3 gm dv pv g R rv s0) := Lib.hid (GR.out.owns (XX2.out.trans x3) (fun q hq => by
    have hs3 := x3.size
    rcases hq with e | e | e | e
    · rw [e]; exact ⟨by have := BL2.out.lt; omega, Or.inl rfl⟩
    · rw [e]; exact ⟨by omega, Or.inr (by have := LP.out; have := LU.out; omega)⟩
    · rw [e]; exact ⟨by omega, Or.inr LU.out⟩
    · rw [e]; exact ⟨bq.lt, Or.inr (by omega)⟩))
  have BQ3 := Lib.hid bq
  have BL3 := Lib.hid (BL2.out.ext x3)
  have BP3 := Lib.hid (BP.out.ext x3)
  have BU3 := Lib.hid (BU.out.ext x3)
  clear x3 bq lq LQ BQ XX3 X HP HG1 HG2 BL2 BP BU GR XX2 LP LU HLt hgp2 hgu2 hsz2 B1 U1 BL d60 d60'
  have XW3 := Lib.hid (G3.out.mem.lt.1)
  have U3 : Hid (Blk w3 (w.heap.size + 1) 61 [.int .i64 th, .int .i64 sl]) := Lib.hid (U00.out.ext XW3.out)
  go_wp2_with fail
  go_loopw [13] (fun i wr => ∃ (k : Nat) (x : GvM) (r : RGv) (sk : MSt), k ≤ pn ∧ i = .int .i64 k ∧ Gr (fun q => q = gl ∨ q = gp ∨ q = gu ∨ q = gq) W0 wr gm dv pv g R rv sk ∧ Blk wr gl 205 (cellsF (layF t s l b)) ∧ Blk wr gp 164 (gvCells gl gu th sl x.dropped) ∧ Blk wr gu 237 (x.push.cells gl th) ∧ Blk wr gq 67 (r.cells t s l b th sl) ∧ RelV x r ∧ Fine k sk.dev ∧ CalmN (100 + (k : Int)) sk) (fun i _ => pn - (intOf i).toNat)
  case atStart => exact ⟨0, ⟨false, 0, 0, sl, false⟩, ⟨1, 1, 0, sl⟩, s0, Nat.zero_le _, rfl, G3.out, BL3.out, BP3.out, BU3.out, BQ3.out, RelV.zero HSl.out, HFi.out, by simpa using HCa.out⟩
  case round =>
    obtain ⟨k, x, r, sk, hk, rfl, gr, bl, bp, bu, bq, rel, fi, ca⟩ := hrel
    have GK := Lib.hid gr
    have LK := Lib.hid bl
    have PK := Lib.hid bp
    have UK := Lib.hid bu
    have QK := Lib.hid bq
    have RK := Lib.hid rel
    have FK := Lib.hid fi
    have CK := Lib.hid ca
    have XK := Lib.hid (X0.out.trans gr.mem.lt.1)
    clear gr bl bp bu bq rel fi ca G3 BL3 BP3 BU3 BQ3
    by_cases hlt : k < pn
    · have v1 : decide (k < pn) = true := by simp; omega
      obtain ⟨ad, hAd, _, hcc⟩ := (HPk.out.ext XK.out) (by have := HPl.out; omega)
      obtain ⟨⟨p0, ⟨p1, p2, p3, p4, p5⟩⟩, hfit⟩ := hcc k (by have := HPl.out; omega)
      have HQ : Hid (∀ W, Ext w W → Pk7.at (pk.getD k noPk7) W (ad.add (k * 6))) := Lib.hid (fun W x => by
        obtain ⟨ad', hA1', _, hac'⟩ := HPk.out.ext x (by have := HPl.out; omega)
        have : ad = ad' := by rw [hAd] at hA1'; injection hA1'
        subst this
        exact (hac' k (by have := HPl.out; omega)).1)
      have HFit := Lib.hid hfit
      clear hcc hfit
      generalize hz5 : pk.getD k noPk7 = z at *
      clear hz5
      subst hAd
      obtain ⟨bb, ac⟩ := z
      go_upto_if 54 with fail
      go_cut [14] (fun _ wx => ∃ (x' : GvM) (r' : RGv) (sk' : MSt), Gr (fun q => q = gl ∨ q = gp ∨ q = gu ∨ q = gq) W0 wx gm dv pv g R rv sk' ∧ Blk wx gl 205 (cellsF (layF t s l b)) ∧ Blk wx gp 164 (gvCells gl gu th sl x'.dropped) ∧ Blk wx gu 237 (x'.push.cells gl th) ∧ Blk wx gq 67 (r'.cells t s l b th sl) ∧ RelV x' r' ∧ Fine (k + 1) sk'.dev ∧ CalmN (100 + (k : Int) + 1) sk')
      case first =>
        cases bb
        · -- another one's act
          have HD := Lib.hid (do7_ok GK.out.mem (i := k) (by omega) FK.out (CK.out.calm (by omega)) ac.k ac.t ac.a ac.z ac.x HFit.out.1 HFit.out.2.1 HFit.out.2.2)
          have FN := Lib.hid (act_fine FK.out (by omega) ac.k ac.t ac.a ac.z ac.x)
          have CN := Lib.hid (act_calm CK.out ac.k ac.t ac.a ac.z ac.x)
          go_wp2_with fail
          refine HD.out.mono ?_
          rintro e w4 ⟨⟨u, rfl⟩, m4⟩
          have M4 := Lib.hid m4
          have R4 := Lib.hid (GK.out.refMid m4)
          have HMU := Lib.hid (must7_ok R4.out GK.out.sound (i := k) (by omega) FK.out (CK.out.calm (by omega)) ac.k ac.t ac.a ac.z ac.x HFit.out.1 HFit.out.2.1)
          clear m4 HD p0 p1 p2 p3 p4 p5
          obtain ⟨p0, p1, p2, p3, p4, p5⟩ := HQ.out w4 (X0.out.trans M4.out.lt.1)
          go_wp2_with fail
          refine HMU.out.mono ?_
          rintro e w5 ⟨⟨u', rfl⟩, r5, f5⟩
          have G5 := Lib.hid (GK.out.both M4.out r5 f5)
          have L5 := Lib.hid ((GK.out.keeps M4.out f5 (b := gl) (Or.inl rfl)).trans LK.out)
          have P5 := Lib.hid ((GK.out.keeps M4.out f5 (b := gp) (Or.inr (Or.inl rfl))).trans PK.out)
          have U5 := Lib.hid ((GK.out.keeps M4.out f5 (b := gu) (Or.inr (Or.inr (Or.inl rfl)))).trans UK.out)
          have Q5 := Lib.hid ((GK.out.keeps M4.out f5 (b := gq) (Or.inr (Or.inr (Or.inr rfl)))).trans QK.out)
          clear r5 f5 HMU p0 p1 p2 p3 p4 p5
          go_wp2_with fail
          go_meet
          exact ⟨x, r, _, G5.out, L5.out, P5.out, U5.out, Q5.out, RK.out, FN.out, CN.out⟩
        · -- a step
          have hU := fun a => GK.out.mem.peekU a
          have HS := Lib.hid (giveStep_ok GK.out.mem (CK.out.calm (by omega)) HOk.out HF22.out RK.out.rel.xw PK.out UK.out LK.out (Or.inr (Or.inr (Or.inl rfl))) (Or.inr (Or.inr (Or.inr (Or.inl rfl)))) (Or.inr (Or.inl rfl)) (GK.out.off gp (Or.inr (Or.inl rfl))).2 (GK.out.off gu (Or.inr (Or.inr (Or.inl rfl)))).2 HNe.out.2.2.2.2.2 HNe.out.1)
          obtain ⟨hst, hrel⟩ := RK.out.step (F := layF t s l b) (t := th) (s := sk) hU
          have HSt := Lib.hid hst
          have HRe := Lib.hid hrel
          have FN := Lib.hid (gvS_fine (F := layF t s l b) (t := th) (x := x) FK.out (by omega))
          have CN := Lib.hid (gvS_wf (F := layF t s l b) (t := th) hU RK.out.rel.xw CK.out)
          have HU := Lib.hid hU
          clear hst hrel hU p1 p2 p3 p4 p5 HQ HFit
          go_wp2_with fail
          refine HS.out.mono ?_
          rintro e w4 ⟨rfl, m4, b4, v4, k4⟩
          have hoff := GK.out.off
          have hgp : ∀ q, rfoot g R rv q → q ≠ gp := fun q hq e => (hoff gp (Or.inr (Or.inl rfl))).1 (e ▸ hq)
          have hgu : ∀ q, rfoot g R rv q → q ≠ gu := fun q hq e => (hoff gu (Or.inr (Or.inr (Or.inl rfl)))).1 (e ▸ hq)
          have R4 := GK.out.ref.heldQ (fun q hq => k4 q (Or.inl hq) (hgp q hq) (hgu q hq))
          have L4 := (k4 gl (Or.inr (Or.inl rfl)) HNe.out.1 HNe.out.2.2.2.1).trans LK.out
          have Q4 := (k4 gq (Or.inr (Or.inr (Or.inr (Or.inr rfl)))) (fun e => HNe.out.2.2.1 e.symm) (fun e => HNe.out.2.2.2.2.1 e.symm)).trans QK.out
          have HRp := Lib.hid (rgive_ok R4 GK.out.sound (CK.out.calm (by omega)) HC.out HOk.out Q4 (hoff gq (Or.inr (Or.inr (Or.inr rfl)))).1 RK.out.partW RK.out.rel.rw HU.out)
          have M4 := Lib.hid m4
          have B4 := Lib.hid b4
          have V4 := Lib.hid v4
          have LL4 : Hid (Blk w4 gl 205 (cellsF (layF t s l b))) := Lib.hid L4
          clear m4 b4 v4 k4 R4 L4 Q4 HS p0
          go_wp2_with fail
          refine HRp.out.mono ?_
          rintro e w5 ⟨⟨u', rfl⟩, rg⟩
          have rr := rg.ref
          rw [HSt.out] at rr
          have m5 : IsMem (fun q => rfoot g R rv q ∨ q = gl ∨ q = gp ∨ q = gu ∨ q = gq) w5 W0 w5 gm dv pv (gvS (layF t s l b) th x sk).2 := M4.out.turn rg.fr (fun q hq => by
            rcases hq with e | e
            · exact Or.inl e
            · exact Or.inr (Or.inr (Or.inr (Or.inr e)))) (fun q hq => by
            rcases hq with e | e
            · exact (GK.out.ref.foot_lt e).1
            · rw [e]; exact (hoff gq (Or.inr (Or.inr (Or.inr rfl)))).2)
          have G5 : Hid (Gr (fun q => q = gl ∨ q = gp ∨ q = gu ∨ q = gq) W0 w5 gm dv pv g R rv (gvS (layF t s l b) th x sk).2) := Lib.hid ⟨m5, rr, hoff⟩
          have L5 := Lib.hid (LL4.out.fr rg.fr (fun hq => by
            rcases hq with e | e
            · exact (hoff gl (Or.inl rfl)).1 e
            · exact HNe.out.2.1 e))
          have P5 := Lib.hid (B4.out.fr rg.fr (fun hq => by
            rcases hq with e | e
            · exact (hoff gp (Or.inr (Or.inl rfl))).1 e
            · exact HNe.out.2.2.1 e))
          have U5 := Lib.hid (V4.out.fr rg.fr (fun hq => by
            rcases hq with e | e
            · exact (hoff gu (Or.inr (Or.inr (Or.inl rfl)))).1 e
            · exact HNe.out.2.2.2.2.1 e))
          have Q5 := Lib.hid rg.blk
          have c5 : w5.cell? ⟨gq, 5, none⟩ = some (.int .i64 (rgvS (layF t s l b) th r sk).1.part) := rg.blk.cell 5
          have hlb := HRe.out.partB
          clear rg rr m5 HRp hoff hgp hgu M4 B4 V4 LL4 HSt
          generalize gvS (layF t s l b) th x sk = X at *
          generalize rgvS (layF t s l b) th r sk = Z at *
          obtain ⟨x', s'⟩ := X
          obtain ⟨r', s''⟩ := Z
          obtain ⟨dn', hdn⟩ : ∃ dn', x'.push.dn = dn' := ⟨_, rfl⟩
          obtain ⟨ln, hln⟩ : ∃ ln, r'.part = ln := ⟨_, rfl⟩
          simp only at c5 hlb
          rw [hln] at c5 hlb
          rw [hdn] at hlb
          have HLb := Lib.hid hlb
          have dbb : (dn' != dn') = false := by cases dn' <;> rfl
          simp only
          rw [hdn]
          clear hdn hln
          have hdl : decide (ln = 0) = dn' := by rw [← hlb]; rfl
          go_wp2_with fail
          go_meet
          exact ⟨x', r', s', G5.out, L5.out, P5.out, U5.out, Q5.out, HRe.out, FN.out, CN.out⟩
      case rest =>
        obtain ⟨x', r', sk', gr, bl, bp, bu, bq, rel, fi, ca⟩ := hcut
        generalize wc = w6 at *
        have HSm : Hid (∀ W, Ext w6 W → Calls Tryz.prog 17 #[.pointer (some ⟨gm, 0, none⟩), .pointer (some ⟨g, 0, none⟩)] W fun e w' => e = .returned (.bool true) ∧ Ext W w') := Lib.hid (fun W x => same7_ok (gr.ext x).mem (gr.ext x).ref (gr.ext x).sound)
        obtain ⟨dn, hdn⟩ : ∃ dn, x'.push.dn = dn := ⟨_, rfl⟩
        obtain ⟨ln, hln⟩ : ∃ ln, r'.part = ln := ⟨_, rfl⟩
        obtain ⟨hv, hhv⟩ : ∃ hv : Int, (if dn = true then (-1 : Int) else sl) = hv := ⟨_, rfl⟩
        have hlb : (ln == 0) = dn := by rw [← hln, ← hdn]; exact rel.partB
        have hdl : decide (ln = 0) = dn := by rw [← hlb]; rfl
        have HDo : Hid (∀ W, Ext w6 W → Calls Tryz.prog 24 #[.pointer (some ⟨gp, 0, none⟩)] W fun e w' => e = .returned (.bool dn) ∧ Ext W w') := Lib.hid (fun W x => (giveDone_ok W gp gu dn ((bp.ext x).cell 4) (by have := (bu.ext x).cell 4; rw [← hdn]; exact this)).mono (by rintro e w' ⟨rfl, rfl⟩; exact ⟨rfl, Ext.refl _⟩))
        have HHo : Hid (∀ W, Ext w6 W → Calls Tryz.prog 25 #[.pointer (some ⟨gp, 0, none⟩)] W fun e w' => e = .returned (.int .i64 hv) ∧ Ext W w') := Lib.hid (fun W x => (giveHolds_ok W gp gu dn sl ((bp.ext x).cell 2) ((bp.ext x).cell 4) (by have := (bu.ext x).cell 4; rw [← hdn]; exact this)).mono (by rintro e w' ⟨rfl, rfl⟩; exact ⟨by rw [hhv], Ext.refl _⟩))
        have y5 : w6.cell? ⟨gq, 5, none⟩ = some (.int .i64 ln) := by rw [← hln]; exact bq.cell 5
        have z5 := fun d os => cell_regrown y5 d os
        have u1 : w6.cell? ⟨w.heap.size + 1, 1, none⟩ = some (.int .i64 sl) := (U00.out.ext gr.mem.lt.1).cell 1
        have G6 := Lib.hid gr
        have L6 := Lib.hid bl
        have P6 := Lib.hid bp
        have V6 := Lib.hid bu
        have Q6 := Lib.hid bq
        have R6 := Lib.hid rel
        have F6 := Lib.hid fi
        have C6 := Lib.hid ca
        have dbb : (dn != dn) = false := by cases dn <;> rfl
        clear gr bl bp bu bq rel fi ca hdn hln GK LK PK UK QK RK FK CK HQ HFit
        cases dn
        all_goals
          simp only [if_true, if_false, Bool.false_eq_true] at hhv
          subst hhv
          try have dss : (sl != sl) = false := by simp
          go_upto_region 18 with fail
          clear u1
          refine wp_region_quiet_below (by kernel_rfl) (by kernel_rfl) ?_
          repeat (quiet_step (first
            | (with_reducible exact Calls.regrown_of (HSm.out _ (grown_extF _ _ _)))
            | (with_reducible exact Calls.regrown_of (HDo.out _ (grown_extF _ _ _)))
            | (with_reducible exact Calls.regrown_of (HHo.out _ (grown_extF _ _ _)))))
          refine wpQuiet_nil ?_
          intro wf hwf
          have XF : Ext w6 wf := by
            obtain ⟨⟨dq, osq⟩, hw2⟩ := hwf
            rw [hw2]
            exact grown_extF _ _ _
          have G7 := Lib.hid (G6.out.ext XF)
          have L7 := Lib.hid (L6.out.ext XF)
          have P7 := Lib.hid (P6.out.ext XF)
          have V7 := Lib.hid (V6.out.ext XF)
          have Q7 := Lib.hid (Q6.out.ext XF)
          clear hwf z5 y5 XF G6 L6 P6 V6 Q6
          go_wp2_with fail
          go_roundw
          case rel => exact ⟨k + 1, x', r', sk', by omega, by go_num, G7.out, L7.out, P7.out, V7.out, Q7.out, R6.out, F6.out, by rw [show (100 : Int) + ((k + 1 : Nat) : Int) = 100 + (k : Int) + 1 by omega]; exact C6.out⟩
          case measure => simp [intOf]; omega
    · have v1 : decide (k < pn) = false := by simp; omega
      go_wp2_with fail
      refine (HAw.out _).mono ?_
      rintro e w4 ⟨rfl, x4⟩
      have X4 := Lib.hid (XK.out.trans x4)
      clear x4
      go_wp2_with fail
      go_ret
      exact ⟨rfl, X4.out⟩
set_option maxRecDepth 100000 in
set_option maxHeartbeats 4000000 in
theorem arenaGives_long (w : World) (A : Option Addr) (n c : Nat) (t s l b : Nat) (ys : List Put) (th sl : Int) (hsl : I64 sl) (PA : Option Addr) (pn pc : Nat) (hg : GrOk t s l b) (hy : ys.length = n) (hn : n ≤ 100) (hY : PutsAt w A ys) (hpn : 60 < pn) (hp2 : pn ≤ 9223372036854775807) :
    Calls Tryz.prog 4 #[.agg #[.int .i64 t, .int .i64 s, .int .i64 l, .int .i64 b, .slice A n c], .agg #[.int .i64 th, .int .i64 sl], .slice PA pn pc] w fun e w' => e = .returned (.bool true) ∧ Ext w w' := by
  have X0 := Lib.hid (((Ext.refl w).alloc (.cells #[.int .i64 t, .int .i64 s, .int .i64 l, .int .i64 b, .slice A n c] 26)).alloc (.cells #[.int .i64 th, .int .i64 sl] 61))
  have B0 := Lib.hid ((Blk.new w 26 [.int .i64 t, .int .i64 s, .int .i64 l, .int .i64 b, .slice A n c]).ext ((Ext.refl (w.alloc (.cells #[.int .i64 t, .int .i64 s, .int .i64 l, .int .i64 b, .slice A n c] 26))).alloc (.cells #[.int .i64 th, .int .i64 sl] 61)))
  have U0 : Hid (Blk ((w.alloc (.cells #[.int .i64 t, .int .i64 s, .int .i64 l, .int .i64 b, .slice A n c] 26)).alloc (.cells #[.int .i64 th, .int .i64 sl] 61)) (w.heap.size + 1) 61 [.int .i64 th, .int .i64 sl]) := Lib.hid (by have := Blk.new (w.alloc (.cells #[.int .i64 t, .int .i64 s, .int .i64 l, .int .i64 b, .slice A n c] 26)) 61 [.int .i64 th, .int .i64 sl]; simp only [World.size_alloc] at this; exact this)
  have HL := Lib.hid (lay_ok ((w.alloc (.cells #[.int .i64 t, .int .i64 s, .int .i64 l, .int .i64 b, .slice A n c] 26)).alloc (.cells #[.int .i64 th, .int .i64 sl] 61)) A n c t s l b ys hg hy hn (hY.ext X0.out))
  have d60 : decide (60 < pn) = true := by simp; omega
  have d60' : decide ((60 : Int) < (pn : Int)) = true := by simp; omega
  clear hg hY
  go_enter Tryz.func4, Tryz.ntmps4
  go_upto_region 1 with fail
  generalize ((w.alloc (.cells #[.int .i64 t, .int .i64 s, .int .i64 l, .int .i64 b, .slice A n c] 26)).alloc (.cells #[.int .i64 th, .int .i64 sl] 61)) = W0 at *
  have y0 : W0.cell? ⟨w.heap.size, 0, none⟩ = some (.int .i64 t) := B0.out.cell 0
  have y1 : W0.cell? ⟨w.heap.size, 1, none⟩ = some (.int .i64 s) := B0.out.cell 1
  have y2 : W0.cell? ⟨w.heap.size, 2, none⟩ = some (.int .i64 l) := B0.out.cell 2
  have y3 : W0.cell? ⟨w.heap.size, 3, none⟩ = some (.int .i64 b) := B0.out.cell 3
  have y4 : W0.cell? ⟨w.heap.size, 4, none⟩ = some (.slice A n c) := B0.out.cell 4
  have u0 : W0.cell? ⟨w.heap.size + 1, 0, none⟩ = some (.int .i64 th) := U0.out.cell 0
  have u1 : W0.cell? ⟨w.heap.size + 1, 1, none⟩ = some (.int .i64 sl) := U0.out.cell 1
  go_wp2_with fail
  refine HL.out.mono ?_
  rintro e w1 ⟨gl, gm, dv, pv, g, R, rv, rfl, bl, gr⟩
  have X1 := Lib.hid (X0.out.trans gr.mem.lt.1)
  clear bl gr y0 y1 y2 y3 y4 u0 u1
  go_wp2_with fail
  refine (awake12_ok _).mono ?_
  rintro e w2 ⟨rfl, x2⟩
  have X2 := Lib.hid (X1.out.trans x2)
  clear x2
  go_wp2_with fail
  go_ret
  exact ⟨rfl, X2.out⟩
set_option maxRecDepth 100000 in
set_option maxHeartbeats 4000000 in
theorem arenaGives_no (w : World) (A : Option Addr) (n c : Nat) (t s l b th sl : Int) (PA : Option Addr) (pn pc : Nat) (h : ¬ GrOk t s l b ∨ 100 < n) (hn : n ≤ 9223372036854775807) :
    Calls Tryz.prog 4 #[.agg #[.int .i64 t, .int .i64 s, .int .i64 l, .int .i64 b, .slice A n c], .agg #[.int .i64 th, .int .i64 sl], .slice PA pn pc] w fun e w' => e = .returned (.bool true) ∧ Ext w w' := by
  have X0 := Lib.hid (((Ext.refl w).alloc (.cells #[.int .i64 t, .int .i64 s, .int .i64 l, .int .i64 b, .slice A n c] 26)).alloc (.cells #[.int .i64 th, .int .i64 sl] 61))
  have HL := Lib.hid (fun W => lay_no W A n c t s l b h hn)
  unfold NoGr at HL
  clear h
  go_enter Tryz.func4, Tryz.ntmps4
  go_wp2_with fail
  refine (HL.out _).mono ?_
  rintro e w1 ⟨rfl, x1⟩
  have X1 := Lib.hid (X0.out.trans x1)
  clear x1
  go_wp2_with fail
  refine (awake12_ok _).mono ?_
  rintro e w2 ⟨rfl, x2⟩
  have X2 := Lib.hid (X1.out.trans x2)
  clear x2
  go_wp2_with fail
  go_ret
  exact ⟨rfl, X2.out⟩
theorem arenaGives_walk (w : World) (A : Option Addr) (n c : Nat) (t s l b th sl : Int) (hsl : I64 sl) (ys : List Put) (PA : Option Addr) (pn pc : Nat) (pk : List Pk7) (hy : ys.length = n) (hn : n ≤ 9223372036854775807) (hY : PutsAt w A ys) (hp : pk.length = pn) (hpn : pn ≤ 9223372036854775807) (hP : Pokes w PA pk) :
    Calls Tryz.prog 4 #[.agg #[.int .i64 t, .int .i64 s, .int .i64 l, .int .i64 b, .slice A n c], .agg #[.int .i64 th, .int .i64 sl], .slice PA pn pc] w fun e w' => e = .returned (.bool true) ∧ Ext w w' := by
  by_cases h : GrOk t s l b ∧ n ≤ 100
  · obtain ⟨hg, hn1⟩ := h
    obtain ⟨⟨q0, q1⟩, ⟨q2, q3⟩, ⟨q4, q5⟩, q6, q7⟩ := id hg.1
    obtain ⟨t', rfl⟩ := Int.eq_ofNat_of_zero_le (show 0 ≤ t by omega)
    obtain ⟨s', rfl⟩ := Int.eq_ofNat_of_zero_le (show 0 ≤ s by omega)
    obtain ⟨l', rfl⟩ := Int.eq_ofNat_of_zero_le (show 0 ≤ l by omega)
    obtain ⟨b', rfl⟩ := Int.eq_ofNat_of_zero_le (show 0 ≤ b by omega)
    by_cases h60 : pn ≤ 60
    · exact arenaGives_yes w A n c t' s' l' b' ys th sl hsl PA pn pc pk hg hy hn1 hY hp h60 hP
    · exact arenaGives_long w A n c t' s' l' b' ys th sl hsl PA pn pc hg hy hn1 hY (by omega) hpn
  · exact arenaGives_no w A n c t s l b th sl PA pn pc (by
      by_cases hg : GrOk t s l b
      · exact Or.inr (by
          have : ¬ n ≤ 100 := fun h2 => h ⟨hg, h2⟩
          omega)
      · exact Or.inl hg) hn

namespace arenaGives
set_option maxRecDepth 100000 in
theorem lifted (os : Os) (started : os.Started) (H : Type) (enc : TypeId × Value → H) :
    ReturnsInHanded {} Tryz.checked os 4 .any (Rows.arenaGivesSpec.pre6 enc Tryz.prog Tryz.f4 Rows.arenaGivesRow.domain false) (Rows.arenaGivesSpec.post enc Tryz.prog Tryz.f4 false true false false) := by
  refine returnsInHanded_of_change (C := Tryz.checked) own started (by kernel_rfl) Tryz.func4
    (ChangeSpec.witness6 (enc := enc) (C := Tryz.checked) false ⟨#[], #[.agg #[.int .i64 0, .int .i64 0, .int .i64 0, .int .i64 0, .slice none 0 0], .agg #[.int .i64 0, .int .i64 0], .slice none 0 0], []⟩ 8 (by kernel_rfl) (by kernel_rfl) (by kernel_rfl) (by kernel_rfl)) ?_
  intro W base args ds gs before hval0 hW hcnd _
  have hval : ∀ (j : Nat) t v, Tryz.f4.params[j]? = some t → args[j]? = some v → Value.okWide Tryz.prog W .any base t v := hval0
  have hW' := hW
  obtain ⟨p, q, hA0, hV, rfl, hfz, hnd⟩ := hW
  have hA : DataW.TrodAll enc Tryz.prog W 0 (fun _ => true) true Tryz.f4.params.toList args.toList ds p := hA0
  have hlt : ∀ x ∈ p ++ q, x.block < W.heap.size := fun x hx => hW'.lt x hx
  rw [Tryz.params4] at hA hval
  have hB := hA
  obtain ⟨v0, vs0, d0, ds0, p0, q0, hargs, rfl, rfl, h0, r0⟩ := trodAll_cons hB
  obtain ⟨v1, vs1, d1, ds1, p1, q1, rfl, rfl, rfl, h1, r1⟩ := trodAll_cons r0
  obtain ⟨v2, vs2, d2, ds2, p2, q2, rfl, rfl, rfl, h2, r2⟩ := trodAll_cons r1
  obtain ⟨rfl, rfl, rfl⟩ := trodAll_nil r2
  obtain rfl : args = #[v0, v1, v2] := by cases args; simp_all
  obtain ⟨rfl, rfl⟩ := trodVars_none hV
  obtain ⟨g0t, g0s, g0l, g0b, A0, c0, y0, rfl, lc0, mc0, I0⟩ := view_ground Tryz.underlying26 (by kernel_rfl) rfl (by kernel_rfl) rfl (by kernel_rfl) Tryz.underlying23 (by kernel_rfl) Tryz.underlying3 Tryz.underlying3 Tryz.underlying3 Tryz.underlying3 Tryz.underlying24 Tryz.underlying138 (by kernel_rfl) (by kernel_rfl) Tryz.underlying3 Tryz.underlying45 (hval 0 26 v0 rfl rfl) h0
  obtain ⟨x1a, x1b, rfl, ok1⟩ := view_pair Tryz.underlying61 Tryz.underlying3 (by kernel_rfl) (by kernel_rfl) (hval 1 61 v1 rfl rfl) h1 (okWide_agg_array Tryz.underlying61 (hval 1 61 v1 rfl rfl))
  obtain ⟨A2, n2, c2, y2, rfl, lc2, mc2, zl2, I2⟩ := view_pokes Tryz.underlying29 Tryz.underlying49 (by kernel_rfl) rfl (by kernel_rfl) Tryz.underlying4 rfl (by kernel_rfl) Tryz.underlying47 (by kernel_rfl) Tryz.underlying3 Tryz.underlying3 Tryz.underlying3 Tryz.underlying45 Tryz.underlying45 (hval 2 29 v2 rfl rfl) h2
  clear hA0 hval0
  refine (arenaGives_walk W A0 _ c0 g0t g0s g0l g0b x1a x1b ok1.2 y0 A2 n2 c2 y2 rfl (Nat.le_trans lc0 mc0) I0 zl2 (Nat.le_trans lc2 mc2) I2).mono fun e W' ⟨he, hx⟩ => ?_
  subst he
  exact ⟨_, rfl, post_ext (pv := []) hW' (fun _ _ _ => (trodAll_cons_mk (shut_bool Tryz.underlying4 _) trodAll_mk0)) (fun sp hsp => trodAll_stays laid hx _ _ _ _ (readable_of (by kernel_rfl)) hA (fun x hx => hlt x (by first | (simp at hx ⊢; exact hx) | simp at hx)) (fun x hx => hsp x (by first | (simp at hx ⊢; exact hx) | simp at hx))) (fun _ _ => rfl) rfl hx (ok_one (by kernel_rfl) rfl (okWide_bool_mk Tryz.underlying4 _))⟩

theorem over : Rows.arenaGivesRow.holds Tryz.pinned (OpenSpec.ofChange Rows.arenaGivesSpec) :=
  OpenClaim.holds_of_wide 4 Tryz.f4 rfl rfl rfl rfl rfl rfl rfl ⟨rfl, rfl, rfl, rfl, rfl⟩ rfl rfl rfl rfl rfl (by kernel_rfl) Tryz.func4 (by kernel_rfl)
    (of_decide_eq_true (by kernel_rfl)) (by unfold Func.isWrapper; first | (rw [if_pos (by decide +kernel)]; kernel_rfl) | (rw [if_neg (by decide +kernel)]; exact ⟨rfl, rfl⟩))
    (fun os started H enc _ => lifted os started H enc)
end arenaGives

theorem arenaGives_holds : Rows.ArenaGivesSaid := arenaGives.over
end Go.Proofs.YtfjfeomkmhbpbaaGreat

