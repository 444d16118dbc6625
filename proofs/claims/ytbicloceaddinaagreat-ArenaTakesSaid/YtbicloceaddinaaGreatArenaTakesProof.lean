/- Each step of a Take, over any memory, whatever others do between, is the document's, and so is what it holds, and the slot that it took: the law answers true for every ground, thread and acts, and changes nothing. Conditions: none. -/
import Derived.Test.YtbicloceaddinaaGreatKArT
import Derived.Deep.RegionHeld3
import Derived.Lib.QuietBelow
import Derived.Deep.DeepCutAuto
import Derived.Test.YtbicloceaddinaaGreatKPk
import Derived.Test.YtbicloceaddinaaGreatKFreeB
import Derived.Test.YtbicloceaddinaaGreatKView
import Derived.Test.YtbicloceaddinaaGreatArgs
namespace Go.Proofs.YtbicloceaddinaaGreat
open Go.ChangeShapes Go.WideShapes Go.ChangeAt Go.RowKit
set_option linter.unusedVariables false

theorem tkS_fine {k n1 n2 T : Nat} {F : Nat → Int} {t : Int} {x : TkM} {s : MSt} (hf : Fine k s.dev) (hk : k ≤ 90) : Fine (k + 1) (tkS F T t x s n1 n2).2.dev := by
  unfold tkS
  split
  · exact hf.up
  · exact popS_fine hf hk
  · split
    · exact hf.up
    · unfold tk2 advS
      repeat' split
      all_goals first
        | exact hf.up
        | exact act_fine hf hk 1 t _ 0 0
        | exact act_fine hf hk 3 t (-1) _ _
  · split
    · exact hf.up
    · unfold tk3 rcS
      repeat' split
      all_goals first
        | exact hf.up
        | exact act_fine hf hk 1 t _ 0 0
        | exact act_fine hf hk 2 t _ 0 0
        | exact pushS_fine hf hk
  · exact popS_fine hf hk
  · exact act_fine hf hk 2 t (intN F t) 0 _
  · exact act_fine hf hk 4 t (intN F t) 0 0
  · exact act_fine hf hk 5 t 0 0 0
  · exact act_fine hf hk 1 t _ 0 0
  · exact act_fine hf hk 2 t _ 0 _
section
variable {Q : Nat → Prop} {w0 w w' : World} {gm gt gl : Nat} {dv pv : Value} {t : Int} {x : TkM} {s s' : MSt}
/-- Where nothing of it turned. -/
theorem TkAt.keep (h : TkAt Q w0 w gm gt gl dv pv t x s) (m : IsMem (fun b => Q b ∨ x.ownB b) w' w0 w' gm dv pv s') (k : ∀ b, b = gt ∨ x.ownB b → w'.heap[b]? = w.heap[b]?) : TkAt Q w0 w' gm gt gl dv pv t x s' :=
  ⟨m, (k gt (Or.inl rfl)).trans h.blk, ⟨h.pop.1, (k x.gu (Or.inr (Or.inl rfl))).trans h.pop.2⟩, fun q e => ⟨(h.adv q e).1, (k q.1 (Or.inr (Or.inr (Or.inl ⟨q, e, rfl⟩)))).trans (h.adv q e).2⟩, fun q e => ⟨(h.rc q e).1, (k q.1 (Or.inr (Or.inr (Or.inr ⟨q, e, Or.inl rfl⟩)))).trans (h.rc q e).2⟩, fun q p e ep => ⟨(h.push q p e ep).1, (k p.1 (Or.inr (Or.inr (Or.inr ⟨q, e, Or.inr ⟨p, ep, rfl⟩⟩)))).trans (h.push q p e ep).2⟩⟩
theorem TkAt.offB (h : TkAt Q w0 w gm gt gl dv pv t x s) {b : Nat} (hb : x.ownB b) : ¬ Q b ∧ w0.heap.size ≤ b := by
  rcases hb with rfl | ⟨q, e, rfl⟩ | ⟨q, e, rfl | ⟨p, ep, rfl⟩⟩
  · exact h.pop.1
  · exact (h.adv q e).1
  · exact (h.rc q e).1
  · exact (h.push q p e ep).1
end
set_option maxRecDepth 100000 in
set_option maxHeartbeats 16000000 in
theorem arenaTakes_yes (w : World) (A : Option Addr) (n c : Nat) (t s l b : Nat) (ys : List Put) (th : Int) (PA : Option Addr) (pn pc : Nat) (pk : List Pk7) (hg : GrOk t s l b) (hy : ys.length = n) (hn : n ≤ 100) (hY : PutsAt w A ys) (hp : pk.length = pn) (hpn : pn ≤ 80) (hP : Pokes w PA pk) :
    Calls Tryz.prog 4 #[.agg #[.int .i64 t, .int .i64 s, .int .i64 l, .int .i64 b, .slice A n c], .int .i64 th, .slice PA pn pc] w fun e w' => e = .returned (.bool true) ∧ Ext w w' := by
  have X0 := Lib.hid ((Ext.refl w).alloc (.cells #[.int .i64 t, .int .i64 s, .int .i64 l, .int .i64 b, .slice A n c] 26))
  have B0 := Lib.hid (Blk.new w 26 [.int .i64 t, .int .i64 s, .int .i64 l, .int .i64 b, .slice A n c])
  have HL := Lib.hid (lay_ok (w.alloc (.cells #[.int .i64 t, .int .i64 s, .int .i64 l, .int .i64 b, .slice A n c] 26)) A n c t s l b ys hg hy hn (hY.ext X0.out))
  have HPk := Lib.hid hP
  have HPl := Lib.hid hp
  have HFi := Lib.hid (ground_fine t s l b ys)
  have HCa := Lib.hid (ground_calm t s l b ys (by omega))
  have HAw := Lib.hid (fun W => awake12_ok W)
  obtain ⟨hc, h1, h2, h3, h4⟩ := id hg
  obtain ⟨⟨q0, q1⟩, ⟨q2, q3⟩, ⟨q4, q5⟩, q6, q7⟩ := id hc
  have HC : Hid (CfgN t s l b) := Lib.hid ⟨by omega, by omega, by omega, by omega, by omega⟩
  have HOk := Lib.hid (okayF hc)
  have HF0 : Hid (layF t s l b 0 = (t : Int)) := Lib.hid rfl
  have HF2 : Hid (layF t s l b 2 = (l : Int)) := Lib.hid rfl
  have HF21 : Hid (layF t s l b 21 = -1) := Lib.hid rfl
  have HF22 : Hid (layF t s l b 22 = -2) := Lib.hid rfl
  have HLT : Hid (0 < l ∧ l ≤ 8 ∧ t ≤ 6) := Lib.hid ⟨by omega, by omega, by omega⟩
  have d60 : decide (80 < pn) = false := by simp; omega
  have d60' : decide ((80 : Int) < (pn : Int)) = false := by simp; omega
  clear hY hg hc h1 h2 h3 h4 q0 q1 q2 q3 q4 q5 q6 q7 hP hp
  go_enter Tryz.func4, Tryz.ntmps4
  go_upto_region 1 with fail
  generalize w.alloc (.cells #[.int .i64 t, .int .i64 s, .int .i64 l, .int .i64 b, .slice A n c] 26) = W0 at *
  have y0 : W0.cell? ⟨w.heap.size, 0, none⟩ = some (.int .i64 t) := B0.out.cell 0
  have y1 : W0.cell? ⟨w.heap.size, 1, none⟩ = some (.int .i64 s) := B0.out.cell 1
  have y2 : W0.cell? ⟨w.heap.size, 2, none⟩ = some (.int .i64 l) := B0.out.cell 2
  have y3 : W0.cell? ⟨w.heap.size, 3, none⟩ = some (.int .i64 b) := B0.out.cell 3
  have y4 : W0.cell? ⟨w.heap.size, 4, none⟩ = some (.slice A n c) := B0.out.cell 4
  go_wp2_with fail
  refine HL.out.mono ?_
  rintro e w1 ⟨gl, gm, dv, pv, g, R, rv, rfl, bl, gr⟩
  have BL := Lib.hid bl
  have GR := Lib.hid gr
  have B1 := Lib.hid (B0.out.ext gr.mem.lt.1)
  generalize groundSt t s l b ys = s0 at *
  clear bl gr y0 y1 y2 y3 y4 HL B0
  have y0 : w1.cell? ⟨w.heap.size, 0, none⟩ = some (.int .i64 t) := B1.out.cell 0
  have y1 : w1.cell? ⟨w.heap.size, 1, none⟩ = some (.int .i64 s) := B1.out.cell 1
  have y2 : w1.cell? ⟨w.heap.size, 2, none⟩ = some (.int .i64 l) := B1.out.cell 2
  have y3 : w1.cell? ⟨w.heap.size, 3, none⟩ = some (.int .i64 b) := B1.out.cell 3
  have y4 : w1.cell? ⟨w.heap.size, 4, none⟩ = some (.slice A n c) := B1.out.cell 4
  have HP : Hid (∀ W, Ext w1 W → W.cell? ⟨w.heap.size, 0, none⟩ = some (.int .i64 t) ∧ W.cell? ⟨w.heap.size, 1, none⟩ = some (.int .i64 s) ∧ W.cell? ⟨w.heap.size, 2, none⟩ = some (.int .i64 l) ∧ W.cell? ⟨w.heap.size, 3, none⟩ = some (.int .i64 b)) := Lib.hid (fun W x => ⟨(B1.out.ext x).cell 0, (B1.out.ext x).cell 1, (B1.out.ext x).cell 2, (B1.out.ext x).cell 3⟩)
  have X := Lib.hid ((Ext.refl w1).drew)
  have HG1 := Lib.hid (fun W => newTake_ok W gl th)
  have HG2 := Lib.hid (fun W => newTake12_ok t s l b th W)
  have HLt := Lib.hid BL.out.lt
  clear y4
  go_wp2_with fail
  go_region_held3 (fun W => W.cell? ⟨w.heap.size, 0, none⟩ = some (.int .i64 t) ∧ W.cell? ⟨w.heap.size, 1, none⟩ = some (.int .i64 s) ∧ W.cell? ⟨w.heap.size, 2, none⟩ = some (.int .i64 l) ∧ W.cell? ⟨w.heap.size, 3, none⟩ = some (.int .i64 b)) (first | exact HP.out _ X.out | go_keep) (first
    | (go_at_call 17; refine (HG1.out _).mono ?_; rintro e w2 ⟨gt, gu, rfl, lu, lt, bt, bu, x2⟩; have LU := Lib.hid (Nat.le_trans X.out.size lu); have LT := Lib.hid lt; have BT := Lib.hid bt; have BU := Lib.hid bu; replace X := Lib.hid (X.out.trans x2); clear lu lt bt bu x2)
    | (go_at_call 18; refine (HG2.out _).mono ?_; rintro e w3 ⟨gq, rfl, lq, bq, x3⟩; have XX2 := Lib.hid X.out; have LQ := Lib.hid lq; have BQ := Lib.hid bq; have XX3 := Lib.hid x3; replace X := Lib.hid (X.out.trans x3); clear lq bq x3))
  have lq := LQ.out
  have bq := BQ.out
  have x3 := XX3.out
  have hgt2 : gt < w2.heap.size := BT.out.lt
  have hgu2 : gu < w2.heap.size := BU.out.lt
  have hsz2 : w1.heap.size ≤ w2.heap.size := XX2.out.size
  have lu2 := LU.out
  have lt2 := LT.out
  have hlt1 := HLt.out
  have HNe : Hid (gl ≠ gt ∧ gl ≠ gq ∧ gt ≠ gq ∧ gl ≠ gu ∧ gu ≠ gq ∧ gu ≠ gt) := Lib.hid ⟨by omega, by omega, by omega, by omega, by omega, by omega⟩
  have XB := Lib.hid (XX2.out.trans x3)
  have G3 : Hid (Gr ((fun q => (q = gl ∨ q = gt ∨ q = gq) ∨ TkM.ownB ⟨1, gu, pm0, none, none, none, false, 0, 0⟩ q)) W0 w3 gm dv pv g R rv s0) := Lib.hid (GR.out.owns XB.out (fun q hq => by
    have hs3 := XB.out.size
    have hs4 := x3.size
    rcases hq with (e | e | e) | (e | ⟨p, e, _⟩ | ⟨p, e, _⟩)
    · rw [e]; exact ⟨by omega, Or.inl rfl⟩
    · rw [e]; exact ⟨by omega, Or.inr (by omega)⟩
    · rw [e]; exact ⟨bq.lt, Or.inr (by omega)⟩
    · have e' : q = gu := e
      rw [e']; exact ⟨by omega, Or.inr (by omega)⟩
    · cases e
    · cases e))
  have BQ3 := Lib.hid bq
  have BL3 := Lib.hid (BL.out.ext XB.out)
  have T3 : Hid (TkAt (fun q => rfoot g R rv q ∨ (q = gl ∨ q = gt ∨ q = gq)) W0 w3 gm gt gl dv pv th ⟨1, gu, pm0, none, none, none, false, 0, 0⟩ s0) := Lib.hid (TkAt.start (gu := gu) G3.out.mem (fun q hq => by
    rcases hq with (e | e) | e
    · exact Or.inl e
    · exact Or.inr (Or.inl e)
    · exact Or.inr (Or.inr (Or.inl e))) (BT.out.ext x3) (BU.out.ext x3) (fun hh => by
    have hf := (G3.out.off gu (Or.inr (Or.inl rfl))).1
    rcases hh with e | e | e | e
    · exact hf e
    · exact HNe.out.2.2.2.1 e.symm
    · exact HNe.out.2.2.2.2.2 e
    · exact HNe.out.2.2.2.2.1 e) (G3.out.off gu (Or.inr (Or.inl rfl))).2)
  clear x3 bq lq LQ BQ XX3 X HP HG1 HG2 BT BU GR XX2 LT LU HLt hgt2 hgu2 hsz2 lu2 lt2 hlt1 B1 BL d60 d60' XB
  go_wp2_with fail
  go_loopw [13] (fun i wr => ∃ (k : Nat) (x : TkM) (r : RTk) (sk : MSt), k ≤ pn ∧ i = .int .i64 k ∧ Gr (fun q => (q = gl ∨ q = gt ∨ q = gq) ∨ TkM.ownB x q) W0 wr gm dv pv g R rv sk ∧ Blk wr gl 173 (cellsF (layF t s l b)) ∧ TkAt (fun q => rfoot g R rv q ∨ (q = gl ∨ q = gt ∨ q = gq)) W0 wr gm gt gl dv pv th x sk ∧ Blk wr gq 70 (RTk.cells r t s l b th) ∧ RelT t l x r ∧ Fine k sk.dev ∧ CalmN (100 + (k : Int)) sk) (fun i _ => pn - (intOf i).toNat)
  case atStart => exact ⟨0, ⟨1, gu, pm0, none, none, none, false, 0, 0⟩, rtk0, s0, Nat.zero_le _, rfl, G3.out, BL3.out, T3.out, BQ3.out, RelT.zero t l gu, HFi.out, by simpa using HCa.out⟩
  case round =>
    obtain ⟨k, x, r, sk, hk, rfl, gr, bl, ta, bq, rel, fi, ca⟩ := hrel
    have GK := Lib.hid gr
    have LK := Lib.hid bl
    have TK := Lib.hid ta
    have QK := Lib.hid bq
    have RK := Lib.hid rel
    have FK := Lib.hid fi
    have CK := Lib.hid ca
    have XK := Lib.hid (X0.out.trans gr.mem.lt.1)
    clear gr bl ta bq rel fi ca G3 BL3 T3 BQ3
    by_cases hlt : k < pn
    · have v1 : decide (k < pn) = true := by simp; omega
      obtain ⟨ad, hAd, _, hcc⟩ := (HPk.out.ext XK.out) (by have := HPl.out; omega)
      obtain ⟨⟨p0, ⟨p1, p2, p3, p4, p5⟩⟩, hfit⟩ := hcc k (by have := HPl.out; omega)
      have HQ : Hid (∀ W, Ext w W → Pk7.at (pk.getD k noPk7) W (ad.add (k * 6))) := Lib.hid (fun W x => by
        obtain ⟨ad', hA1', _, hac'⟩ := HPk.out.ext x (by have := HPl.out; omega)
        have : ad = ad' := by rw [hAd] at hA1'; injection hA1'
        subst this
        exact (hac' k (by have := HPl.out; omega)).1)
      have HFit := Lib.hid hfit
      clear hcc hfit
      generalize hz5 : pk.getD k noPk7 = z at *
      clear hz5
      subst hAd
      obtain ⟨bb, ac⟩ := z
      go_upto_if 48 with fail
      go_cut [14] (fun _ wx => ∃ (x' : TkM) (r' : RTk) (sk' : MSt), Gr (fun q => (q = gl ∨ q = gt ∨ q = gq) ∨ TkM.ownB x' q) W0 wx gm dv pv g R rv sk' ∧ Blk wx gl 173 (cellsF (layF t s l b)) ∧ TkAt (fun q => rfoot g R rv q ∨ (q = gl ∨ q = gt ∨ q = gq)) W0 wx gm gt gl dv pv th x' sk' ∧ Blk wx gq 70 (RTk.cells r' t s l b th) ∧ RelT t l x' r' ∧ Fine (k + 1) sk'.dev ∧ CalmN (100 + (k : Int) + 1) sk')
      case first =>
        cases bb
        · -- another one's act
          have HD := Lib.hid (do7_ok GK.out.mem (i := k) (by omega) FK.out (CK.out.calm (by omega)) ac.k ac.t ac.a ac.z ac.x HFit.out.1 HFit.out.2.1 HFit.out.2.2)
          have FN := Lib.hid (act_fine FK.out (by omega) ac.k ac.t ac.a ac.z ac.x)
          have CN := Lib.hid (act_calm CK.out ac.k ac.t ac.a ac.z ac.x)
          go_wp2_with fail
          refine HD.out.mono ?_
          rintro e w4 ⟨⟨u, rfl⟩, m4⟩
          have M4 := Lib.hid m4
          have R4 := Lib.hid (GK.out.refMid m4)
          have HMU := Lib.hid (must7_ok R4.out GK.out.sound (i := k) (by omega) FK.out (CK.out.calm (by omega)) ac.k ac.t ac.a ac.z ac.x HFit.out.1 HFit.out.2.1)
          clear m4 HD p0 p1 p2 p3 p4 p5
          obtain ⟨p0, p1, p2, p3, p4, p5⟩ := HQ.out w4 (X0.out.trans M4.out.lt.1)
          go_wp2_with fail
          refine HMU.out.mono ?_
          rintro e w5 ⟨⟨u', rfl⟩, r5, f5⟩
          have G5 := Lib.hid (GK.out.both M4.out r5 f5)
          have L5 := Lib.hid ((GK.out.keeps M4.out f5 (b := gl) (Or.inl (Or.inl rfl))).trans LK.out)
          have T5 := Lib.hid (TK.out.keep (G5.out.mem.reQ (fun q hq => by
            rcases hq with (e | e) | e
            · exact Or.inl e
            · exact Or.inr (Or.inl e)
            · exact Or.inr (Or.inr e))) (fun q hq => GK.out.keeps M4.out f5 (b := q) (by
            rcases hq with e | e
            · exact Or.inl (Or.inr (Or.inl e))
            · exact Or.inr e)))
          have Q5 := Lib.hid ((GK.out.keeps M4.out f5 (b := gq) (Or.inl (Or.inr (Or.inr rfl)))).trans QK.out)
          clear r5 f5 HMU p0 p1 p2 p3 p4 p5
          go_wp2_with fail
          go_meet
          exact ⟨x, r, _, G5.out, L5.out, T5.out, Q5.out, RK.out, FN.out, CN.out⟩
        · -- a step
          have hU := fun a => GK.out.mem.peekU a
          have HS := Lib.hid (takeStep_ok (T := t) (L := l) (i := k) TK.out (CK.out.calm (by omega)) (by omega) FK.out HOk.out HF21.out HF22.out HF0.out (by have := HLT.out; omega) HF2.out (by have := HLT.out; omega) HLT.out.1 hU CK.out RK.out.wf LK.out (Or.inr (Or.inr (Or.inl rfl))) (Or.inr (Or.inl rfl)) (GK.out.off gt (Or.inl (Or.inr (Or.inl rfl)))).2)
          have FN := Lib.hid (fun n1 n2 => tkS_fine (n1 := n1) (n2 := n2) (T := t) (F := layF t s l b) (t := th) (x := x) FK.out (by omega))
          have CN := Lib.hid (fun n1 n2 => (tkS_wf (n1 := n1) (n2 := n2) (F := layF t s l b) (t := th) HF2.out HLT.out.1 hU RK.out.wf CK.out).2)
          have HU := Lib.hid hU
          clear hU p1 p2 p3 p4 p5 HQ HFit
          go_wp2_with fail
          refine HS.out.mono ?_
          rintro e w4 ⟨n1, n2, rfl, a4, k4⟩
          have hoff := GK.out.off
          have hgt : ∀ q, rfoot g R rv q → q ≠ gt := fun q hq e => (hoff gt (Or.inl (Or.inr (Or.inl rfl)))).1 (e ▸ hq)
          have R4 := GK.out.ref.heldQ (fun q hq => k4 q (Or.inl hq) (hgt q hq))
          have L4 : Blk w4 gl 173 (cellsF (layF t s l b)) := (k4 gl (Or.inr (Or.inl rfl)) HNe.out.1).trans LK.out
          have Q4 : Blk w4 gq 70 (r.cells t s l b th) := (k4 gq (Or.inr (Or.inr (Or.inr rfl))) (fun e => HNe.out.2.2.1 e.symm)).trans QK.out
          have HRm := Lib.hid (rtake_ok (i := k) (tn := th) RK.out R4 GK.out.sound (CK.out.calm (by omega)) (by omega) FK.out CK.out HC.out (by have := HLT.out; omega) HOk.out (hoff gq (Or.inl (Or.inr (Or.inr rfl)))).1 HLT.out.1 (by have := HLT.out; omega) Q4 HU.out)
          have A4 := Lib.hid a4
          have LL4 := Lib.hid L4
          clear a4 k4 R4 L4 Q4 HS p0
          go_wp2_with fail
          refine HRm.out.mono ?_
          rintro e w5 ⟨⟨u', rfl⟩, r', st', hrr, rg⟩
          have rr := rg.ref
          have hr12 := hrr n1 n2
          rw [← hr12.1] at rr
          have m5 := A4.out.mem.turn rg.fr (fun q hq => by
            rcases hq with e | e
            · exact Or.inl (Or.inl e)
            · exact Or.inl (Or.inr (Or.inr (Or.inr e)))) (fun q hq => by
            rcases hq with e | e
            · exact (GK.out.ref.foot_lt e).1
            · rw [e]; exact (hoff gq (Or.inl (Or.inr (Or.inr rfl)))).2)
          have hpu : ∀ q, (tkS (layF t s l b) t th x sk n1 n2).1.ownB q → ¬ (rfoot g R rv q ∨ (q = gl ∨ q = gt ∨ q = gq)) ∧ W0.heap.size ≤ q := fun q hq => A4.out.offB hq
          have G5 : Hid (Gr (fun q => (q = gl ∨ q = gt ∨ q = gq) ∨ TkM.ownB (tkS (layF t s l b) t th x sk n1 n2).1 q) W0 w5 gm dv pv g R rv (tkS (layF t s l b) t th x sk n1 n2).2) := Lib.hid ⟨m5.reQ (fun q hq => by
              rcases hq with e | (e | e)
              · exact Or.inl (Or.inl e)
              · exact Or.inl (Or.inr e)
              · exact Or.inr e), rr, fun q hq => by
              rcases hq with e | e
              · exact hoff q (Or.inl e)
              · exact ⟨fun h2 => (hpu q e).1 (Or.inl h2), (hpu q e).2⟩⟩
          have L5 := Lib.hid (LL4.out.fr rg.fr (fun hq => by
            rcases hq with e | e
            · exact (hoff gl (Or.inl (Or.inl rfl))).1 e
            · exact HNe.out.2.1 e))
          have T5 := Lib.hid (A4.out.keep m5 (fun q hq => rg.fr.block q (by
            rcases hq with e | e
            · exact A4.out.mem.lt.2 q (Or.inl (Or.inr (Or.inr (Or.inl e))))
            · exact A4.out.mem.lt.2 q (Or.inr e)) (fun h2 => by
            rcases hq with e | e
            · rcases h2 with h3 | h3
              · exact (hoff gt (Or.inl (Or.inr (Or.inl rfl)))).1 (e ▸ h3)
              · exact HNe.out.2.2.1 (e.symm.trans h3)
            · rcases h2 with h3 | h3
              · exact (hpu q e).1 (Or.inl h3)
              · exact (hpu q e).1 (Or.inr (Or.inr (Or.inr h3))))))
          have Q5 := Lib.hid rg.blk
          have c5 : w5.cell? ⟨gq, 5, none⟩ = some (.int .i64 r'.part) := rg.blk.cell 5
          have RE := Lib.hid hr12.2
          have hlb := hr12.2.partB
          have FE := Lib.hid (FN.out n1 n2)
          have CE := Lib.hid (CN.out n1 n2)
          clear rg rr m5 HRm hoff hgt A4 LL4 FN CN hrr hr12 hpu
          generalize tkS (layF t s l b) t th x sk n1 n2 = X at *
          obtain ⟨x', s'⟩ := X
          obtain ⟨dn', hdn⟩ : ∃ dn', decide (x'.part = 0) = dn' := ⟨_, rfl⟩
          obtain ⟨ln, hln⟩ : ∃ ln, r'.part = ln := ⟨_, rfl⟩
          simp only at c5 hlb
          rw [hln] at c5 hlb
          rw [hdn] at hlb
          have dbb : (dn' != dn') = false := by cases dn' <;> rfl
          simp only
          rw [hdn]
          clear hdn hln
          have hdl : decide (ln = 0) = dn' := by rw [← hlb]; rfl
          go_wp2_with fail
          go_meet
          exact ⟨x', r', s', G5.out, L5.out, T5.out, Q5.out, RE.out, FE.out, CE.out⟩
      case rest =>
        obtain ⟨x', r', sk', gr, bl, ta, bq, rel, fi, ca⟩ := hcut
        generalize wc = w6 at *
        have HSm : Hid (∀ W, Ext w6 W → Calls Tryz.prog 14 #[.pointer (some ⟨gm, 0, none⟩), .pointer (some ⟨g, 0, none⟩)] W fun e w' => e = .returned (.bool true) ∧ Ext W w') := Lib.hid (fun W x => same7_ok (gr.ext x).mem (gr.ext x).ref (gr.ext x).sound)
        obtain ⟨ln, hln⟩ : ∃ ln, r'.part = ln := ⟨_, rfl⟩
        obtain ⟨sl, hsl⟩ : ∃ sl, r'.slot = sl := ⟨_, rfl⟩
        obtain ⟨em, hem⟩ : ∃ em, r'.empty = em := ⟨_, rfl⟩
        have hlb := rel.partB
        have htk := rel.tookE
        have hho := rel.holdsE
        have hee := rel.empty
        obtain ⟨tv, htv⟩ : ∃ tv : Int, (if r'.part = 0 then r'.slot else -1) = tv := ⟨_, rfl⟩
        obtain ⟨hv, hhv⟩ : ∃ hv : Int, x'.holds = hv := ⟨_, rfl⟩
        rw [htv] at htk
        rw [hhv] at hho
        rw [hem] at hee
        have HDo : Hid (∀ W, Ext w6 W → Calls Tryz.prog 21 #[.pointer (some ⟨gt, 0, none⟩)] W fun e w' => e = .returned (.bool (ln == 0)) ∧ Ext W w') := Lib.hid (fun W x => (tkDone_ok (ta.ext x) rel.wf.part).mono (by rintro e w' ⟨rfl, rfl⟩; exact ⟨by rw [← hlb, hln], Ext.refl _⟩))
        have HSl : Hid (∀ W, Ext w6 W → Calls Tryz.prog 22 #[.pointer (some ⟨gt, 0, none⟩)] W fun e w' => e = .returned (.int .i64 tv) ∧ Ext W w') := Lib.hid (fun W x => (tkSlot_ok (ta.ext x) rel.wf).mono (by rintro e w' ⟨rfl, x1⟩; exact ⟨by rw [htk], x1⟩))
        have HHo : Hid (∀ W, Ext w6 W → Calls Tryz.prog 23 #[.pointer (some ⟨gt, 0, none⟩)] W fun e w' => e = .returned (.int .i64 hv) ∧ Ext W w') := Lib.hid (fun W x => (tkHolds_ok (ta.ext x) rel.wf).mono (by rintro e w' ⟨rfl, x1⟩; exact ⟨by rw [hhv], x1⟩))
        have HEm : Hid (∀ W, Ext w6 W → Calls Tryz.prog 25 #[.pointer (some ⟨gt, 0, none⟩)] W fun e w' => e = .returned (.int .i64 em) ∧ Ext W w') := Lib.hid (fun W x => (tkEmpty_ok (ta.ext x)).mono (by rintro e w' ⟨rfl, rfl⟩; exact ⟨by rw [hee], Ext.refl _⟩))
        have HRh : Hid (∀ W, Ext w6 W → Calls Tryz.prog 24 #[.pointer (some ⟨gq, 0, none⟩)] W fun e w' => e = .returned (.int .i64 hv) ∧ Ext W w') := Lib.hid (fun W x => (rtkHolds_ok (bq.ext x)).mono (by rintro e w' ⟨rfl, rfl⟩; exact ⟨by rw [hho], Ext.refl _⟩))
        have y5 : w6.cell? ⟨gq, 5, none⟩ = some (.int .i64 ln) := by rw [← hln]; exact bq.cell 5
        have y6 : w6.cell? ⟨gq, 6, none⟩ = some (.int .i64 sl) := by rw [← hsl]; exact bq.cell 6
        have y8 : w6.cell? ⟨gq, 8, none⟩ = some (.int .i64 em) := by rw [← hem]; exact bq.cell 8
        have HTv : Hid ((if ln = 0 then sl else -1) = tv) := Lib.hid (by rw [← hln, ← hsl]; exact htv)
        have G6 := Lib.hid gr
        have L6 := Lib.hid bl
        have T6 := Lib.hid ta
        have Q6 := Lib.hid bq
        have R6 := Lib.hid rel
        have F6 := Lib.hid fi
        have C6 := Lib.hid ca
        clear gr bl ta bq rel fi ca hln hsl hem hlb htk hho hee htv hhv GK LK TK QK RK FK CK HQ HFit
        go_upto_if 80 with fail
        go_cut [15] (fun s15 wx => s15 = .int .i64 tv ∧ wx = w6)
        case first =>
          by_cases hl : ln = 0
          · have e0 : decide (ln = 0) = true := by simpa using hl
            have e1 : (ln == 0) = true := by rw [beq_iff_eq]; exact hl
            have q0 : sl = tv := by rw [← HTv.out, if_pos hl]
            have HQ0 := Lib.hid q0
            clear hl q0 HTv
            try rw [e1]
            go_wp2_with fail
            go_meet
            exact ⟨by rw [HQ0.out], rfl⟩
          · have e0 : decide (ln = 0) = false := by simpa using hl
            have e1 : (ln == 0) = false := by rw [beq_eq_false_iff_ne]; exact hl
            have q0 : -1 = tv := by rw [← HTv.out, if_neg hl]
            have HQ0 := Lib.hid q0
            clear hl q0 HTv
            try rw [e1]
            go_wp2_with fail
            go_meet
            exact ⟨by rw [HQ0.out], rfl⟩
        case rest =>
        obtain ⟨rfl, rfl⟩ := hcut
        have z5 := fun d os => cell_regrown y5 d os
        have z8 := fun d os => cell_regrown y8 d os
        obtain ⟨bz, hbz⟩ : ∃ bz : Bool, (ln == 0) = bz := ⟨_, rfl⟩
        rw [hbz] at HDo
        have hbd : decide (ln = 0) = bz := by rw [← hbz]; rfl
        have dbb : (bz != bz) = false := by cases bz <;> rfl
        have dtt : (tv != tv) = false := by simp
        have dhh : (hv != hv) = false := by simp
        have dee : (em != em) = false := by simp
        clear y6 HTv
        go_wp2_with fail
        refine wp_region_quiet_below (by kernel_rfl) (by kernel_rfl) ?_
        repeat (quiet_step (first
          | (with_reducible exact Calls.regrown_of (HSm.out _ (grown_extF _ _ _)))
          | (with_reducible exact Calls.regrown_of (HDo.out _ (grown_extF _ _ _)))
          | (with_reducible exact Calls.regrown_of (HSl.out _ (grown_extF _ _ _)))
          | (with_reducible exact Calls.regrown_of (HHo.out _ (grown_extF _ _ _)))
          | (with_reducible exact Calls.regrown_of (HRh.out _ (grown_extF _ _ _)))
          | (with_reducible exact Calls.regrown_of (HEm.out _ (grown_extF _ _ _)))))
        refine wpQuiet_nil ?_
        intro wf hwf
        have XF : Ext wc wf := by
          obtain ⟨⟨dq, osq⟩, hw2⟩ := hwf
          rw [hw2]
          exact grown_extF _ _ _
        have G7 := Lib.hid (G6.out.ext XF)
        have L7 := Lib.hid (L6.out.ext XF)
        have T7 := Lib.hid (T6.out.ext XF)
        have Q7 := Lib.hid (Q6.out.ext XF)
        clear hwf z5 z8 y5 y8 XF G6 L6 T6 Q6
        go_wp2_with fail
        go_roundw
        case rel => exact ⟨k + 1, x', r', sk', by omega, by go_num, G7.out, L7.out, T7.out, Q7.out, R6.out, F6.out, by rw [show (100 : Int) + ((k + 1 : Nat) : Int) = 100 + (k : Int) + 1 by omega]; exact C6.out⟩
        case measure => simp [intOf]; omega
    · have v1 : decide (k < pn) = false := by simp; omega
      go_wp2_with fail
      refine (HAw.out _).mono ?_
      rintro e w4 ⟨rfl, x4⟩
      have X4 := Lib.hid (XK.out.trans x4)
      clear x4
      go_wp2_with fail
      go_ret
      exact ⟨rfl, X4.out⟩
set_option maxRecDepth 100000 in
set_option maxHeartbeats 4000000 in
theorem arenaTakes_long (w : World) (A : Option Addr) (n c : Nat) (t s l b : Nat) (ys : List Put) (th : Int) (PA : Option Addr) (pn pc : Nat) (hg : GrOk t s l b) (hy : ys.length = n) (hn : n ≤ 100) (hY : PutsAt w A ys) (hpn : 80 < pn) (hp2 : pn ≤ 9223372036854775807) :
    Calls Tryz.prog 4 #[.agg #[.int .i64 t, .int .i64 s, .int .i64 l, .int .i64 b, .slice A n c], .int .i64 th, .slice PA pn pc] w fun e w' => e = .returned (.bool true) ∧ Ext w w' := by
  have X0 := Lib.hid ((Ext.refl w).alloc (.cells #[.int .i64 t, .int .i64 s, .int .i64 l, .int .i64 b, .slice A n c] 26))
  have B0 := Lib.hid (Blk.new w 26 [.int .i64 t, .int .i64 s, .int .i64 l, .int .i64 b, .slice A n c])
  have HL := Lib.hid (lay_ok (w.alloc (.cells #[.int .i64 t, .int .i64 s, .int .i64 l, .int .i64 b, .slice A n c] 26)) A n c t s l b ys hg hy hn (hY.ext X0.out))
  have d60 : decide (80 < pn) = true := by simp; omega
  have d60' : decide ((80 : Int) < (pn : Int)) = true := by simp; omega
  clear hg hY
  go_enter Tryz.func4, Tryz.ntmps4
  go_upto_region 1 with fail
  generalize w.alloc (.cells #[.int .i64 t, .int .i64 s, .int .i64 l, .int .i64 b, .slice A n c] 26) = W0 at *
  have y0 : W0.cell? ⟨w.heap.size, 0, none⟩ = some (.int .i64 t) := B0.out.cell 0
  have y1 : W0.cell? ⟨w.heap.size, 1, none⟩ = some (.int .i64 s) := B0.out.cell 1
  have y2 : W0.cell? ⟨w.heap.size, 2, none⟩ = some (.int .i64 l) := B0.out.cell 2
  have y3 : W0.cell? ⟨w.heap.size, 3, none⟩ = some (.int .i64 b) := B0.out.cell 3
  have y4 : W0.cell? ⟨w.heap.size, 4, none⟩ = some (.slice A n c) := B0.out.cell 4
  go_wp2_with fail
  refine HL.out.mono ?_
  rintro e w1 ⟨gl, gm, dv, pv, g, R, rv, rfl, bl, gr⟩
  have X1 := Lib.hid (X0.out.trans gr.mem.lt.1)
  clear bl gr y0 y1 y2 y3 y4
  go_wp2_with fail
  refine (awake12_ok _).mono ?_
  rintro e w2 ⟨rfl, x2⟩
  have X2 := Lib.hid (X1.out.trans x2)
  clear x2
  go_wp2_with fail
  go_ret
  exact ⟨rfl, X2.out⟩
set_option maxRecDepth 100000 in
set_option maxHeartbeats 4000000 in
theorem arenaTakes_no (w : World) (A : Option Addr) (n c : Nat) (t s l b th : Int) (PA : Option Addr) (pn pc : Nat) (h : ¬ GrOk t s l b ∨ 100 < n) (hn : n ≤ 9223372036854775807) :
    Calls Tryz.prog 4 #[.agg #[.int .i64 t, .int .i64 s, .int .i64 l, .int .i64 b, .slice A n c], .int .i64 th, .slice PA pn pc] w fun e w' => e = .returned (.bool true) ∧ Ext w w' := by
  have X0 := Lib.hid ((Ext.refl w).alloc (.cells #[.int .i64 t, .int .i64 s, .int .i64 l, .int .i64 b, .slice A n c] 26))
  have HL := Lib.hid (fun W => lay_no W A n c t s l b h hn)
  unfold NoGr at HL
  clear h
  go_enter Tryz.func4, Tryz.ntmps4
  go_wp2_with fail
  refine (HL.out _).mono ?_
  rintro e w1 ⟨rfl, x1⟩
  have X1 := Lib.hid (X0.out.trans x1)
  clear x1
  go_wp2_with fail
  refine (awake12_ok _).mono ?_
  rintro e w2 ⟨rfl, x2⟩
  have X2 := Lib.hid (X1.out.trans x2)
  clear x2
  go_wp2_with fail
  go_ret
  exact ⟨rfl, X2.out⟩
theorem arenaTakes_walk (w : World) (A : Option Addr) (n c : Nat) (t s l b th : Int) (ys : List Put) (PA : Option Addr) (pn pc : Nat) (pk : List Pk7) (hy : ys.length = n) (hn : n ≤ 9223372036854775807) (hY : PutsAt w A ys) (hp : pk.length = pn) (hpn : pn ≤ 9223372036854775807) (hP : Pokes w PA pk) :
    Calls Tryz.prog 4 #[.agg #[.int .i64 t, .int .i64 s, .int .i64 l, .int .i64 b, .slice A n c], .int .i64 th, .slice PA pn pc] w fun e w' => e = .returned (.bool true) ∧ Ext w w' := by
  by_cases h : GrOk t s l b ∧ n ≤ 100
  · obtain ⟨hg, hn1⟩ := h
    obtain ⟨⟨q0, q1⟩, ⟨q2, q3⟩, ⟨q4, q5⟩, q6, q7⟩ := id hg.1
    obtain ⟨t', rfl⟩ := Int.eq_ofNat_of_zero_le (show 0 ≤ t by omega)
    obtain ⟨s', rfl⟩ := Int.eq_ofNat_of_zero_le (show 0 ≤ s by omega)
    obtain ⟨l', rfl⟩ := Int.eq_ofNat_of_zero_le (show 0 ≤ l by omega)
    obtain ⟨b', rfl⟩ := Int.eq_ofNat_of_zero_le (show 0 ≤ b by omega)
    by_cases h60 : pn ≤ 80
    · exact arenaTakes_yes w A n c t' s' l' b' ys th PA pn pc pk hg hy hn1 hY hp h60 hP
    · exact arenaTakes_long w A n c t' s' l' b' ys th PA pn pc hg hy hn1 hY (by omega) hpn
  · exact arenaTakes_no w A n c t s l b th PA pn pc (by
      by_cases hg : GrOk t s l b
      · exact Or.inr (by
          have : ¬ n ≤ 100 := fun h2 => h ⟨hg, h2⟩
          omega)
      · exact Or.inl hg) hn

namespace arenaTakes
set_option maxRecDepth 100000 in
theorem lifted (os : Os) (started : os.Started) (H : Type) (enc : TypeId × Value → H) :
    ReturnsInHanded {} Tryz.checked os 4 .any (Rows.arenaTakesSpec.pre6 enc Tryz.prog Tryz.f4 Rows.arenaTakesRow.domain false) (Rows.arenaTakesSpec.post enc Tryz.prog Tryz.f4 false true false false) := by
  refine returnsInHanded_of_change (C := Tryz.checked) own started (by kernel_rfl) Tryz.func4
    (ChangeSpec.witness6 (enc := enc) (C := Tryz.checked) false ⟨#[], #[.agg #[.int .i64 0, .int .i64 0, .int .i64 0, .int .i64 0, .slice none 0 0], .int .i64 0, .slice none 0 0], []⟩ 8 (by kernel_rfl) (by kernel_rfl) (by kernel_rfl) (by kernel_rfl)) ?_
  intro W base args ds gs before hval0 hW hcnd _
  have hval : ∀ (j : Nat) t v, Tryz.f4.params[j]? = some t → args[j]? = some v → Value.okWide Tryz.prog W .any base t v := hval0
  have hW' := hW
  obtain ⟨p, q, hA0, hV, rfl, hfz, hnd⟩ := hW
  have hA : DataW.TrodAll enc Tryz.prog W 0 (fun _ => true) true Tryz.f4.params.toList args.toList ds p := hA0
  have hlt : ∀ x ∈ p ++ q, x.block < W.heap.size := fun x hx => hW'.lt x hx
  rw [Tryz.params4] at hA hval
  have hB := hA
  obtain ⟨v0, vs0, d0, ds0, p0, q0, hargs, rfl, rfl, h0, r0⟩ := trodAll_cons hB
  obtain ⟨v1, vs1, d1, ds1, p1, q1, rfl, rfl, rfl, h1, r1⟩ := trodAll_cons r0
  obtain ⟨v2, vs2, d2, ds2, p2, q2, rfl, rfl, rfl, h2, r2⟩ := trodAll_cons r1
  obtain ⟨rfl, rfl, rfl⟩ := trodAll_nil r2
  obtain rfl : args = #[v0, v1, v2] := by cases args; simp_all
  obtain ⟨rfl, rfl⟩ := trodVars_none hV
  obtain ⟨g0t, g0s, g0l, g0b, A0, c0, y0, rfl, lc0, mc0, I0⟩ := view_ground Tryz.underlying26 (by kernel_rfl) rfl (by kernel_rfl) rfl (by kernel_rfl) Tryz.underlying23 (by kernel_rfl) Tryz.underlying3 Tryz.underlying3 Tryz.underlying3 Tryz.underlying3 Tryz.underlying24 Tryz.underlying114 (by kernel_rfl) (by kernel_rfl) Tryz.underlying3 Tryz.underlying45 (hval 0 26 v0 rfl rfl) h0
  obtain ⟨a1, rfl, rfl, rfl, w1⟩ := open_int Tryz.underlying3 (hval 1 3 v1 rfl rfl) h1
  obtain ⟨A2, n2, c2, y2, rfl, lc2, mc2, zl2, I2⟩ := view_pokes Tryz.underlying29 Tryz.underlying49 (by kernel_rfl) rfl (by kernel_rfl) Tryz.underlying4 rfl (by kernel_rfl) Tryz.underlying47 (by kernel_rfl) Tryz.underlying3 Tryz.underlying3 Tryz.underlying3 Tryz.underlying45 Tryz.underlying45 (hval 2 29 v2 rfl rfl) h2
  clear hA0 hval0
  refine (arenaTakes_walk W A0 _ c0 g0t g0s g0l g0b a1 y0 A2 n2 c2 y2 rfl (Nat.le_trans lc0 mc0) I0 zl2 (Nat.le_trans lc2 mc2) I2).mono fun e W' ⟨he, hx⟩ => ?_
  subst he
  exact ⟨_, rfl, post_ext (pv := []) hW' (fun _ _ _ => (trodAll_cons_mk (shut_bool Tryz.underlying4 _) trodAll_mk0)) (fun sp hsp => trodAll_stays laid hx _ _ _ _ (readable_of (by kernel_rfl)) hA (fun x hx => hlt x (by first | (simp at hx ⊢; exact hx) | simp at hx)) (fun x hx => hsp x (by first | (simp at hx ⊢; exact hx) | simp at hx))) (fun _ _ => rfl) rfl hx (ok_one (by kernel_rfl) rfl (okWide_bool_mk Tryz.underlying4 _))⟩

theorem over : Rows.arenaTakesRow.holds Tryz.pinned (OpenSpec.ofChange Rows.arenaTakesSpec) :=
  OpenClaim.holds_of_wide 4 Tryz.f4 rfl rfl rfl rfl rfl rfl rfl ⟨rfl, rfl, rfl, rfl, rfl⟩ rfl rfl rfl rfl rfl (by kernel_rfl) Tryz.func4 (by kernel_rfl)
    (of_decide_eq_true (by kernel_rfl)) (by unfold Func.isWrapper; first | (rw [if_pos (by decide +kernel)]; kernel_rfl) | (rw [if_neg (by decide +kernel)]; exact ⟨rfl, rfl⟩))
    (fun os started H enc _ => lifted os started H enc)
end arenaTakes

theorem arenaTakes_holds : Rows.ArenaTakesSaid := arenaTakes.over
end Go.Proofs.YtbicloceaddinaaGreat

