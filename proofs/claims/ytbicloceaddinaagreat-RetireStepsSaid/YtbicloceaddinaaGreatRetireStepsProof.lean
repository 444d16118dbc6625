/- Each step of Reserve, Cancel, Stamp and Reclaim, over any memory, whatever others do between, is the document's, and so is what they tell: the law answers true for every ground, kind, thread, place, slot and acts, and changes nothing. Conditions: none. -/
import Derived.Test.YtbicloceaddinaaGreatKM11
import Derived.Deep.MidRow
import Derived.Deep.CutBlock
import Derived.Deep.RegionHeld3
import Derived.Lib.QuietBelow
import Derived.Deep.DeepCutAuto
import Derived.Test.YtbicloceaddinaaGreatKR11
import Derived.Test.YtbicloceaddinaaGreatKPk
import Derived.Test.YtbicloceaddinaaGreatKFreeB
import Derived.Test.YtbicloceaddinaaGreatKRetC
import Derived.Test.YtbicloceaddinaaGreatKView
import Derived.Test.YtbicloceaddinaaGreatArgs
namespace Go.Proofs.YtbicloceaddinaaGreat
open Go.ChangeShapes Go.WideShapes Go.ChangeAt Go.RowKit
set_option linter.unusedVariables false

set_option maxRecDepth 100000 in
set_option maxHeartbeats 16000000 in
theorem retireSteps_yes (w : World) (A : Option Addr) (n c : Nat) (t s l b : Nat) (ys : List Put) (kd th pla slt : Int) (PA : Option Addr) (pn pc : Nat) (pk : List Pk7) (hg : GrOk t s l b) (hy : ys.length = n) (hn : n ≤ 100) (hY : PutsAt w A ys) (hp : pk.length = pn) (hpn : pn ≤ 60) (hP : Pokes w PA pk) (hsl : I64 slt) :
    Calls Tryz.prog 3 #[.agg #[.int .i64 t, .int .i64 s, .int .i64 l, .int .i64 b, .slice A n c], .agg #[.int .i64 kd, .int .i64 th, .int .i64 pla, .int .i64 slt], .slice PA pn pc] w fun e w' => e = .returned (.bool true) ∧ Ext w w' := by
  have X0 := Lib.hid (((Ext.refl w).alloc (.cells #[.int .i64 t, .int .i64 s, .int .i64 l, .int .i64 b, .slice A n c] 26)).alloc (.cells #[.int .i64 kd, .int .i64 th, .int .i64 pla, .int .i64 slt] 28))
  have B0 := Lib.hid ((Blk.new w 26 [.int .i64 t, .int .i64 s, .int .i64 l, .int .i64 b, .slice A n c]).ext ((Ext.refl (w.alloc (.cells #[.int .i64 t, .int .i64 s, .int .i64 l, .int .i64 b, .slice A n c] 26))).alloc (.cells #[.int .i64 kd, .int .i64 th, .int .i64 pla, .int .i64 slt] 28)))
  have U0 : Hid (Blk ((w.alloc (.cells #[.int .i64 t, .int .i64 s, .int .i64 l, .int .i64 b, .slice A n c] 26)).alloc (.cells #[.int .i64 kd, .int .i64 th, .int .i64 pla, .int .i64 slt] 28)) (w.heap.size + 1) 28 [.int .i64 kd, .int .i64 th, .int .i64 pla, .int .i64 slt]) := Lib.hid (by have := Blk.new (w.alloc (.cells #[.int .i64 t, .int .i64 s, .int .i64 l, .int .i64 b, .slice A n c] 26)) 28 [.int .i64 kd, .int .i64 th, .int .i64 pla, .int .i64 slt]; simp only [World.size_alloc] at this; exact this)
  have HL := Lib.hid (lay_ok ((w.alloc (.cells #[.int .i64 t, .int .i64 s, .int .i64 l, .int .i64 b, .slice A n c] 26)).alloc (.cells #[.int .i64 kd, .int .i64 th, .int .i64 pla, .int .i64 slt] 28)) A n c t s l b ys hg hy hn (hY.ext X0.out))
  have HPk := Lib.hid hP
  have HPl := Lib.hid hp
  have HFi := Lib.hid (ground_fine t s l b ys)
  have HCa := Lib.hid (ground_calm t s l b ys (by omega))
  have HAw := Lib.hid (fun W => awake11_ok W)
  have HSl := Lib.hid hsl
  obtain ⟨hc, h1, h2, h3, h4⟩ := id hg
  obtain ⟨⟨q0, q1⟩, ⟨q2, q3⟩, ⟨q4, q5⟩, q6, q7⟩ := id hc
  have HC : Hid (CfgN t s l b) := Lib.hid ⟨by omega, by omega, by omega, by omega, by omega⟩
  have HOk := Lib.hid (okayF hc)
  have HF2 : Hid (layF t s l b 2 = (l : Int)) := Lib.hid rfl
  have HF21 : Hid (layF t s l b 21 = -1) := Lib.hid rfl
  have HF22 : Hid (layF t s l b 22 = -2) := Lib.hid rfl
  have HL0 : Hid (0 < l ∧ l ≤ 8) := Lib.hid ⟨by omega, by omega⟩
  have d60 : decide (60 < pn) = false := by simp; omega
  have d60' : decide ((60 : Int) < (pn : Int)) = false := by simp; omega
  clear hY hg hc h1 h2 h3 h4 q0 q1 q2 q3 q4 q5 q6 q7 hP hp hsl
  go_enter Tryz.func3, Tryz.ntmps3
  go_upto_region 1 with fail
  generalize ((w.alloc (.cells #[.int .i64 t, .int .i64 s, .int .i64 l, .int .i64 b, .slice A n c] 26)).alloc (.cells #[.int .i64 kd, .int .i64 th, .int .i64 pla, .int .i64 slt] 28)) = W0 at *
  have y0 : W0.cell? ⟨w.heap.size, 0, none⟩ = some (.int .i64 t) := B0.out.cell 0
  have y1 : W0.cell? ⟨w.heap.size, 1, none⟩ = some (.int .i64 s) := B0.out.cell 1
  have y2 : W0.cell? ⟨w.heap.size, 2, none⟩ = some (.int .i64 l) := B0.out.cell 2
  have y3 : W0.cell? ⟨w.heap.size, 3, none⟩ = some (.int .i64 b) := B0.out.cell 3
  have y4 : W0.cell? ⟨w.heap.size, 4, none⟩ = some (.slice A n c) := B0.out.cell 4
  have u0 : W0.cell? ⟨w.heap.size + 1, 0, none⟩ = some (.int .i64 kd) := U0.out.cell 0
  have u1 : W0.cell? ⟨w.heap.size + 1, 1, none⟩ = some (.int .i64 th) := U0.out.cell 1
  have u2 : W0.cell? ⟨w.heap.size + 1, 2, none⟩ = some (.int .i64 pla) := U0.out.cell 2
  have u3 : W0.cell? ⟨w.heap.size + 1, 3, none⟩ = some (.int .i64 slt) := U0.out.cell 3
  go_wp2_with fail
  refine HL.out.mono ?_
  rintro e w1 ⟨gl, gm, dv, pv, g, R, rv, rfl, bl, gr0⟩
  have BL := Lib.hid bl
  have GR := Lib.hid gr0
  have B1 := Lib.hid (B0.out.ext gr0.mem.lt.1)
  have U1 := Lib.hid (U0.out.ext gr0.mem.lt.1)
  generalize groundSt t s l b ys = s0 at *
  clear bl gr0 y0 y1 y2 y3 y4 u0 u1 u2 u3 HL B0 U0
  have y0 : w1.cell? ⟨w.heap.size, 0, none⟩ = some (.int .i64 t) := B1.out.cell 0
  have y1 : w1.cell? ⟨w.heap.size, 1, none⟩ = some (.int .i64 s) := B1.out.cell 1
  have y2 : w1.cell? ⟨w.heap.size, 2, none⟩ = some (.int .i64 l) := B1.out.cell 2
  have y3 : w1.cell? ⟨w.heap.size, 3, none⟩ = some (.int .i64 b) := B1.out.cell 3
  have y4 : w1.cell? ⟨w.heap.size, 4, none⟩ = some (.slice A n c) := B1.out.cell 4
  have u0 : w1.cell? ⟨w.heap.size + 1, 0, none⟩ = some (.int .i64 kd) := U1.out.cell 0
  have u1 : w1.cell? ⟨w.heap.size + 1, 1, none⟩ = some (.int .i64 th) := U1.out.cell 1
  have u2 : w1.cell? ⟨w.heap.size + 1, 2, none⟩ = some (.int .i64 pla) := U1.out.cell 2
  have u3 : w1.cell? ⟨w.heap.size + 1, 3, none⟩ = some (.int .i64 slt) := U1.out.cell 3
  clear y4
  go_wp2_with fail
  refine (made11_ok w1 gl t s l b kd th pla slt).mono ?_
  rintro e w3 ⟨gM, gr, rfl, md⟩
  have x4 := (Ext.refl w3).alloc (.cells #[.pointer none, .pointer none, .pointer none, .pointer none] 41)
  have b4 := Blk.new w3 41 [.pointer none, .pointer none, .pointer none, .pointer none]
  have HTh : Hid ((w3.alloc (.cells #[.pointer none, .pointer none, .pointer none, .pointer none] 41)).there w3.heap.size 0 4) := Lib.hid (fun j hj => ⟨by
    rw [b4.cell (0 + j)]
    have hj3 : j = 0 ∨ j = 1 ∨ j = 2 ∨ j = 3 := by omega
    rcases hj3 with rfl | rfl | rfl | rfl <;> rfl, b4.frozen _⟩)
  have HRn := Lib.hid (Rel11.new HL0.out.1 kd pla slt gM)
  have HRg := Lib.hid (r11new_rng (kd := kd) (place := pla) HSl.out)
  have hgN := newM11_g kd gM
  have hpN := newM11_push kd gM
  have hbM := md.own
  have md1 := md.g0
  have md2 := md.r0
  have md3 := md.ne
  have md4 := md.r
  have md5 := md.x
  have hbMl := hbM.lt
  have hrl := md4.lt
  have hLt := BL.out.lt
  clear md y0 y1 y2 y3 u0 u1 u2 u3
  have HNe : Hid ((gl ≠ gM ∧ gl ≠ gr ∧ gl ≠ w3.heap.size) ∧ (gM ≠ gr ∧ gM ≠ w3.heap.size ∧ gr ≠ w3.heap.size)) := Lib.hid ⟨⟨by omega, by omega, by omega⟩, ⟨by omega, by omega, by omega⟩⟩
  generalize newM11 kd gM = mN at *
  have x5 : Ext w1 (((((w3.alloc (.cells #[.pointer none, .pointer none, .pointer none, .pointer none] 41)).setCell ⟨w3.heap.size, 0, none⟩ (.pointer mN.p0)).setCell ⟨w3.heap.size, 1, none⟩ (.pointer mN.p1)).setCell ⟨w3.heap.size, 2, none⟩ (.pointer mN.p2)).setCell ⟨w3.heap.size, 3, none⟩ (.pointer mN.p3)) := ((((md5.trans x4).setCell (p := ⟨w3.heap.size, 0, none⟩) (by show w1.heap.size ≤ w3.heap.size; omega) _).setCell (p := ⟨w3.heap.size, 1, none⟩) (by show w1.heap.size ≤ w3.heap.size; omega) _).setCell (p := ⟨w3.heap.size, 2, none⟩) (by show w1.heap.size ≤ w3.heap.size; omega) _).setCell (p := ⟨w3.heap.size, 3, none⟩) (by show w1.heap.size ≤ w3.heap.size; omega) _
  have bx := (((b4.set 0 (.pointer mN.p0)).set 1 (.pointer mN.p1)).set 2 (.pointer mN.p2)).set 3 (.pointer mN.p3)
  have bM := ((((hbM.ext x4).far (p := ⟨w3.heap.size, 0, none⟩) HNe.out.2.2.1 (.pointer mN.p0)).far (p := ⟨w3.heap.size, 1, none⟩) HNe.out.2.2.1 (.pointer mN.p1)).far (p := ⟨w3.heap.size, 2, none⟩) HNe.out.2.2.1 (.pointer mN.p2)).far (p := ⟨w3.heap.size, 3, none⟩) HNe.out.2.2.1 (.pointer mN.p3)
  have bR := ((((md4.ext x4).far (p := ⟨w3.heap.size, 0, none⟩) HNe.out.2.2.2 (.pointer mN.p0)).far (p := ⟨w3.heap.size, 1, none⟩) HNe.out.2.2.2 (.pointer mN.p1)).far (p := ⟨w3.heap.size, 2, none⟩) HNe.out.2.2.2 (.pointer mN.p2)).far (p := ⟨w3.heap.size, 3, none⟩) HNe.out.2.2.2 (.pointer mN.p3)
  have HBX : Hid (Blk (((((w3.alloc (.cells #[.pointer none, .pointer none, .pointer none, .pointer none] 41)).setCell ⟨w3.heap.size, 0, none⟩ (.pointer mN.p0)).setCell ⟨w3.heap.size, 1, none⟩ (.pointer mN.p1)).setCell ⟨w3.heap.size, 2, none⟩ (.pointer mN.p2)).setCell ⟨w3.heap.size, 3, none⟩ (.pointer mN.p3)) w3.heap.size 41 [.pointer mN.p0, .pointer mN.p1, .pointer mN.p2, .pointer mN.p3]) := Lib.hid bx
  have HBM : Hid (Blk (((((w3.alloc (.cells #[.pointer none, .pointer none, .pointer none, .pointer none] 41)).setCell ⟨w3.heap.size, 0, none⟩ (.pointer mN.p0)).setCell ⟨w3.heap.size, 1, none⟩ (.pointer mN.p1)).setCell ⟨w3.heap.size, 2, none⟩ (.pointer mN.p2)).setCell ⟨w3.heap.size, 3, none⟩ (.pointer mN.p3)) gM mN.ty (mN.cells gl th pla slt)) := Lib.hid bM
  have HBR : Hid (Blk (((((w3.alloc (.cells #[.pointer none, .pointer none, .pointer none, .pointer none] 41)).setCell ⟨w3.heap.size, 0, none⟩ (.pointer mN.p0)).setCell ⟨w3.heap.size, 1, none⟩ (.pointer mN.p1)).setCell ⟨w3.heap.size, 2, none⟩ (.pointer mN.p2)).setCell ⟨w3.heap.size, 3, none⟩ (.pointer mN.p3)) gr 55 ((r11new kd pla slt).cells t s l b th)) := Lib.hid bR
  have G5 := Lib.hid (GR.out.owns (Own' := fun q => (q = gl ∨ q = gM ∨ q = gr ∨ q = w3.heap.size) ∨ M11.ownB mN q) x5 (fun q hq => by
    have hs5 := x5.size
    rcases hq with (e | e | e | e) | ⟨p, e, _⟩
    · rw [e]; exact ⟨by omega, Or.inl rfl⟩
    · rw [e]; exact ⟨bM.lt, Or.inr (by omega)⟩
    · rw [e]; exact ⟨bR.lt, Or.inr (by omega)⟩
    · rw [e]; exact ⟨bx.lt, Or.inr (by omega)⟩
    · rw [hpN] at e; cases e))
  have L5 := Lib.hid (BL.out.ext x5)
  have HGN := Lib.hid hgN
  have HPN := Lib.hid hpN
  clear x4 b4 bx bM bR x5 md1 md2 md3 md4 md5 hbM hbMl hrl hLt GR BL B1 U1 d60 d60' hgN hpN
  go_wp2_with ((with_reducible refine (id ?_ : wpList _ _ _ ({ dst := none, op := Op.store _ _ _, type := _, pos := _, after := _, guard := _ } :: _) _ _)); refine Hid.out ?_)
  refine Lib.hid ?_
  refine wpList_store_mid rfl _ (.tmp 11) (.tmp 36) rfl w3.heap.size 0 #[.pointer mN.p0, .pointer mN.p1, .pointer mN.p2, .pointer mN.p3] (by rfl) (by rfl) HTh.out (by kernel_rfl) (by simp [Value.oneCell']) ?_
  go_wp2_with fail
  generalize hW5 : (((((w3.alloc (.cells #[.pointer none, .pointer none, .pointer none, .pointer none] 41)).setCell ⟨w3.heap.size, 0, none⟩ (.pointer mN.p0)).setCell ⟨w3.heap.size, 1, none⟩ (.pointer mN.p1)).setCell ⟨w3.heap.size, 2, none⟩ (.pointer mN.p2)).setCell ⟨w3.heap.size, 3, none⟩ (.pointer mN.p3)) = w5 at *
  have HW5 := Lib.hid hW5
  clear hW5
  rw [show (w3.alloc (.cells #[.pointer none, .pointer none, .pointer none, .pointer none] 41)).setCells w3.heap.size 0 [.pointer mN.p0, .pointer mN.p1, .pointer mN.p2, .pointer mN.p3] = w5 from HW5.out]
  clear HTh
  generalize w3.heap.size = gx at *
  clear HW5
  go_loopw [13] (fun i wr => ∃ (k : Nat) (m : M11) (r : R11) (sk : MSt), k ≤ pn ∧ i = .int .i64 k ∧ Gr (fun q => (q = gl ∨ q = gM ∨ q = gr ∨ q = gx) ∨ M11.ownB m q) W0 wr gm dv pv g R rv sk ∧ Blk wr gl 173 (cellsF (layF t s l b)) ∧ (M11.g m = gM ∧ I64 (R11.slot r) ∧ W64 (R11.now r)) ∧ Blk wr gM (M11.ty m) (M11.cells gl th pla slt m) ∧ Blk wr gr 55 (R11.cells r t s l b th) ∧ Blk wr gx 41 [.pointer m.p0, .pointer m.p1, .pointer m.p2, .pointer m.p3] ∧ (∀ q, M11.push m = some q → ¬ (q.1 = gl ∨ q.1 = gM ∨ q.1 = gr ∨ q.1 = gx) ∧ Blk wr q.1 259 (q.2.cells gl th)) ∧ Rel11 (l : Int) pla slt m r ∧ Fine k sk.dev ∧ CalmN (100 + (k : Int)) sk) (fun i _ => pn - (intOf i).toNat)
  case atStart => exact ⟨0, mN, r11new kd pla slt, s0, Nat.zero_le _, rfl, G5.out, L5.out, ⟨HGN.out, HRg.out.1, HRg.out.2⟩, HBM.out, HBR.out, HBX.out, (fun q e => by rw [HPN.out] at e; cases e), HRn.out, HFi.out, by simpa using HCa.out⟩
  case round =>
    obtain ⟨k, m, r, sk, hk, rfl, gr1, bl, ⟨hmg, hrs, hrn⟩, bp, bq, bx, hpu, rel, fi, ca⟩ := hrel
    subst hmg
    have GK := Lib.hid gr1
    have LK := Lib.hid bl
    have PK := Lib.hid bp
    have QK := Lib.hid bq
    have BK := Lib.hid bx
    have UK := Lib.hid hpu
    have RK := Lib.hid rel
    have RG := Lib.hid (And.intro hrs hrn)
    have FK := Lib.hid fi
    have CK := Lib.hid ca
    have XK := Lib.hid (X0.out.trans gr1.mem.lt.1)
    clear gr1 bl hrs hrn bp bq bx hpu rel fi ca G5 L5 HBM HBR HBX HRn HRg HGN HPN
    by_cases hlt : k < pn
    · have v1 : decide (k < pn) = true := by simp; omega
      obtain ⟨ad, hAd, _, hcc⟩ := (HPk.out.ext XK.out) (by have := HPl.out; omega)
      obtain ⟨⟨p0, ⟨p1, p2, p3, p4, p5⟩⟩, hfit⟩ := hcc k (by have := HPl.out; omega)
      have HQ : Hid (∀ W, Ext w W → Pk7.at (pk.getD k noPk7) W (ad.add (k * 6))) := Lib.hid (fun W x => by
        obtain ⟨ad', hA1', _, hac'⟩ := HPk.out.ext x (by have := HPl.out; omega)
        have : ad = ad' := by rw [hAd] at hA1'; injection hA1'
        subst this
        exact (hac' k (by have := HPl.out; omega)).1)
      have HFit := Lib.hid hfit
      clear hcc hfit
      generalize hz5 : pk.getD k noPk7 = z at *
      clear hz5
      subst hAd
      obtain ⟨bb, ac⟩ := z
      go_upto_if 48 with fail
      go_cut [14] (fun _ wx => ∃ (m' : M11) (r' : R11) (sk' : MSt), Gr (fun q => (q = gl ∨ q = m.g ∨ q = gr ∨ q = gx) ∨ M11.ownB m' q) W0 wx gm dv pv g R rv sk' ∧ Blk wx gl 173 (cellsF (layF t s l b)) ∧ (M11.g m' = m.g ∧ I64 (R11.slot r') ∧ W64 (R11.now r')) ∧ Blk wx m.g (M11.ty m') (M11.cells gl th pla slt m') ∧ Blk wx gr 55 (R11.cells r' t s l b th) ∧ Blk wx gx 41 [.pointer m'.p0, .pointer m'.p1, .pointer m'.p2, .pointer m'.p3] ∧ (∀ q, M11.push m' = some q → ¬ (q.1 = gl ∨ q.1 = m.g ∨ q.1 = gr ∨ q.1 = gx) ∧ Blk wx q.1 259 (q.2.cells gl th)) ∧ Rel11 (l : Int) pla slt m' r' ∧ Fine (k + 1) sk'.dev ∧ CalmN (100 + (k : Int) + 1) sk')
      case first =>
        cases bb
        · -- another one's act
          have HD := Lib.hid (do7_ok GK.out.mem (i := k) (by omega) FK.out (CK.out.calm (by omega)) ac.k ac.t ac.a ac.z ac.x HFit.out.1 HFit.out.2.1 HFit.out.2.2)
          have FN := Lib.hid (act_fine FK.out (by omega) ac.k ac.t ac.a ac.z ac.x)
          have CN := Lib.hid (act_calm CK.out ac.k ac.t ac.a ac.z ac.x)
          go_wp2_with fail
          refine HD.out.mono ?_
          rintro e w4 ⟨⟨u, rfl⟩, m4⟩
          have M4 := Lib.hid m4
          have R4 := Lib.hid (GK.out.refMid m4)
          have HMU := Lib.hid (must7_ok R4.out GK.out.sound (i := k) (by omega) FK.out (CK.out.calm (by omega)) ac.k ac.t ac.a ac.z ac.x HFit.out.1 HFit.out.2.1)
          clear m4 HD p0 p1 p2 p3 p4 p5
          obtain ⟨p0, p1, p2, p3, p4, p5⟩ := HQ.out w4 (X0.out.trans M4.out.lt.1)
          go_wp2_with fail
          refine HMU.out.mono ?_
          rintro e w5 ⟨⟨u', rfl⟩, r5, f5⟩
          have G5 := Lib.hid (GK.out.both M4.out r5 f5)
          have L5 := Lib.hid ((GK.out.keeps M4.out f5 (b := gl) (Or.inl (Or.inl rfl))).trans LK.out)
          have P5 := Lib.hid ((GK.out.keeps M4.out f5 (b := m.g) (Or.inl (Or.inr (Or.inl rfl)))).trans PK.out)
          have Q5 := Lib.hid ((GK.out.keeps M4.out f5 (b := gr) (Or.inl (Or.inr (Or.inr (Or.inl rfl))))).trans QK.out)
          have B5 := Lib.hid ((GK.out.keeps M4.out f5 (b := gx) (Or.inl (Or.inr (Or.inr (Or.inr rfl))))).trans BK.out)
          have U5 : Hid (∀ q, m.push = some q → ¬ (q.1 = gl ∨ q.1 = m.g ∨ q.1 = gr ∨ q.1 = gx) ∧ Blk w5 q.1 259 (q.2.cells gl th)) := Lib.hid (fun q e => ⟨(UK.out q e).1, (GK.out.keeps M4.out f5 (b := q.1) (Or.inr ⟨q, e, rfl⟩)).trans (UK.out q e).2⟩)
          clear r5 f5 HMU p0 p1 p2 p3 p4 p5
          go_wp2_with fail
          go_meet
          exact ⟨m, r, _, G5.out, L5.out, ⟨rfl, RG.out⟩, P5.out, Q5.out, B5.out, U5.out, RK.out, FN.out, CN.out⟩
        · -- a step
          have hU := fun a => GK.out.mem.peekU a
          have hoff := GK.out.off
          have hAt : At11 (fun q => rfoot g R rv q ∨ (q = gl ∨ q = m.g ∨ q = gr ∨ q = gx)) W0 wr gm gl dv pv th pla slt m sk := ⟨GK.out.mem.reQ (fun q hq => by
              rcases hq with (e | e) | e
              · exact Or.inl e
              · exact Or.inr (Or.inl e)
              · exact Or.inr (Or.inr e)), PK.out, fun q e => ⟨⟨fun hh => hh.elim (fun h2 => (hoff q.1 (Or.inr ⟨q, e, rfl⟩)).1 h2) (fun h2 => (UK.out q e).1 h2), (hoff q.1 (Or.inr ⟨q, e, rfl⟩)).2⟩, (UK.out q e).2⟩⟩
          have HS := Lib.hid (m11step_ok (L := l) (i := k) hAt (CK.out.calm (by omega)) (by omega) FK.out HOk.out HF21.out HF22.out HSl.out RK.out.wf HF2.out (by have := HL0.out; omega) LK.out (Or.inr (Or.inr (Or.inl rfl))) (Or.inr (Or.inl rfl)) HNe.out.1.1 (hoff m.g (Or.inl (Or.inr (Or.inl rfl)))).2)
          have FN := Lib.hid (fun gn => M11.S_fine (gn := gn) (F := layF t s l b) (t := th) (place := pla) (slot := slt) (m := m) FK.out (by omega))
          have CN := Lib.hid (fun gn => M11.S_calm (gn := gn) (L := l) (F := layF t s l b) (t := th) (place := pla) (slot := slt) HF2.out HL0.out.1 hU RK.out.wf CK.out)
          have HRe := Lib.hid (fun gn => Rel11.step (gn := gn) (t := th) HF2.out HL0.out.1 hU CK.out RK.out)
          have HRr := Lib.hid (r11S_rng (F := layF t s l b) (tn := th) hU RG.out.1 RG.out.2)
          have HWf := Lib.hid (RK.out.r11wf HSl.out RG.out.1 RG.out.2)
          have HU := Lib.hid hU
          have c0 : wr.cell? ⟨gx, 0, none⟩ = some (.pointer m.p0) := BK.out.cell 0
          have c1 : wr.cell? ⟨gx, 1, none⟩ = some (.pointer m.p1) := BK.out.cell 1
          have c2 : wr.cell? ⟨gx, 2, none⟩ = some (.pointer m.p2) := BK.out.cell 2
          have c3 : wr.cell? ⟨gx, 3, none⟩ = some (.pointer m.p3) := BK.out.cell 3
          have HPt := Lib.hid (fun gn => M11.S_ps (layF t s l b) th pla slt m sk gn)
          have HGg := Lib.hid (fun gn => M11.S_g (layF t s l b) th pla slt m sk gn)
          clear hU hAt p1 p2 p3 p4 p5 HQ HFit hoff
          go_wp2_with fail
          refine HS.out.mono ?_
          rintro e w4 ⟨gn, rfl, a4, k4⟩
          have hoff := GK.out.off
          have hgp : ∀ q, rfoot g R rv q → q ≠ m.g := fun q hq e => (hoff m.g (Or.inl (Or.inr (Or.inl rfl)))).1 (e ▸ hq)
          have R4 := GK.out.ref.heldQ (fun q hq => k4 q (Or.inl hq) (hgp q hq))
          have L4 : Blk w4 gl 173 (cellsF (layF t s l b)) := (k4 gl (Or.inr (Or.inl rfl)) HNe.out.1.1).trans LK.out
          have Q4 : Blk w4 gr 55 (r.cells t s l b th) := (k4 gr (Or.inr (Or.inr (Or.inr (Or.inl rfl)))) (fun e => HNe.out.2.1 e.symm)).trans QK.out
          have X4 : Blk w4 gx 41 [.pointer m.p0, .pointer m.p1, .pointer m.p2, .pointer m.p3] := (k4 gx (Or.inr (Or.inr (Or.inr (Or.inr rfl)))) (fun e => HNe.out.2.2.1 e.symm)).trans BK.out
          have HRm := Lib.hid (mach11_ok (L := l) (i := k) (tn := th) R4 GK.out.sound (CK.out.calm (by omega)) (by omega) FK.out HC.out HOk.out (hoff gr (Or.inl (Or.inr (Or.inr (Or.inl rfl))))).1 (by have := HL0.out; omega) HWf.out (Sub.at0 Q4) HU.out)
          have A4 := Lib.hid a4
          have LL4 := Lib.hid L4
          have XX4 := Lib.hid X4
          clear a4 k4 R4 L4 Q4 X4 HS p0 c0 c1 c2 c3
          go_wp2_with fail
          refine HRm.out.mono ?_
          rintro e w5 ⟨⟨u', rfl⟩, rg⟩
          have rr := rg.ref
          rw [(HRe.out gn).1] at rr
          have m5 := A4.out.mem.turn rg.fr (fun q hq => by
            rcases hq with e | e
            · exact Or.inl (Or.inl e)
            · exact Or.inl (Or.inr (Or.inr (Or.inr (Or.inl e))))) (fun q hq => by
            rcases hq with e | e
            · exact (GK.out.ref.foot_lt e).1
            · rw [e]; exact (hoff gr (Or.inl (Or.inr (Or.inr (Or.inl rfl))))).2)
          have hpush := A4.out.push
          have G5 : Hid (Gr (fun q => (q = gl ∨ q = m.g ∨ q = gr ∨ q = gx) ∨ M11.ownB (m.S (layF t s l b) th pla slt sk gn).1 q) W0 w5 gm dv pv g R rv (m.S (layF t s l b) th pla slt sk gn).2) := Lib.hid ⟨m5.reQ (fun q hq => by
              rcases hq with e | (e | e)
              · exact Or.inl (Or.inl e)
              · exact Or.inl (Or.inr e)
              · exact Or.inr e), rr, fun q hq => by
              rcases hq with e | ⟨p, e, rfl⟩
              · exact hoff q (Or.inl e)
              · exact ⟨fun h2 => (hpush p e).1.1 (Or.inl h2), (hpush p e).1.2⟩⟩
          have L5 := Lib.hid (LL4.out.fr rg.fr (fun hq => by
            rcases hq with e | e
            · exact (hoff gl (Or.inl (Or.inl rfl))).1 e
            · exact HNe.out.1.2.1 e))
          have P5 := Lib.hid (A4.out.blk.fr rg.fr (fun hq => by
            rw [HGg.out gn] at hq
            rcases hq with e | e
            · exact (hoff m.g (Or.inl (Or.inr (Or.inl rfl)))).1 e
            · exact HNe.out.2.1 e))
          have X5 := Lib.hid (XX4.out.fr rg.fr (fun hq => by
            rcases hq with e | e
            · exact (hoff gx (Or.inl (Or.inr (Or.inr (Or.inr rfl))))).1 e
            · exact HNe.out.2.2.2 e.symm))
          have U5 : Hid (∀ q, (m.S (layF t s l b) th pla slt sk gn).1.push = some q → ¬ (q.1 = gl ∨ q.1 = m.g ∨ q.1 = gr ∨ q.1 = gx) ∧ Blk w5 q.1 259 (q.2.cells gl th)) := Lib.hid (fun q e => ⟨fun h2 => (hpush q e).1.1 (Or.inr h2), (hpush q e).2.fr rg.fr (fun hq => by
            rcases hq with e2 | e2
            · exact (hpush q e).1.1 (Or.inl e2)
            · exact (hpush q e).1.1 (Or.inr (Or.inr (Or.inr (Or.inl e2)))))⟩)
          have Q5 := Lib.hid rg.blk.blk0
          have c6 : w5.cell? ⟨gr, 6, none⟩ = some (.int .i64 (r11S (layF t s l b) th r sk).1.line) := Q5.out.cell 6
          have hlb := (HRe.out gn).2.lineB
          have RE := Lib.hid (HRe.out gn).2
          have FE := Lib.hid (FN.out gn)
          have CE := Lib.hid (CN.out gn)
          have XN : Hid (Blk w5 gx 41 [.pointer (m.S (layF t s l b) th pla slt sk gn).1.p0, .pointer (m.S (layF t s l b) th pla slt sk gn).1.p1, .pointer (m.S (layF t s l b) th pla slt sk gn).1.p2, .pointer (m.S (layF t s l b) th pla slt sk gn).1.p3]) := Lib.hid (by
            have h3 := HPt.out gn
            rw [h3.1, h3.2.1, h3.2.2.1, h3.2.2.2]
            exact X5.out)
          have P6 : Hid (Blk w5 m.g (m.S (layF t s l b) th pla slt sk gn).1.ty ((m.S (layF t s l b) th pla slt sk gn).1.cells gl th pla slt)) := Lib.hid (by
            have h3 := P5.out
            rw [HGg.out gn] at h3
            exact h3)
          have GG := Lib.hid (HGg.out gn)
          clear rg rr m5 HRm hoff hgp A4 LL4 XX4 X5 P5 HRe FN CN HPt HGg hpush
          generalize m.S (layF t s l b) th pla slt sk gn = X at *
          generalize r11S (layF t s l b) th r sk = Z at *
          obtain ⟨m', s'⟩ := X
          obtain ⟨r', s''⟩ := Z
          obtain ⟨dn', hdn⟩ : ∃ dn', m'.dn = dn' := ⟨_, rfl⟩
          obtain ⟨ln, hln⟩ : ∃ ln, r'.line = ln := ⟨_, rfl⟩
          simp only at c6 hlb
          rw [hln] at c6 hlb
          rw [hdn] at hlb
          have dbb : (dn' != dn') = false := by cases dn' <;> rfl
          simp only
          rw [hdn]
          clear hdn hln
          have hdl : decide (ln = 0) = dn' := by rw [← hlb]; rfl
          go_wp2_with fail
          go_meet
          exact ⟨m', r', s', G5.out, L5.out, ⟨GG.out, HRr.out.1, HRr.out.2⟩, P6.out, Q5.out, XN.out, U5.out, RE.out, FE.out, CE.out⟩
      case rest =>
        obtain ⟨m', r', sk', gr1, bl, ⟨hmg, hrs⟩, bp, bq, bx, hpu, rel, fi, ca⟩ := hcut
        generalize wc = w6 at *
        have HSm : Hid (∀ W, Ext w6 W → Calls Tryz.prog 14 #[.pointer (some ⟨gm, 0, none⟩), .pointer (some ⟨g, 0, none⟩)] W fun e w' => e = .returned (.bool true) ∧ Ext W w') := Lib.hid (fun W x => same7_ok (gr1.ext x).mem (gr1.ext x).ref (gr1.ext x).sound)
        have HSa := Lib.hid (fun W (x : Ext w6 W) => m11same_ok (F := layF t s l b) (by rw [hmg]; exact bp.ext x) (bl.ext x) HF2.out (bq.ext x) rel)
        have k0 : w6.cell? ⟨gx, 0, none⟩ = some (.pointer m'.p0) := bx.cell 0
        have k1 : w6.cell? ⟨gx, 1, none⟩ = some (.pointer m'.p1) := bx.cell 1
        have k2 : w6.cell? ⟨gx, 2, none⟩ = some (.pointer m'.p2) := bx.cell 2
        have k3 : w6.cell? ⟨gx, 3, none⟩ = some (.pointer m'.p3) := bx.cell 3
        have HK4 : Hid (∀ W, Ext w6 W → W.cell? ⟨gx, 0, none⟩ = some (.pointer m'.p0) ∧ W.cell? ⟨gx, 1, none⟩ = some (.pointer m'.p1) ∧ W.cell? ⟨gx, 2, none⟩ = some (.pointer m'.p2) ∧ W.cell? ⟨gx, 3, none⟩ = some (.pointer m'.p3)) := Lib.hid (fun W x => ⟨(bx.ext x).cell 0, (bx.ext x).cell 1, (bx.ext x).cell 2, (bx.ext x).cell 3⟩)
        have G6 := Lib.hid gr1
        have L6 := Lib.hid bl
        have N6 := Lib.hid (And.intro hmg hrs)
        have P6 := Lib.hid bp
        have Q6 := Lib.hid bq
        have X6 := Lib.hid bx
        have U6 := Lib.hid hpu
        have R6 := Lib.hid rel
        have F6 := Lib.hid fi
        have C6 := Lib.hid ca
        clear gr1 bl hmg hrs bp bq bx hpu rel fi ca GK LK PK QK BK UK RK RG FK CK HQ HFit k0 k1 k2 k3
        go_wp2_with fail
        refine (HSm.out _ (Ext.refl _)).mono ?_
        rintro e w7 ⟨rfl, x7⟩
        have X7 := Lib.hid x7
        obtain ⟨k0, k1, k2, k3⟩ := HK4.out w7 x7
        clear x7
        go_wp2_with fail
        refine (HSa.out _ X7.out).mono ?_
        rintro e w8 ⟨rfl, x8⟩
        have XF := Lib.hid (X7.out.trans x8)
        clear x8 k0 k1 k2 k3
        have G7 := Lib.hid (G6.out.ext XF.out)
        have L7 := Lib.hid (L6.out.ext XF.out)
        have P7 := Lib.hid (P6.out.ext XF.out)
        have Q7 := Lib.hid (Q6.out.ext XF.out)
        have X8 := Lib.hid (X6.out.ext XF.out)
        have U7 : Hid (∀ q, m'.push = some q → ¬ (q.1 = gl ∨ q.1 = m.g ∨ q.1 = gr ∨ q.1 = gx) ∧ Blk w8 q.1 259 (q.2.cells gl th)) := Lib.hid (fun q e => ⟨(U6.out q e).1, (U6.out q e).2.ext XF.out⟩)
        clear G6 L6 P6 Q6 X6 U6
        go_wp2_with fail
        go_roundw
        case rel => exact ⟨k + 1, m', r', sk', by omega, by go_num, G7.out, L7.out, N6.out, P7.out, Q7.out, X8.out, U7.out, R6.out, F6.out, by rw [show (100 : Int) + ((k + 1 : Nat) : Int) = 100 + (k : Int) + 1 by omega]; exact C6.out⟩
        case measure => simp [intOf]; omega
    · have v1 : decide (k < pn) = false := by simp; omega
      go_wp2_with fail
      refine (HAw.out _).mono ?_
      rintro e w4 ⟨rfl, x4⟩
      have X4 := Lib.hid (XK.out.trans x4)
      clear x4
      go_wp2_with fail
      go_ret
      exact ⟨rfl, X4.out⟩
set_option maxRecDepth 100000 in
set_option maxHeartbeats 4000000 in
theorem retireSteps_long (w : World) (A : Option Addr) (n c : Nat) (t s l b : Nat) (ys : List Put) (kd th pla slt : Int) (PA : Option Addr) (pn pc : Nat) (hg : GrOk t s l b) (hy : ys.length = n) (hn : n ≤ 100) (hY : PutsAt w A ys) (hpn : 60 < pn) (hp2 : pn ≤ 9223372036854775807) :
    Calls Tryz.prog 3 #[.agg #[.int .i64 t, .int .i64 s, .int .i64 l, .int .i64 b, .slice A n c], .agg #[.int .i64 kd, .int .i64 th, .int .i64 pla, .int .i64 slt], .slice PA pn pc] w fun e w' => e = .returned (.bool true) ∧ Ext w w' := by
  have X0 := Lib.hid (((Ext.refl w).alloc (.cells #[.int .i64 t, .int .i64 s, .int .i64 l, .int .i64 b, .slice A n c] 26)).alloc (.cells #[.int .i64 kd, .int .i64 th, .int .i64 pla, .int .i64 slt] 28))
  have B0 := Lib.hid ((Blk.new w 26 [.int .i64 t, .int .i64 s, .int .i64 l, .int .i64 b, .slice A n c]).ext ((Ext.refl (w.alloc (.cells #[.int .i64 t, .int .i64 s, .int .i64 l, .int .i64 b, .slice A n c] 26))).alloc (.cells #[.int .i64 kd, .int .i64 th, .int .i64 pla, .int .i64 slt] 28)))
  have HL := Lib.hid (lay_ok ((w.alloc (.cells #[.int .i64 t, .int .i64 s, .int .i64 l, .int .i64 b, .slice A n c] 26)).alloc (.cells #[.int .i64 kd, .int .i64 th, .int .i64 pla, .int .i64 slt] 28)) A n c t s l b ys hg hy hn (hY.ext X0.out))
  have d60 : decide (60 < pn) = true := by simp; omega
  have d60' : decide ((60 : Int) < (pn : Int)) = true := by simp; omega
  clear hg hY
  go_enter Tryz.func3, Tryz.ntmps3
  go_upto_region 1 with fail
  generalize ((w.alloc (.cells #[.int .i64 t, .int .i64 s, .int .i64 l, .int .i64 b, .slice A n c] 26)).alloc (.cells #[.int .i64 kd, .int .i64 th, .int .i64 pla, .int .i64 slt] 28)) = W0 at *
  have y0 : W0.cell? ⟨w.heap.size, 0, none⟩ = some (.int .i64 t) := B0.out.cell 0
  have y1 : W0.cell? ⟨w.heap.size, 1, none⟩ = some (.int .i64 s) := B0.out.cell 1
  have y2 : W0.cell? ⟨w.heap.size, 2, none⟩ = some (.int .i64 l) := B0.out.cell 2
  have y3 : W0.cell? ⟨w.heap.size, 3, none⟩ = some (.int .i64 b) := B0.out.cell 3
  have y4 : W0.cell? ⟨w.heap.size, 4, none⟩ = some (.slice A n c) := B0.out.cell 4
  go_wp2_with fail
  refine HL.out.mono ?_
  rintro e w1 ⟨gl, gm, dv, pv, g, R, rv, rfl, bl, gr⟩
  have X1 := Lib.hid (X0.out.trans gr.mem.lt.1)
  clear bl gr y0 y1 y2 y3 y4
  go_wp2_with fail
  refine (awake11_ok _).mono ?_
  rintro e w2 ⟨rfl, x2⟩
  have X2 := Lib.hid (X1.out.trans x2)
  clear x2
  go_wp2_with fail
  go_ret
  exact ⟨rfl, X2.out⟩
set_option maxRecDepth 100000 in
set_option maxHeartbeats 4000000 in
theorem retireSteps_no (w : World) (A : Option Addr) (n c : Nat) (t s l b kd th pla slt : Int) (PA : Option Addr) (pn pc : Nat) (h : ¬ GrOk t s l b ∨ 100 < n) (hn : n ≤ 9223372036854775807) :
    Calls Tryz.prog 3 #[.agg #[.int .i64 t, .int .i64 s, .int .i64 l, .int .i64 b, .slice A n c], .agg #[.int .i64 kd, .int .i64 th, .int .i64 pla, .int .i64 slt], .slice PA pn pc] w fun e w' => e = .returned (.bool true) ∧ Ext w w' := by
  have X0 := Lib.hid (((Ext.refl w).alloc (.cells #[.int .i64 t, .int .i64 s, .int .i64 l, .int .i64 b, .slice A n c] 26)).alloc (.cells #[.int .i64 kd, .int .i64 th, .int .i64 pla, .int .i64 slt] 28))
  have HL := Lib.hid (fun W => lay_no W A n c t s l b h hn)
  unfold NoGr at HL
  clear h
  go_enter Tryz.func3, Tryz.ntmps3
  go_wp2_with fail
  refine (HL.out _).mono ?_
  rintro e w1 ⟨rfl, x1⟩
  have X1 := Lib.hid (X0.out.trans x1)
  clear x1
  go_wp2_with fail
  refine (awake11_ok _).mono ?_
  rintro e w2 ⟨rfl, x2⟩
  have X2 := Lib.hid (X1.out.trans x2)
  clear x2
  go_wp2_with fail
  go_ret
  exact ⟨rfl, X2.out⟩
theorem retireSteps_walk (w : World) (A : Option Addr) (n c : Nat) (t s l b kd th pla slt : Int) (ys : List Put) (PA : Option Addr) (pn pc : Nat) (pk : List Pk7) (hy : ys.length = n) (hn : n ≤ 9223372036854775807) (hY : PutsAt w A ys) (hp : pk.length = pn) (hpn : pn ≤ 9223372036854775807) (hP : Pokes w PA pk) (hsl : I64 slt) :
    Calls Tryz.prog 3 #[.agg #[.int .i64 t, .int .i64 s, .int .i64 l, .int .i64 b, .slice A n c], .agg #[.int .i64 kd, .int .i64 th, .int .i64 pla, .int .i64 slt], .slice PA pn pc] w fun e w' => e = .returned (.bool true) ∧ Ext w w' := by
  by_cases h : GrOk t s l b ∧ n ≤ 100
  · obtain ⟨hg, hn1⟩ := h
    obtain ⟨⟨q0, q1⟩, ⟨q2, q3⟩, ⟨q4, q5⟩, q6, q7⟩ := id hg.1
    obtain ⟨t', rfl⟩ := Int.eq_ofNat_of_zero_le (show 0 ≤ t by omega)
    obtain ⟨s', rfl⟩ := Int.eq_ofNat_of_zero_le (show 0 ≤ s by omega)
    obtain ⟨l', rfl⟩ := Int.eq_ofNat_of_zero_le (show 0 ≤ l by omega)
    obtain ⟨b', rfl⟩ := Int.eq_ofNat_of_zero_le (show 0 ≤ b by omega)
    by_cases h60 : pn ≤ 60
    · exact retireSteps_yes w A n c t' s' l' b' ys kd th pla slt PA pn pc pk hg hy hn1 hY hp h60 hP hsl
    · exact retireSteps_long w A n c t' s' l' b' ys kd th pla slt PA pn pc hg hy hn1 hY (by omega) hpn
  · exact retireSteps_no w A n c t s l b kd th pla slt PA pn pc (by
      by_cases hg : GrOk t s l b
      · exact Or.inr (by
          have : ¬ n ≤ 100 := fun h2 => h ⟨hg, h2⟩
          omega)
      · exact Or.inl hg) hn

namespace retireSteps
set_option maxRecDepth 100000 in
theorem lifted (os : Os) (started : os.Started) (H : Type) (enc : TypeId × Value → H) :
    ReturnsInHanded {} Tryz.checked os 3 .any (Rows.retireStepsSpec.pre6 enc Tryz.prog Tryz.f3 Rows.retireStepsRow.domain false) (Rows.retireStepsSpec.post enc Tryz.prog Tryz.f3 false true false false) := by
  refine returnsInHanded_of_change (C := Tryz.checked) own started (by kernel_rfl) Tryz.func3
    (ChangeSpec.witness6 (enc := enc) (C := Tryz.checked) false ⟨#[], #[.agg #[.int .i64 0, .int .i64 0, .int .i64 0, .int .i64 0, .slice none 0 0], .agg #[.int .i64 0, .int .i64 0, .int .i64 0, .int .i64 0], .slice none 0 0], []⟩ 8 (by kernel_rfl) (by kernel_rfl) (by kernel_rfl) (by kernel_rfl)) ?_
  intro W base args ds gs before hval0 hW hcnd _
  have hval : ∀ (j : Nat) t v, Tryz.f3.params[j]? = some t → args[j]? = some v → Value.okWide Tryz.prog W .any base t v := hval0
  have hW' := hW
  obtain ⟨p, q, hA0, hV, rfl, hfz, hnd⟩ := hW
  have hA : DataW.TrodAll enc Tryz.prog W 0 (fun _ => true) true Tryz.f3.params.toList args.toList ds p := hA0
  have hlt : ∀ x ∈ p ++ q, x.block < W.heap.size := fun x hx => hW'.lt x hx
  rw [Tryz.params3] at hA hval
  have hB := hA
  obtain ⟨v0, vs0, d0, ds0, p0, q0, hargs, rfl, rfl, h0, r0⟩ := trodAll_cons hB
  obtain ⟨v1, vs1, d1, ds1, p1, q1, rfl, rfl, rfl, h1, r1⟩ := trodAll_cons r0
  obtain ⟨v2, vs2, d2, ds2, p2, q2, rfl, rfl, rfl, h2, r2⟩ := trodAll_cons r1
  obtain ⟨rfl, rfl, rfl⟩ := trodAll_nil r2
  obtain rfl : args = #[v0, v1, v2] := by cases args; simp_all
  obtain ⟨rfl, rfl⟩ := trodVars_none hV
  obtain ⟨g0t, g0s, g0l, g0b, A0, c0, y0, rfl, lc0, mc0, I0⟩ := view_ground Tryz.underlying26 (by kernel_rfl) rfl (by kernel_rfl) rfl (by kernel_rfl) Tryz.underlying23 (by kernel_rfl) Tryz.underlying3 Tryz.underlying3 Tryz.underlying3 Tryz.underlying3 Tryz.underlying24 Tryz.underlying114 (by kernel_rfl) (by kernel_rfl) Tryz.underlying3 Tryz.underlying45 (hval 0 26 v0 rfl rfl) h0
  obtain ⟨x1a, x1b, x1c, x1d, rfl, ok1⟩ := view_who11 Tryz.underlying28 (by kernel_rfl) (by kernel_rfl) Tryz.underlying3 Tryz.underlying3 Tryz.underlying3 Tryz.underlying3 (hval 1 28 v1 rfl rfl) h1
  obtain ⟨A2, n2, c2, y2, rfl, lc2, mc2, zl2, I2⟩ := view_pokes Tryz.underlying29 Tryz.underlying49 (by kernel_rfl) rfl (by kernel_rfl) Tryz.underlying4 rfl (by kernel_rfl) Tryz.underlying47 (by kernel_rfl) Tryz.underlying3 Tryz.underlying3 Tryz.underlying3 Tryz.underlying45 Tryz.underlying45 (hval 2 29 v2 rfl rfl) h2
  clear hA0 hval0
  refine (retireSteps_walk W A0 _ c0 g0t g0s g0l g0b x1a x1b x1c x1d y0 A2 n2 c2 y2 rfl (Nat.le_trans lc0 mc0) I0 zl2 (Nat.le_trans lc2 mc2) I2 (wf_i64 ok1.2.2.2)).mono fun e W' ⟨he, hx⟩ => ?_
  subst he
  exact ⟨_, rfl, post_ext (pv := []) hW' (fun _ _ _ => (trodAll_cons_mk (shut_bool Tryz.underlying4 _) trodAll_mk0)) (fun sp hsp => trodAll_stays laid hx _ _ _ _ (readable_of (by kernel_rfl)) hA (fun x hx => hlt x (by first | (simp at hx ⊢; exact hx) | simp at hx)) (fun x hx => hsp x (by first | (simp at hx ⊢; exact hx) | simp at hx))) (fun _ _ => rfl) rfl hx (ok_one (by kernel_rfl) rfl (okWide_bool_mk Tryz.underlying4 _))⟩

theorem over : Rows.retireStepsRow.holds Tryz.pinned (OpenSpec.ofChange Rows.retireStepsSpec) :=
  OpenClaim.holds_of_wide 3 Tryz.f3 rfl rfl rfl rfl rfl rfl rfl ⟨rfl, rfl, rfl, rfl, rfl⟩ rfl rfl rfl rfl rfl (by kernel_rfl) Tryz.func3 (by kernel_rfl)
    (of_decide_eq_true (by kernel_rfl)) (by unfold Func.isWrapper; first | (rw [if_pos (by decide +kernel)]; kernel_rfl) | (rw [if_neg (by decide +kernel)]; exact ⟨rfl, rfl⟩))
    (fun os started H enc _ => lifted os started H enc)
end retireSteps

theorem retireSteps_holds : Rows.RetireStepsSaid := retireSteps.over
end Go.Proofs.YtbicloceaddinaaGreat

