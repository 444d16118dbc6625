/- Each step of a Set, over any memory, whatever others do between, is the document's: the law answers true for every ground, thread, place, words and acts, and changes nothing. Conditions: none. -/
import Derived.Test.YtndplpfbohigpaaGreatKLk
import Derived.Deep.RegionHeld3
import Derived.Lib.QuietBelow
import Derived.Deep.DeepCutAuto
import Derived.Test.YtndplpfbohigpaaGreatKView
import Derived.Test.YtndplpfbohigpaaGreatArgs
import Derived.Test.YtndplpfbohigpaaGreatLinkSetsFacts
namespace Go.Proofs.YtndplpfbohigpaaGreat
open Go.ChangeShapes Go.WideShapes Go.ChangeAt Go.RowKit
set_option linter.unusedVariables false

set_option maxRecDepth 100000 in
set_option maxHeartbeats 16000000 in
theorem linkSets_yes (w : World) (A : Option Addr) (n c : Nat) (t s l b : Nat) (ys : List Put) (th sl od wn : Int) (hsl : I64 sl) (hod : W64 od) (hwn : W64 wn) (PA : Option Addr) (pn pc : Nat) (pk : List Pk7) (hg : GrOk t s l b) (hy : ys.length = n) (hn : n ≤ 100) (hY : PutsAt w A ys) (hp : pk.length = pn) (hpn : pn ≤ 60) (hP : Pokes w PA pk) :
    Calls Tryz.prog 11 #[.agg #[.int .i64 t, .int .i64 s, .int .i64 l, .int .i64 b, .slice A n c], .agg #[.int .i64 th, .int .i64 sl, .int .u64 od, .int .u64 wn], .slice PA pn pc] w fun e w' => e = .returned (.bool true) ∧ Ext w w' := by
  have X0 := Lib.hid (((Ext.refl w).alloc (.cells #[.int .i64 t, .int .i64 s, .int .i64 l, .int .i64 b, .slice A n c] 26)).alloc (.cells #[.int .i64 th, .int .i64 sl, .int .u64 od, .int .u64 wn] 122))
  have B0 := Lib.hid ((Blk.new w 26 [.int .i64 t, .int .i64 s, .int .i64 l, .int .i64 b, .slice A n c]).ext ((Ext.refl (w.alloc (.cells #[.int .i64 t, .int .i64 s, .int .i64 l, .int .i64 b, .slice A n c] 26))).alloc (.cells #[.int .i64 th, .int .i64 sl, .int .u64 od, .int .u64 wn] 122)))
  have U0 : Hid (Blk ((w.alloc (.cells #[.int .i64 t, .int .i64 s, .int .i64 l, .int .i64 b, .slice A n c] 26)).alloc (.cells #[.int .i64 th, .int .i64 sl, .int .u64 od, .int .u64 wn] 122)) (w.heap.size + 1) 122 [.int .i64 th, .int .i64 sl, .int .u64 od, .int .u64 wn]) := Lib.hid (by have := Blk.new (w.alloc (.cells #[.int .i64 t, .int .i64 s, .int .i64 l, .int .i64 b, .slice A n c] 26)) 122 [.int .i64 th, .int .i64 sl, .int .u64 od, .int .u64 wn]; simp only [World.size_alloc] at this; exact this)
  have HL := Lib.hid (lay_ok ((w.alloc (.cells #[.int .i64 t, .int .i64 s, .int .i64 l, .int .i64 b, .slice A n c] 26)).alloc (.cells #[.int .i64 th, .int .i64 sl, .int .u64 od, .int .u64 wn] 122)) A n c t s l b ys hg hy hn (hY.ext X0.out))
  have HPk := Lib.hid hP
  have HPl := Lib.hid hp
  have HFi := Lib.hid (ground_fine t s l b ys)
  have HCa := Lib.hid (ground_calm t s l b ys (by omega))
  have HAw := Lib.hid (fun W => awake13_ok W)
  have HNw := Lib.hid (fun W => newSet_ok W th sl od wn hod hwn)
  have HRn := Lib.hid (fun W => rnewSet_ok W th sl od wn hod hwn)
  have HSl := Lib.hid hsl
  have d60 : decide (60 < pn) = false := by simp; omega
  have d60' : decide ((60 : Int) < (pn : Int)) = false := by simp; omega
  clear hY hg hP hp hsl
  go_enter Tryz.func11, Tryz.ntmps11
  go_upto_region 1 with fail
  generalize ((w.alloc (.cells #[.int .i64 t, .int .i64 s, .int .i64 l, .int .i64 b, .slice A n c] 26)).alloc (.cells #[.int .i64 th, .int .i64 sl, .int .u64 od, .int .u64 wn] 122)) = W0 at *
  have y0 : W0.cell? ⟨w.heap.size, 0, none⟩ = some (.int .i64 t) := B0.out.cell 0
  have y1 : W0.cell? ⟨w.heap.size, 1, none⟩ = some (.int .i64 s) := B0.out.cell 1
  have y2 : W0.cell? ⟨w.heap.size, 2, none⟩ = some (.int .i64 l) := B0.out.cell 2
  have y3 : W0.cell? ⟨w.heap.size, 3, none⟩ = some (.int .i64 b) := B0.out.cell 3
  have y4 : W0.cell? ⟨w.heap.size, 4, none⟩ = some (.slice A n c) := B0.out.cell 4
  have u0 : W0.cell? ⟨w.heap.size + 1, 0, none⟩ = some (.int .i64 th) := U0.out.cell 0
  have u1 : W0.cell? ⟨w.heap.size + 1, 1, none⟩ = some (.int .i64 sl) := U0.out.cell 1
  have u2 : W0.cell? ⟨w.heap.size + 1, 2, none⟩ = some (.int .u64 od) := U0.out.cell 2
  have u3 : W0.cell? ⟨w.heap.size + 1, 3, none⟩ = some (.int .u64 wn) := U0.out.cell 3
  go_wp2_with fail
  refine HL.out.mono ?_
  rintro e w1 ⟨gl, gm, dv, pv, g, R, rv, rfl, bl, gr⟩
  have GR := Lib.hid gr
  have U1 := Lib.hid (U0.out.ext gr.mem.lt.1)
  have HU : Hid (∀ W, Ext w1 W → W.cell? ⟨w.heap.size + 1, 0, none⟩ = some (.int .i64 th) ∧ W.cell? ⟨w.heap.size + 1, 1, none⟩ = some (.int .i64 sl) ∧ W.cell? ⟨w.heap.size + 1, 2, none⟩ = some (.int .u64 od) ∧ W.cell? ⟨w.heap.size + 1, 3, none⟩ = some (.int .u64 wn)) := Lib.hid (fun W x => ⟨(U1.out.ext x).cell 0, (U1.out.ext x).cell 1, (U1.out.ext x).cell 2, (U1.out.ext x).cell 3⟩)
  generalize groundSt t s l b ys = s0 at *
  clear bl gr y0 y1 y2 y3 y4 u0 u1 u2 u3 HL B0 U0
  obtain ⟨u0, u1, u2, u3⟩ := HU.out w1 (Ext.refl _)
  go_upto_region 4 with fail
  go_cut [11, 12] (fun s11 s12 wx => ∃ gp gq : Nat, s11 = .pointer (some ⟨gp, 0, none⟩) ∧ s12 = .pointer (some ⟨gq, 0, none⟩) ∧ gp ≠ gq ∧ w1.heap.size ≤ gp ∧ w1.heap.size ≤ gq ∧ Blk wx gp 242 ((⟨0, 0, false, false, 0⟩ : LsM).cells th sl (soN wn) (clN od)) ∧ Blk wx gq 128 ((⟨1, false, -1, 0⟩ : RLs).cells th sl (clN od) (clN wn)) ∧ Ext w1 wx)
  case first =>
    have XT := Lib.hid ((Ext.refl w1).drew)
    go_region_held3 (fun W => W.cell? ⟨w.heap.size + 1, 0, none⟩ = some (.int .i64 th) ∧ W.cell? ⟨w.heap.size + 1, 1, none⟩ = some (.int .i64 sl) ∧ W.cell? ⟨w.heap.size + 1, 2, none⟩ = some (.int .u64 od) ∧ W.cell? ⟨w.heap.size + 1, 3, none⟩ = some (.int .u64 wn)) (first | exact HU.out _ XT.out | go_keep) (first
      | (go_at_call 76; refine (HNw.out _).mono ?_; rintro e wa ⟨gp, rfl, la, ba, ya⟩; have LA := Lib.hid (Nat.le_trans XT.out.size la); (try (have HNe := Lib.hid (show gp ≠ gq from fun e => absurd BQ.out.lt (by omega)))); replace XT := Lib.hid (XT.out.trans ya); have BP := Lib.hid ba; (try (replace BQ := Lib.hid (BQ.out.ext ya))); clear la ba ya)
      | (go_at_call 77; refine (HRn.out _).mono ?_; rintro e wb ⟨gq, rfl, lb, bb, yb⟩; have LB := Lib.hid (Nat.le_trans XT.out.size lb); (try (have HNe := Lib.hid (show gp ≠ gq from fun e => absurd BP.out.lt (by omega)))); replace XT := Lib.hid (XT.out.trans yb); have BQ := Lib.hid bb; (try (replace BP := Lib.hid (BP.out.ext yb))); clear lb bb yb))
    all_goals
      go_wp2_with fail
      go_meet
      exact ⟨gp, gq, rfl, rfl, HNe.out, LA.out, LB.out, BP.out, BQ.out, XT.out⟩
  case rest =>
    obtain ⟨gp, gq, rfl, rfl, hne, lp, lq, bp, bq, xr⟩ := hcut
    have G3 : Hid (Gr (fun q => q = gp ∨ q = gq) W0 wc gm dv pv g R rv s0) := Lib.hid (GR.out.owns xr (fun q hq => by
      rcases hq with e | e
      · rw [e]; exact ⟨bp.lt, Or.inr lp⟩
      · rw [e]; exact ⟨bq.lt, Or.inr lq⟩))
    have HNe := Lib.hid hne
    have BP3 := Lib.hid bp
    have BQ3 := Lib.hid bq
    clear bp bq xr lp lq hne u0 u1 u2 u3 HU U1 GR HNw HRn d60 d60'
    generalize wc = w3 at *
    go_wp2_with fail
    go_loopw [13] (fun i wr => ∃ (k : Nat) (x : LsM) (r : RLs) (sk : MSt), k ≤ pn ∧ i = .int .i64 k ∧ Gr (fun q => q = gp ∨ q = gq) W0 wr gm dv pv g R rv sk ∧ Blk wr gp 242 (x.cells th sl (soN wn) (clN od)) ∧ Blk wr gq 128 (r.cells th sl (clN od) (clN wn)) ∧ RelS x r ∧ Fine k sk.dev ∧ CalmN (100 + (k : Int)) sk) (fun i _ => pn - (intOf i).toNat)
    case atStart => exact ⟨0, (⟨0, 0, false, false, 0⟩ : LsM), (⟨1, false, -1, 0⟩ : RLs), s0, Nat.zero_le _, rfl, G3.out, BP3.out, BQ3.out, RelS.zero, HFi.out, by simpa using HCa.out⟩
    case round =>
      obtain ⟨k, x, r, sk, hk, rfl, gr, bp, bq, rel, fi, ca⟩ := hrel
      have GK := Lib.hid gr
      have PK := Lib.hid bp
      have QK := Lib.hid bq
      have RK := Lib.hid rel
      have FK := Lib.hid fi
      have CK := Lib.hid ca
      have XK := Lib.hid (X0.out.trans gr.mem.lt.1)
      clear gr bp bq rel fi ca G3 BP3 BQ3
      by_cases hlt : k < pn
      · have v1 : decide (k < pn) = true := by simp; omega
        obtain ⟨ad, hAd, _, hcc⟩ := (HPk.out.ext XK.out) (by have := HPl.out; omega)
        obtain ⟨⟨p0, ⟨p1, p2, p3, p4, p5⟩⟩, hfit⟩ := hcc k (by have := HPl.out; omega)
        have HQ : Hid (∀ W, Ext w W → Pk7.at (pk.getD k noPk7) W (ad.add (k * 6))) := Lib.hid (fun W x => by
          obtain ⟨ad', hA1', _, hac'⟩ := HPk.out.ext x (by have := HPl.out; omega)
          have : ad = ad' := by rw [hAd] at hA1'; injection hA1'
          subst this
          exact (hac' k (by have := HPl.out; omega)).1)
        have HFit := Lib.hid hfit
        clear hcc hfit
        generalize hz5 : pk.getD k noPk7 = z at *
        clear hz5
        subst hAd
        obtain ⟨bb, ac⟩ := z
        go_upto_if 58 with fail
        go_cut [14] (fun _ wx => ∃ (x' : LsM) (r' : RLs) (sk' : MSt), Gr (fun q => q = gp ∨ q = gq) W0 wx gm dv pv g R rv sk' ∧ Blk wx gp 242 (x'.cells th sl (soN wn) (clN od)) ∧ Blk wx gq 128 (r'.cells th sl (clN od) (clN wn)) ∧ RelS x' r' ∧ Fine (k + 1) sk'.dev ∧ CalmN (100 + (k : Int) + 1) sk')
        case first =>
          cases bb
          · have HD := Lib.hid (do7_ok GK.out.mem (i := k) (by omega) FK.out (CK.out.calm (by omega)) ac.k ac.t ac.a ac.z ac.x HFit.out.1 HFit.out.2.1 HFit.out.2.2)
            have FN := Lib.hid (act_fine FK.out (by omega) ac.k ac.t ac.a ac.z ac.x)
            have CN := Lib.hid (act_calm CK.out ac.k ac.t ac.a ac.z ac.x)
            go_wp2_with fail
            refine HD.out.mono ?_
            rintro e w4 ⟨⟨u, rfl⟩, m4⟩
            have M4 := Lib.hid m4
            have R4 := Lib.hid (GK.out.refMid m4)
            have HMU := Lib.hid (must7_ok R4.out GK.out.sound (i := k) (by omega) FK.out (CK.out.calm (by omega)) ac.k ac.t ac.a ac.z ac.x HFit.out.1 HFit.out.2.1)
            clear m4 HD p0 p1 p2 p3 p4 p5
            obtain ⟨p0, p1, p2, p3, p4, p5⟩ := HQ.out w4 (X0.out.trans M4.out.lt.1)
            go_wp2_with fail
            refine HMU.out.mono ?_
            rintro e w5 ⟨⟨u', rfl⟩, r5, f5⟩
            have G5 := Lib.hid (GK.out.both M4.out r5 f5)
            have P5 := Lib.hid ((GK.out.keeps M4.out f5 (b := gp) (Or.inl rfl)).trans PK.out)
            have Q5 := Lib.hid ((GK.out.keeps M4.out f5 (b := gq) (Or.inr rfl)).trans QK.out)
            clear r5 f5 HMU p0 p1 p2 p3 p4 p5
            go_wp2_with fail
            go_meet
            exact ⟨x, r, _, G5.out, P5.out, Q5.out, RK.out, FN.out, CN.out⟩
          · have hU := fun a => GK.out.mem.peekU a
            have HS := Lib.hid (lsStep_ok (i := k) (old := clN od) GK.out.mem (CK.out.calm (by omega)) (by omega) FK.out HSl.out RK.out.part (soN_rng wn) PK.out (Or.inr (Or.inl rfl)) (GK.out.off gp (Or.inl rfl)).2)
            obtain ⟨hst, hrel⟩ := RK.out.step (t := th) (a := sl) (w := wn) (o := od) (s := sk)
            have HSt := Lib.hid hst
            have HRe := Lib.hid hrel
            have FN := Lib.hid (lsS_fine (t := th) (a := sl) (wd := soN wn) (old := clN od) (x := x) FK.out (by omega))
            have CN := Lib.hid (lsS_calm (t := th) (a := sl) (wd := soN wn) (old := clN od) (x := x) CK.out)
            have HU := Lib.hid hU
            clear hst hrel hU p1 p2 p3 p4 p5 HQ HFit
            go_wp2_with fail
            refine HS.out.mono ?_
            rintro e w4 ⟨rfl, m4, b4, k4⟩
            have hoff := GK.out.off
            have hgp : ∀ q, rfoot g R rv q → q ≠ gp := fun q hq e => (hoff gp (Or.inl rfl)).1 (e ▸ hq)
            have R4 := GK.out.ref.heldQ (fun q hq => k4 q (Or.inl hq) (hgp q hq))
            have Q4 := (k4 gq (Or.inr (Or.inr rfl)) (fun e => HNe.out e.symm)).trans QK.out
            have HRp := Lib.hid (rlsStep_ok (i := k) R4 GK.out.sound (CK.out.calm (by omega)) (by omega) FK.out HSl.out Q4 (hoff gq (Or.inr rfl)).1 RK.out.lineOk (clN_rng wn))
            have M4 := Lib.hid m4
            have B4 := Lib.hid b4
            clear m4 b4 k4 R4 Q4 HS p0
            go_wp2_with fail
            refine HRp.out.mono ?_
            rintro e w5 ⟨⟨u', rfl⟩, rg⟩
            have rr := rg.ref
            rw [HSt.out] at rr
            have m5 : IsMem (fun q => rfoot g R rv q ∨ q = gp ∨ q = gq) w5 W0 w5 gm dv pv (lsS th sl (soN wn) (clN od) x sk).2 := M4.out.turn rg.fr (fun q hq => by
              rcases hq with e | e
              · exact Or.inl e
              · exact Or.inr (Or.inr e)) (fun q hq => by
              rcases hq with e | e
              · exact (GK.out.ref.foot_lt e).1
              · rw [e]; exact (hoff gq (Or.inr rfl)).2)
            have G5 : Hid (Gr (fun q => q = gp ∨ q = gq) W0 w5 gm dv pv g R rv (lsS th sl (soN wn) (clN od) x sk).2) := Lib.hid ⟨m5, rr, hoff⟩
            have P5 := Lib.hid (B4.out.fr rg.fr (fun hq => by
              rcases hq with e | e
              · exact (hoff gp (Or.inl rfl)).1 e
              · exact HNe.out e))
            have Q5 := Lib.hid rg.blk
            have c2 : w5.cell? ⟨gq, 2, none⟩ = some (.int .i64 (rlsS th sl (clN od) (clN wn) r sk).1.line) := rg.blk.cell 2
            have hlb := HRe.out.lineB
            clear rg rr m5 HRp hoff hgp M4 B4 HSt
            generalize (lsS th sl (soN wn) (clN od) x sk) = X at *
            generalize (rlsS th sl (clN od) (clN wn) r sk) = Z at *
            obtain ⟨x', s'⟩ := X
            obtain ⟨r', s''⟩ := Z
            obtain ⟨dn', hdn⟩ : ∃ dn', x'.dn = dn' := ⟨_, rfl⟩
            obtain ⟨ln, hln⟩ : ∃ ln, r'.line = ln := ⟨_, rfl⟩
            simp only at c2 hlb
            rw [hln] at c2 hlb
            rw [hdn] at hlb
            have dbb : (dn' != dn') = false := by cases dn' <;> rfl
            simp only
            rw [hdn]
            clear hdn hln
            have hdl : decide (ln = 0) = dn' := by rw [← hlb]; rfl
            go_wp2_with fail
            go_meet
            exact ⟨x', r', s', G5.out, P5.out, Q5.out, HRe.out, FN.out, CN.out⟩
        case rest =>
          obtain ⟨x', r', sk', gr, bp, bq, rel, fi, ca⟩ := hcut
          generalize wc = w6 at *
          have HSm : Hid (∀ W, Ext w6 W → Calls Tryz.prog 25 #[.pointer (some ⟨gm, 0, none⟩), .pointer (some ⟨g, 0, none⟩)] W fun e w' => e = .returned (.bool true) ∧ Ext W w') := Lib.hid (fun W x => same7_ok (gr.ext x).mem (gr.ext x).ref (gr.ext x).sound)
          obtain ⟨dn, hdn⟩ : ∃ dn, x'.dn = dn := ⟨_, rfl⟩
          obtain ⟨ln, hln⟩ : ∃ ln, r'.line = ln := ⟨_, rfl⟩
          have hlb := rel.lineB
          rw [hln, hdn] at hlb
          obtain ⟨pu, hpu⟩ : ∃ pu, r'.put = pu := ⟨_, rfl⟩
          obtain ⟨we, hwe⟩ : ∃ we, r'.wh = we := ⟨_, rfl⟩
          obtain ⟨wi, hwi⟩ : ∃ wi, r'.wr = wi := ⟨_, rfl⟩
          have h1 := rel.put
          have h2 := rel.wh
          have h3 := rel.wr
          rw [hpu] at h1
          rw [hwe, ← h1] at h2
          rw [hwi] at h3
          have dpp : (pu != pu) = false := by cases pu <;> rfl
          have dee : (we != we) = false := by simp
          have dii : (wi != wi) = false := by simp
          have HDo : Hid (∀ W, Ext w6 W → Calls Tryz.prog 80 #[.pointer (some ⟨gp, 0, none⟩)] W fun e w' => e = .returned (.bool dn) ∧ Ext W w') := Lib.hid (fun W x => (lsDone_ok W gp dn (by have := (bp.ext x).cell 5; rw [← hdn]; exact this)).mono (by rintro e w' ⟨rfl, rfl⟩; exact ⟨rfl, Ext.refl _⟩))
          have HPu : Hid (∀ W, Ext w6 W → Calls Tryz.prog 81 #[.pointer (some ⟨gp, 0, none⟩)] W fun e w' => e = .returned (.bool pu) ∧ Ext W w') := Lib.hid (fun W x => (lsPut_ok W gp pu (by have := (bp.ext x).cell 7; rw [h1]; exact this)).mono (by rintro e w' ⟨rfl, rfl⟩; exact ⟨rfl, Ext.refl _⟩))
          have e5 : w6.cell? ⟨gq, 5, none⟩ = some (.bool pu) := by rw [← hpu]; exact bq.cell 5
          have z5 := fun d os => cell_regrown e5 d os
          have HWh : Hid (∀ W, Ext w6 W → Calls Tryz.prog 82 #[.pointer (some ⟨gp, 0, none⟩)] W fun e w' => e = .returned (.int .i64 we) ∧ Ext W w') := Lib.hid (fun W x => (lsWhen_ok W gp x'.wh pu ((bp.ext x).cell 4) (by have := (bp.ext x).cell 7; rw [h1]; exact this)).mono (by rintro e w' ⟨rfl, rfl⟩; exact ⟨by rw [h2], Ext.refl _⟩))
          have e6 : w6.cell? ⟨gq, 6, none⟩ = some (.int .i64 we) := by rw [← hwe]; exact bq.cell 6
          have z6 := fun d os => cell_regrown e6 d os
          have HWr : Hid (∀ W, Ext w6 W → Calls Tryz.prog 83 #[.pointer (some ⟨gp, 0, none⟩)] W fun e w' => e = .returned (.int .i64 wi) ∧ Ext W w') := Lib.hid (fun W x => (lsWrites_ok W gp wi (by have := (bp.ext x).cell 8; rw [h3]; exact this)).mono (by rintro e w' ⟨rfl, rfl⟩; exact ⟨rfl, Ext.refl _⟩))
          have e7 : w6.cell? ⟨gq, 7, none⟩ = some (.int .i64 wi) := by rw [← hwi]; exact bq.cell 7
          have z7 := fun d os => cell_regrown e7 d os
          have e2 : w6.cell? ⟨gq, 2, none⟩ = some (.int .i64 ln) := by rw [← hln]; exact bq.cell 2
          have z2 := fun d os => cell_regrown e2 d os
          have G6 := Lib.hid gr
          have P6 := Lib.hid bp
          have Q6 := Lib.hid bq
          have R6 := Lib.hid rel
          have F6 := Lib.hid fi
          have C6 := Lib.hid ca
          have dbb : (dn != dn) = false := by cases dn <;> rfl
          have hdl : decide (ln = 0) = dn := by rw [← hlb]; rfl
          clear gr bp bq rel fi ca hdn hln GK PK QK RK FK CK HQ HFit hpu hwe hwi h1 h2 h3
          go_wp2_with fail
          refine wp_region_quiet_below (by kernel_rfl) (by kernel_rfl) ?_
          repeat (quiet_step (first
            | (with_reducible exact Calls.regrown_of (HSm.out _ (grown_extF _ _ _)))
            | (with_reducible exact Calls.regrown_of (HDo.out _ (grown_extF _ _ _)))
            | (with_reducible exact Calls.regrown_of (HPu.out _ (grown_extF _ _ _)))
            | (with_reducible exact Calls.regrown_of (HWh.out _ (grown_extF _ _ _)))
            | (with_reducible exact Calls.regrown_of (HWr.out _ (grown_extF _ _ _)))))
          refine wpQuiet_nil ?_
          intro wf hwf
          have XF : Ext w6 wf := by
            obtain ⟨⟨dq, osq⟩, hw2⟩ := hwf
            rw [hw2]
            exact grown_extF _ _ _
          have G7 := Lib.hid (G6.out.ext XF)
          have P7 := Lib.hid (P6.out.ext XF)
          have Q7 := Lib.hid (Q6.out.ext XF)
          clear hwf z2 e2 XF G6 P6 Q6 e5 z5 e6 z6 e7 z7
          go_wp2_with fail
          go_roundw
          case rel => exact ⟨k + 1, x', r', sk', by omega, by go_num, G7.out, P7.out, Q7.out, R6.out, F6.out, by rw [show (100 : Int) + ((k + 1 : Nat) : Int) = 100 + (k : Int) + 1 by omega]; exact C6.out⟩
          case measure => simp [intOf]; omega
      · have v1 : decide (k < pn) = false := by simp; omega
        go_wp2_with fail
        refine (HAw.out _).mono ?_
        rintro e w4 ⟨rfl, x4⟩
        have X4 := Lib.hid (XK.out.trans x4)
        clear x4
        go_wp2_with fail
        go_ret
        exact ⟨rfl, X4.out⟩
set_option maxRecDepth 100000 in
set_option maxHeartbeats 4000000 in
theorem linkSets_long (w : World) (A : Option Addr) (n c : Nat) (t s l b : Nat) (ys : List Put) (th sl od wn : Int) (PA : Option Addr) (pn pc : Nat) (hg : GrOk t s l b) (hy : ys.length = n) (hn : n ≤ 100) (hY : PutsAt w A ys) (hpn : 60 < pn) (hp2 : pn ≤ 9223372036854775807) :
    Calls Tryz.prog 11 #[.agg #[.int .i64 t, .int .i64 s, .int .i64 l, .int .i64 b, .slice A n c], .agg #[.int .i64 th, .int .i64 sl, .int .u64 od, .int .u64 wn], .slice PA pn pc] w fun e w' => e = .returned (.bool true) ∧ Ext w w' := by
  have X0 := Lib.hid (((Ext.refl w).alloc (.cells #[.int .i64 t, .int .i64 s, .int .i64 l, .int .i64 b, .slice A n c] 26)).alloc (.cells #[.int .i64 th, .int .i64 sl, .int .u64 od, .int .u64 wn] 122))
  have B0 := Lib.hid ((Blk.new w 26 [.int .i64 t, .int .i64 s, .int .i64 l, .int .i64 b, .slice A n c]).ext ((Ext.refl (w.alloc (.cells #[.int .i64 t, .int .i64 s, .int .i64 l, .int .i64 b, .slice A n c] 26))).alloc (.cells #[.int .i64 th, .int .i64 sl, .int .u64 od, .int .u64 wn] 122)))
  have U0 : Hid (Blk ((w.alloc (.cells #[.int .i64 t, .int .i64 s, .int .i64 l, .int .i64 b, .slice A n c] 26)).alloc (.cells #[.int .i64 th, .int .i64 sl, .int .u64 od, .int .u64 wn] 122)) (w.heap.size + 1) 122 [.int .i64 th, .int .i64 sl, .int .u64 od, .int .u64 wn]) := Lib.hid (by have := Blk.new (w.alloc (.cells #[.int .i64 t, .int .i64 s, .int .i64 l, .int .i64 b, .slice A n c] 26)) 122 [.int .i64 th, .int .i64 sl, .int .u64 od, .int .u64 wn]; simp only [World.size_alloc] at this; exact this)
  have HL := Lib.hid (lay_ok ((w.alloc (.cells #[.int .i64 t, .int .i64 s, .int .i64 l, .int .i64 b, .slice A n c] 26)).alloc (.cells #[.int .i64 th, .int .i64 sl, .int .u64 od, .int .u64 wn] 122)) A n c t s l b ys hg hy hn (hY.ext X0.out))
  have d60 : decide (60 < pn) = true := by simp; omega
  have d60' : decide ((60 : Int) < (pn : Int)) = true := by simp; omega
  clear hg hY
  go_enter Tryz.func11, Tryz.ntmps11
  go_upto_region 1 with fail
  generalize ((w.alloc (.cells #[.int .i64 t, .int .i64 s, .int .i64 l, .int .i64 b, .slice A n c] 26)).alloc (.cells #[.int .i64 th, .int .i64 sl, .int .u64 od, .int .u64 wn] 122)) = W0 at *
  have y0 : W0.cell? ⟨w.heap.size, 0, none⟩ = some (.int .i64 t) := B0.out.cell 0
  have y1 : W0.cell? ⟨w.heap.size, 1, none⟩ = some (.int .i64 s) := B0.out.cell 1
  have y2 : W0.cell? ⟨w.heap.size, 2, none⟩ = some (.int .i64 l) := B0.out.cell 2
  have y3 : W0.cell? ⟨w.heap.size, 3, none⟩ = some (.int .i64 b) := B0.out.cell 3
  have y4 : W0.cell? ⟨w.heap.size, 4, none⟩ = some (.slice A n c) := B0.out.cell 4
  have u0 : W0.cell? ⟨w.heap.size + 1, 0, none⟩ = some (.int .i64 th) := U0.out.cell 0
  have u1 : W0.cell? ⟨w.heap.size + 1, 1, none⟩ = some (.int .i64 sl) := U0.out.cell 1
  have u2 : W0.cell? ⟨w.heap.size + 1, 2, none⟩ = some (.int .u64 od) := U0.out.cell 2
  have u3 : W0.cell? ⟨w.heap.size + 1, 3, none⟩ = some (.int .u64 wn) := U0.out.cell 3
  go_wp2_with fail
  refine HL.out.mono ?_
  rintro e w1 ⟨gl, gm, dv, pv, g, R, rv, rfl, bl, gr⟩
  have X1 := Lib.hid (X0.out.trans gr.mem.lt.1)
  clear bl gr y0 y1 y2 y3 y4 u0 u1 u2 u3
  go_wp2_with fail
  refine (awake13_ok _).mono ?_
  rintro e w2 ⟨rfl, x2⟩
  have X2 := Lib.hid (X1.out.trans x2)
  clear x2
  go_wp2_with fail
  go_ret
  exact ⟨rfl, X2.out⟩
set_option maxRecDepth 100000 in
set_option maxHeartbeats 4000000 in
theorem linkSets_no (w : World) (A : Option Addr) (n c : Nat) (t s l b th sl od wn : Int) (PA : Option Addr) (pn pc : Nat) (h : ¬ GrOk t s l b ∨ 100 < n) (hn : n ≤ 9223372036854775807) :
    Calls Tryz.prog 11 #[.agg #[.int .i64 t, .int .i64 s, .int .i64 l, .int .i64 b, .slice A n c], .agg #[.int .i64 th, .int .i64 sl, .int .u64 od, .int .u64 wn], .slice PA pn pc] w fun e w' => e = .returned (.bool true) ∧ Ext w w' := by
  have X0 := Lib.hid (((Ext.refl w).alloc (.cells #[.int .i64 t, .int .i64 s, .int .i64 l, .int .i64 b, .slice A n c] 26)).alloc (.cells #[.int .i64 th, .int .i64 sl, .int .u64 od, .int .u64 wn] 122))
  have HL := Lib.hid (fun W => lay_no W A n c t s l b h hn)
  unfold NoGr at HL
  clear h
  go_enter Tryz.func11, Tryz.ntmps11
  go_wp2_with fail
  refine (HL.out _).mono ?_
  rintro e w1 ⟨rfl, x1⟩
  have X1 := Lib.hid (X0.out.trans x1)
  clear x1
  go_wp2_with fail
  refine (awake13_ok _).mono ?_
  rintro e w2 ⟨rfl, x2⟩
  have X2 := Lib.hid (X1.out.trans x2)
  clear x2
  go_wp2_with fail
  go_ret
  exact ⟨rfl, X2.out⟩
theorem linkSets_walk (w : World) (A : Option Addr) (n c : Nat) (t s l b th sl od wn : Int) (hsl : I64 sl) (hod : W64 od) (hwn : W64 wn) (ys : List Put) (PA : Option Addr) (pn pc : Nat) (pk : List Pk7) (hy : ys.length = n) (hn : n ≤ 9223372036854775807) (hY : PutsAt w A ys) (hp : pk.length = pn) (hpn : pn ≤ 9223372036854775807) (hP : Pokes w PA pk) :
    Calls Tryz.prog 11 #[.agg #[.int .i64 t, .int .i64 s, .int .i64 l, .int .i64 b, .slice A n c], .agg #[.int .i64 th, .int .i64 sl, .int .u64 od, .int .u64 wn], .slice PA pn pc] w fun e w' => e = .returned (.bool true) ∧ Ext w w' := by
  by_cases h : GrOk t s l b ∧ n ≤ 100
  · obtain ⟨hg, hn1⟩ := h
    obtain ⟨⟨q0, q1⟩, ⟨q2, q3⟩, ⟨q4, q5⟩, q6, q7⟩ := id hg.1
    obtain ⟨t', rfl⟩ := Int.eq_ofNat_of_zero_le (show 0 ≤ t by omega)
    obtain ⟨s', rfl⟩ := Int.eq_ofNat_of_zero_le (show 0 ≤ s by omega)
    obtain ⟨l', rfl⟩ := Int.eq_ofNat_of_zero_le (show 0 ≤ l by omega)
    obtain ⟨b', rfl⟩ := Int.eq_ofNat_of_zero_le (show 0 ≤ b by omega)
    by_cases h60 : pn ≤ 60
    · exact linkSets_yes w A n c t' s' l' b' ys th sl od wn hsl hod hwn PA pn pc pk hg hy hn1 hY hp h60 hP
    · exact linkSets_long w A n c t' s' l' b' ys th sl od wn PA pn pc hg hy hn1 hY (by omega) hpn
  · exact linkSets_no w A n c t s l b th sl od wn PA pn pc (by
      by_cases hg : GrOk t s l b
      · exact Or.inr (by
          have : ¬ n ≤ 100 := fun h2 => h ⟨hg, h2⟩
          omega)
      · exact Or.inl hg) hn

namespace linkSets
set_option maxRecDepth 100000 in
theorem lifted (os : Os) (started : os.Started) (H : Type) (enc : TypeId × Value → H) :
    ReturnsInHanded {} Tryz.checked os 11 .any (Rows.linkSetsSpec.pre6 enc Tryz.prog Tryz.f11 Rows.linkSetsRow.domain false) (Rows.linkSetsSpec.post enc Tryz.prog Tryz.f11 false true false false) := by
  refine returnsInHanded_of_change (C := Tryz.checked) own started (by kernel_rfl) Tryz.func11
    (ChangeSpec.witness6 (enc := enc) (C := Tryz.checked) false ⟨#[], #[.agg #[.int .i64 0, .int .i64 0, .int .i64 0, .int .i64 0, .slice none 0 0], .agg #[.int .i64 0, .int .i64 0, .int .u64 0, .int .u64 0], .slice none 0 0], []⟩ 8 (by kernel_rfl) (by kernel_rfl) (by kernel_rfl) (by kernel_rfl)) ?_
  intro W base args ds gs before hval0 hW hcnd _
  have hval : ∀ (j : Nat) t v, Tryz.f11.params[j]? = some t → args[j]? = some v → Value.okWide Tryz.prog W .any base t v := hval0
  have hW' := hW
  obtain ⟨p, q, hA0, hV, rfl, hfz, hnd⟩ := hW
  have hA : DataW.TrodAll enc Tryz.prog W 0 (fun _ => true) true Tryz.f11.params.toList args.toList ds p := hA0
  have hlt : ∀ x ∈ p ++ q, x.block < W.heap.size := fun x hx => hW'.lt x hx
  rw [Tryz.params11] at hA hval
  have hB := hA
  obtain ⟨v0, vs0, d0, ds0, p0, q0, hargs, rfl, rfl, h0, r0⟩ := trodAll_cons hB
  obtain ⟨v1, vs1, d1, ds1, p1, q1, rfl, rfl, rfl, h1, r1⟩ := trodAll_cons r0
  obtain ⟨v2, vs2, d2, ds2, p2, q2, rfl, rfl, rfl, h2, r2⟩ := trodAll_cons r1
  obtain ⟨rfl, rfl, rfl⟩ := trodAll_nil r2
  obtain rfl : args = #[v0, v1, v2] := by cases args; simp_all
  obtain ⟨rfl, rfl⟩ := trodVars_none hV
  obtain ⟨g0t, g0s, g0l, g0b, A0, c0, y0, rfl, lc0, mc0, I0⟩ := view_ground Tryz.underlying26 (by kernel_rfl) rfl (by kernel_rfl) rfl (by kernel_rfl) Tryz.underlying23 (by kernel_rfl) Tryz.underlying3 Tryz.underlying3 Tryz.underlying3 Tryz.underlying3 Tryz.underlying24 Tryz.underlying65 (by kernel_rfl) (by kernel_rfl) Tryz.underlying3 Tryz.underlying45 (hval 0 26 v0 rfl rfl) h0
  obtain ⟨x1a, x1b, x1c, x1d, rfl, ok1⟩ := view_put13 Tryz.underlying122 (by kernel_rfl) (by kernel_rfl) Tryz.underlying3 Tryz.underlying3 Tryz.underlying45 Tryz.underlying45 (hval 1 122 v1 rfl rfl) h1
  obtain ⟨A2, n2, c2, y2, rfl, lc2, mc2, zl2, I2⟩ := view_pokes Tryz.underlying29 Tryz.underlying49 (by kernel_rfl) rfl (by kernel_rfl) Tryz.underlying4 rfl (by kernel_rfl) Tryz.underlying47 (by kernel_rfl) Tryz.underlying3 Tryz.underlying3 Tryz.underlying3 Tryz.underlying45 Tryz.underlying45 (hval 2 29 v2 rfl rfl) h2
  clear hA0 hval0
  refine (linkSets_walk W A0 _ c0 g0t g0s g0l g0b x1a x1b x1c x1d (wf_i64 ok1.2.1) (wf_u64 ok1.2.2.1) (wf_u64 ok1.2.2.2) y0 A2 n2 c2 y2 rfl (Nat.le_trans lc0 mc0) I0 zl2 (Nat.le_trans lc2 mc2) I2).mono fun e W' ⟨he, hx⟩ => ?_
  subst he
  exact ⟨_, rfl, post_ext (pv := []) hW' (fun _ _ _ => (trodAll_cons_mk (shut_bool Tryz.underlying4 _) trodAll_mk0)) (fun sp hsp => trodAll_stays laid hx _ _ _ _ (readable_of (by kernel_rfl)) hA (fun x hx => hlt x (by first | (simp at hx ⊢; exact hx) | simp at hx)) (fun x hx => hsp x (by first | (simp at hx ⊢; exact hx) | simp at hx))) (fun _ _ => rfl) rfl hx (ok_one (by kernel_rfl) rfl (okWide_bool_mk Tryz.underlying4 _))⟩

theorem over : Rows.linkSetsRow.holds Tryz.pinned (OpenSpec.ofChange Rows.linkSetsSpec) :=
  OpenClaim.holds_of_wide 11 Tryz.f11 rfl rfl rfl rfl rfl rfl rfl ⟨rfl, rfl, rfl, rfl, rfl⟩ rfl rfl rfl rfl rfl (by kernel_rfl) Tryz.func11 linkSets_closed
    (of_decide_eq_true (by kernel_rfl)) (by unfold Func.isWrapper; first | (rw [if_pos (by decide +kernel)]; kernel_rfl) | (rw [if_neg (by decide +kernel)]; exact ⟨rfl, rfl⟩))
    (fun os started H enc _ => lifted os started H enc)
end linkSets

theorem linkSets_holds : Rows.LinkSetsSaid := linkSets.over
#print axioms linkSets_holds
end Go.Proofs.YtndplpfbohigpaaGreat
