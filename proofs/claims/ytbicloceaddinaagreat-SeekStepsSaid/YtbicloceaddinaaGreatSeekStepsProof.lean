/- Each step of a Seek, over any memory, whatever others do between, is the document's, and so is what it has found: the law answers true for every ground, thread, head, key and acts, and changes nothing. Conditions: none. -/
import Derived.Test.YtbicloceaddinaaGreatSk13
import Derived.Deep.RegionHeld3
import Derived.Lib.QuietBelow
import Derived.Deep.DeepCutAuto
import Derived.Test.YtbicloceaddinaaGreatSk14
import Derived.Test.YtbicloceaddinaaGreatKPk
import Derived.Test.YtbicloceaddinaaGreatKFreeB
import Derived.Test.YtbicloceaddinaaGreatKView
import Derived.Test.YtbicloceaddinaaGreatArgs
namespace Go.Proofs.YtbicloceaddinaaGreat
open Go.ChangeShapes Go.WideShapes Go.ChangeAt Go.RowKit
set_option linter.unusedVariables false
section
variable {H : Type} {enc : TypeId × Value → H} {P : Program}
def Who14Ok (x0 x1 x2 : Int) : Prop := (Lit.int .i64 x0).wf = true ∧ (Lit.int .i64 x1).wf = true ∧ (Lit.int .u32 x2).wf = true
open Go.Deep in
theorem trod_who14 {W : World} {b : Nat} {sp : Nat → Bool} {held : Bool} {ty : TypeId} {f0 f1 f2 : Field} {fuel : Nat} {cs : List Value} {d : DataW H × List MemPlace} (ht : P.underlying ty = some (.struct #[f0, f1, f2])) (hone : oneCellFields P #[f0, f1, f2] = true) (hC : P.cellsOf ty = 3)
    (u0 : P.underlying f0.type = some (.int .i64)) (u1 : P.underlying f1.type = some (.int .i64)) (u2 : P.underlying f2.type = some (.int .u32))
    (h : DataW.trod enc P W b sp held fuel ty cs = some d) : ∃ x0 x1 x2 : Int, cs = [.int .i64 x0, .int .i64 x1, .int .u32 x2] ∧ Who14Ok x0 x1 x2 := by
  obtain ⟨ws, n, _, _, hl, hlen, hf⟩ := DataW.trod_struct ht h
  rw [hC] at hl
  obtain ⟨o0, k0⟩ := hone_of hone 0 f0 rfl
  obtain ⟨o1, k1⟩ := hone_of hone 1 f1 rfl
  obtain ⟨o2, k2⟩ := hone_of hone 2 f2 rfl
  match cs, hl, ws, hlen with
  | [c0, c1, c2], _, [y0, y1, y2], _ =>
    have h0 := hf 0 f0 rfl
    have h1 := hf 1 f1 rfl
    have h2 := hf 2 f2 rfl
    simp [o0, k0] at h0
    simp [o1, k1] at h1
    simp [o2, k2] at h2
    obtain ⟨x0, e0, _, w0⟩ := DataW.trod_int u0 h0
    obtain ⟨x1, e1, _, w1⟩ := DataW.trod_int u1 h1
    obtain ⟨x2, e2, _, w2⟩ := DataW.trod_int u2 h2
    injection e0 with e0
    injection e1 with e1
    injection e2 with e2
    exact ⟨x0, x1, x2, by rw [e0, e1, e2], w0, w1, w2⟩
open Go.Deep in
theorem view_who14 {W : World} {ty : TypeId} {f0 f1 f2 : Field} {v : Value} {d : DataW H} {p : List MemPlace} (ht : P.underlying ty = some (.struct #[f0, f1, f2])) (hone : oneCellFields P #[f0, f1, f2] = true) (hC : P.cellsOf ty = 3)
    (u0 : P.underlying f0.type = some (.int .i64)) (u1 : P.underlying f1.type = some (.int .i64)) (u2 : P.underlying f2.type = some (.int .u32))
    {base : Nat} (hv : Value.okWide P W .any base ty v) (h : DataW.Trod enc P W 0 (fun _ => true) true ty v d p) : ∃ x0 x1 x2 : Int, v = .agg #[.int .i64 x0, .int .i64 x1, .int .u32 x2] ∧ Who14Ok x0 x1 x2 := by
  obtain ⟨cs, rfl, hsz⟩ := okWide_struct ht hv
  obtain ⟨f, hf⟩ := h
  obtain ⟨x0, x1, x2, e, ok⟩ := trod_who14 ht hone hC u0 u1 u2 hf
  refine ⟨x0, x1, x2, ?_, ok⟩
  have e' : cs.toList = _ := e
  rw [← e']
end
theorem lay_n (t s l b : Nat) (ys : List Put) : (groundSt t s l b ys).dev.n = wN t s l b := (MOk.putAll (MOk.start t s l b) ys).n
set_option maxRecDepth 100000 in
set_option maxHeartbeats 16000000 in
theorem seekSteps_yes (w : World) (A : Option Addr) (n c : Nat) (t s l b : Nat) (ys : List Put) (th hd ky : Int) (hhd : I64 hd) (hky : 0 ≤ ky ∧ ky < 4294967296) (PA : Option Addr) (pn pc : Nat) (pk : List Pk7) (hg : GrOk t s l b) (hy : ys.length = n) (hn : n ≤ 100) (hY : PutsAt w A ys) (hp : pk.length = pn) (hpn : pn ≤ 120) (hP : Pokes w PA pk) :
    Calls Tryz.prog 5 #[.agg #[.int .i64 t, .int .i64 s, .int .i64 l, .int .i64 b, .slice A n c], .agg #[.int .i64 th, .int .i64 hd, .int .u32 ky], .slice PA pn pc] w fun e w' => e = .returned (.bool true) ∧ Ext w w' := by
  have X0 := Lib.hid (((Ext.refl w).alloc (.cells #[.int .i64 t, .int .i64 s, .int .i64 l, .int .i64 b, .slice A n c] 26)).alloc (.cells #[.int .i64 th, .int .i64 hd, .int .u32 ky] 75))
  have B0 := Lib.hid ((Blk.new w 26 [.int .i64 t, .int .i64 s, .int .i64 l, .int .i64 b, .slice A n c]).ext ((Ext.refl (w.alloc (.cells #[.int .i64 t, .int .i64 s, .int .i64 l, .int .i64 b, .slice A n c] 26))).alloc (.cells #[.int .i64 th, .int .i64 hd, .int .u32 ky] 75)))
  have U0 : Hid (Blk ((w.alloc (.cells #[.int .i64 t, .int .i64 s, .int .i64 l, .int .i64 b, .slice A n c] 26)).alloc (.cells #[.int .i64 th, .int .i64 hd, .int .u32 ky] 75)) (w.heap.size + 1) 75 [.int .i64 th, .int .i64 hd, .int .u32 ky]) := Lib.hid (by have := Blk.new (w.alloc (.cells #[.int .i64 t, .int .i64 s, .int .i64 l, .int .i64 b, .slice A n c] 26)) 75 [.int .i64 th, .int .i64 hd, .int .u32 ky]; simp only [World.size_alloc] at this; exact this)
  have HL := Lib.hid (lay_ok ((w.alloc (.cells #[.int .i64 t, .int .i64 s, .int .i64 l, .int .i64 b, .slice A n c] 26)).alloc (.cells #[.int .i64 th, .int .i64 hd, .int .u32 ky] 75)) A n c t s l b ys hg hy hn (hY.ext X0.out))
  have HPk := Lib.hid hP
  have HPl := Lib.hid hp
  have HFi := Lib.hid (ground_fine t s l b ys)
  have HCa := Lib.hid (ground_calm t s l b ys (by omega))
  have HAw := Lib.hid (fun W => awake14_ok W)
  obtain ⟨hc, h1, h2, h3, h4⟩ := id hg
  obtain ⟨⟨q0, q1⟩, ⟨q2, q3⟩, ⟨q4, q5⟩, q6, q7⟩ := id hc
  have HNn : Hid ((groundSt t s l b ys).dev.n ≤ 90) := Lib.hid (by rw [lay_n]; have := wN_le (t := t) (s := s) (l := l) (b := b) (by omega) (by omega) (by omega) (by omega); omega)
  have HC : Hid (CfgN t s l b) := Lib.hid ⟨by omega, by omega, by omega, by omega, by omega⟩
  have HOk := Lib.hid (okayF hc)
  have HHd := Lib.hid hhd
  have HKy := Lib.hid hky
  have d60 : decide (120 < pn) = false := by simp; omega
  have d60' : decide ((120 : Int) < (pn : Int)) = false := by simp; omega
  clear hY hg hc h1 h2 h3 h4 q0 q1 q2 q3 q4 q5 q6 q7 hP hp hhd hky
  go_enter Tryz.func5, Tryz.ntmps5
  go_upto_region 1 with fail
  generalize ((w.alloc (.cells #[.int .i64 t, .int .i64 s, .int .i64 l, .int .i64 b, .slice A n c] 26)).alloc (.cells #[.int .i64 th, .int .i64 hd, .int .u32 ky] 75)) = W0 at *
  have y0 : W0.cell? ⟨w.heap.size, 0, none⟩ = some (.int .i64 t) := B0.out.cell 0
  have y1 : W0.cell? ⟨w.heap.size, 1, none⟩ = some (.int .i64 s) := B0.out.cell 1
  have y2 : W0.cell? ⟨w.heap.size, 2, none⟩ = some (.int .i64 l) := B0.out.cell 2
  have y3 : W0.cell? ⟨w.heap.size, 3, none⟩ = some (.int .i64 b) := B0.out.cell 3
  have y4 : W0.cell? ⟨w.heap.size, 4, none⟩ = some (.slice A n c) := B0.out.cell 4
  have u0 : W0.cell? ⟨w.heap.size + 1, 0, none⟩ = some (.int .i64 th) := U0.out.cell 0
  have u1 : W0.cell? ⟨w.heap.size + 1, 1, none⟩ = some (.int .i64 hd) := U0.out.cell 1
  have u2 : W0.cell? ⟨w.heap.size + 1, 2, none⟩ = some (.int .u32 ky) := U0.out.cell 2
  go_wp2_with fail
  refine HL.out.mono ?_
  rintro e w1 ⟨gl, gm, dv, pv, g, R, rv, rfl, bl, gr⟩
  have BL := Lib.hid bl
  have GR := Lib.hid gr
  have B1 := Lib.hid (B0.out.ext gr.mem.lt.1)
  have U1 := Lib.hid (U0.out.ext gr.mem.lt.1)
  generalize groundSt t s l b ys = s0 at *
  clear bl gr y0 y1 y2 y3 y4 u0 u1 u2 HL B0 U0
  have y0 : w1.cell? ⟨w.heap.size, 0, none⟩ = some (.int .i64 t) := B1.out.cell 0
  have y1 : w1.cell? ⟨w.heap.size, 1, none⟩ = some (.int .i64 s) := B1.out.cell 1
  have y2 : w1.cell? ⟨w.heap.size, 2, none⟩ = some (.int .i64 l) := B1.out.cell 2
  have y3 : w1.cell? ⟨w.heap.size, 3, none⟩ = some (.int .i64 b) := B1.out.cell 3
  have y4 : w1.cell? ⟨w.heap.size, 4, none⟩ = some (.slice A n c) := B1.out.cell 4
  have u0 : w1.cell? ⟨w.heap.size + 1, 0, none⟩ = some (.int .i64 th) := U1.out.cell 0
  have u1 : w1.cell? ⟨w.heap.size + 1, 1, none⟩ = some (.int .i64 hd) := U1.out.cell 1
  have u2 : w1.cell? ⟨w.heap.size + 1, 2, none⟩ = some (.int .u32 ky) := U1.out.cell 2
  have HP : Hid (∀ W, Ext w1 W → (W.cell? ⟨w.heap.size, 0, none⟩ = some (.int .i64 t) ∧ W.cell? ⟨w.heap.size, 1, none⟩ = some (.int .i64 s) ∧ W.cell? ⟨w.heap.size, 2, none⟩ = some (.int .i64 l) ∧ W.cell? ⟨w.heap.size, 3, none⟩ = some (.int .i64 b)) ∧ W.cell? ⟨w.heap.size + 1, 0, none⟩ = some (.int .i64 th) ∧ W.cell? ⟨w.heap.size + 1, 1, none⟩ = some (.int .i64 hd) ∧ W.cell? ⟨w.heap.size + 1, 2, none⟩ = some (.int .u32 ky)) := Lib.hid (fun W x => ⟨⟨(B1.out.ext x).cell 0, (B1.out.ext x).cell 1, (B1.out.ext x).cell 2, (B1.out.ext x).cell 3⟩, (U1.out.ext x).cell 0, (U1.out.ext x).cell 1, (U1.out.ext x).cell 2⟩)
  have X := Lib.hid ((Ext.refl w1).drew)
  have HG1 := Lib.hid (fun W => newSeek_ok W gl th hd ky)
  have HG2 := Lib.hid (fun W => rnewSeek_ok W t s l b th hd ky)
  have HLt := Lib.hid BL.out.lt
  clear y4
  go_wp2_with fail
  go_region_held3 (fun W => (W.cell? ⟨w.heap.size, 0, none⟩ = some (.int .i64 t) ∧ W.cell? ⟨w.heap.size, 1, none⟩ = some (.int .i64 s) ∧ W.cell? ⟨w.heap.size, 2, none⟩ = some (.int .i64 l) ∧ W.cell? ⟨w.heap.size, 3, none⟩ = some (.int .i64 b)) ∧ W.cell? ⟨w.heap.size + 1, 0, none⟩ = some (.int .i64 th) ∧ W.cell? ⟨w.heap.size + 1, 1, none⟩ = some (.int .i64 hd) ∧ W.cell? ⟨w.heap.size + 1, 2, none⟩ = some (.int .u32 ky)) (first | exact HP.out _ X.out | go_keep) (first
    | (go_at_call 27; refine (HG1.out _).mono ?_; rintro e w2 ⟨gs, gn, rfl, lu, lt, bn, bs, x2⟩; have LU := Lib.hid (Nat.le_trans X.out.size lu); have LT := Lib.hid lt; have BN := Lib.hid bn; have BS := Lib.hid bs; replace X := Lib.hid (X.out.trans x2); clear lu lt bn bs x2)
    | (go_at_call 28; refine (HG2.out _).mono ?_; rintro e w3 ⟨gq, gm2, rfl, lq, lq2, br, bq, x3⟩; have XX2 := Lib.hid X.out; have LQ := Lib.hid lq; have LQ2 := Lib.hid lq2; have BR := Lib.hid br; have BQ := Lib.hid bq; have XX3 := Lib.hid x3; replace X := Lib.hid (X.out.trans x3); clear lq lq2 br bq x3))
  have lq := LQ.out
  have lq2 := LQ2.out
  have x3 := XX3.out
  have hgs2 : gs < w2.heap.size := BS.out.lt
  have hgn2 : gn < w2.heap.size := BN.out.lt
  have hgq3 : gq < w3.heap.size := BQ.out.lt
  have hgm3 : gm2 < w3.heap.size := BR.out.lt
  have hsz2 : w1.heap.size ≤ w2.heap.size := XX2.out.size
  have lu2 := LU.out
  have lt2 := LT.out
  have hlt1 := HLt.out
  have HNe : Hid (gl ≠ gs ∧ gl ≠ gq ∧ gs ≠ gq ∧ gn ≠ gq ∧ gn ≠ gs ∧ gn ≠ gl ∧ gm2 ≠ gs ∧ gm2 ≠ gl ∧ gm2 ≠ gn ∧ gm2 ≠ gq) := Lib.hid ⟨by omega, by omega, by omega, by omega, by omega, by omega, by omega, by omega, by omega, by omega⟩
  have XB := Lib.hid (XX2.out.trans x3)
  have G3 : Hid (Gr ((fun q => (q = gl ∨ q = gs ∨ q = gq) ∨ SkM.ownB ⟨1, some ⟨gn, 0, none⟩, none, 0, 0, 0, hd, 0, 0, false, some (gn, lr0), none⟩ q ∨ RSk.ownB ⟨1, hd, 0, 0, 0, 0, 0, some ⟨gm2, 0, none⟩, none, false, some (gm2, hd, rr0), none⟩ q)) W0 w3 gm dv pv g R rv s0) := Lib.hid (GR.out.owns XB.out (fun q hq => by
    have hs3 := XB.out.size
    have hs4 := x3.size
    rcases hq with (e | e | e) | (⟨p, e, hq⟩ | ⟨p, e, _⟩) | (⟨p, e, hq⟩ | ⟨p, e, _⟩)
    · rw [e]; exact ⟨by omega, Or.inl rfl⟩
    · rw [e]; exact ⟨by omega, Or.inr (by omega)⟩
    · rw [e]; exact ⟨by omega, Or.inr (by omega)⟩
    · injection e with e
      subst e
      rw [hq]; exact ⟨by simp only; omega, Or.inr (by simp only; omega)⟩
    · cases e
    · injection e with e
      subst e
      rw [hq]; exact ⟨by simp only; omega, Or.inr (by simp only; omega)⟩
    · cases e))
  have BQ3 := Lib.hid BQ.out
  have BL3 := Lib.hid (BL.out.ext XB.out)
  have T3 : Hid (SkAt (fun q => rfoot g R rv q ∨ (q = gl ∨ q = gs ∨ q = gq) ∨ RSk.ownB ⟨1, hd, 0, 0, 0, 0, 0, some ⟨gm2, 0, none⟩, none, false, some (gm2, hd, rr0), none⟩ q) W0 w3 gm gs gl dv pv th hd ky ⟨1, some ⟨gn, 0, none⟩, none, 0, 0, 0, hd, 0, 0, false, some (gn, lr0), none⟩ s0) := Lib.hid ⟨G3.out.mem.reQ (fun q hq => by
    rcases hq with (e | e | e) | e
    · exact Or.inl e
    · exact Or.inr (Or.inl e)
    · exact Or.inr (Or.inr (Or.inr e))
    · exact Or.inr (Or.inr (Or.inl e))), BS.out.ext x3, fun q e => (by
    injection e with e
    subst e
    have hf := G3.out.off gn (Or.inr (Or.inl (Or.inl ⟨_, rfl, rfl⟩)))
    refine ⟨⟨fun hh => ?_, hf.2⟩, BN.out.ext x3⟩
    rcases hh with e | (e | e | e) | (⟨p, e, hq⟩ | ⟨p, e, _⟩)
    · exact hf.1 e
    · exact HNe.out.2.2.2.2.2.1 e
    · exact HNe.out.2.2.2.2.1 e
    · exact HNe.out.2.2.2.1 e
    · injection e with e
      subst e
      exact HNe.out.2.2.2.2.2.2.2.2.1 hq.symm
    · cases e), fun q e => (by cases e)⟩
  have R3 : Hid (RsAt W0.heap.size w3 g R rv gq t s l b th hd ky ⟨1, hd, 0, 0, 0, 0, 0, some ⟨gm2, 0, none⟩, none, false, some (gm2, hd, rr0), none⟩ s0) := Lib.hid ⟨G3.out.ref, BQ.out, (G3.out.off gq (Or.inl (Or.inr (Or.inr rfl)))).1, fun q e => (by
    injection e with e
    subst e
    exact ⟨⟨(G3.out.off gm2 (Or.inr (Or.inr (Or.inl ⟨_, rfl, rfl⟩)))).1, HNe.out.2.2.2.2.2.2.2.2.2⟩, BR.out⟩), fun q e => (by cases e)⟩
  have HD3 : Hid (∀ q, RSk.ownB ⟨1, hd, 0, 0, 0, 0, 0, some ⟨gm2, 0, none⟩, none, false, some (gm2, hd, rr0), none⟩ q → q ≠ gs ∧ q ≠ gl) := Lib.hid (fun q hq => by
    rcases hq with ⟨p, e, hq⟩ | ⟨p, e, _⟩
    · injection e with e
      subst e
      rw [hq]
      exact ⟨HNe.out.2.2.2.2.2.2.1, HNe.out.2.2.2.2.2.2.2.1⟩
    · cases e)
  have K3 : Hid (RelK (layF t s l b) hd ⟨1, some ⟨gn, 0, none⟩, none, 0, 0, 0, hd, 0, 0, false, some (gn, lr0), none⟩ ⟨1, hd, 0, 0, 0, 0, 0, some ⟨gm2, 0, none⟩, none, false, some (gm2, hd, rr0), none⟩) := Lib.hid (RelK.beg (x := ⟨0, none, none, 0, 0, 0, 0, 0, 0, false, none, none⟩) (r := ⟨0, 0, 0, 0, 0, 0, 0, none, none, false, none, none⟩) (n := gn) (n' := gm2) (SkM.beg_wf ⟨by decide, i64_0, i64_0, w64_0, w64_0, fun e => e.elim (fun (e : (0 : Nat) = 1) => absurd e (by decide)) (fun (e : (0 : Nat) = 2) => absurd e (by decide)), fun _ => rfl, fun (e : (0 : Nat) = 3) => absurd e (by decide), fun _ => rfl, fun (e : 2 ≤ (0 : Nat)) => absurd e (by decide)⟩ HHd.out gn) rfl rfl)
  clear x3 lq lq2 LQ LQ2 BQ XX3 X HP HG1 HG2 BS BN BR GR XX2 LT LU HLt hgs2 hgn2 hgq3 hgm3 hsz2 lu2 lt2 hlt1 B1 U1 BL d60 d60' XB BQ3 y0 y1 y2 y3 u0 u1 u2
  go_wp2_with fail
  go_loopw [13] (fun i wr => ∃ (k : Nat) (x : SkM) (r : RSk) (sk : MSt), k ≤ pn ∧ i = .int .i64 k ∧ Gr (fun q => (q = gl ∨ q = gs ∨ q = gq) ∨ SkM.ownB x q ∨ RSk.ownB r q) W0 wr gm dv pv g R rv sk ∧ Blk wr gl 173 (cellsF (layF t s l b)) ∧ SkAt (fun q => rfoot g R rv q ∨ (q = gl ∨ q = gs ∨ q = gq) ∨ RSk.ownB r q) W0 wr gm gs gl dv pv th hd ky x sk ∧ RsAt W0.heap.size wr g R rv gq t s l b th hd ky r sk ∧ (∀ q, RSk.ownB r q → q ≠ gs ∧ q ≠ gl) ∧ RelK (layF t s l b) hd x r ∧ Fine k sk.dev ∧ sk.dev.n ≤ 90 ∧ CalmN (100 + (k : Int)) sk) (fun i _ => pn - (intOf i).toNat)
  case atStart => exact ⟨0, ⟨1, some ⟨gn, 0, none⟩, none, 0, 0, 0, hd, 0, 0, false, some (gn, lr0), none⟩, ⟨1, hd, 0, 0, 0, 0, 0, some ⟨gm2, 0, none⟩, none, false, some (gm2, hd, rr0), none⟩, s0, Nat.zero_le _, rfl, G3.out, BL3.out, T3.out, R3.out, HD3.out, K3.out, HFi.out, HNn.out, by simpa using HCa.out⟩
  case round =>
    obtain ⟨k, x, r, sk, hk, rfl, gr, bl, ta, ra, hd3, rel, fi, nn, ca⟩ := hrel
    have GK := Lib.hid gr
    have LK := Lib.hid bl
    have TK := Lib.hid ta
    have QK := Lib.hid ra
    have DK := Lib.hid hd3
    have RK := Lib.hid rel
    have FK := Lib.hid fi
    have NK := Lib.hid nn
    have CK := Lib.hid ca
    have XK := Lib.hid (X0.out.trans gr.mem.lt.1)
    clear gr bl ta ra hd3 rel fi nn ca G3 BL3 T3 R3 HD3 K3 HNn
    by_cases hlt : k < pn
    · have v1 : decide (k < pn) = true := by simp; omega
      obtain ⟨ad, hAd, _, hcc⟩ := (HPk.out.ext XK.out) (by have := HPl.out; omega)
      obtain ⟨⟨p0, ⟨p1, p2, p3, p4, p5⟩⟩, hfit⟩ := hcc k (by have := HPl.out; omega)
      have HQ : Hid (∀ W, Ext w W → Pk7.at (pk.getD k noPk7) W (ad.add (k * 6))) := Lib.hid (fun W x => by
        obtain ⟨ad', hA1', _, hac'⟩ := HPk.out.ext x (by have := HPl.out; omega)
        have : ad = ad' := by rw [hAd] at hA1'; injection hA1'
        subst this
        exact (hac' k (by have := HPl.out; omega)).1)
      have HFit := Lib.hid hfit
      clear hcc hfit
      generalize hz5 : pk.getD k noPk7 = z at *
      clear hz5
      subst hAd
      obtain ⟨bb, ac⟩ := z
      go_upto_if 57 with fail
      go_cut [14] (fun _ wx => ∃ (x' : SkM) (r' : RSk) (sk' : MSt), Gr (fun q => (q = gl ∨ q = gs ∨ q = gq) ∨ SkM.ownB x' q ∨ RSk.ownB r' q) W0 wx gm dv pv g R rv sk' ∧ Blk wx gl 173 (cellsF (layF t s l b)) ∧ SkAt (fun q => rfoot g R rv q ∨ (q = gl ∨ q = gs ∨ q = gq) ∨ RSk.ownB r' q) W0 wx gm gs gl dv pv th hd ky x' sk' ∧ RsAt W0.heap.size wx g R rv gq t s l b th hd ky r' sk' ∧ (∀ q, RSk.ownB r' q → q ≠ gs ∧ q ≠ gl) ∧ RelK (layF t s l b) hd x' r' ∧ Fine (k + 1) sk'.dev ∧ sk'.dev.n ≤ 90 ∧ CalmN (100 + (k : Int) + 1) sk')
      case first =>
        cases bb
        · -- another one's act
          have HD := Lib.hid (do7_ok GK.out.mem (i := k) (by omega) FK.out (CK.out.calm (by omega)) ac.k ac.t ac.a ac.z ac.x HFit.out.1 HFit.out.2.1 HFit.out.2.2)
          have FN := Lib.hid (act_fine9 FK.out NK.out ac.k ac.t ac.a ac.z ac.x)
          have NN : Hid ((sk.act ac.k ac.t ac.a ac.z ac.x).dev.n ≤ 90) := Lib.hid (by rw [mact_n]; exact NK.out)
          have CN := Lib.hid (act_calm CK.out ac.k ac.t ac.a ac.z ac.x)
          go_wp2_with fail
          refine HD.out.mono ?_
          rintro e w4 ⟨⟨u, rfl⟩, m4⟩
          have M4 := Lib.hid m4
          have R4 := Lib.hid (GK.out.refMid m4)
          have HMU := Lib.hid (must7_ok R4.out GK.out.sound (i := k) (by omega) FK.out (CK.out.calm (by omega)) ac.k ac.t ac.a ac.z ac.x HFit.out.1 HFit.out.2.1)
          clear m4 HD p0 p1 p2 p3 p4 p5
          obtain ⟨p0, p1, p2, p3, p4, p5⟩ := HQ.out w4 (X0.out.trans M4.out.lt.1)
          go_wp2_with fail
          refine HMU.out.mono ?_
          rintro e w5 ⟨⟨u', rfl⟩, r5, f5⟩
          have G5 := Lib.hid (GK.out.both M4.out r5 f5)
          have L5 := Lib.hid ((GK.out.keeps M4.out f5 (b := gl) (Or.inl (Or.inl rfl))).trans LK.out)
          have T5 := Lib.hid (TK.out.keep (G5.out.mem.reQ (fun q hq => by
            rcases hq with (e | e | e) | e
            · exact Or.inl e
            · exact Or.inr (Or.inl e)
            · exact Or.inr (Or.inr (Or.inr e))
            · exact Or.inr (Or.inr (Or.inl e)))) (fun q hq => GK.out.keeps M4.out f5 (b := q) (by
            rcases hq with e | e
            · exact Or.inl (Or.inr (Or.inl e))
            · exact Or.inr (Or.inl e))))
          have Q5 := Lib.hid (QK.out.keep G5.out.ref (fun q hq => GK.out.keeps M4.out f5 (b := q) (by
            rcases hq with e | e
            · exact Or.inl (Or.inr (Or.inr e))
            · exact Or.inr (Or.inr e))))
          clear r5 f5 HMU p0 p1 p2 p3 p4 p5
          go_wp2_with fail
          go_meet
          exact ⟨x, r, _, G5.out, L5.out, T5.out, Q5.out, DK.out, RK.out, FN.out, NN.out, CN.out⟩
        · -- a step
          have hU := fun a => GK.out.mem.peekU a
          have hoff := GK.out.off
          have HS := Lib.hid (skPart_ok (i := k) TK.out (CK.out.calm (by omega)) (by omega) FK.out HOk.out hU HKy.out RK.out.wf LK.out (Or.inr (Or.inl (Or.inr (Or.inl rfl)))) (Or.inr (Or.inl (Or.inl rfl))) HNe.out.1 (hoff gs (Or.inl (Or.inr (Or.inl rfl)))).2)
          have KN := Lib.hid (fun n1 => skS_keeps (n := n1) (F := layF t s l b) (th := th) (head := hd) (key := ky) (x := x) FK.out NK.out CK.out)
          have HPt := Lib.hid (fun n1 => skS_part (layF t s l b) th hd ky x sk 0 n1)
          have HU := Lib.hid hU
          clear hU p1 p2 p3 p4 p5 HQ HFit hoff
          go_wp2_with fail
          refine HS.out.mono ?_
          rintro e w4 ⟨rfl, n1, a4, k4⟩
          have hoff := GK.out.off
          have hgt : ∀ q, rfoot g R rv q → q ≠ gs := fun q hq e => (hoff gs (Or.inl (Or.inr (Or.inl rfl)))).1 (e ▸ hq)
          have R4 := GK.out.ref.heldQ (fun q hq => k4 q (Or.inl hq) (hgt q hq))
          have L4 : Blk w4 gl 173 (cellsF (layF t s l b)) := (k4 gl (Or.inr (Or.inl (Or.inl rfl))) HNe.out.1).trans LK.out
          have Q4 := QK.out.keep R4 (fun q hq => by
            rcases hq with e | e
            · exact k4 q (Or.inr (Or.inl (Or.inr (Or.inr e)))) (fun e2 => HNe.out.2.2.1 (e2.symm.trans e))
            · exact k4 q (Or.inr (Or.inr e)) (DK.out q e).1)
          have HRm := Lib.hid (rseek_ok (i := k) Q4 RK.out GK.out.sound (CK.out.calm (by omega)) (by omega) FK.out HC.out HOk.out HKy.out HU.out HHd.out)
          have A4 := Lib.hid a4
          have LL4 := Lib.hid L4
          have QQ4 := Lib.hid Q4
          clear a4 k4 R4 L4 Q4 HS p0
          go_wp2_with fail
          refine HRm.out.mono ?_
          rintro e w5 ⟨⟨u', rfl⟩, r', st', hrr, ra5, fr5, ho5⟩
          have hr1 := hrr n1
          obtain ⟨hst, hrel⟩ := hr1
          have hsz5 := fr5.size
          have hlt4 := A4.out.mem.lt
          have hpu : ∀ q, (skS (layF t s l b) th hd ky x sk n1).1.ownB q → ¬ (rfoot g R rv q ∨ (q = gl ∨ q = gs ∨ q = gq) ∨ RSk.ownB r q) ∧ W0.heap.size ≤ q := fun q hq => A4.out.offB hq
          have hw0 : W0.heap.size ≤ w4.heap.size := hlt4.1.size
          have m5 : IsMem (fun q => (rfoot g R rv q ∨ (q = gl ∨ q = gs ∨ q = gq) ∨ RSk.ownB r' q) ∨ (skS (layF t s l b) th hd ky x sk n1).1.ownB q) w5 W0 w5 gm dv pv (skS (layF t s l b) th hd ky x sk n1).2 := A4.out.mem.holdT fr5 (fun q hq => by
            rcases hq with e | e | e
            · exact Or.inl (Or.inl e)
            · exact Or.inl (Or.inr (Or.inl (Or.inr (Or.inr e))))
            · exact Or.inl (Or.inr (Or.inr e))) (fun q hq => by
            rcases hq with e | e | e
            · exact (GK.out.ref.foot_lt e).1
            · rw [e]; exact (hoff gq (Or.inl (Or.inr (Or.inr rfl)))).2
            · exact (hoff q (Or.inr (Or.inr e))).2) (fun q hq => by
            rcases hq with (e | e | e) | e
            · exact ⟨Nat.lt_of_lt_of_le (hlt4.2 q (Or.inl (Or.inl e))) hsz5, Or.inl (Or.inl (Or.inl e))⟩
            · exact ⟨Nat.lt_of_lt_of_le (hlt4.2 q (Or.inl (Or.inr (Or.inl e)))) hsz5, Or.inl (Or.inl (Or.inr (Or.inl e)))⟩
            · exact ⟨ra5.lt e, (ho5 q e).elim (fun h2 => Or.inl (Or.inl (Or.inr (Or.inr h2)))) Or.inr⟩
            · exact ⟨Nat.lt_of_lt_of_le (hlt4.2 q (Or.inr e)) hsz5, Or.inl (Or.inr e)⟩)
          have hgs4 : gs < w4.heap.size := hlt4.2 gs (Or.inl (Or.inr (Or.inl (Or.inr (Or.inl rfl)))))
          have hgl4 : gl < w4.heap.size := hlt4.2 gl (Or.inl (Or.inr (Or.inl (Or.inl rfl))))
          have D5 : Hid (∀ q, RSk.ownB r' q → q ≠ gs ∧ q ≠ gl) := Lib.hid (fun q hq => (ho5 q hq).elim (fun h2 => DK.out q h2) (fun h2 => ⟨by omega, by omega⟩))
          have hxr : ∀ q, (skS (layF t s l b) th hd ky x sk n1).1.ownB q → ¬ RSk.ownB r' q := fun q hq h2 => (ho5 q h2).elim (fun h3 => (hpu q hq).1 (Or.inr (Or.inr h3))) (fun h3 => by have := hlt4.2 q (Or.inr hq); omega)
          have G5 : Hid (Gr (fun q => (q = gl ∨ q = gs ∨ q = gq) ∨ SkM.ownB (skS (layF t s l b) th hd ky x sk n1).1 q ∨ RSk.ownB r' q) W0 w5 gm dv pv g R rv (skS (layF t s l b) th hd ky x sk n1).2) := Lib.hid ⟨m5.reQ (fun q hq => by
              rcases hq with e | (e | e | e)
              · exact Or.inl (Or.inl e)
              · exact Or.inl (Or.inr (Or.inl e))
              · exact Or.inr e
              · exact Or.inl (Or.inr (Or.inr e))), hst ▸ ra5.ref, fun q hq => by
              rcases hq with e | e | e
              · exact hoff q (Or.inl e)
              · exact ⟨fun h2 => (hpu q e).1 (Or.inl h2), (hpu q e).2⟩
              · exact ⟨(ra5.offB e).1, (ho5 q e).elim (fun h2 => (hoff q (Or.inr (Or.inr h2))).2) (fun h2 => by omega)⟩⟩
          have L5 := Lib.hid (LL4.out.fr fr5 (fun hq => by
            rcases hq with e | e | e
            · exact (hoff gl (Or.inl (Or.inl rfl))).1 e
            · exact HNe.out.2.1 e
            · exact (DK.out gl e).2 rfl))
          have T5 := Lib.hid (A4.out.reQ2 m5 (fun q hq => fr5.block q (by
            rcases hq with e | e
            · rw [e]; exact hgs4
            · exact hlt4.2 q (Or.inr e)) (fun h2 => by
            rcases hq with e | e
            · rcases h2 with h3 | h3 | h3
              · exact (hoff gs (Or.inl (Or.inr (Or.inl rfl)))).1 (e ▸ h3)
              · exact HNe.out.2.2.1 (e.symm.trans h3)
              · exact (DK.out q h3).1 e
            · rcases h2 with h3 | h3 | h3
              · exact (hpu q e).1 (Or.inl h3)
              · exact (hpu q e).1 (Or.inr (Or.inl (Or.inr (Or.inr h3))))
              · exact (hpu q e).1 (Or.inr (Or.inr h3)))) (fun q hq h2 => by
            rcases h2 with h3 | h3 | h3
            · exact (hpu q hq).1 (Or.inl h3)
            · exact (hpu q hq).1 (Or.inr (Or.inl h3))
            · exact hxr q hq h3))
          have Q5 : Hid (RsAt W0.heap.size w5 g R rv gq t s l b th hd ky r' (skS (layF t s l b) th hd ky x sk n1).2) := Lib.hid (hst ▸ ra5)
          have c7 : w5.cell? ⟨gq, 7, none⟩ = some (.int .i64 r'.line) := ra5.blk.cell 7
          have RE := Lib.hid hrel
          have hlb := hrel.lineB
          have hpt := HPt.out n1
          obtain ⟨k1, k2, k3⟩ := KN.out n1
          have FE := Lib.hid k1
          have NE := Lib.hid k2
          have CE := Lib.hid k3
          rw [hpt]
          clear ra5 fr5 ho5 m5 HRm hoff hgt A4 LL4 QQ4 KN HPt hrr hst hrel hpu hxr hpt k1 k2 k3 hlt4 hsz5 hw0 hgs4 hgl4
          generalize skS (layF t s l b) th hd ky x sk n1 = X at *
          obtain ⟨x', s'⟩ := X
          obtain ⟨dn', hdn⟩ : ∃ dn', decide (x'.part = 0) = dn' := ⟨_, rfl⟩
          obtain ⟨ln, hln⟩ : ∃ ln, r'.line = ln := ⟨_, rfl⟩
          simp only at c7 hlb
          rw [hln] at c7 hlb
          rw [hdn] at hlb
          have dbb : (dn' != dn') = false := by cases dn' <;> rfl
          simp only
          rw [hdn]
          clear hdn hln
          have hdl : decide (ln = 0) = dn' := by rw [← hlb]; rfl
          go_wp2_with fail
          go_meet
          exact ⟨x', r', s', G5.out, L5.out, T5.out, Q5.out, D5.out, RE.out, FE.out, NE.out, CE.out⟩
      case rest =>
        obtain ⟨x', r', sk', gr, bl, ta, ra, hd3, rel, fi, nn, ca⟩ := hcut
        generalize wc = w6 at *
        have HSm : Hid (∀ W, Ext w6 W → Calls Tryz.prog 14 #[.pointer (some ⟨gm, 0, none⟩), .pointer (some ⟨g, 0, none⟩)] W fun e w' => e = .returned (.bool true) ∧ Ext W w') := Lib.hid (fun W x => same7_ok (gr.ext x).mem (gr.ext x).ref (gr.ext x).sound)
        obtain ⟨ln, hln⟩ : ∃ ln, r'.line = ln := ⟨_, rfl⟩
        have hlb := rel.lineB
        rw [hln] at hlb
        have HDo : Hid (∀ W, Ext w6 W → Calls Tryz.prog 31 #[.pointer (some ⟨gs, 0, none⟩)] W fun e w' => e = .returned (.bool (ln == 0)) ∧ Ext W w') := Lib.hid (fun W x => (skDone_k rel.wf.part (ta.ext x).cell4).mono (by rintro e w' ⟨rfl, rfl⟩; exact ⟨by rw [← hlb], Ext.refl _⟩))
        have e7 : w6.cell? ⟨gq, 7, none⟩ = some (.int .i64 ln) := by rw [← hln]; exact ra.blk.cell 7
        have z7 := fun d os => cell_regrown e7 d os
        have G6 := Lib.hid gr
        have L6 := Lib.hid bl
        have T6 := Lib.hid ta
        have Q6 := Lib.hid ra
        have D6 := Lib.hid hd3
        have R6 := Lib.hid rel
        have F6 := Lib.hid fi
        have N6 := Lib.hid nn
        have C6 := Lib.hid ca
        obtain ⟨bz, hbz⟩ : ∃ bz : Bool, (ln == 0) = bz := ⟨_, rfl⟩
        rw [hbz] at HDo
        have hbd : decide (ln = 0) = bz := by rw [← hbz]; rfl
        have dbb : (bz != bz) = false := by cases bz <;> rfl
        clear gr bl ta ra hd3 rel fi nn ca hln hlb GK LK TK QK DK RK FK NK CK HQ HFit
        go_wp2_with fail
        refine wp_region_quiet_below (by kernel_rfl) (by kernel_rfl) ?_
        repeat (quiet_step (first
          | (with_reducible exact Calls.regrown_of (HSm.out _ (grown_extF _ _ _)))
          | (with_reducible exact Calls.regrown_of (HDo.out _ (grown_extF _ _ _)))))
        refine wpQuiet_nil ?_
        intro wf hwf
        have XF : Ext w6 wf := by
          obtain ⟨⟨dq, osq⟩, hw2⟩ := hwf
          rw [hw2]
          exact grown_extF _ _ _
        have G7 := Lib.hid (G6.out.ext XF)
        have L7 := Lib.hid (L6.out.ext XF)
        have T7 := Lib.hid (T6.out.ext XF)
        have Q7 := Lib.hid (Q6.out.ext XF)
        clear hwf z7 e7 XF G6 L6 T6 Q6
        go_wp2_with fail
        go_roundw
        case rel => exact ⟨k + 1, x', r', sk', by omega, by go_num, G7.out, L7.out, T7.out, Q7.out, D6.out, R6.out, F6.out, N6.out, by rw [show (100 : Int) + ((k + 1 : Nat) : Int) = 100 + (k : Int) + 1 by omega]; exact C6.out⟩
        case measure => simp [intOf]; omega
    · have v1 : decide (k < pn) = false := by simp; omega
      have hT : ∀ W, Ext wr W → SkAt (fun q => rfoot g R rv q ∨ (q = gl ∨ q = gs ∨ q = gq) ∨ RSk.ownB r q) W0 W gm gs gl dv pv th hd ky x sk := fun W x2 => TK.out.ext x2
      have hpt := RK.out.wf.part
      by_cases h0 : x.part = 0
      · obtain ⟨f1, f2, f3, f4⟩ := RK.out.frm (by omega)
        have f5 := RK.out.lnk (Or.inr h0)
        have f6 := RK.out.whn h0
        have f0 := RK.out.fnd
        have fl : r.line = 0 := by rw [RK.out.line, h0]; rfl
        have hb := QK.out.blk
        obtain ⟨fo, v0⟩ : ∃ fo, x.fnd = fo := ⟨_, rfl⟩
        obtain ⟨pr, v1⟩ : ∃ pr, (if x.part = 0 then x.fat else -1) = pr := ⟨_, rfl⟩
        obtain ⟨wo, v2⟩ : ∃ wo, (if x.part = 0 then x.fwd else 0) = wo := ⟨_, rfl⟩
        obtain ⟨cu, v3⟩ : ∃ cu, toN (if x.part = 0 then x.fwd else 0) = cu := ⟨_, rfl⟩
        obtain ⟨li, v4⟩ : ∃ li, (if x.part = 0 then x.hwd else 0) = li := ⟨_, rfl⟩
        obtain ⟨we, v5⟩ : ∃ we, (if (if x.part = 0 then x.fnd else false) = true then (if x.part = 0 then x.hwh else 0) else (if x.part = 0 then x.fwh else -1)) = we := ⟨_, rfl⟩
        have hw2 : W64 (if x.part = 0 then x.fwd else 0) := by rw [if_pos h0]; exact RK.out.wf.fwd
        have HFo : Hid (∀ W, Ext wr W → Calls Tryz.prog 32 #[.pointer (some ⟨gs, 0, none⟩)] W fun e w' => e = .returned (.bool fo) ∧ Ext W w') := Lib.hid (fun W x2 => (skFound_ok ((hT W x2).blk.cell 13)).mono (by rintro e w' ⟨rfl, rfl⟩; exact ⟨by rw [v0], Ext.refl _⟩))
        have HPr : Hid (∀ W, Ext wr W → Calls Tryz.prog 33 #[.pointer (some ⟨gs, 0, none⟩)] W fun e w' => e = .returned (.int .i64 pr) ∧ Ext W w') := Lib.hid (fun W x2 => (skPrev_ok ((hT W x2).endC hpt)).mono (by rintro e w' ⟨rfl, y⟩; exact ⟨by rw [v1], y⟩))
        have HWo : Hid (∀ W, Ext wr W → Calls Tryz.prog 34 #[.pointer (some ⟨gs, 0, none⟩)] W fun e w' => e = .returned (.int .u64 wo) ∧ Ext W w') := Lib.hid (fun W x2 => (skWord_ok ((hT W x2).endC hpt)).mono (by rintro e w' ⟨rfl, y⟩; exact ⟨by rw [v2], y⟩))
        have HCu : Hid (∀ W, Ext wr W → Calls Tryz.prog 35 #[.pointer (some ⟨gs, 0, none⟩)] W fun e w' => e = .returned (.int .i64 cu) ∧ Ext W w') := Lib.hid (fun W x2 => (skCurr_ok ((hT W x2).endC hpt) hw2).mono (by rintro e w' ⟨rfl, y⟩; exact ⟨by rw [v3], y⟩))
        have HLi : Hid (∀ W, Ext wr W → Calls Tryz.prog 36 #[.pointer (some ⟨gs, 0, none⟩)] W fun e w' => e = .returned (.int .u64 li) ∧ Ext W w') := Lib.hid (fun W x2 => (skLink_ok ((hT W x2).endC hpt)).mono (by rintro e w' ⟨rfl, y⟩; exact ⟨by rw [v4], y⟩))
        have HWe : Hid (∀ W, Ext wr W → Calls Tryz.prog 37 #[.pointer (some ⟨gs, 0, none⟩)] W fun e w' => e = .returned (.int .i64 we) ∧ Ext W w') := Lib.hid (fun W x2 => (skWhen_ok ((hT W x2).endC hpt)).mono (by rintro e w' ⟨rfl, y⟩; exact ⟨by rw [v5], y⟩))
        have e7 : wr.cell? ⟨gq, 7, none⟩ = some (.int .i64 0) := by have h2 := hb.cell 7; rw [← fl]; exact h2
        have e10 : wr.cell? ⟨gq, 10, none⟩ = some (.bool fo) := by have h2 := hb.cell 10; rw [← v0, ← f0]; exact h2
        have e11 : wr.cell? ⟨gq, 11, none⟩ = some (.int .i64 pr) := by have h2 := hb.cell 11; rw [← v1, if_pos h0, ← f1]; exact h2
        have e12 : wr.cell? ⟨gq, 12, none⟩ = some (.int .u64 wo) := by have h2 := hb.cell 12; rw [← v2, if_pos h0, ← f2]; exact h2
        have e14 : wr.cell? ⟨gq, 14, none⟩ = some (.int .i64 cu) := by have h2 := hb.cell 14; rw [← v3, if_pos h0, ← f4]; exact h2
        have e15 : wr.cell? ⟨gq, 15, none⟩ = some (.int .u64 li) := by have h2 := hb.cell 15; rw [← v4, if_pos h0, ← f5]; exact h2
        have e16 : wr.cell? ⟨gq, 16, none⟩ = some (.int .i64 we) := by have h2 := hb.cell 16; rw [← v5]; simp only [if_pos h0]; rw [← f6]; exact h2
        have z10 := fun d os => cell_regrown e10 d os
        have z11 := fun d os => cell_regrown e11 d os
        have z12 := fun d os => cell_regrown e12 d os
        have z14 := fun d os => cell_regrown e14 d os
        have z15 := fun d os => cell_regrown e15 d os
        have z16 := fun d os => cell_regrown e16 d os
        have d0 : (fo == fo) = true := by cases fo <;> rfl
        have d1 : (pr == pr) = true := by simp
        have d2 : (wo == wo) = true := by simp
        have d3 : (cu == cu) = true := by simp
        have d4 : (li == li) = true := by simp
        have d5 : (we == we) = true := by simp
        clear f0 f1 f2 f3 f4 f5 f6 fl hb v0 v1 v2 v3 v4 v5 hw2 hT hpt h0 GK LK TK QK DK RK FK NK CK HFi HCa HPk HPl HNe HC HOk HHd HKy
        go_wp2_with fail
        refine wp_region_quiet_below (by kernel_rfl) (by kernel_rfl) ?_
        repeat (quiet_step (first
          | (with_reducible exact Calls.regrown_of (HAw.out _))
          | (with_reducible exact Calls.regrown_of (HFo.out _ (grown_extF _ _ _)))
          | (with_reducible exact Calls.regrown_of (HPr.out _ (grown_extF _ _ _)))
          | (with_reducible exact Calls.regrown_of (HWo.out _ (grown_extF _ _ _)))
          | (with_reducible exact Calls.regrown_of (HCu.out _ (grown_extF _ _ _)))
          | (with_reducible exact Calls.regrown_of (HLi.out _ (grown_extF _ _ _)))
          | (with_reducible exact Calls.regrown_of (HWe.out _ (grown_extF _ _ _)))))
        refine wpQuiet_nil ?_
        intro wf hwf
        have XF : Hid (Ext w wf) := Lib.hid (by
          obtain ⟨⟨dq, osq⟩, hw2⟩ := hwf
          rw [hw2]
          exact XK.out.trans (grown_extF _ _ _))
        clear hwf
        go_wp2_with fail
        go_ret
        exact ⟨rfl, XF.out⟩
      · have fl : ¬ r.line = 0 := by rw [RK.out.line]; omega
        have hnf := RK.out.nf h0
        have hb := QK.out.blk
        have v0 : x.fnd = false := hnf
        have v1 : (if x.part = 0 then x.fat else -1) = -1 := if_neg h0
        have v2 : (if x.part = 0 then x.fwd else 0) = 0 := if_neg h0
        have v3 : toN (if x.part = 0 then x.fwd else 0) = -1 := by rw [if_neg h0]; decide
        have v4 : (if x.part = 0 then x.hwd else 0) = 0 := if_neg h0
        have v5 : (if (if x.part = 0 then x.fnd else false) = true then (if x.part = 0 then x.hwh else 0) else (if x.part = 0 then x.fwh else -1)) = -1 := by simp only [if_neg h0]; rfl
        have hw2 : W64 (if x.part = 0 then x.fwd else 0) := by rw [if_neg h0]; exact w64_0
        have HFo : Hid (∀ W, Ext wr W → Calls Tryz.prog 32 #[.pointer (some ⟨gs, 0, none⟩)] W fun e w' => e = .returned (.bool false) ∧ Ext W w') := Lib.hid (fun W x2 => (skFound_ok ((hT W x2).blk.cell 13)).mono (by rintro e w' ⟨rfl, rfl⟩; exact ⟨by rw [v0], Ext.refl _⟩))
        have HPr : Hid (∀ W, Ext wr W → Calls Tryz.prog 33 #[.pointer (some ⟨gs, 0, none⟩)] W fun e w' => e = .returned (.int .i64 (-1)) ∧ Ext W w') := Lib.hid (fun W x2 => (skPrev_ok ((hT W x2).endC hpt)).mono (by rintro e w' ⟨rfl, y⟩; exact ⟨by rw [v1], y⟩))
        have HWo : Hid (∀ W, Ext wr W → Calls Tryz.prog 34 #[.pointer (some ⟨gs, 0, none⟩)] W fun e w' => e = .returned (.int .u64 0) ∧ Ext W w') := Lib.hid (fun W x2 => (skWord_ok ((hT W x2).endC hpt)).mono (by rintro e w' ⟨rfl, y⟩; exact ⟨by rw [v2], y⟩))
        have HCu : Hid (∀ W, Ext wr W → Calls Tryz.prog 35 #[.pointer (some ⟨gs, 0, none⟩)] W fun e w' => e = .returned (.int .i64 (-1)) ∧ Ext W w') := Lib.hid (fun W x2 => (skCurr_ok ((hT W x2).endC hpt) hw2).mono (by rintro e w' ⟨rfl, y⟩; exact ⟨by rw [v3], y⟩))
        have HLi : Hid (∀ W, Ext wr W → Calls Tryz.prog 36 #[.pointer (some ⟨gs, 0, none⟩)] W fun e w' => e = .returned (.int .u64 0) ∧ Ext W w') := Lib.hid (fun W x2 => (skLink_ok ((hT W x2).endC hpt)).mono (by rintro e w' ⟨rfl, y⟩; exact ⟨by rw [v4], y⟩))
        have HWe : Hid (∀ W, Ext wr W → Calls Tryz.prog 37 #[.pointer (some ⟨gs, 0, none⟩)] W fun e w' => e = .returned (.int .i64 (-1)) ∧ Ext W w') := Lib.hid (fun W x2 => (skWhen_ok ((hT W x2).endC hpt)).mono (by rintro e w' ⟨rfl, y⟩; exact ⟨by rw [v5], y⟩))
        obtain ⟨ln, hln⟩ : ∃ ln, r.line = ln := ⟨_, rfl⟩
        rw [hln] at fl
        have e7 : wr.cell? ⟨gq, 7, none⟩ = some (.int .i64 ln) := by have h2 := hb.cell 7; rw [← hln]; exact h2
        have d1 : (ln == 0) = false := by rw [beq_eq_false_iff_ne]; exact fl
        have d2 : (ln != 0) = true := by rw [bne_iff_ne]; exact fl
        have d3 : decide (ln = 0) = false := by simpa using fl
        clear hln fl hnf hb v0 v1 v2 v3 v4 v5 hw2 hT hpt h0 GK LK TK QK DK RK FK NK CK HFi HCa HPk HPl HNe HC HOk HHd HKy
        go_wp2_with fail
        refine (HAw.out _).mono ?_
        rintro e w1 ⟨rfl, x1⟩
        have X1 := Lib.hid x1
        clear x1
        go_wp2_with fail
        refine (HFo.out _ X1.out).mono ?_
        rintro e w2 ⟨rfl, x2⟩
        replace X1 := Lib.hid (X1.out.trans x2)
        clear x2
        go_wp2_with fail
        refine (HPr.out _ X1.out).mono ?_
        rintro e w2 ⟨rfl, x2⟩
        replace X1 := Lib.hid (X1.out.trans x2)
        clear x2
        go_wp2_with fail
        refine (HWo.out _ X1.out).mono ?_
        rintro e w2 ⟨rfl, x2⟩
        replace X1 := Lib.hid (X1.out.trans x2)
        clear x2
        go_wp2_with fail
        refine (HCu.out _ X1.out).mono ?_
        rintro e w2 ⟨rfl, x2⟩
        replace X1 := Lib.hid (X1.out.trans x2)
        clear x2
        go_wp2_with fail
        refine (HLi.out _ X1.out).mono ?_
        rintro e w2 ⟨rfl, x2⟩
        replace X1 := Lib.hid (X1.out.trans x2)
        clear x2
        go_wp2_with fail
        refine (HWe.out _ X1.out).mono ?_
        rintro e w2 ⟨rfl, x2⟩
        replace X1 := Lib.hid (X1.out.trans x2)
        clear x2
        go_wp2_with fail
        go_ret
        exact ⟨rfl, XK.out.trans X1.out⟩
set_option maxRecDepth 100000 in
set_option maxHeartbeats 4000000 in
theorem seekSteps_long (w : World) (A : Option Addr) (n c : Nat) (t s l b : Nat) (ys : List Put) (th hd ky : Int) (PA : Option Addr) (pn pc : Nat) (hg : GrOk t s l b) (hy : ys.length = n) (hn : n ≤ 100) (hY : PutsAt w A ys) (hpn : 120 < pn) (hp2 : pn ≤ 9223372036854775807) :
    Calls Tryz.prog 5 #[.agg #[.int .i64 t, .int .i64 s, .int .i64 l, .int .i64 b, .slice A n c], .agg #[.int .i64 th, .int .i64 hd, .int .u32 ky], .slice PA pn pc] w fun e w' => e = .returned (.bool true) ∧ Ext w w' := by
  have X0 := Lib.hid (((Ext.refl w).alloc (.cells #[.int .i64 t, .int .i64 s, .int .i64 l, .int .i64 b, .slice A n c] 26)).alloc (.cells #[.int .i64 th, .int .i64 hd, .int .u32 ky] 75))
  have B0 := Lib.hid ((Blk.new w 26 [.int .i64 t, .int .i64 s, .int .i64 l, .int .i64 b, .slice A n c]).ext ((Ext.refl (w.alloc (.cells #[.int .i64 t, .int .i64 s, .int .i64 l, .int .i64 b, .slice A n c] 26))).alloc (.cells #[.int .i64 th, .int .i64 hd, .int .u32 ky] 75)))
  have U0 : Hid (Blk ((w.alloc (.cells #[.int .i64 t, .int .i64 s, .int .i64 l, .int .i64 b, .slice A n c] 26)).alloc (.cells #[.int .i64 th, .int .i64 hd, .int .u32 ky] 75)) (w.heap.size + 1) 75 [.int .i64 th, .int .i64 hd, .int .u32 ky]) := Lib.hid (by have := Blk.new (w.alloc (.cells #[.int .i64 t, .int .i64 s, .int .i64 l, .int .i64 b, .slice A n c] 26)) 75 [.int .i64 th, .int .i64 hd, .int .u32 ky]; simp only [World.size_alloc] at this; exact this)
  have HL := Lib.hid (lay_ok ((w.alloc (.cells #[.int .i64 t, .int .i64 s, .int .i64 l, .int .i64 b, .slice A n c] 26)).alloc (.cells #[.int .i64 th, .int .i64 hd, .int .u32 ky] 75)) A n c t s l b ys hg hy hn (hY.ext X0.out))
  have d60 : decide (120 < pn) = true := by simp; omega
  have d60' : decide ((120 : Int) < (pn : Int)) = true := by simp; omega
  clear hg hY
  go_enter Tryz.func5, Tryz.ntmps5
  go_upto_region 1 with fail
  generalize ((w.alloc (.cells #[.int .i64 t, .int .i64 s, .int .i64 l, .int .i64 b, .slice A n c] 26)).alloc (.cells #[.int .i64 th, .int .i64 hd, .int .u32 ky] 75)) = W0 at *
  have y0 : W0.cell? ⟨w.heap.size, 0, none⟩ = some (.int .i64 t) := B0.out.cell 0
  have y1 : W0.cell? ⟨w.heap.size, 1, none⟩ = some (.int .i64 s) := B0.out.cell 1
  have y2 : W0.cell? ⟨w.heap.size, 2, none⟩ = some (.int .i64 l) := B0.out.cell 2
  have y3 : W0.cell? ⟨w.heap.size, 3, none⟩ = some (.int .i64 b) := B0.out.cell 3
  have y4 : W0.cell? ⟨w.heap.size, 4, none⟩ = some (.slice A n c) := B0.out.cell 4
  have u0 : W0.cell? ⟨w.heap.size + 1, 0, none⟩ = some (.int .i64 th) := U0.out.cell 0
  have u1 : W0.cell? ⟨w.heap.size + 1, 1, none⟩ = some (.int .i64 hd) := U0.out.cell 1
  have u2 : W0.cell? ⟨w.heap.size + 1, 2, none⟩ = some (.int .u32 ky) := U0.out.cell 2
  go_wp2_with fail
  refine HL.out.mono ?_
  rintro e w1 ⟨gl, gm, dv, pv, g, R, rv, rfl, bl, gr⟩
  have X1 := Lib.hid (X0.out.trans gr.mem.lt.1)
  clear bl gr y0 y1 y2 y3 y4 u0 u1 u2
  go_wp2_with fail
  refine (awake14_ok _).mono ?_
  rintro e w2 ⟨rfl, x2⟩
  have X2 := Lib.hid (X1.out.trans x2)
  clear x2
  go_wp2_with fail
  go_ret
  exact ⟨rfl, X2.out⟩
set_option maxRecDepth 100000 in
set_option maxHeartbeats 4000000 in
theorem seekSteps_no (w : World) (A : Option Addr) (n c : Nat) (t s l b th hd ky : Int) (PA : Option Addr) (pn pc : Nat) (h : ¬ GrOk t s l b ∨ 100 < n) (hn : n ≤ 9223372036854775807) :
    Calls Tryz.prog 5 #[.agg #[.int .i64 t, .int .i64 s, .int .i64 l, .int .i64 b, .slice A n c], .agg #[.int .i64 th, .int .i64 hd, .int .u32 ky], .slice PA pn pc] w fun e w' => e = .returned (.bool true) ∧ Ext w w' := by
  have X0 := Lib.hid (((Ext.refl w).alloc (.cells #[.int .i64 t, .int .i64 s, .int .i64 l, .int .i64 b, .slice A n c] 26)).alloc (.cells #[.int .i64 th, .int .i64 hd, .int .u32 ky] 75))
  have HL := Lib.hid (fun W => lay_no W A n c t s l b h hn)
  unfold NoGr at HL
  clear h
  go_enter Tryz.func5, Tryz.ntmps5
  go_wp2_with fail
  refine (HL.out _).mono ?_
  rintro e w1 ⟨rfl, x1⟩
  have X1 := Lib.hid (X0.out.trans x1)
  clear x1
  go_wp2_with fail
  refine (awake14_ok _).mono ?_
  rintro e w2 ⟨rfl, x2⟩
  have X2 := Lib.hid (X1.out.trans x2)
  clear x2
  go_wp2_with fail
  go_ret
  exact ⟨rfl, X2.out⟩
theorem seekSteps_walk (w : World) (A : Option Addr) (n c : Nat) (t s l b th hd ky : Int) (hhd : I64 hd) (hky : 0 ≤ ky ∧ ky < 4294967296) (ys : List Put) (PA : Option Addr) (pn pc : Nat) (pk : List Pk7) (hy : ys.length = n) (hn : n ≤ 9223372036854775807) (hY : PutsAt w A ys) (hp : pk.length = pn) (hpn : pn ≤ 9223372036854775807) (hP : Pokes w PA pk) :
    Calls Tryz.prog 5 #[.agg #[.int .i64 t, .int .i64 s, .int .i64 l, .int .i64 b, .slice A n c], .agg #[.int .i64 th, .int .i64 hd, .int .u32 ky], .slice PA pn pc] w fun e w' => e = .returned (.bool true) ∧ Ext w w' := by
  by_cases h : GrOk t s l b ∧ n ≤ 100
  · obtain ⟨hg, hn1⟩ := h
    obtain ⟨⟨q0, q1⟩, ⟨q2, q3⟩, ⟨q4, q5⟩, q6, q7⟩ := id hg.1
    obtain ⟨t', rfl⟩ := Int.eq_ofNat_of_zero_le (show 0 ≤ t by omega)
    obtain ⟨s', rfl⟩ := Int.eq_ofNat_of_zero_le (show 0 ≤ s by omega)
    obtain ⟨l', rfl⟩ := Int.eq_ofNat_of_zero_le (show 0 ≤ l by omega)
    obtain ⟨b', rfl⟩ := Int.eq_ofNat_of_zero_le (show 0 ≤ b by omega)
    by_cases h60 : pn ≤ 120
    · exact seekSteps_yes w A n c t' s' l' b' ys th hd ky hhd hky PA pn pc pk hg hy hn1 hY hp h60 hP
    · exact seekSteps_long w A n c t' s' l' b' ys th hd ky PA pn pc hg hy hn1 hY (by omega) hpn
  · exact seekSteps_no w A n c t s l b th hd ky PA pn pc (by
      by_cases hg : GrOk t s l b
      · exact Or.inr (by
          have : ¬ n ≤ 100 := fun h2 => h ⟨hg, h2⟩
          omega)
      · exact Or.inl hg) hn

namespace seekSteps
set_option maxRecDepth 100000 in
theorem lifted (os : Os) (started : os.Started) (H : Type) (enc : TypeId × Value → H) :
    ReturnsInHanded {} Tryz.checked os 5 .any (Rows.seekStepsSpec.pre6 enc Tryz.prog Tryz.f5 Rows.seekStepsRow.domain false) (Rows.seekStepsSpec.post enc Tryz.prog Tryz.f5 false true false false) := by
  refine returnsInHanded_of_change (C := Tryz.checked) own started (by kernel_rfl) Tryz.func5
    (ChangeSpec.witness6 (enc := enc) (C := Tryz.checked) false ⟨#[], #[.agg #[.int .i64 0, .int .i64 0, .int .i64 0, .int .i64 0, .slice none 0 0], .agg #[.int .i64 0, .int .i64 0, .int .u32 0], .slice none 0 0], []⟩ 8 (by kernel_rfl) (by kernel_rfl) (by kernel_rfl) (by kernel_rfl)) ?_
  intro W base args ds gs before hval0 hW hcnd _
  have hval : ∀ (j : Nat) t v, Tryz.f5.params[j]? = some t → args[j]? = some v → Value.okWide Tryz.prog W .any base t v := hval0
  have hW' := hW
  obtain ⟨p, q, hA0, hV, rfl, hfz, hnd⟩ := hW
  have hA : DataW.TrodAll enc Tryz.prog W 0 (fun _ => true) true Tryz.f5.params.toList args.toList ds p := hA0
  have hlt : ∀ x ∈ p ++ q, x.block < W.heap.size := fun x hx => hW'.lt x hx
  rw [Tryz.params5] at hA hval
  have hB := hA
  obtain ⟨v0, vs0, d0, ds0, p0, q0, hargs, rfl, rfl, h0, r0⟩ := trodAll_cons hB
  obtain ⟨v1, vs1, d1, ds1, p1, q1, rfl, rfl, rfl, h1, r1⟩ := trodAll_cons r0
  obtain ⟨v2, vs2, d2, ds2, p2, q2, rfl, rfl, rfl, h2, r2⟩ := trodAll_cons r1
  obtain ⟨rfl, rfl, rfl⟩ := trodAll_nil r2
  obtain rfl : args = #[v0, v1, v2] := by cases args; simp_all
  obtain ⟨rfl, rfl⟩ := trodVars_none hV
  obtain ⟨g0t, g0s, g0l, g0b, A0, c0, y0, rfl, lc0, mc0, I0⟩ := view_ground Tryz.underlying26 (by kernel_rfl) rfl (by kernel_rfl) rfl (by kernel_rfl) Tryz.underlying23 (by kernel_rfl) Tryz.underlying3 Tryz.underlying3 Tryz.underlying3 Tryz.underlying3 Tryz.underlying24 Tryz.underlying114 (by kernel_rfl) (by kernel_rfl) Tryz.underlying3 Tryz.underlying45 (hval 0 26 v0 rfl rfl) h0
  obtain ⟨x1a, x1b, x1c, rfl, ok1⟩ := view_who14 Tryz.underlying75 (by kernel_rfl) (by kernel_rfl) Tryz.underlying3 Tryz.underlying3 Tryz.underlying73 (hval 1 75 v1 rfl rfl) h1
  obtain ⟨A2, n2, c2, y2, rfl, lc2, mc2, zl2, I2⟩ := view_pokes Tryz.underlying29 Tryz.underlying49 (by kernel_rfl) rfl (by kernel_rfl) Tryz.underlying4 rfl (by kernel_rfl) Tryz.underlying47 (by kernel_rfl) Tryz.underlying3 Tryz.underlying3 Tryz.underlying3 Tryz.underlying45 Tryz.underlying45 (hval 2 29 v2 rfl rfl) h2
  clear hA0 hval0
  refine (seekSteps_walk W A0 _ c0 g0t g0s g0l g0b x1a x1b x1c (wf_i64 ok1.2.1) (wf_u32 ok1.2.2) y0 A2 n2 c2 y2 rfl (Nat.le_trans lc0 mc0) I0 zl2 (Nat.le_trans lc2 mc2) I2).mono fun e W' ⟨he, hx⟩ => ?_
  subst he
  exact ⟨_, rfl, post_ext (pv := []) hW' (fun _ _ _ => (trodAll_cons_mk (shut_bool Tryz.underlying4 _) trodAll_mk0)) (fun sp hsp => trodAll_stays laid hx _ _ _ _ (readable_of (by kernel_rfl)) hA (fun x hx => hlt x (by first | (simp at hx ⊢; exact hx) | simp at hx)) (fun x hx => hsp x (by first | (simp at hx ⊢; exact hx) | simp at hx))) (fun _ _ => rfl) rfl hx (ok_one (by kernel_rfl) rfl (okWide_bool_mk Tryz.underlying4 _))⟩

theorem over : Rows.seekStepsRow.holds Tryz.pinned (OpenSpec.ofChange Rows.seekStepsSpec) :=
  OpenClaim.holds_of_wide 5 Tryz.f5 rfl rfl rfl rfl rfl rfl rfl ⟨rfl, rfl, rfl, rfl, rfl⟩ rfl rfl rfl rfl rfl (by kernel_rfl) Tryz.func5 (by kernel_rfl)
    (of_decide_eq_true (by kernel_rfl)) (by unfold Func.isWrapper; first | (rw [if_pos (by decide +kernel)]; kernel_rfl) | (rw [if_neg (by decide +kernel)]; exact ⟨rfl, rfl⟩))
    (fun os started H enc _ => lifted os started H enc)
end seekSteps

theorem seekSteps_holds : Rows.SeekStepsSaid := seekSteps.over
end Go.Proofs.YtbicloceaddinaaGreat

