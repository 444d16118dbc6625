/- Alone, in a list whose keys rise, a Seek finds just the keys of slots that were not taken away, and those that were, up to the key, are in the list no more: the law answers true for every config, list, key and dirty links, and changes nothing. Conditions: none. -/
import Derived.Test.YtolengkegjipaaaGreatKSkE
import Derived.Test.YtolengkegjipaaaGreatKView
import Derived.Test.YtolengkegjipaaaGreatArgs
import Derived.Deep.DeepCutAuto
import Derived.Deep.CutBlock
import Derived.Deep.MidRow
import Derived.Test.YtolengkegjipaaaGreatSeekAloneFacts
namespace Go.Proofs.YtolengkegjipaaaGreat
open Go.ChangeShapes Go.WideShapes Go.ChangeAt Go.RowKit
set_option linter.unusedVariables false

set_option maxRecDepth 100000 in
set_option maxHeartbeats 16000000 in
theorem seekAlone_yes (w : World) (t s l b : Nat) (A : Option Addr) (n c : Nat) (nl : List (Int × Int)) (ky : Int) (D : Option Addr) (dn dc : Nat) (dl : List Bool) (hg : GrOk t s l b) (hn : nl.length = n) (hnm : n ≤ 9223372036854775807) (hA : 0 < n → ∃ ad, A = some ad ∧ NodesAt w ad nl) (hB : ∀ j, I64 (ndB nl j)) (hK : ∀ j, 0 ≤ ndK nl j ∧ ndK nl j < 4294967296) (hky : 0 ≤ ky ∧ ky < 4294967296) (hD : 0 < dn → ∃ dd, D = some dd ∧ BoolsAt w dd dn dl) :
    Calls Tryz.prog 3 #[.agg #[.int .i64 t, .int .i64 s, .int .i64 l, .int .i64 b], .slice A n c, .agg #[.int .u32 ky, .slice D dn dc]] w fun e w' => e = .returned (.bool true) ∧ Ext w w' := by
  have X0 := Lib.hid (((Ext.refl w).alloc (.cells #[.int .i64 t, .int .i64 s, .int .i64 l, .int .i64 b] 23)).alloc (.cells #[.int .u32 ky, .slice D dn dc] 28))
  have B0 : Hid (Blk ((w.alloc (.cells #[.int .i64 t, .int .i64 s, .int .i64 l, .int .i64 b] 23)).alloc (.cells #[.int .u32 ky, .slice D dn dc] 28)) w.heap.size 23 [.int .i64 t, .int .i64 s, .int .i64 l, .int .i64 b]) := Lib.hid ((Blk.new w 23 [.int .i64 t, .int .i64 s, .int .i64 l, .int .i64 b]).ext ((Ext.refl _).alloc (.cells #[.int .u32 ky, .slice D dn dc] 28)))
  have U0 : Hid (Blk ((w.alloc (.cells #[.int .i64 t, .int .i64 s, .int .i64 l, .int .i64 b] 23)).alloc (.cells #[.int .u32 ky, .slice D dn dc] 28)) (w.heap.size + 1) 28 [.int .u32 ky, .slice D dn dc]) := Lib.hid (by have := Blk.new (w.alloc (.cells #[.int .i64 t, .int .i64 s, .int .i64 l, .int .i64 b] 23)) 28 [.int .u32 ky, .slice D dn dc]; rw [World.size_alloc] at this; exact this)
  obtain ⟨hc, h1, h2, h3, h4⟩ := id hg
  obtain ⟨⟨q0, q1⟩, ⟨q2, q3⟩, ⟨q4, q5⟩, q6, q7⟩ := id hc
  have HFe := Lib.hid (fun W => few9_yes t s l b W hg)
  have HAw := Lib.hid (fun W => awake14_ok W)
  have HNd : Hid (∀ W, Ext w W → 0 < n → ∃ ad, A = some ad ∧ NodesAt W ad nl) := Lib.hid (fun W x h0 => by
    obtain ⟨ad, e, hl, hc⟩ := hA h0
    refine ⟨ad, e, Nat.lt_of_lt_of_le hl x.size, fun j hj => ?_⟩
    obtain ⟨c1, c2⟩ := hc j hj
    exact ⟨(World.cell?_of_block (x.block _ (block_lt_of_cell c1))).trans c1, (World.cell?_of_block (x.block _ (block_lt_of_cell c2))).trans c2⟩)
  have HDd : Hid (∀ W, Ext w W → 0 < dn → ∃ dd, D = some dd ∧ BoolsAt W dd dn dl) := Lib.hid (fun W x h0 => by
    obtain ⟨dd, e, hl, hc⟩ := hD h0
    refine ⟨dd, e, Nat.lt_of_lt_of_le hl x.size, fun j hj => ?_⟩
    have c1 := hc j hj
    exact (World.cell?_of_block (x.block _ (block_lt_of_cell c1))).trans c1)
  have HRi := Lib.hid (fun W (x : Ext w W) => rises_ok W t s l b A n c nl hn hnm (HNd.out W x) hB)
  have HB := Lib.hid hB
  have HK := Lib.hid hK
  have HKy := Lib.hid hky
  have HG := Lib.hid hg
  have HC : Hid (CfgN t s l b) := Lib.hid ⟨by omega, by omega, by omega, by omega, by omega⟩
  have HOk := Lib.hid (okayF hc)
  have hs30 : s ≤ 30 := by omega
  have ht1 : 0 < t ∧ t ≤ 6 := ⟨by omega, by omega⟩
  have hbl : (0 < b ∧ b ≤ 8) ∧ 0 < l ∧ l ≤ 8 := ⟨⟨by omega, by omega⟩, by omega, by omega⟩
  clear hg hc h1 h2 h3 h4 q0 q1 q2 q3 q4 q5 q6 q7 hA hB hK hky hD
  go_enter Tryz.func3, Tryz.ntmps3
  go_upto_region 1 with fail
  generalize ((w.alloc (.cells #[.int .i64 t, .int .i64 s, .int .i64 l, .int .i64 b] 23)).alloc (.cells #[.int .u32 ky, .slice D dn dc] 28)) = W0 at *
  have y0 : W0.cell? ⟨w.heap.size, 0, none⟩ = some (.int .i64 t) := B0.out.cell 0
  have y1 : W0.cell? ⟨w.heap.size, 1, none⟩ = some (.int .i64 s) := B0.out.cell 1
  have y2 : W0.cell? ⟨w.heap.size, 2, none⟩ = some (.int .i64 l) := B0.out.cell 2
  have y3 : W0.cell? ⟨w.heap.size, 3, none⟩ = some (.int .i64 b) := B0.out.cell 3
  have u0 : W0.cell? ⟨w.heap.size + 1, 0, none⟩ = some (.int .u32 ky) := U0.out.cell 0
  have u1 : W0.cell? ⟨w.heap.size + 1, 1, none⟩ = some (.slice D dn dc) := U0.out.cell 1
  go_wp2_with fail
  refine (HFe.out _).mono ?_
  rintro e w1 ⟨rfl, xf⟩
  have X1 := Lib.hid (X0.out.trans xf)
  have B1 := Lib.hid (B0.out.ext xf)
  have U1 := Lib.hid (U0.out.ext xf)
  clear xf y0 y1 y2 y3 u0 u1 X0 B0 U0 HFe
  have y0 : w1.cell? ⟨w.heap.size, 0, none⟩ = some (.int .i64 t) := B1.out.cell 0
  have y1 : w1.cell? ⟨w.heap.size, 1, none⟩ = some (.int .i64 s) := B1.out.cell 1
  have y2 : w1.cell? ⟨w.heap.size, 2, none⟩ = some (.int .i64 l) := B1.out.cell 2
  have y3 : w1.cell? ⟨w.heap.size, 3, none⟩ = some (.int .i64 b) := B1.out.cell 3
  have u0 : w1.cell? ⟨w.heap.size + 1, 0, none⟩ = some (.int .u32 ky) := U1.out.cell 0
  have u1 : w1.cell? ⟨w.heap.size + 1, 1, none⟩ = some (.slice D dn dc) := U1.out.cell 1
  go_wp2_with fail
  refine (HRi.out w1 X1.out).mono ?_
  rintro e w2 ⟨rb, rfl, x2, hr⟩
  have X2 := Lib.hid (X1.out.trans x2)
  have B2 := Lib.hid (B1.out.ext x2)
  have U2 := Lib.hid (U1.out.ext x2)
  clear x2 y0 y1 y2 y3 u0 u1 X1 B1 U1 HRi
  cases rb
  · go_wp2_with fail
    refine (HAw.out _).mono ?_
    rintro e w3 ⟨rfl, x3⟩
    have X3 := Lib.hid (X2.out.trans x3)
    clear x3
    go_wp2_with fail
    go_ret
    exact ⟨rfl, X3.out⟩
  obtain ⟨⟨hr1, hr2⟩, hr3⟩ := hr rfl
  have hns : n ≤ s := by omega
  have HR1 := Lib.hid hr1
  have HR2 := Lib.hid hr2
  clear hr hr1 hr2 hr3
  have y0 : w2.cell? ⟨w.heap.size, 0, none⟩ = some (.int .i64 t) := B2.out.cell 0
  have y1 : w2.cell? ⟨w.heap.size, 1, none⟩ = some (.int .i64 s) := B2.out.cell 1
  have y2 : w2.cell? ⟨w.heap.size, 2, none⟩ = some (.int .i64 l) := B2.out.cell 2
  have y3 : w2.cell? ⟨w.heap.size, 3, none⟩ = some (.int .i64 b) := B2.out.cell 3
  have u0 : w2.cell? ⟨w.heap.size + 1, 0, none⟩ = some (.int .u32 ky) := U2.out.cell 0
  have u1 : w2.cell? ⟨w.heap.size + 1, 1, none⟩ = some (.slice D dn dc) := U2.out.cell 1
  obtain ⟨ys, hys⟩ : ∃ ys, rowQ (layF t s l b) 32 nl dl dn (n + 1) = ys := ⟨_, rfl⟩
  have hyl : ys.length ≤ 100 := by rw [← hys]; have := rowQ_len (layF t s l b) 32 nl dl dn (n + 1); omega
  have HRo := Lib.hid (rowD_ok w2 t s l b HC.out 32 A nl n c hn (by omega) (HNd.out w2 X2.out) D dn dc dl (HDd.out w2 X2.out) HB.out HK.out)
  rw [hys] at HRo
  have HFt : Hid (∀ i, i < ys.length → PutFit (ys.getD i (0, 0))) := Lib.hid (fun i hi => by
    have hm : ys.getD i (0, 0) ∈ rowQ (layF t s l b) 32 nl dl dn (n + 1) := by
      rw [hys, List.getD_eq_getElem?_getD, List.getElem?_eq_getElem hi]
      exact List.getElem_mem hi
    exact rowQ_fit (fun a => ⟨nxtN_rng HOk.out a, keyN_rng HOk.out a⟩) ⟨by decide, by decide⟩ HK.out (n + 1) _ hm)
  have GK := geoK (t := t) (s := s) (l := l) (b := b) (n := n) hbl.1.1 hbl.1.2 hbl.2.1 hbl.2.2 hns
  have HL0 : ListAt0 (layF t s l b) 32 n nl (peekV (groundSt t s l b ys)) := by
    rw [← hys]
    exact listAt0 (MOk.start t s l b) GK hn
  have HLo : LOk (2 + t + s) (wN t s l b) t (groundSt t s l b ys) := (LOk.start t s l b).putAll ys
  have HFi := Lib.hid (ground_fine t s l b ys)
  have HCa := Lib.hid (ground_calm t s l b ys hyl)
  have HNn : Hid ((groundSt t s l b ys).dev.n ≤ 90) := Lib.hid (by
    rw [lay_n14]
    have := wN_le (t := t) (s := s) (l := l) (b := b) (by omega) (by omega) (by omega) (by omega)
    omega)
  have HLy := Lib.hid (fun (W : World) A' c' hY => lay_ok W A' ys.length c' t s l b ys HG.out rfl hyl hY)
  unfold GrNew at HLy
  have HG0 := Lib.hid GK.g
  have HL00 := Lib.hid HL0
  have HLo0 := Lib.hid HLo
  clear hys HDd HG GK HL0 HLo
  generalize groundSt t s l b ys = s0 at *
  go_wp2_with fail
  refine HRo.out.mono ?_
  rintro e w3 ⟨v, rfl, row, x3⟩
  obtain ⟨A', c', rfl, -, -, hY⟩ := row.form HFt.out
  have X3 := Lib.hid (X2.out.trans x3)
  have HL3 := Lib.hid (HLy.out w3 A' c' hY)
  have U3 := Lib.hid (U2.out.ext x3)
  have B3 := Lib.hid (B2.out.ext x3)
  clear row hY x3 HRo HLy X2 U2 B2 y0 y1 y2 y3 u0 u1 HFt
  generalize ys.length = yn at *
  clear hyl ys
  go_wp2_with fail
  refine HL3.out.mono ?_
  rintro e w4 ⟨gl, gm, dv, pv, g, R, rv, rfl, bl, gr⟩
  have BL := Lib.hid bl
  have GR := Lib.hid gr
  have U4 := Lib.hid (U3.out.ext gr.mem.lt.1)
  have B4 := Lib.hid (B3.out.ext gr.mem.lt.1)
  have hU0 : ∀ a, W64 (peekV s0 a) := fun a => gr.mem.peekU a
  have HRun := Lib.hid (alone_run (th := 0) (key := ky) HG0.out (by omega) (Int.le_refl 0) (by omega) (fun j hj => by have := HR1.out j hj; omega) (fun j hj => HK.out j) HLo0.out hU0 HL00.out 0 0 0)
  clear bl gr HL3 hU0 HG0 HLo0 HL00
  have y0 : w4.cell? ⟨w.heap.size, 0, none⟩ = some (.int .i64 t) := B4.out.cell 0
  have y1 : w4.cell? ⟨w.heap.size, 1, none⟩ = some (.int .i64 s) := B4.out.cell 1
  have y2 : w4.cell? ⟨w.heap.size, 2, none⟩ = some (.int .i64 l) := B4.out.cell 2
  have y3 : w4.cell? ⟨w.heap.size, 3, none⟩ = some (.int .i64 b) := B4.out.cell 3
  have u0 : w4.cell? ⟨w.heap.size + 1, 0, none⟩ = some (.int .u32 ky) := U4.out.cell 0
  have u1 : w4.cell? ⟨w.heap.size + 1, 1, none⟩ = some (.slice D dn dc) := U4.out.cell 1
  go_wp2_with fail
  refine (newSeek_ok w4 gl 0 32 ky).mono ?_
  rintro e w5 ⟨gs, gn, rfl, lp, lt, bn, bs, x5⟩
  have hs3 : w3.heap.size ≤ w4.heap.size := GR.out.mem.lt.1.size
  have hgl : gl < w4.heap.size := BL.out.lt
  have hnl : gl ≠ gs := by omega
  have hp0 : w3.heap.size ≤ gs := by omega
  have M5 : IsMem (fun q => (q = gl ∨ q = gs) ∨ SkM.ownB (x14 gn) q) w5 w3 w5 gm dv pv s0 := GR.out.mem.hold x5 (fun q hq => by
    have h5 := x5.size
    rcases hq with (e | e) | (⟨p, e, hq⟩ | ⟨p, e, _⟩)
    · rw [e]; exact ⟨by omega, Or.inl (Or.inr rfl)⟩
    · rw [e]; exact ⟨bs.lt, Or.inr lp⟩
    · injection e with e
      subst e
      rw [hq]; exact ⟨bn.lt, Or.inr (by simp only; omega)⟩
    · cases e)
  have T5 : Hid (SkAt (fun q => q = gl ∨ q = gs) w3 w5 gm gs gl dv pv 0 32 ky (x14 gn) s0) := Lib.hid ⟨M5, bs, fun q e => (by
    injection e with e
    subst e
    exact ⟨⟨fun hh => hh.elim (fun e => by simp only at e; omega) (fun e => by simp only at e; omega), by simp only; omega⟩, bn⟩), fun q e => (by cases e)⟩
  have L5 := Lib.hid (BL.out.ext x5)
  have B5 := Lib.hid (B4.out.ext x5)
  have U5 := Lib.hid (U4.out.ext x5)
  have W5 : Hid ((x14 gn).Wf) := Lib.hid (SkM.beg_wf (x := ⟨0, none, none, 0, 0, 0, 0, 0, 0, false, none, none⟩) ⟨by decide, i64_0, i64_0, w64_0, w64_0, fun e => e.elim (fun (e : (0 : Nat) = 1) => absurd e (by decide)) (fun (e : (0 : Nat) = 2) => absurd e (by decide)), fun _ => rfl, fun (e : (0 : Nat) = 3) => absurd e (by decide), fun _ => rfl, fun (e : 2 ≤ (0 : Nat)) => absurd e (by decide)⟩ ⟨by decide, by decide⟩ gn)
  obtain ⟨Z, hZ⟩ : ∃ Z : Nat → SkM × MSt, ∀ k, itz (layF t s l b) 0 32 ky (rdZ 1 0 0 0 32 lr0, s0) k = Z k := ⟨_, fun _ => rfl⟩
  have hZ0 : Z 0 = (rdZ 1 0 0 0 32 lr0, s0) := (hZ 0).symm
  have HZs : Hid (∀ k, ((skS (layF t s l b) 0 32 ky (Z k).1 (Z k).2 0).1.z, (skS (layF t s l b) 0 32 ky (Z k).1 (Z k).2 0).2) = Z (k + 1)) := Lib.hid (fun k => by rw [← hZ k, ← hZ (k + 1)]; rfl)
  have HZf : Hid (∀ k : Nat, Fine k (Z k).2.dev ∧ (Z k).2.dev.n ≤ 90 ∧ CalmN (100 + (k : Int)) (Z k).2) := Lib.hid (fun k => by
    induction k with
    | zero => rw [hZ0]; exact ⟨HFi.out, HNn.out, by simpa using HCa.out⟩
    | succ k ih =>
      obtain ⟨f1, f2, f3⟩ := ih
      have h := skS_keeps (n := 0) (F := (layF t s l b)) (th := 0) (head := 32) (key := ky) (x := (Z k).1) f1 f2 f3
      rw [← HZs.out k]
      refine ⟨h.1, h.2.1, ?_⟩
      rw [show (100 : Int) + ((k + 1 : Nat) : Int) = 100 + (k : Int) + 1 by omega]
      exact h.2.2)
  have HRz := HRun.out
  rw [hZ] at HRz
  obtain ⟨xf, sf, I, hZe, hfin⟩ := HRz
  have FIN := Lib.hid hfin
  have HZe := Lib.hid hZe
  have T5z : Hid (SkAt (fun q => q = gl ∨ q = gs) w3 w5 gm gs gl dv pv 0 32 ky (x14 gn) (Z 0).2) := Lib.hid (by rw [hZ0]; exact T5.out)
  have Z5 : Hid ((x14 gn).z = (Z 0).1) := Lib.hid (by rw [hZ0]; rfl)
  have hn30 : n ≤ 30 := by omega
  clear M5 bn bs x5 lp lt BL GR hs3 hgl hZ hZ0 hZe hfin T5 HFi HCa HNn HRun y0 y1 y2 y3 u0 u1 U4 B4
  go_wp2_with fail
  go_loopw [12] (fun i wr => ∃ (k : Nat) (x : SkM), k ≤ 20 * n + 20 ∧ i = .int .i64 k ∧ x.Wf ∧ x.z = (Z k).1 ∧ SkAt (fun q => q = gl ∨ q = gs) w3 wr gm gs gl dv pv 0 32 ky x (Z k).2 ∧ Blk wr gl 97 (cellsF (layF t s l b))) (fun i _ => 20 * n + 20 - (intOf i).toNat)
  case atStart => exact ⟨0, x14 gn, by omega, rfl, W5.out, Z5.out, T5z.out, L5.out⟩
  case round =>
    obtain ⟨k, x, hk, rfl, hw, hz, ta, bl⟩ := hrel
    have WK := Lib.hid hw
    have ZK := Lib.hid hz
    have TK := Lib.hid ta
    have LK := Lib.hid bl
    clear hw hz ta bl T5z L5 W5 Z5
    have e20 : IntKind.i64.wrap (20 * (n : Int)) = 20 * (n : Int) := i64w _ (by omega) (by omega)
    have e21 : IntKind.i64.wrap (20 * (n : Int) + 20) = 20 * (n : Int) + 20 := i64w _ (by omega) (by omega)
    by_cases hlt : k < 20 * n + 20
    · have v2 : decide ((k : Int) < 20 * (n : Int) + 20) = true := by simp; omega
      obtain ⟨f1, f2, f3⟩ := HZf.out k
      have HS := Lib.hid (skPart_ok (F := (layF t s l b)) (i := k) TK.out (f3.calm (by omega)) (by omega) f1 HOk.out (fun a => TK.out.mem.peekU a) HKy.out WK.out LK.out (Or.inr rfl) (Or.inl rfl) hnl hp0)
      have HWf := Lib.hid (fun n => skS_wf (F := (layF t s l b)) (th := 0) (head := 32) (key := ky) (n := n) HOk.out ⟨by decide, by decide⟩ (fun a => TK.out.mem.peekU a) WK.out)
      clear f1 f2 f3
      go_wp2_with fail
      refine HS.out.mono ?_
      rintro e w6 ⟨rfl, n1, a6, k6⟩
      obtain ⟨z1, z2⟩ := skS_z (layF t s l b) 0 32 ky x (Z k).2 n1
      rw [ZK.out] at z1 z2
      have e1 : (skS (layF t s l b) 0 32 ky (Z k).1 (Z k).2 0).1.z = (Z (k + 1)).1 := by rw [← HZs.out k]
      have e2 : (skS (layF t s l b) 0 32 ky (Z k).1 (Z k).2 0).2 = (Z (k + 1)).2 := by rw [← HZs.out k]
      rw [e1] at z1
      rw [e2] at z2
      rw [z2] at a6
      have A6 := Lib.hid a6
      have Z6 := Lib.hid z1
      have W6 := Lib.hid (HWf.out n1)
      have L6 : Hid (Blk w6 gl 97 (cellsF (layF t s l b))) := Lib.hid ((k6 gl (Or.inl rfl) hnl).trans LK.out)
      generalize decide ((skS (layF t s l b) 0 32 ky x (Z k).2 0).1.part = 0) = bd at *
      clear a6 k6 z1 z2 e1 e2 HS HWf TK LK WK ZK
      generalize (skS (layF t s l b) 0 32 ky x (Z k).2 n1).1 = x' at *
      go_wp2_with fail
      go_roundw
      case rel => exact ⟨k + 1, x', by omega, by go_num, W6.out, Z6.out, A6.out, L6.out⟩
      case measure => simp [intOf]; omega
    · have v2 : decide ((k : Int) < 20 * (n : Int) + 20) = false := by simp; omega
      obtain rfl : k = 20 * n + 20 := by omega
      have TE : SkAt (fun q => q = gl ∨ q = gs) w3 wr gm gs gl dv pv 0 32 ky x sf := by have h := TK.out; rw [HZe.out] at h; exact h
      have ZE : x.z = xf := by rw [ZK.out, HZe.out]
      have p0 : x.part = 0 := by rw [← FIN.out.part, ← ZE]; rfl
      have p1 : x.fnd = xf.fnd := by rw [← ZE]; rfl
      have p2 : x.fat = xf.fat := by rw [← ZE]; rfl
      have p3 : x.fwd = xf.fwd := by rw [← ZE]; rfl
      have TE0 := Lib.hid TE
      have HP := Lib.hid (And.intro p0 (And.intro p1 (And.intro p2 p3)))
      have hI := FIN.out.il
      have XW := Lib.hid (X3.out.trans TE.mem.lt.1)
      have hW4 := TE.mem.lt.1
      clear TE ZE p0 p1 p2 p3 TK ZK HZe HZs HZf X3
      generalize hwr : wr = w7 at *
      clear hwr
      have BB : Hid (∀ W, Ext w7 W → Blk W w.heap.size 23 [.int .i64 t, .int .i64 s, .int .i64 l, .int .i64 b] ∧ Blk W (w.heap.size + 1) 28 [.int .u32 ky, .slice D dn dc]) := Lib.hid (fun W y => ⟨(B3.out.ext hW4).ext y, (U3.out.ext hW4).ext y⟩)
      go_wp2_with fail
      have HNo : Hid (∀ W k, Ext w7 W → k < n → ∃ ad, A = some ad ∧ W.cell? (ad.add (k * 2)) = some (.int .u32 (ndK nl k)) ∧ W.cell? ⟨(ad.add (k * 2)).block, (ad.add (k * 2)).off + 1, none⟩ = some (.int .i64 (ndB nl k))) := Lib.hid (fun W k x hk => by
        obtain ⟨ad, e, hl, hc⟩ := HNd.out W (XW.out.trans x) (by omega)
        obtain ⟨c1, c2⟩ := hc k (by omega)
        exact ⟨ad, e, c1, c2⟩)
      have HNx := Lib.hid (fun (j : Int) W => rNext_ok HC.out j W)
      clear HNd
      go_loopw [13, 14, 15, 16, 17, 18] (fun wv fo pr cu i lv wr => ∃ (k : Nat) (vv : Value), k ≤ n ∧ i = .int .i64 k ∧ vv = wv ∧ Row wr w7.heap.size 3 .i64 vv (wlF nl I k) ∧ fo = .int .i64 (foF nl I ky k) ∧ pr = .int .i64 (prF (layF t s l b) nl I k) ∧ cu = .int .i64 (cuF I k) ∧ Ext w7 wr) (fun _ _ _ _ i _ _ => n - (intOf i).toNat)
      case atStart => exact ⟨0, _, Nat.zero_le _, rfl, rfl, (by unfold wlF; rw [want_len0]; exact Row.nil _ _ _ _), (by unfold foF; rw [if_neg (fun q => absurd q.1 (by omega))]), (by unfold prF liveL; simp [plc]), (by unfold cuF; rw [if_neg (by omega)]), Ext.refl _⟩
      case round =>
        obtain ⟨k, vv, hk, rfl, rfl, row, efo, epr, ecu, xk⟩ := hrel
        have RW := Lib.hid row
        have XK := Lib.hid xk
        clear row xk
        by_cases hlt : k < n
        · have v1 : decide (k < n) = true := by simp; omega
          have v2 : decide ((k : Int) < (n : Int)) = true := by simp; omega
          obtain ⟨ad, e0, -, -⟩ := HNo.out wr k XK.out hlt
          have HNk : Hid (∀ W, Ext w7 W → W.cell? (ad.add (k * 2)) = some (.int .u32 (ndK nl k)) ∧ W.cell? ⟨(ad.add (k * 2)).block, (ad.add (k * 2)).off + 1, none⟩ = some (.int .i64 (ndB nl k))) := Lib.hid (fun W x => by
            obtain ⟨ad', e1, c1, c2⟩ := HNo.out W k x hlt
            rw [e0] at e1
            injection e1 with e1
            subst e1
            exact ⟨c1, c2⟩)
          have HWl : Hid ((wlF nl I k).length < 1000000000) := Lib.hid (by have := wlF_len nl I k; omega)
          subst e0
          clear HNo TE0
          by_cases hkI : k < I
          · by_cases hz : ndB nl k = -1
            · have HW1 : Hid (wlF nl I (k + 1) = wlF nl I k ++ [(k : Int)]) := Lib.hid (wlF_app (by rw [want_lo hkI, if_pos hz]))
              have f0 : foF nl I ky k = -1 := by unfold foF; rw [if_neg (fun q => absurd q.1 (by omega))]
              have HF1 : Hid (foF nl I ky (k + 1) = -1) := Lib.hid (by unfold foF; rw [if_neg (fun q => absurd q.1 (by omega))])
              have HP1 : Hid (prF (layF t s l b) nl I (k + 1) = nxtN (layF t s l b) (k : Nat)) := Lib.hid (prF_live hkI hz)
              have c0 : cuF I k = -1 := by unfold cuF; rw [if_neg (by omega)]
              have HC1 : Hid (cuF I (k + 1) = -1) := Lib.hid (by unfold cuF; rw [if_neg (by omega)])
              rw [f0] at efo
              rw [c0] at ecu
              clear f0 c0
              have hkk := FIN.out.lo k hkI hz
              have d1 : decide (ndK nl k < ky) = true := decide_eq_true hkk
              have d2 : (ndK nl k == ky) = false := by rw [beq_eq_false_iff_ne]; omega
              have d3 : decide (ndK nl k = ky) = false := by simp; omega
              have d4 : decide (ky ≤ ndK nl k) = false := by simp; omega
              rw [hz] at HNk
              clear hkk hz
              generalize ndK nl k = kz at *
              generalize prF (layF t s l b) nl I k = pr0 at *
              generalize wlF nl I k = wl0 at *
              subst efo epr ecu
              have R10 := RW
              have X10 := XK
              clear RW XK
              obtain ⟨p0, p1⟩ := HNk.out wr X10.out
              obtain ⟨cb, ub⟩ := BB.out wr X10.out
              have y0 : wr.cell? ⟨w.heap.size, 0, none⟩ = some (.int .i64 t) := cb.cell 0
              have y1 : wr.cell? ⟨w.heap.size, 1, none⟩ = some (.int .i64 s) := cb.cell 1
              have y2 : wr.cell? ⟨w.heap.size, 2, none⟩ = some (.int .i64 l) := cb.cell 2
              have y3 : wr.cell? ⟨w.heap.size, 3, none⟩ = some (.int .i64 b) := cb.cell 3
              have u0 : wr.cell? ⟨w.heap.size + 1, 0, none⟩ = some (.int .u32 ky) := ub.cell 0
              have u1 : wr.cell? ⟨w.heap.size + 1, 1, none⟩ = some (.slice D dn dc) := ub.cell 1
              clear cb ub
              go_wp2_with fail
              go_quiet (fail)
              have X11 := Lib.hid (ext_drewN X10.out nq)
              have R11 := Lib.hid (R10.out.ext (ext_drewN (Ext.refl _) nq))
              clear p0 p1 y0 y1 y2 y3 u0 u1
              generalize wr.drewN nq = wq1 at *
              clear X10 R10
              obtain ⟨p0, p1⟩ := HNk.out wq1 X11.out
              obtain ⟨cb, ub⟩ := BB.out wq1 X11.out
              have y0 : wq1.cell? ⟨w.heap.size, 0, none⟩ = some (.int .i64 t) := cb.cell 0
              have y1 : wq1.cell? ⟨w.heap.size, 1, none⟩ = some (.int .i64 s) := cb.cell 1
              have y2 : wq1.cell? ⟨w.heap.size, 2, none⟩ = some (.int .i64 l) := cb.cell 2
              have y3 : wq1.cell? ⟨w.heap.size, 3, none⟩ = some (.int .i64 b) := cb.cell 3
              have u0 : wq1.cell? ⟨w.heap.size + 1, 0, none⟩ = some (.int .u32 ky) := ub.cell 0
              have u1 : wq1.cell? ⟨w.heap.size + 1, 1, none⟩ = some (.slice D dn dc) := ub.cell 1
              clear cb ub
              go_wp2_with fail
              refine (HNx.out _ _).mono ?_
              rintro e wn ⟨rfl, xn⟩
              have X12 := Lib.hid (X11.out.trans xn)
              have R12 := Lib.hid (R11.out.ext xn)
              clear p0 p1 y0 y1 y2 y3 u0 u1
              clear xn X11 R11
              obtain ⟨p0, p1⟩ := HNk.out wn X12.out
              obtain ⟨cb, ub⟩ := BB.out wn X12.out
              have y0 : wn.cell? ⟨w.heap.size, 0, none⟩ = some (.int .i64 t) := cb.cell 0
              have y1 : wn.cell? ⟨w.heap.size, 1, none⟩ = some (.int .i64 s) := cb.cell 1
              have y2 : wn.cell? ⟨w.heap.size, 2, none⟩ = some (.int .i64 l) := cb.cell 2
              have y3 : wn.cell? ⟨w.heap.size, 3, none⟩ = some (.int .i64 b) := cb.cell 3
              have u0 : wn.cell? ⟨w.heap.size + 1, 0, none⟩ = some (.int .u32 ky) := ub.cell 0
              have u1 : wn.cell? ⟨w.heap.size + 1, 1, none⟩ = some (.slice D dn dc) := ub.cell 1
              clear cb ub
              go_wp2_with fail
              go_quiet (fail)
              have X13 := Lib.hid (ext_drewN X12.out nq)
              have R13 := Lib.hid (R12.out.ext (ext_drewN (Ext.refl _) nq))
              clear p0 p1 y0 y1 y2 y3 u0 u1
              generalize wn.drewN nq = wq2 at *
              clear X12 R12
              obtain ⟨p0, p1⟩ := HNk.out wq2 X13.out
              obtain ⟨cb, ub⟩ := BB.out wq2 X13.out
              have y0 : wq2.cell? ⟨w.heap.size, 0, none⟩ = some (.int .i64 t) := cb.cell 0
              have y1 : wq2.cell? ⟨w.heap.size, 1, none⟩ = some (.int .i64 s) := cb.cell 1
              have y2 : wq2.cell? ⟨w.heap.size, 2, none⟩ = some (.int .i64 l) := cb.cell 2
              have y3 : wq2.cell? ⟨w.heap.size, 3, none⟩ = some (.int .i64 b) := cb.cell 3
              have u0 : wq2.cell? ⟨w.heap.size + 1, 0, none⟩ = some (.int .u32 ky) := ub.cell 0
              have u1 : wq2.cell? ⟨w.heap.size + 1, 1, none⟩ = some (.slice D dn dc) := ub.cell 1
              clear cb ub
              go_wp2_with fail
              go_quiet (fail)
              have X14 := Lib.hid (ext_drewN X13.out nq)
              have R14 := Lib.hid (R13.out.ext (ext_drewN (Ext.refl _) nq))
              clear p0 p1 y0 y1 y2 y3 u0 u1
              generalize wq2.drewN nq = wq3 at *
              clear X13 R13
              obtain ⟨p0, p1⟩ := HNk.out wq3 X14.out
              obtain ⟨cb, ub⟩ := BB.out wq3 X14.out
              have y0 : wq3.cell? ⟨w.heap.size, 0, none⟩ = some (.int .i64 t) := cb.cell 0
              have y1 : wq3.cell? ⟨w.heap.size, 1, none⟩ = some (.int .i64 s) := cb.cell 1
              have y2 : wq3.cell? ⟨w.heap.size, 2, none⟩ = some (.int .i64 l) := cb.cell 2
              have y3 : wq3.cell? ⟨w.heap.size, 3, none⟩ = some (.int .i64 b) := cb.cell 3
              have u0 : wq3.cell? ⟨w.heap.size + 1, 0, none⟩ = some (.int .u32 ky) := ub.cell 0
              have u1 : wq3.cell? ⟨w.heap.size + 1, 1, none⟩ = some (.slice D dn dc) := ub.cell 1
              clear cb ub
              go_wp2_with ((at_builtin; refine Hid.out ?_))
              refine Lib.hid ?_
              refine wpList_push rfl _ _ 44 rfl 3 .i64 8 int_info (by decide) Tryz.underlying44 w7 _ vv _ (k : Int) (by rfl) R14.out X14.out (by rfl) HWl.out ?_
              intro v' w15 h1 h2
              have R15 := Lib.hid h1
              have X15 := Lib.hid h2
              clear h1 h2 p0 p1 y0 y1 y2 y3 u0 u1 R14 X14
              go_wp2_with fail
              refine ⟨?_, ?measure⟩
              repeat' apply Exists.intro
              refine ⟨?rel, rfl⟩
              case rel => exact ⟨k + 1, v', by omega, by go_num, rfl, by rw [HW1.out]; exact R15.out, by rw [HF1.out], by rw [HP1.out], by rw [HC1.out], X15.out⟩
              case measure => simp [intOf]; omega
            · have HW1 : Hid (wlF nl I (k + 1) = wlF nl I k) := Lib.hid (by unfold wlF; rw [want_lo hkI, if_neg hz])
              have f0 : foF nl I ky k = -1 := by unfold foF; rw [if_neg (fun q => absurd q.1 (by omega))]
              have HF1 : Hid (foF nl I ky (k + 1) = -1) := Lib.hid (by unfold foF; rw [if_neg (fun q => absurd q.1 (by omega))])
              have HP1 : Hid (prF (layF t s l b) nl I (k + 1) = prF (layF t s l b) nl I k) := Lib.hid (prF_gone hkI hz)
              have c0 : cuF I k = -1 := by unfold cuF; rw [if_neg (by omega)]
              have HC1 : Hid (cuF I (k + 1) = -1) := Lib.hid (by unfold cuF; rw [if_neg (by omega)])
              rw [f0] at efo
              rw [c0] at ecu
              clear f0 c0
              obtain ⟨e1, hd1⟩ : ∃ e1, decide (ndK nl k < ky) = e1 := ⟨_, rfl⟩
              have h1 : (ndB nl k == -1) = false := by rw [beq_eq_false_iff_ne]; exact hz
              have h2 : decide (ndB nl k = -1) = false := by simpa using hz
              generalize ndB nl k = z at *
              clear hz
              generalize ndK nl k = kz at *
              generalize prF (layF t s l b) nl I k = pr0 at *
              generalize wlF nl I k = wl0 at *
              subst efo epr ecu
              cases e1
              all_goals
                have R10 := RW
                have X10 := XK
                clear RW XK
                obtain ⟨p0, p1⟩ := HNk.out wr X10.out
                obtain ⟨cb, ub⟩ := BB.out wr X10.out
                have y0 : wr.cell? ⟨w.heap.size, 0, none⟩ = some (.int .i64 t) := cb.cell 0
                have y1 : wr.cell? ⟨w.heap.size, 1, none⟩ = some (.int .i64 s) := cb.cell 1
                have y2 : wr.cell? ⟨w.heap.size, 2, none⟩ = some (.int .i64 l) := cb.cell 2
                have y3 : wr.cell? ⟨w.heap.size, 3, none⟩ = some (.int .i64 b) := cb.cell 3
                have u0 : wr.cell? ⟨w.heap.size + 1, 0, none⟩ = some (.int .u32 ky) := ub.cell 0
                have u1 : wr.cell? ⟨w.heap.size + 1, 1, none⟩ = some (.slice D dn dc) := ub.cell 1
                clear cb ub
                go_wp2_with fail
                go_quiet (fail)
                have X11 := Lib.hid (ext_drewN X10.out nq)
                have R11 := Lib.hid (R10.out.ext (ext_drewN (Ext.refl _) nq))
                clear p0 p1 y0 y1 y2 y3 u0 u1
                generalize wr.drewN nq = wq1 at *
                clear X10 R10
                obtain ⟨p0, p1⟩ := HNk.out wq1 X11.out
                obtain ⟨cb, ub⟩ := BB.out wq1 X11.out
                have y0 : wq1.cell? ⟨w.heap.size, 0, none⟩ = some (.int .i64 t) := cb.cell 0
                have y1 : wq1.cell? ⟨w.heap.size, 1, none⟩ = some (.int .i64 s) := cb.cell 1
                have y2 : wq1.cell? ⟨w.heap.size, 2, none⟩ = some (.int .i64 l) := cb.cell 2
                have y3 : wq1.cell? ⟨w.heap.size, 3, none⟩ = some (.int .i64 b) := cb.cell 3
                have u0 : wq1.cell? ⟨w.heap.size + 1, 0, none⟩ = some (.int .u32 ky) := ub.cell 0
                have u1 : wq1.cell? ⟨w.heap.size + 1, 1, none⟩ = some (.slice D dn dc) := ub.cell 1
                clear cb ub
                go_wp2_with fail
                have X12 := X11
                have R12 := R11
                clear X11 R11
                go_quiet (fail)
                have X13 := Lib.hid (ext_drewN X12.out nq)
                have R13 := Lib.hid (R12.out.ext (ext_drewN (Ext.refl _) nq))
                clear p0 p1 y0 y1 y2 y3 u0 u1
                generalize wq1.drewN nq = wq2 at *
                clear X12 R12
                obtain ⟨p0, p1⟩ := HNk.out wq2 X13.out
                obtain ⟨cb, ub⟩ := BB.out wq2 X13.out
                have y0 : wq2.cell? ⟨w.heap.size, 0, none⟩ = some (.int .i64 t) := cb.cell 0
                have y1 : wq2.cell? ⟨w.heap.size, 1, none⟩ = some (.int .i64 s) := cb.cell 1
                have y2 : wq2.cell? ⟨w.heap.size, 2, none⟩ = some (.int .i64 l) := cb.cell 2
                have y3 : wq2.cell? ⟨w.heap.size, 3, none⟩ = some (.int .i64 b) := cb.cell 3
                have u0 : wq2.cell? ⟨w.heap.size + 1, 0, none⟩ = some (.int .u32 ky) := ub.cell 0
                have u1 : wq2.cell? ⟨w.heap.size + 1, 1, none⟩ = some (.slice D dn dc) := ub.cell 1
                clear cb ub
                go_wp2_with fail
                go_quiet (fail)
                have X14 := Lib.hid (ext_drewN X13.out nq)
                have R14 := Lib.hid (R13.out.ext (ext_drewN (Ext.refl _) nq))
                clear p0 p1 y0 y1 y2 y3 u0 u1
                generalize wq2.drewN nq = wq3 at *
                clear X13 R13
                obtain ⟨p0, p1⟩ := HNk.out wq3 X14.out
                obtain ⟨cb, ub⟩ := BB.out wq3 X14.out
                have y0 : wq3.cell? ⟨w.heap.size, 0, none⟩ = some (.int .i64 t) := cb.cell 0
                have y1 : wq3.cell? ⟨w.heap.size, 1, none⟩ = some (.int .i64 s) := cb.cell 1
                have y2 : wq3.cell? ⟨w.heap.size, 2, none⟩ = some (.int .i64 l) := cb.cell 2
                have y3 : wq3.cell? ⟨w.heap.size, 3, none⟩ = some (.int .i64 b) := cb.cell 3
                have u0 : wq3.cell? ⟨w.heap.size + 1, 0, none⟩ = some (.int .u32 ky) := ub.cell 0
                have u1 : wq3.cell? ⟨w.heap.size + 1, 1, none⟩ = some (.slice D dn dc) := ub.cell 1
                clear cb ub
                go_wp2_with fail
                go_roundw
                case rel => exact ⟨k + 1, vv, by omega, by go_num, rfl, by rw [HW1.out]; exact R14.out, by rw [HF1.out], by rw [HP1.out], by rw [HC1.out], X14.out⟩
                case measure => simp [intOf]; omega
          · by_cases hkI2 : k = I
            · have hkI0 := hkI2
              clear hkI
              have hkI := hkI0
              clear hkI0 hkI2
              have HW1 : Hid (wlF nl I (k + 1) = wlF nl I k ++ [(k : Int)]) := Lib.hid (wlF_app (want_hi (by omega)))
              have f0 : foF nl I ky k = -1 := by unfold foF; rw [if_neg (fun q => absurd q.1 (by omega))]
              have HF1 : Hid (foF nl I ky (k + 1) = if ndK nl k = ky then (k : Int) else -1) := Lib.hid (by unfold foF; rw [← hkI]; by_cases q : ndK nl k = ky <;> simp [q])
              have HP1 : Hid (prF (layF t s l b) nl I (k + 1) = prF (layF t s l b) nl I k) := Lib.hid (prF_hi (by omega))
              have c0 : cuF I k = -1 := by unfold cuF; rw [if_neg (by omega)]
              have HC1 : Hid (cuF I (k + 1) = (k : Int)) := Lib.hid (by unfold cuF; rw [if_pos (by omega), hkI])
              rw [f0] at efo
              rw [c0] at ecu
              clear f0 c0
              obtain ⟨hz, hkk⟩ := FIN.out.hi (by omega)
              rw [← hkI] at hz hkk
              have d1 : decide (ndK nl k < ky) = false := by simp; omega
              have d4 : decide (ky ≤ ndK nl k) = true := by simp; omega
              rw [hz] at HNk
              clear hz
              by_cases hq : ndK nl k = ky
              · rw [if_pos hq] at HF1
                have d2 : (ndK nl k == ky) = true := by rw [hq]; simp
                have d3 : decide (ndK nl k = ky) = true := by simp [hq]
                clear hkk hq hkI
                generalize ndK nl k = kz at *
                generalize prF (layF t s l b) nl I k = pr0 at *
                generalize wlF nl I k = wl0 at *
                subst efo epr ecu
                have R10 := RW
                have X10 := XK
                clear RW XK
                obtain ⟨p0, p1⟩ := HNk.out wr X10.out
                obtain ⟨cb, ub⟩ := BB.out wr X10.out
                have y0 : wr.cell? ⟨w.heap.size, 0, none⟩ = some (.int .i64 t) := cb.cell 0
                have y1 : wr.cell? ⟨w.heap.size, 1, none⟩ = some (.int .i64 s) := cb.cell 1
                have y2 : wr.cell? ⟨w.heap.size, 2, none⟩ = some (.int .i64 l) := cb.cell 2
                have y3 : wr.cell? ⟨w.heap.size, 3, none⟩ = some (.int .i64 b) := cb.cell 3
                have u0 : wr.cell? ⟨w.heap.size + 1, 0, none⟩ = some (.int .u32 ky) := ub.cell 0
                have u1 : wr.cell? ⟨w.heap.size + 1, 1, none⟩ = some (.slice D dn dc) := ub.cell 1
                clear cb ub
                go_wp2_with fail
                go_quiet (fail)
                have X11 := Lib.hid (ext_drewN X10.out nq)
                have R11 := Lib.hid (R10.out.ext (ext_drewN (Ext.refl _) nq))
                clear p0 p1 y0 y1 y2 y3 u0 u1
                generalize wr.drewN nq = wq1 at *
                clear X10 R10
                obtain ⟨p0, p1⟩ := HNk.out wq1 X11.out
                obtain ⟨cb, ub⟩ := BB.out wq1 X11.out
                have y0 : wq1.cell? ⟨w.heap.size, 0, none⟩ = some (.int .i64 t) := cb.cell 0
                have y1 : wq1.cell? ⟨w.heap.size, 1, none⟩ = some (.int .i64 s) := cb.cell 1
                have y2 : wq1.cell? ⟨w.heap.size, 2, none⟩ = some (.int .i64 l) := cb.cell 2
                have y3 : wq1.cell? ⟨w.heap.size, 3, none⟩ = some (.int .i64 b) := cb.cell 3
                have u0 : wq1.cell? ⟨w.heap.size + 1, 0, none⟩ = some (.int .u32 ky) := ub.cell 0
                have u1 : wq1.cell? ⟨w.heap.size + 1, 1, none⟩ = some (.slice D dn dc) := ub.cell 1
                clear cb ub
                go_wp2_with fail
                have X12 := X11
                have R12 := R11
                clear X11 R11
                go_quiet (fail)
                have X13 := Lib.hid (ext_drewN X12.out nq)
                have R13 := Lib.hid (R12.out.ext (ext_drewN (Ext.refl _) nq))
                clear p0 p1 y0 y1 y2 y3 u0 u1
                generalize wq1.drewN nq = wq2 at *
                clear X12 R12
                obtain ⟨p0, p1⟩ := HNk.out wq2 X13.out
                obtain ⟨cb, ub⟩ := BB.out wq2 X13.out
                have y0 : wq2.cell? ⟨w.heap.size, 0, none⟩ = some (.int .i64 t) := cb.cell 0
                have y1 : wq2.cell? ⟨w.heap.size, 1, none⟩ = some (.int .i64 s) := cb.cell 1
                have y2 : wq2.cell? ⟨w.heap.size, 2, none⟩ = some (.int .i64 l) := cb.cell 2
                have y3 : wq2.cell? ⟨w.heap.size, 3, none⟩ = some (.int .i64 b) := cb.cell 3
                have u0 : wq2.cell? ⟨w.heap.size + 1, 0, none⟩ = some (.int .u32 ky) := ub.cell 0
                have u1 : wq2.cell? ⟨w.heap.size + 1, 1, none⟩ = some (.slice D dn dc) := ub.cell 1
                clear cb ub
                go_wp2_with fail
                go_quiet (fail)
                have X14 := Lib.hid (ext_drewN X13.out nq)
                have R14 := Lib.hid (R13.out.ext (ext_drewN (Ext.refl _) nq))
                clear p0 p1 y0 y1 y2 y3 u0 u1
                generalize wq2.drewN nq = wq3 at *
                clear X13 R13
                obtain ⟨p0, p1⟩ := HNk.out wq3 X14.out
                obtain ⟨cb, ub⟩ := BB.out wq3 X14.out
                have y0 : wq3.cell? ⟨w.heap.size, 0, none⟩ = some (.int .i64 t) := cb.cell 0
                have y1 : wq3.cell? ⟨w.heap.size, 1, none⟩ = some (.int .i64 s) := cb.cell 1
                have y2 : wq3.cell? ⟨w.heap.size, 2, none⟩ = some (.int .i64 l) := cb.cell 2
                have y3 : wq3.cell? ⟨w.heap.size, 3, none⟩ = some (.int .i64 b) := cb.cell 3
                have u0 : wq3.cell? ⟨w.heap.size + 1, 0, none⟩ = some (.int .u32 ky) := ub.cell 0
                have u1 : wq3.cell? ⟨w.heap.size + 1, 1, none⟩ = some (.slice D dn dc) := ub.cell 1
                clear cb ub
                go_wp2_with ((at_builtin; refine Hid.out ?_))
                refine Lib.hid ?_
                refine wpList_push rfl _ _ 44 rfl 3 .i64 8 int_info (by decide) Tryz.underlying44 w7 _ vv _ (k : Int) (by rfl) R14.out X14.out (by rfl) HWl.out ?_
                intro v' w15 h1 h2
                have R15 := Lib.hid h1
                have X15 := Lib.hid h2
                clear h1 h2 p0 p1 y0 y1 y2 y3 u0 u1 R14 X14
                go_wp2_with fail
                refine ⟨?_, ?measure⟩
                repeat' apply Exists.intro
                refine ⟨?rel, rfl⟩
                case rel => exact ⟨k + 1, v', by omega, by go_num, rfl, by rw [HW1.out]; exact R15.out, by rw [HF1.out], by rw [HP1.out], by rw [HC1.out], X15.out⟩
                case measure => simp [intOf]; omega
              · rw [if_neg hq] at HF1
                have d2 : (ndK nl k == ky) = false := by rw [beq_eq_false_iff_ne]; exact hq
                have d3 : decide (ndK nl k = ky) = false := by simpa using hq
                clear hkk hq hkI
                generalize ndK nl k = kz at *
                generalize prF (layF t s l b) nl I k = pr0 at *
                generalize wlF nl I k = wl0 at *
                subst efo epr ecu
                have R10 := RW
                have X10 := XK
                clear RW XK
                obtain ⟨p0, p1⟩ := HNk.out wr X10.out
                obtain ⟨cb, ub⟩ := BB.out wr X10.out
                have y0 : wr.cell? ⟨w.heap.size, 0, none⟩ = some (.int .i64 t) := cb.cell 0
                have y1 : wr.cell? ⟨w.heap.size, 1, none⟩ = some (.int .i64 s) := cb.cell 1
                have y2 : wr.cell? ⟨w.heap.size, 2, none⟩ = some (.int .i64 l) := cb.cell 2
                have y3 : wr.cell? ⟨w.heap.size, 3, none⟩ = some (.int .i64 b) := cb.cell 3
                have u0 : wr.cell? ⟨w.heap.size + 1, 0, none⟩ = some (.int .u32 ky) := ub.cell 0
                have u1 : wr.cell? ⟨w.heap.size + 1, 1, none⟩ = some (.slice D dn dc) := ub.cell 1
                clear cb ub
                go_wp2_with fail
                go_quiet (fail)
                have X11 := Lib.hid (ext_drewN X10.out nq)
                have R11 := Lib.hid (R10.out.ext (ext_drewN (Ext.refl _) nq))
                clear p0 p1 y0 y1 y2 y3 u0 u1
                generalize wr.drewN nq = wq1 at *
                clear X10 R10
                obtain ⟨p0, p1⟩ := HNk.out wq1 X11.out
                obtain ⟨cb, ub⟩ := BB.out wq1 X11.out
                have y0 : wq1.cell? ⟨w.heap.size, 0, none⟩ = some (.int .i64 t) := cb.cell 0
                have y1 : wq1.cell? ⟨w.heap.size, 1, none⟩ = some (.int .i64 s) := cb.cell 1
                have y2 : wq1.cell? ⟨w.heap.size, 2, none⟩ = some (.int .i64 l) := cb.cell 2
                have y3 : wq1.cell? ⟨w.heap.size, 3, none⟩ = some (.int .i64 b) := cb.cell 3
                have u0 : wq1.cell? ⟨w.heap.size + 1, 0, none⟩ = some (.int .u32 ky) := ub.cell 0
                have u1 : wq1.cell? ⟨w.heap.size + 1, 1, none⟩ = some (.slice D dn dc) := ub.cell 1
                clear cb ub
                go_wp2_with fail
                have X12 := X11
                have R12 := R11
                clear X11 R11
                go_quiet (fail)
                have X13 := Lib.hid (ext_drewN X12.out nq)
                have R13 := Lib.hid (R12.out.ext (ext_drewN (Ext.refl _) nq))
                clear p0 p1 y0 y1 y2 y3 u0 u1
                generalize wq1.drewN nq = wq2 at *
                clear X12 R12
                obtain ⟨p0, p1⟩ := HNk.out wq2 X13.out
                obtain ⟨cb, ub⟩ := BB.out wq2 X13.out
                have y0 : wq2.cell? ⟨w.heap.size, 0, none⟩ = some (.int .i64 t) := cb.cell 0
                have y1 : wq2.cell? ⟨w.heap.size, 1, none⟩ = some (.int .i64 s) := cb.cell 1
                have y2 : wq2.cell? ⟨w.heap.size, 2, none⟩ = some (.int .i64 l) := cb.cell 2
                have y3 : wq2.cell? ⟨w.heap.size, 3, none⟩ = some (.int .i64 b) := cb.cell 3
                have u0 : wq2.cell? ⟨w.heap.size + 1, 0, none⟩ = some (.int .u32 ky) := ub.cell 0
                have u1 : wq2.cell? ⟨w.heap.size + 1, 1, none⟩ = some (.slice D dn dc) := ub.cell 1
                clear cb ub
                go_wp2_with fail
                go_quiet (fail)
                have X14 := Lib.hid (ext_drewN X13.out nq)
                have R14 := Lib.hid (R13.out.ext (ext_drewN (Ext.refl _) nq))
                clear p0 p1 y0 y1 y2 y3 u0 u1
                generalize wq2.drewN nq = wq3 at *
                clear X13 R13
                obtain ⟨p0, p1⟩ := HNk.out wq3 X14.out
                obtain ⟨cb, ub⟩ := BB.out wq3 X14.out
                have y0 : wq3.cell? ⟨w.heap.size, 0, none⟩ = some (.int .i64 t) := cb.cell 0
                have y1 : wq3.cell? ⟨w.heap.size, 1, none⟩ = some (.int .i64 s) := cb.cell 1
                have y2 : wq3.cell? ⟨w.heap.size, 2, none⟩ = some (.int .i64 l) := cb.cell 2
                have y3 : wq3.cell? ⟨w.heap.size, 3, none⟩ = some (.int .i64 b) := cb.cell 3
                have u0 : wq3.cell? ⟨w.heap.size + 1, 0, none⟩ = some (.int .u32 ky) := ub.cell 0
                have u1 : wq3.cell? ⟨w.heap.size + 1, 1, none⟩ = some (.slice D dn dc) := ub.cell 1
                clear cb ub
                go_wp2_with ((at_builtin; refine Hid.out ?_))
                refine Lib.hid ?_
                refine wpList_push rfl _ _ 44 rfl 3 .i64 8 int_info (by decide) Tryz.underlying44 w7 _ vv _ (k : Int) (by rfl) R14.out X14.out (by rfl) HWl.out ?_
                intro v' w15 h1 h2
                have R15 := Lib.hid h1
                have X15 := Lib.hid h2
                clear h1 h2 p0 p1 y0 y1 y2 y3 u0 u1 R14 X14
                go_wp2_with fail
                refine ⟨?_, ?measure⟩
                repeat' apply Exists.intro
                refine ⟨?rel, rfl⟩
                case rel => exact ⟨k + 1, v', by omega, by go_num, rfl, by rw [HW1.out]; exact R15.out, by rw [HF1.out], by rw [HP1.out], by rw [HC1.out], X15.out⟩
                case measure => simp [intOf]; omega
            · have HW1 : Hid (wlF nl I (k + 1) = wlF nl I k ++ [(k : Int)]) := Lib.hid (wlF_app (want_hi (by omega)))
              have f0 : foF nl I ky k = foF nl I ky k := rfl
              have HF1 : Hid (foF nl I ky (k + 1) = foF nl I ky k) := Lib.hid (by unfold foF; by_cases q : ndK nl I = ky <;> simp [q, show I < k by omega, show I < k + 1 by omega])
              have HP1 : Hid (prF (layF t s l b) nl I (k + 1) = prF (layF t s l b) nl I k) := Lib.hid (prF_hi (by omega))
              have c0 : cuF I k = (I : Int) := by unfold cuF; rw [if_pos (by omega)]
              have HC1 : Hid (cuF I (k + 1) = (I : Int)) := Lib.hid (by unfold cuF; rw [if_pos (by omega)])
              rw [f0] at efo
              rw [c0] at ecu
              clear f0 c0
              have hkk : ky < ndK nl k := by
                have h1 := (FIN.out.hi (by omega)).2
                have h2 := rise_mono HR2.out (i := I) (k - I - 1) (by omega)
                rw [show I + (k - I - 1) + 1 = k by omega] at h2
                omega
              have d1 : decide (ndK nl k < ky) = false := by simp; omega
              have d2 : (ndK nl k == ky) = false := by rw [beq_eq_false_iff_ne]; omega
              have d3 : decide (ndK nl k = ky) = false := by simp; omega
              have d4 : decide (ky ≤ ndK nl k) = true := by simp; omega
              have i1 : ((I : Int) == -1) = false := by rw [beq_eq_false_iff_ne]; omega
              have i2 : decide ((I : Int) = -1) = false := decide_eq_false (by omega)
              have i3 : ((I : Int) != -1) = true := by rw [bne_iff_ne]; omega
              clear hkk
              generalize ndK nl k = kz at *
              generalize foF nl I ky k = fo0 at *
              generalize prF (layF t s l b) nl I k = pr0 at *
              generalize wlF nl I k = wl0 at *
              subst efo epr ecu
              by_cases hz : ndB nl k = -1
              · rw [hz] at HNk
                clear hz
                have R10 := RW
                have X10 := XK
                clear RW XK
                obtain ⟨p0, p1⟩ := HNk.out wr X10.out
                obtain ⟨cb, ub⟩ := BB.out wr X10.out
                have y0 : wr.cell? ⟨w.heap.size, 0, none⟩ = some (.int .i64 t) := cb.cell 0
                have y1 : wr.cell? ⟨w.heap.size, 1, none⟩ = some (.int .i64 s) := cb.cell 1
                have y2 : wr.cell? ⟨w.heap.size, 2, none⟩ = some (.int .i64 l) := cb.cell 2
                have y3 : wr.cell? ⟨w.heap.size, 3, none⟩ = some (.int .i64 b) := cb.cell 3
                have u0 : wr.cell? ⟨w.heap.size + 1, 0, none⟩ = some (.int .u32 ky) := ub.cell 0
                have u1 : wr.cell? ⟨w.heap.size + 1, 1, none⟩ = some (.slice D dn dc) := ub.cell 1
                clear cb ub
                go_wp2_with fail
                go_quiet (fail)
                have X11 := Lib.hid (ext_drewN X10.out nq)
                have R11 := Lib.hid (R10.out.ext (ext_drewN (Ext.refl _) nq))
                clear p0 p1 y0 y1 y2 y3 u0 u1
                generalize wr.drewN nq = wq1 at *
                clear X10 R10
                obtain ⟨p0, p1⟩ := HNk.out wq1 X11.out
                obtain ⟨cb, ub⟩ := BB.out wq1 X11.out
                have y0 : wq1.cell? ⟨w.heap.size, 0, none⟩ = some (.int .i64 t) := cb.cell 0
                have y1 : wq1.cell? ⟨w.heap.size, 1, none⟩ = some (.int .i64 s) := cb.cell 1
                have y2 : wq1.cell? ⟨w.heap.size, 2, none⟩ = some (.int .i64 l) := cb.cell 2
                have y3 : wq1.cell? ⟨w.heap.size, 3, none⟩ = some (.int .i64 b) := cb.cell 3
                have u0 : wq1.cell? ⟨w.heap.size + 1, 0, none⟩ = some (.int .u32 ky) := ub.cell 0
                have u1 : wq1.cell? ⟨w.heap.size + 1, 1, none⟩ = some (.slice D dn dc) := ub.cell 1
                clear cb ub
                go_wp2_with fail
                have X12 := X11
                have R12 := R11
                clear X11 R11
                go_quiet (fail)
                have X13 := Lib.hid (ext_drewN X12.out nq)
                have R13 := Lib.hid (R12.out.ext (ext_drewN (Ext.refl _) nq))
                clear p0 p1 y0 y1 y2 y3 u0 u1
                generalize wq1.drewN nq = wq2 at *
                clear X12 R12
                obtain ⟨p0, p1⟩ := HNk.out wq2 X13.out
                obtain ⟨cb, ub⟩ := BB.out wq2 X13.out
                have y0 : wq2.cell? ⟨w.heap.size, 0, none⟩ = some (.int .i64 t) := cb.cell 0
                have y1 : wq2.cell? ⟨w.heap.size, 1, none⟩ = some (.int .i64 s) := cb.cell 1
                have y2 : wq2.cell? ⟨w.heap.size, 2, none⟩ = some (.int .i64 l) := cb.cell 2
                have y3 : wq2.cell? ⟨w.heap.size, 3, none⟩ = some (.int .i64 b) := cb.cell 3
                have u0 : wq2.cell? ⟨w.heap.size + 1, 0, none⟩ = some (.int .u32 ky) := ub.cell 0
                have u1 : wq2.cell? ⟨w.heap.size + 1, 1, none⟩ = some (.slice D dn dc) := ub.cell 1
                clear cb ub
                go_wp2_with fail
                go_quiet (fail)
                have X14 := Lib.hid (ext_drewN X13.out nq)
                have R14 := Lib.hid (R13.out.ext (ext_drewN (Ext.refl _) nq))
                clear p0 p1 y0 y1 y2 y3 u0 u1
                generalize wq2.drewN nq = wq3 at *
                clear X13 R13
                obtain ⟨p0, p1⟩ := HNk.out wq3 X14.out
                obtain ⟨cb, ub⟩ := BB.out wq3 X14.out
                have y0 : wq3.cell? ⟨w.heap.size, 0, none⟩ = some (.int .i64 t) := cb.cell 0
                have y1 : wq3.cell? ⟨w.heap.size, 1, none⟩ = some (.int .i64 s) := cb.cell 1
                have y2 : wq3.cell? ⟨w.heap.size, 2, none⟩ = some (.int .i64 l) := cb.cell 2
                have y3 : wq3.cell? ⟨w.heap.size, 3, none⟩ = some (.int .i64 b) := cb.cell 3
                have u0 : wq3.cell? ⟨w.heap.size + 1, 0, none⟩ = some (.int .u32 ky) := ub.cell 0
                have u1 : wq3.cell? ⟨w.heap.size + 1, 1, none⟩ = some (.slice D dn dc) := ub.cell 1
                clear cb ub
                go_wp2_with ((at_builtin; refine Hid.out ?_))
                refine Lib.hid ?_
                refine wpList_push rfl _ _ 44 rfl 3 .i64 8 int_info (by decide) Tryz.underlying44 w7 _ vv _ (k : Int) (by rfl) R14.out X14.out (by rfl) HWl.out ?_
                intro v' w15 h1 h2
                have R15 := Lib.hid h1
                have X15 := Lib.hid h2
                clear h1 h2 p0 p1 y0 y1 y2 y3 u0 u1 R14 X14
                go_wp2_with fail
                refine ⟨?_, ?measure⟩
                repeat' apply Exists.intro
                refine ⟨?rel, rfl⟩
                case rel => exact ⟨k + 1, v', by omega, by go_num, rfl, by rw [HW1.out]; exact R15.out, by rw [HF1.out], by rw [HP1.out], by rw [HC1.out], X15.out⟩
                case measure => simp [intOf]; omega
              · have h1 : (ndB nl k == -1) = false := by rw [beq_eq_false_iff_ne]; exact hz
                have h2 : decide (ndB nl k = -1) = false := by simpa using hz
                generalize ndB nl k = z at *
                clear hz
                have R10 := RW
                have X10 := XK
                clear RW XK
                obtain ⟨p0, p1⟩ := HNk.out wr X10.out
                obtain ⟨cb, ub⟩ := BB.out wr X10.out
                have y0 : wr.cell? ⟨w.heap.size, 0, none⟩ = some (.int .i64 t) := cb.cell 0
                have y1 : wr.cell? ⟨w.heap.size, 1, none⟩ = some (.int .i64 s) := cb.cell 1
                have y2 : wr.cell? ⟨w.heap.size, 2, none⟩ = some (.int .i64 l) := cb.cell 2
                have y3 : wr.cell? ⟨w.heap.size, 3, none⟩ = some (.int .i64 b) := cb.cell 3
                have u0 : wr.cell? ⟨w.heap.size + 1, 0, none⟩ = some (.int .u32 ky) := ub.cell 0
                have u1 : wr.cell? ⟨w.heap.size + 1, 1, none⟩ = some (.slice D dn dc) := ub.cell 1
                clear cb ub
                go_wp2_with fail
                go_quiet (fail)
                have X11 := Lib.hid (ext_drewN X10.out nq)
                have R11 := Lib.hid (R10.out.ext (ext_drewN (Ext.refl _) nq))
                clear p0 p1 y0 y1 y2 y3 u0 u1
                generalize wr.drewN nq = wq1 at *
                clear X10 R10
                obtain ⟨p0, p1⟩ := HNk.out wq1 X11.out
                obtain ⟨cb, ub⟩ := BB.out wq1 X11.out
                have y0 : wq1.cell? ⟨w.heap.size, 0, none⟩ = some (.int .i64 t) := cb.cell 0
                have y1 : wq1.cell? ⟨w.heap.size, 1, none⟩ = some (.int .i64 s) := cb.cell 1
                have y2 : wq1.cell? ⟨w.heap.size, 2, none⟩ = some (.int .i64 l) := cb.cell 2
                have y3 : wq1.cell? ⟨w.heap.size, 3, none⟩ = some (.int .i64 b) := cb.cell 3
                have u0 : wq1.cell? ⟨w.heap.size + 1, 0, none⟩ = some (.int .u32 ky) := ub.cell 0
                have u1 : wq1.cell? ⟨w.heap.size + 1, 1, none⟩ = some (.slice D dn dc) := ub.cell 1
                clear cb ub
                go_wp2_with fail
                have X12 := X11
                have R12 := R11
                clear X11 R11
                go_quiet (fail)
                have X13 := Lib.hid (ext_drewN X12.out nq)
                have R13 := Lib.hid (R12.out.ext (ext_drewN (Ext.refl _) nq))
                clear p0 p1 y0 y1 y2 y3 u0 u1
                generalize wq1.drewN nq = wq2 at *
                clear X12 R12
                obtain ⟨p0, p1⟩ := HNk.out wq2 X13.out
                obtain ⟨cb, ub⟩ := BB.out wq2 X13.out
                have y0 : wq2.cell? ⟨w.heap.size, 0, none⟩ = some (.int .i64 t) := cb.cell 0
                have y1 : wq2.cell? ⟨w.heap.size, 1, none⟩ = some (.int .i64 s) := cb.cell 1
                have y2 : wq2.cell? ⟨w.heap.size, 2, none⟩ = some (.int .i64 l) := cb.cell 2
                have y3 : wq2.cell? ⟨w.heap.size, 3, none⟩ = some (.int .i64 b) := cb.cell 3
                have u0 : wq2.cell? ⟨w.heap.size + 1, 0, none⟩ = some (.int .u32 ky) := ub.cell 0
                have u1 : wq2.cell? ⟨w.heap.size + 1, 1, none⟩ = some (.slice D dn dc) := ub.cell 1
                clear cb ub
                go_wp2_with fail
                go_quiet (fail)
                have X14 := Lib.hid (ext_drewN X13.out nq)
                have R14 := Lib.hid (R13.out.ext (ext_drewN (Ext.refl _) nq))
                clear p0 p1 y0 y1 y2 y3 u0 u1
                generalize wq2.drewN nq = wq3 at *
                clear X13 R13
                obtain ⟨p0, p1⟩ := HNk.out wq3 X14.out
                obtain ⟨cb, ub⟩ := BB.out wq3 X14.out
                have y0 : wq3.cell? ⟨w.heap.size, 0, none⟩ = some (.int .i64 t) := cb.cell 0
                have y1 : wq3.cell? ⟨w.heap.size, 1, none⟩ = some (.int .i64 s) := cb.cell 1
                have y2 : wq3.cell? ⟨w.heap.size, 2, none⟩ = some (.int .i64 l) := cb.cell 2
                have y3 : wq3.cell? ⟨w.heap.size, 3, none⟩ = some (.int .i64 b) := cb.cell 3
                have u0 : wq3.cell? ⟨w.heap.size + 1, 0, none⟩ = some (.int .u32 ky) := ub.cell 0
                have u1 : wq3.cell? ⟨w.heap.size + 1, 1, none⟩ = some (.slice D dn dc) := ub.cell 1
                clear cb ub
                go_wp2_with ((at_builtin; refine Hid.out ?_))
                refine Lib.hid ?_
                refine wpList_push rfl _ _ 44 rfl 3 .i64 8 int_info (by decide) Tryz.underlying44 w7 _ vv _ (k : Int) (by rfl) R14.out X14.out (by rfl) HWl.out ?_
                intro v' w15 h1 h2
                have R15 := Lib.hid h1
                have X15 := Lib.hid h2
                clear h1 h2 p0 p1 y0 y1 y2 y3 u0 u1 R14 X14
                go_wp2_with fail
                refine ⟨?_, ?measure⟩
                repeat' apply Exists.intro
                refine ⟨?rel, rfl⟩
                case rel => exact ⟨k + 1, v', by omega, by go_num, rfl, by rw [HW1.out]; exact R15.out, by rw [HF1.out], by rw [HP1.out], by rw [HC1.out], X15.out⟩
                case measure => simp [intOf]; omega
        · have v1 : decide (k < n) = false := by simp; omega
          have v2 : decide ((k : Int) < (n : Int)) = false := by simp; omega
          obtain rfl : k = n := by omega
          have T8 : Hid (∀ W, Ext wr W → SkAt (fun q => q = gl ∨ q = gs) w3 W gm gs gl dv pv 0 32 ky x sf) := Lib.hid (fun W y => TE0.out.ext (XK.out.trans y))
          have BL8 : Hid (Blk wr gl 97 (cellsF (layF t s l b))) := Lib.hid (LK.out.ext XK.out)
          have hcv := final_chain (by omega) FIN.out
          have HSl := Lib.hid (slots_ok (T8.out wr (Ext.refl _)).mem HOk.out BL8.out 32 ⟨by decide, by decide⟩ s rfl (by omega))
          have hsl : seekList (layF t s l b) s 32 sf = (wlF nl I k, true) := seekList_run (want_pw nl I k) (fun j hj => by have := want_lt hj; omega) (by have := want_len nl I k; omega) hcv
          rw [hsl] at HSl
          obtain ⟨p0, p1, p2, p3⟩ := HP.out
          obtain ⟨fb, hfb⟩ : ∃ fb, x.fnd = fb := ⟨_, rfl⟩
          have e1 : (foF nl I ky k != -1) = fb := by
            rw [← hfb, p1, FIN.out.fnd]
            unfold foF
            by_cases h1 : I < k
            · by_cases h2 : ndK nl I = ky
              · rw [if_pos ⟨h1, h2⟩]
                have : ((I : Int) != -1) = true := by rw [bne_iff_ne]; omega
                rw [this]
                simp [h1, h2]
              · rw [if_neg (fun q => h2 q.2)]
                have : (ndK nl I == ky) = false := by rw [beq_eq_false_iff_ne]; exact h2
                rw [this]
                simp
            · rw [if_neg (fun q => h1 q.1)]
              simp [h1]
          have e2 : x.fat = prF (layF t s l b) nl I k := by
            rw [p2, FIN.out.fat]
            unfold prF
            rw [show min k I = I by omega]
          have e3 : toN x.fwd = cuF I k := by
            rw [p3, FIN.out.fwd]
            unfold tlN cuF
            by_cases h1 : I = k
            · rw [if_pos h1, if_neg (by omega)]
            · rw [if_neg h1, if_pos (by omega)]
          have hwf2 : W64 x.fwd := by rw [p3]; exact FIN.out.fwr
          have hpt : x.part ≤ 4 := by omega
          have HDn : Hid (∀ W, Ext wr W → Calls Tryz.prog 13 #[.pointer (some ⟨gs, 0, none⟩)] W fun e w' => e = .returned (.bool true) ∧ Ext W w') := Lib.hid (fun W y => (skDone_k hpt (T8.out W y).cell4).mono (by rintro e w' ⟨rfl, rfl⟩; exact ⟨by rw [p0]; rfl, Ext.refl _⟩))
          have HFo : Hid (∀ W, Ext wr W → Calls Tryz.prog 14 #[.pointer (some ⟨gs, 0, none⟩)] W fun e w' => e = .returned (.bool fb) ∧ Ext W w') := Lib.hid (fun W y => (skFound_ok ((T8.out W y).blk.cell 13)).mono (by rintro e w' ⟨rfl, rfl⟩; exact ⟨by rw [hfb], Ext.refl _⟩))
          have HPr : Hid (∀ W, Ext wr W → Calls Tryz.prog 15 #[.pointer (some ⟨gs, 0, none⟩)] W fun e w' => e = .returned (.int .i64 (prF (layF t s l b) nl I k)) ∧ Ext W w') := Lib.hid (fun W y => (skPrev_ok ((T8.out W y).endC hpt)).mono (by rintro e w' ⟨rfl, z⟩; exact ⟨by rw [if_pos p0, e2], z⟩))
          have HCu : Hid (∀ W, Ext wr W → Calls Tryz.prog 16 #[.pointer (some ⟨gs, 0, none⟩)] W fun e w' => e = .returned (.int .i64 (cuF I k)) ∧ Ext W w') := Lib.hid (fun W y => (skCurr_ok ((T8.out W y).endC hpt) (by rw [if_pos p0]; exact hwf2)).mono (by rintro e w' ⟨rfl, z⟩; exact ⟨by rw [if_pos p0, e3], z⟩))
          have XR := Lib.hid (XW.out.trans XK.out)
          obtain ⟨Aw, cw, hwv, iw, hbig⟩ := row_at9 RW.out
          clear p0 p1 p2 p3 e2 e3 hfb hwf2 hpt hsl hcv T8 BL8 TE0 FIN HP HNo HNx BB HR1 HR2 LK WK HB HK
          generalize foF nl I ky k = fo0 at *
          generalize prF (layF t s l b) nl I k = pr0 at *
          generalize cuF I k = cu0 at *
          generalize hwl : wlF nl I k = wl at *
          clear hwl
          subst efo epr ecu hwv
          have IW := Lib.hid iw
          have hfx : (fb != fb) = false := by cases fb <;> rfl
          have hpx : (pr0 != pr0) = false := by simp
          have hcx : (cu0 != cu0) = false := by simp
          obtain ⟨L, hL⟩ : ∃ L, wl.length = L := ⟨_, rfl⟩
          have HLn := Lib.hid hL
          rw [hL] at hbig
          rw [hL]
          have hll : ((L : Int) != (L : Int)) = false := by simp
          clear iw RW XK
          go_wp2_with fail
          refine HSl.out.mono ?_
          rintro e w8 ⟨vb, rfl, rb, x8⟩
          obtain ⟨Ab, cb, rfl, ib, -⟩ := row_at9 rb
          rw [hL]
          have IB := Lib.hid ib
          have XA := Lib.hid x8
          clear rb ib x8 HSl hL
          go_wp2_with fail
          refine (HDn.out _ XA.out).mono ?_
          rintro e w9 ⟨rfl, x9⟩
          replace XA := Lib.hid (XA.out.trans x9)
          have XB := Lib.hid x9
          clear x9
          go_wp2_with fail
          refine (HFo.out _ XA.out).mono ?_
          rintro e w10 ⟨rfl, x10⟩
          replace XA := Lib.hid (XA.out.trans x10)
          replace XB := Lib.hid (XB.out.trans x10)
          clear x10
          go_wp2_with fail
          refine (HPr.out _ XA.out).mono ?_
          rintro e w11 ⟨rfl, x11⟩
          replace XA := Lib.hid (XA.out.trans x11)
          replace XB := Lib.hid (XB.out.trans x11)
          clear x11
          go_wp2_with fail
          refine (HCu.out _ XA.out).mono ?_
          rintro e w12 ⟨rfl, x12⟩
          replace XA := Lib.hid (XA.out.trans x12)
          replace XB := Lib.hid (XB.out.trans x12)
          clear x12 HDn HFo HPr HCu
          go_wp2_with fail
          go_loopw [21] (fun i wr' => ∃ j : Nat, j ≤ L ∧ i = .int .i64 j ∧ Ext w12 wr') (fun i _ => L - (intOf i).toNat)
          case atStart => exact ⟨0, Nat.zero_le _, rfl, Ext.refl _⟩
          case round =>
            obtain ⟨j, hj, rfl, xj⟩ := hrel
            have XJ := Lib.hid xj
            clear xj
            by_cases hjl : j < L
            · have w1 : decide (j < L) = true := by simp; omega
              have w2' : decide ((j : Int) < (L : Int)) = true := by simp; omega
              obtain ⟨aa, hAa, _, hca⟩ := (IW.out.ext (XA.out.trans XJ.out)) (by have := HLn.out; omega)
              obtain ⟨ab, hAb, _, hcb⟩ := (IB.out.ext (XB.out.trans XJ.out)) (by have := HLn.out; omega)
              have q0 := hca j (by have := HLn.out; omega)
              have q1 := hcb j (by have := HLn.out; omega)
              generalize wl.getD j 0 = z at *
              have hzz : (z != z) = false := by simp
              subst hAa hAb
              clear hca hcb
              go_wp2_with fail
              go_quiet (fail)
              go_wp2_with fail
              go_roundw
              case rel => exact ⟨j + 1, by omega, by go_num, by first | exact ext_drewN XJ.out _ | exact XJ.out⟩
              case measure => simp [intOf]; omega
            · have w1 : decide (j < L) = false := by simp; omega
              have w2' : decide ((j : Int) < (L : Int)) = false := by simp; omega
              go_wp2_with fail
              refine (HAw.out _).mono ?_
              rintro e w14 ⟨rfl, x14⟩
              have X14 := Lib.hid (((XR.out.trans XA.out).trans XJ.out).trans x14)
              clear x14
              go_wp2_with fail
              go_ret
              exact ⟨rfl, X14.out⟩

set_option maxRecDepth 100000 in
set_option maxHeartbeats 4000000 in
theorem seekAlone_no (w : World) (t s l b : Int) (A : Option Addr) (n c : Nat) (ky : Int) (D : Option Addr) (dn dc : Nat) (h : ¬ GrOk t s l b) :
    Calls Tryz.prog 3 #[.agg #[.int .i64 t, .int .i64 s, .int .i64 l, .int .i64 b], .slice A n c, .agg #[.int .u32 ky, .slice D dn dc]] w fun e w' => e = .returned (.bool true) ∧ Ext w w' := by
  have X0 := Lib.hid (((Ext.refl w).alloc (.cells #[.int .i64 t, .int .i64 s, .int .i64 l, .int .i64 b] 23)).alloc (.cells #[.int .u32 ky, .slice D dn dc] 28))
  have B0 : Hid (Blk ((w.alloc (.cells #[.int .i64 t, .int .i64 s, .int .i64 l, .int .i64 b] 23)).alloc (.cells #[.int .u32 ky, .slice D dn dc] 28)) w.heap.size 23 [.int .i64 t, .int .i64 s, .int .i64 l, .int .i64 b]) := Lib.hid ((Blk.new w 23 [.int .i64 t, .int .i64 s, .int .i64 l, .int .i64 b]).ext ((Ext.refl _).alloc (.cells #[.int .u32 ky, .slice D dn dc] 28)))
  have HFe := Lib.hid (fun W => few9_no t s l b W h)
  clear h
  go_enter Tryz.func3, Tryz.ntmps3
  go_upto_region 1 with fail
  generalize ((w.alloc (.cells #[.int .i64 t, .int .i64 s, .int .i64 l, .int .i64 b] 23)).alloc (.cells #[.int .u32 ky, .slice D dn dc] 28)) = W0 at *
  have y0 : W0.cell? ⟨w.heap.size, 0, none⟩ = some (.int .i64 t) := B0.out.cell 0
  have y1 : W0.cell? ⟨w.heap.size, 1, none⟩ = some (.int .i64 s) := B0.out.cell 1
  have y2 : W0.cell? ⟨w.heap.size, 2, none⟩ = some (.int .i64 l) := B0.out.cell 2
  have y3 : W0.cell? ⟨w.heap.size, 3, none⟩ = some (.int .i64 b) := B0.out.cell 3
  go_wp2_with fail
  refine (HFe.out _).mono ?_
  rintro e w1 ⟨rfl, x1⟩
  have X1 := Lib.hid (X0.out.trans x1)
  clear x1 y0 y1 y2 y3 B0 X0
  go_wp2_with fail
  refine (awake14_ok _).mono ?_
  rintro e w2 ⟨rfl, x2⟩
  have X2 := Lib.hid (X1.out.trans x2)
  clear x2
  go_wp2_with fail
  go_ret
  exact ⟨rfl, X2.out⟩
theorem seekAlone_walk (w : World) (t s l b : Int) (A : Option Addr) (n c : Nat) (nl : List (Int × Int)) (ky : Int) (D : Option Addr) (dn dc : Nat) (dl : List Bool) (hn : nl.length = n) (hnm : n ≤ 9223372036854775807) (hA : 0 < n → ∃ ad, A = some ad ∧ NodesAt w ad nl) (hB : ∀ j, I64 (ndB nl j)) (hK : ∀ j, 0 ≤ ndK nl j ∧ ndK nl j < 4294967296) (hky : 0 ≤ ky ∧ ky < 4294967296) (hD : 0 < dn → ∃ dd, D = some dd ∧ BoolsAt w dd dn dl) :
    Calls Tryz.prog 3 #[.agg #[.int .i64 t, .int .i64 s, .int .i64 l, .int .i64 b], .slice A n c, .agg #[.int .u32 ky, .slice D dn dc]] w fun e w' => e = .returned (.bool true) ∧ Ext w w' := by
  by_cases hg : GrOk t s l b
  · obtain ⟨⟨q0, q1⟩, ⟨q2, q3⟩, ⟨q4, q5⟩, q6, q7⟩ := id hg.1
    obtain ⟨t', rfl⟩ := Int.eq_ofNat_of_zero_le (show 0 ≤ t by omega)
    obtain ⟨s', rfl⟩ := Int.eq_ofNat_of_zero_le (show 0 ≤ s by omega)
    obtain ⟨l', rfl⟩ := Int.eq_ofNat_of_zero_le (show 0 ≤ l by omega)
    obtain ⟨b', rfl⟩ := Int.eq_ofNat_of_zero_le (show 0 ≤ b by omega)
    exact seekAlone_yes w t' s' l' b' A n c nl ky D dn dc dl hg hn hnm hA hB hK hky hD
  · exact seekAlone_no w t s l b A n c ky D dn dc hg

namespace seekAlone
set_option maxRecDepth 100000 in
theorem lifted (os : Os) (started : os.Started) (H : Type) (enc : TypeId × Value → H) :
    ReturnsInHanded {} Tryz.checked os 3 .any (Rows.seekAloneSpec.pre6 enc Tryz.prog Tryz.f3 Rows.seekAloneRow.domain false) (Rows.seekAloneSpec.post enc Tryz.prog Tryz.f3 false true false false) := by
  refine returnsInHanded_of_change (C := Tryz.checked) own started (by kernel_rfl) Tryz.func3
    (ChangeSpec.witness6 (enc := enc) (C := Tryz.checked) false ⟨#[], #[.agg #[.int .i64 0, .int .i64 0, .int .i64 0, .int .i64 0], .slice none 0 0, .agg #[.int .u32 0, .slice none 0 0]], []⟩ 8 (by kernel_rfl) (by kernel_rfl) (by kernel_rfl) (by kernel_rfl)) ?_
  intro W base args ds gs before hval0 hW hcnd _
  have hval : ∀ (j : Nat) t v, Tryz.f3.params[j]? = some t → args[j]? = some v → Value.okWide Tryz.prog W .any base t v := hval0
  have hW' := hW
  obtain ⟨p, q, hA0, hV, rfl, hfz, hnd⟩ := hW
  have hA : DataW.TrodAll enc Tryz.prog W 0 (fun _ => true) true Tryz.f3.params.toList args.toList ds p := hA0
  have hlt : ∀ x ∈ p ++ q, x.block < W.heap.size := fun x hx => hW'.lt x hx
  rw [Tryz.params3] at hA hval
  have hB := hA
  obtain ⟨v0, vs0, d0, ds0, p0, q0, hargs, rfl, rfl, h0, r0⟩ := trodAll_cons hB
  obtain ⟨v1, vs1, d1, ds1, p1, q1, rfl, rfl, rfl, h1, r1⟩ := trodAll_cons r0
  obtain ⟨v2, vs2, d2, ds2, p2, q2, rfl, rfl, rfl, h2, r2⟩ := trodAll_cons r1
  obtain ⟨rfl, rfl, rfl⟩ := trodAll_nil r2
  obtain rfl : args = #[v0, v1, v2] := by cases args; simp_all
  obtain ⟨rfl, rfl⟩ := trodVars_none hV
  obtain ⟨x0t, x0s, x0l, x0b, rfl, ok0⟩ := view_cfg Tryz.underlying23 (by kernel_rfl) (by kernel_rfl) Tryz.underlying3 Tryz.underlying3 Tryz.underlying3 Tryz.underlying3 (hval 0 23 v0 rfl rfl) h0
  obtain ⟨A1, n1, c1, nl1, rfl, zl1, lc1, mc1, I1, okB1, okK1⟩ := view_nodes Tryz.underlying24 Tryz.underlying46 (by kernel_rfl) (by kernel_rfl) Tryz.underlying25 Tryz.underlying3 (hval 1 24 v1 rfl rfl) h1
  obtain ⟨ky2, D2, dn2, dc2, dl2, rfl, kk2, ld2, md2, I2⟩ := view_key14 Tryz.underlying28 (by kernel_rfl) rfl (by kernel_rfl) rfl (by kernel_rfl) Tryz.underlying25 Tryz.underlying26 Tryz.underlying4 (by kernel_rfl) (hval 2 28 v2 rfl rfl) h2
  clear hA0 hval0
  refine (seekAlone_walk W x0t x0s x0l x0b A1 n1 c1 nl1 ky2 D2 dn2 dc2 dl2 zl1 (Nat.le_trans lc1 mc1) I1 okB1 okK1 kk2 I2).mono fun e W' ⟨he, hx⟩ => ?_
  subst he
  exact ⟨_, rfl, post_ext (pv := []) hW' (fun _ _ _ => (trodAll_cons_mk (shut_bool Tryz.underlying4 _) trodAll_mk0)) (fun sp hsp => trodAll_stays laid hx _ _ _ _ (readable_of (by kernel_rfl)) hA (fun x hx => hlt x (by first | (simp at hx ⊢; exact hx) | simp at hx)) (fun x hx => hsp x (by first | (simp at hx ⊢; exact hx) | simp at hx))) (fun _ _ => rfl) rfl hx (ok_one (by kernel_rfl) rfl (okWide_bool_mk Tryz.underlying4 _))⟩

theorem over : Rows.seekAloneRow.holds Tryz.pinned (OpenSpec.ofChange Rows.seekAloneSpec) :=
  OpenClaim.holds_of_wide 3 Tryz.f3 rfl rfl rfl rfl rfl rfl rfl ⟨rfl, rfl, rfl, rfl, rfl⟩ rfl rfl rfl rfl rfl (by kernel_rfl) Tryz.func3 seekAlone_closed
    (of_decide_eq_true (by kernel_rfl)) (by unfold Func.isWrapper; first | (rw [if_pos (by decide +kernel)]; kernel_rfl) | (rw [if_neg (by decide +kernel)]; exact ⟨rfl, rfl⟩))
    (fun os started H enc _ => lifted os started H enc)
end seekAlone

theorem seekAlone_holds : Rows.SeekAloneSaid := seekAlone.over
end Go.Proofs.YtolengkegjipaaaGreat

