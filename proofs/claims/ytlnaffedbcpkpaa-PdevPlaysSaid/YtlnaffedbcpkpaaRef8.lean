/- The document's device: Do, crash. Conditions: those that each theorem names. -/
import Derived.Test.YtlnaffedbcpkpaaRef6
import Derived.BigRegion
namespace Go.Proofs.Ytlnaffedbcpkpaa
open Go.ChangeShapes Go.WideShapes Go.ChangeAt Go.RowKit
set_option linter.unusedVariables false
set_option maxRecDepth 100000 in
set_option maxHeartbeats 2000000 in
theorem refDo_crash {B n L T : Nat} {w : World} {R : RefB} {kept seen writes : List Int} {fl : Nat → Nat → Bool} (h : IsRef B w R n kept seen writes fl) (n0 : 0 < n) (n1 : n ≤ 262144) (hL : n * 8 = L) (hk : kept.length = L) (hs : seen.length = L) (hT : R.rows.length = T) (T0 : 0 < T) (T1 : T ≤ 64) (hw : ∀ p, -1 ≤ writes.getD p 0 ∧ writes.getD p 0 < 1000000000000) (t l : Int) :
    Calls Try.prog 46 #[R.ptr, .int .i64 3, .int .i64 t, .int .i64 l] w fun e w' => e = .returned (.int .i64 0) ∧ IsRef B w' R n (sel L (fun i => (fun _ => false) (i / 8)) seen kept) (sel L (fun i => (fun _ => false) (i / 8)) seen kept) (add1 n (fun _ => false) writes) (flagsOut (fun _ => true) fl) ∧ Fr R.foot w w' := by
  obtain ⟨gk, ck, gs, cs, gf, cf, e1, e2, e3⟩ := h.shape hk hs (by omega) (by omega)
  rw [hT] at e3
  have hwl := h.wlen
  have c3 : w.cell? ⟨R.g, 3, none⟩ = some (.slice (some ⟨gf, 0, none⟩) T cf) := by rw [← e3]; exact h.blk.cell 3
  have c2 : w.cell? ⟨R.g, 2, none⟩ = some (.slice (some ⟨R.gw, 0, none⟩) n n) := h.blk.cell 2
  have HT := Lib.hid hT
  have E1 := Lib.hid e1
  have E2 := Lib.hid e2
  have E3 := Lib.hid e3
  have HK := Lib.hid hk
  have HS := Lib.hid hs
  have HL := Lib.hid hL
  have HWL := Lib.hid hwl
  have HWW := Lib.hid hw
  have H0 := Lib.hid h
  unfold RefB.ptr
  obtain ⟨g, hg⟩ : ∃ g, R.g = g := ⟨_, rfl⟩
  obtain ⟨gw, hgw⟩ : ∃ gw, R.gw = gw := ⟨_, rfl⟩
  have HG := Lib.hid hg
  have HGW := Lib.hid hgw
  rw [hg] at c2 c3 ⊢
  rw [hgw] at c2
  clear hT e1 e2 e3 hk hs hwl h hg hgw hw
  obtain ⟨f, hf⟩ : ∃ f : Nat → Bool, f = (fun _ => false) := ⟨_, rfl⟩
  obtain ⟨c, hc⟩ : ∃ c : Nat → Bool, c = (fun _ => true) := ⟨_, rfl⟩
  have HF0 := Lib.hid hf
  have HC0 := Lib.hid hc
  clear hf hc
  go_enter Try.func46, Try.ntmps46
  go_wp2_with fail
  clear c2 c3
  go_loopw [9] (fun i wr => ∃ q : Nat, q ≤ n ∧ i = .int .i64 q ∧ IsRef B wr R n (sel L (cAt f q 0) seen kept) seen (add1 n (wAt f q) writes) fl ∧ Fr R.foot w wr) (fun i _ => n - (intOf i).toNat)
  case atStart => exact ⟨0, by omega, rfl, by rw [sel_none HK.out (fun i _ => cAt_zero _ i), add1_none HWL.out (fun i _ => wAt_zero _ i)]; exact H0.out, Fr.refl _ _⟩
  case round =>
    obtain ⟨q, hq, rfl, hR, fR⟩ := hrel
    have c2 : wr.cell? ⟨g, 2, none⟩ = some (.slice (some ⟨gw, 0, none⟩) n n) := by rw [← HG.out, ← HGW.out]; exact hR.blk.cell 2
    have c3 : wr.cell? ⟨g, 3, none⟩ = some (.slice (some ⟨gf, 0, none⟩) T cf) := by rw [← HG.out, ← E3.out]; exact hR.blk.cell 3
    have HR := Lib.hid hR
    have FR := Lib.hid fR
    clear hR fR
    by_cases hlt : q < n
    · have v1 : decide (q < n) = true := by simp; omega
      have v2 : (q : Int) < (n : Int) := by omega
      have HB : Hid (f q = false) := Lib.hid (by rw [HF0.out])
      go_wp2_with fail
      go_roundw
      case rel => exact ⟨q + 1, by omega, by go_num, by rw [sel_congr (fun i _ => (cAt_skip f q i HB.out).symm), add1_congr (fun p _ => (wAt_skip f q p HB.out).symm)]; exact HR.out, FR.out⟩
      case measure => simp [intOf]; omega
    · have v1 : decide (q < n) = false := by simp; omega
      have v2 : ¬ (q : Int) < (n : Int) := by omega
      obtain rfl : q = n := by omega
      have hR := HR.out
      have fR := FR.out
      rw [sel_congr (fun i hi => cAt_end f q i (by have := HL.out; omega)), add1_congr (fun p hp => wAt_end f q p hp)] at hR
      have HR1 := Lib.hid hR
      have FR1 := Lib.hid fR
      clear hR fR HR FR
      obtain ⟨kept1, hk1⟩ : ∃ z, z = (sel L (fun i => f (i / 8)) seen kept) := ⟨_, rfl⟩
      obtain ⟨writes1, hw1⟩ : ∃ z, z = (add1 q f writes) := ⟨_, rfl⟩
      have HR1' : Hid (IsRef B wr R q kept1 seen writes1 fl) := Lib.hid (by rw [hk1, hw1]; exact HR1.out)
      clear HR1
      have HR1 := Lib.hid HR1'.out
      have HK1 : Hid (kept1.length = L) := Lib.hid (by rw [hk1]; exact sel_len _ _ _ _)
      have HKE := Lib.hid hk1
      have HWE := Lib.hid hw1
      clear hk1 hw1 HR1'
      go_wp2_with fail
      clear c2 c3
      generalize wr = w3 at *
      go_loopw [11] (fun i wr => ∃ a : Nat, a ≤ T ∧ i = .int .i64 a ∧ IsRef B wr R q kept1 seen writes1 (fAt c fl a 0) ∧ Fr R.foot w wr) (fun i _ => T - (intOf i).toNat)
      case atStart => exact ⟨0, by omega, rfl, HR1.out.flagsTo (fun t p _ _ => (fAt_zero _ _ t p).symm), FR1.out⟩
      case round =>
        clear HR1 FR1
        obtain ⟨a, ha, rfl, hR, fR⟩ := hrel
        have c2 : wr.cell? ⟨g, 2, none⟩ = some (.slice (some ⟨gw, 0, none⟩) q q) := by rw [← HG.out, ← HGW.out]; exact hR.blk.cell 2
        have c3 : wr.cell? ⟨g, 3, none⟩ = some (.slice (some ⟨gf, 0, none⟩) T cf) := by rw [← HG.out, ← E3.out]; exact hR.blk.cell 3
        have HR := Lib.hid hR
        have FR := Lib.hid fR
        clear hR fR
        by_cases hla : a < T
        · have x1 : decide (a < T) = true := by simp; omega
          have x2 : (a : Int) < (T : Int) := by omega
          go_wp2_with fail
          clear c2 c3
          generalize wr = w4 at *
          go_loopw [12] (fun i wr => ∃ p : Nat, p ≤ q ∧ i = .int .i64 p ∧ IsRef B wr R q kept1 seen writes1 (fAt c fl a p) ∧ Fr R.foot w wr) (fun i _ => q - (intOf i).toNat)
          case atStart => exact ⟨0, by omega, rfl, HR.out, FR.out⟩
          case round =>
            clear HR FR
            obtain ⟨p, hp, rfl, hR, fR⟩ := hrel
            have c2 : wr.cell? ⟨g, 2, none⟩ = some (.slice (some ⟨gw, 0, none⟩) q q) := by rw [← HG.out, ← HGW.out]; exact hR.blk.cell 2
            have c3 : wr.cell? ⟨g, 3, none⟩ = some (.slice (some ⟨gf, 0, none⟩) T cf) := by rw [← HG.out, ← E3.out]; exact hR.blk.cell 3
            have har : a < R.rows.length := by rw [HT.out]; exact hla
            have r1 : wr.cell? ⟨gf, a, none⟩ = some (.slice (some ⟨R.rows.getD a 0, 0, none⟩) q q) := hR.rowAt (by rw [HT.out]; exact E3.out) a har
            by_cases hlp : p < q
            · have y1 : decide (p < q) = true := by simp; omega
              have y2 : (p : Int) < (q : Int) := by omega
              have r2 := hR.flagAt a p har hlp
              have r3 := (hR.row a har).frozen p
              have HSF := Lib.hid (hR.setF a p false har)
              have HR := Lib.hid hR
              have FR := Lib.hid fR
              clear hR fR
              obtain ⟨gr, hgr⟩ : ∃ gr, R.rows.getD a 0 = gr := ⟨_, rfl⟩
              rw [hgr] at r1 r2 r3 HSF
              clear hgr
              generalize fAt c fl a p a p = b0 at r2
              have HC : Hid (c a = true) := Lib.hid (by rw [HC0.out])
              go_wp2_with fail
              go_roundw
              case rel => exact ⟨p + 1, by omega, by go_num, HSF.out.1.flagsTo (fun b x _ _ => fAt_next c fl a p b x HC.out), FR.out.trans HSF.out.2 (fun g _ hg => hg)⟩
              case measure => simp [intOf]; omega
            · have y1 : decide (p < q) = false := by simp; omega
              have y2 : ¬ (p : Int) < (q : Int) := by omega
              obtain rfl : p = q := by omega
              have HR := Lib.hid hR
              have FR := Lib.hid fR
              clear hR fR r1
              go_wp2_with fail
              go_roundw
              case rel => exact ⟨a + 1, by omega, by go_num, HR.out.flagsTo (fun b x _ hx => fAt_up c fl a p b x hx), FR.out⟩
              case measure => simp [intOf]; omega
        · have x1 : decide (a < T) = false := by simp; omega
          have x2 : ¬ (a : Int) < (T : Int) := by omega
          obtain rfl : a = T := by omega
          have HR2 : Hid (IsRef B wr R q kept1 seen writes1 (flagsOut c fl)) := Lib.hid (HR.out.flagsTo (fun b x hb _ => fAt_end c fl a b x (by rw [← HT.out]; exact hb)))
          have FR2 := Lib.hid FR.out
          clear HR FR
          go_wp2_with fail
          clear c2 c3
          generalize wr = w5 at *
          obtain ⟨fl2, hfl2⟩ : ∃ z : Nat → Nat → Bool, z = flagsOut c fl := ⟨_, rfl⟩
          rw [← hfl2] at HR2
          have HFE := Lib.hid hfl2
          clear hfl2
          go_loopw [13] (fun i wr => ∃ p : Nat, p ≤ L ∧ i = .int .i64 p ∧ IsRef B wr R q kept1 (sel L (fun i => decide (i < p)) kept1 seen) writes1 fl2 ∧ Fr R.foot w wr) (fun i _ => L - (intOf i).toNat)
          case atStart => exact ⟨0, by omega, rfl, by rw [sel_none HS.out (fun i _ => by simp)]; exact HR2.out, FR2.out⟩
          case round =>
            clear HR2 FR2
            obtain ⟨p, hp, rfl, hR, fR⟩ := hrel
            have c0 : wr.cell? ⟨g, 0, none⟩ = some (.slice (some ⟨gk, 0, none⟩) L ck) := by rw [← HG.out, ← E1.out]; exact hR.blk.cell 0
            have c1 : wr.cell? ⟨g, 1, none⟩ = some (.slice (some ⟨gs, 0, none⟩) L cs) := by rw [← HG.out, ← E2.out]; exact hR.blk.cell 1
            have hL1 : L ≤ 2097152 := by have := HL.out; omega
            by_cases hlp : p < L
            · have y1 : decide (p < L) = true := by simp; omega
              have y2 : (p : Int) < (L : Int) := by omega
              have hrs := RowN.of_row hR.seen
              rw [E2.out, sel_len] at hrs
              have hrk := RowN.of_row hR.kept
              rw [E1.out, HK1.out] at hrk
              have q1 : wr.cell? ⟨gk, p, none⟩ = some (.int .u64 (kept1.getD p 0)) := hrk.cell (by omega)
              have q2 : wr.frozen? ⟨gs, p, none⟩ = false := hrs.frozen p
              have q3 := hrs.cell (j := p) (by omega)
              have hset := Lib.hid (hR.setS E2.out (sel_len _ _ _ _) p (kept1.getD p 0))
              have FR := Lib.hid fR
              clear hR fR hrs hrk
              generalize (sel L (fun i => decide (i < p)) kept1 seen).getD p 0 = y at q3
              obtain ⟨x, hx⟩ : ∃ x, kept1.getD p 0 = x := ⟨_, rfl⟩
              rw [hx] at q1 hset
              have HX := Lib.hid hx
              clear hx
              go_wp2_with fail
              go_region
              have hs1 := hset.out.1
              have hs2 := hset.out.2
              rw [← HX.out, sel_set L (fun i => decide (i < p)) (fun i => decide (i < p + 1)) kept1 seen p hlp (fun i _ => by rw [Bool.eq_iff_iff]; simp only [Bool.or_eq_true, decide_eq_true_eq]; omega)] at hs1
              rw [← HX.out] at hs2
              have HS1 := Lib.hid hs1
              have HS2 := Lib.hid (FR.out.trans hs2 (fun g _ hg => hg))
              clear hs1 hs2 hset q1 q2 q3 c0 c1
              rw [← HX.out]
              go_wp2_with fail
              go_roundw
              case rel => exact ⟨p + 1, by omega, by go_num, by first | exact HS1.out | exact HS1.out.ext (Ext.refl _).drew, by first | exact HS2.out | exact HS2.out.drew⟩
              case measure => simp [intOf]; omega
            · have y1 : decide (p < L) = false := by simp; omega
              have y2 : ¬ (p : Int) < (L : Int) := by omega
              obtain rfl : p = L := by omega
              rw [sel_all HK1.out (fun i hi => by simpa using hi)] at hR
              have HR := Lib.hid hR
              have FR := Lib.hid fR
              clear hR fR
              go_wp2_with fail
              go_ret
              have hfin := HR.out
              rw [HFE.out, HKE.out, HWE.out, HF0.out, HC0.out] at hfin
              exact ⟨rfl, hfin, FR.out⟩
end Go.Proofs.Ytlnaffedbcpkpaa
