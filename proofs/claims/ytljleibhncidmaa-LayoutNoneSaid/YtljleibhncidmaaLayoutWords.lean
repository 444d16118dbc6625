/- Where everything lies, word by word: the walk. Conditions: those that each theorem names. -/
import Derived.Test.YtljleibhncidmaaFew
import Derived.Test.YtljleibhncidmaaNames3
import Derived.Lib.QuietBelow
import Derived.BigQuiet
import Derived.IntWalk
namespace Go.Proofs.Ytljleibhncidmaa
open Go.ChangeShapes Go.WideShapes Go.ChangeAt Go.RowKit
set_option linter.unusedVariables false
/-- The cells of the name at a place of a row. -/
theorem Names.cells {w : World} {B g n c : Nat} {L : List NM.Nm} (h : Names w B (.slice (some ⟨g, 0, none⟩) n c) L) (hn : L.length = n) (i : Nat) (hi : i < n) :
    w.cell? ⟨g, 3 * i, none⟩ = some (.int .i64 (L.getD i (0, 0, 0)).1) ∧ w.cell? ⟨g, 3 * i + 1, none⟩ = some (.int .i64 (L.getD i (0, 0, 0)).2.1) ∧ w.cell? ⟨g, 3 * i + 2, none⟩ = some (.int .i64 (L.getD i (0, 0, 0)).2.2) := by
  subst hn
  obtain ⟨e1, e2, e3⟩ := NM.flat_at L i hi
  refine ⟨?_, ?_, ?_⟩
  · rw [← e1]; exact RowN.cell h (by omega)
  · rw [← e2]; exact RowN.cell h (by omega)
  · rw [← e3]; exact RowN.cell h (by omega)
theorem Names.at_ {w : World} {B : Nat} {v : Value} {L : List NM.Nm} (h : Names w B v L) (n : Nat) (hn : L.length = n) (h0 : 0 < n) : ∃ g c, v = .slice (some ⟨g, 0, none⟩) n c ∧ n ≤ c ∧ g < w.heap.size := by
  subst hn
  obtain ⟨g, c, hv, hc, _, _, hg⟩ := RowN.at_ h h0
  exact ⟨g, c, hv, hc, hg⟩
set_option maxRecDepth 100000 in
set_option maxHeartbeats 4000000 in
theorem layoutWords_small (t s l b : Nat) (w : World) (h : CfgOk t s l b) (ht : t ≤ 12) (hs : s ≤ 60) :
    Calls Try.prog 6 #[.agg #[.int .i64 t, .int .i64 s, .int .i64 l, .int .i64 b]] w fun e w' => e = .returned (.bool true) ∧ Ext w w' := by
  have HO := Lib.hid (fun W => of_yes t s l b W h)
  have HF := Lib.hid (fun W => few_small t s l b W (by omega) (by omega))
  have HR := Lib.hid (fun W => rright_yes t s l b W h)
  obtain ⟨hs0, hl1, hb1⟩ : 1 ≤ s ∧ l ≤ 64 ∧ b ≤ 64 := by obtain ⟨_, ⟨_, _⟩, ⟨_, _⟩, _, _⟩ := h; omega
  have HLa := Lib.hid (fun W => lasting_any t s l b W (by omega) (by omega) hl1 hb1)
  have HPa := Lib.hid (fun W => passing_any t s l b W (by omega) (by omega))
  obtain ⟨Q, hQ⟩ : ∃ Q : Nat, Q = 5 + (b + 7) / 8 + t + (l + 7) / 8 * t + s := ⟨_, rfl⟩
  have hLen : (NM.last t s l b).length = 8 * Q := by rw [NM.last_len, hQ]
  have hPen : (NM.pass t s).length = 2 + t + s := NM.pass_len t s
  have hF4 : layF t s l b 4 = (Q : Int) := by
    show 5 + ((b : Int) + 7) / 8 + t + t * (((l : Int) + 7) / 8) + s = _
    have e1 : ((l : Int) + 7) / 8 = (((l + 7) / 8 : Nat) : Int) := by omega
    have e2 : ((b : Int) + 7) / 8 = (((b + 7) / 8 : Nat) : Int) := by omega
    rw [e1, e2, hQ, Int.mul_comm (t : Int)]
    generalize (l + 7) / 8 = nl
    generalize (b + 7) / 8 = nb
    simp only [Int.natCast_add, Int.natCast_mul]
    generalize (nl : Int) * (t : Int) = z
    omega
  have hQb : Q ≤ 1000 := by
    have : (l + 7) / 8 * t ≤ 8 * 12 := Nat.mul_le_mul (by omega) ht
    omega
  have hQ5 : 5 ≤ Q := by omega
  have hfit := NM.fits_last t s l b
  have hfip := NM.fits_pass t s l b
  have HK := Lib.hid (fun W p (hW : LayAt W p (cellsF (layF t s l b))) => tConfig_any p _ t s l b W hW (cellsF_at _ 0 (by omega)) (cellsF_at _ 1 (by omega)) (cellsF_at _ 2 (by omega)) (cellsF_at _ 3 (by omega)))
  have HLi : Hid (∀ W p, LayAt W p (cellsF (layF t s l b)) → Calls Try.prog 24 #[.pointer p] W fun e w' => e = .returned (.int .i64 (Q : Int)) ∧ Ext W w') := Lib.hid (fun W p hW => by
    have := tLines_any p _ (layF t s l b 4) W hW (cellsF_at _ 4 (by omega))
    rw [hF4] at this
    exact this)
  obtain ⟨P, hP⟩ : ∃ P : Nat, P = 2 + t + s := ⟨_, rfl⟩
  have HPi : Hid (∀ W p, LayAt W p (cellsF (layF t s l b)) → Calls Try.prog 25 #[.pointer p] W fun e w' => e = .returned (.int .i64 (P : Int)) ∧ Ext W w') := Lib.hid (fun W p hW => by
    have := tPassing_any p _ (layF t s l b 5) W hW (cellsF_at _ 5 (by omega))
    rw [show layF t s l b 5 = (P : Int) by show 2 + (t : Int) + s = _; omega] at this
    exact this)
  have HT := Lib.hid (fun W p k a c (hW : LayAt W p (cellsF (layF t s l b))) => told_any (layF t s l b) (okayF h) p k a c W hW)
  rw [← hP] at hPen
  have hP2 : 2 ≤ P := by omega
  have hPb : P ≤ 1000 := by omega
  obtain ⟨N, hN⟩ : ∃ N : Nat, N = 8 * Q := ⟨_, rfl⟩
  rw [← hN] at hLen
  have hN8 : (N : Int) / 8 = (Q : Int) := by omega
  have hN9 : N / 8 = Q := by omega
  have hN0 : 0 < N := by omega
  have hNb : N ≤ 8000 := by omega
  have HN8 := Lib.hid hN8
  have HN9 := Lib.hid hN9
  have HLen := Lib.hid hLen
  have HPen := Lib.hid hPen
  have HFit := Lib.hid hfit
  have HFip := Lib.hid hfip
  clear hLen hPen hfit hfip hF4 hQ hP hN8 hN9 hN h
  generalize NM.last t s l b = L at *
  generalize NM.pass t s = M at *
  generalize layF t s l b = G at *
  go_enter Try.func6, Try.ntmps6
  go_wp2_with fail
  refine (HF.out _).mono ?_
  rintro e w1 ⟨rfl, x1⟩
  have p1 := (C4.new w t s l b 23).ext x1 (by simp)
  have xa := ((Ext.refl w).alloc _).trans x1
  have z1 : w.heap.size < w1.heap.size := by have := x1.size; simp at this; omega
  have HP1 := Lib.hid p1
  obtain ⟨c0, c1, c2, c3⟩ := p1
  clear x1 HF
  go_wp2_with fail
  refine (HO.out _).mono ?_
  rintro e w2 ⟨g, rfl, hg, hgl, x2⟩
  have hL := Lib.hid (show LayAt w2 (some ⟨g, 0, none⟩) (cellsF G) from Or.inl ⟨g, rfl, hg⟩)
  have HP2 := Lib.hid (HP1.out.ext x2 z1)
  have xb := xa.trans x2
  have z2 : w.heap.size < w2.heap.size := Nat.lt_of_lt_of_le z1 x2.size
  clear HO hg hgl x2 xa z1 HP1 c0 c1 c2 c3
  obtain ⟨c0, c1, c2, c3⟩ := HP2.out
  go_wp2_with fail
  refine (HR.out _).mono ?_
  rintro e w3 ⟨rfl, x3⟩
  replace hL := Lib.hid (hL.out.ext x3)
  have HP3 := Lib.hid (HP2.out.ext x3 z2)
  have xc := xb.trans x3
  have z3 : w.heap.size < w3.heap.size := Nat.lt_of_lt_of_le z2 x3.size
  clear HR x3 xb z2 HP2 c0 c1 c2 c3
  go_upto_region 6 with fail
  go_cut [5, 6] (fun s5 s6 wx => Names wx w3.heap.size s5 L ∧ Names wx w3.heap.size s6 M ∧ Ext w3 wx)
  case first =>
    have xt : Ext w3 w3.drew := (Ext.refl w3).drew
    obtain ⟨c0, c1, c2, c3⟩ := HP3.out
    go_region_with (first
      | (go_at_call 21; refine (HLa.out _).mono ?_; rintro e wa ⟨va, rfl, ra, ya⟩; have RA := Lib.hid (Names.mono (B' := w3.heap.size) ra (by exact xt.size)); clear ra; replace xt := xt.trans ya; obtain ⟨i0, i1, i2, i3⟩ := HP3.out.ext xt z3; try (replace RB := Lib.hid (RB.out.ext ya)); clear ya)
      | (go_at_call 22; refine (HPa.out _).mono ?_; rintro e wb ⟨vb, rfl, rb, yb⟩; have RB := Lib.hid (Names.mono (B' := w3.heap.size) rb (by exact xt.size)); clear rb; replace xt := xt.trans yb; obtain ⟨j0, j1, j2, j3⟩ := HP3.out.ext xt z3; try (replace RA := Lib.hid (RA.out.ext yb)); clear yb))
    all_goals
      go_wp2_with fail
      go_meet
      exact ⟨RA.out, RB.out, xt⟩
  case rest =>
    obtain ⟨hA, hB, xr⟩ := hcut
    clear HLa HPa
    obtain ⟨ga, ca, rfl, hca, hga⟩ := hA.at_ N HLen.out hN0
    obtain ⟨gb, cb, rfl, hcb, hgb⟩ := hB.at_ P HPen.out (by omega)
    have HA := Lib.hid hA
    have HB := Lib.hid hB
    have HPc := Lib.hid (HP3.out.ext xr z3)
    have HL4 := Lib.hid (hL.out.ext xr)
    have xd := xc.trans xr
    have z4 : w.heap.size < wc.heap.size := Nat.lt_of_lt_of_le z3 xr.size
    clear hA hB xr HP3 hL xc z3
    generalize wc = w4 at *
    obtain ⟨c0, c1, c2, c3⟩ := HPc.out
    have d0 := fun d os => cell_regrown c0 d os
    have d1 := fun d os => cell_regrown c1 d os
    have d2 := fun d os => cell_regrown c2 d os
    have d3 := fun d os => cell_regrown c3 d os
    have heq := fun W => eqc_yes t s l b W
    have q8 := HN8.out
    have q9 := HN9.out
    have hwq : IntKind.i64.wrap (Q : Int) = (Q : Int) := IntWalk.i64_in _ (by omega)
    have Q1 := Lib.hid (fun W (x : Ext w4 W) => HK.out W _ (HL4.out.ext x))
    have Q2 := Lib.hid (fun W (x : Ext w4 W) => HLi.out W _ (HL4.out.ext x))
    have Q3 := Lib.hid (fun W (x : Ext w4 W) => HPi.out W _ (HL4.out.ext x))
    clear c0 c1 c2 c3 HK HLi HPi
    go_wp2_with fail
    refine wp_region_quiet_below (by kernel_rfl) (by kernel_rfl) ?_
    repeat (quiet_step (first
      | (with_reducible exact Calls.regrown_of (Q1.out _ (Ext.of (below_regrown _ _ _))))
      | (with_reducible exact Calls.regrown_of (Q2.out _ (Ext.of (below_regrown _ _ _))))
      | (with_reducible exact Calls.regrown_of (Q3.out _ (Ext.of (below_regrown _ _ _))))))
    refine wpQuiet_nil ?_
    intro w5 hw'
    have x5 : Ext w4 w5 := by
      obtain ⟨⟨dq, osq⟩, hw2⟩ := hw'
      rw [hw2]
      exact Ext.of (below_regrown w4 dq osq)
    clear hw' d0 d1 d2 d3 heq q8 q9 hwq Q1 Q2 Q3 HN8 HN9
    have HA5 := Lib.hid (HA.out.ext x5)
    have HB5 := Lib.hid (HB.out.ext x5)
    have HL5 := Lib.hid (HL4.out.ext x5)
    have xe := xd.trans x5
    clear HA HB HL4 xd x5 HPc z4
    go_wp2_with fail
    go_loopw [7] (fun i wr => ∃ k : Nat, k ≤ N ∧ i = .int .i64 k ∧ Ext w5 wr) (fun i _ => N - (intOf i).toNat)
    case atStart => exact ⟨0, Nat.zero_le _, rfl, Ext.refl _⟩
    case round =>
      obtain ⟨k, hk, rfl, xr⟩ := hrel
      by_cases hk2 : k < N
      · obtain ⟨e0, e1, e2⟩ := (HA5.out.ext xr).cells HLen.out k hk2
        have hf := HFit.out k (by rw [HLen.out]; exact hk2)
        have hk3 : (k : Int) < (N : Int) := by omega
        have hk4 : (0 : Int) ≤ (k : Int) := by omega
        generalize L.getD k (0, 0, 0) = nn at e0 e1 e2 hf
        obtain ⟨na, nb, nc⟩ := nn
        have g0 : wr.cell? ⟨ga, k * 3, none⟩ = some (.int .i64 na) := by rw [Nat.mul_comm]; exact e0
        have g1 : wr.cell? ⟨ga, k * 3 + 1, none⟩ = some (.int .i64 nb) := by rw [Nat.mul_comm]; exact e1
        have g2 : wr.cell? ⟨ga, k * 3 + 2, none⟩ = some (.int .i64 nc) := by rw [Nat.mul_comm]; exact e2
        simp only at e0 e1 e2 hf
        rcases hf with hf | ⟨hf1, hf2, hf3⟩
        · have hf' : ¬ 1 < na := by omega
          clear hf
          go_wp2_with fail
          go_roundw
          case rel => exact ⟨k + 1, by omega, by go_num, xr⟩
          case measure => simp [intOf]; omega
        · have hf' : 1 < na := by omega
          have HF3 := Lib.hid (show toldF G na nb nc = (k : Int) by rw [hf3]; omega)
          clear hf3
          go_wp2_with fail
          refine (HT.out _ _ na nb nc (HL5.out.ext xr) hf1 hf2).mono ?_
          rintro e w6 ⟨rfl, y6⟩
          rw [HF3.out]
          go_wp2_with fail
          go_roundw
          case rel => exact ⟨k + 1, by omega, by go_num, xr.trans y6⟩
          case measure => simp [intOf]; omega
      · have xf := xe.trans xr
        replace HB5 := Lib.hid (HB5.out.ext xr)
        replace HL5 := Lib.hid (HL5.out.ext xr)
        clear xe xr HA5
        generalize wr = w7 at *
        have hk5 : ¬ (k : Int) < (N : Int) := by omega
        go_wp2_with fail
        go_loopw [8] (fun i wr => ∃ k : Nat, k ≤ P ∧ i = .int .i64 k ∧ Ext w7 wr) (fun i _ => P - (intOf i).toNat)
        case atStart => exact ⟨0, Nat.zero_le _, rfl, Ext.refl _⟩
        case round =>
          obtain ⟨q, hq, rfl, xr⟩ := hrel
          by_cases hq2 : q < P
          · obtain ⟨e0, e1, e2⟩ := (HB5.out.ext xr).cells HPen.out q hq2
            have hf := HFip.out q (by rw [HPen.out]; exact hq2)
            have hq3 : (q : Int) < (P : Int) := by omega
            have hq4 : (0 : Int) ≤ (q : Int) := by omega
            generalize M.getD q (0, 0, 0) = nn at e0 e1 e2 hf
            obtain ⟨na, nb, nc⟩ := nn
            have g0 : wr.cell? ⟨gb, q * 3, none⟩ = some (.int .i64 na) := by rw [Nat.mul_comm]; exact e0
            have g1 : wr.cell? ⟨gb, q * 3 + 1, none⟩ = some (.int .i64 nb) := by rw [Nat.mul_comm]; exact e1
            have g2 : wr.cell? ⟨gb, q * 3 + 2, none⟩ = some (.int .i64 nc) := by rw [Nat.mul_comm]; exact e2
            simp only at e0 e1 e2 hf
            obtain ⟨hf1, hf2, hf3⟩ := hf
            have HF3 := Lib.hid hf3
            clear hf3
            go_wp2_with fail
            refine (HT.out _ _ na nb nc (HL5.out.ext xr) hf1 hf2).mono ?_
            rintro e w8 ⟨rfl, y8⟩
            rw [HF3.out]
            go_wp2_with fail
            go_roundw
            case rel => exact ⟨q + 1, by omega, by go_num, xr.trans y8⟩
            case measure => simp [intOf]; omega
          · have hq5 : ¬ (q : Int) < (P : Int) := by omega
            go_wp2_with fail
            refine (awake6_any _).mono ?_
            rintro e w9 ⟨rfl, y9⟩
            go_wp2_with fail
            go_ret
            exact ⟨rfl, (xf.trans xr).trans y9⟩
end Go.Proofs.Ytljleibhncidmaa
