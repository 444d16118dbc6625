/- Alone a Pop takes the first slot in three steps, or tells in one that there is none, and a Push puts it back in three: the law answers true for every config, number of slots and thread, and changes nothing. Conditions: none. -/
import Derived.Test.YtfbobdkfibhcnaaKFM
import Derived.Test.YtfbobdkfibhcnaaArgs
import Derived.Deep.RegionHeld3
import Derived.Deep.DeepCutAuto
import Derived.Deep.CutBlock
import Derived.Test.YtfbobdkfibhcnaaFreeLists
import Derived.Test.YtfbobdkfibhcnaaCfgV
namespace Go.Proofs.Ytfbobdkfibhcnaa
open Go.ChangeShapes Go.WideShapes Go.ChangeAt Go.RowKit
set_option linter.unusedVariables false

/-- How many slots are laid: as many as there are, as asked, and no more than 30. -/
def manyN (s : Nat) (many : Int) : Nat := min (min s many.toNat) 30
theorem manyN_lt {s : Nat} {many : Int} {k : Nat} : (k : Int) < (s : Int) ∧ (k : Int) < many ∧ (k : Int) < 30 ↔ k < manyN s many := by
  unfold manyN
  omega
set_option maxRecDepth 100000 in
set_option maxHeartbeats 8000000 in
theorem freeAlone_yes (w : World) (t s l b : Nat) (many th : Int) (hth : -9223372036854775808 ≤ th ∧ th < 9223372036854775808) (hg : GrOk t s l b) :
    Calls Try.prog 3 #[.agg #[.int .i64 t, .int .i64 s, .int .i64 l, .int .i64 b], .int .i64 many, .int .i64 th] w fun e w' => e = .returned (.bool true) ∧ Ext w w' := by
  have X0 := Lib.hid ((Ext.refl w).alloc (.cells #[.int .i64 t, .int .i64 s, .int .i64 l, .int .i64 b] 23))
  have B0 := Lib.hid (Blk.new w 23 [.int .i64 t, .int .i64 s, .int .i64 l, .int .i64 b])
  have HY := Lib.hid (fun W => few9_yes t s l b W hg)
  have HG := Lib.hid hg
  obtain ⟨hc, h1, h2, h3, h4⟩ := id hg
  obtain ⟨⟨q0, q1⟩, ⟨q2, q3⟩, ⟨q4, q5⟩, q6, q7⟩ := id hc
  have HOk := Lib.hid (okayF hc)
  have HCf : Hid (CfgN t s l b) := Lib.hid ⟨by omega, by omega, by omega, by omega, by omega⟩
  have HF22 : Hid (layF t s l b 22 = -2) := Lib.hid rfl
  have HF1 : Hid (layF t s l b 1 = (s : Int)) := Lib.hid rfl
  have t1 : 1 ≤ t := by omega
  have t6 : t ≤ 6 := by omega
  have s30 : s ≤ 30 := by omega
  have s1 : 1 ≤ s := by omega
  have hn30 : manyN s many ≤ 30 := by unfold manyN; omega
  have hns : manyN s many ≤ s := by unfold manyN; omega
  have HM : Hid (∀ k : Nat, (k : Int) < (s : Int) ∧ (k : Int) < many ∧ (k : Int) < 30 ↔ k < manyN s many) := Lib.hid (fun k => manyN_lt)
  obtain ⟨n, hn⟩ : ∃ n, manyN s many = n := ⟨_, rfl⟩
  rw [hn] at HM hn30 hns
  have HTh := Lib.hid hth
  clear hg hc h1 h2 h3 h4 q0 q1 q2 q3 q4 q5 q6 q7 hn hth
  go_enter Try.func3, Try.ntmps3
  go_upto_region 1 with fail
  generalize w.alloc (.cells #[.int .i64 t, .int .i64 s, .int .i64 l, .int .i64 b] 23) = W0 at *
  have y0 : W0.cell? ⟨w.heap.size, 0, none⟩ = some (.int .i64 t) := B0.out.cell 0
  have y1 : W0.cell? ⟨w.heap.size, 1, none⟩ = some (.int .i64 s) := B0.out.cell 1
  have y2 : W0.cell? ⟨w.heap.size, 2, none⟩ = some (.int .i64 l) := B0.out.cell 2
  have y3 : W0.cell? ⟨w.heap.size, 3, none⟩ = some (.int .i64 b) := B0.out.cell 3
  go_wp2_with fail
  refine (HY.out _).mono ?_
  rintro e w1 ⟨rfl, x1⟩
  have X1 := Lib.hid (X0.out.trans x1)
  have B1 := Lib.hid (B0.out.ext x1)
  clear x1 y0 y1 y2 y3 X0 B0 HY
  go_upto_block 0 with fail
  go_cut [7] (fun s7 wx => Row wx w.heap.size 3 .i64 s7 (upN n) ∧ Ext w wx ∧ Blk wx w.heap.size 23 [.int .i64 t, .int .i64 s, .int .i64 l, .int .i64 b])
  case first =>
    go_wp2_with fail
    go_loopw [7, 8] (fun v i wr => ∃ (k : Nat) (vv : Value), k ≤ n ∧ i = .int .i64 k ∧ vv = v ∧ Row wr w.heap.size 3 .i64 vv (upN k) ∧ Ext w wr ∧ Blk wr w.heap.size 23 [.int .i64 t, .int .i64 s, .int .i64 l, .int .i64 b] ∧ vv.ownBlock ≠ some w.heap.size) (fun _ i _ => n - (intOf i).toNat)
    case atStart => exact ⟨0, _, Nat.zero_le _, rfl, rfl, Row.nil _ _ _ _, X1.out, B1.out, by simp [Value.ownBlock]⟩
    case round =>
      obtain ⟨k, vv, hk, rfl, rfl, row, xk, bk, ob⟩ := hrel
      have RW := Lib.hid row
      have XK := Lib.hid xk
      have BK := Lib.hid bk
      have OB := Lib.hid ob
      clear row xk bk ob X1 B1
      have y0 : wr.cell? ⟨w.heap.size, 0, none⟩ = some (.int .i64 t) := BK.out.cell 0
      have y1 : wr.cell? ⟨w.heap.size, 1, none⟩ = some (.int .i64 s) := BK.out.cell 1
      have y2 : wr.cell? ⟨w.heap.size, 2, none⟩ = some (.int .i64 l) := BK.out.cell 2
      have y3 : wr.cell? ⟨w.heap.size, 3, none⟩ = some (.int .i64 b) := BK.out.cell 3
      by_cases hlt : k < n
      · obtain ⟨c1, c2, c3⟩ := (HM.out k).2 hlt
        have d1 : decide ((k : Int) < (s : Int)) = true := by simp; omega
        have d1' : decide (k < s) = true := by simp; omega
        have d2 : decide ((k : Int) < many) = true := by simpa using c2
        have d3 : decide ((k : Int) < 30) = true := by simp; omega
        have d3' : decide (k < 30) = true := by simp; omega
        have hbl := BK.out.lt
        have HL : Hid ((upN k).length < 1000000000) := Lib.hid (by rw [upN_len]; omega)
        clear c1 c2 c3
        go_wp2_with ((at_builtin; refine Hid.out ?_))
        refine Lib.hid ?_
        refine wpList_pushOff rfl _ _ 26 rfl 3 .i64 8 int_info (by decide) Try.underlying26 w wr vv (upN k) (k : Int) (by rfl) RW.out XK.out (by rfl) HL.out ?_
        intro v' w5 h1 h2 h3
        have R5 := Lib.hid h1
        have X5 := Lib.hid h2
        obtain ⟨a1, a2⟩ := h3 w.heap.size hbl OB.out
        have B5 := Lib.hid (show Blk w5 w.heap.size 23 [.int .i64 t, .int .i64 s, .int .i64 l, .int .i64 b] from a1.trans BK.out)
        have O5 := Lib.hid a2
        rw [← upN_succ] at R5
        clear h1 h2 h3 a1 a2 y0 y1 y2 y3
        go_wp2_with fail
        go_roundw
        case rel => exact ⟨k + 1, v', by omega, by go_num, rfl, R5.out, X5.out, B5.out, O5.out⟩
        case measure => simp [intOf]; omega
      · have hkn : k = n := by omega
        have hno : ¬ ((k : Int) < (s : Int) ∧ (k : Int) < many ∧ (k : Int) < 30) := fun e => hlt ((HM.out k).1 e)
        have R9 : Hid (Row wr w.heap.size 3 .i64 vv (upN n)) := Lib.hid (by rw [← hkn]; exact RW.out)
        by_cases c1 : k < s
        · have c2 : ¬ (k : Int) < many := fun e => hno ⟨by omega, e, by omega⟩
          have d1 : decide ((k : Int) < (s : Int)) = true := by simp; omega
          have d1' : decide (k < s) = true := by simp; omega
          have d2 : decide ((k : Int) < many) = false := by simpa using c2
          clear hno hkn c2
          go_wp2_with fail
          go_meet
          exact ⟨R9.out, XK.out, BK.out⟩
        · have d1 : decide ((k : Int) < (s : Int)) = false := by simp; omega
          have d1' : decide (k < s) = false := by simp; omega
          clear hno hkn
          go_wp2_with fail
          go_meet
          exact ⟨R9.out, XK.out, BK.out⟩
  case rest =>
    obtain ⟨row, xr, br⟩ := hcut
    obtain ⟨Av, cv, hv, hIv, hbig⟩ := row_at row
    rw [upN_len] at hv
    subst hv
    generalize wc = w2 at *
    have HI := Lib.hid hIv
    have X2 := Lib.hid xr
    have B2 := Lib.hid br
    have HRo := Lib.hid (rows_ok HCf.out HOk.out w2 Av n cv (upN n) (upN_len n) (by omega) hIv (fun i hi => by rw [upN_at hi]; omega))
    have HLa := Lib.hid (fun (W : World) (A : Option Addr) (c : Nat) (h : PutsAt W A (rowPs (layF t s l b) (upN n) n)) => lay_ok W A n c t s l b (rowPs (layF t s l b) (upN n) n) HG.out (rowPs_len _ _ _) (by omega) h)
    have HFa := Lib.hid (ground_free (t := t) (l := l) (b := b) hns (by omega))
    have hcal := putAll_calm (s := startSt t s l b) rfl rfl (rowPs (layF t s l b) (upN n) n) n (by rw [rowPs_len]; exact Nat.le_refl _)
    rw [List.take_of_length_le (by rw [rowPs_len]; exact Nat.le_refl _)] at hcal
    have HCa : Hid (CalmN 30 (groundSt t s l b (rowPs (layF t s l b) (upN n) n))) := Lib.hid (CalmN.mono hcal (by omega))
    clear row xr br hIv hbig hcal X1 B1 HI HM
    have y0 : w2.cell? ⟨w.heap.size, 0, none⟩ = some (.int .i64 t) := B2.out.cell 0
    have y1 : w2.cell? ⟨w.heap.size, 1, none⟩ = some (.int .i64 s) := B2.out.cell 1
    have y2 : w2.cell? ⟨w.heap.size, 2, none⟩ = some (.int .i64 l) := B2.out.cell 2
    have y3 : w2.cell? ⟨w.heap.size, 3, none⟩ = some (.int .i64 b) := B2.out.cell 3
    go_wp2_with fail
    refine HRo.out.mono ?_
    rintro e w3 ⟨A3, c3, rfl, hp, x3⟩
    rw [rowPs_len]
    have HLa3 := Lib.hid (HLa.out w3 A3 c3 hp)
    have X3 := Lib.hid (X2.out.trans x3)
    have B3 := Lib.hid (B2.out.ext x3)
    clear hp x3 HRo HLa y0 y1 y2 y3 X2 B2
    go_wp2_with fail
    refine HLa3.out.mono ?_
    rintro e w4 ⟨gl, gm, dv, pv, g, R, rv, rfl, bl, gr⟩
    obtain ⟨s0, hs0⟩ : ∃ s0, groundSt t s l b (rowPs (layF t s l b) (upN n) n) = s0 := ⟨_, rfl⟩
    rw [hs0] at gr HFa HCa
    have X4 := Lib.hid (X3.out.trans gr.mem.lt.1)
    have B4 := Lib.hid (B3.out.ext gr.mem.lt.1)
    have BL := Lib.hid bl
    have GR := Lib.hid gr
    clear bl gr hs0 HLa3 B3
    have y0 : w4.cell? ⟨w.heap.size, 0, none⟩ = some (.int .i64 t) := B4.out.cell 0
    have y1 : w4.cell? ⟨w.heap.size, 1, none⟩ = some (.int .i64 s) := B4.out.cell 1
    have y2 : w4.cell? ⟨w.heap.size, 2, none⟩ = some (.int .i64 l) := B4.out.cell 2
    have y3 : w4.cell? ⟨w.heap.size, 3, none⟩ = some (.int .i64 b) := B4.out.cell 3
    by_cases hin : 0 ≤ th ∧ th < (t : Int)
    · have i1 : decide (th < 0) = false := by simp; omega
      have i2 : decide ((t : Int) ≤ th) = false := by simp; omega
      clear hin
      go_wp2_with fail
      refine (newPop_ok w4 gl th).mono ?_
      rintro e w5 ⟨gp, rfl, lp, bp, x5⟩
      have HNe : Hid (gl ≠ gp ∧ w3.heap.size ≤ gp) := Lib.hid (by
        have h1 := BL.out.lt
        have h2 := GR.out.mem.lt.1.size
        exact ⟨by omega, by omega⟩)
      have M5 : Hid (IsMem (fun q => q = gl ∨ q = gp) w5 w3 w5 gm dv pv s0) := Lib.hid (GR.out.mem.hold (Q' := fun q => q = gl ∨ q = gp) x5 (fun q hq => by
        rcases hq with e | e
        · rw [e]; exact ⟨(BL.out.ext x5).lt, Or.inl (Or.inr rfl)⟩
        · rw [e]; exact ⟨bp.lt, Or.inr lp⟩))
      have BP := Lib.hid bp
      have BL5 := Lib.hid (BL.out.ext x5)
      have X5 := Lib.hid (X4.out.trans x5)
      have B5 := Lib.hid (B4.out.ext x5)
      obtain ⟨cl, hcl⟩ : ∃ cl, s0.clock = cl := ⟨_, rfl⟩
      have HCl := Lib.hid hcl
      have hc5 := memClock_ok M5.out
      rw [hcl] at hc5
      have HC5 := Lib.hid hc5
      clear bp x5 lp BL GR X4 B4 hcl hc5 y0 y1 y2 y3
      go_wp2_with fail
      refine HC5.out.mono ?_
      rintro e w' ⟨rfl, rfl⟩
      clear HC5
      go_wp2_with fail
      generalize w3 = wz at *
      go_loopw [15] (fun i w9 => ∃ j : Nat, j ≤ 9 ∧ i = .int .i64 j ∧ IsMem (fun q => q = gl ∨ q = gp) w9 wz w9 gm dv pv (popRun (layF t s l b) th s0 j).2 ∧ Blk w9 gl 138 (cellsF (layF t s l b)) ∧ Blk w9 gp 98 ((popRun (layF t s l b) th s0 j).1.cells gl th) ∧ (popRun (layF t s l b) th s0 j).1.Wf ∧ CalmN (30 + (j : Int)) (popRun (layF t s l b) th s0 j).2) (fun i _ => 9 - (intOf i).toNat)
      case atStart => exact ⟨0, Nat.zero_le _, rfl, M5.out, BL5.out, BP.out, PMs.wf0, (show CalmN (30 + ((0 : Nat) : Int)) s0 by simpa using HCa.out)⟩
      case round =>
        obtain ⟨j, hj, rfl, mj, lj, aj, wfj, cj⟩ := hrel
        have MJ := Lib.hid mj
        have LJ := Lib.hid lj
        have AJ := Lib.hid aj
        have WJ := Lib.hid wfj
        have CJ := Lib.hid cj
        clear mj lj aj wfj cj M5 BL5 BP
        by_cases hlt : j < 9
        · have v2 : decide (j < 9) = true := by simp; omega
          have v3 : decide ((j : Int) < 9) = true := by simp; omega
          have HSt := popStep_ok MJ.out (CJ.out.calm (by omega)) HOk.out WJ.out AJ.out LJ.out HF22.out (Or.inr rfl) (Or.inl rfl) HNe.out.2
          have hwf := popS_wf (F := layF t s l b) (t := th) (fun a => MJ.out.peekU a) WJ.out CJ.out
          rw [← popRun_succ] at HSt hwf
          have HWf := Lib.hid hwf
          have HS := Lib.hid HSt
          clear HSt hwf
          go_wp2_with fail
          refine HS.out.mono ?_
          rintro e w10 ⟨rfl, m10, b10, k10⟩
          have M10 := Lib.hid m10
          have B10 := Lib.hid b10
          have L10 := Lib.hid ((k10 gl (Or.inl rfl) HNe.out.1).trans LJ.out)
          clear m10 b10 k10 HS LJ
          go_wp2_with fail
          go_roundw
          case rel => exact ⟨j + 1, by omega, by go_num, M10.out, L10.out, B10.out, HWf.out.1, by rw [show (30 : Int) + ((j + 1 : Nat) : Int) = 30 + (j : Int) + 1 by omega]; exact HWf.out.2⟩
          case measure => simp [intOf]; omega
        · have v2 : decide (j < 9) = false := by simp; omega
          have v3 : decide ((j : Int) < 9) = false := by simp; omega
          obtain rfl : j = 9 := by omega
          have HAw := Lib.hid (fun W => awake9_ok W)
          have c0 := HCa.out.1
          have c30 := HCa.out.2.1
          rw [HCl.out] at c0 c30
          have wk1 : IntKind.i64.wrap (cl + 1) = cl + 1 := i64w _ (by omega) (by omega)
          have wk3 : IntKind.i64.wrap (cl + 3) = cl + 3 := i64w _ (by omega) (by omega)
          have wk6 : IntKind.i64.wrap (cl + 6) = cl + 6 := i64w _ (by omega) (by omega)
          have dc1 : (cl + 1 == cl + 1) = true := by simp
          have dc3 : (cl + 3 != cl + 3) = false := by simp
          have dc6 : (cl + 6 == cl + 6) = true := by simp
          have X9 := Lib.hid MJ.out.lt.1
          by_cases hz0 : n = 0
          · subst hz0
            have hrun := pop_none (F := layF t s l b) (th := th) (st := s0) (by have := HFa.out.top; simpa using this) 8
            have hr1 : (popRun (layF t s l b) th s0 9).1.dn = true := by unfold popRun; rw [hrun]
            have hr2 : toN (popRun (layF t s l b) th s0 9).1.top = -1 := by unfold popRun; rw [hrun]; have := HFa.out.top; simpa using this
            have hr3 : (popRun (layF t s l b) th s0 9).2.clock = cl + 1 := by unfold popRun; rw [hrun]; exact (load_parts s0 th (-2)).2.2.trans (by rw [HCl.out])
            have HDo : Hid (∀ W, Ext wr W → Calls Try.prog 16 #[.pointer (some ⟨gp, 0, none⟩)] W fun e w' => e = .returned (.bool true) ∧ Ext W w') := Lib.hid (fun W x => (popDone_ok W gp true (by have := (AJ.out.ext x).cell 4; rw [← hr1]; exact this)).mono (by rintro e w' ⟨rfl, rfl⟩; exact ⟨rfl, Ext.refl _⟩))
            have HSl : Hid (∀ W, Ext wr W → Calls Try.prog 17 #[.pointer (some ⟨gp, 0, none⟩)] W fun e w' => e = .returned (.int .i64 (-1)) ∧ Ext W w') := Lib.hid (fun W x => (popSlot_ok W gp _ true WJ.out.top ((AJ.out.ext x).cell 3) (by have := (AJ.out.ext x).cell 4; rw [← hr1]; exact this)).mono (by rintro e w' ⟨rfl, x'⟩; exact ⟨by rw [if_pos rfl, hr2], x'⟩))
            have HCk : Hid (∀ W, Ext wr W → Calls Try.prog 14 #[.pointer (some ⟨gm, 0, none⟩)] W fun e w' => e = .returned (.int .i64 (cl + 1)) ∧ Ext W w') := Lib.hid (fun W x => (memClock_ok (MJ.out.ext x)).mono (by rintro e w' ⟨rfl, rfl⟩; exact ⟨by rw [hr3], Ext.refl _⟩))
            clear hr1 hr2 hr3 hrun
            clear MJ LJ AJ WJ CJ
            go_wp2_with fail
            refine (HAw.out _).mono ?_
            rintro e w6 ⟨rfl, x6⟩
            have X6 := Lib.hid x6
            clear x6
            go_wp2_with fail
            refine (HDo.out _ X6.out).mono ?_
            rintro e w7 ⟨rfl, x7⟩
            have X7 := Lib.hid (X6.out.trans x7)
            clear x7
            go_wp2_with fail
            refine (HSl.out _ X7.out).mono ?_
            rintro e w8 ⟨rfl, x8⟩
            have X8 := Lib.hid (X7.out.trans x8)
            clear x8
            go_wp2_with fail
            refine (HCk.out _ X8.out).mono ?_
            rintro e w9 ⟨rfl, x9⟩
            have X9b := Lib.hid (X8.out.trans x9)
            clear x9
            go_wp2_with fail
            go_ret
            exact ⟨rfl, (X3.out.trans X9.out).trans X9b.out⟩
          · obtain ⟨s3, hr, ok3, ht3, hk3, hc3⟩ := pop_one (t := t) (s := s) (l := l) (b := b) (n := n) (th := th) (st := s0) (by omega) hns HFa.out
            have e9 : popRun (layF t s l b) th s0 9 = (⟨0, peekV s0 (-2), nextS (layF t s l b) s0 0, true⟩, s3) := hr 6
            rw [HCl.out] at hc3
            obtain ⟨T, hT⟩ : ∃ T, peekV s0 (-2) = T := ⟨_, rfl⟩
            obtain ⟨nx, hnx⟩ : ∃ nx, nextS (layF t s l b) s0 0 = nx := ⟨_, rfl⟩
            have hT0 : toN T = 0 := by have := HFa.out.top; rw [if_pos (by omega), hT] at this; exact this
            have hTW : W64 T := by have := WJ.out.top; rw [e9, hT] at this; exact this
            have hnr : -1 ≤ nx ∧ nx < 4294967295 := by
              by_cases e1 : 0 + 1 < n
              · have := HFa.out.nx 0 e1
                rw [show ((0 : Nat) : Int) = 0 from rfl, hnx] at this
                omega
              · have := HFa.out.nl 0 (by omega)
                rw [show ((0 : Nat) : Int) = 0 from rfl, hnx] at this
                omega
            rw [hT, hnx] at e9 ht3
            have hpu := push_one (t := t) (s := s) (l := l) (b := b) (n := n) (th := th) (nx := nx) (v := ver1 T) (st := s0) (s3 := s3) (by omega) hns ok3 hnx.symm hnr HFa.out ht3 (ver1_rng T) hk3
            have hmj := MJ.out
            have haj := AJ.out
            have hcj := CJ.out
            rw [e9] at hmj haj hcj
            have MP := Lib.hid hmj
            have AP := Lib.hid haj
            have CP := Lib.hid hcj
            have HPu := Lib.hid hpu
            have HC3 := Lib.hid hc3
            have HT0 := Lib.hid hT0
            have HTW := Lib.hid hTW
            clear hmj haj hcj hpu hc3 hT0 hTW hnr e9 hr ok3 ht3 hk3 hnx hT MJ AJ CJ WJ
            have dl0 : ((n : Int) == 0) = false := by rw [beq_eq_false_iff_ne]; omega
            have dl0' : ¬ (n : Int) = 0 := by omega
            have c4 : wr.cell? ⟨gp, 4, none⟩ = some (.bool true) := AP.out.cell 4
            have c3 : wr.cell? ⟨gp, 3, none⟩ = some (.int .u64 T) := AP.out.cell 3
            have HSl : Hid (∀ W, Ext wr W → Calls Try.prog 17 #[.pointer (some ⟨gp, 0, none⟩)] W fun e w' => e = .returned (.int .i64 0) ∧ Ext W w') := Lib.hid (fun W x => (popSlot_ok W gp T true HTW.out ((AP.out.ext x).cell 3) ((AP.out.ext x).cell 4)).mono (by rintro e w' ⟨rfl, x'⟩; exact ⟨by rw [if_pos rfl, HT0.out], x'⟩))
            have HDo := Lib.hid (fun W (x : Ext wr W) => popDone_ok W gp true ((AP.out.ext x).cell 4))
            have HCk : Hid (∀ W, Ext wr W → Calls Try.prog 14 #[.pointer (some ⟨gm, 0, none⟩)] W fun e w' => e = .returned (.int .i64 (cl + 3)) ∧ W = w') := Lib.hid (fun W x => (memClock_ok (MP.out.ext x)).mono (by rintro e w' ⟨rfl, rfl⟩; exact ⟨by rw [HC3.out], rfl⟩))
            clear c4 c3
            go_wp2_with fail
            refine (HSl.out _ (Ext.refl _)).mono ?_
            rintro e w6 ⟨rfl, x6⟩
            have X6 := Lib.hid x6
            clear x6
            go_wp2_with fail
            refine (newPush_ok w6 gl th 0).mono ?_
            rintro e w7 ⟨gq, rfl, lq, bq, x7⟩
            have X67 := Lib.hid (X6.out.trans x7)
            have HNq : Hid (gl ≠ gq ∧ wz.heap.size ≤ gq) := Lib.hid (by
              have h1 := LJ.out.lt
              have h2 := MP.out.lt.1.size
              have h3 := X6.out.size
              exact ⟨by omega, by omega⟩)
            have M7 : Hid (IsMem (fun q => q = gl ∨ q = gq) w7 wz w7 gm dv pv s3) := Lib.hid (MP.out.hold (Q' := fun q => q = gl ∨ q = gq) X67.out (fun q hq => by
              rcases hq with e | e
              · rw [e]; exact ⟨(LJ.out.ext X67.out).lt, Or.inl (Or.inl rfl)⟩
              · rw [e]; exact ⟨bq.lt, Or.inr (Nat.le_trans X6.out.size lq)⟩))
            have BQ := Lib.hid bq
            have BL7 := Lib.hid (LJ.out.ext X67.out)
            clear bq lq x7 X6
            go_wp2_with fail
            refine (HDo.out _ X67.out).mono ?_
            rintro e w' ⟨rfl, rfl⟩
            go_wp2_with fail
            refine (HSl.out _ X67.out).mono ?_
            rintro e w8 ⟨rfl, x8⟩
            have X8 := Lib.hid x8
            clear x8
            go_wp2_with fail
            refine (HCk.out _ (X67.out.trans X8.out)).mono ?_
            rintro e w' ⟨rfl, rfl⟩
            have M8 := Lib.hid (M7.out.ext X8.out).here
            have BQ8 := Lib.hid (BQ.out.ext X8.out)
            have BL8 := Lib.hid (BL7.out.ext X8.out)
            have CP39 : Hid (CalmN 39 s3) := Lib.hid (CP.out.mono (by decide))
            clear HDo HSl HCk M7 BQ BL7 X8 X67 MP AP CP LJ HT0 HTW
            go_wp2_with fail
            generalize wr = wp at *
            go_loopw [17] (fun i w9 => ∃ j : Nat, j ≤ 9 ∧ i = .int .i64 j ∧ IsMem (fun q => q = gl ∨ q = gq) w9 wz w9 gm dv pv (pushRun (layF t s l b) th s3 j).2 ∧ Blk w9 gl 138 (cellsF (layF t s l b)) ∧ Blk w9 gq 107 ((pushRun (layF t s l b) th s3 j).1.cells gl th) ∧ (pushRun (layF t s l b) th s3 j).1.Wf ∧ CalmN (39 + (j : Int)) (pushRun (layF t s l b) th s3 j).2) (fun i _ => 9 - (intOf i).toNat)
            case atStart => exact ⟨0, Nat.zero_le _, rfl, M8.out, BL8.out, BQ8.out, PMs.wf0, (show CalmN (39 + ((0 : Nat) : Int)) s3 by simpa using CP39.out)⟩
            case round =>
              obtain ⟨j, hj, rfl, mj, lj, aj, wfj, cj⟩ := hrel
              have MJ := Lib.hid mj
              have LJ := Lib.hid lj
              have AJ := Lib.hid aj
              have WJ := Lib.hid wfj
              have CJ := Lib.hid cj
              clear mj lj aj wfj cj M8 BL8 BQ8
              by_cases hlt : j < 9
              · have v2 : decide (j < 9) = true := by simp; omega
                have v3 : decide ((j : Int) < 9) = true := by simp; omega
                have HSt := pushStep_ok MJ.out (CJ.out.calm (by omega)) HOk.out WJ.out AJ.out LJ.out HF22.out (Or.inr rfl) (Or.inl rfl) HNq.out.2
                have hwf := pushS_wf (F := layF t s l b) (t := th) (fun a => MJ.out.peekU a) WJ.out CJ.out
                rw [← pushRun_succ] at HSt hwf
                have HWf := Lib.hid hwf
                have HS := Lib.hid HSt
                clear HSt hwf
                go_wp2_with fail
                refine HS.out.mono ?_
                rintro e w10 ⟨rfl, m10, b10, k10⟩
                have M10 := Lib.hid m10
                have B10 := Lib.hid b10
                have L10 := Lib.hid ((k10 gl (Or.inl rfl) HNq.out.1).trans LJ.out)
                clear m10 b10 k10 HS LJ
                go_wp2_with fail
                go_roundw
                case rel => exact ⟨j + 1, by omega, by go_num, M10.out, L10.out, B10.out, HWf.out.1, by rw [show (39 : Int) + ((j + 1 : Nat) : Int) = 39 + (j : Int) + 1 by omega]; exact HWf.out.2⟩
                case measure => simp [intOf]; omega
              · have v2 : decide (j < 9) = false := by simp; omega
                have v3 : decide ((j : Int) < 9) = false := by simp; omega
                obtain rfl : j = 9 := by omega
                obtain ⟨s6, y6, hr6, f6, c6⟩ := HPu.out
                have e9 : pushRun (layF t s l b) th s3 9 = (⟨0, y6, 0, true⟩, s6) := hr6 6
                have hmj := MJ.out
                have haj := AJ.out
                rw [e9] at hmj haj
                rw [HC3.out] at c6
                have MQ := Lib.hid hmj
                have AQ := Lib.hid haj
                have XQ := Lib.hid hmj.lt.1
                have HLi := freeList_ok hmj HOk.out LJ.out HF22.out s HF1.out (by omega)
                rw [f6.list hns] at HLi
                have HLl := Lib.hid HLi
                have HDq : Hid (∀ W, Ext wr W → Calls Try.prog 21 #[.pointer (some ⟨gq, 0, none⟩)] W fun e w' => e = .returned (.bool true) ∧ W = w') := Lib.hid (fun W x => pushDone_ok W gq true ((AQ.out.ext x).cell 4))
                have HCk : Hid (∀ W, Ext wr W → Calls Try.prog 14 #[.pointer (some ⟨gm, 0, none⟩)] W fun e w' => e = .returned (.int .i64 (cl + 6)) ∧ W = w') := Lib.hid (fun W x => (memClock_ok (MQ.out.ext x)).mono (by rintro e w' ⟨rfl, rfl⟩; exact ⟨by rw [c6]; congr 2; omega, rfl⟩))
                clear hmj haj HLi hr6 f6 c6 e9 MJ AJ WJ CJ
                go_wp2_with fail
                refine HLl.out.mono ?_
                rintro e wa ⟨va, rfl, ra, xa⟩
                obtain ⟨Aa, ca, rfl, ia, hbig⟩ := row_at (zs := upN n) ra
                rw [upN_len] at hbig
                rw [upN_len]
                have IA := Lib.hid ia
                have XA := Lib.hid xa
                clear ra ia xa HLl
                go_wp2_with fail
                refine (HAw.out _).mono ?_
                rintro e wb ⟨rfl, xb⟩
                have XB := Lib.hid (XA.out.trans xb)
                obtain ⟨ad, hAd, _, hcc⟩ := (IA.out.ext xb) (by rw [upN_len]; omega)
                have p0 := hcc 0 (by rw [upN_len]; omega)
                rw [upN_at (by omega)] at p0
                replace p0 : wb.cell? (ad.add 0) = some (.int .i64 0) := p0
                have p1 : wb.cell? ad = some (.int .i64 0) := p0
                subst hAd
                clear hcc xb
                have dnn : ((n : Int) == (n : Int)) = true := by simp
                have dnl : decide (0 < n) = true := by simp; omega
                go_wp2_with fail
                refine (HDq.out _ XB.out).mono ?_
                rintro e w' ⟨rfl, rfl⟩
                go_wp2_with fail
                refine (HCk.out _ XB.out).mono ?_
                rintro e w' ⟨rfl, rfl⟩
                go_wp2_with fail
                go_ret
                exact ⟨rfl, (X3.out.trans XQ.out).trans XB.out⟩
    · by_cases i0 : th < 0
      · have i1 : decide (th < 0) = true := by simp; omega
        clear hin
        go_wp2_with fail
        refine (awake9_ok _).mono ?_
        rintro e w5 ⟨rfl, x5⟩
        have X5 := Lib.hid (X4.out.trans x5)
        clear x5
        go_wp2_with fail
        go_ret
        exact ⟨rfl, X5.out⟩
      · have i1 : decide (th < 0) = false := by simp; omega
        have i2 : decide ((t : Int) ≤ th) = true := by simp; omega
        clear hin
        go_wp2_with fail
        refine (awake9_ok _).mono ?_
        rintro e w5 ⟨rfl, x5⟩
        have X5 := Lib.hid (X4.out.trans x5)
        clear x5
        go_wp2_with fail
        go_ret
        exact ⟨rfl, X5.out⟩
set_option maxRecDepth 100000 in
set_option maxHeartbeats 4000000 in
theorem freeAlone_no (w : World) (t s l b many th : Int) (hg : ¬ GrOk t s l b) :
    Calls Try.prog 3 #[.agg #[.int .i64 t, .int .i64 s, .int .i64 l, .int .i64 b], .int .i64 many, .int .i64 th] w fun e w' => e = .returned (.bool true) ∧ Ext w w' := by
  have X0 := Lib.hid ((Ext.refl w).alloc (.cells #[.int .i64 t, .int .i64 s, .int .i64 l, .int .i64 b] 23))
  have HY := Lib.hid (fun W => few9_no t s l b W hg)
  clear hg
  go_enter Try.func3, Try.ntmps3
  go_wp2_with fail
  refine (HY.out _).mono ?_
  rintro e w1 ⟨rfl, x1⟩
  have X1 := Lib.hid (X0.out.trans x1)
  clear x1
  go_wp2_with fail
  refine (awake9_ok _).mono ?_
  rintro e w2 ⟨rfl, x2⟩
  have X2 := Lib.hid (X1.out.trans x2)
  clear x2
  go_wp2_with fail
  go_ret
  exact ⟨rfl, X2.out⟩
theorem freeAlone_walk (w : World) (t s l b many th : Int) (hth : -9223372036854775808 ≤ th ∧ th < 9223372036854775808) :
    Calls Try.prog 3 #[.agg #[.int .i64 t, .int .i64 s, .int .i64 l, .int .i64 b], .int .i64 many, .int .i64 th] w fun e w' => e = .returned (.bool true) ∧ Ext w w' := by
  by_cases hg : GrOk t s l b
  · obtain ⟨⟨q0, q1⟩, ⟨q2, q3⟩, ⟨q4, q5⟩, q6, q7⟩ := id hg.1
    obtain ⟨t', rfl⟩ := Int.eq_ofNat_of_zero_le (show 0 ≤ t by omega)
    obtain ⟨s', rfl⟩ := Int.eq_ofNat_of_zero_le (show 0 ≤ s by omega)
    obtain ⟨l', rfl⟩ := Int.eq_ofNat_of_zero_le (show 0 ≤ l by omega)
    obtain ⟨b', rfl⟩ := Int.eq_ofNat_of_zero_le (show 0 ≤ b by omega)
    exact freeAlone_yes w t' s' l' b' many th hth hg
  · exact freeAlone_no w t s l b many th hg

namespace freeAlone
set_option maxRecDepth 100000 in
theorem lifted (os : Os) (started : os.Started) (H : Type) (enc : TypeId × Value → H) :
    ReturnsInHanded {} Try.checked os 3 .any (Rows.freeAloneSpec.pre6 enc Try.prog Try.f3 Rows.freeAloneRow.domain false) (Rows.freeAloneSpec.post enc Try.prog Try.f3 false true false false) := by
  refine returnsInHanded_of_change (C := Try.checked) own started (by kernel_rfl) Try.func3
    (ChangeSpec.witness6 (enc := enc) (C := Try.checked) false ⟨#[], #[.agg #[.int .i64 0, .int .i64 0, .int .i64 0, .int .i64 0], .int .i64 0, .int .i64 0], []⟩ 8 (by kernel_rfl) (by kernel_rfl) (by kernel_rfl) (by kernel_rfl)) ?_
  intro W base args ds gs before hval0 hW hcnd _
  have hval : ∀ (j : Nat) t v, Try.f3.params[j]? = some t → args[j]? = some v → Value.okWide Try.prog W .any base t v := hval0
  have hW' := hW
  obtain ⟨p, q, hA0, hV, rfl, hfz, hnd⟩ := hW
  have hA : DataW.TrodAll enc Try.prog W 0 (fun _ => true) true Try.f3.params.toList args.toList ds p := hA0
  have hlt : ∀ x ∈ p ++ q, x.block < W.heap.size := fun x hx => hW'.lt x hx
  rw [Try.params3] at hA hval
  have hB := hA
  obtain ⟨v0, vs0, d0, ds0, p0, q0, hargs, rfl, rfl, h0, r0⟩ := trodAll_cons hB
  obtain ⟨v1, vs1, d1, ds1, p1, q1, rfl, rfl, rfl, h1, r1⟩ := trodAll_cons r0
  obtain ⟨v2, vs2, d2, ds2, p2, q2, rfl, rfl, rfl, h2, r2⟩ := trodAll_cons r1
  obtain ⟨rfl, rfl, rfl⟩ := trodAll_nil r2
  obtain rfl : args = #[v0, v1, v2] := by cases args; simp_all
  obtain ⟨rfl, rfl⟩ := trodVars_none hV
  obtain ⟨x0t, x0s, x0l, x0b, rfl, ok0⟩ := view_cfg Try.underlying23 (by kernel_rfl) (by kernel_rfl) Try.underlying3 Try.underlying3 Try.underlying3 Try.underlying3 (hval 0 23 v0 rfl rfl) h0
  obtain ⟨a1, rfl, rfl, rfl, w1⟩ := open_int Try.underlying3 (hval 1 3 v1 rfl rfl) h1
  obtain ⟨a2, rfl, rfl, rfl, w2⟩ := open_int Try.underlying3 (hval 2 3 v2 rfl rfl) h2
  clear hA0 hval0
  refine (freeAlone_walk W x0t x0s x0l x0b a1 a2 (wf_i64 w2)).mono fun e W' ⟨he, hx⟩ => ?_
  subst he
  exact ⟨_, rfl, post_ext (pv := []) hW' (fun _ _ _ => (trodAll_cons_mk (shut_bool Try.underlying4 _) trodAll_mk0)) (fun sp hsp => trodAll_stays laid hx _ _ _ _ (readable_of (by kernel_rfl)) hA (fun x hx => hlt x (by first | (simp at hx ⊢; exact hx) | simp at hx)) (fun x hx => hsp x (by first | (simp at hx ⊢; exact hx) | simp at hx))) (fun _ _ => rfl) rfl hx (ok_one (by kernel_rfl) rfl (okWide_bool_mk Try.underlying4 _))⟩

theorem over : Rows.freeAloneRow.holds Try.pinned (OpenSpec.ofChange Rows.freeAloneSpec) :=
  OpenClaim.holds_of_wide 3 Try.f3 rfl rfl rfl rfl rfl rfl rfl ⟨rfl, rfl, rfl, rfl, rfl⟩ rfl rfl rfl rfl rfl (by kernel_rfl) Try.func3 (by kernel_rfl)
    (of_decide_eq_true (by kernel_rfl)) (by unfold Func.isWrapper; first | (rw [if_pos (by decide +kernel)]; kernel_rfl) | (rw [if_neg (by decide +kernel)]; exact ⟨rfl, rfl⟩))
    (fun os started H enc _ => lifted os started H enc)
end freeAlone

theorem freeAlone_holds : Rows.FreeAloneSaid := freeAlone.over
#print axioms freeAlone_holds
end Go.Proofs.Ytfbobdkfibhcnaa
